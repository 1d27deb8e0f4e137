/-
  Contracts for the walks, several texts in one: each part says what it proves, and under which conditions.
-/
import Derived.Lib.Strings
import Derived.Lib.IndexLaws
import Derived.WalkSpells
import Derived.Shelf.LaysM
import Derived.Shelf.Strconv.Clone
import Derived.Shelf.Strings.Search1
import Derived.Test.YtkkhnldhipfneaaProg
import Derived.Deep.RegionHeld
import Derived.Shelf.Small.Bits
import Derived.Shelf.Strconv.Itoa0
import Derived.Shelf.Strings.Search2
import Derived.Shelf.Strings.Cut
import Derived.Shelf.Strings.Shaped
import Derived.Shelf.Sort.Plain
import Derived.Shelf.Slices.Reverse
import Derived.Shelf.Slices.CompactS
import Derived.Shelf.Slices.Cells
import Derived.Shelf.Slices.In.SortNone
import Derived.Laws.CopyOwn
import Derived.Test.YtkkhnldhipfneaaQ1
import Derived.Test.YtkkhnldhipfneaaQ3

/-! Copies of needs and commands, and of rows of them, in memory of their own, as the law makes them: contracts for the walks; condition: what is copied holds at most 2 to the 20. -/
namespace Go.Proofs.Ytkkhnldhipfneaa
open Go.RowKit
set_option linter.unusedSimpArgs false
set_option linter.unusedVariables false

theorem owns_sliceP {w : World} {lo : Nat} {e : TypeId} {sz n : Nat} {v : Value} {xs : List Value} (hg : w.ownsRow lo e sz v n xs) : ∃ q cap, v = .slice q n cap := by
  rcases hg.2 with ⟨h1, h2⟩ | ⟨g, cap, cur, h1, _⟩
  · exact ⟨none, 0, by rw [h1, h2]⟩
  · exact ⟨_, _, h1⟩
theorem StrsOwn.slice {S : Nat → Prop} {w : World} {u : Value} {ss : List ByteArray} (h : StrsOwn S w u ss) : ∃ q cap, u = .slice q ss.length cap := owns_sliceP h.1
theorem RowOwn.slice {α : Type} {sh : Sh α} {t : TypeId} {S : Nat → Prop} {w : World} {v : Value} {xs : List α} (h : RowOwn sh t S w v xs) : ∃ q cap, v = .slice q xs.length cap := by
  obtain ⟨_, ys, h1, _⟩ := h; exact owns_sliceP h1

set_option maxHeartbeats 2000000 in
set_option maxRecDepth 100000 in
theorem infoNeed : (Try.prog.info? 125).map (fun i => (i.zero, i.size, i.bytes)) = some (some (.agg #[.string ⟨#[]⟩, .string ⟨#[]⟩]), 2, 32) := by kernel_rfl
set_option maxHeartbeats 2000000 in
set_option maxRecDepth 100000 in
theorem infoCmd : (Try.prog.info? 114).map (fun i => (i.zero, i.size, i.bytes)) = some (some (.agg #[.string ⟨#[]⟩, .slice none 0 0]), 2, 40) := by kernel_rfl
end Go.Proofs.Ytkkhnldhipfneaa

/-! Copies in memory of their own, as the law makes them: contracts for the walks; condition: what is copied holds at most 2 to the 20. -/
namespace Go.Proofs.Ytkkhnldhipfneaa
open Go.RowKit
set_option linter.unusedSimpArgs false
set_option linter.unusedVariables false

end Go.Proofs.Ytkkhnldhipfneaa

/-! What a text falls into between the bytes c, and what the specification's Split answers: just that list; conditions: the text has at most 2 to the 20 bytes and a few more. -/
namespace Go.Proofs.Ytkkhnldhipfneaa
open Go.RowKit
set_option linter.unusedSimpArgs false
set_option linter.unusedVariables false

/-- The pieces behind place i, the piece at hand having begun at place b. -/
def splitGo (s : ByteArray) (c : Int) : Nat → Nat → Nat → List ByteArray
  | 0, _, b => [s.extract b s.size]
  | f + 1, i, b => if ((s.data[i]!).toNat : Int) = c then s.extract b i :: splitGo s c f (i + 1) (i + 1) else splitGo s c f (i + 1) b
def splitS (s : ByteArray) (c : Int) : List ByteArray := splitGo s c s.size 0 0

theorem splitGo_hit (s : ByteArray) (c : Int) (i b : Nat) (hi : i < s.size) (h : ((s.data[i]!).toNat : Int) = c) : splitGo s c (s.size - i) i b = s.extract b i :: splitGo s c (s.size - (i + 1)) (i + 1) (i + 1) := by
  obtain ⟨f, hf⟩ : ∃ f, s.size - i = f + 1 := ⟨s.size - i - 1, by omega⟩
  rw [hf, splitGo, if_pos h, show s.size - (i + 1) = f by omega]
theorem splitGo_miss (s : ByteArray) (c : Int) (i b : Nat) (hi : i < s.size) (h : ¬ ((s.data[i]!).toNat : Int) = c) : splitGo s c (s.size - i) i b = splitGo s c (s.size - (i + 1)) (i + 1) b := by
  obtain ⟨f, hf⟩ : ∃ f, s.size - i = f + 1 := ⟨s.size - i - 1, by omega⟩
  rw [hf, splitGo, if_neg h, show s.size - (i + 1) = f by omega]
theorem splitGo_end (s : ByteArray) (c : Int) (b : Nat) : splitGo s c (s.size - s.size) s.size b = [s.extract b s.size] := by
  rw [Nat.sub_self, splitGo]

theorem strs_append (xs ys : List ByteArray) : strsV xs ++ strsV ys = strsV (xs ++ ys) := by simp [strsV]

set_option maxHeartbeats 2000000 in
set_option maxRecDepth 100000 in
theorem specSplit_c (s : ByteArray) (c : Int) (w : World) (hs : s.size ≤ 1048576) :
    Calls Try.prog 46 #[.string s, .int .u8 c] w fun e w' => ∃ v, e = .returned v ∧ w'.ownsRow w.heap.size 9 1 v (splitS s c).length (strsV (splitS s c)) ∧ Below w.heap.size w w' := by
  obtain ⟨i0, hi, hz0, hz1, hz2⟩ := info_parts infoS
  have ho : (w.alloc (.cells #[] 9)).ownsRow w.heap.size 9 1 (.slice (some ⟨w.heap.size, 0, none⟩) 0 0) 0 [] := World.ownsRow_lit w #[] 0 (Nat.le_refl _) (by unfold maxLen; omega) rfl
  go_enter Try.func46, Try.ntmps46
  go_wp2
  go_loopw [5, 6, 7] (fun vo vb vi wr => ∃ (i b : Nat) (xs : List ByteArray), vi = .int .i64 (i : Int) ∧ vb = .int .i64 (b : Int) ∧ i ≤ s.size + 1 ∧ b ≤ i ∧ xs.length ≤ i ∧ wr.ownsRow w.heap.size 9 1 vo xs.length (strsV xs) ∧ Hid ((i ≤ s.size ∧ xs ++ splitGo s c (s.size - i) i b = splitS s c) ∨ (i = s.size + 1 ∧ xs = splitS s c)) ∧ Below w.heap.size w wr) (fun _ _ vi _ => s.size + 1 - (intOf vi).toNat)
  case atStart => exact ⟨0, 0, [], rfl, rfl, by omega, by omega, by simp, ho, .inl ⟨by omega, rfl⟩, (Below.refl _ _).alloc (Nat.le_refl _) _⟩
  case round =>
    obtain ⟨i, b, xs, rfl, rfl, hi1, hbi, hxl, hown, hh, hbr⟩ := hrel
    clear ho
    by_cases hle : i ≤ s.size
    · have hh1 : xs ++ splitGo s c (s.size - i) i b = splitS s c := by
        rcases hh.out with h | h
        · exact h.2
        · omega
      have HH : Hid (xs ++ splitGo s c (s.size - i) i b = splitS s c) := hh1
      have hlei : (i : Int) ≤ (s.size : Int) := by omega
      clear hh hh1
      by_cases heq : i = s.size
      · subst heq
        have heq' : ((s.size : Int) == (s.size : Int)) = true := by simp
        go_wp2_with (at_builtin; refine wpList_append_own _ rfl _ _ 26 rfl w.heap.size 9 i0 (.string ⟨#[]⟩) 1 16 Try.underlying26 hi hz0 hz1 hz2 rfl (by decide) _ xs.length (strsV xs) rfl (hown.alloc _) ⟨wr.heap.size, 0, none⟩ 1 1 (strsV [s.extract b s.size]) rfl rfl (cell_one_new _ _ _) (fun u hu => by simp [strsV] at hu; subst hu; rfl) (by unfold maxLen; omega) (by omega) (by have := hbr.size; simp; omega) ?_)
        intro v2 w2 o2 gr2 _
        rw [strs_append] at o2
        have hb2 : Below w.heap.size w w2 := Below.grown (hbr.alloc hbr.size _) gr2 (by have := hbr.size; simp; omega) (fun j hj => (hown.lt _ hj).1)
        have HT : Hid (xs ++ [s.extract b s.size] = splitS s c) := by have := HH.out; rw [splitGo_end] at this; exact this
        have hl2 : (xs ++ [s.extract b s.size]).length = xs.length + 1 := by simp
        rw [← hl2] at o2
        clear gr2 hown hbr hl2
        go_wp2
        go_roundw
        case rel => exact ⟨s.size + 1, s.size + 1, _, by go_num, by go_num, by omega, by omega, (by simp; omega), o2, .inr ⟨rfl, HT.out⟩, hb2⟩
        case measure => simp [intOf]
      · have hlt : i < s.size := by omega
        have heq' : ((i : Int) == (s.size : Int)) = false := by rw [beq_eq_false_iff_ne]; omega
        have hbang := byteBang s i hlt
        cases hc : (((s[i]).toNat : Int) == c) with
        | true =>
          have HT : Hid ((xs ++ [s.extract b i]) ++ splitGo s c (s.size - (i + 1)) (i + 1) (i + 1) = splitS s c) := by
            have := HH.out
            rw [splitGo_hit s c i b hlt (by rw [hbang]; simpa using hc)] at this
            show _ = _
            rw [List.append_assoc]; exact this
          clear hbang
          go_wp2_with (at_builtin; refine wpList_append_own _ rfl _ _ 26 rfl w.heap.size 9 i0 (.string ⟨#[]⟩) 1 16 Try.underlying26 hi hz0 hz1 hz2 rfl (by decide) _ xs.length (strsV xs) rfl (hown.alloc _) ⟨wr.heap.size, 0, none⟩ 1 1 (strsV [s.extract b i]) rfl rfl (cell_one_new _ _ _) (fun u hu => by simp [strsV] at hu; subst hu; rfl) (by unfold maxLen; omega) (by omega) (by have := hbr.size; simp; omega) ?_)
          intro v2 w2 o2 gr2 _
          rw [strs_append] at o2
          have hb2 : Below w.heap.size w w2 := Below.grown (hbr.alloc hbr.size _) gr2 (by have := hbr.size; simp; omega) (fun j hj => (hown.lt _ hj).1)
          have hl2 : (xs ++ [s.extract b i]).length = xs.length + 1 := by simp
          rw [← hl2] at o2
          clear gr2 hown hbr hl2
          go_wp2
          go_roundw
          case rel => exact ⟨i + 1, i + 1, _, by go_num, by go_num, by omega, by omega, (by simp; omega), o2, .inl ⟨by omega, HT.out⟩, hb2⟩
          case measure => simp [intOf]; omega
        | false =>
          have HT : Hid (xs ++ splitGo s c (s.size - (i + 1)) (i + 1) b = splitS s c) := by
            have := HH.out
            rw [splitGo_miss s c i b hlt (by rw [hbang]; simpa using hc)] at this
            exact this
          clear hbang
          go_wp2
          go_roundw
          case rel => exact ⟨i + 1, b, xs, by go_num, rfl, by omega, by omega, by omega, hown, .inl ⟨by omega, HT.out⟩, hbr⟩
          case measure => simp [intOf]; omega
    · have hlei : ¬ (i : Int) ≤ (s.size : Int) := by omega
      have e : xs = splitS s c := by
        rcases hh.out with h | h
        · omega
        · exact h.2
      go_wp2
      go_ret
      rw [← e]
      exact ⟨_, rfl, hown, hbr⟩
end Go.Proofs.Ytkkhnldhipfneaa

/-! Contracts of two functions of the library (the first place of a byte in a text; a copy of a text), taken over from the library of contracts at the numbers of this program; conditions as each says. -/
namespace Go.Proofs
open Go.Shelf
def Try.laysM316_ren : Go.Shelf.Ren := ⟨fun | 316 => 89 | n => n, fun | 9 => 9 | 3 => 3 | 4 => 4 | 37 => 22 | 0 => 0 | 127 => 123 | 5 => 5 | n => n, fun | n => n⟩
theorem Try.laysM316 : Go.Proofs.LaysM.n316 Try.prog Try.laysM316_ren := {
  mixed := by kernel_rfl
  f316 := Try.func89.trans (congrArg some (by kernel_rfl))
  t0 := Try.underlying0
  a0 := Try.isAgg0
  z0 := Try.sizeOf0
  v0 := Try.zeroValue0
  t3 := Try.underlying3
  a3 := Try.isAgg3
  z3 := Try.sizeOf3
  v3 := Try.zeroValue3
  t4 := Try.underlying4
  a4 := Try.isAgg4
  z4 := Try.sizeOf4
  v4 := Try.zeroValue4
  t9 := Try.underlying9
  a9 := Try.isAgg9
  z9 := Try.sizeOf9
  v9 := Try.zeroValue9
  t37 := Try.underlying22
  a37 := Try.isAgg22
  z37 := Try.sizeOf22
  v37 := Try.zeroValue22
  t127 := Try.underlying123
  a127 := Try.isAgg123
  z127 := Try.sizeOf123
  v127 := Try.zeroValue123
  t5 := Try.underlying5
  a5 := Try.isAgg5
  z5 := Try.sizeOf5
  v5 := Try.zeroValue5
  i0 := by kernel_rfl
  i3 := by kernel_rfl
  i4 := by kernel_rfl
  i5 := by kernel_rfl
  i9 := by kernel_rfl
  i37 := by kernel_rfl
  i127 := by kernel_rfl }
open Go.RowKit in
theorem Try.stringslite_Clone (s : ByteArray) (w : World) (hlim : s.size ≤ 281474976710656) :
    Calls Try.prog 89 #[.string s] w fun e w' => e = .returned (.string s) ∧ Below w.heap.size w w' := Any.stringslite_Clone Try.laysM316 s w hlim
def Try.lays217_ren : Go.Shelf.Ren := ⟨fun | 217 => 119 | 266 => 129 | n => n, fun | 9 => 9 | 5 => 5 | 3 => 3 | n => n, fun | n => n⟩
theorem Try.lays217 : Go.Proofs.Lays.n217 Try.prog Try.lays217_ren := {
  mixed := by kernel_rfl
  f217 := Try.func119.trans (congrArg some (by kernel_rfl))
  f266 := Try.func129.trans (congrArg some (by kernel_rfl))
  t3 := Try.underlying3
  a3 := Try.isAgg3
  z3 := Try.sizeOf3
  v3 := Try.zeroValue3
  t5 := Try.underlying5
  a5 := Try.isAgg5
  z5 := Try.sizeOf5
  v5 := Try.zeroValue5
  t9 := Try.underlying9
  a9 := Try.isAgg9
  z9 := Try.sizeOf9
  v9 := Try.zeroValue9 }
open Go.RowKit Go.Lib in
theorem Try.stringslite_IndexByte (s : ByteArray) (c : Int) (w : World) :
    Calls Try.prog 119 #[.string s, .int .u8 c] w fun e w' => e = .returned (.int .i64 (Lib.indexByte s.data.toList c.toNat.toUInt8)) ∧ w' = w := Any.stringslite_IndexByte Try.lays217 s c w
end Go.Proofs

/-! What the program's Split answers: the same list as the specification's, in memory of its own; condition: the text has at most 2 to the 20 bytes. -/
namespace Go.Proofs.Ytkkhnldhipfneaa
open Go.RowKit
set_option linter.unusedSimpArgs false
set_option linter.unusedVariables false

theorem split_none (s : ByteArray) (c : Int) (b : Nat) : ∀ (n i : Nat), n = s.size - i → i ≤ s.size → (∀ j, i ≤ j → j < s.size → ¬ ((s.data[j]!).toNat : Int) = c) → splitGo s c (s.size - i) i b = [s.extract b s.size]
  | 0, i, hn, hi, h => by
    have : i = s.size := by omega
    subst this
    exact splitGo_end s c b
  | n + 1, i, hn, hi, h => by
    rw [splitGo_miss s c i b (by omega) (h i (Nat.le_refl _) (by omega))]
    exact split_none s c b n (i + 1) (by omega) (by omega) (fun j h1 h2 => h j (by omega) h2)
theorem split_some (s : ByteArray) (c : Int) (b j : Nat) (hj : j < s.size) (hc : ((s.data[j]!).toNat : Int) = c) : ∀ (n i : Nat), n = j - i → i ≤ j → (∀ k, i ≤ k → k < j → ¬ ((s.data[k]!).toNat : Int) = c) → splitGo s c (s.size - i) i b = s.extract b j :: splitGo s c (s.size - (j + 1)) (j + 1) (j + 1)
  | 0, i, hn, hi, h => by
    have : i = j := by omega
    subst this
    exact splitGo_hit s c i b hj hc
  | n + 1, i, hn, hi, h => by
    rw [splitGo_miss s c i b (by omega) (h i (Nat.le_refl _) (by omega))]
    exact split_some s c b j hj hc n (i + 1) (by omega) (by omega) (fun k h1 h2 => h k (by omega) h2)

def strSize : Value → Nat | .string s => s.size | _ => 0

theorem ext_list {a b : ByteArray} (h : a.data.toList = b.data.toList) : a = b := ByteArray.ext (Array.toList_inj.1 h)
theorem extract_list (s : ByteArray) (a b : Nat) : (s.extract a b).data.toList = (s.data.toList.drop a).take (b - a) := Lib.extract_data s a b
theorem len_list (s : ByteArray) : s.data.toList.length = s.size := by rw [Array.length_toList]; rfl
theorem size_tail (s : ByteArray) (b : Nat) (h : b ≤ s.size) : (s.extract b s.size).size = s.size - b := by
  rw [← len_list, extract_list, List.length_take, List.length_drop, len_list]; omega
theorem tail_list (s : ByteArray) (b : Nat) : (s.extract b s.size).data.toList = s.data.toList.drop b := by
  rw [extract_list, List.take_of_length_le (by rw [List.length_drop, len_list]; omega)]
theorem tail_head (s : ByteArray) (b k : Nat) : (s.extract b s.size).extract 0 k = s.extract b (b + k) := by
  apply ext_list
  rw [extract_list, tail_list, extract_list]
  simp
theorem tail_tail (s : ByteArray) (b k : Nat) : (s.extract b s.size).extract k (s.extract b s.size).size = s.extract (b + k) s.size := by
  apply ext_list
  rw [tail_list, tail_list, tail_list, List.drop_drop]

theorem bang_list (s : ByteArray) (j : Nat) (h : j < s.size) : s.data.toList[j]? = some (s.data[j]!) := by
  rw [byteBang s j h, List.getElem?_eq_getElem (by rw [len_list]; exact h)]
  rfl

/-- What the search for the byte says of the text behind place b. -/
theorem search (s : ByteArray) (c : Int) (b : Nat) (hb : b ≤ s.size) (h0 : 0 ≤ c) (h1 : c ≤ 255) :
    (Lib.indexByte (s.extract b s.size).data.toList c.toNat.toUInt8 = -1 ∧ splitGo s c (s.size - b) b b = [s.extract b s.size]) ∨
    ∃ k : Nat, Lib.indexByte (s.extract b s.size).data.toList c.toNat.toUInt8 = (k : Int) ∧ b + k < s.size ∧ splitGo s c (s.size - b) b b = s.extract b (b + k) :: splitGo s c (s.size - (b + k + 1)) (b + k + 1) (b + k + 1) := by
  have hcn : ∀ u : UInt8, (u.toNat : Int) = c ↔ u = c.toNat.toUInt8 := fun u => by
    have hu := u.toNat_lt
    constructor
    · intro e
      have : u.toNat = c.toNat := by omega
      rw [← this]; simp
    · intro e
      subst e
      simp [UInt8.toNat_ofNat']
      omega
  rw [tail_list]
  have hge := Lib.indexByte_ge (s.data.toList.drop b) c.toNat.toUInt8
  by_cases hm : Lib.indexByte (s.data.toList.drop b) c.toNat.toUInt8 = -1
  · refine .inl ⟨hm, split_none s c b _ b rfl hb (fun j h1 h2 e => ?_)⟩
    have := Lib.indexByte_none hm (j - b)
    rw [List.getElem?_drop, show b + (j - b) = j by omega, bang_list s j h2] at this
    exact this (by rw [(hcn _).1 e])
  · obtain ⟨k, hk⟩ := Int.eq_ofNat_of_zero_le (show 0 ≤ Lib.indexByte (s.data.toList.drop b) c.toNat.toUInt8 by omega)
    obtain ⟨hh, hbef⟩ := Lib.indexByte_some hk
    rw [List.getElem?_drop] at hh
    have hlt : b + k < s.size := by
      rw [← len_list]
      exact (List.getElem?_eq_some_iff.1 hh).1
    refine .inr ⟨k, hk, hlt, split_some s c b (b + k) hlt ?_ _ b rfl (by omega) (fun j h1 h2 e => ?_)⟩
    · rw [bang_list s _ hlt] at hh
      exact (hcn _).2 (by simpa using hh)
    · have := hbef (j - b) (by omega)
      rw [List.getElem?_drop, show b + (j - b) = j by omega, bang_list s j (by omega)] at this
      exact this (by rw [(hcn _).1 e])

set_option maxHeartbeats 1000000 in
theorem clone_c (s : ByteArray) (w : World) (h : s.size ≤ 1048576) : Calls Try.prog 50 #[.string s] w fun e w' => e = .returned (.string s) ∧ Below w.heap.size w w' := by
  go_enter Try.func50, Try.ntmps50
  go_wp2_with (go_at_call 89; refine (Try.stringslite_Clone s _ (by omega)).mono ?_; rintro e w1 ⟨rfl, b1⟩)
  go_ret
  exact ⟨rfl, b1⟩

end Go.Proofs.Ytkkhnldhipfneaa

/-! Copies of versions, needs and entries, as the program makes them: contracts for the walks; conditions: they lie in memory, and hold at most 2 to the 20. -/
namespace Go.Proofs.Ytkkhnldhipfneaa
open Go.RowKit
set_option linter.unusedSimpArgs false
set_option linter.unusedVariables false

/-- A block of another type than a row's is not the row's. -/
theorem row_box {w : World} {lo sz n g : Nat} {e t : TypeId} {v : Value} {xs : List Value} {cs : Array Value} {fz : Nat × Nat} (h : w.ownsRow lo e sz v n xs) (hb : w.heap[g]? = some (.cells cs t fz)) (hne : e ≠ t) : v.ownBlock ≠ some g := fun he => by
  rcases h.2 with ⟨rfl, _⟩ | ⟨g', cap, cur, rfl, _, hg, _⟩
  · simp [Value.ownBlock] at he
  · simp [Value.ownBlock] at he
    subst he
    rw [hg] at hb
    simp at hb
    exact hne hb.2.1
theorem box_grown {w w' : World} {row : Option Nat} {g : Nat} {o : Obj} (hb : w.heap[g]? = some o) (hg : w.grownBy w' row) (hne : row ≠ some g) : w'.heap[g]? = some o :=
  (hg.block g (Array.getElem?_eq_some_iff.1 hb).1 (fun e => hne e.symm)).trans hb
theorem box_below {w w' : World} {g : Nat} {o : Obj} (hb : w.heap[g]? = some o) (h : Below w.heap.size w w') : w'.heap[g]? = some o :=
  (h.block g (Array.getElem?_eq_some_iff.1 hb).1).trans hb
theorem row_put {w : World} {lo sz n g j : Nat} {e t : TypeId} {v x : Value} {xs : List Value} {cs : Array Value} {fz : Nat × Nat} (h : w.ownsRow lo e sz v n xs) (hb : w.heap[g]? = some (.cells cs t fz)) (hne : e ≠ t) : (w.setCell ⟨g, j, none⟩ x).ownsRow lo e sz v n xs :=
  owns_kept (S := fun b => b ≠ g) (Kp.set (by simp)) (fun b hb' => by rintro rfl; exact row_box h hb hne hb') h
theorem List.single_le_sum_natC {ss : List ByteArray} {t : ByteArray} (h : t ∈ ss) : t.size ≤ (ss.map ByteArray.size).sum := by
  induction ss with
  | nil => simp at h
  | cons a l ih =>
    simp only [List.map_cons, List.sum_cons]
    rcases List.mem_cons.1 h with rfl | h
    · omega
    · have := ih h; omega
theorem two_boxes {w : World} (A R : Obj) : ((w.alloc A).alloc R).heap[w.heap.size]? = some A ∧ ((w.alloc A).alloc R).heap[w.heap.size + 1]? = some R := by
  have s1 : (w.alloc A).heap.size = w.heap.size + 1 := by simp
  refine ⟨?_, ?_⟩
  · rw [vheap_old _ _ (by simp), vheap_new]
  · rw [← s1, vheap_new]

end Go.Proofs.Ytkkhnldhipfneaa

/-! The graph of packs, as the program makes it: a contract for the walks; conditions: the packs lie in memory, and hold at most 2 to the 20. -/
namespace Go.Proofs.Ytkkhnldhipfneaa
open Go.RowKit Go.Maps
set_option linter.unusedSimpArgs false
set_option linter.unusedVariables false

/-- Packs as names and what they use. -/
def plOf (xs : List PackD) : PL := xs.map fun d => (d.name, d.uses)
theorem plOf_take (xs : List PackD) (k : Nat) : plOf (xs.take k) = (plOf xs).take k := by unfold plOf; rw [List.map_take]
theorem plOf_names (xs : List PackD) : (plOf xs).map (·.1) = xs.map (·.name) := by unfold plOf; rw [List.map_map]; rfl
theorem GrM.below {lo : Nat} {w w' : World} {p own : Nat} {g : GD} (h : GrM lo w p own g) (hb : Below w.heap.size w w') : GrM lo w' p own g := by
  obtain ⟨mb, vn, vu, vb, us, bs, hbox, hp, C⟩ := h
  exact ⟨mb, vn, vu, vb, us, bs, (hb.block p (Array.getElem?_eq_some_iff.1 hbox).1).trans hbox, hp, C.new (r := none) (grown_of_below hb none) (fun q e => by cases e)⟩
theorem GrM.lo {lo : Nat} {w : World} {p own : Nat} {g : GD} (h : GrM lo w p own g) : lo ≤ w.heap.size := by
  obtain ⟨_, _, _, _, _, _, hb, hp, _⟩ := h
  have := (Array.getElem?_eq_some_iff.1 hb).1
  omega
theorem GrC.low {lo mb q : Nat} {w w' : World} {vn vu vb : Value} {us bs : List Value} {M N : List ByteArray} {U B : List (List Nat)} {xa xb : Nat → Prop} (h : GrC lo w mb vn vu vb us bs M N U B xa xb) (hg : w.grownBy w' (some q)) (hq : q < lo) : GrC lo w' mb vn vu vb us bs M N U B xa xb := by
  have hr : ∀ {sz n : Nat} {e : TypeId} {v : Value} {xs : List Value}, w.ownsRow lo e sz v n xs → v.ownBlock = none ∨ v.ownBlock ≠ some q := fun hv => .inr fun e => by have := (hv.lt q e).1; omega
  exact h.kept hg (fun e => by have := Option.some.inj e; have := h.mlo; omega) (hr h.names) (hr h.ru) (hr h.rb) (fun i u hx hi => hr (h.eu i u hx hi)) (fun i u hx hi => hr (h.eb i u hx hi))
theorem GrC.lower {lo lo' mb : Nat} {w : World} {vn vu vb : Value} {us bs : List Value} {M N : List ByteArray} {U B : List (List Nat)} {xa xb : Nat → Prop} (h : GrC lo w mb vn vu vb us bs M N U B xa xb) (hl : lo' ≤ lo) : GrC lo' w mb vn vu vb us bs M N U B xa xb :=
  ⟨h.map, Nat.le_trans hl h.mlo, owns_lo hl h.names, owns_lo hl h.ru, owns_lo hl h.rb, fun i u hx hi => owns_lo hl (h.eu i u hx hi), fun i u hx hi => owns_lo hl (h.eb i u hx hi), h.vv, h.ap, h.ltu, h.ltb⟩
theorem gNames_len (ns : List ByteArray) : (gNames ns).N.length ≤ ns.length := by
  rcases (gNames_ok ns).2.2.1 with h | h
  · rw [h]; exact Nat.le_refl _
  · omega
theorem gNames_take (ns : List ByteArray) (k : Nat) (h : k < ns.length) : gNames (ns.take (k + 1)) = (gNames (ns.take k)).add ns[k] := by rw [List.take_succ_eq_append_getElem h, gNames_snoc]
theorem gUses_take (g : GD) (P : PL) (k : Nat) (h : k < P.length) : gUses g (P.take (k + 1)) = (gUses g (P.take k)).uses P[k].1 P[k].2 := by rw [List.take_succ_eq_append_getElem h, gUses_snoc]
/-- How much packs use. -/
def sumU (P : PL) : Nat := (P.map fun d => 1 + d.2.length).sum
theorem sumU_snoc (P : PL) (d : ByteArray × List ByteArray) : sumU (P ++ [d]) = sumU P + (1 + d.2.length) := by unfold sumU; simp
theorem gUses_size (g : GD) (P : PL) : (gUses g P).N.length ≤ g.N.length + sumU P ∧ ∀ i, (rowAt (gUses g P).U i).length ≤ (rowAt g.U i).length + sumU P ∧ (rowAt (gUses g P).B i).length ≤ (rowAt g.B i).length + sumU P := by
  refine rev_ind (p := fun P => (gUses g P).N.length ≤ g.N.length + sumU P ∧ ∀ i, (rowAt (gUses g P).U i).length ≤ (rowAt g.U i).length + sumU P ∧ (rowAt (gUses g P).B i).length ≤ (rowAt g.B i).length + sumU P) ⟨by simp [gUses], fun i => by simp [gUses]⟩ (fun P d ⟨h1, h2⟩ => ?_) P
  rw [gUses_snoc, sumU_snoc]
  unfold GD.uses
  have h3 := fold_use_len (posN ((gUses g P).add d.1).N d.1) d.2 ((gUses g P).add d.1)
  have h4 := GD.add_len (gUses g P) d.1
  refine ⟨by omega, fun i => ?_⟩
  have h5 := fold_use_rows (posN ((gUses g P).add d.1).N d.1) d.2 ((gUses g P).add d.1) i
  rw [(GD.add_row _ _ i).1, (GD.add_row _ _ i).2] at h5
  have h6 := h2 i
  omega
theorem sumU_take (P : PL) (k : Nat) (h : k < P.length) : sumU (P.take k) + (1 + P[k].2.length) ≤ sumU P := by
  have h1 : sumU P = sumU (P.take (k + 1)) + sumU (P.drop (k + 1)) := by unfold sumU; rw [← List.sum_append, ← List.map_append, List.take_append_drop]
  rw [List.take_succ_eq_append_getElem h, sumU_snoc] at h1
  omega
theorem sumU_wt : ∀ xs : List PackD, sumU (plOf xs) ≤ wtRow wtPack xs
  | [] => by simp [sumU, plOf, wtRow]
  | d :: xs => by
    have h1 := sumU_wt xs
    have e1 : sumU (plOf (d :: xs)) = (1 + d.uses.length) + sumU (plOf xs) := by simp [sumU, plOf]
    have e2 : wtRow wtPack (d :: xs) = (1 + wtPack d) + wtRow wtPack xs := by simp [wtRow]
    have h2 : d.uses.length ≤ wtPack d := by unfold wtPack bulkS; omega
    omega
theorem gNames_rows (ns : List ByteArray) (i : Nat) : rowAt (gNames ns).U i = [] ∧ rowAt (gNames ns).B i = [] := by
  obtain ⟨h1, _, _, h4⟩ := gNames_ok ns
  refine ⟨h4 i, ?_⟩
  refine List.eq_nil_iff_forall_not_mem.2 fun x hx => ?_
  have := h1.iff.1 hx
  rw [h4 x] at this
  cases this

set_option maxHeartbeats 8000000 in
set_option maxRecDepth 100000 in
theorem graphOf_c (S : Nat → Prop) (v : Value) (xs : List PackD) (w : World) (hv : RowIn shPack S w v xs) (hB : ∀ b, S b → b < w.heap.size) (hw : wtRow wtPack xs ≤ 1048576) :
    Calls Try.prog 35 #[v] w fun e w' => ∃ mb vn vu vb us bs, e = .returned (.agg #[.map (some mb), vn, .int .i64 (ownOf (plOf xs) : Int), vu, vb]) ∧ GrC w.heap.size w' mb vn vu vb us bs (gOf (plOf xs)).N (gOf (plOf xs)).N (gOf (plOf xs)).U (gOf (plOf xs)).B noX noX ∧ Below w.heap.size w w' := by
  have hl2 := len_wtRow wtPack xs
  have hlen : xs.length ≤ 1048576 := by omega
  have hsu := sumU_wt xs
  have hwe : ∀ d ∈ xs, d.uses.length ≤ 1048576 ∧ d.name.size ≤ 1048576 ∧ ∀ x ∈ d.uses, x.size ≤ maxLen := fun d hd => by
    have h1 := Nat.le_trans (wt_wtRow wtPack hd) hw
    unfold wtPack bulkS at h1
    refine ⟨by omega, by omega, fun x hx => ?_⟩
    have h2 : x.size ≤ (d.uses.map ByteArray.size).sum := List.single_le_sum_natC hx
    unfold maxLen
    omega
  have hPl : (plOf xs).length = xs.length := by unfold plOf; simp
  obtain ⟨hnok, hnm, _, _⟩ := gNames_ok (xs.map (·.name))
  have hnl := gNames_len (xs.map (·.name))
  rw [List.length_map] at hnl
  obtain ⟨a, cap, rfl, hl, hc, ha⟩ := hv
  unfold maxLen at hl
  obtain ⟨g1, hg1⟩ : ∃ g, g = gNames (xs.map (·.name)) := ⟨_, rfl⟩
  have HGO : Hid (gOf (plOf xs) = gUses g1 (plOf xs) ∧ ownOf (plOf xs) = g1.N.length) := by
    show _ ∧ _
    unfold gOf ownOf
    rw [plOf_names, ← hg1]
    exact ⟨rfl, rfl⟩
  rw [HGO.out.1, HGO.out.2]
  rw [← hg1] at hnok hnm hnl
  have HG1 := hidden hg1
  have hrows1 : ∀ i, rowAt g1.U i = [] ∧ rowAt g1.B i = [] := fun i => by rw [hg1]; exact gNames_rows _ i
  clear hg1 HGO
  have k1 : Below w.heap.size w (w.alloc (.cells #[.map none, .slice none 0 0, .int .i64 0, .slice none 0 0, .slice none 0 0] 63)) := (Below.refl _ _).alloc (Nat.le_refl _) _
  have HW0 : Hid (∀ W, W = ((w.alloc (.cells #[.map none, .slice none 0 0, .int .i64 0, .slice none 0 0, .slice none 0 0] 63)).alloc (.map #[] 0)).alloc (.cells #[.map (some (w.heap.size + 1)), .slice none 0 0, .int .i64 0, .slice none 0 0, .slice none 0 0] 63) → GrM (w.heap.size + 1) W (w.heap.size + 2) 0 ⟨[], [], []⟩ ∧ W.heap[w.heap.size]? = some (.cells #[.map none, .slice none 0 0, .int .i64 0, .slice none 0 0, .slice none 0 0] 63 (0, 0)) ∧ Below w.heap.size w W) := by
    intro W hW
    subst hW
    have z1 : (w.alloc (.cells #[.map none, .slice none 0 0, .int .i64 0, .slice none 0 0, .slice none 0 0] 63)).heap.size = w.heap.size + 1 := by simp
    have m0 := MapI_made (w.alloc (.cells #[.map none, .slice none 0 0, .int .i64 0, .slice none 0 0, .slice none 0 0] 63))
    rw [z1] at m0
    have z2 : ((w.alloc (.cells #[.map none, .slice none 0 0, .int .i64 0, .slice none 0 0, .slice none 0 0] 63)).alloc (.map #[] 0)).heap.size = w.heap.size + 2 := by simp
    refine ⟨⟨w.heap.size + 1, .slice none 0 0, .slice none 0 0, .slice none 0 0, [], [], ?_, by omega, ⟨⟨0, ?_⟩, by omega, World.ownsRow_nil _ _ _ _, World.ownsRow_nil _ _ _ _, World.ownsRow_nil _ _ _ _, fun i u _ h => (by simp at h), fun i u _ h => (by simp at h), fun g h => (by cases h), ⟨fun i j g u v h => (by simp at h), fun i j g u v h => (by simp at h), fun i j g u v h => (by simp at h)⟩, fun i g u h => (by simp at h), fun i g u h => (by simp at h)⟩⟩, ?_, ?_⟩
    · have := vheap_new ((w.alloc (.cells #[.map none, .slice none 0 0, .int .i64 0, .slice none 0 0, .slice none 0 0] 63)).alloc (.map #[] 0)) (.cells #[.map (some (w.heap.size + 1)), .slice none 0 0, .int .i64 0, .slice none 0 0, .slice none 0 0] 63)
      rw [z2] at this
      exact this
    · refine (m0.below ((Below.refl _ _).alloc (Nat.le_refl _) _)).same fun q => ?_
      rw [mOf_none (by simp)]
    · rw [vheap_old _ _ (by simp; omega), vheap_old _ _ (by simp), vheap_new]
    · exact ((k1.alloc (by simp) _).alloc (by simp; omega) _)
  clear k1
  have hmm := @run_makeMap Try.prog
  go_enter Try.func35, Try.ntmps35
  go_wp2_with fail
  go_loopw [12] (fun vi wr => ∃ k : Nat, k ≤ xs.length ∧ vi = .int .i64 (k : Int) ∧ Hid (GrM (w.heap.size + 1) wr (w.heap.size + 2) 0 (gNames ((xs.map (·.name)).take k))) ∧ Hid (wr.heap[w.heap.size]? = some (.cells #[.map none, .slice none 0 0, .int .i64 0, .slice none 0 0, .slice none 0 0] 63 (0, 0))) ∧ Below w.heap.size w wr) (fun vi _ => xs.length - (intOf vi).toNat)
  case atStart => exact ⟨0, Nat.zero_le _, rfl, (HW0.out _ rfl).1, (HW0.out _ rfl).2.1, (HW0.out _ rfl).2.2⟩
  case round =>
    clear HW0 hmm
    obtain ⟨k, hk, rfl, HG, HX, hbr⟩ := hrel
    by_cases hlt' : k < xs.length
    · have HT : Hid (gNames ((xs.map (·.name)).take (k + 1)) = (gNames ((xs.map (·.name)).take k)).add xs[k].name) := by
        have := gNames_take (xs.map (·.name)) k (by rw [List.length_map]; exact hlt')
        rw [List.getElem_map] at this
        exact this
      have hnk := gNames_len ((xs.map (·.name)).take k)
      have hnk2 : ((xs.map (·.name)).take k).length ≤ k := by rw [List.length_take]; omega
      have hokk := (gNames_ok ((xs.map (·.name)).take k)).1
      rcases ha with rfl | ⟨b, off, rfl, hlt, ha⟩
      · simp at hlt'
      obtain ⟨cs, hL, hcell⟩ := ha k hlt'
      have hBr : ∀ b, S b → b < wr.heap.size := fun b h => Nat.lt_of_lt_of_le (hB b h) hbr.size
      have hcell2 := hcell.keep (.of hbr hB) hlt
      replace hL := shPack.keep (.of hbr hB) hL
      obtain ⟨hw1, hw2, hw3⟩ := hwe xs[k] (List.getElem_mem hlt')
      obtain ⟨G, hG⟩ : ∃ G, G = gNames ((xs.map (·.name)).take k) := ⟨_, rfl⟩
      rw [← hG] at HG HT hnk hokk
      obtain ⟨d, hd⟩ : ∃ d, d = xs[k] := ⟨_, rfl⟩
      rw [← hd] at hL HT hw2
      obtain ⟨u0, u1, u2, rfl, _, r0, p0, r1', r2'⟩ := hL
      obtain ⟨a0, c0, eu0, _⟩ := id r0
      rw [length_strsV] at eu0
      obtain ⟨a1, c1, eu1, _⟩ := id r1'
      obtain ⟨a2, c2, eu2, _⟩ := id r2'
      subst eu0 eu1 eu2
      have e0 : wr.cell? ⟨b, off + k * 4, none⟩ = some (.string d.name) := hcell2 0 (by simp)
      have e1 : wr.cell? ⟨b, off + k * 4 + 1, none⟩ = some (.slice a0 d.uses.length c0) := hcell2 1 (by simp)
      have e2 : wr.cell? ⟨b, off + k * 4 + 2, none⟩ = some (.slice a1 d.needs.length c1) := hcell2 2 (by simp)
      have e3 : wr.cell? ⟨b, off + k * 4 + 3, none⟩ = some (.slice a2 d.cmds.length c2) := hcell2 3 (by simp)
      have hki : (k : Int) < (xs.length : Int) := by omega
      obtain ⟨t, ht⟩ : ∃ t, t = d.name := ⟨_, rfl⟩
      rw [← ht] at e0 HT hw2
      have hb0 : Below wr.heap.size wr (wr.alloc (.cells #[.string t, .slice a0 d.uses.length c0, .slice a1 d.needs.length c1, .slice a2 d.cmds.length c2] 33)) := (Below.refl _ _).alloc (Nat.le_refl _) _
      have HN := hidden (numberOf_c (w.heap.size + 1) (w.heap.size + 2) 0 G t _ (HG.out.below hb0) hokk (by unfold maxLen; omega) (by omega))
      have k0 := hbr.trans (hb0.mono hbr.size)
      have hrl : w.heap.size < wr.heap.size := (Array.getElem?_eq_some_iff.1 HX.out).1
      have HX0 := hidden ((hb0.block _ hrl).trans HX.out)
      clear ha hd ht hcell hcell2 r0 r1' r2' p0 hG HG HX hw3 hw1 hnk hnk2 hbr
      go_wp2_with (go_at_call 73; refine HN.out.mono ?_; rintro e w1 ⟨rfl, G1, b1⟩)
      have k1 : Below w.heap.size w w1 := k0.trans (b1.mono (by omega))
      have HX1 := hidden ((b1.block w.heap.size (by omega)).trans HX0.out)
      have HG1' := hidden G1
      clear HN b1 k0 HX0 e0 e1 e2 e3 hb0 G1
      go_wp2_with fail
      go_roundw
      case rel => exact ⟨k + 1, by omega, by go_num, by rw [HT.out]; exact HG1'.out, HX1, k1⟩
      case measure => simp [intOf]; omega
    · have he : k = xs.length := by omega
      subst he
      have HGe : Hid (GrM (w.heap.size + 1) wr (w.heap.size + 2) 0 g1) := by
        have := HG.out
        rw [show (xs.map (·.name)).take xs.length = xs.map (·.name) by rw [← List.length_map (f := fun d : PackD => d.name), List.take_length], ← HG1.out] at this
        exact this
      clear HG
      obtain ⟨mb, vn, vu, vb, us, bs, hbox, hp, C⟩ := HGe.out
      obtain ⟨qn, xn, en⟩ := owns_slG C.names
      subst en
      have c1 : wr.cell? ⟨w.heap.size + 2, 1, none⟩ = some (.slice qn g1.N.length xn) := vblk_cell hbox 1
      have c2 : wr.cell? ⟨w.heap.size + 2, 2, none⟩ = some (.int .i64 0) := vblk_cell hbox 2
      have f2 := vblk_frozen hbox 2
      have HG2 : Hid (GrM (w.heap.size + 1) (wr.setCell ⟨w.heap.size + 2, 2, none⟩ (.int .i64 (g1.N.length : Int))) (w.heap.size + 2) g1.N.length g1) := ⟨mb, _, vu, vb, us, bs, heap_setCell_same wr (w.heap.size + 2) 2 _ _ (.int .i64 (g1.N.length : Int)) hbox, hp, C.other (grown_set wr (w.heap.size + 2) 2 _) hbox ⟨by decide, by decide, by decide⟩⟩
      have HB2 : Hid (Below w.heap.size w (wr.setCell ⟨w.heap.size + 2, 2, none⟩ (.int .i64 (g1.N.length : Int)))) := Below.setCell hbr (by show _ ≤ w.heap.size + 2; omega) _
      have HX2 : Hid ((wr.setCell ⟨w.heap.size + 2, 2, none⟩ (.int .i64 (g1.N.length : Int))).heap[w.heap.size]? = some (.cells #[.map none, .slice none 0 0, .int .i64 0, .slice none 0 0, .slice none 0 0] 63 (0, 0))) := ((grown_set wr (w.heap.size + 2) 2 _).block w.heap.size (Array.getElem?_eq_some_iff.1 HX.out).1 (fun e => by have := Option.some.inj e; omega)).trans HX.out
      obtain ⟨nv, hnv⟩ : ∃ n : Int, n = (g1.N.length : Int) := ⟨_, rfl⟩
      rw [← hnv] at HG2 HB2 HX2
      have HNV := hidden hnv
      rw [HNV.out] at HG2 HB2 HX2
      clear C hbox HGe HX hbr hnv
      go_wp2_with fail
      go_loopw [26] (fun vi wr => ∃ k : Nat, k ≤ xs.length ∧ vi = .int .i64 (k : Int) ∧ Hid (GrM (w.heap.size + 1) wr (w.heap.size + 2) g1.N.length (gUses g1 ((plOf xs).take k))) ∧ Hid (wr.heap[w.heap.size]? = some (.cells #[.map none, .slice none 0 0, .int .i64 0, .slice none 0 0, .slice none 0 0] 63 (0, 0))) ∧ Below w.heap.size w wr) (fun vi _ => xs.length - (intOf vi).toNat)
      case atStart => exact ⟨0, Nat.zero_le _, rfl, HG2, HX2, HB2.out⟩
      case round =>
        clear HG2 HX2 HB2 c1 c2 f2
        obtain ⟨k, hk, rfl, HG, HX, hbr⟩ := hrel
        by_cases hlt' : k < xs.length
        · have hkP : k < (plOf xs).length := by omega
          have HT : Hid (gUses g1 ((plOf xs).take (k + 1)) = (gUses g1 ((plOf xs).take k)).uses xs[k].name xs[k].uses) := by
            have := gUses_take g1 (plOf xs) k hkP
            simp only [plOf, List.getElem_map] at this ⊢
            exact this
          have hsz := gUses_size g1 ((plOf xs).take k)
          have hsk := sumU_take (plOf xs) k hkP
          have hsk2 : (plOf xs)[k].2.length = xs[k].uses.length := by simp [plOf]
          rw [hsk2] at hsk
          have hokk := (gUses_ok g1 hnok (fun i => (hrows1 i).1) ((plOf xs).take k) (fun d hd => (hnm _).2 (by
            have hd2 := List.mem_of_mem_take hd
            unfold plOf at hd2
            obtain ⟨d', hd', rfl⟩ := List.mem_map.1 hd2
            exact List.mem_map.2 ⟨d', hd', rfl⟩))).1
          rcases ha with rfl | ⟨b, off, rfl, hlt, ha⟩
          · simp at hlt'
          obtain ⟨cs, hL, hcell⟩ := ha k hlt'
          have hBr : ∀ b, S b → b < wr.heap.size := fun b h => Nat.lt_of_lt_of_le (hB b h) hbr.size
          have hcell2 := hcell.keep (.of hbr hB) hlt
          replace hL := shPack.keep (.of hbr hB) hL
          obtain ⟨hw1, hw2, hw3⟩ := hwe xs[k] (List.getElem_mem hlt')
          obtain ⟨G, hG⟩ : ∃ G, G = gUses g1 ((plOf xs).take k) := ⟨_, rfl⟩
          rw [← hG] at HG HT hsz hokk
          obtain ⟨d, hd⟩ : ∃ d, d = xs[k] := ⟨_, rfl⟩
          rw [← hd] at hL HT hw1 hw2 hw3 hsk
          obtain ⟨u0, u1, u2, rfl, _, r0, p0, r1', r2'⟩ := hL
          have hEE : ∀ i, (rowAt G.U i).length + d.uses.length ≤ 1099511627776 ∧ (rowAt G.B i).length + d.uses.length ≤ 1099511627776 := fun i => by
            have h1 := hsz.2 i
            rw [(hrows1 i).1, (hrows1 i).2] at h1
            simp only [List.length_nil] at h1
            omega
          have hNN : G.N.length + d.uses.length ≤ 4194303 := by have := hsz.1; omega
          have HN' : ∀ w1, Below wr.heap.size wr w1 → Calls Try.prog 74 #[.pointer (some ⟨w.heap.size + 2, 0, none⟩), .string d.name, u0] w1 fun e w' => e = .returned (.tuple #[]) ∧ GrM (w.heap.size + 1) w' (w.heap.size + 2) g1.N.length (G.uses d.name d.uses) ∧ Below (w.heap.size + 1) w1 w' := fun w1 h1 =>
            addUses_c (w.heap.size + 1) (w.heap.size + 2) g1.N.length G d.name S u0 d.uses w1 (HG.out.below h1) hokk (r0.keep (.of h1 hBr)) (fun b hb => by have := hB b hb; omega) (by unfold maxLen; omega) hw3 hNN hEE
          have HN := hidden HN'
          clear HN'
          obtain ⟨a0, c0, eu0, _⟩ := id r0
          rw [length_strsV] at eu0
          obtain ⟨a1, c1, eu1, _⟩ := id r1'
          obtain ⟨a2, c2, eu2, _⟩ := id r2'
          subst eu0 eu1 eu2
          have e0 : wr.cell? ⟨b, off + k * 4, none⟩ = some (.string d.name) := hcell2 0 (by simp)
          have e1 : wr.cell? ⟨b, off + k * 4 + 1, none⟩ = some (.slice a0 d.uses.length c0) := hcell2 1 (by simp)
          have e2 : wr.cell? ⟨b, off + k * 4 + 2, none⟩ = some (.slice a1 d.needs.length c1) := hcell2 2 (by simp)
          have e3 : wr.cell? ⟨b, off + k * 4 + 3, none⟩ = some (.slice a2 d.cmds.length c2) := hcell2 3 (by simp)
          have hki : (k : Int) < (xs.length : Int) := by omega
          obtain ⟨t, ht⟩ : ∃ t, t = d.name := ⟨_, rfl⟩
          rw [← ht] at e0 HT HN
          have hb0 : Below wr.heap.size wr (wr.alloc (.cells #[.string t, .slice a0 d.uses.length c0, .slice a1 d.needs.length c1, .slice a2 d.cmds.length c2] 33)) := (Below.refl _ _).alloc (Nat.le_refl _) _
          have k0 := hbr.trans (hb0.mono hbr.size)
          have hrl : w.heap.size < wr.heap.size := (Array.getElem?_eq_some_iff.1 HX.out).1
          have HX0 := hidden ((hb0.block _ hrl).trans HX.out)
          clear ha hd ht hcell hcell2 r0 r1' r2' p0 hG HG HX hw3 hw1 hw2 hbr hEE hNN hsz hsk hsk2 hokk
          go_wp2_with (go_at_call 74; refine (HN.out _ hb0).mono ?_; rintro e w1 ⟨rfl, G1, b1⟩)
          have k1 : Below w.heap.size w w1 := k0.trans (b1.mono (by omega))
          have HX1 := hidden ((b1.block w.heap.size (by omega)).trans HX0.out)
          have HG1' := hidden G1
          clear HN b1 k0 HX0 e0 e1 e2 e3 hb0 G1
          go_wp2_with fail
          go_roundw
          case rel => exact ⟨k + 1, by omega, by go_num, by rw [HT.out]; exact HG1'.out, HX1, k1⟩
          case measure => simp [intOf]; omega
        · have he : k = xs.length := by omega
          subst he
          have HGe : Hid (GrM (w.heap.size + 1) wr (w.heap.size + 2) g1.N.length (gUses g1 (plOf xs))) := by
            have := HG.out
            rw [← hPl, List.take_length] at this
            exact this
          clear HG ha
          obtain ⟨mb, vn, vu, vb, us, bs, hbox, hp, C⟩ := HGe.out
          obtain ⟨qn, nn, xn, en⟩ : ∃ q n c, vn = .slice q n c := by obtain ⟨q, c, e⟩ := owns_slG C.names; exact ⟨q, _, c, e⟩
          obtain ⟨qu, nu, xu, eu⟩ : ∃ q n c, vu = .slice q n c := by obtain ⟨q, c, e⟩ := owns_slG C.ru; exact ⟨q, _, c, e⟩
          obtain ⟨qb, nb, xb, eb⟩ : ∃ q n c, vb = .slice q n c := by obtain ⟨q, c, e⟩ := owns_slG C.rb; exact ⟨q, _, c, e⟩
          subst en eu eb
          have c0 : wr.cell? ⟨w.heap.size + 1 + 1, 0, none⟩ = some (.map (some mb)) := vblk_cell hbox 0
          have c1 : wr.cell? ⟨w.heap.size + 1 + 1, 1, none⟩ = some (.slice qn nn xn) := vblk_cell hbox 1
          have c2 : wr.cell? ⟨w.heap.size + 1 + 1, 2, none⟩ = some (.int .i64 (g1.N.length : Int)) := vblk_cell hbox 2
          have c3 : wr.cell? ⟨w.heap.size + 1 + 1, 3, none⟩ = some (.slice qu nu xu) := vblk_cell hbox 3
          have c4 : wr.cell? ⟨w.heap.size + 1 + 1, 4, none⟩ = some (.slice qb nb xb) := vblk_cell hbox 4
          have hx := HX.out
          have r0 : wr.cell? ⟨w.heap.size, 0, none⟩ = some (.map none) := vblk_cell hx 0
          have r1 : wr.cell? ⟨w.heap.size, 1, none⟩ = some (.slice none 0 0) := vblk_cell hx 1
          have r2 : wr.cell? ⟨w.heap.size, 2, none⟩ = some (.int .i64 0) := vblk_cell hx 2
          have r3 : wr.cell? ⟨w.heap.size, 3, none⟩ = some (.slice none 0 0) := vblk_cell hx 3
          have r4 : wr.cell? ⟨w.heap.size, 4, none⟩ = some (.slice none 0 0) := vblk_cell hx 4
          have fz := vblk_frozen hx
          have HC : Hid (∀ v0 v1 v2 v3 v4 : Value, GrC w.heap.size (((((wr.setCell ⟨w.heap.size, 0, none⟩ v0).setCell ⟨w.heap.size, 1, none⟩ v1).setCell ⟨w.heap.size, 2, none⟩ v2).setCell ⟨w.heap.size, 3, none⟩ v3).setCell ⟨w.heap.size, 4, none⟩ v4) mb (.slice qn nn xn) (.slice qu nu xu) (.slice qb nb xb) us bs (gUses g1 (plOf xs)).N (gUses g1 (plOf xs)).N (gUses g1 (plOf xs)).U (gUses g1 (plOf xs)).B noX noX ∧ Below w.heap.size w (((((wr.setCell ⟨w.heap.size, 0, none⟩ v0).setCell ⟨w.heap.size, 1, none⟩ v1).setCell ⟨w.heap.size, 2, none⟩ v2).setCell ⟨w.heap.size, 3, none⟩ v3).setCell ⟨w.heap.size, 4, none⟩ v4)) := fun v0 v1 v2 v3 v4 => by
            have hl : w.heap.size < w.heap.size + 1 := by omega
            have h0 := C.low (grown_set wr w.heap.size 0 v0) hl
            have h1 := h0.low (grown_set _ w.heap.size 1 v1) hl
            have h2 := h1.low (grown_set _ w.heap.size 2 v2) hl
            have h3 := h2.low (grown_set _ w.heap.size 3 v3) hl
            have h4 := h3.low (grown_set _ w.heap.size 4 v4) hl
            exact ⟨h4.lower (by omega), Below.setCell (Below.setCell (Below.setCell (Below.setCell (Below.setCell hbr (Nat.le_refl _) _) (Nat.le_refl _) _) (Nat.le_refl _) _) (Nat.le_refl _) _) (Nat.le_refl _) _⟩
          have HX5 : Hid (∀ v0 v1 v2 v3 v4 : Value, (((((wr.setCell ⟨w.heap.size, 0, none⟩ v0).setCell ⟨w.heap.size, 1, none⟩ v1).setCell ⟨w.heap.size, 2, none⟩ v2).setCell ⟨w.heap.size, 3, none⟩ v3).setCell ⟨w.heap.size, 4, none⟩ v4).heap[w.heap.size]? = some (.cells #[v0, v1, v2, v3, v4] 63 (0, 0))) := fun v0 v1 v2 v3 v4 =>
            heap_setCell_same _ w.heap.size 4 _ _ v4 (heap_setCell_same _ w.heap.size 3 _ _ v3 (heap_setCell_same _ w.heap.size 2 _ _ v2 (heap_setCell_same _ w.heap.size 1 _ _ v1 (heap_setCell_same wr w.heap.size 0 _ _ v0 hx))))
          clear C hbox HGe hbr HX hx
          go_wp2_with fail
          obtain ⟨F1, F2⟩ := HC.out (.map (some mb)) (.slice qn nn xn) (.int .i64 (g1.N.length : Int)) (.slice qu nu xu) (.slice qb nb xb)
          have F3 := HX5.out (.map (some mb)) (.slice qn nn xn) (.int .i64 (g1.N.length : Int)) (.slice qu nu xu) (.slice qb nb xb)
          generalize (((((wr.setCell ⟨w.heap.size, 0, none⟩ (.map (some mb))).setCell ⟨w.heap.size, 1, none⟩ (.slice qn nn xn)).setCell ⟨w.heap.size, 2, none⟩ (.int .i64 (g1.N.length : Int))).setCell ⟨w.heap.size, 3, none⟩ (.slice qu nu xu)).setCell ⟨w.heap.size, 4, none⟩ (.slice qb nb xb)) = W5 at F1 F2 F3 ⊢
          have o0 := vblk_cell F3 0
          have o1 := vblk_cell F3 1
          have o2 := vblk_cell F3 2
          have o3 := vblk_cell F3 3
          have o4 := vblk_cell F3 4
          simp only [List.getElem?_toArray, List.getElem?_cons_succ, List.getElem?_cons_zero] at o0 o1 o2 o3 o4
          clear HC HX5 c0 c1 c2 c3 c4 r0 r1 r2 r3 r4 fz
          refine bodyPost_ret (v := .agg #[.map (some mb), .slice qn nn xn, .int .i64 (g1.N.length : Int), .slice qu nu xu, .slice qb nb xb]) (by simp [results, Try.results35, go_sem, o0, o1, o2, o3, o4]) rfl ⟨mb, _, _, _, us, bs, rfl, F1, F2⟩
end Go.Proofs.Ytkkhnldhipfneaa

/-! The contracts of the library for sorting a list of texts and for leaving out what is alike side by side, taken over from the library of contracts at the numbers of this program; conditions as each says. -/
namespace Go.Proofs
open Go.Shelf
def Try.lays190_ren : Go.Shelf.Ren := ⟨fun | 190 => 81 | 125 => 103 | 258 => 102 | 128 => 117 | 129 => 118 | 302 => 108 | 303 => 109 | 304 => 110 | 305 => 111 | 306 => 112 | 307 => 113 | 308 => 114 | 309 => 115 | 310 => 116 | 333 => 123 | 329 => 124 | 330 => 125 | 334 => 126 | 335 => 127 | 336 => 128 | 344 => 131 | n => n, fun | 31 => 26 | 9 => 9 | 3 => 3 | 46 => 121 | 0 => 0 | 51 => 137 | 53 => 139 | 4 => 4 | 183 => 131 | 182 => 130 | 131 => 104 | 5 => 5 | 218 => 142 | 222 => 146 | 228 => 150 | 229 => 151 | n => n, fun | n => n⟩
theorem Try.lays190 : Go.Proofs.Lays.n190 Try.prog Try.lays190_ren := {
  mixed := by kernel_rfl
  f125 := Try.func103.trans (congrArg some (by kernel_rfl))
  f128 := Try.func117.trans (congrArg some (by kernel_rfl))
  f129 := Try.func118.trans (congrArg some (by kernel_rfl))
  f190 := Try.func81.trans (congrArg some (by kernel_rfl))
  f258 := Try.func102.trans (congrArg some (by kernel_rfl))
  f302 := Try.func108.trans (congrArg some (by kernel_rfl))
  f303 := Try.func109.trans (congrArg some (by kernel_rfl))
  f304 := Try.func110.trans (congrArg some (by kernel_rfl))
  f305 := Try.func111.trans (congrArg some (by kernel_rfl))
  f306 := Try.func112.trans (congrArg some (by kernel_rfl))
  f307 := Try.func113.trans (congrArg some (by kernel_rfl))
  f308 := Try.func114.trans (congrArg some (by kernel_rfl))
  f309 := Try.func115.trans (congrArg some (by kernel_rfl))
  f310 := Try.func116.trans (congrArg some (by kernel_rfl))
  f329 := Try.func124.trans (congrArg some (by kernel_rfl))
  f330 := Try.func125.trans (congrArg some (by kernel_rfl))
  f333 := Try.func123.trans (congrArg some (by kernel_rfl))
  f334 := Try.func126.trans (congrArg some (by kernel_rfl))
  f335 := Try.func127.trans (congrArg some (by kernel_rfl))
  f336 := Try.func128.trans (congrArg some (by kernel_rfl))
  f344 := Try.func131.trans (congrArg some (by kernel_rfl))
  t0 := Try.underlying0
  a0 := Try.isAgg0
  z0 := Try.sizeOf0
  v0 := Try.zeroValue0
  t3 := Try.underlying3
  a3 := Try.isAgg3
  z3 := Try.sizeOf3
  v3 := Try.zeroValue3
  t4 := Try.underlying4
  a4 := Try.isAgg4
  z4 := Try.sizeOf4
  v4 := Try.zeroValue4
  t5 := Try.underlying5
  a5 := Try.isAgg5
  z5 := Try.sizeOf5
  v5 := Try.zeroValue5
  t9 := Try.underlying9
  a9 := Try.isAgg9
  z9 := Try.sizeOf9
  v9 := Try.zeroValue9
  t31 := Try.underlying26
  a31 := Try.isAgg26
  z31 := Try.sizeOf26
  v31 := Try.zeroValue26
  t46 := Try.underlying121
  a46 := Try.isAgg121
  z46 := Try.sizeOf121
  v46 := Try.zeroValue121
  t51 := Try.underlying137
  a51 := Try.isAgg137
  z51 := Try.sizeOf137
  v51 := Try.zeroValue137
  t53 := Try.underlying139
  a53 := Try.isAgg139
  z53 := Try.sizeOf139
  v53 := Try.zeroValue139
  t131 := Try.underlying104
  a131 := Try.isAgg104
  z131 := Try.sizeOf104
  v131 := Try.zeroValue104
  t182 := Try.underlying130
  a182 := Try.isAgg130
  z182 := Try.sizeOf130
  v182 := Try.zeroValue130
  t183 := Try.underlying131
  a183 := Try.isAgg131
  z183 := Try.sizeOf131
  v183 := Try.zeroValue131
  t218 := Try.underlying142
  a218 := Try.isAgg142
  z218 := Try.sizeOf142
  v218 := Try.zeroValue142
  t222 := Try.underlying146
  a222 := Try.isAgg146
  z222 := Try.sizeOf146
  v222 := Try.zeroValue146
  t228 := Try.underlying150
  a228 := Try.isAgg150
  z228 := Try.sizeOf150
  v228 := Try.zeroValue150
  t229 := Try.underlying151
  a229 := Try.isAgg151
  z229 := Try.sizeOf151
  v229 := Try.zeroValue151 }
open Go.Sort Go.RowKit in
theorem Try.slices_Sort_string (blk off cap : Nat) (ss : List (List UInt8)) (w : World) (hH : Holds encStr w blk off ss.toArray) (hblk : blk < w.heap.size) (hsz : ss.length < 4611686018427387904) :
    Calls Try.prog 81 #[.slice (some ⟨blk, off, none⟩) ss.length cap] w fun e w' =>
      e = .returned (.tuple #[]) ∧ ∃ n os, w' = grow (putRow encStr (Sort.ahead w n) blk off (ss.mergeSort fun x y => decide (x ≤ y)).toArray) os := Any.slices_Sort_string Try.lays190 blk off cap ss w hH hblk hsz
def Try.lays194_ren : Go.Shelf.Ren := ⟨fun | 194 => 82 | n => n, fun | 31 => 26 | 9 => 9 | 3 => 3 | 4 => 4 | 0 => 0 | n => n, fun | n => n⟩
theorem Try.lays194 : Go.Proofs.Lays.n194 Try.prog Try.lays194_ren := {
  mixed := by kernel_rfl
  f194 := Try.func82.trans (congrArg some (by kernel_rfl))
  t0 := Try.underlying0
  a0 := Try.isAgg0
  z0 := Try.sizeOf0
  v0 := Try.zeroValue0
  t3 := Try.underlying3
  a3 := Try.isAgg3
  z3 := Try.sizeOf3
  v3 := Try.zeroValue3
  t4 := Try.underlying4
  a4 := Try.isAgg4
  z4 := Try.sizeOf4
  v4 := Try.zeroValue4
  t9 := Try.underlying9
  a9 := Try.isAgg9
  z9 := Try.sizeOf9
  v9 := Try.zeroValue9
  t31 := Try.underlying26
  a31 := Try.isAgg26
  z31 := Try.sizeOf26
  v31 := Try.zeroValue26 }
open Go.RowKit Go.Lib Go.Sort in
theorem Try.slices_Compact_string_arr (blk off cap : Nat) (d : Array (List UInt8)) (w : World) (hH : Holds encStr w blk off d) (hsz : d.size ≤ 9223372036854775807) (hcap : d.size ≤ cap) :
    Calls Try.prog 82 #[.slice (some ⟨blk, off, none⟩) d.size cap] w fun e w' => e = .returned (.slice (some ⟨blk, off, none⟩) (compactUpTo d d.size).length cap) ∧ ∃ q, w' = putRow encStr (Sort.ahead w q) blk off (compactUpTo d d.size ++ List.replicate (d.size - (compactUpTo d d.size).length) []).toArray := Any.slices_Compact_string_arr Try.lays194 blk off cap d w hH hsz hcap
open Go.RowKit Go.Lib Go.Sort in
theorem Try.slices_Compact_string (blk off cap : Nat) (zs : List (List UInt8)) (w : World) (hH : Holds encStr w blk off zs.toArray) (hsz : zs.length ≤ 9223372036854775807) (hcap : zs.length ≤ cap) :
    Calls Try.prog 82 #[.slice (some ⟨blk, off, none⟩) zs.length cap] w fun e w' => e = .returned (.slice (some ⟨blk, off, none⟩) (Lib.compact zs).length cap) ∧ ∃ q, w' = putRow encStr (Sort.ahead w q) blk off (Lib.compact zs ++ List.replicate (zs.length - (Lib.compact zs).length) []).toArray := Any.slices_Compact_string Try.lays194 blk off cap zs w hH hsz hcap
open Go.RowKit Go.Lib Go.Sort in
theorem Try.slices_Compact_string_empty (a : Option Addr) (cap : Nat) (w : World) :
    Calls Try.prog 82 #[.slice a 0 cap] w fun e w' => e = .returned (.slice a 0 cap) ∧ w' = w := Any.slices_Compact_string_empty Try.lays194 a cap w
open Go.RowKit Go.Lib Go.Sort in
theorem Try.slices_Compact_string_cells (b off n c : Nat) (Sx : Nat → ByteArray) (w : World) (hbig : n ≤ 9223372036854775807) (hcap : n ≤ c) (hc : ∀ i, i < n → w.cell? ⟨b, off + i, none⟩ = some (.string (Sx i))) (hf : ∀ j, j < n → w.frozen? ⟨b, off + j, none⟩ = false) :
    Calls Try.prog 82 #[.slice (some ⟨b, off, none⟩) n c] w fun e w' => e = .returned (.slice (some ⟨b, off, none⟩) (Lib.compact (Lib.strsOf Sx n)).length c) ∧ ∃ q, w' = (w.drewN q).setCells b off ((Lib.compact (Lib.strsOf Sx n) ++ List.replicate (n - (Lib.compact (Lib.strsOf Sx n)).length) []).map encStr) := Any.slices_Compact_string_cells Try.lays194 b off n c Sx w hbig hcap hc hf
open Go.RowKit Go.Sort in
theorem Try.slices_Sort_string_none (p : Option Addr) (cap : Nat) (w : World) :
    Calls Try.prog 81 #[.slice p 0 cap] w fun e w' => e = .returned (.tuple #[]) ∧ w' = w := Any.slices_Sort_string_none Try.lays190 p cap w
end Go.Proofs

/-! What the program's Sorted answers: a list that rises and has the members of the list handed in, in memory of its own; conditions: the list lies in memory as told and has at most 2 to the 20 texts, each of at most 2 to the 20 bytes. -/
namespace Go.Proofs.Ytkkhnldhipfneaa
open Go.RowKit Go.Sort
set_option linter.unusedSimpArgs false
set_option linter.unusedVariables false

/-! ### What is left of a list in order when what is alike side by side is left out -/
theorem compact_sub (zs : List (List UInt8)) : ∀ m, m ≤ zs.length → ∀ x, x ∈ Lib.compactUpTo zs.toArray m ↔ x ∈ zs.take m
  | 0, _, x => by simp [Lib.compactUpTo]
  | m + 1, h, x => by
    have ih := compact_sub zs m (by omega)
    have hb : zs.toArray[m]! = zs[m] := by simp [show m < zs.length by omega]
    rw [Lib.compactUpTo_succ, List.mem_append, ih x, List.take_succ_eq_append_getElem (by omega), List.mem_append, List.mem_singleton]
    cases hk : Lib.keeps zs.toArray m with
    | true => rw [if_pos rfl, List.mem_singleton, hb]
    | false =>
      rw [if_neg (by simp)]
      constructor
      · rintro (h1 | h1)
        · exact .inl h1
        · simp at h1
      · rintro (h1 | h1)
        · exact .inl h1
        · refine .inl ?_
          have hm : ¬ m = 0 ∧ zs.toArray[m]! = zs.toArray[m - 1]! := by
            simp only [Lib.keeps, decide_eq_false_iff_not] at hk
            exact ⟨fun e => hk (.inl e), Classical.byContradiction fun e => hk (.inr e)⟩
          have hb1 : zs.toArray[m - 1]! = zs[m - 1] := by simp [show m - 1 < zs.length by omega]
          rw [h1, ← hb, hm.2, hb1]
          rw [List.mem_take_iff_getElem]
          exact ⟨m - 1, by omega, rfl⟩

theorem compact_mem (zs : List (List UInt8)) (x : List UInt8) : x ∈ Lib.compact zs ↔ x ∈ zs := by
  rw [Lib.compact, compact_sub zs zs.length (Nat.le_refl _), List.take_length]

theorem compact_rises (zs : List (List UInt8)) (h : zs.Pairwise (· ≤ ·)) : Rises (Lib.compact zs) := by
  unfold Rises Lib.compact Lib.compactUpTo
  rw [List.pairwise_map]
  refine List.Pairwise.imp_of_mem ?_ ((List.pairwise_lt_range (n := zs.length)).filter _)
  intro i j hi hj hij
  have hil := List.mem_range.1 (List.mem_filter.1 hi).1
  have hjl := List.mem_range.1 (List.mem_filter.1 hj).1
  have hk := (List.mem_filter.1 hj).2
  have e1 : zs.toArray[i]! = zs[i] := by simp [hil]
  have e2 : zs.toArray[j]! = zs[j] := by simp [hjl]
  have e3 : zs.toArray[j - 1]! = zs[j - 1] := by simp [show j - 1 < zs.length by omega]
  rw [e1, e2]
  simp only [Lib.keeps, decide_eq_true_eq] at hk
  have hne : zs[j] ≠ zs[j - 1] := by
    rcases hk with h0 | h0
    · omega
    · rw [e2, e3] at h0; exact h0
  have hp := List.pairwise_iff_getElem.1 h
  have h2 := hp (j - 1) j (by omega) hjl (by omega)
  have hlt : zs[j - 1] < zs[j] := by
    by_cases k : zs[j - 1] < zs[j]
    · exact k
    · exact absurd (List.le_antisymm (by simpa using k) h2) hne
  by_cases e : i = j - 1
  · subst e; exact hlt
  · have h1 := hp i (j - 1) hil (by omega) (by omega)
    by_cases k : zs[i] < zs[j - 1]
    · exact ltL_trans k hlt
    · have : zs[i] = zs[j - 1] := List.le_antisymm h1 (by simpa using k)
      rw [this]; exact hlt

def sortL (L : List (List UInt8)) : List (List UInt8) := L.mergeSort fun x y => decide (x ≤ y)
theorem sortL_le (L : List (List UInt8)) : (sortL L).Pairwise (· ≤ ·) := by
  have := List.pairwise_mergeSort (le := fun x y : List UInt8 => decide (x ≤ y)) (fun a b c h1 h2 => by simp at h1 h2 ⊢; exact List.le_trans h1 h2) (fun a b => by simp; exact List.le_total a b) L
  exact this.imp (fun h => by simpa using h)
theorem sortL_mem (L : List (List UInt8)) (x : List UInt8) : x ∈ sortL L ↔ x ∈ L := List.mem_mergeSort
theorem sortL_len (L : List (List UInt8)) : (sortL L).length = L.length := List.length_mergeSort L

def strOf' (l : List UInt8) : ByteArray := ⟨l.toArray⟩
theorem bytesL_strOf (l : List UInt8) : bytesL (strOf' l) = l := by simp [bytesL, strOf']
theorem strOf_bytesL (s : ByteArray) : strOf' (bytesL s) = s := by simp [bytesL, strOf']
theorem enc_bytes (ss : List ByteArray) : (ss.map bytesL).map encStr = strsV ss := by
  simp [strsV, encStr, bytesL]
theorem enc_strs (C : List (List UInt8)) : C.map encStr = strsV (C.map strOf') := by
  simp [strsV, encStr, strOf']

/-- What the program's Sorted answers. -/
def sortedS (ss : List ByteArray) : List ByteArray := (Lib.compact (sortL (ss.map bytesL))).map strOf'
theorem sortedS_rises (ss : List ByteArray) : risesS (sortedS ss) := by
  unfold risesS sortedS
  rw [List.map_map]
  have : (bytesL ∘ strOf') = id := by funext l; exact bytesL_strOf l
  rw [this, List.map_id]
  exact compact_rises _ (sortL_le _)
theorem sortedS_mem (ss : List ByteArray) (x : ByteArray) : x ∈ sortedS ss ↔ x ∈ ss := by
  unfold sortedS
  rw [List.mem_map]
  constructor
  · rintro ⟨l, hl, rfl⟩
    rw [compact_mem, sortL_mem, List.mem_map] at hl
    obtain ⟨s, hs, rfl⟩ := hl
    rw [strOf_bytesL]; exact hs
  · intro h
    exact ⟨bytesL x, by rw [compact_mem, sortL_mem]; exact List.mem_map.2 ⟨x, h, rfl⟩, strOf_bytesL x⟩
theorem compact_len (zs : List (List UInt8)) : (Lib.compact zs).length ≤ zs.length := by
  unfold Lib.compact Lib.compactUpTo
  rw [List.length_map]
  exact Nat.le_trans (List.length_filter_le _ _) (by simp)

theorem own_cut {w : World} {base : Nat} {e : TypeId} {g n m cap : Nat} {xs : List Value} (h : w.ownsRow base e 1 (.slice (some ⟨g, 0, none⟩) n cap) n xs) (hm : m ≤ n) : w.ownsRow base e 1 (.slice (some ⟨g, 0, none⟩) m cap) m (xs.take m) := by
  have hl : xs.length = n := by simpa using h.1
  refine ⟨by simp; omega, ?_⟩
  rcases h.2 with ⟨h', _⟩ | ⟨g', cap', cur, h', hb, hg, hn, hc, hs, ht⟩
  · simp at h'
  · simp only [Value.slice.injEq, Option.some.injEq, Addr.mk.injEq, and_true, true_and] at h'
    obtain ⟨rfl, rfl⟩ := h'
    refine .inr ⟨g, cap, cur, rfl, hb, hg, by omega, hc, hs, ?_⟩
    rw [← ht, List.take_take, Nat.mul_one, Nat.mul_one, Nat.min_eq_left hm]

theorem cloneB_c (s : ByteArray) (w : World) (h : s.size ≤ 1048576) : Calls Try.prog 50 #[.string s] w fun e w' => e = .returned (.string s) ∧ Below w.heap.size w w' := by
  go_enter Try.func50, Try.ntmps50
  go_wp2_with (go_at_call 89; refine (Try.stringslite_Clone s _ (by omega)).mono ?_; rintro e w1 ⟨rfl, b1⟩)
  go_ret
  exact ⟨rfl, b1⟩

theorem size9 : (Try.prog.info? 9).map (·.size) = some 1 := by kernel_rfl
theorem strs_oneCell (ss : List ByteArray) : ∀ u ∈ strsV ss, u.oneCell' = true := fun u hu => by
  obtain ⟨s, _, rfl⟩ := List.mem_map.1 hu
  rfl

/-- The sort at a row of the call's own. -/
theorem sort_c (base g cap : Nat) (ss : List ByteArray) (w : World) (ho : w.ownsRow base 9 1 (.slice (some ⟨g, 0, none⟩) ss.length cap) ss.length (strsV ss)) (hn : ss.length ≤ 1048576) :
    Calls Try.prog 81 #[.slice (some ⟨g, 0, none⟩) ss.length cap] w fun e w' => e = .returned (.tuple #[]) ∧ w'.ownsRow base 9 1 (.slice (some ⟨g, 0, none⟩) ss.length cap) ss.length ((sortL (ss.map bytesL)).map encStr) ∧ w.grownBy w' (some g) := by
  rcases ho.2 with ⟨h', _⟩ | ⟨g', cap', cur, h', hb, hg, hn1, hc, hs, ht⟩
  · simp at h'
  · simp only [Value.slice.injEq, Option.some.injEq, Addr.mk.injEq, and_true, true_and] at h'
    obtain ⟨rfl, rfl⟩ := h'
    have hH : Holds encStr w g 0 (ss.map bytesL).toArray := holds_of_block hg (by rw [List.length_map, enc_bytes]; simpa using ht)
    have hc1 := Try.slices_Sort_string g 0 cap (ss.map bytesL) w hH (Array.getElem?_eq_some_iff.1 hg).1 (by rw [List.length_map]; omega)
    rw [List.length_map] at hc1
    refine hc1.mono fun e w' ⟨h1, n, os, h2⟩ => ?_
    subst h2
    refine ⟨h1, ?_, grownBy_sorted _⟩
    have := ownsRow_sorted (n := n) (os := os) (ss := ss.map bytesL) (ts := sortL (ss.map bytesL)) (sortL_len _) hb hg (by rw [List.length_map]; exact hn1) hc hs
    rw [List.length_map] at this
    exact this

/-- Leaving out what is alike side by side, at a row of the call's own. -/
theorem compact_c (base g cap : Nat) (L : List (List UInt8)) (w : World) (ho : w.ownsRow base 9 1 (.slice (some ⟨g, 0, none⟩) L.length cap) L.length (L.map encStr)) (hn : L.length ≤ 1048576) :
    Calls Try.prog 82 #[.slice (some ⟨g, 0, none⟩) L.length cap] w fun e w' => e = .returned (.slice (some ⟨g, 0, none⟩) (Lib.compact L).length cap) ∧ w'.ownsRow base 9 1 (.slice (some ⟨g, 0, none⟩) (Lib.compact L).length cap) (Lib.compact L).length ((Lib.compact L).map encStr) ∧ w.grownBy w' (some g) := by
  rcases ho.2 with ⟨h', _⟩ | ⟨g', cap', cur, h', hb, hg, hn1, hc, hs, ht⟩
  · simp at h'
  · simp only [Value.slice.injEq, Option.some.injEq, Addr.mk.injEq, and_true, true_and] at h'
    obtain ⟨rfl, rfl⟩ := h'
    have hH : Holds encStr w g 0 L.toArray := holds_of_block hg (by simpa using ht)
    have hc1 := Try.slices_Compact_string g 0 cap L w hH (by omega) hn1
    refine hc1.mono fun e w' ⟨h1, q, h2⟩ => ?_
    have hcl := compact_len L
    have hl2 : (Lib.compact L ++ List.replicate (L.length - (Lib.compact L).length) []).length = L.length := by simp; omega
    have h3 : w' = grow (putRow encStr (Sort.ahead w q) g 0 (Lib.compact L ++ List.replicate (L.length - (Lib.compact L).length) []).toArray) #[] := by rw [grow_empty]; exact h2
    subst h3
    refine ⟨h1, ?_, grownBy_sorted _⟩
    have := own_cut (ownsRow_sorted (n := q) (os := #[]) (ss := L) (ts := Lib.compact L ++ List.replicate (L.length - (Lib.compact L).length) []) hl2 hb hg hn1 hc hs) hcl
    rw [List.map_append, List.take_append_of_le_length (by simp), List.take_of_length_le (by simp)] at this
    exact this

set_option maxHeartbeats 4000000 in
set_option maxRecDepth 100000 in
theorem implSorted_c (v : Value) (ss : List ByteArray) (w : World) (hv : Reads w v (strsV ss)) (hn : ss.length ≤ 1048576) (hs : ∀ s ∈ ss, s.size ≤ 1048576) :
    Calls Try.prog 42 #[v] w fun e w' => ∃ u, e = .returned u ∧ w'.ownsRow w.heap.size 9 1 u (sortedS ss).length (strsV (sortedS ss)) ∧ Below w.heap.size w w' := by
  obtain ⟨a, cap, hvv, _, hc⟩ := hv
  rw [length_strsV] at hvv
  subst hvv
  obtain ⟨i0, hi, hz0, hz1, hz2⟩ := info_parts infoS
  have hpos : ∀ w1, Below w.heap.size w w1 → 0 < (strsV ss).length → ∃ ad, a = some ad ∧ ∀ j v, (strsV ss)[j]? = some v → w1.cell? (ad.add j) = some v := fun w1 hb1 h0 => by
    rcases hc with h | ⟨b, off, ha, hlt, hc⟩
    · rw [h] at h0; simp at h0
    · refine ⟨_, ha, fun j v hj => ?_⟩
      rw [show ((⟨b, off, none⟩ : Addr).add j) = ⟨b, off + j, none⟩ by unfold Addr.add; split <;> simp_all, hb1.cell (p := ⟨b, off + j, none⟩) hlt]
      obtain ⟨hjl, e⟩ := List.getElem?_eq_some_iff.1 hj
      rw [hc j hjl, e]
  have HP : Hid (∀ w1, Below w.heap.size w w1 → 0 < (strsV ss).length → ∃ ad, a = some ad ∧ ∀ j v, (strsV ss)[j]? = some v → w1.cell? (ad.add j) = some v) := hpos
  clear hc hpos
  have hss : ∀ x ∈ sortedS ss, x.size ≤ 1048576 := fun x hx => hs x ((sortedS_mem ss x).1 hx)
  have hcl := compact_len (sortL (ss.map bytesL))
  have hsl : (sortL (ss.map bytesL)).length = ss.length := by rw [sortL_len, List.length_map]
  have hyl2 : (sortedS ss).length = (Lib.compact (sortL (ss.map bytesL))).length := by simp [sortedS]
  have hst : (Lib.compact (sortL (ss.map bytesL))).map encStr = strsV (sortedS ss) := enc_strs _
  have hsort := fun w2 h => sort_c w.heap.size w.heap.size ss.length ss w2 h hn
  have hcomp := fun w3 h => compact_c w.heap.size w.heap.size ss.length (sortL (ss.map bytesL)) w3 h (by omega)
  rw [hsl] at hcomp hcl
  rw [hst, ← hyl2] at hcomp
  rw [← hyl2] at hcl
  obtain ⟨rs, hrs⟩ : ∃ rs, rs = sortedS ss := ⟨_, rfl⟩
  rw [← hrs] at hcomp hcl hss ⊢
  clear hst hyl2 hsl hrs hs
  go_enter Try.func42, Try.ntmps42
  go_wp2_with (first
    | (at_make; refine wpList_make_full _ rfl _ _ 26 rfl w.heap.size 9 i0 (.string ⟨#[]⟩) 1 Try.underlying26 hi hz0 hz1 _ _ _ _ ss.length rfl rfl rfl rfl (by rw [hz2]; omega) (by unfold maxLen; omega) (Nat.le_refl _) ?_))
  intro w1 o1 gr1
  have hb1 := below_of_grown gr1
  have hh1 : ∃ ys : List Value, ys.length = ss.length ∧ w1.heap[w.heap.size]? = some (.cells ys.toArray 9 (0, 0)) := by
    have hl : (madeCells #[Value.string ⟨#[]⟩] ss.length).toList.length = ss.length := by simp [size_madeCells]
    rcases o1.2 with ⟨h', _⟩ | ⟨g', cap', cur, h', hb, hg, hn1, hcc, hss, ht⟩
    · simp at h'
    · simp only [Value.slice.injEq, Option.some.injEq, Addr.mk.injEq, and_true, true_and] at h'
      obtain ⟨h1, h2⟩ := h'
      rw [← h1] at hg
      exact ⟨cur.toList, by rw [Array.length_toList, hss, ← h2]; omega, by simpa using hg⟩
  obtain ⟨ys, hyl, hhy⟩ := hh1
  clear o1 gr1
  go_wp2_with (first
    | (refine wpList_copy_splice rfl _ _ 26 26 rfl 9 Try.underlying26 size9 _ _ _ _ _ _ rfl rfl w.heap.size 0 ys 9 hhy (strsV ss) (by simp) (fun h0 => ⟨rfl, HP.out w1 hb1 h0⟩) (by simp [hyl]) (strs_oneCell ss) w.heap.size w hb1 (Nat.le_refl _) ?_))
  intro w2 hh2 hb2
  have o2 : w2.ownsRow w.heap.size 9 1 (.slice (some ⟨w.heap.size, 0, none⟩) ss.length ss.length) ss.length (strsV ss) := by
    have := hh2.out
    rw [show splice ys 0 (strsV ss) = strsV ss by simp [splice, hyl]] at this
    exact ⟨by simp, .inr ⟨_, _, _, rfl, Nat.le_refl _, this, Nat.le_refl _, by unfold maxLen; omega, by simp, by simp [← length_strsV]⟩⟩
  clear hh2 hhy hyl hb1 HP
  go_wp2_with (first
    | (go_at_call 81; refine (hsort _ o2).mono ?_; rintro e w3 ⟨rfl, o3, g3⟩
       have c3 : Below w.heap.size w w3 := Below.grown hb2 g3 hb2.size (fun j hj => by simp at hj; omega)
       clear hsort)
    | (go_at_call 82; refine (hcomp _ o3).mono ?_; rintro e w4 ⟨rfl, o4, g4⟩
       have c4 : Below w.heap.size w w4 := Below.grown c3 g4 c3.size (fun j hj => by simp at hj; omega)
       clear hcomp o3))
  go_loopw [18] (fun vi wr => ∃ k : Nat, k ≤ rs.length ∧ vi = .int .i64 (k : Int) ∧ wr.ownsRow w.heap.size 9 1 (.slice (some ⟨w.heap.size, 0, none⟩) rs.length ss.length) rs.length (strsV rs) ∧ Below w.heap.size w wr) (fun vi _ => rs.length - (intOf vi).toNat)
  case atStart => exact ⟨0, Nat.zero_le _, rfl, o4, c4⟩
  case round =>
    obtain ⟨k, hk, rfl, hown, hbr⟩ := hrel
    clear o4 c4 g3 g4 c3 hb2 o2
    by_cases hlt' : k < rs.length
    · have hcx : wr.cell? ⟨w.heap.size, k, none⟩ = some (.string rs[k]) := by
        rw [hown.cellAt k (by omega), strsV_at rs k hlt']
      have hki : (k : Int) < (rs.length : Int) := by omega
      have htz := hss rs[k] (List.getElem_mem hlt')
      have hset : (strsV rs).set k (.string rs[k]) = strsV rs := by
        apply List.ext_getElem?
        intro i
        rw [List.getElem?_set]
        by_cases e : k = i
        · subst e; rw [if_pos rfl, if_pos (by simpa using hlt'), strsV_at rs k hlt']
        · rw [if_neg e]
      obtain ⟨t, ht⟩ : ∃ t, t = rs[k] := ⟨_, rfl⟩
      rw [← ht] at hcx htz hset
      have HS : Hid ((strsV rs).set k (.string t) = strsV rs) := hset
      clear ht hset hss
      go_wp2_with (
        go_at_call 50
        refine (cloneB_c t _ htz).mono ?_
        rintro e w5 ⟨rfl, b5⟩
        have hown5 := owns_of_below hown b5
        have hcx5 : w5.cell? ⟨w.heap.size, k, none⟩ = some (.string t) := (b5.cell (p := ⟨w.heap.size, k, none⟩) (hown.lt w.heap.size rfl).2).trans hcx
        have hfr := hown5.frozenAt k
        have hbr5 := hbr.trans (b5.mono hbr.size)
        clear hown hcx hbr)
      go_roundw
      case rel => exact ⟨k + 1, by omega, by go_num, (by have := (hown5.stored k (.string t)).1; rw [HS.out] at this; exact this), hbr5.setCell (p := ⟨w.heap.size, k, none⟩) (Nat.le_refl _) _⟩
      case measure => simp [intOf]; omega
    · have he : k = rs.length := by omega
      subst he
      go_wp2
      go_ret
      exact ⟨_, rfl, hown, hbr⟩
end Go.Proofs.Ytkkhnldhipfneaa

/-! Copies of needs and entries, as the program makes them: contracts for the walks; conditions: they lie in memory, and hold at most 2 to the 20. -/
namespace Go.Proofs.Ytkkhnldhipfneaa
open Go.RowKit
set_option linter.unusedSimpArgs false
set_option linter.unusedVariables false

/-- The cells of needs. -/
def needsV (xs : List NeedD) : List Value := xs.flatMap fun d => [.string d.n, .string d.r]
theorem needsV_length (xs : List NeedD) : (needsV xs).length = xs.length * 2 := by
  induction xs with
  | nil => rfl
  | cons d l ih => simp only [needsV, List.flatMap_cons, List.length_append, List.length_cons, List.length_nil] at *; omega
theorem needsV_append (xs ys : List NeedD) : needsV xs ++ needsV ys = needsV (xs ++ ys) := by simp [needsV]
theorem needsV_take (xs : List NeedD) (k : Nat) (h : k < xs.length) : needsV (xs.take k) ++ [.string xs[k].n, .string xs[k].r] = needsV (xs.take (k + 1)) := by
  rw [List.take_succ_eq_append_getElem h, ← needsV_append]; rfl
theorem needsV_at (xs : List NeedD) : ∀ i (h : i < xs.length), (needsV xs)[i * 2]? = some (.string xs[i].n) ∧ (needsV xs)[i * 2 + 1]? = some (.string xs[i].r) := by
  induction xs with
  | nil => intro i h; simp at h
  | cons d l ih =>
    intro i h
    have e : needsV (d :: l) = [.string d.n, .string d.r] ++ needsV l := by simp [needsV]
    cases i with
    | zero => rw [e]; simp
    | succ i =>
      have h' := ih i (by simpa using h)
      rw [e, List.getElem?_append_right (by simp; omega), List.getElem?_append_right (by simp; omega)]
      simp only [List.length_cons, List.length_nil]
      rw [show (i + 1) * 2 - (0 + 1 + 1) = i * 2 by omega, show (i + 1) * 2 + 1 - (0 + 1 + 1) = i * 2 + 1 by omega]
      simpa using h'
theorem needs_own {w : World} {lo : Nat} {v : Value} {xs : List NeedD} (h : w.ownsRow lo 125 2 v xs.length (needsV xs)) (hl : xs.length ≤ maxLen) (hs : ∀ d ∈ xs, d.n.size ≤ maxLen ∧ d.r.size ≤ maxLen) : RowOwn shNeed 125 (Ow lo w.heap.size) w v xs := by
  refine ⟨hl, needsV xs, owns_lo (Nat.zero_le _) h, owns_in h, fun i hi _ => ⟨[.string xs[i].n, .string xs[i].r], rfl, ⟨rfl, hs _ (List.getElem_mem hi)⟩, fun j hj => ?_⟩⟩
  obtain ⟨h1, h2⟩ := needsV_at xs i hi
  match j, hj with
  | 0, _ => exact h1
  | 1, _ => exact h2

theorem owns_of_belowN {w w' : World} {lo sz n : Nat} {e : TypeId} {v : Value} {xs : List Value} (h : w.ownsRow lo e sz v n xs) (hb : Below w.heap.size w w') : w'.ownsRow lo e sz v n xs := h.kept (grown_of_below hb none) (by cases hq : v.ownBlock <;> simp)
theorem cells_put {w : World} {N M : Nat} {o : Obj} (h : w.heap[N]? = some o) (hne : N ≠ M) (j : Nat) (v : Value) : (w.setCell ⟨M, j, none⟩ v).heap[N]? = some o := (Below.heap_setCell w ⟨M, j, none⟩ v N (by simpa using hne)).trans h
theorem two_src (w : World) (c0 c1 : Value) : ∀ j u, ([c0, c1] : List Value)[j]? = some u → (w.alloc (.cells #[c0, c1] 125)).cell? ((⟨w.heap.size, 0, none⟩ : Addr).add j) = some u := fun j u hu => by
  have e : ((⟨w.heap.size, 0, none⟩ : Addr).add j) = ⟨w.heap.size, j, none⟩ := by unfold Addr.add; split <;> simp_all
  rw [e, vblk_cell (vheap_new _ _) j]
  simpa using hu

end Go.Proofs.Ytkkhnldhipfneaa

/-! A value as a tree, how much it holds, and what it means that it lies in memory below a block number; no condition but those told. -/
namespace Go.Proofs.Ytkkhnldhipfneaa
open Go.RowKit
set_option linter.unusedSimpArgs false
set_option linter.unusedVariables false

inductive Tree where
  | mk (k n : Int) (s : ByteArray) (l : List Tree) (keys : List ByteArray) : Tree

theorem Tree.ind {P : Tree → Prop} (h : ∀ k n s l ks, (∀ U ∈ l, P U) → P (.mk k n s l ks)) : ∀ T, P T
  | .mk k n s l ks => h k n s l ks (fun U _ => Tree.ind h U)
  termination_by T => SizeOf.sizeOf T
  decreasing_by
    rename_i hU
    have := List.sizeOf_lt_of_mem hU
    simp
    omega

mutual
def Tree.wt : Tree → Nat
  | .mk _ _ s l ks => s.size + (wtL l + bulkS ks)
def wtL : List Tree → Nat
  | [] => 0
  | t :: r => 1 + t.wt + wtL r
end

theorem wtL_append (a b : List Tree) : wtL (a ++ b) = wtL a + wtL b := by
  induction a with
  | nil => simp [wtL]
  | cons t r ih => simp only [List.cons_append, wtL, ih]; omega

theorem wtL_take_succ (l : List Tree) (k : Nat) (h : k < l.length) : wtL (l.take (k + 1)) = wtL (l.take k) + 1 + (l[k]).wt := by
  rw [List.take_succ_eq_append_getElem h, wtL_append]
  simp [wtL]; omega

theorem wtL_take_le (l : List Tree) (k : Nat) : wtL (l.take k) ≤ wtL l := by
  conv => rhs; rw [← List.take_append_drop k l, wtL_append]
  omega

theorem length_le_wtL (l : List Tree) : l.length ≤ wtL l := by
  induction l with
  | nil => simp
  | cons t r ih => simp only [List.length_cons, wtL]; omega

theorem wtL_take_rest (l : List Tree) (k : Nat) : wtL (l.take k) + (l.length - k) ≤ wtL l := by
  conv => rhs; rw [← List.take_append_drop k l, wtL_append]
  have := length_le_wtL (l.drop k)
  simp at this
  omega

theorem wt_le_wtL {l : List Tree} {U : Tree} (h : U ∈ l) : U.wt + 1 ≤ wtL l := by
  induction l with
  | nil => simp at h
  | cons t r ih =>
    simp only [List.mem_cons] at h
    simp only [wtL]
    rcases h with rfl | h
    · omega
    · have := ih h; omega

/-- In blocks of S the world w' is as w was. -/
def KeptIn (S : Nat → Prop) (w w' : World) : Prop := ∀ b, S b → w'.heap[b]? = w.heap[b]?
theorem KeptIn.cell {S : Nat → Prop} {w w' : World} (h : KeptIn S w w') {b : Nat} (hb : S b) (o : Nat) : w'.cell? ⟨b, o, none⟩ = w.cell? ⟨b, o, none⟩ := World.cell?_of_block (w := w) (h b hb)
theorem KeptIn.trans {S : Nat → Prop} {a b c : World} (h : KeptIn S a b) (k : KeptIn S b c) : KeptIn S a c := fun i hi => (k i hi).trans (h i hi)
theorem KeptIn.of {S : Nat → Prop} {B : Nat} {w w' : World} (hb : Below B w w') (hS : ∀ b, S b → b < B) : KeptIn S w w' := fun b h => hb.block b (hS b h)

/-- A list of texts that lies in blocks of S. -/
def ReadsB (S : Nat → Prop) (w : World) (v : Value) (xs : List Value) : Prop :=
  ∃ a cap, v = .slice a xs.length cap ∧ xs.length ≤ cap ∧ (xs = [] ∨ ∃ b off, a = some ⟨b, off, none⟩ ∧ S b ∧ ∀ k (h : k < xs.length), w.cell? ⟨b, off + k, none⟩ = some xs[k])

theorem ReadsB.reads {S : Nat → Prop} {w : World} {v : Value} {xs : List Value} (h : ReadsB S w v xs) (hS : ∀ b, S b → b < w.heap.size) : Reads w v xs := by
  obtain ⟨a, cap, hv, hc, h⟩ := h
  refine ⟨a, cap, hv, hc, ?_⟩
  rcases h with h | ⟨b, off, ha, hb, h⟩
  · exact .inl h
  · exact .inr ⟨b, off, ha, hS b hb, h⟩

theorem ReadsB.of {w : World} {v : Value} {xs : List Value} (h : Reads w v xs) : ReadsB (· < w.heap.size) w v xs := h

theorem ReadsB.keep {S : Nat → Prop} {w w' : World} {v : Value} {xs : List Value} (hb : KeptIn S w w') (h : ReadsB S w v xs) : ReadsB S w' v xs := by
  obtain ⟨a, cap, hv, hc, h⟩ := h
  refine ⟨a, cap, hv, hc, ?_⟩
  rcases h with h | ⟨b, off, ha, hlt, h⟩
  · exact .inl h
  · exact .inr ⟨b, off, ha, hlt, fun k hk => (hb.cell hlt _).trans (h k hk)⟩

theorem ReadsB.mono {S S' : Nat → Prop} {w : World} {v : Value} {xs : List Value} (hB : ∀ b, S b → S' b) (h : ReadsB S w v xs) : ReadsB S' w v xs := by
  obtain ⟨a, cap, hv, hc, h⟩ := h
  refine ⟨a, cap, hv, hc, ?_⟩
  rcases h with h | ⟨b, off, ha, hlt, h⟩
  · exact .inl h
  · exact .inr ⟨b, off, ha, hB b hlt, h⟩

def saneS (ks : List ByteArray) : Prop := ks.length ≤ maxLen ∧ ∀ s ∈ ks, s.size ≤ maxLen

/-- The value v is the tree T, all of whose memory lies in blocks of S. -/
inductive Lies (S : Nat → Prop) (w : World) : Value → Tree → Prop
  | mk (k n : Int) (s : ByteArray) (l : List Tree) (ks : List ByteArray) (a : Option Addr) (cap : Nat) (u : Value) (C : Nat → Nat → Value)
      (hs : s.size ≤ maxLen) (hl : l.length ≤ maxLen) (hk : saneS ks) (hc : l.length ≤ cap) (hu : ReadsB S w u (strsV ks))
      (ha : l = [] ∨ ∃ b off, a = some ⟨b, off, none⟩ ∧ S b ∧ ∀ i, i < l.length → ∀ j, j < 5 → w.cell? ⟨b, off + i * 5 + j, none⟩ = some (C i j))
      (hC : ∀ i (h : i < l.length), Lies S w (.agg #[C i 0, C i 1, C i 2, C i 3, C i 4]) l[i]) :
      Lies S w (.agg #[.int .i64 k, .int .i64 n, .string s, .slice a l.length cap, u]) (.mk k n s l ks)

/-- The list of values v is l. -/
def LiesL (S : Nat → Prop) (w : World) (v : Value) (l : List Tree) : Prop :=
  ∃ a cap, ∃ C : Nat → Nat → Value, v = .slice a l.length cap ∧ l.length ≤ maxLen ∧ l.length ≤ cap ∧
    (l = [] ∨ ∃ b off, a = some ⟨b, off, none⟩ ∧ S b ∧ ∀ i, i < l.length → ∀ j, j < 5 → w.cell? ⟨b, off + i * 5 + j, none⟩ = some (C i j)) ∧
    ∀ i (h : i < l.length), Lies S w (.agg #[C i 0, C i 1, C i 2, C i 3, C i 4]) l[i]

theorem Lies.out {S : Nat → Prop} {w : World} {v : Value} {k n : Int} {s : ByteArray} {l : List Tree} {ks : List ByteArray} (h : Lies S w v (.mk k n s l ks)) :
    ∃ c u, v = .agg #[.int .i64 k, .int .i64 n, .string s, c, u] ∧ s.size ≤ maxLen ∧ saneS ks ∧ LiesL S w c l ∧ ReadsB S w u (strsV ks) := by
  cases h with
  | mk k n s l ks a cap u C hs hl hk hc hu ha hC => exact ⟨_, u, rfl, hs, hk, ⟨a, cap, C, rfl, hl, hc, ha, hC⟩, hu⟩

theorem Lies.of {S : Nat → Prop} {w : World} {c u : Value} {k n : Int} {s : ByteArray} {l : List Tree} {ks : List ByteArray} (hs : s.size ≤ maxLen) (hk : saneS ks) (hl : LiesL S w c l) (hu : ReadsB S w u (strsV ks)) :
    Lies S w (.agg #[.int .i64 k, .int .i64 n, .string s, c, u]) (.mk k n s l ks) := by
  obtain ⟨a, cap, C, rfl, hl, hc, ha, hC⟩ := hl
  exact .mk k n s l ks a cap u C hs hl hk hc hu ha hC

theorem LiesL.mk_keep {S : Nat → Prop} {w w' : World} {v : Value} {l : List Tree} (hb : KeptIn S w w') (hi : ∀ U ∈ l, ∀ x, Lies S w x U → Lies S w' x U) (h : LiesL S w v l) : LiesL S w' v l := by
  obtain ⟨a, cap, C, rfl, hl, hc, ha, hC⟩ := h
  refine ⟨a, cap, C, rfl, hl, hc, ?_, fun i h => hi _ (List.getElem_mem h) _ (hC i h)⟩
  rcases ha with ha | ⟨b, off, ha, hlt, hcell⟩
  · exact .inl ha
  · exact .inr ⟨b, off, ha, hlt, fun i hi j hj => (hb.cell hlt _).trans (hcell i hi j hj)⟩

theorem Lies.keep {S : Nat → Prop} {w w' : World} (hb : KeptIn S w w') : ∀ {T : Tree} {v : Value}, Lies S w v T → Lies S w' v T := by
  have h := Tree.ind (P := fun T => ∀ v, Lies S w v T → Lies S w' v T) ?_
  · exact fun {T v} hx => h T v hx
  intro k n s l ks ih v h
  obtain ⟨c, u, rfl, hs, hk, hl, hu⟩ := h.out
  exact Lies.of hs hk (hl.mk_keep hb ih) (hu.keep hb)

theorem LiesL.keep {S : Nat → Prop} {w w' : World} {v : Value} {l : List Tree} (hb : KeptIn S w w') (h : LiesL S w v l) : LiesL S w' v l :=
  h.mk_keep hb fun U _ x hx => Lies.keep hb hx

theorem LiesL.mk_mono {S S' : Nat → Prop} {w : World} {v : Value} {l : List Tree} (hB : ∀ b, S b → S' b) (hi : ∀ U ∈ l, ∀ x, Lies S w x U → Lies S' w x U) (h : LiesL S w v l) : LiesL S' w v l := by
  obtain ⟨a, cap, C, rfl, hl, hc, ha, hC⟩ := h
  refine ⟨a, cap, C, rfl, hl, hc, ?_, fun i h => hi _ (List.getElem_mem h) _ (hC i h)⟩
  rcases ha with ha | ⟨b, off, ha, hlt, hcell⟩
  · exact .inl ha
  · exact .inr ⟨b, off, ha, hB b hlt, hcell⟩

theorem Lies.mono {S S' : Nat → Prop} {w : World} (hB : ∀ b, S b → S' b) : ∀ {T : Tree} {v : Value}, Lies S w v T → Lies S' w v T := by
  have h := Tree.ind (P := fun T => ∀ v, Lies S w v T → Lies S' w v T) ?_
  · exact fun {T v} hx => h T v hx
  intro k n s l ks ih v h
  obtain ⟨c, u, rfl, hs, hk, hl, hu⟩ := h.out
  exact Lies.of hs hk (hl.mk_mono hB ih) (hu.mono hB)

theorem LiesL.mono {S S' : Nat → Prop} {w : World} {v : Value} {l : List Tree} (hB : ∀ b, S b → S' b) (h : LiesL S w v l) : LiesL S' w v l :=
  h.mk_mono hB fun U _ x hx => Lies.mono hB hx

/-- What is at place i of a list of values: five cells, which are the tree there. -/
theorem LiesL.at {S : Nat → Prop} {w : World} {v : Value} {l : List Tree} (h : LiesL S w v l) :
    ∃ a cap, v = .slice a l.length cap ∧ l.length ≤ maxLen ∧ l.length ≤ cap ∧ (l = [] ∨ ∃ b off, a = some ⟨b, off, none⟩ ∧ S b ∧ ∀ i (h : i < l.length), ∃ c0 c1 c2 c3 c4,
      w.cell? ⟨b, off + i * 5, none⟩ = some c0 ∧ w.cell? ⟨b, off + i * 5 + 1, none⟩ = some c1 ∧ w.cell? ⟨b, off + i * 5 + 2, none⟩ = some c2 ∧ w.cell? ⟨b, off + i * 5 + 3, none⟩ = some c3 ∧ w.cell? ⟨b, off + i * 5 + 4, none⟩ = some c4 ∧
      Lies S w (.agg #[c0, c1, c2, c3, c4]) l[i]) := by
  obtain ⟨a, cap, C, rfl, hl, hc, ha, hC⟩ := h
  refine ⟨a, cap, rfl, hl, hc, ?_⟩
  rcases ha with ha | ⟨b, off, ha, hlt, hcell⟩
  · exact .inl ha
  · refine .inr ⟨b, off, ha, hlt, fun i hi => ⟨C i 0, C i 1, C i 2, C i 3, C i 4, ?_, ?_, ?_, ?_, ?_, hC i hi⟩⟩
    · simpa using hcell i hi 0 (by omega)
    · exact hcell i hi 1 (by omega)
    · exact hcell i hi 2 (by omega)
    · exact hcell i hi 3 (by omega)
    · exact hcell i hi 4 (by omega)

/-- A parameter that was put into a block of its own is still there behind a call. -/
theorem box5 {w w1 : World} {c0 c1 c2 c3 c4 : Value} {t : TypeId} (hb : Below (w.alloc (.cells #[c0, c1, c2, c3, c4] t)).heap.size (w.alloc (.cells #[c0, c1, c2, c3, c4] t)) w1) :
    w1.cell? ⟨w.heap.size, 0, none⟩ = some c0 ∧ w1.cell? ⟨w.heap.size, 1, none⟩ = some c1 ∧ w1.cell? ⟨w.heap.size, 2, none⟩ = some c2 ∧ w1.cell? ⟨w.heap.size, 3, none⟩ = some c3 ∧ w1.cell? ⟨w.heap.size, 4, none⟩ = some c4 := by
  have h : ∀ j, w1.cell? ⟨w.heap.size, j, none⟩ = (#[c0, c1, c2, c3, c4] : Array Value)[j]? := fun j => by
    rw [hb.cell (p := ⟨w.heap.size, j, none⟩) (by simp)]
    have e : (w.alloc (.cells #[c0, c1, c2, c3, c4] t)).heap[w.heap.size]? = some (.cells #[c0, c1, c2, c3, c4] t) := by show (w.heap.push _)[w.heap.size]? = _; simp
    simp only [World.cell?, e]; rfl
  exact ⟨h 0, h 1, h 2, h 3, h 4⟩

theorem heap_new (w : World) (o : Obj) : (w.alloc o).heap[w.heap.size]? = some o := by show (w.heap.push _)[w.heap.size]? = _; simp
theorem heap_old (w : World) (o : Obj) {b : Nat} (h : b < w.heap.size) : (w.alloc o).heap[b]? = w.heap[b]? := Below.heap_alloc w o b h
theorem three {w w1 : World} {A R O : Obj} (hb : Below (((w.alloc A).alloc R).alloc O).heap.size (((w.alloc A).alloc R).alloc O) w1) :
    w1.heap[w.heap.size]? = some A ∧ w1.heap[w.heap.size + 1]? = some R ∧ w1.heap[w.heap.size + 1 + 1]? = some O := by
  have s1 : (w.alloc A).heap.size = w.heap.size + 1 := by simp
  have s2 : ((w.alloc A).alloc R).heap.size = w.heap.size + 1 + 1 := by simp
  refine ⟨?_, ?_, ?_⟩
  · rw [hb.block _ (by simp; omega), heap_old _ _ (by simp; omega), heap_old _ _ (by simp), heap_new]
  · rw [hb.block _ (by simp), heap_old _ _ (by simp), ← s1, heap_new]
  · rw [hb.block _ (by simp), ← s2, heap_new]
theorem blk_cell {w : World} {b : Nat} {cs : Array Value} {t : TypeId} (h : w.heap[b]? = some (.cells cs t (0, 0))) (j : Nat) : w.cell? ⟨b, j, none⟩ = cs[j]? := cell_of_row w b j cs t (0, 0) h
theorem blk_frozen {w : World} {b : Nat} {cs : Array Value} {t : TypeId} (h : w.heap[b]? = some (.cells cs t (0, 0))) (j : Nat) : w.frozen? ⟨b, j, none⟩ = false := frozen_of_row w b j cs t h
theorem blk_set {w : World} {b : Nat} {cs : Array Value} {t : TypeId} (h : w.heap[b]? = some (.cells cs t (0, 0))) (j : Nat) (v : Value) : (w.setCell ⟨b, j, none⟩ v).heap[b]? = some (.cells (cs.setIfInBounds j v) t (0, 0)) := heap_setCell_same w b j cs t v h

#print axioms Lies.keep
end Go.Proofs.Ytkkhnldhipfneaa

/-! How much a value holds, as the law's own helper reckons it: a contract for every value that lies in memory. -/
namespace Go.Proofs.Ytkkhnldhipfneaa
open Go.RowKit
set_option linter.unusedSimpArgs false
set_option linter.unusedVariables false

set_option maxHeartbeats 1000000 in
set_option maxRecDepth 100000 in
theorem sizeStrsT_c (v : Value) (ss : List ByteArray) (w : World) (left : Int) (hl0 : 0 ≤ left) (hl1 : left ≤ 1048576) (hv : Reads w v (strsV ss)) (hn : ss.length ≤ maxLen) (hs : ∀ s ∈ ss, s.size ≤ maxLen) :
    Calls Try.prog 51 #[v, .int .i64 left] w fun e w' => e = .returned (.int .i64 (leftS ss left)) ∧ w = w' := by
  obtain ⟨a, cap, rfl, _, hc⟩ := reads_strs hv
  clear hv
  unfold maxLen at hn hs
  by_cases h0 : left < (ss.length : Int)
  · have hneg : left - (ss.length : Int) < 0 := by omega
    have e : leftS ss left = -1 := by rw [leftS, bulkS, if_neg (by omega)]
    rw [e]
    clear hc hs
    go_enter Try.func51, Try.ntmps51
    go_wp2
    go_ret
    exact ⟨rfl, rfl⟩
  · have hpos : ¬ (left - (ss.length : Int) < 0) := by omega
    rcases hc with rfl | ⟨b, off, rfl, hlt, hc⟩
    · go_enter Try.func51, Try.ntmps51
      go_wp2
      go_loop [1, 5] (fun vl vi => vl = .int .i64 left ∧ vi = .int .i64 0) (fun _ _ => 0)
      case atStart => exact ⟨rfl, rfl⟩
      case round =>
        obtain ⟨rfl, rfl⟩ := hrel
        go_wp2
        go_ret
        exact ⟨by rw [show leftS [] left = left by simp [leftS, bulkS, hl0]]; rfl, rfl⟩
    · go_enter Try.func51, Try.ntmps51
      go_wp2
      go_loop [1, 5] (fun vl vi => ∃ (k : Nat) (l : Int), k ≤ ss.length ∧ vi = .int .i64 (k : Int) ∧ vl = .int .i64 l ∧ 0 ≤ l ∧ l ≤ 1048576 ∧ Hid (l = left - (ss.length : Int) - (((ss.take k).map ByteArray.size).sum : Int))) (fun _ vi => ss.length - (intOf vi).toNat)
      case atStart => exact ⟨0, _, Nat.zero_le _, rfl, rfl, by omega, by omega, by show _ = _; simp⟩
      case round =>
        obtain ⟨k, l, hk, rfl, rfl, hq0, hq1, hl⟩ := hrel
        by_cases hlt' : k < ss.length
        · have hcx := hc k hlt'
          have hsk := hs ss[k] (List.getElem_mem hlt')
          have hsum := sum_take_succ ss k hlt'
          obtain ⟨t, ht⟩ : ∃ t, t = ss[k] := ⟨_, rfl⟩
          rw [← ht] at hcx hsk hsum
          have HS : Hid (((ss.take (k + 1)).map ByteArray.size).sum = ((ss.take k).map ByteArray.size).sum + t.size) := hsum
          have hki : (k : Int) < (ss.length : Int) := by omega
          clear hc hs ht hsum
          by_cases hneg : l - (t.size : Int) < 0
          · have e : leftS ss left = -1 := by
              have h1 := HS.out; have h2 := hl.out; have h3 := sum_take_le ss (k + 1)
              rw [leftS, bulkS, if_neg (by omega)]
            have HE : Hid (leftS ss left = -1) := e
            clear e
            go_wp2
            go_ret
            exact ⟨by rw [HE.out]; rfl, rfl⟩
          · go_wp2
            go_round
            case rel => exact ⟨k + 1, l - (t.size : Int), by omega, by go_num, rfl, by omega, by omega, (by show _ = _; rw [HS.out, hl.out]; omega)⟩
            case measure => simp [intOf]; omega
        · have he : k = ss.length := by omega
          subst he
          have e : leftS ss left = l := by
            have h2 := hl.out
            rw [List.take_length] at h2
            rw [leftS, bulkS, if_pos (by omega)]; omega
          have HE : Hid (leftS ss left = l) := e
          clear hc hs e
          go_wp2
          go_ret
          exact ⟨by rw [HE.out]; rfl, rfl⟩
def leftN (n : Nat) (left : Int) : Int := if (n : Int) ≤ left then left - (n : Int) else -1
theorem leftN_bad {n : Nat} {left : Int} (h : left < (n : Int)) : leftN n left = -1 := by unfold leftN; rw [if_neg (by omega)]
theorem leftN_good {n : Nat} {left : Int} (h : (n : Int) ≤ left) : leftN n left = left - (n : Int) := by unfold leftN; rw [if_pos h]
theorem leftS_N (ks : List ByteArray) (left : Int) : leftS ks left = leftN (bulkS ks) left := rfl
theorem wt_mk (k n : Int) (s : ByteArray) (l : List Tree) (ks : List ByteArray) : (Tree.mk k n s l ks).wt = s.size + (wtL l + bulkS ks) := by rw [Tree.wt]

end Go.Proofs.Ytkkhnldhipfneaa

/-! A value copied into memory of its own, as the law's helper does it: a contract for every value that lies in memory and holds at most 2 to the 20. -/
namespace Go.Proofs.Ytkkhnldhipfneaa
open Go.RowKit
set_option linter.unusedSimpArgs false
set_option linter.unusedVariables false

/-- The blocks from lo on, below hi. -/
def Own (lo hi : Nat) (b : Nat) : Prop := lo ≤ b ∧ b < hi
theorem Own.set {lo hi : Nat} {w : World} {g j : Nat} {v : Value} (h : g < lo) : KeptIn (Own lo hi) w (w.setCell ⟨g, j, none⟩ v) := fun b hb => Below.heap_setCell w ⟨g, j, none⟩ v b (by have := hb.1; simp; omega)
theorem Own.below {lo : Nat} {w w' : World} (h : Below w.heap.size w w') : KeptIn (Own lo w.heap.size) w w' := fun b hb => h.block b hb.2
theorem Own.mono {lo lo' hi hi' : Nat} (h1 : lo' ≤ lo) (h2 : hi ≤ hi') : ∀ b, Own lo hi b → Own lo' hi' b := fun b h => ⟨Nat.le_trans h1 h.1, Nat.lt_of_lt_of_le h.2 h2⟩

theorem readsB_of_owns {w : World} {base : Nat} {e : TypeId} {v : Value} {n : Nat} {xs : List Value} (h : w.ownsRow base e 1 v n xs) : ReadsB (Own base w.heap.size) w v xs := by
  have h0 := reads_of_owns h
  obtain ⟨a, cap, hv, hc, hx⟩ := h0
  refine ⟨a, cap, hv, hc, ?_⟩
  rcases hx with hx | ⟨b, off, rfl, hlt, hx⟩
  · exact .inl hx
  · refine .inr ⟨b, off, rfl, ⟨?_, hlt⟩, hx⟩
    rcases h.2 with ⟨hn, _⟩ | ⟨g, cap', cur, hv', hg, _⟩
    · rw [hn] at hv; simp at hv
    · rw [hv'] at hv
      simp only [Value.slice.injEq, Option.some.injEq, Addr.mk.injEq] at hv
      omega

theorem toVal_facts {w1 w2 : World} {N : Nat} {t t' : TypeId} {x o0 o1 o2 o3 o4 r0 r1 r2 r3 r4 : Value} (hR : w1.heap[N + 1]? = some (.cells #[r0, r1, r2, r3, r4] t)) (hO : w1.heap[N + 1 + 1]? = some (.cells #[o0, o1, o2, o3, o4] t'))
    (hb : Below (w1.setCell ⟨N + 1 + 1, 3, none⟩ x).heap.size (w1.setCell ⟨N + 1 + 1, 3, none⟩ x) w2) :
    (w2.cell? ⟨N + 1 + 1, 0, none⟩ = some o0 ∧ w2.cell? ⟨N + 1 + 1, 1, none⟩ = some o1 ∧ w2.cell? ⟨N + 1 + 1, 2, none⟩ = some o2 ∧ w2.cell? ⟨N + 1 + 1, 3, none⟩ = some x ∧ w2.cell? ⟨N + 1 + 1, 4, none⟩ = some o4) ∧
    (w2.cell? ⟨N + 1, 0, none⟩ = some r0 ∧ w2.cell? ⟨N + 1, 1, none⟩ = some r1 ∧ w2.cell? ⟨N + 1, 2, none⟩ = some r2 ∧ w2.cell? ⟨N + 1, 3, none⟩ = some r3 ∧ w2.cell? ⟨N + 1, 4, none⟩ = some r4) ∧
    (∀ j, w2.frozen? ⟨N + 1 + 1, j, none⟩ = false) ∧ (∀ j, w2.frozen? ⟨N + 1, j, none⟩ = false) := by
  have l1 : N + 1 < w1.heap.size := (Array.getElem?_eq_some_iff.1 hR).1
  have l2 : N + 1 + 1 < w1.heap.size := (Array.getElem?_eq_some_iff.1 hO).1
  have s1 : (w1.setCell ⟨N + 1 + 1, 3, none⟩ x).heap.size = w1.heap.size := by simp [World.setCell]
  have eO := blk_set hO 3 x
  have eR : (w1.setCell ⟨N + 1 + 1, 3, none⟩ x).heap[N + 1]? = _ := (Below.heap_setCell w1 ⟨N + 1 + 1, 3, none⟩ x (N + 1) (by simp)).trans hR
  rw [← hb.block _ (by rw [s1]; exact l2)] at eO
  rw [← hb.block _ (by rw [s1]; exact l1)] at eR
  exact ⟨⟨blk_cell eO 0, blk_cell eO 1, blk_cell eO 2, blk_cell eO 3, blk_cell eO 4⟩, ⟨blk_cell eR 0, blk_cell eR 1, blk_cell eR 2, blk_cell eR 3, blk_cell eR 4⟩, blk_frozen eO, blk_frozen eR⟩

def cellsAt (ys : List Value) (i : Nat) : Value := .agg #[ys.getD (i * 5) undef, ys.getD (i * 5 + 1) undef, ys.getD (i * 5 + 2) undef, ys.getD (i * 5 + 3) undef, ys.getD (i * 5 + 4) undef]

def set5 (ys : List Value) (i : Nat) (c0 c1 c2 c3 c4 : Value) : List Value := ((((ys.set (i * 5) c0).set (i * 5 + 1) c1).set (i * 5 + 2) c2).set (i * 5 + 3) c3).set (i * 5 + 4) c4

theorem cellsAt_same (ys : List Value) (i : Nat) (c0 c1 c2 c3 c4 : Value) (h : i * 5 + 4 < ys.length) : cellsAt (set5 ys i c0 c1 c2 c3 c4) i = .agg #[c0, c1, c2, c3, c4] := by
  simp [cellsAt, set5, List.getD_eq_getElem?_getD, List.getElem?_set, h, show i * 5 < ys.length by omega, show i * 5 + 1 < ys.length by omega, show i * 5 + 2 < ys.length by omega, show i * 5 + 3 < ys.length by omega]

theorem getD_set_ne (ys : List Value) (a b : Nat) (v : Value) (h : a ≠ b) : (ys.set a v).getD b undef = ys.getD b undef := by
  simp [List.getD_eq_getElem?_getD, List.getElem?_set, h]

theorem cellsAt_other (ys : List Value) (i j : Nat) (c0 c1 c2 c3 c4 : Value) (h : j < i) : cellsAt (set5 ys i c0 c1 c2 c3 c4) j = cellsAt ys j := by
  have e : ∀ q, q < 5 → (set5 ys i c0 c1 c2 c3 c4).getD (j * 5 + q) undef = ys.getD (j * 5 + q) undef := fun q hq => by
    unfold set5
    rw [getD_set_ne _ _ _ _ (by omega), getD_set_ne _ _ _ _ (by omega), getD_set_ne _ _ _ _ (by omega), getD_set_ne _ _ _ _ (by omega), getD_set_ne _ _ _ _ (by omega)]
  have e0 := e 0 (by omega)
  rw [Nat.add_zero] at e0
  simp only [cellsAt, e0, e 1 (by omega), e 2 (by omega), e 3 (by omega), e 4 (by omega)]

end Go.Proofs.Ytkkhnldhipfneaa

/-! A list of values copied into memory of its own; with it every value: a contract for what lies in memory and holds at most 2 to the 20. -/
namespace Go.Proofs.Ytkkhnldhipfneaa
open Go.RowKit
set_option linter.unusedSimpArgs false
set_option linter.unusedVariables false

/-- What lies in memory, with its two lists written out. -/
theorem Lies.parts {S : Nat → Prop} {w : World} {v : Value} {T : Tree} (h : Lies S w v T) :
    ∃ k n s a m cap a' m' cap', v = .agg #[.int .i64 k, .int .i64 n, .string s, .slice a m cap, .slice a' m' cap'] := by
  cases T with
  | mk k n s l ks =>
    obtain ⟨c, u, rfl, hs, hk, ⟨a, cap, C, rfl, _⟩, ⟨a', cap', rfl, _⟩⟩ := h.out
    exact ⟨_, _, _, _, _, _, _, _, _, rfl⟩

end Go.Proofs.Ytkkhnldhipfneaa

/-! Two values that are the same tree are told so by the law's own comparison: a contract for every two that lie in memory. -/
namespace Go.Proofs.Ytkkhnldhipfneaa
open Go.RowKit
set_option linter.unusedSimpArgs false
set_option linter.unusedVariables false

theorem two5 {w w1 : World} {c0 c1 c2 c3 c4 d0 d1 d2 d3 d4 : Value} {t : TypeId} (hb : Below ((w.alloc (.cells #[c0, c1, c2, c3, c4] t)).alloc (.cells #[d0, d1, d2, d3, d4] t)).heap.size ((w.alloc (.cells #[c0, c1, c2, c3, c4] t)).alloc (.cells #[d0, d1, d2, d3, d4] t)) w1) :
    w1.cell? ⟨w.heap.size, 4, none⟩ = some c4 ∧ w1.cell? ⟨w.heap.size + 1, 4, none⟩ = some d4 := by
  have s1 : (w.alloc (.cells #[c0, c1, c2, c3, c4] t)).heap.size = w.heap.size + 1 := by simp
  have h1 : w1.heap[w.heap.size]? = some (.cells #[c0, c1, c2, c3, c4] t) := by rw [hb.block _ (by simp; omega), heap_old _ _ (by simp), heap_new]
  have h2 : w1.heap[w.heap.size + 1]? = some (.cells #[d0, d1, d2, d3, d4] t) := by rw [hb.block _ (by simp), ← s1, heap_new]
  exact ⟨blk_cell h1 4, blk_cell h2 4⟩

end Go.Proofs.Ytkkhnldhipfneaa

/-! Trees of values that may be written, no two rows of which are the same, and such as bear marks: what they are, and that they are kept; no condition. -/
namespace Go.Proofs.Ytkkhnldhipfneaa
open Go.RowKit
set_option linter.unusedSimpArgs false
set_option linter.unusedVariables false

def Tree.kids : Tree → List Tree
  | .mk _ _ _ l _ => l
def Tree.keys : Tree → List ByteArray
  | .mk _ _ _ _ ks => ks
mutual
/-- How many marks a tree takes below its own, and a list of trees. -/
def Tree.cnt : Tree → Nat
  | .mk _ _ _ l ks => 3 + cntL l + ks.length
def cntL : List Tree → Nat
  | [] => 0
  | t :: r => t.cnt + cntL r
end
theorem cnt_eq (T : Tree) : T.cnt = 3 + cntL T.kids + T.keys.length := by
  cases T; rw [Tree.cnt]; rfl
theorem cntL_append (a b : List Tree) : cntL (a ++ b) = cntL a + cntL b := by
  induction a with
  | nil => simp [cntL]
  | cons t r ih => simp only [List.cons_append, cntL, ih]; omega
theorem cntL_take (l : List Tree) (k : Nat) (h : k < l.length) : cntL (l.take (k + 1)) = cntL (l.take k) + l[k].cnt := by
  rw [List.take_succ_eq_append_getElem h, cntL_append]; simp [cntL]
theorem cntL_take_le (l : List Tree) (k : Nat) : cntL (l.take k) ≤ cntL l := by
  conv => rhs; rw [← List.take_append_drop k l, cntL_append]
  omega

/-- From w to w' only blocks of S, and new ones, have changed. -/
structure Chg (S : Nat → Prop) (w w' : World) : Prop where
  os : w'.os = w.os
  tape : w'.tape = w.tape
  output : w'.output = w.output
  size : w.heap.size ≤ w'.heap.size
  block : ∀ b, b < w.heap.size → ¬ S b → w'.heap[b]? = w.heap[b]?
theorem Chg.refl (S : Nat → Prop) (w : World) : Chg S w w := ⟨rfl, rfl, rfl, Nat.le_refl _, fun _ _ _ => rfl⟩
theorem Chg.trans {S : Nat → Prop} {a b c : World} (h : Chg S a b) (k : Chg S b c) : Chg S a c :=
  ⟨k.os.trans h.os, k.tape.trans h.tape, k.output.trans h.output, Nat.le_trans h.size k.size, fun i hi hs => (k.block i (Nat.lt_of_lt_of_le hi h.size) hs).trans (h.block i hi hs)⟩
theorem Chg.mono {S S' : Nat → Prop} {a b : World} (h : Chg S a b) (hs : ∀ b, S b → S' b) : Chg S' a b := ⟨h.os, h.tape, h.output, h.size, fun i hi hn => h.block i hi (fun k => hn (hs i k))⟩
theorem Chg.of {S : Nat → Prop} {a b : World} (h : Below a.heap.size a b) : Chg S a b := ⟨h.os, h.tape, h.output, h.size, fun i hi _ => h.block i hi⟩
theorem Chg.kp {S R : Nat → Prop} {a b : World} (h : Chg S a b) (hr : ∀ i, R i → i < a.heap.size ∧ ¬ S i) : Kp R a b := fun i hi => h.block i (hr i hi).1 (hr i hi).2
end Go.Proofs.Ytkkhnldhipfneaa

/-! Marks put into a tree of values that may be written, as the law puts them: contracts for the walks; conditions: no two rows are the same, and there are at most 2 to the 32 marks. -/
namespace Go.Proofs.Ytkkhnldhipfneaa
open Go.RowKit
set_option linter.unusedSimpArgs false
set_option linter.unusedVariables false

theorem Chg.set {S : Nat → Prop} {w : World} {g j : Nat} {v : Value} (h : S g) : Chg S w (w.setCell ⟨g, j, none⟩ v) :=
  ⟨rfl, rfl, rfl, by simp [World.setCell], fun b hb hn => Below.heap_setCell w ⟨g, j, none⟩ v b (fun e => by have e' : b = g := e; subst e'; exact hn h)⟩
theorem Chg.grown {S : Nat → Prop} {w w' : World} {r : Option Nat} (h : w.grownBy w' r) (hr : ∀ g, r = some g → S g) : Chg S w w' :=
  ⟨h.os, h.tape, h.output, h.size, fun b hb hn => h.block b hb (fun e => hn (hr b e.symm))⟩
theorem rdB_in {S : Nat → Prop} {w : World} {lo : Nat} {e : TypeId} {v : Value} {n : Nat} {xs : List Value} (h : w.ownsRow lo e 1 v n xs) (hs : ∀ g, v.ownBlock = some g → S g) : RdB S w v xs := by
  obtain ⟨a, cap, hv, hc, hx⟩ := reads_of_owns h
  refine ⟨a, cap, hv, hc, ?_⟩
  rcases hx with hx | ⟨b, off, rfl, hlt, hx⟩
  · exact .inl hx
  · exact .inr ⟨b, off, rfl, hs b (by rw [hv]; rfl), hx⟩
theorem owns_sl {w : World} {lo : Nat} {e : TypeId} {sz n : Nat} {v : Value} {xs : List Value} (hg : w.ownsRow lo e sz v n xs) : ∃ q cap, v = .slice q n cap := by
  rcases hg.2 with ⟨h1, h2⟩ | ⟨g, cap, cur, h1, _⟩
  · exact ⟨none, 0, by rw [h1, h2]⟩
  · exact ⟨_, _, h1⟩
def put3 (ys : List Value) (i : Nat) (a b c : Value) : List Value := ((ys.set (i * 5) a).set (i * 5 + 1) b).set (i * 5 + 2) c
theorem put3_other {ys : List Value} {i j : Nat} {a b c : Value} (h : j < i * 5 ∨ i * 5 + 2 < j) : (put3 ys i a b c)[j]? = ys[j]? := by
  unfold put3
  rw [List.getElem?_set_ne (by omega), List.getElem?_set_ne (by omega), List.getElem?_set_ne (by omega)]
theorem put3_same {ys : List Value} {i : Nat} {a b c : Value} (h : i * 5 + 2 < ys.length) : (put3 ys i a b c)[i * 5]? = some a ∧ (put3 ys i a b c)[i * 5 + 1]? = some b ∧ (put3 ys i a b c)[i * 5 + 2]? = some c := by
  simp [put3, List.getElem?_set, h, show i * 5 < ys.length by omega, show i * 5 + 1 < ys.length by omega]

end Go.Proofs.Ytkkhnldhipfneaa

/-! A list of texts in blocks of its own, and what a walk leaves of it: laws for the walks; no condition. -/
namespace Go.Proofs.Ytkkhnldhipfneaa
open Go.RowKit
set_option linter.unusedSimpArgs false
set_option linter.unusedVariables false

/-- A list of texts in blocks from lo up to hi. -/
def StrR (lo hi : Nat) (W : World) (u : Value) (ss : List ByteArray) : Prop := StrsOwn (Ow lo hi) W u ss ∧ hi ≤ W.heap.size
theorem StrR.chg {lo hi : Nat} {W W' : World} {u : Value} {ss : List ByteArray} {S : Nat → Prop} (h : StrR lo hi W u ss) (k : Chg S W W') (n : ∀ b, Ow lo hi b → ¬ S b) : StrR lo hi W' u ss :=
  ⟨h.1.keep (fun b hb => k.block b (Nat.lt_of_lt_of_le hb.2 h.2) (n b hb)), Nat.le_trans h.2 k.size⟩
theorem StrR.below {lo hi : Nat} {W W' : World} {u : Value} {ss : List ByteArray} (h : StrR lo hi W u ss) (k : Below W.heap.size W W') : StrR lo hi W' u ss := h.chg (Chg.of (S := fun _ => False) k) (fun _ _ => id)
theorem strR_of {lo : Nat} {W : World} {u : Value} {ss : List ByteArray} (h : W.ownsRow lo 9 1 u ss.length (strsV ss)) : StrR lo W.heap.size W u ss := ⟨⟨owns_lo (Nat.zero_le _) h, fun g hg => owns_in h g hg⟩, Nat.le_refl _⟩
theorem below_chgW {B : Nat} {S : Nat → Prop} {w W W' : World} (h : Below B w W) (k : Chg S W W') (hs : ∀ b, S b → B ≤ b) (hB : B ≤ W.heap.size) : Below B w W' :=
  ⟨k.os.trans h.os, k.tape.trans h.tape, k.output.trans h.output, Nat.le_trans h.size k.size, fun b hb => (k.block b (Nat.lt_of_lt_of_le hb hB) (fun hS => by have := hs b hS; omega)).trans (h.block b hb)⟩
end Go.Proofs.Ytkkhnldhipfneaa

/-! Who uses a pack, as the program answers it: a contract for the walks; conditions: the row of packs lies in memory, and holds at most 2 to the 20. -/
namespace Go.Proofs.Ytkkhnldhipfneaa
open Go.RowKit
set_option linter.unusedSimpArgs false
set_option linter.unusedVariables false

theorem cell_one_at {W : World} {n : Nat} {x : Value} {t : TypeId} (h : n = W.heap.size) : ∀ j u, [x][j]? = some u → (W.alloc (.cells #[x] t)).cell? ((⟨n, 0, none⟩ : Addr).add j) = some u := by subst h; exact cell_one_new W x t

set_option maxHeartbeats 2000000 in
set_option maxRecDepth 100000 in
theorem indexS_c (v : Value) (ss : List ByteArray) (s : ByteArray) (w : World) (hv : Reads w v (strsV ss)) (hn : ss.length ≤ 1099511627776) :
    Calls Try.prog 68 #[v, .string s] w fun e w' => (∃ r : Int, e = .returned (.int .i64 r) ∧ decide (0 ≤ r) = hasS ss s) ∧ w = w' := by
  obtain ⟨a, cap, rfl, _, hc⟩ := reads_strs hv
  clear hv
  rcases hc with rfl | ⟨b, off, rfl, hlt, hc⟩
  · go_enter Try.func68, Try.ntmps68
    go_wp2
    go_loop [8] (fun vi => vi = .int .i64 0) (fun _ => 0)
    case atStart => rfl
    case round =>
      obtain rfl := hrel
      go_wp2
      go_ret
      exact ⟨⟨-1, rfl, by simp [hasS]⟩, rfl⟩
  · go_enter Try.func68, Try.ntmps68
    go_wp2
    go_loop [8] (fun vi => ∃ k : Nat, k ≤ ss.length ∧ vi = .int .i64 (k : Int) ∧ Hid (∀ j (h : j < ss.length), j < k → ss[j] ≠ s)) (fun vi => ss.length - (intOf vi).toNat)
    case atStart => exact ⟨0, Nat.zero_le _, rfl, fun j h hj => by omega⟩
    case round =>
      obtain ⟨k, hk, rfl, hh⟩ := hrel
      by_cases hlt' : k < ss.length
      · have hcx := hc k hlt'
        obtain ⟨t, ht⟩ : ∃ t, t = ss[k] := ⟨_, rfl⟩
        rw [← ht] at hcx
        have HT : Hid (t = ss[k]) := ht
        have hki : (k : Int) < (ss.length : Int) := by omega
        clear hc ht
        go_wp2
        · have h1 : (s.toList == t.toList) = true := by assumption
          have e : s = t := bytes_eq_of_toList (by simpa using h1)
          have hm : s ∈ ss := by rw [e, HT.out]; exact List.getElem_mem hlt'
          go_ret
          exact ⟨⟨(k : Int), rfl, by rw [(hasS_iff ss s).2 hm]; simp⟩, rfl⟩
        · have h1 : (s.toList == t.toList) = false := by assumption
          have e : t ≠ s := fun e => by subst e; simp at h1
          go_round
          case rel => exact ⟨k + 1, by omega, by go_num, fun j h hj => (by
            by_cases ej : j = k
            · subst ej; rw [← HT.out]; exact e
            · exact hh.out j h (by omega))⟩
          case measure => simp [intOf]; omega
      · have he : k = ss.length := by omega
        subst he
        have hm : ¬ s ∈ ss := fun hm => by
          obtain ⟨j, hj, e⟩ := List.getElem_of_mem hm
          exact hh.out j hj hj e
        have hf : hasS ss s = false := by
          cases hq : hasS ss s with
          | false => rfl
          | true => exact absurd ((hasS_iff ss s).1 hq) hm
        have HF := hidden hf
        clear hc hf
        go_wp2
        go_ret
        exact ⟨⟨-1, rfl, by rw [HF.out]; rfl⟩, rfl⟩

theorem containsS_c (v : Value) (ss : List ByteArray) (s : ByteArray) (w : World) (hv : Reads w v (strsV ss)) (hn : ss.length ≤ 1099511627776) :
    Calls Try.prog 41 #[v, .string s] w fun e w' => e = .returned (.bool (hasS ss s)) ∧ w = w' := by
  have HI := hidden (indexS_c v ss s w hv hn)
  obtain ⟨a, cap, rfl, _, _⟩ := reads_strs hv
  clear hv
  go_enter Try.func41, Try.ntmps41
  go_wp2_with (go_at_call 68; refine HI.out.mono ?_; rintro e w1 ⟨⟨r, rfl, hr⟩, rfl⟩)
  go_ret
  exact ⟨by rw [← hr]; rfl, rfl⟩

set_option maxHeartbeats 4000000 in
set_option maxRecDepth 100000 in
theorem implUsedBy_c (S : Nat → Prop) (v : Value) (xs : List PackD) (s : ByteArray) (w : World) (hv : RowIn shPack S w v xs) (hB : ∀ b, S b → b < w.heap.size) (hw : wtRow wtPack xs ≤ 1048576) :
    Calls Try.prog 13 #[v, .string s] w fun e w' => ∃ (u : Value) (ys : List ByteArray), e = .returned u ∧ w'.ownsRow w.heap.size 9 1 u ys.length (strsV ys) ∧ risesS ys ∧ (∀ x, x ∈ ys ↔ x ∈ usersL xs s) ∧ ys.length ≤ xs.length ∧ Below w.heap.size w w' := by
  have hl2 := len_wtRow wtPack xs
  have hlen : xs.length ≤ 1048576 := by omega
  have hwe : ∀ d ∈ xs, d.uses.length ≤ 1048576 ∧ d.name.size ≤ 1048576 := fun d hd => by
    have h1 := Nat.le_trans (wt_wtRow wtPack hd) hw
    unfold wtPack bulkS at h1
    omega
  have hnm : ∀ x ∈ usersL xs s, x.size ≤ 1048576 := fun x hx => by
    obtain ⟨d, hd, _, rfl⟩ := mem_usersL.1 hx
    exact (hwe d hd).2
  have HNM := hidden hnm
  clear hl2 hw hnm
  obtain ⟨i0, hi, hz0, hz1, hz2⟩ := info_parts infoS
  obtain ⟨a, cap, rfl, hl, hc, ha⟩ := hv
  unfold maxLen at hl
  go_enter Try.func13, Try.ntmps13
  go_wp2_with fail
  go_loopw [5, 10] (fun vo vi wr => ∃ (k : Nat) (ys : List ByteArray), k ≤ xs.length ∧ vi = .int .i64 (k : Int) ∧ Hid (ys = usersL (xs.take k) s) ∧ ys.length ≤ k ∧ wr.ownsRow w.heap.size 9 1 vo ys.length (strsV ys) ∧ Below w.heap.size w wr) (fun _ vi _ => xs.length - (intOf vi).toNat)
  case atStart => exact ⟨0, [], Nat.zero_le _, rfl, rfl, Nat.le_refl _, World.ownsRow_nil _ _ _ _, Below.refl _ _⟩
  case round =>
    obtain ⟨k, ys, hk, rfl, hys, hyk, hown, hbr⟩ := hrel
    obtain ⟨qo, co, hvo⟩ := owns_slG hown
    subst hvo
    by_cases hlt' : k < xs.length
    · rcases ha with rfl | ⟨b, off, rfl, hlt, ha⟩
      · simp at hlt'
      obtain ⟨cs, hL, hcell⟩ := ha k hlt'
      have hBr : ∀ b, S b → b < wr.heap.size := fun b h => Nat.lt_of_lt_of_le (hB b h) hbr.size
      have hcell2 := hcell.keep (.of hbr hB) hlt
      replace hL := shPack.keep (.of hbr hB) hL
      have HT := hidden (usersL_take xs s k hlt')
      have hul := (hwe xs[k] (List.getElem_mem hlt')).1
      rw [← hys.out] at HT
      obtain ⟨d, hd⟩ : ∃ d, d = xs[k] := ⟨_, rfl⟩
      rw [← hd] at hL HT hul
      obtain ⟨u0, u1, u2, rfl, _, r0, p0, r1', r2'⟩ := hL
      have HC' : ∀ w1, Below wr.heap.size wr w1 → Calls Try.prog 41 #[u0, .string s] w1 fun e w' => e = .returned (.bool (hasS d.uses s)) ∧ w1 = w' := fun w1 h => containsS_c u0 d.uses s w1 ((r0.keep (.of h hBr)).reads (fun b hb => Nat.lt_of_lt_of_le (hBr b hb) h.size)) (by omega)
      have HC := hidden HC'
      clear HC'
      obtain ⟨a0, c0, eu0, _⟩ := id r0
      rw [length_strsV] at eu0
      obtain ⟨a1, c1, eu1, _⟩ := id r1'
      obtain ⟨a2, c2, eu2, _⟩ := id r2'
      subst eu0 eu1 eu2
      have e0 : wr.cell? ⟨b, off + k * 4, none⟩ = some (.string d.name) := hcell2 0 (by simp)
      have e1 : wr.cell? ⟨b, off + k * 4 + 1, none⟩ = some (.slice a0 d.uses.length c0) := hcell2 1 (by simp)
      have e2 : wr.cell? ⟨b, off + k * 4 + 2, none⟩ = some (.slice a1 d.needs.length c1) := hcell2 2 (by simp)
      have e3 : wr.cell? ⟨b, off + k * 4 + 3, none⟩ = some (.slice a2 d.cmds.length c2) := hcell2 3 (by simp)
      have hki : (k : Int) < (xs.length : Int) := by omega
      obtain ⟨t, ht⟩ : ∃ t, t = d.name := ⟨_, rfl⟩
      rw [← ht] at e0 HT
      obtain ⟨r, hr⟩ : ∃ r, r = hasS d.uses s := ⟨_, rfl⟩
      rw [← hr] at HC HT
      have hb0 : Below wr.heap.size wr (wr.alloc (.cells #[.string t, .slice a0 d.uses.length c0, .slice a1 d.needs.length c1, .slice a2 d.cmds.length c2] 33 (0, 0))) := (Below.refl _ _).alloc (Nat.le_refl _) _
      have o0 := owns_of_belowN hown hb0
      have k0 := hbr.trans (hb0.mono hbr.size)
      have kp := hbr.size
      clear ha hd ht hr hcell hcell2 r0 r1' r2' p0 hown hbr
      cases r with
      | true =>
        have HT2 : Hid (usersL (xs.take (k + 1)) s = ys ++ [t]) := HT.out
        clear HT
        go_wp2_with (first
          | (go_at_call 41; refine (HC.out _ hb0).mono ?_; rintro e w1 ⟨rfl, rfl⟩)
          | (at_builtin; refine wpList_append_own _ rfl _ _ 26 rfl w.heap.size 9 i0 (.string ⟨#[]⟩) 1 16 Try.underlying26 hi hz0 hz1 hz2 rfl (by decide) _ ys.length (strsV ys) rfl (o0.alloc _) ⟨wr.heap.size + 1, 0, none⟩ 1 1 (strsV [t]) rfl rfl (cell_one_at (by simp)) (fun u hu => by simp [strsV] at hu; subst hu; rfl) (by unfold maxLen; omega) (by omega) (by simp; omega) ?_))
        intro v2 w2 o2 gr2 hnil
        have hst : strsV ys ++ strsV [t] = strsV (ys ++ [t]) := by simp [strsV]
        rw [hst] at o2
        have hb2 : Below w.heap.size w w2 := Below.grown (k0.alloc k0.size _) gr2 (by simp; omega) (fun j hj => (o0.lt _ hj).1)
        clear gr2 hnil o0 k0 hst e0 e1 e2 e3 hb0
        go_wp2_with fail
        go_roundw
        case rel => exact ⟨k + 1, ys ++ [t], by omega, by go_num, HT2.out.symm, by simp; omega, by simpa using o2, hb2⟩
        case measure => simp [intOf]; omega
      | false =>
        have HT2 := hidden (show usersL (xs.take (k + 1)) s = ys by rw [HT.out]; simp)
        clear HT
        go_wp2_with (go_at_call 41; refine (HC.out _ hb0).mono ?_; rintro e w1 ⟨rfl, rfl⟩)
        go_roundw
        case rel => exact ⟨k + 1, ys, by omega, by go_num, HT2.out.symm, by omega, o0, k0⟩
        case measure => simp [intOf]; omega
    · have he : k = xs.length := by omega
      subst he
      have HE := hidden (show ys = usersL xs s by rw [hys.out, List.take_length])
      have HS := hidden (implSorted_c (.slice qo ys.length co) ys wr (reads_of_owns hown) (by omega) (fun x hx => HNM.out x (by rw [← HE.out]; exact hx)))
      have hbs := hbr.size
      clear ha hys
      go_wp2_with (go_at_call 42; refine HS.out.mono ?_; rintro e w1 ⟨u, rfl, o1, b1⟩)
      go_ret
      have hl9 : (sortedS ys).length ≤ ys.length := by
        unfold sortedS
        rw [List.length_map]
        have := compact_len (sortL (ys.map bytesL))
        rw [sortL_len, List.length_map] at this
        exact this
      exact ⟨u, sortedS ys, rfl, owns_lo hbr.size o1, sortedS_rises ys, fun x => by rw [sortedS_mem, HE.out], by omega, hbr.trans (b1.mono hbr.size)⟩

theorem usersL_len2 {xs : List PackD} {s : ByteArray} (hw : wtRow wtPack xs ≤ 1048576) : (sortedS (usersL xs s)).length ≤ 4294967295 := by
  have h1 := usersL_len xs s
  have h2 := len_wtRow wtPack xs
  unfold sortedS
  rw [List.length_map]
  have := compact_len (sortL ((usersL xs s).map bytesL))
  rw [sortL_len, List.length_map] at this
  omega
theorem implUsedBy_s (S : Nat → Prop) (v : Value) (xs : List PackD) (s : ByteArray) (w : World) (hv : RowIn shPack S w v xs) (hB : ∀ b, S b → b < w.heap.size) (hw : wtRow wtPack xs ≤ 1048576) (hs : s.size ≤ 1048576) :
    Calls Try.prog 13 #[v, .string s] w fun e w' => ∃ u, e = .returned u ∧ StrR w.heap.size w'.heap.size w' u (sortedS (usersL xs s)) ∧ (sortedS (usersL xs s)).length ≤ 4294967295 ∧ Below w.heap.size w w' :=
  (implUsedBy_c S v xs s w hv hB hw).mono (by
    rintro e w' ⟨u, ys, rfl, o, hr, hm, _, hb⟩
    obtain rfl : ys = sortedS (usersL xs s) := risesS_eq hr (sortedS_rises _) (fun x => by rw [hm x, sortedS_mem])
    exact ⟨u, rfl, strR_of o, usersL_len2 hw, hb⟩)
end Go.Proofs.Ytkkhnldhipfneaa
