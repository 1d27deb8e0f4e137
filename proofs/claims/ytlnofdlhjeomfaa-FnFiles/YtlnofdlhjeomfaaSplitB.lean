/-
  What the program's Split answers: the same list as the specification's, in memory of its own; condition: the text has at most 2 to the 20 bytes.
-/
import Derived.Test.YtlnofdlhjeomfaaSplitA
import Derived.Test.YtlnofdlhjeomfaaShelfA
namespace Go.Proofs.Ytlnofdlhjeomfaa
open Go.RowKit
set_option linter.unusedSimpArgs false
set_option linter.unusedVariables false

theorem split_none (s : ByteArray) (c : Int) (b : Nat) : ∀ (n i : Nat), n = s.size - i → i ≤ s.size → (∀ j, i ≤ j → j < s.size → ¬ ((s.data[j]!).toNat : Int) = c) → splitGo s c (s.size - i) i b = [s.extract b s.size]
  | 0, i, hn, hi, h => by
    have : i = s.size := by omega
    subst this
    exact splitGo_end s c b
  | n + 1, i, hn, hi, h => by
    rw [splitGo_miss s c i b (by omega) (h i (Nat.le_refl _) (by omega))]
    exact split_none s c b n (i + 1) (by omega) (by omega) (fun j h1 h2 => h j (by omega) h2)
theorem split_some (s : ByteArray) (c : Int) (b j : Nat) (hj : j < s.size) (hc : ((s.data[j]!).toNat : Int) = c) : ∀ (n i : Nat), n = j - i → i ≤ j → (∀ k, i ≤ k → k < j → ¬ ((s.data[k]!).toNat : Int) = c) → splitGo s c (s.size - i) i b = s.extract b j :: splitGo s c (s.size - (j + 1)) (j + 1) (j + 1)
  | 0, i, hn, hi, h => by
    have : i = j := by omega
    subst this
    exact splitGo_hit s c i b hj hc
  | n + 1, i, hn, hi, h => by
    rw [splitGo_miss s c i b (by omega) (h i (Nat.le_refl _) (by omega))]
    exact split_some s c b j hj hc n (i + 1) (by omega) (by omega) (fun k h1 h2 => h k (by omega) h2)

def strSize : Value → Nat | .string s => s.size | _ => 0

theorem ext_list {a b : ByteArray} (h : a.data.toList = b.data.toList) : a = b := ByteArray.ext (Array.toList_inj.1 h)
theorem extract_list (s : ByteArray) (a b : Nat) : (s.extract a b).data.toList = (s.data.toList.drop a).take (b - a) := Lib.extract_data s a b
theorem len_list (s : ByteArray) : s.data.toList.length = s.size := by rw [Array.length_toList]; rfl
theorem size_tail (s : ByteArray) (b : Nat) (h : b ≤ s.size) : (s.extract b s.size).size = s.size - b := by
  rw [← len_list, extract_list, List.length_take, List.length_drop, len_list]; omega
theorem tail_list (s : ByteArray) (b : Nat) : (s.extract b s.size).data.toList = s.data.toList.drop b := by
  rw [extract_list, List.take_of_length_le (by rw [List.length_drop, len_list]; omega)]
theorem tail_head (s : ByteArray) (b k : Nat) : (s.extract b s.size).extract 0 k = s.extract b (b + k) := by
  apply ext_list
  rw [extract_list, tail_list, extract_list]
  simp
theorem tail_tail (s : ByteArray) (b k : Nat) : (s.extract b s.size).extract k (s.extract b s.size).size = s.extract (b + k) s.size := by
  apply ext_list
  rw [tail_list, tail_list, tail_list, List.drop_drop]

theorem bang_list (s : ByteArray) (j : Nat) (h : j < s.size) : s.data.toList[j]? = some (s.data[j]!) := by
  rw [byteBang s j h, List.getElem?_eq_getElem (by rw [len_list]; exact h)]
  rfl

/-- What the search for the byte says of the text behind place b. -/
theorem search (s : ByteArray) (c : Int) (b : Nat) (hb : b ≤ s.size) (h0 : 0 ≤ c) (h1 : c ≤ 255) :
    (Lib.indexByte (s.extract b s.size).data.toList c.toNat.toUInt8 = -1 ∧ splitGo s c (s.size - b) b b = [s.extract b s.size]) ∨
    ∃ k : Nat, Lib.indexByte (s.extract b s.size).data.toList c.toNat.toUInt8 = (k : Int) ∧ b + k < s.size ∧ splitGo s c (s.size - b) b b = s.extract b (b + k) :: splitGo s c (s.size - (b + k + 1)) (b + k + 1) (b + k + 1) := by
  have hcn : ∀ u : UInt8, (u.toNat : Int) = c ↔ u = c.toNat.toUInt8 := fun u => by
    have hu := u.toNat_lt
    constructor
    · intro e
      have : u.toNat = c.toNat := by omega
      rw [← this]; simp
    · intro e
      subst e
      simp [UInt8.toNat_ofNat']
      omega
  rw [tail_list]
  have hge := Lib.indexByte_ge (s.data.toList.drop b) c.toNat.toUInt8
  by_cases hm : Lib.indexByte (s.data.toList.drop b) c.toNat.toUInt8 = -1
  · refine .inl ⟨hm, split_none s c b _ b rfl hb (fun j h1 h2 e => ?_)⟩
    have := Lib.indexByte_none hm (j - b)
    rw [List.getElem?_drop, show b + (j - b) = j by omega, bang_list s j h2] at this
    exact this (by rw [(hcn _).1 e])
  · obtain ⟨k, hk⟩ := Int.eq_ofNat_of_zero_le (show 0 ≤ Lib.indexByte (s.data.toList.drop b) c.toNat.toUInt8 by omega)
    obtain ⟨hh, hbef⟩ := Lib.indexByte_some hk
    rw [List.getElem?_drop] at hh
    have hlt : b + k < s.size := by
      rw [← len_list]
      exact (List.getElem?_eq_some_iff.1 hh).1
    refine .inr ⟨k, hk, hlt, split_some s c b (b + k) hlt ?_ _ b rfl (by omega) (fun j h1 h2 e => ?_)⟩
    · rw [bang_list s _ hlt] at hh
      exact (hcn _).2 (by simpa using hh)
    · have := hbef (j - b) (by omega)
      rw [List.getElem?_drop, show b + (j - b) = j by omega, bang_list s j (by omega)] at this
      exact this (by rw [(hcn _).1 e])

set_option maxHeartbeats 1000000 in
theorem clone_c (s : ByteArray) (w : World) (h : s.size ≤ 1048576) : Calls Try.prog 45 #[.string s] w fun e w' => e = .returned (.string s) ∧ Below w.heap.size w w' := by
  go_enter Try.func45, Try.ntmps45
  go_wp2_with (go_at_call 87; refine (Try.stringslite_Clone s _ (by omega)).mono ?_; rintro e w1 ⟨rfl, b1⟩)
  go_ret
  exact ⟨rfl, b1⟩

set_option maxHeartbeats 2000000 in
set_option maxRecDepth 100000 in
theorem implSplit_c (s : ByteArray) (c : Int) (w : World) (hs : s.size ≤ 1048576) (h0 : 0 ≤ c) (h1 : c ≤ 255) :
    Calls Try.prog 92 #[.string s, .int .u8 c] w fun e w' => ∃ v, e = .returned v ∧ w'.ownsRow w.heap.size 9 1 v (splitS s c).length (strsV (splitS s c)) ∧ Below w.heap.size w w' := by
  obtain ⟨i0, hi, hz0, hz1, hz2⟩ := info_parts infoS
  go_enter Try.func92, Try.ntmps92
  go_wp2
  go_loopw [0, 5] (fun vs vo wr => ∃ (b : Nat) (r : ByteArray) (xs : List ByteArray), vs = .string r ∧ b ≤ s.size ∧ xs.length ≤ b ∧ Hid (r = s.extract b s.size) ∧ wr.ownsRow w.heap.size 9 1 vo xs.length (strsV xs) ∧ Hid (xs ++ splitGo s c (s.size - b) b b = splitS s c) ∧ Below w.heap.size w wr) (fun vs _ _ => strSize vs)
  case atStart => exact ⟨0, s, [], rfl, by omega, by simp, (by show _ = _; simp), World.ownsRow_nil _ _ _ _, rfl, Below.refl _ _⟩
  case round =>
    obtain ⟨b, r, xs, rfl, hb, hxl, hr, hown, hh, hbr⟩ := hrel
    have hsr : r.size = s.size - b := by rw [hr.out]; exact size_tail s b hb
    have hs2 := search s c b hb h0 h1
    rw [← hr.out] at hs2
    rcases hs2 with ⟨hidx, hsp⟩ | ⟨k, hidx, hkl, hsp⟩
    · have HT : Hid (xs ++ [r] = splitS s c) := by have := hh.out; rw [hsp] at this; exact this
      have hr20 : r.size ≤ 1048576 := by omega
      clear hsp hh hsr
      go_wp2_with (first
        | (go_at_call 109; refine (Try.strings_IndexByte r c _).mono ?_; rintro e w1 ⟨rfl, rfl⟩)
        | (go_at_call 45; refine (clone_c r _ hr20).mono ?_; rintro e w2 ⟨rfl, b2⟩
           have hown2 := owns_of_below hown b2)
        | (at_builtin; refine wpList_append_own _ rfl _ _ 34 rfl w.heap.size 9 i0 (.string ⟨#[]⟩) 1 16 Try.underlying34 hi hz0 hz1 hz2 rfl (by decide) _ xs.length (strsV xs) rfl (hown2.alloc _) ⟨w2.heap.size, 0, none⟩ 1 1 (strsV [r]) rfl rfl (cell_one_new _ _ _) (fun u hu => by simp [strsV] at hu; subst hu; rfl) (by unfold maxLen; omega) (by omega) (by have h1 := hbr.size; have h2 := b2.size; simp; omega) ?_))
      intro v3 w3 o3 gr3 _
      rw [strs_append] at o3
      have hb2 := hbr.trans (b2.mono hbr.size)
      have hb3 : Below w.heap.size w w3 := Below.grown (hb2.alloc hb2.size _) gr3 (by have := hb2.size; simp; omega) (fun j hj => (hown2.lt _ hj).1)
      have hl3 : (xs ++ [r]).length = xs.length + 1 := by simp
      rw [← hl3, HT.out] at o3
      go_wp2
      go_ret
      exact ⟨_, rfl, o3, hb3⟩
    · have hkr : k < r.size := by omega
      have HT : Hid ((xs ++ [r.extract 0 k]) ++ splitGo s c (s.size - (b + k + 1)) (b + k + 1) (b + k + 1) = splitS s c) := by
        have := hh.out
        rw [hsp, ← tail_head, ← hr.out] at this
        show _ = _
        rw [List.append_assoc]; exact this
      have HR : Hid (r.extract (k + 1) r.size = s.extract (b + k + 1) s.size) := by
        show _ = _
        rw [hr.out, tail_tail, Nat.add_assoc]
      have hz : (r.extract 0 k).size = k := by
        rw [← len_list, extract_list]; simp [len_list]; omega
      have hz2' : (r.extract (k + 1) r.size).size = r.size - (k + 1) := size_tail r (k + 1) (by omega)
      have hk20 : (r.extract 0 k).size ≤ 1048576 := by omega
      have hkI : (k : Int) < (r.size : Int) := by omega
      have hkn : ¬ ((k : Int) < 0) := by omega
      have hkm : k ≤ 1048576 := by omega
      have hsr2 : Hid (r.size = s.size - b) := hsr
      clear hsp hh hz hsr
      go_wp2_with (first
        | (go_at_call 109; refine (Try.strings_IndexByte r c _).mono ?_; rintro e w1 ⟨rfl, rfl⟩)
        | (go_at_call 45; refine (clone_c (r.extract 0 k) _ hk20).mono ?_; rintro e w2 ⟨rfl, b2⟩
           have hown2 := owns_of_below hown b2)
        | (at_builtin; refine wpList_append_own _ rfl _ _ 34 rfl w.heap.size 9 i0 (.string ⟨#[]⟩) 1 16 Try.underlying34 hi hz0 hz1 hz2 rfl (by decide) _ xs.length (strsV xs) rfl (hown2.alloc _) ⟨w2.heap.size, 0, none⟩ 1 1 (strsV [r.extract 0 k]) rfl rfl (cell_one_new _ _ _) (fun u hu => by simp [strsV] at hu; subst hu; rfl) (by unfold maxLen; omega) (by omega) (by have h1 := hbr.size; have h2 := b2.size; simp; omega) ?_))
      intro v3 w3 o3 gr3 _
      rw [strs_append] at o3
      have hb2 := hbr.trans (b2.mono hbr.size)
      have hb3 : Below w.heap.size w w3 := Below.grown (hb2.alloc hb2.size _) gr3 (by have := hb2.size; simp; omega) (fun j hj => (hown2.lt _ hj).1)
      have hl3 : (xs ++ [r.extract 0 k]).length = xs.length + 1 := by simp
      rw [← hl3] at o3
      clear gr3 hown2 hown hbr hb2 b2 hl3
      go_wp2
      go_roundw
      case rel => exact ⟨b + k + 1, _, _, rfl, by omega, (by simp; omega), HR, o3, HT, hb3⟩
      case measure => simp only [strSize]; omega
end Go.Proofs.Ytlnofdlhjeomfaa
