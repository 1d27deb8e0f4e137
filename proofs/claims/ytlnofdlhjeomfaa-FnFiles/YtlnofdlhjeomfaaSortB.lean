/-
  What the program's Sorted answers: a list that rises and has the members of the list handed in, in memory of its own; conditions: the list lies in memory as told and has at most 2 to the 20 texts, each of at most 2 to the 20 bytes.
-/
import Derived.Test.YtlnofdlhjeomfaaSortA
import Derived.Test.YtlnofdlhjeomfaaShelfA
import Derived.Test.YtlnofdlhjeomfaaShelfC
import Derived.Laws.CopyOwn
namespace Go.Proofs.Ytlnofdlhjeomfaa
open Go.RowKit Go.Sort
set_option linter.unusedSimpArgs false
set_option linter.unusedVariables false

/-! ### What is left of a list in order when what is alike side by side is left out -/
theorem compact_sub (zs : List (List UInt8)) : ∀ m, m ≤ zs.length → ∀ x, x ∈ Lib.compactUpTo zs.toArray m ↔ x ∈ zs.take m
  | 0, _, x => by simp [Lib.compactUpTo]
  | m + 1, h, x => by
    have ih := compact_sub zs m (by omega)
    have hb : zs.toArray[m]! = zs[m] := by simp [show m < zs.length by omega]
    rw [Lib.compactUpTo_succ, List.mem_append, ih x, List.take_succ_eq_append_getElem (by omega), List.mem_append, List.mem_singleton]
    cases hk : Lib.keeps zs.toArray m with
    | true => rw [if_pos rfl, List.mem_singleton, hb]
    | false =>
      rw [if_neg (by simp)]
      constructor
      · rintro (h1 | h1)
        · exact .inl h1
        · simp at h1
      · rintro (h1 | h1)
        · exact .inl h1
        · refine .inl ?_
          have hm : ¬ m = 0 ∧ zs.toArray[m]! = zs.toArray[m - 1]! := by
            simp only [Lib.keeps, decide_eq_false_iff_not] at hk
            exact ⟨fun e => hk (.inl e), Classical.byContradiction fun e => hk (.inr e)⟩
          have hb1 : zs.toArray[m - 1]! = zs[m - 1] := by simp [show m - 1 < zs.length by omega]
          rw [h1, ← hb, hm.2, hb1]
          rw [List.mem_take_iff_getElem]
          exact ⟨m - 1, by omega, rfl⟩

theorem compact_mem (zs : List (List UInt8)) (x : List UInt8) : x ∈ Lib.compact zs ↔ x ∈ zs := by
  rw [Lib.compact, compact_sub zs zs.length (Nat.le_refl _), List.take_length]

theorem compact_rises (zs : List (List UInt8)) (h : zs.Pairwise (· ≤ ·)) : Rises (Lib.compact zs) := by
  unfold Rises Lib.compact Lib.compactUpTo
  rw [List.pairwise_map]
  refine List.Pairwise.imp_of_mem ?_ ((List.pairwise_lt_range (n := zs.length)).filter _)
  intro i j hi hj hij
  have hil := List.mem_range.1 (List.mem_filter.1 hi).1
  have hjl := List.mem_range.1 (List.mem_filter.1 hj).1
  have hk := (List.mem_filter.1 hj).2
  have e1 : zs.toArray[i]! = zs[i] := by simp [hil]
  have e2 : zs.toArray[j]! = zs[j] := by simp [hjl]
  have e3 : zs.toArray[j - 1]! = zs[j - 1] := by simp [show j - 1 < zs.length by omega]
  rw [e1, e2]
  simp only [Lib.keeps, decide_eq_true_eq] at hk
  have hne : zs[j] ≠ zs[j - 1] := by
    rcases hk with h0 | h0
    · omega
    · rw [e2, e3] at h0; exact h0
  have hp := List.pairwise_iff_getElem.1 h
  have h2 := hp (j - 1) j (by omega) hjl (by omega)
  have hlt : zs[j - 1] < zs[j] := by
    by_cases k : zs[j - 1] < zs[j]
    · exact k
    · exact absurd (List.le_antisymm (by simpa using k) h2) hne
  by_cases e : i = j - 1
  · subst e; exact hlt
  · have h1 := hp i (j - 1) hil (by omega) (by omega)
    by_cases k : zs[i] < zs[j - 1]
    · exact ltL_trans k hlt
    · have : zs[i] = zs[j - 1] := List.le_antisymm h1 (by simpa using k)
      rw [this]; exact hlt

def sortL (L : List (List UInt8)) : List (List UInt8) := L.mergeSort fun x y => decide (x ≤ y)
theorem sortL_le (L : List (List UInt8)) : (sortL L).Pairwise (· ≤ ·) := by
  have := List.pairwise_mergeSort (le := fun x y : List UInt8 => decide (x ≤ y)) (fun a b c h1 h2 => by simp at h1 h2 ⊢; exact List.le_trans h1 h2) (fun a b => by simp; exact List.le_total a b) L
  exact this.imp (fun h => by simpa using h)
theorem sortL_mem (L : List (List UInt8)) (x : List UInt8) : x ∈ sortL L ↔ x ∈ L := List.mem_mergeSort
theorem sortL_len (L : List (List UInt8)) : (sortL L).length = L.length := List.length_mergeSort L

def strOf' (l : List UInt8) : ByteArray := ⟨l.toArray⟩
theorem bytesL_strOf (l : List UInt8) : bytesL (strOf' l) = l := by simp [bytesL, strOf']
theorem strOf_bytesL (s : ByteArray) : strOf' (bytesL s) = s := by simp [bytesL, strOf']
theorem enc_bytes (ss : List ByteArray) : (ss.map bytesL).map encStr = strsV ss := by
  simp [strsV, encStr, bytesL]
theorem enc_strs (C : List (List UInt8)) : C.map encStr = strsV (C.map strOf') := by
  simp [strsV, encStr, strOf']

/-- What the program's Sorted answers. -/
def sortedS (ss : List ByteArray) : List ByteArray := (Lib.compact (sortL (ss.map bytesL))).map strOf'
theorem sortedS_rises (ss : List ByteArray) : risesS (sortedS ss) := by
  unfold risesS sortedS
  rw [List.map_map]
  have : (bytesL ∘ strOf') = id := by funext l; exact bytesL_strOf l
  rw [this, List.map_id]
  exact compact_rises _ (sortL_le _)
theorem sortedS_mem (ss : List ByteArray) (x : ByteArray) : x ∈ sortedS ss ↔ x ∈ ss := by
  unfold sortedS
  rw [List.mem_map]
  constructor
  · rintro ⟨l, hl, rfl⟩
    rw [compact_mem, sortL_mem, List.mem_map] at hl
    obtain ⟨s, hs, rfl⟩ := hl
    rw [strOf_bytesL]; exact hs
  · intro h
    exact ⟨bytesL x, by rw [compact_mem, sortL_mem]; exact List.mem_map.2 ⟨x, h, rfl⟩, strOf_bytesL x⟩
theorem compact_len (zs : List (List UInt8)) : (Lib.compact zs).length ≤ zs.length := by
  unfold Lib.compact Lib.compactUpTo
  rw [List.length_map]
  exact Nat.le_trans (List.length_filter_le _ _) (by simp)

theorem own_cut {w : World} {base : Nat} {e : TypeId} {g n m cap : Nat} {xs : List Value} (h : w.ownsRow base e 1 (.slice (some ⟨g, 0, none⟩) n cap) n xs) (hm : m ≤ n) : w.ownsRow base e 1 (.slice (some ⟨g, 0, none⟩) m cap) m (xs.take m) := by
  have hl : xs.length = n := by simpa using h.1
  refine ⟨by simp; omega, ?_⟩
  rcases h.2 with ⟨h', _⟩ | ⟨g', cap', cur, h', hb, hg, hn, hc, hs, ht⟩
  · simp at h'
  · simp only [Value.slice.injEq, Option.some.injEq, Addr.mk.injEq, and_true, true_and] at h'
    obtain ⟨rfl, rfl⟩ := h'
    refine .inr ⟨g, cap, cur, rfl, hb, hg, by omega, hc, hs, ?_⟩
    rw [← ht, List.take_take, Nat.mul_one, Nat.mul_one, Nat.min_eq_left hm]

theorem cloneB_c (s : ByteArray) (w : World) (h : s.size ≤ 1048576) : Calls Try.prog 45 #[.string s] w fun e w' => e = .returned (.string s) ∧ Below w.heap.size w w' := by
  go_enter Try.func45, Try.ntmps45
  go_wp2_with (go_at_call 87; refine (Try.stringslite_Clone s _ (by omega)).mono ?_; rintro e w1 ⟨rfl, b1⟩)
  go_ret
  exact ⟨rfl, b1⟩

theorem size9 : (Try.prog.info? 9).map (·.size) = some 1 := by kernel_rfl
theorem strs_oneCell (ss : List ByteArray) : ∀ u ∈ strsV ss, u.oneCell' = true := fun u hu => by
  obtain ⟨s, _, rfl⟩ := List.mem_map.1 hu
  rfl

/-- The sort at a row of the call's own. -/
theorem sort_c (base g cap : Nat) (ss : List ByteArray) (w : World) (ho : w.ownsRow base 9 1 (.slice (some ⟨g, 0, none⟩) ss.length cap) ss.length (strsV ss)) (hn : ss.length ≤ 1048576) :
    Calls Try.prog 88 #[.slice (some ⟨g, 0, none⟩) ss.length cap] w fun e w' => e = .returned (.tuple #[]) ∧ w'.ownsRow base 9 1 (.slice (some ⟨g, 0, none⟩) ss.length cap) ss.length ((sortL (ss.map bytesL)).map encStr) ∧ w.grownBy w' (some g) := by
  rcases ho.2 with ⟨h', _⟩ | ⟨g', cap', cur, h', hb, hg, hn1, hc, hs, ht⟩
  · simp at h'
  · simp only [Value.slice.injEq, Option.some.injEq, Addr.mk.injEq, and_true, true_and] at h'
    obtain ⟨rfl, rfl⟩ := h'
    have hH : Holds encStr w g 0 (ss.map bytesL).toArray := holds_of_block hg (by rw [List.length_map, enc_bytes]; simpa using ht)
    have hc1 := Try.slices_Sort_string g 0 cap (ss.map bytesL) w hH (Array.getElem?_eq_some_iff.1 hg).1 (by rw [List.length_map]; omega)
    rw [List.length_map] at hc1
    refine hc1.mono fun e w' ⟨h1, n, os, h2⟩ => ?_
    subst h2
    refine ⟨h1, ?_, grownBy_sorted _⟩
    have := ownsRow_sorted (n := n) (os := os) (ss := ss.map bytesL) (ts := sortL (ss.map bytesL)) (sortL_len _) hb hg (by rw [List.length_map]; exact hn1) hc hs
    rw [List.length_map] at this
    exact this

/-- Leaving out what is alike side by side, at a row of the call's own. -/
theorem compact_c (base g cap : Nat) (L : List (List UInt8)) (w : World) (ho : w.ownsRow base 9 1 (.slice (some ⟨g, 0, none⟩) L.length cap) L.length (L.map encStr)) (hn : L.length ≤ 1048576) :
    Calls Try.prog 89 #[.slice (some ⟨g, 0, none⟩) L.length cap] w fun e w' => e = .returned (.slice (some ⟨g, 0, none⟩) (Lib.compact L).length cap) ∧ w'.ownsRow base 9 1 (.slice (some ⟨g, 0, none⟩) (Lib.compact L).length cap) (Lib.compact L).length ((Lib.compact L).map encStr) ∧ w.grownBy w' (some g) := by
  rcases ho.2 with ⟨h', _⟩ | ⟨g', cap', cur, h', hb, hg, hn1, hc, hs, ht⟩
  · simp at h'
  · simp only [Value.slice.injEq, Option.some.injEq, Addr.mk.injEq, and_true, true_and] at h'
    obtain ⟨rfl, rfl⟩ := h'
    have hH : Holds encStr w g 0 L.toArray := holds_of_block hg (by simpa using ht)
    have hc1 := Try.slices_Compact_string g 0 cap L w hH (by omega) hn1
    refine hc1.mono fun e w' ⟨h1, q, h2⟩ => ?_
    have hcl := compact_len L
    have hl2 : (Lib.compact L ++ List.replicate (L.length - (Lib.compact L).length) []).length = L.length := by simp; omega
    have h3 : w' = grow (putRow encStr (Sort.ahead w q) g 0 (Lib.compact L ++ List.replicate (L.length - (Lib.compact L).length) []).toArray) #[] := by rw [grow_empty]; exact h2
    subst h3
    refine ⟨h1, ?_, grownBy_sorted _⟩
    have := own_cut (ownsRow_sorted (n := q) (os := #[]) (ss := L) (ts := Lib.compact L ++ List.replicate (L.length - (Lib.compact L).length) []) hl2 hb hg hn1 hc hs) hcl
    rw [List.map_append, List.take_append_of_le_length (by simp), List.take_of_length_le (by simp)] at this
    exact this

set_option maxHeartbeats 4000000 in
set_option maxRecDepth 100000 in
theorem implSorted_c (v : Value) (ss : List ByteArray) (w : World) (hv : Reads w v (strsV ss)) (hn : ss.length ≤ 1048576) (hs : ∀ s ∈ ss, s.size ≤ 1048576) :
    Calls Try.prog 46 #[v] w fun e w' => ∃ u, e = .returned u ∧ w'.ownsRow w.heap.size 9 1 u (sortedS ss).length (strsV (sortedS ss)) ∧ Below w.heap.size w w' := by
  obtain ⟨a, cap, hvv, _, hc⟩ := hv
  rw [length_strsV] at hvv
  subst hvv
  obtain ⟨i0, hi, hz0, hz1, hz2⟩ := info_parts infoS
  have hpos : ∀ w1, Below w.heap.size w w1 → 0 < (strsV ss).length → ∃ ad, a = some ad ∧ ∀ j v, (strsV ss)[j]? = some v → w1.cell? (ad.add j) = some v := fun w1 hb1 h0 => by
    rcases hc with h | ⟨b, off, ha, hlt, hc⟩
    · rw [h] at h0; simp at h0
    · refine ⟨_, ha, fun j v hj => ?_⟩
      rw [show ((⟨b, off, none⟩ : Addr).add j) = ⟨b, off + j, none⟩ by unfold Addr.add; split <;> simp_all, hb1.cell (p := ⟨b, off + j, none⟩) hlt]
      obtain ⟨hjl, e⟩ := List.getElem?_eq_some_iff.1 hj
      rw [hc j hjl, e]
  have HP : Hid (∀ w1, Below w.heap.size w w1 → 0 < (strsV ss).length → ∃ ad, a = some ad ∧ ∀ j v, (strsV ss)[j]? = some v → w1.cell? (ad.add j) = some v) := hpos
  clear hc hpos
  have hss : ∀ x ∈ sortedS ss, x.size ≤ 1048576 := fun x hx => hs x ((sortedS_mem ss x).1 hx)
  have hcl := compact_len (sortL (ss.map bytesL))
  have hsl : (sortL (ss.map bytesL)).length = ss.length := by rw [sortL_len, List.length_map]
  have hyl2 : (sortedS ss).length = (Lib.compact (sortL (ss.map bytesL))).length := by simp [sortedS]
  have hst : (Lib.compact (sortL (ss.map bytesL))).map encStr = strsV (sortedS ss) := enc_strs _
  have hsort := fun w2 h => sort_c w.heap.size w.heap.size ss.length ss w2 h hn
  have hcomp := fun w3 h => compact_c w.heap.size w.heap.size ss.length (sortL (ss.map bytesL)) w3 h (by omega)
  rw [hsl] at hcomp hcl
  rw [hst, ← hyl2] at hcomp
  rw [← hyl2] at hcl
  obtain ⟨rs, hrs⟩ : ∃ rs, rs = sortedS ss := ⟨_, rfl⟩
  rw [← hrs] at hcomp hcl hss ⊢
  clear hst hyl2 hsl hrs hs
  go_enter Try.func46, Try.ntmps46
  go_wp2_with (first
    | (at_make; refine wpList_make_full _ rfl _ _ 34 rfl w.heap.size 9 i0 (.string ⟨#[]⟩) 1 Try.underlying34 hi hz0 hz1 _ _ _ _ ss.length rfl rfl rfl rfl (by rw [hz2]; omega) (by unfold maxLen; omega) (Nat.le_refl _) ?_))
  intro w1 o1 gr1
  have hb1 := below_of_grown gr1
  have hh1 : ∃ ys : List Value, ys.length = ss.length ∧ w1.heap[w.heap.size]? = some (.cells ys.toArray 9 (0, 0)) := by
    have hl : (madeCells #[Value.string ⟨#[]⟩] ss.length).toList.length = ss.length := by simp [size_madeCells]
    rcases o1.2 with ⟨h', _⟩ | ⟨g', cap', cur, h', hb, hg, hn1, hcc, hss, ht⟩
    · simp at h'
    · simp only [Value.slice.injEq, Option.some.injEq, Addr.mk.injEq, and_true, true_and] at h'
      obtain ⟨h1, h2⟩ := h'
      rw [← h1] at hg
      exact ⟨cur.toList, by rw [Array.length_toList, hss, ← h2]; omega, by simpa using hg⟩
  obtain ⟨ys, hyl, hhy⟩ := hh1
  clear o1 gr1
  go_wp2_with (first
    | (refine wpList_copy_splice rfl _ _ 34 34 rfl 9 Try.underlying34 size9 _ _ _ _ _ _ rfl rfl w.heap.size 0 ys 9 hhy (strsV ss) (by simp) (fun h0 => ⟨rfl, HP.out w1 hb1 h0⟩) (by simp [hyl]) (strs_oneCell ss) w.heap.size w hb1 (Nat.le_refl _) ?_))
  intro w2 hh2 hb2
  have o2 : w2.ownsRow w.heap.size 9 1 (.slice (some ⟨w.heap.size, 0, none⟩) ss.length ss.length) ss.length (strsV ss) := by
    have := hh2.out
    rw [show splice ys 0 (strsV ss) = strsV ss by simp [splice, hyl]] at this
    exact ⟨by simp, .inr ⟨_, _, _, rfl, Nat.le_refl _, this, Nat.le_refl _, by unfold maxLen; omega, by simp, by simp [← length_strsV]⟩⟩
  clear hh2 hhy hyl hb1 HP
  go_wp2_with (first
    | (go_at_call 88; refine (hsort _ o2).mono ?_; rintro e w3 ⟨rfl, o3, g3⟩
       have c3 : Below w.heap.size w w3 := Below.grown hb2 g3 hb2.size (fun j hj => by simp at hj; omega)
       clear hsort)
    | (go_at_call 89; refine (hcomp _ o3).mono ?_; rintro e w4 ⟨rfl, o4, g4⟩
       have c4 : Below w.heap.size w w4 := Below.grown c3 g4 c3.size (fun j hj => by simp at hj; omega)
       clear hcomp o3))
  go_loopw [18] (fun vi wr => ∃ k : Nat, k ≤ rs.length ∧ vi = .int .i64 (k : Int) ∧ wr.ownsRow w.heap.size 9 1 (.slice (some ⟨w.heap.size, 0, none⟩) rs.length ss.length) rs.length (strsV rs) ∧ Below w.heap.size w wr) (fun vi _ => rs.length - (intOf vi).toNat)
  case atStart => exact ⟨0, Nat.zero_le _, rfl, o4, c4⟩
  case round =>
    obtain ⟨k, hk, rfl, hown, hbr⟩ := hrel
    clear o4 c4 g3 g4 c3 hb2 o2
    by_cases hlt' : k < rs.length
    · have hcx : wr.cell? ⟨w.heap.size, k, none⟩ = some (.string rs[k]) := by
        rw [hown.cellAt k (by omega), strsV_at rs k hlt']
      have hki : (k : Int) < (rs.length : Int) := by omega
      have htz := hss rs[k] (List.getElem_mem hlt')
      have hset : (strsV rs).set k (.string rs[k]) = strsV rs := by
        apply List.ext_getElem?
        intro i
        rw [List.getElem?_set]
        by_cases e : k = i
        · subst e; rw [if_pos rfl, if_pos (by simpa using hlt'), strsV_at rs k hlt']
        · rw [if_neg e]
      obtain ⟨t, ht⟩ : ∃ t, t = rs[k] := ⟨_, rfl⟩
      rw [← ht] at hcx htz hset
      have HS : Hid ((strsV rs).set k (.string t) = strsV rs) := hset
      clear ht hset hss
      go_wp2_with (
        go_at_call 45
        refine (cloneB_c t _ htz).mono ?_
        rintro e w5 ⟨rfl, b5⟩
        have hown5 := owns_of_below hown b5
        have hcx5 : w5.cell? ⟨w.heap.size, k, none⟩ = some (.string t) := (b5.cell (p := ⟨w.heap.size, k, none⟩) (hown.lt w.heap.size rfl).2).trans hcx
        have hfr := hown5.frozenAt k
        have hbr5 := hbr.trans (b5.mono hbr.size)
        clear hown hcx hbr)
      go_roundw
      case rel => exact ⟨k + 1, by omega, by go_num, (by have := (hown5.stored k (.string t)).1; rw [HS.out] at this; exact this), hbr5.setCell (p := ⟨w.heap.size, k, none⟩) (Nat.le_refl _) _⟩
      case measure => simp [intOf]; omega
    · have he : k = rs.length := by omega
      subst he
      go_wp2
      go_ret
      exact ⟨_, rfl, hown, hbr⟩
end Go.Proofs.Ytlnofdlhjeomfaa
