/-
  What all texts of a list make with another text between them, and what the two functions Join (the program's, by a Builder, and the specification's) answer: just that text; conditions: at most 2 to the 20 texts and letters in the list, and as many in the text between.
-/
import Derived.Test.YtdnpfkknnaepoaaDoorBuild
namespace Go.Proofs.YtdnpfkknnaepoaaDoor
open Go.RowKit
set_option linter.unusedSimpArgs false
set_option linter.unusedVariables false

def joinUpto (ss : List ByteArray) (t : ByteArray) : Nat → ByteArray
  | 0 => ⟨#[]⟩
  | k + 1 => (if k = 0 then joinUpto ss t k else joinUpto ss t k ++ t) ++ ss.getD k ⟨#[]⟩
def joinS (ss : List ByteArray) (t : ByteArray) : ByteArray := joinUpto ss t ss.length

theorem joinUpto_size (ss : List ByteArray) (t : ByteArray) : ∀ k, k ≤ ss.length → (joinUpto ss t k).size ≤ k * t.size + ((ss.take k).map ByteArray.size).sum
  | 0, _ => by simp [joinUpto]; rfl
  | k + 1, h => by
    have ih := joinUpto_size ss t k (by omega)
    have hs := sum_take_succ ss k (by omega)
    have hg : ss.getD k ⟨#[]⟩ = ss[k] := by simp [List.getD_eq_getElem?_getD, show k < ss.length by omega]
    rw [joinUpto, ByteArray.size_append, hg, hs, Nat.succ_mul]
    split
    · omega
    · rw [ByteArray.size_append]; omega
theorem joinUpto_succ0 (ss : List ByteArray) (t : ByteArray) (h : 0 < ss.length) : joinUpto ss t 1 = joinUpto ss t 0 ++ ss[0] := by
  simp [joinUpto, List.getD_eq_getElem?_getD, h]
theorem joinUpto_succ (ss : List ByteArray) (t : ByteArray) (k : Nat) (hk : ¬ k = 0) (h : k < ss.length) : joinUpto ss t (k + 1) = joinUpto ss t k ++ t ++ ss[k] := by
  rw [joinUpto, if_neg hk]
  simp [List.getD_eq_getElem?_getD, h]

theorem join_bound (ss : List ByteArray) (t : ByteArray) (k : Nat) (hk : k ≤ ss.length) (hb : bulkS ss ≤ 1048576) (ht : t.size ≤ 1048576) : (joinUpto ss t k).size ≤ 1099512676352 := by
  have h1 := joinUpto_size ss t k hk
  have h2 := sum_take_le ss k
  have h3 : k * t.size ≤ 1048576 * 1048576 := Nat.mul_le_mul (by unfold bulkS at hb; omega) ht
  unfold bulkS at hb
  omega

set_option maxHeartbeats 1000000 in
set_option maxRecDepth 100000 in
theorem specJoin_c (v : Value) (ss : List ByteArray) (t : ByteArray) (w : World) (hv : Reads w v (strsV ss)) (hb : bulkS ss ≤ 1048576) (ht : t.size ≤ 1048576) :
    Calls Tryd.prog 72 #[v, .string t] w fun e w' => e = .returned (.string (joinS ss t)) ∧ w = w' := by
  obtain ⟨a, cap, rfl, _, hc⟩ := reads_strs hv
  clear hv
  have hn : ss.length ≤ 1048576 := by unfold bulkS at hb; omega
  rcases hc with rfl | ⟨b, off, rfl, hlt, hc⟩
  · go_enter Tryd.func72, Tryd.ntmps72
    go_wp2
    go_loop [5, 6] (fun vs vi => vs = .string ⟨#[]⟩ ∧ vi = .int .i64 0) (fun _ _ => 0)
    case atStart => exact ⟨rfl, rfl⟩
    case round =>
      obtain ⟨rfl, rfl⟩ := hrel
      go_wp2
      go_ret
      exact ⟨rfl, rfl⟩
  · go_enter Tryd.func72, Tryd.ntmps72
    go_wp2
    go_loop [5, 6] (fun vs vi => ∃ (k : Nat) (s : ByteArray), k ≤ ss.length ∧ vi = .int .i64 (k : Int) ∧ vs = .string s ∧ s.size ≤ 1099512676352 ∧ Hid (s = joinUpto ss t k)) (fun _ vi => ss.length - (intOf vi).toNat)
    case atStart => exact ⟨0, _, Nat.zero_le _, rfl, rfl, by decide, rfl⟩
    case round =>
      obtain ⟨k, s, hk, rfl, rfl, hsz, hs⟩ := hrel
      by_cases hlt' : k < ss.length
      · have hcx := hc k hlt'
        have hbk := join_bound ss t (k + 1) (by omega) hb ht
        have hki : (k : Int) < (ss.length : Int) := by omega
        have hu : ss[k].size ≤ 1048576 := by
          have h1 := sum_take_succ ss k hlt'; have h2 := sum_take_le ss (k + 1); unfold bulkS at hb; omega
        obtain ⟨u, hu'⟩ : ∃ u, u = ss[k] := ⟨_, rfl⟩
        by_cases hk0 : k = 0
        · have e : joinUpto ss t (k + 1) = joinUpto ss t k ++ ss[k] := by subst hk0; exact joinUpto_succ0 ss t hlt'
          rw [← hu'] at hcx hu e
          have HE : Hid (joinUpto ss t (k + 1) = joinUpto ss t k ++ u) := e
          have HK : Hid (k = 0) := hk0
          clear hc e hu' hk0
          go_wp2
          · exfalso; have := HK.out; omega
          go_round
          case rel => exact ⟨k + 1, s ++ u, by omega, by go_num, rfl, (by rw [hs.out, ← HE.out]; exact hbk), (by show _ = _; rw [HE.out, ← hs.out])⟩
          case measure => simp [intOf]; omega
        · have e := joinUpto_succ ss t k hk0 hlt'
          rw [← hu'] at hcx hu e
          have HE : Hid (joinUpto ss t (k + 1) = joinUpto ss t k ++ t ++ u) := e
          have hkp : (0 : Int) < (k : Int) := by omega
          have hst : (s ++ t).size = s.size + t.size := ByteArray.size_append
          clear hc e hu'
          go_wp2
          go_round
          case rel => exact ⟨k + 1, s ++ t ++ u, by omega, by go_num, rfl, (by rw [hs.out, ← HE.out]; exact hbk), (by show _ = _; rw [HE.out, ← hs.out])⟩
          case measure => simp [intOf]; omega
      · have he : k = ss.length := by omega
        subst he
        clear hc
        go_wp2
        go_ret
        exact ⟨by rw [joinS, ← hs.out]; rfl, rfl⟩

theorem strCells_append (a b : ByteArray) : Lib.strCells (a ++ b) = Lib.strCells a ++ Lib.strCells b := by
  simp [Lib.strCells, ByteArray.data_append]

theorem fresh_builder (w : World) : Lib.IsBuilder 99 5 w.heap.size w.heap.size [] (w.alloc (.cells #[.pointer none, .slice none 0 0] 99)) :=
  .inl ⟨Nat.le_refl _, .slice none 0 0, heap_alloc_new w _, World.ownsRow_nil _ _ _ _, by simp [Value.ownBlock]⟩

set_option maxHeartbeats 1000000 in
set_option maxRecDepth 100000 in
theorem implJoin_c (v : Value) (ss : List ByteArray) (t : ByteArray) (w : World) (hv : Reads w v (strsV ss)) (hb : bulkS ss ≤ 1048576) (ht : t.size ≤ 1048576) :
    Calls Tryd.prog 30 #[v, .string t] w fun e w' => e = .returned (.string (joinS ss t)) ∧ Below w.heap.size w w' := by
  obtain ⟨a, cap, rfl, _, hc⟩ := reads_strs hv
  clear hv
  have hn : ss.length ≤ 1048576 := by unfold bulkS at hb; omega
  have hfb := fresh_builder w
  rcases hc with rfl | ⟨b, off, rfl, hlt, hc⟩
  · go_enter Tryd.func30, Tryd.ntmps30
    go_wp2
    go_loopw [10] (fun vi wr => vi = .int .i64 0 ∧ wr = w.alloc (.cells #[.pointer none, .slice none 0 0] 99)) (fun _ _ => 0)
    case atStart => exact ⟨rfl, rfl⟩
    case round =>
      obtain ⟨rfl, hwr⟩ := hrel
      subst hwr
      go_wp2_with (go_at_call 69; refine (Tryd.Builder_String_any w.heap.size w.heap.size [] _ hfb (by simp)).mono ?_; rintro e w1 ⟨rfl, b1⟩)
      go_ret
      exact ⟨rfl, ((Below.refl _ _).alloc (Nat.le_refl _) _).trans b1⟩
  · go_enter Tryd.func30, Tryd.ntmps30
    go_wp2
    go_loopw [10] (fun vi wr => ∃ (k : Nat) (s : ByteArray), k ≤ ss.length ∧ vi = .int .i64 (k : Int) ∧ s.size ≤ 1099512676352 ∧ Hid (s = joinUpto ss t k) ∧ Lib.IsBuilder 99 5 w.heap.size w.heap.size (Lib.strCells s) wr ∧ Below w.heap.size w wr) (fun vi _ => ss.length - (intOf vi).toNat)
    case atStart => exact ⟨0, ⟨#[]⟩, Nat.zero_le _, rfl, by decide, rfl, hfb, (Below.refl _ _).alloc (Nat.le_refl _) _⟩
    case round =>
      obtain ⟨k, s, hk, rfl, hsz, hs, hB, hbr⟩ := hrel
      clear hfb
      by_cases hlt' : k < ss.length
      · have hcx : wr.cell? ⟨b, off + k, none⟩ = some (.string ss[k]) := (hbr.cell (p := ⟨b, off + k, none⟩) hlt).trans (hc k hlt')
        have hbk := join_bound ss t (k + 1) (by omega) hb ht
        have hki : (k : Int) < (ss.length : Int) := by omega
        have hu : ss[k].size ≤ 1048576 := by
          have h1 := sum_take_succ ss k hlt'; have h2 := sum_take_le ss (k + 1); unfold bulkS at hb; omega
        obtain ⟨u, hu'⟩ : ∃ u, u = ss[k] := ⟨_, rfl⟩
        by_cases hk0 : k = 0
        · have e : joinUpto ss t (k + 1) = joinUpto ss t k ++ ss[k] := by subst hk0; exact joinUpto_succ0 ss t hlt'
          rw [← hu'] at hcx hu e
          have HE : Hid (joinUpto ss t (k + 1) = joinUpto ss t k ++ u) := e
          have HK : Hid (k = 0) := hk0
          clear hc e hu' hk0
          go_wp2_with fail
          · exfalso; have := HK.out; omega
          go_at_call 68
          refine (write_c w.heap.size w.heap.size _ u _ hB (by rw [Lib.strCells_length]; omega) hbr.size).mono ?_
          rintro e w1 ⟨rfl, hB1, b1⟩
          go_wp2
          go_roundw
          case rel => exact ⟨k + 1, s ++ u, by omega, by go_num, (by rw [hs.out, ← HE.out]; exact hbk), (by show _ = _; rw [HE.out, ← hs.out]), .inr (by rw [strCells_append]; exact hB1), hbr.trans b1⟩
          case measure => simp [intOf]; omega
        · have e := joinUpto_succ ss t k hk0 hlt'
          rw [← hu'] at hcx hu e
          have HE : Hid (joinUpto ss t (k + 1) = joinUpto ss t k ++ t ++ u) := e
          have hkp : (0 : Int) < (k : Int) := by omega
          have hst : (s ++ t).size = s.size + t.size := ByteArray.size_append
          clear hc e hu'
          go_wp2_with fail
          go_at_call 68
          refine (write_c w.heap.size w.heap.size _ t _ hB (by rw [Lib.strCells_length]; omega) hbr.size).mono ?_
          rintro e w1 ⟨rfl, hB1, b1⟩
          rw [← strCells_append] at hB1
          have b2 := hbr.trans b1
          have hcx1 : w1.cell? ⟨b, off + k, none⟩ = some (.string u) := (b1.cell (p := ⟨b, off + k, none⟩) hlt).trans hcx
          clear hB hcx
          go_wp2_with fail
          go_at_call 68
          refine (write_c w.heap.size w.heap.size _ u _ (.inr hB1) (by rw [Lib.strCells_length]; omega) b2.size).mono ?_
          rintro e w2 ⟨rfl, hB2, b3⟩
          rw [← strCells_append] at hB2
          go_wp2
          go_roundw
          case rel => exact ⟨k + 1, s ++ t ++ u, by omega, by go_num, (by rw [hs.out, ← HE.out]; exact hbk), (by show _ = _; rw [HE.out, ← hs.out]), .inr hB2, b2.trans b3⟩
          case measure => simp [intOf]; omega
      · have he : k = ss.length := by omega
        subst he
        clear hc
        go_wp2_with (go_at_call 69; refine (Tryd.Builder_String_any w.heap.size w.heap.size s.data.toList _ hB hbr.size).mono ?_; rintro e w1 ⟨rfl, b1⟩)
        go_ret
        exact ⟨by rw [joinS, ← hs.out]; rfl, hbr.trans b1⟩
end Go.Proofs.YtdnpfkknnaepoaaDoor
