/-
  What the specification's functions that look at a piece and at a pattern answer: contracts for the walks; condition: the text has at most 2 to the 20 bytes.
-/
import Derived.Test.YtbkmjbjiagkjmaaGlB
namespace Go.Proofs.Ytbkmjbjiagkjmaa
open Go.RowKit
set_option linter.unusedSimpArgs false
set_option linter.unusedVariables false

theorem headIs_pos {n : Nat} {l : List UInt8} (h : headIs n l = true) : 0 < l.length := by
  cases l with
  | nil => cases h
  | cons c t => simp
theorem headIs_len {n : Nat} {l : List UInt8} : (headIs n l).toNat ≤ l.length := by
  cases l with
  | nil => simp [headIs]
  | cons c t => have : (headIs n (c :: t)).toNat ≤ 1 := Bool.toNat_le _; simp; omega
theorem setL_le {t : List UInt8} {g : Sgn} {k : Nat} (h : setL t = some (g, k)) : k ≤ t.length + 1 := by
  unfold setL at h
  split at h
  · rename_i hc
    rw [Bool.and_eq_true] at hc
    have h1 := headIs_pos hc.1
    rw [List.drop_drop, List.length_drop] at h1
    cases h
    omega
  · cases h
theorem signL_le {l : List UInt8} {g : Sgn} {k : Nat} (h : signL l = some (g, k)) : k ≤ l.length := by
  cases l with
  | nil => cases h
  | cons c t =>
    rw [signL_cons] at h
    simp only [List.length_cons]
    split at h
    · exact setL_le h
    split at h
    · cases h; omega
    split at h
    · cases h; omega
    split at h
    · cases h; omega
    · cases h

theorem signL_set {s : ByteArray} {i : Nat} (hi : i < s.size) (h : (s[i]).toNat = 91) : signL (s.data.toList.drop i) = setL (s.data.toList.drop (i + 1)) := by
  rw [drop_cons s i hi, signL_cons, if_pos h]
theorem signL_star {s : ByteArray} {i : Nat} (hi : i < s.size) (h : (s[i]).toNat = 42) : signL (s.data.toList.drop i) = some (⟨true, false, []⟩, 1) := by
  rw [drop_cons s i hi, signL_cons, if_neg (by omega), if_pos h]
theorem signL_any {s : ByteArray} {i : Nat} (hi : i < s.size) (h : (s[i]).toNat = 63) : signL (s.data.toList.drop i) = some (⟨false, true, []⟩, 1) := by
  rw [drop_cons s i hi, signL_cons, if_neg (by omega), if_neg (by omega), if_pos h]
theorem pathC_not {n : Nat} (h : pathC (n : Int) = true) : n ≠ 91 ∧ n ≠ 42 ∧ n ≠ 63 ∧ n ≠ 33 := by
  refine ⟨?_, ?_, ?_, ?_⟩ <;> (rintro rfl; exact absurd h (by decide))
theorem signL_path {s : ByteArray} {i : Nat} (hi : i < s.size) (h : pathC ((s[i]).toNat : Int) = true) : signL (s.data.toList.drop i) = some (⟨false, false, [s[i]]⟩, 1) := by
  obtain ⟨h1, h2, h3, _⟩ := pathC_not h
  rw [drop_cons s i hi, signL_cons, if_neg h1, if_neg h2, if_neg h3, if_pos h]
theorem signL_bad {s : ByteArray} {i : Nat} (hi : i < s.size) (h1 : (s[i]).toNat ≠ 91) (h2 : (s[i]).toNat ≠ 42) (h3 : (s[i]).toNat ≠ 63) (h : pathC ((s[i]).toNat : Int) = false) : signL (s.data.toList.drop i) = none := by
  rw [drop_cons s i hi, signL_cons, if_neg h1, if_neg h2, if_neg h3, if_neg (by simp [h])]

theorem pieceB_none {s : ByteArray} (h : signsOf s.data.toList = none) : pieceB s = false := by unfold pieceB; rw [h]
theorem pieceB_some {s : ByteArray} {l : List Sgn} (h : signsOf s.data.toList = some l) : pieceB s = inB l.length 1 12 := by unfold pieceB; rw [h]

theorem readTo_bad {s : ByteArray} {i : Nat} {xs : List Sgn} (h : ReadTo s.data.toList i xs) (hi : i < s.size) (hs : signL (s.data.toList.drop i) = none) : pieceB s = false :=
  pieceB_none (readTo_none h (by rw [len_list]; exact hi) hs)
theorem readTo_all {s : ByteArray} {i : Nat} {xs : List Sgn} (h : ReadTo s.data.toList i xs) (hi : s.size ≤ i) : pieceB s = inB xs.length 1 12 :=
  pieceB_some (readTo_end h (by rw [len_list]; exact hi))
theorem signL_in {s : ByteArray} {i k : Nat} {g : Sgn} (hi : i < s.size) (h : signL (s.data.toList.drop i) = some (g, k)) : i + k ≤ s.size := by
  have := signL_le h
  rw [List.length_drop, len_list] at this
  omega

set_option maxHeartbeats 2000000 in
theorem piece6_c (s : ByteArray) (hs : s.size ≤ 1048576) (w : World) :
    Calls Try.prog 85 #[.string s] w fun e w' => e = .returned (.bool (pieceB s)) ∧ w = w' := by
  go_enter Try.func85, Try.ntmps85
  go_wp2
  go_loop [3, 4] (fun v3 v4 => ∃ (n i : Nat), v3 = .int .i64 (n : Int) ∧ v4 = .int .i64 (i : Int) ∧ i ≤ s.size ∧ n ≤ i ∧ Hid (∃ xs, xs.length = n ∧ ReadTo s.data.toList i xs)) (fun _ v4 => s.size - (intOf v4).toNat)
  case atStart => exact ⟨0, 0, rfl, rfl, by omega, by omega, ⟨[], rfl, readTo_start _⟩⟩
  case round =>
    obtain ⟨n, i, rfl, rfl, hi, hn, HH⟩ := hrel
    by_cases hlt : i < s.size
    · have hki : (i : Int) < (s.size : Int) := by omega
      have HG : Hid (∀ g k, signL (s.data.toList.drop i) = some (g, k) → 1 ≤ k ∧ i + k ≤ s.size ∧ ∃ xs, xs.length = n + 1 ∧ ReadTo s.data.toList (i + k) xs) := fun g k h => by
        obtain ⟨xs, h1, h2⟩ := HH.out
        exact ⟨signL_pos h, signL_in hlt h, xs ++ [g], by simp [h1], readTo_step h2 h⟩
      have HB : Hid (signL (s.data.toList.drop i) = none → pieceB s = false) := fun h => by
        obtain ⟨xs, h1, h2⟩ := HH.out
        exact readTo_bad h2 hlt h
      by_cases h91 : (s[i]).toNat = 91
      · have h91' : (((s[i]).toNat : Int) == 91) = true := by simp; omega
        have HS : Hid (signL (s.data.toList.drop i) = setL (s.data.toList.drop (i + 1))) := signL_set hlt h91
        cases hc : setL (s.data.toList.drop (i + 1)) with
        | none =>
          have hv : classI s i = -1 := by unfold classI; rw [hc]
          have HP : Hid (pieceB s = false) := HB.out (by rw [HS.out, hc])
          clear hc HS HB HG h91
          go_wp2_with (go_at_call 114; refine (class6_c s i hlt hs _).mono ?_; rintro e w' ⟨rfl, rfl⟩; rw [hv])
          go_ret
          exact ⟨by rw [HP.out]; rfl, rfl⟩
        | some p =>
          obtain ⟨g, k⟩ := p
          have hv : classI s i = ((i + k : Nat) : Int) := by unfold classI; rw [hc]
          obtain ⟨q1, q2, q3⟩ := HG.out g k (by rw [HS.out, hc])
          have HQ : Hid (∃ xs, xs.length = n + 1 ∧ ReadTo s.data.toList (i + k) xs) := q3
          obtain ⟨j, hj⟩ : ∃ j, j = i + k := ⟨_, rfl⟩
          rw [← hj] at hv HQ q2
          have hnj : n + 1 ≤ j ∧ i < j := by omega
          have hj0 : ¬ (j : Int) < 0 := by omega
          clear hc HS HB HG q3 h91 hj q1
          go_wp2_with (go_at_call 114; refine (class6_c s i hlt hs _).mono ?_; rintro e w' ⟨rfl, rfl⟩; rw [hv])
          go_round
          case rel => exact ⟨n + 1, j, by go_num, rfl, q2, hnj.1, HQ⟩
          case measure => simp [intOf]; omega
      · have h91' : (((s[i]).toNat : Int) == 91) = false := by simp; omega
        cases hp : pathC ((s[i]).toNat : Int) with
        | true =>
          obtain ⟨_, q2, q3⟩ := HG.out _ _ (signL_path hlt hp)
          have HQ : Hid (∃ xs, xs.length = n + 1 ∧ ReadTo s.data.toList (i + 1) xs) := q3
          clear HB HG q3 h91
          go_wp2_with (go_at_call 107; refine (letter5_c _ (byte0 _) (byte255 _) _).mono ?_; rintro e w' ⟨rfl, rfl⟩; rw [hp])
          go_round
          case rel => exact ⟨n + 1, i + 1, by go_num, by go_num, by omega, by omega, HQ⟩
          case measure => simp [intOf]; omega
        | false =>
          by_cases h63 : (s[i]).toNat = 63
          · have h63' : (((s[i]).toNat : Int) == 63) = true := by simp; omega
            obtain ⟨_, q2, q3⟩ := HG.out _ _ (signL_any hlt h63)
            have HQ : Hid (∃ xs, xs.length = n + 1 ∧ ReadTo s.data.toList (i + 1) xs) := q3
            clear HB HG q3 h91 h63
            go_wp2_with (go_at_call 107; refine (letter5_c _ (byte0 _) (byte255 _) _).mono ?_; rintro e w' ⟨rfl, rfl⟩; rw [hp])
            go_round
            case rel => exact ⟨n + 1, i + 1, by go_num, by go_num, by omega, by omega, HQ⟩
            case measure => simp [intOf]; omega
          · have h63' : (((s[i]).toNat : Int) == 63) = false := by simp; omega
            by_cases h42 : (s[i]).toNat = 42
            · have h42' : (((s[i]).toNat : Int) == 42) = true := by simp; omega
              obtain ⟨_, q2, q3⟩ := HG.out _ _ (signL_star hlt h42)
              have HQ : Hid (∃ xs, xs.length = n + 1 ∧ ReadTo s.data.toList (i + 1) xs) := q3
              clear HB HG q3 h91 h63 h42
              go_wp2_with (go_at_call 107; refine (letter5_c _ (byte0 _) (byte255 _) _).mono ?_; rintro e w' ⟨rfl, rfl⟩; rw [hp])
              go_round
              case rel => exact ⟨n + 1, i + 1, by go_num, by go_num, by omega, by omega, HQ⟩
              case measure => simp [intOf]; omega
            · have h42' : (((s[i]).toNat : Int) == 42) = false := by simp; omega
              have HP : Hid (pieceB s = false) := HB.out (signL_bad hlt h91 h42 h63 hp)
              clear HB HG h91 h63 h42
              go_wp2_with (go_at_call 107; refine (letter5_c _ (byte0 _) (byte255 _) _).mono ?_; rintro e w' ⟨rfl, rfl⟩; rw [hp])
              go_ret
              exact ⟨by rw [HP.out]; rfl, rfl⟩
    · have hki : ¬ (i : Int) < (s.size : Int) := by omega
      have HP : Hid (pieceB s = inB n 1 12) := by
        obtain ⟨xs, h1, h2⟩ := HH.out
        show _ = _
        rw [readTo_all h2 (by omega), h1]
      go_wp2_with (go_at_call 108; refine (in_c _ _ _ _).mono ?_; rintro e w' ⟨rfl, rfl⟩)
      go_ret
      exact ⟨by rw [HP.out]; rfl, rfl⟩

theorem pieceB_stars {s : ByteArray} (h : s.toList = [42, 42]) : pieceB s = true := by
  have e : s.data.toList = [42, 42] := by rw [← Lib.toList_data]; exact h
  rw [pieceB_some (l := [⟨true, false, []⟩, ⟨true, false, []⟩]) (by rw [e]; rfl)]
  rfl

set_option maxHeartbeats 1000000 in
set_option maxRecDepth 100000 in
theorem specGlob_c (s : ByteArray) (w : World) (hs : s.size ≤ 1048576) :
    Calls Try.prog 39 #[.string s] w fun e w' => e = .returned (.bool (globB s)) ∧ Below w.heap.size w w' := by
  obtain ⟨l, hl⟩ : ∃ l, l = splitS s 47 := ⟨_, rfl⟩
  have hsz : ∀ x ∈ l, x.size ≤ 1048576 := fun x hx => by rw [hl] at hx; have := splitS_piece s 47 x hx; omega
  have hln : l.length ≤ 1048577 := by rw [hl]; have := splitS_len s 47; omega
  have hpb : globB s = (decide (l.length ≤ 4) && l.all pieceB) := by rw [globB, ← hl]
  have hcs := specSplit_c s 47 w hs
  rw [← hl] at hcs
  rw [hpb]
  clear hl hpb
  go_enter Try.func39, Try.ntmps39
  go_wp2_with (go_at_call 74; refine hcs.mono ?_; rintro e w1 ⟨v, rfl, ho, hb⟩; obtain ⟨a, cap, rfl, _, hc⟩ := reads_strs (reads_of_owns ho); clear ho hcs)
  go_loopw [4] (fun vi wr => ∃ k : Nat, k ≤ l.length ∧ vi = .int .i64 (k : Int) ∧ Hid ((l.take k).all pieceB = true) ∧ wr = w1) (fun vi _ => l.length - (intOf vi).toNat)
  case atStart => exact ⟨0, Nat.zero_le _, rfl, (by show _ = _; simp), rfl⟩
  case round =>
    obtain ⟨k, hk, rfl, hh, rfl⟩ := hrel
    by_cases hlt : k < l.length
    · rcases hc with rfl | ⟨b, off, rfl, hbl, hc⟩
      · simp at hlt
      have hki : (k : Int) < (l.length : Int) := by omega
      have hcx := hc k hlt
      have hx := hsz l[k] (List.getElem_mem hlt)
      obtain ⟨x, hxe⟩ : ∃ x, x = l[k] := ⟨_, rfl⟩
      rw [← hxe] at hcx hx
      have HX : Hid (x = l[k]) := hxe
      clear hc hxe hsz
      cases h2 : (x.toList == [42, 42]) with
      | true =>
        have hp : pieceB x = true := pieceB_stars (by simpa using h2)
        have h2' : (x.toList != [42, 42]) = false := by simp [bne, h2]
        go_wp2_with fail
        go_roundw
        case rel => exact ⟨k + 1, by omega, by go_num, all_take_step hlt hh.out (by rw [← HX.out]; exact hp), (by first | rfl | trivial)⟩
        case measure => simp [intOf]; omega
      | false =>
        have h2' : (x.toList != [42, 42]) = true := by simp [bne, h2]
        cases hp : pieceB x with
        | true =>
          go_wp2_with (go_at_call 85; refine (piece6_c x hx _).mono ?_; rintro e w' ⟨rfl, rfl⟩; rw [hp])
          go_roundw
          case rel => exact ⟨k + 1, by omega, by go_num, all_take_step hlt hh.out (by rw [← HX.out]; exact hp), (by first | rfl | trivial)⟩
          case measure => simp [intOf]; omega
        | false =>
          go_wp2_with (go_at_call 85; refine (piece6_c x hx _).mono ?_; rintro e w' ⟨rfl, rfl⟩; rw [hp])
          go_ret
          exact ⟨by rw [all_false_at hlt (by rw [← HX.out]; exact hp)]; simp, hb⟩
    · have he : k = l.length := by omega
      subst he
      have ha : l.all pieceB = true := by have := hh.out; rwa [List.take_length] at this
      clear hc hsz
      go_wp2
      go_ret
      exact ⟨by rw [ha]; simp; omega, hb⟩
end Go.Proofs.Ytbkmjbjiagkjmaa
