/-
  What the specification's functions that look at a pattern answer (a set in brackets, a piece, a pattern): contracts for the walks; condition: the text has at most 2 to the 20 bytes.
-/
import Derived.Test.YtbkmjbjiagkjmaaGlA
namespace Go.Proofs.Ytbkmjbjiagkjmaa
open Go.RowKit
set_option linter.unusedSimpArgs false
set_option linter.unusedVariables false

theorem setL_at (l : List UInt8) (i m n : Nat) (hm : (headIs 33 (l.drop (i + 1))).toNat = m) (hn : runL (l.drop (i + 1 + m)) = n) :
    setL (l.drop (i + 1)) = if headIs 93 (l.drop (i + 1 + m + n)) && inB n 1 5 then some (⟨false, headIs 33 (l.drop (i + 1)), (l.drop (i + 1 + m)).take n⟩, 1 + m + n + 1) else none := by
  unfold setL
  have e : (l.drop (i + 1)).drop m = l.drop (i + 1 + m) := by rw [List.drop_drop]
  rw [hm, e, hn, List.drop_drop]

/-- The place behind what stands in brackets; -1: it is none. -/
def classI (s : ByteArray) (i : Nat) : Int := match setL (s.data.toList.drop (i + 1)) with | some (_, k) => ((i + k : Nat) : Int) | none => -1

theorem headIs_at (s : ByteArray) (n i : Nat) (h : i < s.size) : headIs n (s.data.toList.drop i) = ((s[i]).toNat == n) := by rw [drop_cons s i h]; rfl
theorem headIs_end (s : ByteArray) (n i : Nat) (h : s.size ≤ i) : headIs n (s.data.toList.drop i) = false := by rw [drop_end s i h]; rfl
theorem list_at (s : ByteArray) (i : Nat) (h : i < s.size) : s.data.toList[i]? = some s[i] := by
  rw [bang_list s i h, byteBang s i h]

/-- A run of bytes of a set, from place f on, j of them. -/
def RunTo (s : ByteArray) (f j : Nat) : Prop := ∀ i, i < j → ∃ c, s.data.toList[f + i]? = some c ∧ setB (c.toNat : Int) = true
theorem runTo_step {s : ByteArray} {f j : Nat} (h : RunTo s f j) (hk : f + j < s.size) (hb : setB ((s[f + j]).toNat : Int) = true) : RunTo s f (j + 1) := fun i hi => by
  by_cases e : i = j
  · subst e; exact ⟨_, list_at s _ hk, hb⟩
  · exact h i (by omega)
theorem runTo_end {s : ByteArray} {f j : Nat} (h : RunTo s f j) (he : ∀ (hk : f + j < s.size), setB ((s[f + j]).toNat : Int) = false) : runL (s.data.toList.drop f) = j := by
  rw [runL_take j h, runL_stop, Nat.add_zero]
  intro c t hc
  by_cases hk : f + j < s.size
  · rw [drop_cons s _ hk] at hc
    cases hc
    exact he hk
  · rw [drop_end s _ (by omega)] at hc
    cases hc
theorem classI_of {s : ByteArray} {i m n : Nat} (hm : (headIs 33 (s.data.toList.drop (i + 1))).toNat = m) (hn : runL (s.data.toList.drop (i + 1 + m)) = n) :
    classI s i = if headIs 93 (s.data.toList.drop (i + 1 + m + n)) && inB n 1 5 then ((i + 1 + m + n + 1 : Nat) : Int) else -1 := by
  unfold classI
  rw [setL_at _ i m n hm hn]
  split
  · rename_i h
    split at h
    · cases h
      rename_i hc
      rw [if_pos hc]
      omega
    · cases h
  · rename_i h
    split at h
    · cases h
    · rename_i hc
      rw [if_neg hc]

set_option maxHeartbeats 2000000 in
theorem class6_c (s : ByteArray) (i : Nat) (hi : i < s.size) (hs : s.size ≤ 1048576) (w : World) :
    Calls Try.prog 114 #[.string s, .int .i64 (i : Int)] w fun e w' => e = .returned (.int .i64 (classI s i)) ∧ w = w' := by
  by_cases h0 : i + 1 < s.size
  · have h0i : (i : Int) + 1 < (s.size : Int) := by omega
    cases hb : ((s[i + 1]).toNat == 33) with
    | true =>
      have hbi : (((s[i + 1]).toNat : Int) == 33) = true := by simp at hb ⊢; omega
      have HM : Hid ((headIs 33 (s.data.toList.drop (i + 1))).toNat = 1) := by show _ = _; rw [headIs_at s 33 _ h0, hb]; rfl
      go_enter Try.func114, Try.ntmps114
      go_wp2

      go_loop [5, 6] (fun v5 v6 => ∃ (j k : Nat), v5 = .int .i64 (k : Int) ∧ v6 = .int .i64 (j : Int) ∧ k ≤ s.size ∧ j ≤ k ∧ Hid (k = i + 1 + 1 + j ∧ RunTo s (i + 1 + 1) j)) (fun v5 _ => s.size - (intOf v5).toNat)
      case atStart => exact ⟨0, i + 1 + 1, by go_num, rfl, by omega, by omega, ⟨by omega, fun _ h => absurd h (by omega)⟩⟩
      case round =>
        obtain ⟨j, k, rfl, rfl, hk, hjk, hh⟩ := hrel
        by_cases hlt : k < s.size
        · have hki : (k : Int) < (s.size : Int) := by omega
          have hki2 : ¬ (s.size : Int) ≤ (k : Int) := by omega
          cases h1 : smallB ((s[k]).toNat : Int) with
          | true =>
            go_wp2_with (first
              | (go_at_call 123; refine (small_c _ (byte0 _) (byte255 _) _).mono ?_; rintro e w' ⟨rfl, rfl⟩; rw [h1]))
            go_round
            case rel => exact ⟨j + 1, k + 1, by go_num, by go_num, by omega, by omega, ⟨by have := hh.out.1; omega, by obtain ⟨rfl, h⟩ := hh.out; exact runTo_step h hlt (by simp [setB, h1])⟩⟩
            case measure => simp [intOf]; omega
          | false =>
            cases h2 : digitB ((s[k]).toNat : Int) with
            | true =>
              go_wp2_with (first
                | (go_at_call 123; refine (small_c _ (byte0 _) (byte255 _) _).mono ?_; rintro e w' ⟨rfl, rfl⟩; rw [h1])
                | (go_at_call 124; refine (digit_c _ (byte0 _) (byte255 _) _).mono ?_; rintro e w' ⟨rfl, rfl⟩; rw [h2]))
              go_round
              case rel => exact ⟨j + 1, k + 1, by go_num, by go_num, by omega, by omega, ⟨by have := hh.out.1; omega, by obtain ⟨rfl, h⟩ := hh.out; exact runTo_step h hlt (by simp [setB, h2])⟩⟩
              case measure => simp [intOf]; omega
            | false =>
              have HE : Hid (classI s i = if ((s[k]).toNat == 93) && inB j 1 5 then ((k + 1 : Nat) : Int) else -1) := by
                obtain ⟨rfl, h⟩ := hh.out
                have hr := runTo_end h (fun hk => by simp [setB, h1, h2])
                show _ = _
                rw [classI_of HM.out hr, headIs_at s 93 _ hlt]
              cases hin : inB j 1 5 with
              | false =>
                go_wp2_with (first
                  | (go_at_call 123; refine (small_c _ (byte0 _) (byte255 _) _).mono ?_; rintro e w' ⟨rfl, rfl⟩; rw [h1])
                  | (go_at_call 124; refine (digit_c _ (byte0 _) (byte255 _) _).mono ?_; rintro e w' ⟨rfl, rfl⟩; rw [h2])
                  | (go_at_call 108; refine (in_c _ _ _ _).mono ?_; rintro e w' ⟨rfl, rfl⟩; rw [hin]))
                go_ret
                exact ⟨by rw [HE.out, hin]; simp, rfl⟩
              | true =>
                cases h93 : ((s[k]).toNat == 93) with
                | true =>
                  have h93' : (((s[k]).toNat : Int) != 93) = false := by simp at h93 ⊢; omega
                  go_wp2_with (first
                    | (go_at_call 123; refine (small_c _ (byte0 _) (byte255 _) _).mono ?_; rintro e w' ⟨rfl, rfl⟩; rw [h1])
                    | (go_at_call 124; refine (digit_c _ (byte0 _) (byte255 _) _).mono ?_; rintro e w' ⟨rfl, rfl⟩; rw [h2])
                    | (go_at_call 108; refine (in_c _ _ _ _).mono ?_; rintro e w' ⟨rfl, rfl⟩; rw [hin]))
                  go_ret
                  exact ⟨by rw [HE.out, hin, h93]; simp, rfl⟩
                | false =>
                  have h93' : (((s[k]).toNat : Int) != 93) = true := by simp at h93 ⊢; omega
                  go_wp2_with (first
                    | (go_at_call 123; refine (small_c _ (byte0 _) (byte255 _) _).mono ?_; rintro e w' ⟨rfl, rfl⟩; rw [h1])
                    | (go_at_call 124; refine (digit_c _ (byte0 _) (byte255 _) _).mono ?_; rintro e w' ⟨rfl, rfl⟩; rw [h2])
                    | (go_at_call 108; refine (in_c _ _ _ _).mono ?_; rintro e w' ⟨rfl, rfl⟩; rw [hin]))
                  go_ret
                  exact ⟨by rw [HE.out, hin, h93]; simp, rfl⟩
        · have hki : ¬ (k : Int) < (s.size : Int) := by omega
          have hki2 : (s.size : Int) ≤ (k : Int) := by omega
          have HE : Hid (classI s i = -1) := by
            obtain ⟨rfl, h⟩ := hh.out
            have hr := runTo_end h (fun hk => absurd hk hlt)
            show _ = _
            rw [classI_of HM.out hr, headIs_end s 93 _ (by omega)]; rfl
          cases hin : inB j 1 5 with
          | false =>
            go_wp2_with (go_at_call 108; refine (in_c _ _ _ _).mono ?_; rintro e w' ⟨rfl, rfl⟩; rw [hin])
            go_ret
            exact ⟨by rw [HE.out]; rfl, rfl⟩
          | true =>
            go_wp2_with (go_at_call 108; refine (in_c _ _ _ _).mono ?_; rintro e w' ⟨rfl, rfl⟩; rw [hin])
            go_ret
            exact ⟨by rw [HE.out]; rfl, rfl⟩

    | false =>
      have hbi : (((s[i + 1]).toNat : Int) == 33) = false := by simp at hb ⊢; omega
      have HM : Hid ((headIs 33 (s.data.toList.drop (i + 1))).toNat = 0) := by show _ = _; rw [headIs_at s 33 _ h0, hb]; rfl
      go_enter Try.func114, Try.ntmps114
      go_wp2

      go_loop [5, 6] (fun v5 v6 => ∃ (j k : Nat), v5 = .int .i64 (k : Int) ∧ v6 = .int .i64 (j : Int) ∧ k ≤ s.size ∧ j ≤ k ∧ Hid (k = i + 1 + 0 + j ∧ RunTo s (i + 1 + 0) j)) (fun v5 _ => s.size - (intOf v5).toNat)
      case atStart => exact ⟨0, i + 1 + 0, by go_num, rfl, by omega, by omega, ⟨by omega, fun _ h => absurd h (by omega)⟩⟩
      case round =>
        obtain ⟨j, k, rfl, rfl, hk, hjk, hh⟩ := hrel
        by_cases hlt : k < s.size
        · have hki : (k : Int) < (s.size : Int) := by omega
          have hki2 : ¬ (s.size : Int) ≤ (k : Int) := by omega
          cases h1 : smallB ((s[k]).toNat : Int) with
          | true =>
            go_wp2_with (first
              | (go_at_call 123; refine (small_c _ (byte0 _) (byte255 _) _).mono ?_; rintro e w' ⟨rfl, rfl⟩; rw [h1]))
            go_round
            case rel => exact ⟨j + 1, k + 1, by go_num, by go_num, by omega, by omega, ⟨by have := hh.out.1; omega, by obtain ⟨rfl, h⟩ := hh.out; exact runTo_step h hlt (by simp [setB, h1])⟩⟩
            case measure => simp [intOf]; omega
          | false =>
            cases h2 : digitB ((s[k]).toNat : Int) with
            | true =>
              go_wp2_with (first
                | (go_at_call 123; refine (small_c _ (byte0 _) (byte255 _) _).mono ?_; rintro e w' ⟨rfl, rfl⟩; rw [h1])
                | (go_at_call 124; refine (digit_c _ (byte0 _) (byte255 _) _).mono ?_; rintro e w' ⟨rfl, rfl⟩; rw [h2]))
              go_round
              case rel => exact ⟨j + 1, k + 1, by go_num, by go_num, by omega, by omega, ⟨by have := hh.out.1; omega, by obtain ⟨rfl, h⟩ := hh.out; exact runTo_step h hlt (by simp [setB, h2])⟩⟩
              case measure => simp [intOf]; omega
            | false =>
              have HE : Hid (classI s i = if ((s[k]).toNat == 93) && inB j 1 5 then ((k + 1 : Nat) : Int) else -1) := by
                obtain ⟨rfl, h⟩ := hh.out
                have hr := runTo_end h (fun hk => by simp [setB, h1, h2])
                show _ = _
                rw [classI_of HM.out hr, headIs_at s 93 _ hlt]
              cases hin : inB j 1 5 with
              | false =>
                go_wp2_with (first
                  | (go_at_call 123; refine (small_c _ (byte0 _) (byte255 _) _).mono ?_; rintro e w' ⟨rfl, rfl⟩; rw [h1])
                  | (go_at_call 124; refine (digit_c _ (byte0 _) (byte255 _) _).mono ?_; rintro e w' ⟨rfl, rfl⟩; rw [h2])
                  | (go_at_call 108; refine (in_c _ _ _ _).mono ?_; rintro e w' ⟨rfl, rfl⟩; rw [hin]))
                go_ret
                exact ⟨by rw [HE.out, hin]; simp, rfl⟩
              | true =>
                cases h93 : ((s[k]).toNat == 93) with
                | true =>
                  have h93' : (((s[k]).toNat : Int) != 93) = false := by simp at h93 ⊢; omega
                  go_wp2_with (first
                    | (go_at_call 123; refine (small_c _ (byte0 _) (byte255 _) _).mono ?_; rintro e w' ⟨rfl, rfl⟩; rw [h1])
                    | (go_at_call 124; refine (digit_c _ (byte0 _) (byte255 _) _).mono ?_; rintro e w' ⟨rfl, rfl⟩; rw [h2])
                    | (go_at_call 108; refine (in_c _ _ _ _).mono ?_; rintro e w' ⟨rfl, rfl⟩; rw [hin]))
                  go_ret
                  exact ⟨by rw [HE.out, hin, h93]; simp, rfl⟩
                | false =>
                  have h93' : (((s[k]).toNat : Int) != 93) = true := by simp at h93 ⊢; omega
                  go_wp2_with (first
                    | (go_at_call 123; refine (small_c _ (byte0 _) (byte255 _) _).mono ?_; rintro e w' ⟨rfl, rfl⟩; rw [h1])
                    | (go_at_call 124; refine (digit_c _ (byte0 _) (byte255 _) _).mono ?_; rintro e w' ⟨rfl, rfl⟩; rw [h2])
                    | (go_at_call 108; refine (in_c _ _ _ _).mono ?_; rintro e w' ⟨rfl, rfl⟩; rw [hin]))
                  go_ret
                  exact ⟨by rw [HE.out, hin, h93]; simp, rfl⟩
        · have hki : ¬ (k : Int) < (s.size : Int) := by omega
          have hki2 : (s.size : Int) ≤ (k : Int) := by omega
          have HE : Hid (classI s i = -1) := by
            obtain ⟨rfl, h⟩ := hh.out
            have hr := runTo_end h (fun hk => absurd hk hlt)
            show _ = _
            rw [classI_of HM.out hr, headIs_end s 93 _ (by omega)]; rfl
          cases hin : inB j 1 5 with
          | false =>
            go_wp2_with (go_at_call 108; refine (in_c _ _ _ _).mono ?_; rintro e w' ⟨rfl, rfl⟩; rw [hin])
            go_ret
            exact ⟨by rw [HE.out]; rfl, rfl⟩
          | true =>
            go_wp2_with (go_at_call 108; refine (in_c _ _ _ _).mono ?_; rintro e w' ⟨rfl, rfl⟩; rw [hin])
            go_ret
            exact ⟨by rw [HE.out]; rfl, rfl⟩

  · have h0i : ¬ (i : Int) + 1 < (s.size : Int) := by omega
    have HM : Hid ((headIs 33 (s.data.toList.drop (i + 1))).toNat = 0) := by show _ = _; rw [headIs_end s 33 _ (by omega)]; rfl
    go_enter Try.func114, Try.ntmps114
    go_wp2

    go_loop [5, 6] (fun v5 v6 => ∃ (j k : Nat), v5 = .int .i64 (k : Int) ∧ v6 = .int .i64 (j : Int) ∧ k ≤ s.size ∧ j ≤ k ∧ Hid (k = i + 1 + 0 + j ∧ RunTo s (i + 1 + 0) j)) (fun v5 _ => s.size - (intOf v5).toNat)
    case atStart => exact ⟨0, i + 1 + 0, by go_num, rfl, by omega, by omega, ⟨by omega, fun _ h => absurd h (by omega)⟩⟩
    case round =>
      obtain ⟨j, k, rfl, rfl, hk, hjk, hh⟩ := hrel
      by_cases hlt : k < s.size
      · have hki : (k : Int) < (s.size : Int) := by omega
        have hki2 : ¬ (s.size : Int) ≤ (k : Int) := by omega
        cases h1 : smallB ((s[k]).toNat : Int) with
        | true =>
          go_wp2_with (first
            | (go_at_call 123; refine (small_c _ (byte0 _) (byte255 _) _).mono ?_; rintro e w' ⟨rfl, rfl⟩; rw [h1]))
          go_round
          case rel => exact ⟨j + 1, k + 1, by go_num, by go_num, by omega, by omega, ⟨by have := hh.out.1; omega, by obtain ⟨rfl, h⟩ := hh.out; exact runTo_step h hlt (by simp [setB, h1])⟩⟩
          case measure => simp [intOf]; omega
        | false =>
          cases h2 : digitB ((s[k]).toNat : Int) with
          | true =>
            go_wp2_with (first
              | (go_at_call 123; refine (small_c _ (byte0 _) (byte255 _) _).mono ?_; rintro e w' ⟨rfl, rfl⟩; rw [h1])
              | (go_at_call 124; refine (digit_c _ (byte0 _) (byte255 _) _).mono ?_; rintro e w' ⟨rfl, rfl⟩; rw [h2]))
            go_round
            case rel => exact ⟨j + 1, k + 1, by go_num, by go_num, by omega, by omega, ⟨by have := hh.out.1; omega, by obtain ⟨rfl, h⟩ := hh.out; exact runTo_step h hlt (by simp [setB, h2])⟩⟩
            case measure => simp [intOf]; omega
          | false =>
            have HE : Hid (classI s i = if ((s[k]).toNat == 93) && inB j 1 5 then ((k + 1 : Nat) : Int) else -1) := by
              obtain ⟨rfl, h⟩ := hh.out
              have hr := runTo_end h (fun hk => by simp [setB, h1, h2])
              show _ = _
              rw [classI_of HM.out hr, headIs_at s 93 _ hlt]
            cases hin : inB j 1 5 with
            | false =>
              go_wp2_with (first
                | (go_at_call 123; refine (small_c _ (byte0 _) (byte255 _) _).mono ?_; rintro e w' ⟨rfl, rfl⟩; rw [h1])
                | (go_at_call 124; refine (digit_c _ (byte0 _) (byte255 _) _).mono ?_; rintro e w' ⟨rfl, rfl⟩; rw [h2])
                | (go_at_call 108; refine (in_c _ _ _ _).mono ?_; rintro e w' ⟨rfl, rfl⟩; rw [hin]))
              go_ret
              exact ⟨by rw [HE.out, hin]; simp, rfl⟩
            | true =>
              cases h93 : ((s[k]).toNat == 93) with
              | true =>
                have h93' : (((s[k]).toNat : Int) != 93) = false := by simp at h93 ⊢; omega
                go_wp2_with (first
                  | (go_at_call 123; refine (small_c _ (byte0 _) (byte255 _) _).mono ?_; rintro e w' ⟨rfl, rfl⟩; rw [h1])
                  | (go_at_call 124; refine (digit_c _ (byte0 _) (byte255 _) _).mono ?_; rintro e w' ⟨rfl, rfl⟩; rw [h2])
                  | (go_at_call 108; refine (in_c _ _ _ _).mono ?_; rintro e w' ⟨rfl, rfl⟩; rw [hin]))
                go_ret
                exact ⟨by rw [HE.out, hin, h93]; simp, rfl⟩
              | false =>
                have h93' : (((s[k]).toNat : Int) != 93) = true := by simp at h93 ⊢; omega
                go_wp2_with (first
                  | (go_at_call 123; refine (small_c _ (byte0 _) (byte255 _) _).mono ?_; rintro e w' ⟨rfl, rfl⟩; rw [h1])
                  | (go_at_call 124; refine (digit_c _ (byte0 _) (byte255 _) _).mono ?_; rintro e w' ⟨rfl, rfl⟩; rw [h2])
                  | (go_at_call 108; refine (in_c _ _ _ _).mono ?_; rintro e w' ⟨rfl, rfl⟩; rw [hin]))
                go_ret
                exact ⟨by rw [HE.out, hin, h93]; simp, rfl⟩
      · have hki : ¬ (k : Int) < (s.size : Int) := by omega
        have hki2 : (s.size : Int) ≤ (k : Int) := by omega
        have HE : Hid (classI s i = -1) := by
          obtain ⟨rfl, h⟩ := hh.out
          have hr := runTo_end h (fun hk => absurd hk hlt)
          show _ = _
          rw [classI_of HM.out hr, headIs_end s 93 _ (by omega)]; rfl
        cases hin : inB j 1 5 with
        | false =>
          go_wp2_with (go_at_call 108; refine (in_c _ _ _ _).mono ?_; rintro e w' ⟨rfl, rfl⟩; rw [hin])
          go_ret
          exact ⟨by rw [HE.out]; rfl, rfl⟩
        | true =>
          go_wp2_with (go_at_call 108; refine (in_c _ _ _ _).mono ?_; rintro e w' ⟨rfl, rfl⟩; rw [hin])
          go_ret
          exact ⟨by rw [HE.out]; rfl, rfl⟩

end Go.Proofs.Ytbkmjbjiagkjmaa
