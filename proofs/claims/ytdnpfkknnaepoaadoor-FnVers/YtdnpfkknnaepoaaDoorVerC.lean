/-
  What VerOk answers, the program's and the specification's: contracts for the walks; conditions: the list of texts lies in memory as told, and is no longer than 2 to the 20, with all that it holds.
-/
import Derived.Test.YtdnpfkknnaepoaaDoorVerA2
import Derived.Test.YtdnpfkknnaepoaaDoorVerB
namespace Go.Proofs.YtdnpfkknnaepoaaDoor
open Go.RowKit
set_option linter.unusedSimpArgs false
set_option linter.unusedVariables false

def partsUpto (ps : List ByteArray) : Nat → Bool
  | 0 => true
  | k + 1 => partsUpto ps k && partB (ps.getD k ⟨#[]⟩)
def verB (a b c : Int) (ps : List ByteArray) : Bool := partsUpto ps ps.length && inB a 0 9999 && inB b 0 9999 && inB c 0 9999 && decide (ps.length ≤ 3)

theorem partsUpto_cut (ps : List ByteArray) (k : Nat) (h : partB (ps.getD k ⟨#[]⟩) = false) : ∀ n, k < n → partsUpto ps n = false
  | 0, h0 => by omega
  | n + 1, hk => by
    unfold partsUpto
    by_cases e : k = n
    · subst e; rw [h, Bool.and_false]
    · rw [partsUpto_cut ps k h n (by omega)]; rfl
theorem parts_end {ps : List ByteArray} {k : Nat} (hk : k < ps.length) (h : partB ps[k] = false) : partsUpto ps ps.length = false :=
  partsUpto_cut ps k (by simpa [List.getD_eq_getElem?_getD, hk] using h) _ hk
theorem parts_step {ps : List ByteArray} {k : Nat} (hk : k < ps.length) (hh : Hid (partsUpto ps k = true)) (h : partB ps[k] = true) : Hid (partsUpto ps (k + 1) = true) := by
  show _ = _
  rw [partsUpto, hh.out]
  simpa [List.getD_eq_getElem?_getD, hk] using h
theorem verB_parts {a b c : Int} {ps : List ByteArray} (h : partsUpto ps ps.length = false) : verB a b c ps = false := by rw [verB, h]; rfl
theorem verB_all {a b c : Int} {ps : List ByteArray} (h : partsUpto ps ps.length = true) : verB a b c ps = (inB a 0 9999 && inB b 0 9999 && inB c 0 9999 && decide (ps.length ≤ 3)) := by rw [verB, h]; rfl

theorem verNum_c (n : Int) (w : World) :
    Calls Tryd.prog 42 #[.int .i64 n] w fun e w' => e = .returned (.bool (inB n 0 9999)) ∧ w = w' := by
  by_cases h : 0 ≤ n
  · have hb : inB n 0 9999 = decide (n ≤ 9999) := by simp [inB, h]
    rw [hb]
    go_enter Tryd.func42, Tryd.ntmps42
    go_wp2
    go_ret
    exact ⟨rfl, rfl⟩
  · have hb : inB n 0 9999 = false := by simp [inB, h]
    rw [hb]
    go_enter Tryd.func42, Tryd.ntmps42
    go_wp2
    go_ret
    exact ⟨rfl, rfl⟩

theorem le_sum_of_mem : ∀ {ps : List ByteArray} {s : ByteArray}, s ∈ ps → s.size ≤ (ps.map ByteArray.size).sum
  | p :: ps, s, h => by
    rw [List.map_cons, List.sum_cons]
    rcases List.mem_cons.1 h with rfl | h
    · omega
    · have := le_sum_of_mem h; omega
theorem size_of_bulk {ps : List ByteArray} {s : ByteArray} (h : s ∈ ps) : s.size ≤ bulkS ps := by
  unfold bulkS
  have := le_sum_of_mem h
  omega

set_option maxHeartbeats 2000000 in
set_option maxRecDepth 100000 in
theorem specVerOk_c (a b c : Int) (u : Value) (ps : List ByteArray) (w : World) (hu : Reads w u (strsV ps)) (hb : bulkS ps ≤ 1048576) :
    Calls Tryd.prog 16 #[.agg #[.int .i64 a, .int .i64 b, .int .i64 c, u]] w fun e w' => e = .returned (.bool (verB a b c ps)) ∧ Below w.heap.size w w' := by
  have hsz : ∀ s ∈ ps, s.size ≤ maxLen := fun s hs => by have := size_of_bulk hs; unfold maxLen; omega
  have hn : ps.length ≤ 1048576 := by unfold bulkS at hb; omega
  have hbx : ∀ o, Below w.heap.size w (w.alloc o) := fun o => (Below.refl _ _).alloc (Nat.le_refl _) _
  obtain ⟨q, cap, rfl, _, hc⟩ := reads_strs hu
  clear hu hb
  go_enter Tryd.func16, Tryd.ntmps16
  go_wp2
  go_loop [3] (fun vi => ∃ k : Nat, k ≤ ps.length ∧ vi = .int .i64 (k : Int) ∧ Hid (partsUpto ps k = true)) (fun vi => ps.length - (intOf vi).toNat)
  case atStart => exact ⟨0, Nat.zero_le _, rfl, rfl⟩
  case round =>
    obtain ⟨k, hk, rfl, hh⟩ := hrel
    by_cases hlt : k < ps.length
    · rcases hc with rfl | ⟨bl, off, rfl, hlb, hc⟩
      · simp at hlt
      have hcx := hc k hlt
      have hcy : ∀ o, (w.alloc o).cell? ⟨bl, off + k, none⟩ = some (.string ps[k]) := fun o => ((hbx o).cell (p := ⟨bl, off + k, none⟩) hlb).trans hcx
      have hsk := hsz ps[k] (List.getElem_mem hlt)
      obtain ⟨t, ht⟩ : ∃ t, t = ps[k] := ⟨_, rfl⟩
      rw [← ht] at hcx hcy hsk
      have HT : Hid (t = ps[k]) := ht
      have hki : (k : Int) < (ps.length : Int) := by omega
      clear hc hsz ht
      go_wp2_with (go_at_call 44; refine (specPart_c t hsk _).mono ?_; rintro e w' ⟨rfl, rfl⟩)
      · have h1 : (!partB t) = true := by assumption
        go_ret
        exact ⟨ret_bool (verB_parts (parts_end hlt (by rw [← HT.out]; simpa using h1))).symm, hbx _⟩
      · have h1 : (!partB t) = false := by assumption
        go_round
        case rel => exact ⟨k + 1, by omega, by go_num, parts_step hlt hh (by rw [← HT.out]; simpa using h1)⟩
        case measure => simp [intOf]; omega
    · have he : k = ps.length := by omega
      subst he
      have HA : Hid (partsUpto ps ps.length = true) := hh
      have hki : ¬ (ps.length : Int) < (ps.length : Int) := by omega
      clear hc hsz hh
      cases ha : inB a 0 9999 with
      | false =>
        go_wp2_with (go_at_call 45; refine (in_c _ _ _ _).mono ?_; rintro e w' ⟨rfl, rfl⟩)
        go_ret
        exact ⟨ret_bool (by rw [verB_all HA.out, ha]; rfl), hbx _⟩
      | true =>
        cases hb : inB b 0 9999 with
        | false =>
          go_wp2_with (go_at_call 45; refine (in_c _ _ _ _).mono ?_; rintro e w' ⟨rfl, rfl⟩)
          go_ret
          exact ⟨ret_bool (by rw [verB_all HA.out, ha, hb]; rfl), hbx _⟩
        | true =>
          cases hc : inB c 0 9999 with
          | false =>
            go_wp2_with (go_at_call 45; refine (in_c _ _ _ _).mono ?_; rintro e w' ⟨rfl, rfl⟩)
            go_ret
            exact ⟨ret_bool (by rw [verB_all HA.out, ha, hb, hc]; rfl), hbx _⟩
          | true =>
            go_wp2_with (go_at_call 45; refine (in_c _ _ _ _).mono ?_; rintro e w' ⟨rfl, rfl⟩)
            go_ret
            exact ⟨ret_bool (by rw [verB_all HA.out, ha, hb, hc, Bool.eq_iff_iff]; simp; try omega), hbx _⟩

theorem verB_num {a b c : Int} {ps : List ByteArray} (h : inB a 0 9999 = false ∨ inB b 0 9999 = false ∨ inB c 0 9999 = false ∨ 3 < ps.length) : verB a b c ps = false := by
  rw [verB]
  rcases h with h | h | h | h
  · rw [h]; simp
  · rw [h]; simp
  · rw [h]; simp
  · have : decide (ps.length ≤ 3) = false := by simp; omega
    rw [this, Bool.and_false]

set_option maxHeartbeats 2000000 in
set_option maxRecDepth 100000 in
theorem implVerOk_c (a b c : Int) (u : Value) (ps : List ByteArray) (w : World) (hu : Reads w u (strsV ps)) (hb : bulkS ps ≤ 1048576) :
    Calls Tryd.prog 15 #[.agg #[.int .i64 a, .int .i64 b, .int .i64 c, u]] w fun e w' => e = .returned (.bool (verB a b c ps)) ∧ Below w.heap.size w w' := by
  have hsz : ∀ s ∈ ps, s.size ≤ maxLen := fun s hs => by have := size_of_bulk hs; unfold maxLen; omega
  have hn : ps.length ≤ 1048576 := by unfold bulkS at hb; omega
  have hbx : ∀ o, Below w.heap.size w (w.alloc o) := fun o => (Below.refl _ _).alloc (Nat.le_refl _) _
  obtain ⟨q, cap, rfl, _, hc⟩ := reads_strs hu
  clear hu hb
  cases ha : inB a 0 9999 with
  | false =>
    clear hc
    go_enter Tryd.func15, Tryd.ntmps15
    go_wp2_with (go_at_call 42; refine (verNum_c _ _).mono ?_; rintro e w' ⟨rfl, rfl⟩)
    go_ret
    exact ⟨ret_bool (verB_num (.inl ha)).symm, hbx _⟩
  | true =>
  cases hb : inB b 0 9999 with
  | false =>
    clear hc
    go_enter Tryd.func15, Tryd.ntmps15
    go_wp2_with (go_at_call 42; refine (verNum_c _ _).mono ?_; rintro e w' ⟨rfl, rfl⟩)
    go_ret
    exact ⟨ret_bool (verB_num (.inr (.inl hb))).symm, hbx _⟩
  | true =>
  cases hcc : inB c 0 9999 with
  | false =>
    clear hc
    go_enter Tryd.func15, Tryd.ntmps15
    go_wp2_with (go_at_call 42; refine (verNum_c _ _).mono ?_; rintro e w' ⟨rfl, rfl⟩)
    go_ret
    exact ⟨ret_bool (verB_num (.inr (.inr (.inl hcc)))).symm, hbx _⟩
  | true =>
  by_cases h3 : 3 < ps.length
  · have h3' : (3 : Int) < (ps.length : Int) := by omega
    clear hc
    go_enter Tryd.func15, Tryd.ntmps15
    go_wp2_with (go_at_call 42; refine (verNum_c _ _).mono ?_; rintro e w' ⟨rfl, rfl⟩)
    go_ret
    exact ⟨ret_bool (verB_num (.inr (.inr (.inr h3)))).symm, hbx _⟩
  have h3' : ¬ (3 : Int) < (ps.length : Int) := by omega
  have HV : Hid (partsUpto ps ps.length = true → verB a b c ps = true) := fun h => by rw [verB_all h, ha, hb, hcc]; simp; omega
  go_enter Tryd.func15, Tryd.ntmps15
  go_wp2_with (go_at_call 42; refine (verNum_c _ _).mono ?_; rintro e w' ⟨rfl, rfl⟩)
  go_loopw [4, 30] (fun _ vi wr => ∃ k : Nat, k ≤ ps.length ∧ vi = .int .i64 (k : Int) ∧ Hid (partsUpto ps k = true) ∧ Below w.heap.size w wr) (fun _ vi _ => ps.length - (intOf vi).toNat)
  case atStart => exact ⟨0, Nat.zero_le _, rfl, rfl, hbx _⟩
  case round =>
    obtain ⟨k, hk, rfl, hh, hbr⟩ := hrel
    by_cases hlt : k < ps.length
    · rcases hc with rfl | ⟨bl, off, rfl, hlb, hc⟩
      · simp at hlt
      have hcx : wr.cell? ⟨bl, off + k, none⟩ = some (.string ps[k]) := (hbr.cell (p := ⟨bl, off + k, none⟩) hlb).trans (hc k hlt)
      have hsk := hsz ps[k] (List.getElem_mem hlt)
      obtain ⟨t, ht⟩ : ∃ t, t = ps[k] := ⟨_, rfl⟩
      rw [← ht] at hcx hsk
      have HT : Hid (t = ps[k]) := ht
      have hki : (k : Int) < (ps.length : Int) := by omega
      clear hc hsz ht
      go_wp2_with (go_at_call 43; refine (implPart_c t hsk _).mono ?_; rintro e w1 ⟨rfl, b1⟩)
      · have h1 : (!partB t) = true := by assumption
        go_ret
        exact ⟨ret_bool (verB_parts (parts_end hlt (by rw [← HT.out]; simpa using h1))).symm, hbr.trans (b1.mono hbr.size)⟩
      · have h1 : (!partB t) = false := by assumption
        go_roundw
        case rel => exact ⟨k + 1, by omega, by go_num, parts_step hlt hh (by rw [← HT.out]; simpa using h1), hbr.trans (b1.mono hbr.size)⟩
        case measure => simp [intOf]; omega
    · have he : k = ps.length := by omega
      subst he
      clear hc hsz
      go_wp2
      go_ret
      exact ⟨ret_bool (HV.out hh.out).symm, hbr⟩
end Go.Proofs.YtdnpfkknnaepoaaDoor
