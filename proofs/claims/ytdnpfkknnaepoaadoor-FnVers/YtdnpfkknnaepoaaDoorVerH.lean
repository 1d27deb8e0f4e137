/-
  What LessVer answers, the program's and the specification's: contracts for the walks; conditions: the lists of texts lie in memory as told, and hold no more than 2 to the 20.
-/
import Derived.Test.YtdnpfkknnaepoaaDoorVerG
import Derived.Test.YtdnpfkknnaepoaaDoorVerE
import Derived.Test.YtdnpfkknnaepoaaDoorVerF
namespace Go.Proofs.YtdnpfkknnaepoaaDoor
open Go.RowKit
set_option linter.unusedSimpArgs false
set_option linter.unusedVariables false

theorem orI_drop (zs : List Int) (k : Nat) (h : k < zs.length) : orI (zs.drop k) = if zs[k] = 0 then orI (zs.drop (k + 1)) else zs[k] := by
  rw [List.drop_eq_getElem_cons h, orI]

set_option maxHeartbeats 1000000 in
theorem or_c (zs : List Int) (B cap : Nat) (w : World) (hn : zs.length ≤ 1048576) (hcap : zs.length ≤ cap) (hc : ∀ k (h : k < zs.length), w.cell? ⟨B, k, none⟩ = some (.int .i64 zs[k])) :
    Calls Tryd.prog 78 #[.slice (some ⟨B, 0, none⟩) zs.length cap] w fun e w' => e = .returned (.int .i64 (orI zs)) ∧ w = w' := by
  go_enter Tryd.func78, Tryd.ntmps78
  go_wp2
  go_loop [5, 8] (fun _ vi => ∃ k : Nat, k ≤ zs.length ∧ vi = .int .i64 (k : Int) ∧ Hid (orI zs = orI (zs.drop k))) (fun _ vi => zs.length - (intOf vi).toNat)
  case atStart => exact ⟨0, Nat.zero_le _, rfl, rfl⟩
  case round =>
    obtain ⟨k, hk, rfl, hh⟩ := hrel
    by_cases hlt : k < zs.length
    · have hcx := hc k hlt
      have HD : Hid (orI (zs.drop k) = if zs[k] = 0 then orI (zs.drop (k + 1)) else zs[k]) := orI_drop zs k hlt
      obtain ⟨z, hz⟩ : ∃ z, z = zs[k] := ⟨_, rfl⟩
      rw [← hz] at hcx
      have HZ : Hid (z = zs[k]) := hz
      have hki : (k : Int) < (zs.length : Int) := by omega
      clear hc hz
      go_wp2
      · have h1 : (z != 0) = true := by assumption
        have h2 : ¬ z = 0 := by simpa using h1
        go_ret
        exact ⟨ret_int (by rw [hh.out, HD.out, ← HZ.out, if_neg h2]), rfl⟩
      · have h1 : (z != 0) = false := by assumption
        have h2 : z = 0 := by simpa using h1
        have HN : Hid (orI zs = orI (zs.drop (k + 1))) := by show _ = _; rw [hh.out, HD.out, ← HZ.out, if_pos h2]
        clear h2
        go_round
        case rel => exact ⟨k + 1, by omega, by go_num, HN⟩
        case measure => simp [intOf]; omega
    · have he : k = zs.length := by omega
      subst he
      clear hc
      have HE : Hid (orI zs = 0) := by show _ = _; rw [hh.out, List.drop_length]; rfl
      go_wp2
      go_ret
      exact ⟨ret_int HE.out.symm, rfl⟩

theorem two_cells (w : World) (x y : Int) (t : TypeId) : ∀ k (h : k < [x, y].length), (w.alloc (.cells #[.int .i64 x, .int .i64 y] t)).cell? ⟨w.heap.size, k, none⟩ = some (.int .i64 [x, y][k]) := fun k h => by
  have e := vblk_cell (vheap_new w (.cells #[.int .i64 x, .int .i64 y] t)) k
  rw [e]
  match k, h with
  | 0, _ => rfl
  | 1, _ => rfl
theorem three_cells (w : World) (x y z : Int) (t : TypeId) : ∀ k (h : k < [x, y, z].length), (w.alloc (.cells #[.int .i64 x, .int .i64 y, .int .i64 z] t)).cell? ⟨w.heap.size, k, none⟩ = some (.int .i64 [x, y, z][k]) := fun k h => by
  have e := vblk_cell (vheap_new w (.cells #[.int .i64 x, .int .i64 y, .int .i64 z] t)) k
  rw [e]
  match k, h with
  | 0, _ => rfl
  | 1, _ => rfl
  | 2, _ => rfl

set_option maxHeartbeats 1000000 in
theorem comparePart_c (a b : ByteArray) (ha : a.size ≤ maxLen) (hb : b.size ≤ maxLen) (w : World) :
    Calls Tryd.prog 81 #[.string a, .string b] w fun e w' => e = .returned (.int .i64 (cmpPart a b)) ∧ Below w.heap.size w w' := by
  have HA : Hid (∀ w1, Calls Tryd.prog 82 #[.string a] w1 fun e w' => e = .returned (.bool (digitsB a)) ∧ w1 = w') := fun w1 => implDigits_c a ha w1
  have HB : Hid (∀ w1, Calls Tryd.prog 82 #[.string b] w1 fun e w' => e = .returned (.bool (digitsB b)) ∧ w1 = w') := fun w1 => implDigits_c b hb w1
  unfold maxLen at ha hb
  cases h1 : digitsB a <;> cases h2 : digitsB b
  · have e : cmpPart a b = cmpS a b := by rw [cmpPart, h1, h2]; rfl
    rw [e]
    rw [h1] at HA
    rw [h2] at HB
    go_enter Tryd.func81, Tryd.ntmps81
    go_wp2_with fail
    go_at_call 82
    refine (HA.out _).mono ?_
    rintro e w' ⟨rfl, rfl⟩
    go_wp2_with fail
    go_at_call 82
    refine (HB.out _).mono ?_
    rintro e w' ⟨rfl, rfl⟩
    go_wp2_with (go_at_call 113; refine (compareStr_c _ _ _).mono ?_; rintro e w' ⟨rfl, rfl⟩)
    go_ret
    exact ⟨rfl, Below.refl _ _⟩
  · have e : cmpPart a b = 1 := by rw [cmpPart, h1, h2]; rfl
    rw [e]
    rw [h1] at HA
    rw [h2] at HB
    go_enter Tryd.func81, Tryd.ntmps81
    go_wp2_with fail
    go_at_call 82
    refine (HA.out _).mono ?_
    rintro e w' ⟨rfl, rfl⟩
    go_wp2_with fail
    go_at_call 82
    refine (HB.out _).mono ?_
    rintro e w' ⟨rfl, rfl⟩
    go_wp2
    go_ret
    exact ⟨rfl, Below.refl _ _⟩
  · have e : cmpPart a b = -1 := by rw [cmpPart, h1, h2]; rfl
    rw [e]
    rw [h1] at HA
    rw [h2] at HB
    go_enter Tryd.func81, Tryd.ntmps81
    go_wp2_with fail
    go_at_call 82
    refine (HA.out _).mono ?_
    rintro e w' ⟨rfl, rfl⟩
    go_wp2_with fail
    go_at_call 82
    refine (HB.out _).mono ?_
    rintro e w' ⟨rfl, rfl⟩
    go_wp2
    go_ret
    exact ⟨rfl, Below.refl _ _⟩
  · have e : cmpPart a b = orI [cmpI a.size b.size, cmpS a b] := by rw [cmpPart, h1, h2]; rfl
    rw [e]
    rw [h1] at HA
    rw [h2] at HB
    clear e
    go_enter Tryd.func81, Tryd.ntmps81
    go_wp2_with fail
    go_at_call 82
    refine (HA.out _).mono ?_
    rintro e w' ⟨rfl, rfl⟩
    go_wp2_with fail
    go_at_call 82
    refine (HB.out _).mono ?_
    rintro e w' ⟨rfl, rfl⟩
    go_wp2_with (first
      | (go_at_call 113; refine (compareStr_c _ _ _).mono ?_; rintro e w' ⟨rfl, rfl⟩)
      | (go_at_call 79; refine (compareInt_c _ _ _).mono ?_; rintro e w' ⟨rfl, rfl⟩)
      | (go_at_call 78; refine (or_c [cmpI a.size b.size, cmpS a b] _ _ _ (by simp) (by simp) (two_cells _ _ _ _)).mono ?_; rintro e w' ⟨rfl, rfl⟩))
    go_ret
    exact ⟨rfl, (Below.refl _ _).alloc (Nat.le_refl _) _⟩
end Go.Proofs.YtdnpfkknnaepoaaDoor
