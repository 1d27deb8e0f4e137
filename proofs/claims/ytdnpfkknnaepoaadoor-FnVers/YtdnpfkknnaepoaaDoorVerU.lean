/-
  What the specification's VerText answers: a contract for the walks; conditions: the list of texts lies in memory as told, and holds no more than 2 to the 20.
-/
import Derived.Test.YtdnpfkknnaepoaaDoorVerT
namespace Go.Proofs.YtdnpfkknnaepoaaDoor
open Go.RowKit
set_option linter.unusedSimpArgs false
set_option linter.unusedVariables false

set_option maxHeartbeats 2000000 in
set_option maxRecDepth 100000 in
theorem specVerText_c (a b c : Int) (u : Value) (ps : List ByteArray) (w : World) (hu : Reads w u (strsV ps)) (hb : bulkS ps ≤ 1048576) :
    Calls Tryd.prog 32 #[.agg #[.int .i64 a, .int .i64 b, .int .i64 c, u]] w fun e w' => e = .returned (.string (verT a b c ps)) ∧ Below w.heap.size w w' := by
  have hbx : ∀ o, Below w.heap.size w (w.alloc o) := fun o => (Below.refl _ _).alloc (Nat.le_refl _) _
  have HV : Hid (∀ o, Calls Tryd.prog 16 #[.agg #[.int .i64 a, .int .i64 b, .int .i64 c, u]] (w.alloc o) fun e w' => e = .returned (.bool (verB a b c ps)) ∧ Below (w.alloc o).heap.size (w.alloc o) w') := fun o => specVerOk_c a b c u ps _ (hu.below (hbx o)) hb
  have hn : ps.length ≤ 1048576 := by unfold bulkS at hb; omega
  have HJ : Hid (∀ w1, Below w.heap.size w w1 → Calls Tryd.prog 72 #[u, .string ⟨#[46]⟩] w1 fun e w' => e = .returned (.string (joinS ps ⟨#[46]⟩)) ∧ w1 = w') := fun w1 h => specJoin_c u ps ⟨#[46]⟩ w1 (hu.below h) hb (by decide)
  obtain ⟨q, cap, hq, _, _⟩ := reads_strs hu
  subst hq
  clear hu
  cases hv : verB a b c ps with
  | false =>
    have e : verT a b c ps = ⟨#[]⟩ := by rw [verT, hv]; rfl
    rw [e]
    rw [hv] at HV
    go_enter Tryd.func32, Tryd.ntmps32
    go_wp2_with (go_at_call 16; refine (HV.out _).mono ?_; rintro e w1 ⟨rfl, b1⟩)
    go_ret
    exact ⟨rfl, (hbx _).trans (b1.mono (by simp))⟩
  | true =>
    rw [hv] at HV
    obtain ⟨ha, hb', hc⟩ := verB_nums hv
    obtain ⟨ha0, ha1⟩ := in_range ha
    obtain ⟨hb0, hb1⟩ := in_range hb'
    obtain ⟨hc0, hc1⟩ := in_range hc
    have HT : Hid (verT a b c ps = if 0 < ps.length then coreT a b c ++ ⟨#[45]⟩ ++ joinS ps ⟨#[46]⟩ else coreT a b c) := by show _ = _; rw [verT, hv]; rfl
    obtain ⟨x, hx⟩ : ∃ x, x = numStr a.toNat := ⟨_, rfl⟩
    obtain ⟨y, hy⟩ : ∃ y, y = numStr b.toNat := ⟨_, rfl⟩
    obtain ⟨z, hz⟩ : ∃ z, z = numStr c.toNat := ⟨_, rfl⟩
    have hxs : x.size ≤ 4 := by rw [hx]; exact numStr_four _ (by omega)
    have hys : y.size ≤ 4 := by rw [hy]; exact numStr_four _ (by omega)
    have hzs : z.size ≤ 4 := by rw [hz]; exact numStr_four _ (by omega)
    have NA : Hid (∀ w1, Calls Tryd.prog 71 #[.int .i64 a] w1 fun e w' => e = .returned (.string x) ∧ Below w1.heap.size w1 w') := fun w1 => by rw [hx]; exact specNumText_c a w1 (by omega)
    have NB : Hid (∀ w1, Calls Tryd.prog 71 #[.int .i64 b] w1 fun e w' => e = .returned (.string y) ∧ Below w1.heap.size w1 w') := fun w1 => by rw [hy]; exact specNumText_c b w1 (by omega)
    have NC : Hid (∀ w1, Calls Tryd.prog 71 #[.int .i64 c] w1 fun e w' => e = .returned (.string z) ∧ Below w1.heap.size w1 w') := fun w1 => by rw [hz]; exact specNumText_c c w1 (by omega)
    have HCT : Hid (coreT a b c = x ++ ⟨#[46]⟩ ++ y ++ ⟨#[46]⟩ ++ z) := by show _ = _; rw [coreT, ← hx, ← hy, ← hz]
    have hJs : (joinS ps ⟨#[46]⟩).size ≤ 1099512676352 := join_bound ps ⟨#[46]⟩ ps.length (Nat.le_refl _) hb (by decide)
    obtain ⟨J, hJ⟩ : ∃ J, J = joinS ps ⟨#[46]⟩ := ⟨_, rfl⟩
    rw [← hJ] at HT HJ hJs
    clear hx hy hz hJ ha hb' hc hv
    go_enter Tryd.func32, Tryd.ntmps32
    go_wp2_with fail
    go_at_call 16
    refine (HV.out _).mono ?_
    rintro e w1 ⟨rfl, b1⟩
    obtain ⟨x0, x1, x2, x3⟩ := box4 b1
    have F1 := (four_new w 26 (.int .i64 a) (.int .i64 b) (.int .i64 c) (.slice q ps.length cap)).keep b1
    have hw1 := (hbx _).trans (b1.mono (by simp))
    have NA' := NA.out w1.drew
    clear HV b1
    go_wp2_with fail
    go_region_held (fun w' => w'.cell? ⟨w.heap.size, 0, none⟩ = some (.int .i64 a) ∧ w'.cell? ⟨w.heap.size, 1, none⟩ = some (.int .i64 b) ∧ w'.cell? ⟨w.heap.size, 2, none⟩ = some (.int .i64 c) ∧ w'.cell? ⟨w.heap.size, 3, none⟩ = some (.slice q ps.length cap)) (go_keep) (first
      | (go_at_call 71
         refine NA'.mono ?_
         rintro e w2 ⟨rfl, b2⟩
         have F2 := F1.drew.keep b2
         have hw2 := hw1.drew.trans (b2.mono hw1.size)
         have NB' := NB.out w2
         obtain ⟨xx0, xx1, xx2, xx3⟩ := F2.cells
         clear NA' b2 F1)
      | (go_at_call 71
         refine NB'.mono ?_
         rintro e w3 ⟨rfl, b3⟩
         have F3 := F2.keep b3
         have hw3 := hw2.trans (b3.mono hw2.size)
         have NC' := NC.out w3
         obtain ⟨xy0, xy1, xy2, xy3⟩ := F3.cells
         clear NB' b3 F2)
      | (go_at_call 71
         refine NC'.mono ?_
         rintro e w4 ⟨rfl, b4⟩
         have F4 := F3.keep b4
         have hw4 := hw3.trans (b4.mono hw3.size)
         have la4 := F4.lt
         obtain ⟨xz0, xz1, xz2, xz3⟩ := F4.cells
         clear NC' b4 F3))
    all_goals (
      by_cases hp : 0 < ps.length
      · have hp' : (0 : Int) < (ps.length : Int) := by omega
        go_wp2_with (go_at_call 72; refine (HJ.out _ hw4).mono ?_; rintro e w6 ⟨rfl, rfl⟩)
        go_ret
        exact ⟨by rw [HT.out, if_pos hp, HCT.out]; rfl, hw4⟩
      · have hp' : ¬ (0 : Int) < (ps.length : Int) := by omega
        go_wp2_with fail
        go_ret
        exact ⟨by rw [HT.out, if_neg hp, HCT.out]; rfl, hw4⟩)
end Go.Proofs.YtdnpfkknnaepoaaDoor
