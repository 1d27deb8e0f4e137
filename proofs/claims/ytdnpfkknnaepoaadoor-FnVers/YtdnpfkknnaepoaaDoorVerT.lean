/-
  What VerText answers, the program's and the specification's: the same text; conditions: the list of texts lies in memory as told, and holds no more than 2 to the 20; the library's table of powers of ten lies in memory as its initialiser lays it.
-/
import Derived.Test.YtdnpfkknnaepoaaDoorVerC
import Derived.Test.YtdnpfkknnaepoaaDoorVerF
import Derived.Test.YtdnpfkknnaepoaaDoorJoinA
import Derived.Test.YtdnpfkknnaepoaaDoorNumTextA
namespace Go.Proofs.YtdnpfkknnaepoaaDoor
open Go.RowKit
set_option linter.unusedSimpArgs false
set_option linter.unusedVariables false

theorem numStr_four (n : Nat) (h : n ≤ 9999) : (numStr n).size ≤ 4 := by
  have e : (numStr n).size = (Lib.decDigits n).length := by simp [numStr, ByteArray.size]
  rw [e]
  have hl : ∀ m, ¬ m < 10 → (Lib.decDigits m).length = (Lib.decDigits (m / 10)).length + 1 := fun m hm => by rw [Lib.decDigits, dif_neg hm]; simp
  have h0 : ∀ m, m < 10 → (Lib.decDigits m).length = 1 := fun m hm => by rw [Lib.decDigits, dif_pos hm]; simp
  by_cases h1 : n < 10
  · rw [h0 n h1]; omega
  · rw [hl n h1]
    by_cases h2 : n / 10 < 10
    · rw [h0 _ h2]; omega
    · rw [hl _ h2]
      by_cases h3 : n / 10 / 10 < 10
      · rw [h0 _ h3]; omega
      · rw [hl _ h3, h0 _ (by omega)]; omega

def coreT (a b c : Int) : ByteArray := numStr a.toNat ++ ⟨#[46]⟩ ++ numStr b.toNat ++ ⟨#[46]⟩ ++ numStr c.toNat
def verT (a b c : Int) (ps : List ByteArray) : ByteArray := if verB a b c ps then (if 0 < ps.length then coreT a b c ++ ⟨#[45]⟩ ++ joinS ps ⟨#[46]⟩ else coreT a b c) else ⟨#[]⟩

theorem join_three (x y z t : ByteArray) : joinS [x, y, z] t = x ++ t ++ y ++ t ++ z := by
  have e : joinS [x, y, z] t = ((⟨#[]⟩ ++ x) ++ t ++ y) ++ t ++ z := rfl
  rw [e]
  congr 4

theorem reads_three {w w1 : World} (x y z : ByteArray) (hw : ∀ b, b < (w.alloc (.cells #[.string x, .string y, .string z] 9)).heap.size → w1.heap[b]? = (w.alloc (.cells #[.string x, .string y, .string z] 9)).heap[b]?) (hs : (w.alloc (.cells #[.string x, .string y, .string z] 9)).heap.size ≤ w1.heap.size) : Reads w1 (.slice (some ⟨w.heap.size, 0, none⟩) 3 3) (strsV [x, y, z]) := by
  refine ⟨some ⟨w.heap.size, 0, none⟩, 3, rfl, Nat.le_refl _, .inr ⟨w.heap.size, 0, rfl, Nat.lt_of_lt_of_le (by simp) hs, fun k hk => ?_⟩⟩
  have e : w1.heap[w.heap.size]? = some (.cells #[.string x, .string y, .string z] 9 (0, 0)) := (hw _ (by simp)).trans (vheap_new _ _)
  rw [vblk_cell e]
  match k, hk with
  | 0, _ => rfl
  | 1, _ => rfl
  | 2, _ => rfl

theorem in_range {a : Int} (h : inB a 0 9999 = true) : 0 ≤ a ∧ a ≤ 9999 := by simpa [inB] using h
theorem verB_nums {a b c : Int} {ps : List ByteArray} (h : verB a b c ps = true) : inB a 0 9999 = true ∧ inB b 0 9999 = true ∧ inB c 0 9999 = true := by
  simp only [verB, Bool.and_eq_true] at h
  exact ⟨h.1.1.1.2, h.1.1.2, h.1.2⟩

set_option maxHeartbeats 2000000 in
set_option maxRecDepth 100000 in
theorem implVerText_c (a b c : Int) (u : Value) (ps : List ByteArray) (w : World) (hu : Reads w u (strsV ps)) (hb : bulkS ps ≤ 1048576) (htab : Lib.TabIs Tryd.prog w "internal/strconv.uint64pow10" .u64 Lib.pow10Tab) :
    Calls Tryd.prog 8 #[.agg #[.int .i64 a, .int .i64 b, .int .i64 c, u]] w fun e w' => e = .returned (.string (verT a b c ps)) ∧ Below w.heap.size w w' := by
  have hbx : ∀ o, Below w.heap.size w (w.alloc o) := fun o => (Below.refl _ _).alloc (Nat.le_refl _) _
  have HV : Hid (∀ o, Calls Tryd.prog 15 #[.agg #[.int .i64 a, .int .i64 b, .int .i64 c, u]] (w.alloc o) fun e w' => e = .returned (.bool (verB a b c ps)) ∧ Below (w.alloc o).heap.size (w.alloc o) w') := fun o => implVerOk_c a b c u ps _ (hu.below (hbx o)) hb
  have hn : ps.length ≤ 1048576 := by unfold bulkS at hb; omega
  have HJ : Hid (∀ w1, Below w.heap.size w w1 → Calls Tryd.prog 30 #[u, .string ⟨#[46]⟩] w1 fun e w' => e = .returned (.string (joinS ps ⟨#[46]⟩)) ∧ Below w1.heap.size w1 w') := fun w1 h => implJoin_c u ps ⟨#[46]⟩ w1 (hu.below h) hb (by decide)
  obtain ⟨q, cap, hq, _, _⟩ := reads_strs hu
  subst hq
  clear hu
  cases hv : verB a b c ps with
  | false =>
    have e : verT a b c ps = ⟨#[]⟩ := by rw [verT, hv]; rfl
    rw [e]
    rw [hv] at HV
    go_enter Tryd.func8, Tryd.ntmps8
    go_wp2_with (go_at_call 15; refine (HV.out _).mono ?_; rintro e w1 ⟨rfl, b1⟩)
    go_ret
    exact ⟨rfl, (hbx _).trans (b1.mono (by simp))⟩
  | true =>
    rw [hv] at HV
    obtain ⟨ha, hb', hc⟩ := verB_nums hv
    obtain ⟨ha0, ha1⟩ := in_range ha
    obtain ⟨hb0, hb1⟩ := in_range hb'
    obtain ⟨hc0, hc1⟩ := in_range hc
    have HT : Hid (verT a b c ps = if 0 < ps.length then coreT a b c ++ ⟨#[45]⟩ ++ joinS ps ⟨#[46]⟩ else coreT a b c) := by show _ = _; rw [verT, hv]; rfl
    obtain ⟨x, hx⟩ : ∃ x, x = numStr a.toNat := ⟨_, rfl⟩
    obtain ⟨y, hy⟩ : ∃ y, y = numStr b.toNat := ⟨_, rfl⟩
    obtain ⟨z, hz⟩ : ∃ z, z = numStr c.toNat := ⟨_, rfl⟩
    have hxs : x.size ≤ 4 := by rw [hx]; exact numStr_four _ (by omega)
    have hys : y.size ≤ 4 := by rw [hy]; exact numStr_four _ (by omega)
    have hzs : z.size ≤ 4 := by rw [hz]; exact numStr_four _ (by omega)
    have NA : Hid (∀ w1, Below w.heap.size w w1 → Calls Tryd.prog 31 #[.int .i64 a] w1 fun e w' => e = .returned (.string x) ∧ Below w1.heap.size w1 w') := fun w1 h => by rw [hx]; exact implNumText_c a w1 (by omega) (by omega) (tabIs_below h htab)
    have NB : Hid (∀ w1, Below w.heap.size w w1 → Calls Tryd.prog 31 #[.int .i64 b] w1 fun e w' => e = .returned (.string y) ∧ Below w1.heap.size w1 w') := fun w1 h => by rw [hy]; exact implNumText_c b w1 (by omega) (by omega) (tabIs_below h htab)
    have NC : Hid (∀ w1, Below w.heap.size w w1 → Calls Tryd.prog 31 #[.int .i64 c] w1 fun e w' => e = .returned (.string z) ∧ Below w1.heap.size w1 w') := fun w1 h => by rw [hz]; exact implNumText_c c w1 (by omega) (by omega) (tabIs_below h htab)
    obtain ⟨cT, hcT⟩ : ∃ cT, cT = coreT a b c := ⟨_, rfl⟩
    have hcs : cT.size ≤ 14 := by rw [hcT, coreT, ← hx, ← hy, ← hz]; simp only [ByteArray.size_append]; have : (⟨#[46]⟩ : ByteArray).size = 1 := rfl; omega
    have HJ3 : Hid (∀ (w1 w2 : World), (∀ b, b < (w1.alloc (.cells #[.string x, .string y, .string z] 9)).heap.size → w2.heap[b]? = (w1.alloc (.cells #[.string x, .string y, .string z] 9)).heap[b]?) → (w1.alloc (.cells #[.string x, .string y, .string z] 9)).heap.size ≤ w2.heap.size → Calls Tryd.prog 30 #[.slice (some ⟨w1.heap.size, 0, none⟩) 3 3, .string ⟨#[46]⟩] w2 fun e w' => e = .returned (.string cT) ∧ Below w2.heap.size w2 w') := fun w1 w2 h1 h2 => by
      have := implJoin_c (.slice (some ⟨w1.heap.size, 0, none⟩) 3 3) [x, y, z] ⟨#[46]⟩ w2 (reads_three x y z h1 h2) (by simp [bulkS]; omega) (by decide)
      rw [join_three] at this
      rw [hcT, coreT, ← hx, ← hy, ← hz]
      exact this
    rw [← hcT] at HT
    have hJs : (joinS ps ⟨#[46]⟩).size ≤ 1099512676352 := join_bound ps ⟨#[46]⟩ ps.length (Nat.le_refl _) hb (by decide)
    obtain ⟨J, hJ⟩ : ∃ J, J = joinS ps ⟨#[46]⟩ := ⟨_, rfl⟩
    rw [← hJ] at HT HJ hJs
    clear hx hy hz hcT hJ ha hb' hc htab hv
    go_enter Tryd.func8, Tryd.ntmps8
    go_wp2_with fail
    go_at_call 15
    refine (HV.out _).mono ?_
    rintro e w1 ⟨rfl, b1⟩
    obtain ⟨x0, x1, x2, x3⟩ := box4 b1
    have F1 := (four_new w 26 (.int .i64 a) (.int .i64 b) (.int .i64 c) (.slice q ps.length cap)).keep b1
    have hw1 := (hbx _).trans (b1.mono (by simp))
    have NA' := NA.out w1.drew hw1.drew
    clear HV b1
    go_wp2_with fail
    go_region_held (fun w' => w'.cell? ⟨w.heap.size, 0, none⟩ = some (.int .i64 a) ∧ w'.cell? ⟨w.heap.size, 1, none⟩ = some (.int .i64 b) ∧ w'.cell? ⟨w.heap.size, 2, none⟩ = some (.int .i64 c) ∧ w'.cell? ⟨w.heap.size, 3, none⟩ = some (.slice q ps.length cap)) (go_keep) (first
      | (go_at_call 31
         refine NA'.mono ?_
         rintro e w2 ⟨rfl, b2⟩
         have F2 := F1.drew.keep b2
         have hw2 := hw1.drew.trans (b2.mono hw1.size)
         have NB' := NB.out w2 hw2
         obtain ⟨xx0, xx1, xx2, xx3⟩ := F2.cells
         clear NA' b2 F1)
      | (go_at_call 31
         refine NB'.mono ?_
         rintro e w3 ⟨rfl, b3⟩
         have F3 := F2.keep b3
         have hw3 := hw2.trans (b3.mono hw2.size)
         have NC' := NC.out w3 hw3
         obtain ⟨xy0, xy1, xy2, xy3⟩ := F3.cells
         clear NB' b3 F2)
      | (go_at_call 31
         refine NC'.mono ?_
         rintro e w4 ⟨rfl, b4⟩
         have F4 := F3.keep b4
         have hw4 := hw3.trans (b4.mono hw3.size)
         have la4 := F4.lt
         obtain ⟨xz0, xz1, xz2, xz3⟩ := F4.cells
         clear NC' b4 F3)
      | (go_at_call 30
         refine (HJ3.out w4 _ (fun _ _ => rfl) (Nat.le_refl _)).mono ?_
         rintro e w5 ⟨rfl, b5⟩
         have F5 := (four_old F4 (.cells #[.string x, .string y, .string z] 9)).keep b5
         have hw5 := (hw4.alloc hw4.size (.cells #[.string x, .string y, .string z] 9)).trans (b5.mono (hw4.alloc hw4.size _).size)
         obtain ⟨xw0, xw1, xw2, xw3⟩ := F5.cells
         clear b5 F4))
    by_cases hp : 0 < ps.length
    · have hp' : (0 : Int) < (ps.length : Int) := by omega
      go_wp2_with (go_at_call 30; refine (HJ.out _ hw5).mono ?_; rintro e w6 ⟨rfl, b6⟩)
      go_ret
      refine ⟨?_, hw5.trans (b6.mono hw5.size)⟩
      rw [HT.out, if_pos hp, ByteArray.append_assoc]
      rfl
    · have hp' : ¬ (0 : Int) < (ps.length : Int) := by omega
      go_wp2_with fail
      go_ret
      exact ⟨by rw [HT.out, if_neg hp]; rfl, hw5⟩
end Go.Proofs.YtdnpfkknnaepoaaDoor
