/-
  What the two functions GetText (the program's and the specification's) answer of a list of bytes and a place: contracts for the walks; conditions: the bytes lie in memory as told.
-/
import Derived.Test.YthapeknfhlpadaaBytes
import Derived.Laws.BytesArg
import Derived.Laws.BitsAllLaws
namespace Go.Proofs.Ythapeknfhlpadaa
open Go.RowKit
set_option linter.unusedSimpArgs false
set_option linter.unusedVariables false

theorem or_256 (a b : Nat) (hb : b < 256) : a * 256 ||| b = a * 256 + b := by
  have h := Nat.two_pow_add_eq_or_of_lt (i := 8) (b := b) hb a
  rw [show (2 : Nat) ^ 8 = 256 from rfl, Nat.mul_comm 256 a] at h
  exact h.symm

theorem or_bytes (x y : Int) (hx0 : 0 ≤ x) (hx1 : x ≤ 255) (hy0 : 0 ≤ y) (hy1 : y ≤ 255) : bits .or .i64 (x * 256) y = ((x * 256 + y).toNat : Int) := by
  obtain ⟨a, rfl⟩ := Int.eq_ofNat_of_zero_le hx0
  obtain ⟨b, rfl⟩ := Int.eq_ofNat_of_zero_le hy0
  have e : (a : Int) * 256 = ((a * 256 : Nat) : Int) := by omega
  rw [e]
  show IntKind.i64.wrap ((BitVec.ofInt 64 ((a * 256 : Nat) : Int) ||| BitVec.ofInt 64 (b : Int)).toNat : Int) = _
  rw [BitVec.toNat_or, ofInt_u64 (a * 256) (by omega), ofInt_u64 b (by omega), or_256 a b (by omega)]
  rw [IntKind.wrap_i64]
  omega

def lenAt (zs : List Int) (k : Nat) : Nat := (zs.getD k 0 * 256 + zs.getD (k + 1) 0).toNat
def getGood (zs : List Int) (p : Int) : Bool := decide (0 ≤ p) && decide (p + 2 ≤ (zs.length : Int)) && decide (lenAt zs p.toNat ≤ 60000) && decide (p.toNat + 2 + lenAt zs p.toNat ≤ zs.length)
def getS (zs : List Int) (p : Int) : ByteArray := if getGood zs p then strOfNums ((zs.drop (p.toNat + 2)).take (lenAt zs p.toNat)) else ⟨#[]⟩
def getNext (zs : List Int) (p : Int) : Int := if getGood zs p then p + 2 + (lenAt zs p.toNat : Int) else 0

theorem get_bad {zs : List Int} {p : Int} (h : getGood zs p = false) : Ending.returned (.tuple #[.string ⟨#[]⟩, .int .i64 0, .bool false]) = Ending.returned (.tuple #[.string (getS zs p), .int .i64 (getNext zs p), .bool (getGood zs p)]) := by
  simp [getS, getNext, h]
theorem get_good {zs : List Int} {k : Nat} {s : ByteArray} (h : getGood zs k = true) (hs : s = strOfNums ((zs.drop (k + 2)).take (lenAt zs k))) : Ending.returned (.tuple #[.string s, .int .i64 ((k : Int) + 2 + (lenAt zs k : Int)), .bool true]) = Ending.returned (.tuple #[.string (getS zs k), .int .i64 (getNext zs k), .bool (getGood zs k)]) := by
  simp [getS, getNext, h, hs]

theorem good_iff {zs : List Int} {k : Nat} (hk : k + 2 ≤ zs.length) : getGood zs k = (decide (lenAt zs k ≤ 60000) && decide (k + 2 + lenAt zs k ≤ zs.length)) := by
  have h1 : decide ((0 : Int) ≤ (k : Int)) = true := by simp
  have h2 : decide ((k : Int) + 2 ≤ (zs.length : Int)) = true := by simp; omega
  rw [getGood, h1, h2]
  simp

theorem getD_range {zs : List Int} (hz : ∀ z ∈ zs, 0 ≤ z ∧ z ≤ 255) (k : Nat) : 0 ≤ zs.getD k 0 ∧ zs.getD k 0 ≤ 255 := by
  rw [List.getD_eq_getElem?_getD]
  by_cases h : k < zs.length
  · simp [h]; exact hz _ (List.getElem_mem h)
  · simp [List.getElem?_eq_none (by omega : zs.length ≤ k)]

/-- The cells of the text, as a conversion reads them. -/
theorem conv_text {w : World} {b off : Nat} {zs : List Int} {k n : Nat} (hn : k + 2 + n ≤ zs.length) (hc : ∀ k, k < zs.length → w.cell? ⟨b, off + k, none⟩ = some (.int .u8 (zs.getD k 0))) (cap : Nat) :
    (convert 22 9 (.slice (some ⟨b, off + (k + 2), none⟩) n cap)).run Try.prog w = .ok (.string (strOfNums ((zs.drop (k + 2)).take n))) w := by
  refine run_convert_bytes_arg w 22 5 Try.underlying22 Try.underlying5 b (off + (k + 2)) n cap _ (by simp; omega) (fun i hi => ?_) 9 Try.underlying9
  rw [Nat.add_assoc, hc (k + 2 + i) (by omega)]
  simp [List.getD_eq_getElem?_getD, List.getElem?_take, hi]
theorem conv_none {w : World} {b off : Nat} (cap : Nat) :
    (convert 22 9 (.slice (some ⟨b, off, none⟩) 0 cap)).run Try.prog w = .ok (.string (strOfNums [])) w :=
  run_convert_bytes_arg w 22 5 Try.underlying22 Try.underlying5 b off 0 cap [] rfl (fun i hi => by omega) 9 Try.underlying9

set_option maxHeartbeats 1000000 in
set_option maxRecDepth 100000 in
theorem implGet_in (b off cap : Nat) (zs : List Int) (k : Nat) (w : World) (hn : zs.length ≤ 281474976710656) (hcap : zs.length ≤ cap) (hk : k + 2 ≤ zs.length) (hz : ∀ z ∈ zs, 0 ≤ z ∧ z ≤ 255)
    (hc : ∀ k, k < zs.length → w.cell? ⟨b, off + k, none⟩ = some (.int .u8 (zs.getD k 0))) :
    Calls Try.prog 21 #[.slice (some ⟨b, off, none⟩) zs.length cap, .int .i64 k] w fun e w' => e = .returned (.tuple #[.string (getS zs k), .int .i64 (getNext zs k), .bool (getGood zs k)]) ∧ Below w.heap.size w w' := by
  have hk1 : (k : Int) < (zs.length : Int) := by omega
  have hk2 : (k : Int) + 1 < (zs.length : Int) := by omega
  have hg := good_iff hk
  have hcx := hc k (by omega)
  have hcy := hc (k + 1) (by omega)
  have hor := or_bytes (zs.getD k 0) (zs.getD (k + 1) 0) (getD_range hz k).1 (getD_range hz k).2 (getD_range hz (k + 1)).1 (getD_range hz (k + 1)).2
  have hx := getD_range hz k
  have hy := getD_range hz (k + 1)
  rw [← lenAt] at hor
  obtain ⟨n, hnn⟩ : ∃ n, n = lenAt zs k := ⟨_, rfl⟩
  obtain ⟨x, hxx⟩ : ∃ x, x = zs.getD k 0 := ⟨_, rfl⟩
  obtain ⟨y, hyy⟩ : ∃ y, y = zs.getD (k + 1) 0 := ⟨_, rfl⟩
  rw [← hnn] at hor hg
  rw [← hxx] at hor hcx hx
  rw [← hyy] at hor hcy hy
  have HN : Hid (n = lenAt zs k) := hnn
  have hn6 : n ≤ 65535 := by rw [hnn, lenAt, ← hxx, ← hyy]; omega
  clear hnn hxx hyy
  by_cases hok : n ≤ 60000 ∧ k + 2 + n ≤ zs.length
  · have hgood : getGood zs k = true := by rw [hg]; simp [hok]
    have hcv := fun (w' : World) (hb : Below w.heap.size w w') cap => conv_text (w := w') hok.2 (fun j hj => (hb.cell (p := ⟨b, off + j, none⟩) (World.block_lt_of_cell? w _ (hc j hj))).trans (hc j hj)) cap
    obtain ⟨h6, h7⟩ := hok
    have HCV : Hid (∀ (w' : World) (hb : Below w.heap.size w w') cap, (convert 22 9 (.slice (some ⟨b, off + (k + 2), none⟩) n cap)).run Try.prog w' = .ok (.string (strOfNums ((zs.drop (k + 2)).take n))) w') := hcv
    clear hc hg hcv
    by_cases hcp : cap = k + 2
    · have hn0 : n = 0 := by omega
      subst hcp hn0
      have hor0 : bits .or .i64 (x * 256) y = 0 := hor
      clear hor
      go_enter Try.func21, Try.ntmps21
      go_wp2
      go_quiet (fail)
      have hcv0 := fun cap => conv_none (w := w.drewN nq) (b := b) (off := off) cap
      go_wp2
      go_ret3
      refine ⟨?_, below_drewN' (Below.refl _ _) _⟩
      refine Eq.trans ?_ (get_good hgood (s := strOfNums []) (by rw [← HN.out]; simp))
      rw [← HN.out]
      simp
    · go_enter Try.func21, Try.ntmps21
      go_wp2
      go_quiet (fail)
      have hcv := fun cap => HCV.out (w.drewN nq) (below_drewN' (Below.refl _ _) _) cap
      go_wp2
      go_ret3
      refine ⟨?_, below_drewN' (Below.refl _ _) _⟩
      refine Eq.trans ?_ (get_good hgood (s := strOfNums ((zs.drop (k + 2)).take n)) (by rw [← HN.out]))
      rw [← HN.out]
      simp
  · have hbad : getGood zs k = false := by
      rw [hg]
      simp only [Bool.and_eq_false_iff, decide_eq_false_iff_not]
      omega
    rw [← get_bad hbad]
    clear hc hg
    go_enter Try.func21, Try.ntmps21
    go_wp2
    go_quiet (fail)
    go_wp2
    all_goals go_ret3
    all_goals exact ⟨rfl, below_drewN' (Below.refl _ _) _⟩

set_option maxHeartbeats 1000000 in
set_option maxRecDepth 100000 in
theorem implGet_c (v : Value) (zs : List Int) (p : Int) (w : World) (hv : Reads w v (bytesV zs)) (hn : zs.length ≤ 281474976710656) (hz : ∀ z ∈ zs, 0 ≤ z ∧ z ≤ 255) :
    Calls Try.prog 21 #[v, .int .i64 p] w fun e w' => e = .returned (.tuple #[.string (getS zs p), .int .i64 (getNext zs p), .bool (getGood zs p)]) ∧ Below w.heap.size w w' := by
  obtain ⟨a, cap, rfl, hcap, hc⟩ := reads_bytes hv
  clear hv
  by_cases hp : 0 ≤ p ∧ p + 2 ≤ (zs.length : Int)
  · obtain ⟨k, rfl⟩ := Int.eq_ofNat_of_zero_le hp.1
    rcases hc with rfl | ⟨b, off, rfl, hlt, hc⟩
    · simp at hp; omega
    · exact implGet_in b off cap zs k w hn hcap (by omega) hz hc
  · have hbad : getGood zs p = false := by
      by_cases h0 : 0 ≤ p
      · have : decide (p + 2 ≤ (zs.length : Int)) = false := by simp; omega
        rw [getGood, this]; simp
      · have : decide (0 ≤ p) = false := by simp; omega
        rw [getGood, this]; simp
    rw [← get_bad hbad]
    by_cases h0 : p < 0
    · go_enter Try.func21, Try.ntmps21
      go_wp2
      go_ret3
      exact ⟨rfl, Below.refl _ _⟩
    · have h1 : (zs.length : Int) - 2 < p := by omega
      go_enter Try.func21, Try.ntmps21
      go_wp2
      go_ret3
      exact ⟨rfl, Below.refl _ _⟩

set_option maxHeartbeats 1000000 in
set_option maxRecDepth 100000 in
theorem specGet_in (b off cap : Nat) (zs : List Int) (k : Nat) (w : World) (hn : zs.length ≤ 281474976710656) (hcap : zs.length ≤ cap) (hk : k + 2 ≤ zs.length) (hz : ∀ z ∈ zs, 0 ≤ z ∧ z ≤ 255)
    (hc : ∀ k, k < zs.length → w.cell? ⟨b, off + k, none⟩ = some (.int .u8 (zs.getD k 0))) :
    Calls Try.prog 40 #[.slice (some ⟨b, off, none⟩) zs.length cap, .int .i64 k] w fun e w' => e = .returned (.tuple #[.string (getS zs k), .int .i64 (getNext zs k), .bool (getGood zs k)]) ∧ Below w.heap.size w w' := by
  have hk1 : (k : Int) < (zs.length : Int) := by omega
  have hk2 : (k : Int) + 1 < (zs.length : Int) := by omega
  have hg := good_iff hk
  have hin : inB (k : Int) 0 ((zs.length : Int) - 2) = true := by
    simp only [inB, Bool.and_eq_true, decide_eq_true_eq]; omega
  have hcx := hc k (by omega)
  have hcy := hc (k + 1) (by omega)
  have hor := or_bytes (zs.getD k 0) (zs.getD (k + 1) 0) (getD_range hz k).1 (getD_range hz k).2 (getD_range hz (k + 1)).1 (getD_range hz (k + 1)).2
  have hx := getD_range hz k
  have hy := getD_range hz (k + 1)
  rw [← lenAt] at hor
  obtain ⟨n, hnn⟩ : ∃ n, n = lenAt zs k := ⟨_, rfl⟩
  obtain ⟨x, hxx⟩ : ∃ x, x = zs.getD k 0 := ⟨_, rfl⟩
  obtain ⟨y, hyy⟩ : ∃ y, y = zs.getD (k + 1) 0 := ⟨_, rfl⟩
  rw [← hnn] at hor hg
  rw [← hxx] at hor hcx hx
  rw [← hyy] at hor hcy hy
  have HN : Hid (n = lenAt zs k) := hnn
  have hn6 : n ≤ 65535 := by rw [hnn, lenAt, ← hxx, ← hyy]; omega
  clear hnn hxx hyy
  by_cases hok : n ≤ 60000 ∧ k + 2 + n ≤ zs.length
  · have hgood : getGood zs k = true := by rw [hg]; simp [hok]
    have hcv := fun (w' : World) (hb : Below w.heap.size w w') cap => conv_text (w := w') hok.2 (fun j hj => (hb.cell (p := ⟨b, off + j, none⟩) (World.block_lt_of_cell? w _ (hc j hj))).trans (hc j hj)) cap
    obtain ⟨h6, h7⟩ := hok
    have HCV : Hid (∀ (w' : World) (hb : Below w.heap.size w w') cap, (convert 22 9 (.slice (some ⟨b, off + (k + 2), none⟩) n cap)).run Try.prog w' = .ok (.string (strOfNums ((zs.drop (k + 2)).take n))) w') := hcv
    clear hc hg hcv
    by_cases hcp : cap = k + 2
    · have hn0 : n = 0 := by omega
      subst hcp hn0
      have hor0 : bits .or .i64 (x * 256) y = 0 := hor
      clear hor
      go_enter Try.func40, Try.ntmps40
      go_wp2_with (go_at_call 52; refine (in_c _ _ _ _).mono ?_; rintro e w' ⟨rfl, rfl⟩)
      go_quiet (fail)
      have hcv0 := fun cap => conv_none (w := w.drewN nq) (b := b) (off := off) cap
      go_wp2
      go_ret3
      refine ⟨?_, below_drewN' (Below.refl _ _) _⟩
      refine Eq.trans ?_ (get_good hgood (s := strOfNums []) (by rw [← HN.out]; simp))
      rw [← HN.out]
      simp
    · go_enter Try.func40, Try.ntmps40
      go_wp2_with (go_at_call 52; refine (in_c _ _ _ _).mono ?_; rintro e w' ⟨rfl, rfl⟩)
      go_quiet (fail)
      have hcv := fun cap => HCV.out (w.drewN nq) (below_drewN' (Below.refl _ _) _) cap
      go_wp2
      go_ret3
      refine ⟨?_, below_drewN' (Below.refl _ _) _⟩
      refine Eq.trans ?_ (get_good hgood (s := strOfNums ((zs.drop (k + 2)).take n)) (by rw [← HN.out]))
      rw [← HN.out]
      simp
  · have hbad : getGood zs k = false := by
      rw [hg]
      simp only [Bool.and_eq_false_iff, decide_eq_false_iff_not]
      omega
    rw [← get_bad hbad]
    clear hc hg
    go_enter Try.func40, Try.ntmps40
    go_wp2_with (go_at_call 52; refine (in_c _ _ _ _).mono ?_; rintro e w' ⟨rfl, rfl⟩)
    go_quiet (fail)
    go_wp2
    all_goals go_ret3
    all_goals exact ⟨rfl, below_drewN' (Below.refl _ _) _⟩

set_option maxHeartbeats 1000000 in
set_option maxRecDepth 100000 in
theorem specGet_c (v : Value) (zs : List Int) (p : Int) (w : World) (hv : Reads w v (bytesV zs)) (hn : zs.length ≤ 281474976710656) (hz : ∀ z ∈ zs, 0 ≤ z ∧ z ≤ 255) :
    Calls Try.prog 40 #[v, .int .i64 p] w fun e w' => e = .returned (.tuple #[.string (getS zs p), .int .i64 (getNext zs p), .bool (getGood zs p)]) ∧ Below w.heap.size w w' := by
  obtain ⟨a, cap, rfl, hcap, hc⟩ := reads_bytes hv
  clear hv
  by_cases hp : 0 ≤ p ∧ p + 2 ≤ (zs.length : Int)
  · obtain ⟨k, rfl⟩ := Int.eq_ofNat_of_zero_le hp.1
    rcases hc with rfl | ⟨b, off, rfl, hlt, hc⟩
    · simp at hp; omega
    · exact specGet_in b off cap zs k w hn hcap (by omega) hz hc
  · have hbad : getGood zs p = false := by
      by_cases h0 : 0 ≤ p
      · have : decide (p + 2 ≤ (zs.length : Int)) = false := by simp; omega
        rw [getGood, this]; simp
      · have : decide (0 ≤ p) = false := by simp; omega
        rw [getGood, this]; simp
    rw [← get_bad hbad]
    have hin : inB p 0 ((zs.length : Int) - 2) = false := by
      simp only [inB, Bool.and_eq_false_iff, decide_eq_false_iff_not]; omega
    go_enter Try.func40, Try.ntmps40
    go_wp2_with (go_at_call 52; refine (in_c _ _ _ _).mono ?_; rintro e w' ⟨rfl, rfl⟩)
    go_ret3
    exact ⟨rfl, Below.refl _ _⟩
end Go.Proofs.Ythapeknfhlpadaa
