/-
  Contracts for the walks, several texts in one: each part says what it proves, and under which conditions.
-/
import Derived.Deep.RegionHeld
import Derived.Shelf.Strings.Builder1
import Derived.Shelf.Strings.BuilderF
import Derived.Shelf.Strconv.Itoa0
import Derived.Shelf.Strconv.Itoa1
import Derived.Shelf.LaysM
import Derived.Shelf.Strconv.Itoa2
import Derived.Shelf.Strconv.Itoa3
import Derived.Shelf.Strconv.Clone
import Derived.Shelf.Strings.Search1
import Derived.Shelf.Strings.Search2
import Derived.Shelf.Strings.Cut
import Derived.Shelf.Strings.Shaped
import Derived.Test.YthmilkcghfaecaaDoorProg
import Derived.Lib.Builder
import Derived.Lib.AppendStr
import Derived.Lib.UnsafeStr
import Derived.Laws.Externs
import Derived.Test.YthmilkcghfaecaaDoorQ1

/-! What VerOk answers, the program's and the specification's: contracts for the walks; conditions: the list of texts lies in memory as told, and is no longer than 2 to the 20, with all that it holds. -/
namespace Go.Proofs.YthmilkcghfaecaaDoor
open Go.RowKit
set_option linter.unusedSimpArgs false
set_option linter.unusedVariables false

def partsUpto (ps : List ByteArray) : Nat → Bool
  | 0 => true
  | k + 1 => partsUpto ps k && partB (ps.getD k ⟨#[]⟩)
def verB (a b c : Int) (ps : List ByteArray) : Bool := partsUpto ps ps.length && inB a 0 9999 && inB b 0 9999 && inB c 0 9999 && decide (ps.length ≤ 3)

theorem partsUpto_cut (ps : List ByteArray) (k : Nat) (h : partB (ps.getD k ⟨#[]⟩) = false) : ∀ n, k < n → partsUpto ps n = false
  | 0, h0 => by omega
  | n + 1, hk => by
    unfold partsUpto
    by_cases e : k = n
    · subst e; rw [h, Bool.and_false]
    · rw [partsUpto_cut ps k h n (by omega)]; rfl
theorem parts_end {ps : List ByteArray} {k : Nat} (hk : k < ps.length) (h : partB ps[k] = false) : partsUpto ps ps.length = false :=
  partsUpto_cut ps k (by simpa [List.getD_eq_getElem?_getD, hk] using h) _ hk
theorem parts_step {ps : List ByteArray} {k : Nat} (hk : k < ps.length) (hh : Hid (partsUpto ps k = true)) (h : partB ps[k] = true) : Hid (partsUpto ps (k + 1) = true) := by
  show _ = _
  rw [partsUpto, hh.out]
  simpa [List.getD_eq_getElem?_getD, hk] using h
theorem verB_parts {a b c : Int} {ps : List ByteArray} (h : partsUpto ps ps.length = false) : verB a b c ps = false := by rw [verB, h]; rfl
theorem verB_all {a b c : Int} {ps : List ByteArray} (h : partsUpto ps ps.length = true) : verB a b c ps = (inB a 0 9999 && inB b 0 9999 && inB c 0 9999 && decide (ps.length ≤ 3)) := by rw [verB, h]; rfl

theorem verNum_c (n : Int) (w : World) :
    Calls Tryd.prog 61 #[.int .i64 n] w fun e w' => e = .returned (.bool (inB n 0 9999)) ∧ w = w' := by
  by_cases h : 0 ≤ n
  · have hb : inB n 0 9999 = decide (n ≤ 9999) := by simp [inB, h]
    rw [hb]
    go_enter Tryd.func61, Tryd.ntmps61
    go_wp2
    go_ret
    exact ⟨rfl, rfl⟩
  · have hb : inB n 0 9999 = false := by simp [inB, h]
    rw [hb]
    go_enter Tryd.func61, Tryd.ntmps61
    go_wp2
    go_ret
    exact ⟨rfl, rfl⟩

theorem le_sum_of_mem : ∀ {ps : List ByteArray} {s : ByteArray}, s ∈ ps → s.size ≤ (ps.map ByteArray.size).sum
  | p :: ps, s, h => by
    rw [List.map_cons, List.sum_cons]
    rcases List.mem_cons.1 h with rfl | h
    · omega
    · have := le_sum_of_mem h; omega
theorem size_of_bulk {ps : List ByteArray} {s : ByteArray} (h : s ∈ ps) : s.size ≤ bulkS ps := by
  unfold bulkS
  have := le_sum_of_mem h
  omega

set_option maxHeartbeats 2000000 in
set_option maxRecDepth 100000 in
theorem specVerOk_c (a b c : Int) (u : Value) (ps : List ByteArray) (w : World) (hu : Reads w u (strsV ps)) (hb : bulkS ps ≤ 1048576) :
    Calls Tryd.prog 32 #[.agg #[.int .i64 a, .int .i64 b, .int .i64 c, u]] w fun e w' => e = .returned (.bool (verB a b c ps)) ∧ Below w.heap.size w w' := by
  have hsz : ∀ s ∈ ps, s.size ≤ maxLen := fun s hs => by have := size_of_bulk hs; unfold maxLen; omega
  have hn : ps.length ≤ 1048576 := by unfold bulkS at hb; omega
  have hbx : ∀ o, Below w.heap.size w (w.alloc o) := fun o => (Below.refl _ _).alloc (Nat.le_refl _) _
  obtain ⟨q, cap, rfl, _, hc⟩ := reads_strs hu
  clear hu hb
  go_enter Tryd.func32, Tryd.ntmps32
  go_wp2
  go_loop [3] (fun vi => ∃ k : Nat, k ≤ ps.length ∧ vi = .int .i64 (k : Int) ∧ Hid (partsUpto ps k = true)) (fun vi => ps.length - (intOf vi).toNat)
  case atStart => exact ⟨0, Nat.zero_le _, rfl, rfl⟩
  case round =>
    obtain ⟨k, hk, rfl, hh⟩ := hrel
    by_cases hlt : k < ps.length
    · rcases hc with rfl | ⟨bl, off, rfl, hlb, hc⟩
      · simp at hlt
      have hcx := hc k hlt
      have hcy : ∀ o, (w.alloc o).cell? ⟨bl, off + k, none⟩ = some (.string ps[k]) := fun o => ((hbx o).cell (p := ⟨bl, off + k, none⟩) hlb).trans hcx
      have hsk := hsz ps[k] (List.getElem_mem hlt)
      obtain ⟨t, ht⟩ : ∃ t, t = ps[k] := ⟨_, rfl⟩
      rw [← ht] at hcx hcy hsk
      have HT : Hid (t = ps[k]) := ht
      have hki : (k : Int) < (ps.length : Int) := by omega
      clear hc hsz ht
      go_wp2_with (go_at_call 56; refine (specPart_c t hsk _).mono ?_; rintro e w' ⟨rfl, rfl⟩)
      · have h1 : (!partB t) = true := by assumption
        go_ret
        exact ⟨ret_bool (verB_parts (parts_end hlt (by rw [← HT.out]; simpa using h1))).symm, hbx _⟩
      · have h1 : (!partB t) = false := by assumption
        go_round
        case rel => exact ⟨k + 1, by omega, by go_num, parts_step hlt hh (by rw [← HT.out]; simpa using h1)⟩
        case measure => simp [intOf]; omega
    · have he : k = ps.length := by omega
      subst he
      have HA : Hid (partsUpto ps ps.length = true) := hh
      have hki : ¬ (ps.length : Int) < (ps.length : Int) := by omega
      clear hc hsz hh
      cases ha : inB a 0 9999 with
      | false =>
        go_wp2_with (go_at_call 55; refine (in_c _ _ _ _).mono ?_; rintro e w' ⟨rfl, rfl⟩)
        go_ret
        exact ⟨ret_bool (by rw [verB_all HA.out, ha]; rfl), hbx _⟩
      | true =>
        cases hb : inB b 0 9999 with
        | false =>
          go_wp2_with (go_at_call 55; refine (in_c _ _ _ _).mono ?_; rintro e w' ⟨rfl, rfl⟩)
          go_ret
          exact ⟨ret_bool (by rw [verB_all HA.out, ha, hb]; rfl), hbx _⟩
        | true =>
          cases hc : inB c 0 9999 with
          | false =>
            go_wp2_with (go_at_call 55; refine (in_c _ _ _ _).mono ?_; rintro e w' ⟨rfl, rfl⟩)
            go_ret
            exact ⟨ret_bool (by rw [verB_all HA.out, ha, hb, hc]; rfl), hbx _⟩
          | true =>
            go_wp2_with (go_at_call 55; refine (in_c _ _ _ _).mono ?_; rintro e w' ⟨rfl, rfl⟩)
            go_ret
            exact ⟨ret_bool (by rw [verB_all HA.out, ha, hb, hc, Bool.eq_iff_iff]; simp; try omega), hbx _⟩

theorem verB_num {a b c : Int} {ps : List ByteArray} (h : inB a 0 9999 = false ∨ inB b 0 9999 = false ∨ inB c 0 9999 = false ∨ 3 < ps.length) : verB a b c ps = false := by
  rw [verB]
  rcases h with h | h | h | h
  · rw [h]; simp
  · rw [h]; simp
  · rw [h]; simp
  · have : decide (ps.length ≤ 3) = false := by simp; omega
    rw [this, Bool.and_false]

set_option maxHeartbeats 2000000 in
set_option maxRecDepth 100000 in
theorem implVerOk_c (a b c : Int) (u : Value) (ps : List ByteArray) (w : World) (hu : Reads w u (strsV ps)) (hb : bulkS ps ≤ 1048576) :
    Calls Tryd.prog 41 #[.agg #[.int .i64 a, .int .i64 b, .int .i64 c, u]] w fun e w' => e = .returned (.bool (verB a b c ps)) ∧ Below w.heap.size w w' := by
  have hsz : ∀ s ∈ ps, s.size ≤ maxLen := fun s hs => by have := size_of_bulk hs; unfold maxLen; omega
  have hn : ps.length ≤ 1048576 := by unfold bulkS at hb; omega
  have hbx : ∀ o, Below w.heap.size w (w.alloc o) := fun o => (Below.refl _ _).alloc (Nat.le_refl _) _
  obtain ⟨q, cap, rfl, _, hc⟩ := reads_strs hu
  clear hu hb
  cases ha : inB a 0 9999 with
  | false =>
    clear hc
    go_enter Tryd.func41, Tryd.ntmps41
    go_wp2_with (go_at_call 61; refine (verNum_c _ _).mono ?_; rintro e w' ⟨rfl, rfl⟩)
    go_ret
    exact ⟨ret_bool (verB_num (.inl ha)).symm, hbx _⟩
  | true =>
  cases hb : inB b 0 9999 with
  | false =>
    clear hc
    go_enter Tryd.func41, Tryd.ntmps41
    go_wp2_with (go_at_call 61; refine (verNum_c _ _).mono ?_; rintro e w' ⟨rfl, rfl⟩)
    go_ret
    exact ⟨ret_bool (verB_num (.inr (.inl hb))).symm, hbx _⟩
  | true =>
  cases hcc : inB c 0 9999 with
  | false =>
    clear hc
    go_enter Tryd.func41, Tryd.ntmps41
    go_wp2_with (go_at_call 61; refine (verNum_c _ _).mono ?_; rintro e w' ⟨rfl, rfl⟩)
    go_ret
    exact ⟨ret_bool (verB_num (.inr (.inr (.inl hcc)))).symm, hbx _⟩
  | true =>
  by_cases h3 : 3 < ps.length
  · have h3' : (3 : Int) < (ps.length : Int) := by omega
    clear hc
    go_enter Tryd.func41, Tryd.ntmps41
    go_wp2_with (go_at_call 61; refine (verNum_c _ _).mono ?_; rintro e w' ⟨rfl, rfl⟩)
    go_ret
    exact ⟨ret_bool (verB_num (.inr (.inr (.inr h3)))).symm, hbx _⟩
  have h3' : ¬ (3 : Int) < (ps.length : Int) := by omega
  have HV : Hid (partsUpto ps ps.length = true → verB a b c ps = true) := fun h => by rw [verB_all h, ha, hb, hcc]; simp; omega
  go_enter Tryd.func41, Tryd.ntmps41
  go_wp2_with (go_at_call 61; refine (verNum_c _ _).mono ?_; rintro e w' ⟨rfl, rfl⟩)
  go_loopw [4, 30] (fun _ vi wr => ∃ k : Nat, k ≤ ps.length ∧ vi = .int .i64 (k : Int) ∧ Hid (partsUpto ps k = true) ∧ Below w.heap.size w wr) (fun _ vi _ => ps.length - (intOf vi).toNat)
  case atStart => exact ⟨0, Nat.zero_le _, rfl, rfl, hbx _⟩
  case round =>
    obtain ⟨k, hk, rfl, hh, hbr⟩ := hrel
    by_cases hlt : k < ps.length
    · rcases hc with rfl | ⟨bl, off, rfl, hlb, hc⟩
      · simp at hlt
      have hcx : wr.cell? ⟨bl, off + k, none⟩ = some (.string ps[k]) := (hbr.cell (p := ⟨bl, off + k, none⟩) hlb).trans (hc k hlt)
      have hsk := hsz ps[k] (List.getElem_mem hlt)
      obtain ⟨t, ht⟩ : ∃ t, t = ps[k] := ⟨_, rfl⟩
      rw [← ht] at hcx hsk
      have HT : Hid (t = ps[k]) := ht
      have hki : (k : Int) < (ps.length : Int) := by omega
      clear hc hsz ht
      go_wp2_with (go_at_call 62; refine (implPart_c t hsk _).mono ?_; rintro e w1 ⟨rfl, b1⟩)
      · have h1 : (!partB t) = true := by assumption
        go_ret
        exact ⟨ret_bool (verB_parts (parts_end hlt (by rw [← HT.out]; simpa using h1))).symm, hbr.trans (b1.mono hbr.size)⟩
      · have h1 : (!partB t) = false := by assumption
        go_roundw
        case rel => exact ⟨k + 1, by omega, by go_num, parts_step hlt hh (by rw [← HT.out]; simpa using h1), hbr.trans (b1.mono hbr.size)⟩
        case measure => simp [intOf]; omega
    · have he : k = ps.length := by omega
      subst he
      clear hc hsz
      go_wp2
      go_ret
      exact ⟨ret_bool (HV.out hh.out).symm, hbr⟩
end Go.Proofs.YthmilkcghfaecaaDoor

/-! Whether picks are right, as the program asks it: contracts for the walks; conditions: they lie in memory and hold at most 2 to the 20. -/
namespace Go.Proofs.YthmilkcghfaecaaDoor
open Go.RowKit
set_option linter.unusedSimpArgs false
set_option linter.unusedVariables false

theorem not_any_notP {α : Type} (p : α → Bool) (xs : List α) : (!(xs.any fun x => !p x)) = xs.all p := by
  induction xs with
  | nil => rfl
  | cons x xs ih => simp only [List.any_cons, List.all_cons, Bool.not_or, Bool.not_not, ih]
theorem not_moreP (a b : Nat) : (!decide (a < b)) = decide (b ≤ a) := by
  by_cases h : a < b
  · rw [decide_eq_true h, decide_eq_false (by omega)]; rfl
  · rw [decide_eq_false h, decide_eq_true (by omega)]; rfl
theorem below_nextP {w w1 w2 : World} (h : Below w.heap.size w w1) (h2 : Below w1.heap.size w1 w2) : Below w.heap.size w w2 := h.trans (h2.mono h.size)
def pickB (d : PickD) : Bool := nameB d.name && verB d.vA d.vB d.vC d.vP
def picksB (l : List PickD) : Bool := rowB pickB PickD.name l && decide (l.length ≤ 12)
def picksI (l : List PickD) : Bool := !(decide (12 < l.length) || l.any fun d => !pickB d) && ascB (l.map PickD.name)
theorem picks_alike (l : List PickD) : picksI l = picksB l := by
  unfold picksI picksB
  rw [rowB_split, Bool.not_or, not_any_notP, not_moreP]
  cases decide (l.length ≤ 12) <;> cases l.all pickB <;> cases ascB (l.map PickD.name) <;> rfl

set_option maxHeartbeats 8000000 in
set_option maxRecDepth 100000 in
theorem wrongPick_c (S : Nat → Prop) (d : PickD) (cs : List Value) (w : World) (hd : shPick.lies S w cs d) (hB : ∀ b, S b → b < w.heap.size) (hw : wtPick d ≤ 1048576) :
    Calls Tryd.prog 37 #[.agg cs.toArray] w fun e w' => e = .returned (.bool (!pickB d)) ∧ Below w.heap.size w w' := by
  obtain ⟨u0, rfl, s_n, r0, p0⟩ := hd
  have hbx : ∀ o, Below w.heap.size w (w.alloc o) := fun o => (Below.refl _ _).alloc (Nat.le_refl _) _
  have hBn : ∀ w1, Below w.heap.size w w1 → ∀ b, S b → b < w1.heap.size := fun w1 h b hb => Nat.lt_of_lt_of_le (hB b hb) h.size
  have hbk : bulkS d.vP ≤ 1048576 := by unfold wtPick at hw; omega
  have HN := fun w1 => implName_c d.name s_n w1
  have H1 : ∀ w1, Below w.heap.size w w1 → Calls Tryd.prog 41 #[.agg #[.int .i64 d.vA, .int .i64 d.vB, .int .i64 d.vC, u0]] w1 fun e w' => e = .returned (.bool (verB d.vA d.vB d.vC d.vP)) ∧ Below w1.heap.size w1 w' := fun w1 h => implVerOk_c _ _ _ u0 d.vP w1 ((r0.keep (.of h hB)).reads (hBn w1 h)) hbk
  unfold pickB
  obtain ⟨p, hp⟩ : ∃ p, p = nameB d.name := ⟨_, rfl⟩
  obtain ⟨q, hq⟩ : ∃ p, p = verB d.vA d.vB d.vC d.vP := ⟨_, rfl⟩
  simp only [← hp] at HN ⊢
  simp only [← hq] at H1 ⊢
  replace HN := hidden HN
  replace H1 := hidden H1
  obtain ⟨a0, cap0, eu0, _⟩ := id r0
  rw [length_strsV] at eu0
  subst eu0
  clear r0 hp hq hbk hBn
  cases p with
  | false =>
    go_enter Tryd.func37, Tryd.ntmps37
    go_wp2_with fail
    go_at_call 59
    refine (HN.out _).mono ?_
    rintro e w' ⟨rfl, rfl⟩
    go_wp2_with fail
    go_ret
    exact ⟨rfl, hbx _⟩
  | true =>
    go_enter Tryd.func37, Tryd.ntmps37
    go_wp2_with fail
    go_at_call 59
    refine (HN.out _).mono ?_
    rintro e w' ⟨rfl, rfl⟩
    go_wp2_with fail
    go_at_call 41
    refine (H1.out _ (hbx _)).mono ?_
    rintro e w1 ⟨rfl, b1⟩
    have k1 : Below w.heap.size w w1 := (hbx _).trans (b1.mono (hbx _).size)
    go_wp2_with fail
    go_ret
    exact ⟨by cases q <;> rfl, k1⟩

set_option maxHeartbeats 8000000 in
set_option maxRecDepth 100000 in
theorem idxPickW_c (S : Nat → Prop) (v : Value) (xs : List PickD) (w : World) (hv : RowIn shPick S w v xs) (hB : ∀ b, S b → b < w.heap.size) (hw : ∀ d ∈ xs, wtPick d ≤ 1048576) :
    Calls Tryd.prog 58 #[v, .func (.func 37) #[] #[]] w fun e w' => e = .returned (.int .i64 (firstI (fun d => !pickB d) xs)) ∧ Below w.heap.size w w' := by
  obtain ⟨a, cap, rfl, hl, hc, ha⟩ := hv
  unfold maxLen at hl
  obtain ⟨R, hR⟩ : ∃ R, R = firstI (fun d => !pickB d) xs := ⟨_, rfl⟩
  rw [← hR]
  have HR := hidden hR
  clear hR
  go_enter Tryd.func58, Tryd.ntmps58
  go_wp2_with fail
  go_loopw [8] (fun vi wr => ∃ k : Nat, k ≤ xs.length ∧ vi = .int .i64 (k : Int) ∧ Hid (∀ j (hj : j < xs.length), j < k → (fun d => !pickB d) xs[j] = false) ∧ Below w.heap.size w wr) (fun vi _ => xs.length - (intOf vi).toNat)
  case atStart => exact ⟨0, Nat.zero_le _, rfl, (fun j hj h => by omega), Below.refl _ _⟩
  case round =>
    obtain ⟨k, hk, rfl, hno, hbr⟩ := hrel
    by_cases hlt' : k < xs.length
    · rcases ha with rfl | ⟨b, off, rfl, hlt, ha⟩
      · simp at hlt'
      obtain ⟨cs, hL, hcell⟩ := ha k hlt'
      have hL2 := shPick.keep (.of hbr hB) hL
      have hcell2 := hcell.keep (.of hbr hB) hlt
      have hBr : ∀ b, S b → b < wr.heap.size := fun b h => Nat.lt_of_lt_of_le (hB b h) hbr.size
      have HT : Hid ((fun d => !pickB d) xs[k] = true → R = (k : Int)) := fun h => HR.out.trans (firstI_here hlt' h hno.out)
      have HN : Hid ((fun d => !pickB d) xs[k] = false → ∀ j (hj : j < xs.length), j < k + 1 → (fun d => !pickB d) xs[j] = false) := fun h j hj hjk => by
        by_cases e : j = k
        · subst e; exact h
        · exact hno.out j hj (by omega)
      have HC : Calls Tryd.prog 37 #[.agg cs.toArray] wr fun e w' => e = .returned (.bool ((fun d => !pickB d) xs[k])) ∧ Below wr.heap.size wr w' := wrongPick_c S xs[k] cs wr hL2 hBr (hw _ (List.getElem_mem hlt'))
      obtain ⟨d, hd⟩ : ∃ d, d = xs[k] := ⟨_, rfl⟩
      rw [← hd] at hL2 HT HN HC
      obtain ⟨r, hr⟩ : ∃ r, r = (fun d => !pickB d) d := ⟨_, rfl⟩
      rw [← hr] at HT HN HC
      clear ha hL hcell hd hr hno
      obtain ⟨u0, rfl, s_name, r0, p0⟩ := hL2
      obtain ⟨a0, cap0, eu0, _⟩ := id r0
      rw [length_strsV] at eu0
      subst eu0
      have e0 : wr.cell? ⟨b, off + k * 5, none⟩ = some (.string d.name) := hcell2 0 (by simp)
      have e1 : wr.cell? ⟨b, off + k * 5 + 1, none⟩ = some (.int .i64 d.vA) := hcell2 1 (by simp)
      have e2 : wr.cell? ⟨b, off + k * 5 + 2, none⟩ = some (.int .i64 d.vB) := hcell2 2 (by simp)
      have e3 : wr.cell? ⟨b, off + k * 5 + 3, none⟩ = some (.int .i64 d.vC) := hcell2 3 (by simp)
      have e4 : wr.cell? ⟨b, off + k * 5 + 4, none⟩ = some (.slice a0 d.vP.length cap0) := hcell2 4 (by simp)
      have HC2 := hidden HC
      have hki : (k : Int) < (xs.length : Int) := by omega
      clear hcell2 HC r0
      cases r with
      | true =>
        have HT2 := hidden (HT.out rfl)
        clear HT HN
        go_wp2_with (go_at_call 37; refine HC2.out.mono ?_; rintro e w1 ⟨rfl, b1⟩)
        go_ret
        exact ⟨by rw [HT2.out]; rfl, hbr.trans (b1.mono hbr.size)⟩
      | false =>
        have HN2 := hidden (HN.out rfl)
        clear HT HN
        go_wp2_with (go_at_call 37; refine HC2.out.mono ?_; rintro e w1 ⟨rfl, b1⟩)
        go_roundw
        case rel => exact ⟨k + 1, by omega, by go_num, HN2.out, hbr.trans (b1.mono hbr.size)⟩
        case measure => simp [intOf]; omega
    · have he : k = xs.length := by omega
      subst he
      have HE : Hid (R = -1) := HR.out.trans (firstI_none (fun j hj => hno.out j hj hj))
      clear ha hno HR
      go_wp2_with fail
      go_ret
      exact ⟨by rw [HE.out]; rfl, hbr⟩
set_option maxHeartbeats 1000000 in
theorem anyPickW_c (S : Nat → Prop) (v : Value) (xs : List PickD) (w : World) (hv : RowIn shPick S w v xs) (hB : ∀ b, S b → b < w.heap.size) (hw : ∀ d ∈ xs, wtPick d ≤ 1048576) :
    Calls Tryd.prog 36 #[v, .func (.func 37) #[] #[]] w fun e w' => e = .returned (.bool (xs.any (fun d => !pickB d))) ∧ Below w.heap.size w w' := by
  have HF := idxPickW_c S v xs w hv hB hw
  have hA := firstI_any (fun d => !pickB d) xs
  obtain ⟨R, hR⟩ : ∃ R, R = firstI (fun d => !pickB d) xs := ⟨_, rfl⟩
  rw [← hR] at HF hA
  rw [← hA]
  have HF2 := hidden HF
  obtain ⟨a, cap, rfl⟩ := hv.slice
  clear hv hR hA HF
  by_cases h0 : 0 ≤ R
  · rw [decide_eq_true h0]
    go_enter Tryd.func36, Tryd.ntmps36
    go_wp2_with (go_at_call 58; refine HF2.out.mono ?_; rintro e w1 ⟨rfl, b1⟩)
    go_ret
    exact ⟨by first | rfl | simp [h0] | (simp; omega), b1⟩
  · rw [decide_eq_false h0]
    go_enter Tryd.func36, Tryd.ntmps36
    go_wp2_with (go_at_call 58; refine HF2.out.mono ?_; rintro e w1 ⟨rfl, b1⟩)
    go_ret
    exact ⟨by first | rfl | simp [h0] | (simp; omega), b1⟩

set_option maxHeartbeats 8000000 in
set_option maxRecDepth 100000 in
theorem txtPick_c (S : Nat → Prop) (d : PickD) (cs : List Value) (w : World) (hd : shPick.lies S w cs d) :
    Calls Tryd.prog 39 #[.agg cs.toArray] w fun e w' => e = .returned (.string d.name) ∧ Below w.heap.size w w' := by
  obtain ⟨u0, rfl, s_n, r0, p0⟩ := hd
  obtain ⟨a0, c0, e0, _⟩ := id r0
  rw [length_strsV] at e0
  subst e0
  have kb : ∀ o, Below w.heap.size w (w.alloc o) := fun o => (Below.refl w.heap.size w).alloc (Nat.le_refl _) o
  clear r0
  go_enter Tryd.func39, Tryd.ntmps39
  go_wp2_with fail
  go_ret
  exact ⟨rfl, kb _⟩

set_option maxHeartbeats 8000000 in
set_option maxRecDepth 100000 in
theorem ascPick_c (S : Nat → Prop) (v : Value) (xs : List PickD) (w : World) (hv : RowIn shPick S w v xs) (hB : ∀ b, S b → b < w.heap.size) :
    Calls Tryd.prog 38 #[v, .func (.func 39) #[] #[]] w fun e w' => e = .returned (.bool (ascB (xs.map PickD.name))) ∧ Below w.heap.size w w' := by
  obtain ⟨a, cap, rfl, hl, hc, ha⟩ := hv
  unfold maxLen at hl
  obtain ⟨R, hR⟩ : ∃ R, R = ascB (xs.map PickD.name) := ⟨_, rfl⟩
  rw [← hR]
  have HR := hidden hR
  clear hR
  go_enter Tryd.func38, Tryd.ntmps38
  go_wp2_with fail
  go_loopw [5] (fun vi wr => ∃ k : Nat, 1 ≤ k ∧ (k ≤ xs.length ∨ k = 1) ∧ vi = .int .i64 (k : Int) ∧ Hid (rowUpto (fun _ => true) id (xs.map PickD.name) k = true) ∧ Below w.heap.size w wr) (fun vi _ => xs.length - (intOf vi).toNat)
  case atStart => exact ⟨1, Nat.le_refl _, .inr rfl, rfl, asc_one _, Below.refl _ _⟩
  case round =>
    obtain ⟨k, hk1, hk, rfl, hh, hbr⟩ := hrel
    by_cases hlt' : k < xs.length
    · rcases ha with rfl | ⟨b, off, rfl, hlt, ha⟩
      · simp at hlt'
      obtain ⟨j, rfl⟩ : ∃ j, k = j + 1 := ⟨k - 1, by omega⟩
      have hj' : j < xs.length := by omega
      obtain ⟨ycs, yL, hcelly⟩ := ha j hj'
      obtain ⟨xcs, xL, hcellx⟩ := ha (j + 1) hlt'
      have hbb : b < wr.heap.size := Nat.lt_of_lt_of_le (hB b hlt) hbr.size
      replace hcelly := hcelly.keep (.of hbr hB) hlt
      replace hcellx := hcellx.keep (.of hbr hB) hlt
      have HC1 : Hid (∀ w1, Below wr.heap.size wr w1 → Calls Tryd.prog 39 #[.agg ycs.toArray] w1 fun e w' => e = .returned (.string xs[j].name) ∧ Below w1.heap.size w1 w') := fun w1 h => txtPick_c S xs[j] ycs w1 (shPick.keep (.of (hbr.trans (h.mono hbr.size)) hB) yL)
      have HC2 : Hid (∀ w1, Below wr.heap.size wr w1 → Calls Tryd.prog 39 #[.agg xcs.toArray] w1 fun e w' => e = .returned (.string xs[j + 1].name) ∧ Below w1.heap.size w1 w') := fun w1 h => txtPick_c S xs[j + 1] xcs w1 (shPick.keep (.of (hbr.trans (h.mono hbr.size)) hB) xL)
      have hpre : preX (xs.map PickD.name) (j + 1) = some xs[j].name := by simp [preX, hj']
      have hat : (xs.map PickD.name)[j + 1]'(by simpa using hlt') = xs[j + 1].name := by simp
      have HBD : Hid (Op.bytesLess xs[j].name.toList xs[j + 1].name.toList = false → R = false) := fun h => HR.out.trans (rowUpto_bad (by simpa using hlt') (by rw [hpre, hat]; exact rowOk_less h) _ (by simpa using hlt'))
      have HGD : Hid (Op.bytesLess xs[j].name.toList xs[j + 1].name.toList = true → rowUpto (fun _ => true) id (xs.map PickD.name) (j + 1 + 1) = true) := fun h => rowUpto_step (by simpa using hlt') hh.out (by rw [hpre, hat, rowOk_some rfl]; exact h)
      obtain ⟨c, hc0⟩ : ∃ c, c = xs[j] := ⟨_, rfl⟩
      obtain ⟨d, hd0'⟩ : ∃ d, d = xs[j + 1] := ⟨_, rfl⟩
      rw [← hc0] at yL HC1 HBD HGD
      rw [← hd0'] at xL HC2 HBD HGD
      clear ha hpre hat hc0 hd0' hh
      obtain ⟨yu0, rfl, ys_n, yr0, yp0⟩ := yL
      obtain ⟨ya0, yc0, ye0, _⟩ := id yr0
      rw [length_strsV] at ye0
      subst ye0
      obtain ⟨xu0, rfl, xs_n, xr0, xp0⟩ := xL
      obtain ⟨xa0, xc0, xe0, _⟩ := id xr0
      rw [length_strsV] at xe0
      subst xe0
      have yv0 : wr.cell? ⟨b, off + j * 5, none⟩ = some (.string c.name) := hcelly 0 (by simp)
      have yv1 : wr.cell? ⟨b, off + j * 5 + 1, none⟩ = some (.int .i64 c.vA) := hcelly 1 (by simp)
      have yv2 : wr.cell? ⟨b, off + j * 5 + 2, none⟩ = some (.int .i64 c.vB) := hcelly 2 (by simp)
      have yv3 : wr.cell? ⟨b, off + j * 5 + 3, none⟩ = some (.int .i64 c.vC) := hcelly 3 (by simp)
      have yv4 : wr.cell? ⟨b, off + j * 5 + 4, none⟩ = some (.slice ya0 c.vP.length yc0) := hcelly 4 (by simp)
      have xv0 : wr.cell? ⟨b, off + (j + 1) * 5, none⟩ = some (.string d.name) := hcellx 0 (by simp)
      have xv1 : wr.cell? ⟨b, off + (j + 1) * 5 + 1, none⟩ = some (.int .i64 d.vA) := hcellx 1 (by simp)
      have xv2 : wr.cell? ⟨b, off + (j + 1) * 5 + 2, none⟩ = some (.int .i64 d.vB) := hcellx 2 (by simp)
      have xv3 : wr.cell? ⟨b, off + (j + 1) * 5 + 3, none⟩ = some (.int .i64 d.vC) := hcellx 3 (by simp)
      have xv4 : wr.cell? ⟨b, off + (j + 1) * 5 + 4, none⟩ = some (.slice xa0 d.vP.length xc0) := hcellx 4 (by simp)
      have hj0 : (0 : Int) ≤ (j : Int) + 1 := by omega
      have hj2 : (j : Int) + 1 < (xs.length : Int) := by omega
      have hj3 : (j : Int) < (xs.length : Int) := by omega
      have hjw : IntKind.i64.wrap (j : Int) = (j : Int) := IntWalk.i64_in _ ⟨by omega, by omega⟩
      have hd0 : Below wr.heap.size wr wr.drew := (Below.refl _ _).drew
      have KEEP : Hid (∀ w1, Below wr.heap.size wr w1 → w1.cell? ⟨b, off + j * 5, none⟩ = some (.string c.name) ∧ w1.cell? ⟨b, off + j * 5 + 1, none⟩ = some (.int .i64 c.vA) ∧ w1.cell? ⟨b, off + j * 5 + 2, none⟩ = some (.int .i64 c.vB) ∧ w1.cell? ⟨b, off + j * 5 + 3, none⟩ = some (.int .i64 c.vC) ∧ w1.cell? ⟨b, off + j * 5 + 4, none⟩ = some (.slice ya0 c.vP.length yc0) ∧ w1.cell? ⟨b, off + (j + 1) * 5, none⟩ = some (.string d.name) ∧ w1.cell? ⟨b, off + (j + 1) * 5 + 1, none⟩ = some (.int .i64 d.vA) ∧ w1.cell? ⟨b, off + (j + 1) * 5 + 2, none⟩ = some (.int .i64 d.vB) ∧ w1.cell? ⟨b, off + (j + 1) * 5 + 3, none⟩ = some (.int .i64 d.vC) ∧ w1.cell? ⟨b, off + (j + 1) * 5 + 4, none⟩ = some (.slice xa0 d.vP.length xc0)) := fun w1 h => ⟨(h.cell (by simpa using hbb)).trans yv0, (h.cell (by simpa using hbb)).trans yv1, (h.cell (by simpa using hbb)).trans yv2, (h.cell (by simpa using hbb)).trans yv3, (h.cell (by simpa using hbb)).trans yv4, (h.cell (by simpa using hbb)).trans xv0, (h.cell (by simpa using hbb)).trans xv1, (h.cell (by simpa using hbb)).trans xv2, (h.cell (by simpa using hbb)).trans xv3, (h.cell (by simpa using hbb)).trans xv4⟩
      clear hcelly hcellx yv0 yv1 yv2 yv3 yv4 xv0 xv1 xv2 xv3 xv4 yr0 xr0
      go_wp2_with fail
      refine wp_region_held_drew (S := (fun w' => w'.cell? ⟨b, off + j * 5, none⟩ = some (.string c.name) ∧ w'.cell? ⟨b, off + j * 5 + 1, none⟩ = some (.int .i64 c.vA) ∧ w'.cell? ⟨b, off + j * 5 + 2, none⟩ = some (.int .i64 c.vB) ∧ w'.cell? ⟨b, off + j * 5 + 3, none⟩ = some (.int .i64 c.vC) ∧ w'.cell? ⟨b, off + j * 5 + 4, none⟩ = some (.slice ya0 c.vP.length yc0) ∧ w'.cell? ⟨b, off + (j + 1) * 5, none⟩ = some (.string d.name) ∧ w'.cell? ⟨b, off + (j + 1) * 5 + 1, none⟩ = some (.int .i64 d.vA) ∧ w'.cell? ⟨b, off + (j + 1) * 5 + 2, none⟩ = some (.int .i64 d.vB) ∧ w'.cell? ⟨b, off + (j + 1) * 5 + 3, none⟩ = some (.int .i64 d.vC) ∧ w'.cell? ⟨b, off + (j + 1) * 5 + 4, none⟩ = some (.slice xa0 d.vP.length xc0))) (by kernel_rfl) ?SR10 (fun hHeld => ?_)
      case SR10 => (first | (with_reducible exact KEEP.out _ hd2) | (with_reducible exact KEEP.out _ hd1) | (with_reducible exact KEEP.out _ hd0))
      refine wpAnyH_take (i := 0) (oi := _) (v := ?vR10) rfl (by kernel_rfl) (by kernel_rfl) (by kernel_rfl) (fun _ _ _ h => h) (Or.inl ⟨by rfl, ?yR10⟩) hHeld ?_
      case yR10 => (intro w hSw; (try dsimp only at hSw); go_simp <;> with_reducible rfl)
      try simp only [Act.put, List.getElem_toArray, List.getElem_cons_zero, List.getElem_cons_succ, List.setIfInBounds_toArray, List.set_cons_zero, List.set_cons_succ]
      refine wpAnyH_take (i := 1) (oi := _) (v := ?vR11) rfl (by kernel_rfl) (by kernel_rfl) (by kernel_rfl) (fun _ _ _ h => h) (Or.inl ⟨by rfl, ?yR11⟩) hHeld ?_
      case yR11 => (intro w hSw; (try dsimp only at hSw); go_simp <;> with_reducible rfl)
      try simp only [Act.put, List.getElem_toArray, List.getElem_cons_zero, List.getElem_cons_succ, List.setIfInBounds_toArray, List.set_cons_zero, List.set_cons_succ]
      refine wpAnyH_take (i := 2) (oi := _) (v := ?vR12) rfl (by kernel_rfl) (by kernel_rfl) (by kernel_rfl) (fun _ _ _ h => h) (Or.inl ⟨by rfl, ?yR12⟩) hHeld ?_
      case yR12 => (intro w hSw; (try dsimp only at hSw); go_simp <;> with_reducible rfl)
      try simp only [Act.put, List.getElem_toArray, List.getElem_cons_zero, List.getElem_cons_succ, List.setIfInBounds_toArray, List.set_cons_zero, List.set_cons_succ]
      refine wpAnyH_take (i := 3) (oi := _) (v := ?vR13) rfl (by kernel_rfl) (by kernel_rfl) (by kernel_rfl) (fun _ _ _ h => h) (Or.inl ⟨by rfl, ?yR13⟩) hHeld ?_
      case yR13 => (intro w hSw; (try dsimp only at hSw); go_simp <;> with_reducible rfl)
      try simp only [Act.put, List.getElem_toArray, List.getElem_cons_zero, List.getElem_cons_succ, List.setIfInBounds_toArray, List.set_cons_zero, List.set_cons_succ]
      refine wpAnyH_take (i := 4) (oi := _) (v := ?vR14) rfl (by kernel_rfl) (by kernel_rfl) (by kernel_rfl) (fun _ _ _ h => h) (Or.inl ⟨by rfl, ?yR14⟩) hHeld ?_
      case yR14 => (intro w hSw; (try dsimp only at hSw); go_simp <;> with_reducible rfl)
      try simp only [Act.put, List.getElem_toArray, List.getElem_cons_zero, List.getElem_cons_succ, List.setIfInBounds_toArray, List.set_cons_zero, List.set_cons_succ]
      refine wpAnyH_take (i := 5) (oi := _) (v := ?vR15) rfl (by kernel_rfl) (by kernel_rfl) (by kernel_rfl) (fun _ _ _ h => h) (Or.inl ⟨by rfl, ?yR15⟩) hHeld ?_
      case yR15 => (intro w hSw; (try dsimp only at hSw); go_simp <;> with_reducible rfl)
      try simp only [Act.put, List.getElem_toArray, List.getElem_cons_zero, List.getElem_cons_succ, List.setIfInBounds_toArray, List.set_cons_zero, List.set_cons_succ]
      refine wpAnyH_take (i := 7) (oi := _) (v := ?vR16) rfl (by kernel_rfl) (by kernel_rfl) (by kernel_rfl) (fun _ _ _ h => h) (Or.inl ⟨by rfl, ?yR16⟩) hHeld ?_
      case yR16 => (intro w hSw; (try dsimp only at hSw); go_simp <;> with_reducible rfl)
      try simp only [Act.put, List.getElem_toArray, List.getElem_cons_zero, List.getElem_cons_succ, List.setIfInBounds_toArray, List.set_cons_zero, List.set_cons_succ]
      refine wpAnyH_take (i := 8) (oi := _) (v := ?vR17) rfl (by kernel_rfl) (by kernel_rfl) (by kernel_rfl) (fun _ _ _ h => h) (Or.inl ⟨by rfl, ?yR17⟩) hHeld ?_
      case yR17 => (intro w hSw; (try dsimp only at hSw); go_simp <;> with_reducible rfl)
      try simp only [Act.put, List.getElem_toArray, List.getElem_cons_zero, List.getElem_cons_succ, List.setIfInBounds_toArray, List.set_cons_zero, List.set_cons_succ]
      refine wpAnyH_take (i := 9) (oi := _) (v := ?vR18) rfl (by kernel_rfl) (by kernel_rfl) (by kernel_rfl) (fun _ _ _ h => h) (Or.inl ⟨by rfl, ?yR18⟩) hHeld ?_
      case yR18 => (intro w hSw; (try dsimp only at hSw); go_simp <;> with_reducible rfl)
      try simp only [Act.put, List.getElem_toArray, List.getElem_cons_zero, List.getElem_cons_succ, List.setIfInBounds_toArray, List.set_cons_zero, List.set_cons_succ]
      refine wpAnyH_take (i := 10) (oi := _) (v := ?vR19) rfl (by kernel_rfl) (by kernel_rfl) (by kernel_rfl) (fun _ _ _ h => h) (Or.inl ⟨by rfl, ?yR19⟩) hHeld ?_
      case yR19 => (intro w hSw; (try dsimp only at hSw); go_simp <;> with_reducible rfl)
      try simp only [Act.put, List.getElem_toArray, List.getElem_cons_zero, List.getElem_cons_succ, List.setIfInBounds_toArray, List.set_cons_zero, List.set_cons_succ]
      refine wpAnyH_take (i := 11) (oi := _) (v := ?vR110) rfl (by kernel_rfl) (by kernel_rfl) (by kernel_rfl) (fun _ _ _ h => h) (Or.inl ⟨by rfl, ?yR110⟩) hHeld ?_
      case yR110 => (intro w hSw; (try dsimp only at hSw); go_simp <;> with_reducible rfl)
      try simp only [Act.put, List.getElem_toArray, List.getElem_cons_zero, List.getElem_cons_succ, List.setIfInBounds_toArray, List.set_cons_zero, List.set_cons_succ]
      refine wpAnyH_ready (rs := [6]) (by kernel_rfl) (by simp) ?_
      refine AllReadyH.cons rfl (fun K hK => ?_) AllReadyH.nil
      go_simp
      go_wp2_with (go_at_call 39; refine (HC1.out _ (by first | exact hd0 | exact hd1)).mono ?_; rintro e w1 ⟨rfl, b1⟩; have hd1 : Below wr.heap.size wr w1 := hd0.trans (b1.mono hd0.size))
      clear hHeld
      refine hK.out _ _ ?SR112 (fun hHeld => ?_)
      case SR112 => ((try dsimp only); first | (with_reducible exact KEEP.out _ hd2) | (with_reducible exact KEEP.out _ hd1) | (with_reducible exact KEEP.out _ hd0))
      clear hK K
      refine wpAnyH_ready (rs := [12]) (by kernel_rfl) (by simp) ?_
      refine AllReadyH.cons rfl (fun K hK => ?_) AllReadyH.nil
      go_simp
      go_wp2_with (go_at_call 39; refine (HC2.out _ hd1).mono ?_; rintro e w2 ⟨rfl, b2⟩; have hd2 : Below wr.heap.size wr w2 := hd1.trans (b2.mono hd1.size))
      clear hHeld
      refine hK.out _ _ ?SR113 (fun hHeld => ?_)
      case SR113 => ((try dsimp only); first | (with_reducible exact KEEP.out _ hd2) | (with_reducible exact KEEP.out _ hd1) | (with_reducible exact KEEP.out _ hd0))
      clear hK K
      refine wpAnyH_take (i := 13) (oi := _) (v := ?vR113) rfl (by kernel_rfl) (by kernel_rfl) (by kernel_rfl) (fun _ _ _ h => h) (Or.inl ⟨by rfl, ?yR113⟩) hHeld ?_
      case yR113 => (intro w hSw; (try dsimp only at hSw); go_simp <;> with_reducible rfl)
      try simp only [Act.put, List.getElem_toArray, List.getElem_cons_zero, List.getElem_cons_succ, List.setIfInBounds_toArray, List.set_cons_zero, List.set_cons_succ]
      refine wpAnyH_done (by kernel_rfl) ?_ _
      go_wp2_with fail
      · have hlx : (!Op.bytesLess c.name.toList d.name.toList) = true := by assumption
        go_ret
        exact ⟨by rw [HBD.out (by simpa using hlx)]; rfl, hbr.trans (hd2.mono hbr.size)⟩
      · have hlx : (!Op.bytesLess c.name.toList d.name.toList) = false := by assumption
        go_roundw
        case rel => exact ⟨j + 1 + 1, by omega, .inl (by omega), by go_num, HGD.out (by simpa using hlx), hbr.trans (hd2.mono hbr.size)⟩
        case measure => simp [intOf]; omega
    · have HE : Hid (R = true) := HR.out.trans (asc_end hk1 (by simpa using hlt') (by simpa using hk) hh.out)
      clear ha hh
      go_wp2_with fail
      go_ret
      exact ⟨by rw [HE.out]; rfl, hbr⟩

set_option maxHeartbeats 8000000 in
set_option maxRecDepth 100000 in
theorem implPicksOk_c (S : Nat → Prop) (v : Value) (xs : List PickD) (w : World) (hv : RowIn shPick S w v xs) (hB : ∀ b, S b → b < w.heap.size) (hw : ∀ d ∈ xs, wtPick d ≤ 1048576) :
    Calls Tryd.prog 18 #[v] w fun e w' => e = .returned (.bool (picksI xs)) ∧ Below w.heap.size w w' := by
  have HA : ∀ w1, Below w.heap.size w w1 → Calls Tryd.prog 36 #[v, .func (.func 37) #[] #[]] w1 fun e w' => e = .returned (.bool (xs.any (fun d => !pickB d))) ∧ Below w1.heap.size w1 w' := fun w1 h => anyPickW_c S v xs w1 (hv.keep (.of h hB)) (fun b hb => Nat.lt_of_lt_of_le (hB b hb) h.size) hw
  have HC : ∀ w1, Below w.heap.size w w1 → Calls Tryd.prog 38 #[v, .func (.func 39) #[] #[]] w1 fun e w' => e = .returned (.bool (ascB (xs.map PickD.name))) ∧ Below w1.heap.size w1 w' := fun w1 h => ascPick_c S v xs w1 (hv.keep (.of h hB)) (fun b hb => Nat.lt_of_lt_of_le (hB b hb) h.size)
  unfold picksI
  obtain ⟨p, hp⟩ : ∃ p, p = xs.any (fun d => !pickB d) := ⟨_, rfl⟩
  obtain ⟨q, hq⟩ : ∃ q, q = ascB (xs.map PickD.name) := ⟨_, rfl⟩
  simp only [← hp] at HA ⊢
  simp only [← hq] at HC ⊢
  replace HA := hidden HA
  replace HC := hidden HC
  have hl := hv.len
  obtain ⟨a, cap, rfl⟩ := hv.slice
  unfold maxLen at hl
  clear hv hp hq
  by_cases h4 : 12 < xs.length
  · have h4' : (12 : Int) < (xs.length : Int) := by omega
    rw [decide_eq_true h4]
    go_enter Tryd.func18, Tryd.ntmps18
    go_wp2_with fail
    go_ret
    exact ⟨rfl, Below.refl _ _⟩
  · have h4' : ¬ (12 : Int) < (xs.length : Int) := by omega
    rw [decide_eq_false h4]
    cases p with
    | true =>
      go_enter Tryd.func18, Tryd.ntmps18
      go_wp2_with fail
      go_at_call 36
      refine (HA.out _ (Below.refl _ _)).mono ?_
      rintro e w1 ⟨rfl, b1⟩
      go_wp2_with fail
      go_ret
      exact ⟨rfl, b1⟩
    | false =>
      go_enter Tryd.func18, Tryd.ntmps18
      go_wp2_with fail
      go_at_call 36
      refine (HA.out _ (Below.refl _ _)).mono ?_
      rintro e w1 ⟨rfl, b1⟩
      go_wp2_with fail
      go_at_call 38
      refine (HC.out _ b1).mono ?_
      rintro e w2 ⟨rfl, b2⟩
      go_wp2_with fail
      go_ret
      exact ⟨by cases q <;> rfl, below_nextP b1 b2⟩

end Go.Proofs.YthmilkcghfaecaaDoor

/-! Whether picks are right, as the specification asks it: a contract for the walks; conditions: they lie in memory and hold at most 2 to the 20. -/
namespace Go.Proofs.YthmilkcghfaecaaDoor
open Go.RowKit
set_option linter.unusedSimpArgs false
set_option linter.unusedVariables false

set_option maxHeartbeats 8000000 in
set_option maxRecDepth 100000 in
theorem l10Ok_c (S : Nat → Prop) (v : Value) (xs : List PickD) (w : World) (hv : RowIn shPick S w v xs) (hB : ∀ b, S b → b < w.heap.size) (hw : ∀ d ∈ xs, wtPick d ≤ 1048576) :
    Calls Tryd.prog 15 #[v] w fun e w' => e = .returned (.bool (picksB xs)) ∧ Below w.heap.size w w' := by
  obtain ⟨a, cap, rfl, hl, hc, ha⟩ := hv
  unfold maxLen at hl
  obtain ⟨Q, hQ⟩ : ∃ R, R = rowB pickB PickD.name xs := ⟨_, rfl⟩
  unfold picksB
  rw [← hQ]
  have HQ := hidden hQ
  clear hQ
  go_enter Tryd.func15, Tryd.ntmps15
  go_wp2_with fail
  go_loopw [3] (fun vi wr => ∃ k : Nat, k ≤ xs.length ∧ vi = .int .i64 (k : Int) ∧ Hid (rowUpto pickB PickD.name xs k = true) ∧ Below w.heap.size w wr) (fun vi _ => xs.length - (intOf vi).toNat)
  case atStart => exact ⟨0, Nat.zero_le _, rfl, rfl, Below.refl _ _⟩
  case round =>
    obtain ⟨k, hk, rfl, hh, hbr⟩ := hrel
    by_cases hlt' : k < xs.length
    · rcases ha with rfl | ⟨b, off, rfl, hlt, ha⟩
      · simp at hlt'
      have hbb : b < wr.heap.size := Nat.lt_of_lt_of_le (hB b hlt) hbr.size
      have hBr : ∀ b, S b → b < wr.heap.size := fun b h => Nat.lt_of_lt_of_le (hB b h) hbr.size
      obtain ⟨cs, hL, hcell⟩ := ha k hlt'
      replace hL := shPick.keep (.of hbr hB) hL
      replace hcell := hcell.keep (.of hbr hB) hlt
      have HB : Hid (rowOk pickB PickD.name xs[k] (preX xs k) = false → Q = false) := fun h => HQ.out.trans (rowUpto_bad hlt' h _ hlt')
      have HG : Hid (rowOk pickB PickD.name xs[k] (preX xs k) = true → rowUpto pickB PickD.name xs (k + 1) = true) := fun h => rowUpto_step hlt' hh.out h
      have hpv : ∀ j, k = j + 1 → ∃ c, preX xs k = some c ∧ wr.cell? ⟨b, off + j * 5, none⟩ = some (.string c.name) := fun j hj => by
        subst hj
        have hj' : j < xs.length := by omega
        obtain ⟨cs', hL', hcell'⟩ := ha j hj'
        replace hcell' := hcell'.keep (.of hbr hB) hlt
        obtain ⟨_, rfl, _⟩ := hL'
        exact ⟨xs[j], by rw [preX, List.getElem?_eq_getElem hj'], hcell' 0 (by simp)⟩
      obtain ⟨o, ho⟩ : ∃ o, o = preX xs k := ⟨_, rfl⟩
      rw [← ho] at HB HG hpv
      have h0o : k = 0 → o = none := fun h => by subst h; exact ho
      have hwd : wtPick xs[k] ≤ 1048576 := hw _ (List.getElem_mem hlt')
      obtain ⟨d, hd⟩ : ∃ d, d = xs[k] := ⟨_, rfl⟩
      rw [← hd] at hL HB HG hwd
      obtain ⟨u0, rfl, s_n, r0, p0⟩ := hL
      have hbk : bulkS d.vP ≤ 1048576 := by unfold wtPick at hwd; omega
      have HN := fun w1 => specName_c d.name s_n w1
      have H1 : ∀ w1, Below wr.heap.size wr w1 → Calls Tryd.prog 32 #[.agg #[.int .i64 d.vA, .int .i64 d.vB, .int .i64 d.vC, u0]] w1 fun e w' => e = .returned (.bool (verB d.vA d.vB d.vC d.vP)) ∧ Below w1.heap.size w1 w' := fun w1 h => specVerOk_c _ _ _ u0 d.vP w1 ((r0.keep (.of h hBr)).reads (fun b hb => Nat.lt_of_lt_of_le (hBr b hb) h.size)) hbk
      have HX : Hid (pickB d = (nameB d.name && verB d.vA d.vB d.vC d.vP)) := rfl
      obtain ⟨p, hp⟩ : ∃ p, p = nameB d.name := ⟨_, rfl⟩
      obtain ⟨q, hq⟩ : ∃ p, p = verB d.vA d.vB d.vC d.vP := ⟨_, rfl⟩
      rw [← hp, ← hq] at HX
      simp only [← hp] at HN
      simp only [← hq] at H1
      replace HN := hidden HN
      replace H1 := hidden H1
      obtain ⟨a0, cap0, eu0, _⟩ := id r0
      rw [length_strsV] at eu0
      subst eu0
      have hki : (k : Int) < (xs.length : Int) := by omega
      have hd0 : Below wr.heap.size wr wr.drew := (Below.refl _ _).drew
      have e0 : wr.cell? ⟨b, off + k * 5, none⟩ = some (.string d.name) := hcell 0 (by simp)
      have e1 : wr.cell? ⟨b, off + k * 5 + 1, none⟩ = some (.int .i64 d.vA) := hcell 1 (by simp)
      have e2 : wr.cell? ⟨b, off + k * 5 + 2, none⟩ = some (.int .i64 d.vB) := hcell 2 (by simp)
      have e3 : wr.cell? ⟨b, off + k * 5 + 3, none⟩ = some (.int .i64 d.vC) := hcell 3 (by simp)
      have e4 : wr.cell? ⟨b, off + k * 5 + 4, none⟩ = some (.slice a0 d.vP.length cap0) := hcell 4 (by simp)
      clear ha hd ho hw hh hcell HQ s_n r0 p0 hp hq hbk hwd
      cases p with
      | false =>
        clear h0o hpv
        have KEEP : Hid (∀ w1, Below wr.heap.size wr w1 → w1.cell? ⟨b, off + k * 5, none⟩ = some (.string d.name) ∧ w1.cell? ⟨b, off + k * 5 + 1, none⟩ = some (.int .i64 d.vA) ∧ w1.cell? ⟨b, off + k * 5 + 2, none⟩ = some (.int .i64 d.vB) ∧ w1.cell? ⟨b, off + k * 5 + 3, none⟩ = some (.int .i64 d.vC) ∧ w1.cell? ⟨b, off + k * 5 + 4, none⟩ = some (.slice a0 d.vP.length cap0)) := fun w1 h => ⟨(h.cell (by simpa using hbb)).trans e0, (h.cell (by simpa using hbb)).trans e1, (h.cell (by simpa using hbb)).trans e2, (h.cell (by simpa using hbb)).trans e3, (h.cell (by simpa using hbb)).trans e4⟩
        clear e0 e1 e2 e3 e4
        go_wp2_with fail
        refine wp_region_held_drew (S := (fun w' => w'.cell? ⟨b, off + k * 5, none⟩ = some (.string d.name) ∧ w'.cell? ⟨b, off + k * 5 + 1, none⟩ = some (.int .i64 d.vA) ∧ w'.cell? ⟨b, off + k * 5 + 2, none⟩ = some (.int .i64 d.vB) ∧ w'.cell? ⟨b, off + k * 5 + 3, none⟩ = some (.int .i64 d.vC) ∧ w'.cell? ⟨b, off + k * 5 + 4, none⟩ = some (.slice a0 d.vP.length cap0))) (by kernel_rfl) ?SR10 (fun hHeld => ?_)
        case SR10 => (first | (with_reducible exact KEEP.out _ hd1) | (with_reducible exact KEEP.out _ hd0))
        refine wpAnyH_take (i := 0) (oi := _) (v := ?vR10) rfl (by kernel_rfl) (by kernel_rfl) (by kernel_rfl) (fun _ _ _ h => h) (Or.inl ⟨by rfl, ?yR10⟩) hHeld ?_
        case yR10 => (intro w hSw; (try dsimp only at hSw); go_simp <;> with_reducible rfl)
        try simp only [Act.put, List.getElem_toArray, List.getElem_cons_zero, List.getElem_cons_succ, List.setIfInBounds_toArray, List.set_cons_zero, List.set_cons_succ]
        refine wpAnyH_take (i := 1) (oi := _) (v := ?vR11) rfl (by kernel_rfl) (by kernel_rfl) (by kernel_rfl) (fun _ _ _ h => h) (Or.inl ⟨by rfl, ?yR11⟩) hHeld ?_
        case yR11 => (intro w hSw; (try dsimp only at hSw); go_simp <;> with_reducible rfl)
        try simp only [Act.put, List.getElem_toArray, List.getElem_cons_zero, List.getElem_cons_succ, List.setIfInBounds_toArray, List.set_cons_zero, List.set_cons_succ]
        refine wpAnyH_take (i := 2) (oi := _) (v := ?vR12) rfl (by kernel_rfl) (by kernel_rfl) (by kernel_rfl) (fun _ _ _ h => h) (Or.inl ⟨by rfl, ?yR12⟩) hHeld ?_
        case yR12 => (intro w hSw; (try dsimp only at hSw); go_simp <;> with_reducible rfl)
        try simp only [Act.put, List.getElem_toArray, List.getElem_cons_zero, List.getElem_cons_succ, List.setIfInBounds_toArray, List.set_cons_zero, List.set_cons_succ]
        refine wpAnyH_take (i := 3) (oi := _) (v := ?vR13) rfl (by kernel_rfl) (by kernel_rfl) (by kernel_rfl) (fun _ _ _ h => h) (Or.inl ⟨by rfl, ?yR13⟩) hHeld ?_
        case yR13 => (intro w hSw; (try dsimp only at hSw); go_simp <;> with_reducible rfl)
        try simp only [Act.put, List.getElem_toArray, List.getElem_cons_zero, List.getElem_cons_succ, List.setIfInBounds_toArray, List.set_cons_zero, List.set_cons_succ]
        refine wpAnyH_take (i := 4) (oi := _) (v := ?vR14) rfl (by kernel_rfl) (by kernel_rfl) (by kernel_rfl) (fun _ _ _ h => h) (Or.inl ⟨by rfl, ?yR14⟩) hHeld ?_
        case yR14 => (intro w hSw; (try dsimp only at hSw); go_simp <;> with_reducible rfl)
        try simp only [Act.put, List.getElem_toArray, List.getElem_cons_zero, List.getElem_cons_succ, List.setIfInBounds_toArray, List.set_cons_zero, List.set_cons_succ]
        refine wpAnyH_ready (rs := [5]) (by kernel_rfl) (by simp) ?_
        refine AllReadyH.cons rfl (fun K hK => ?_) AllReadyH.nil
        go_simp
        go_wp2_with (go_at_call 31; refine (HN.out _).mono ?_; rintro e w' ⟨rfl, rfl⟩)
        clear hHeld
        refine hK.out _ _ ?SR16 (fun hHeld => ?_)
        case SR16 => ((try dsimp only); first | (with_reducible exact KEEP.out _ hd1) | (with_reducible exact KEEP.out _ hd0))
        clear hK K
        refine wpAnyH_take (i := 6) (oi := _) (v := ?vR16) rfl (by kernel_rfl) (by kernel_rfl) (by kernel_rfl) (fun _ _ _ h => h) (Or.inl ⟨by rfl, ?yR16⟩) hHeld ?_
        case yR16 => (intro w hSw; (try dsimp only at hSw); go_simp <;> with_reducible rfl)
        try simp only [Act.put, List.getElem_toArray, List.getElem_cons_zero, List.getElem_cons_succ, List.setIfInBounds_toArray, List.set_cons_zero, List.set_cons_succ]
        refine wpAnyH_take (i := 7) (oi := _) (v := ?vR17) rfl (by kernel_rfl) (by kernel_rfl) (by kernel_rfl) (fun _ _ _ h => h) (Or.inl ⟨by rfl, ?yR17⟩) hHeld ?_
        case yR17 => (intro w hSw; (try dsimp only at hSw); go_simp <;> with_reducible rfl)
        try simp only [Act.put, List.getElem_toArray, List.getElem_cons_zero, List.getElem_cons_succ, List.setIfInBounds_toArray, List.set_cons_zero, List.set_cons_succ]
        refine wpAnyH_take (i := 8) (oi := _) (v := undef) rfl (by kernel_rfl) (by kernel_rfl) (by kernel_rfl) (fun _ _ _ h => h) (Or.inr ⟨by rfl, rfl⟩) hHeld ?_
        try simp only [Act.put, List.getElem_toArray, List.getElem_cons_zero, List.getElem_cons_succ, List.setIfInBounds_toArray, List.set_cons_zero, List.set_cons_succ]
        refine wpAnyH_take (i := 9) (oi := _) (v := undef) rfl (by kernel_rfl) (by kernel_rfl) (by kernel_rfl) (fun _ _ _ h => h) (Or.inr ⟨by rfl, rfl⟩) hHeld ?_
        try simp only [Act.put, List.getElem_toArray, List.getElem_cons_zero, List.getElem_cons_succ, List.setIfInBounds_toArray, List.set_cons_zero, List.set_cons_succ]
        refine wpAnyH_take (i := 10) (oi := _) (v := undef) rfl (by kernel_rfl) (by kernel_rfl) (by kernel_rfl) (fun _ _ _ h => h) (Or.inr ⟨by rfl, rfl⟩) hHeld ?_
        try simp only [Act.put, List.getElem_toArray, List.getElem_cons_zero, List.getElem_cons_succ, List.setIfInBounds_toArray, List.set_cons_zero, List.set_cons_succ]
        refine wpAnyH_take (i := 11) (oi := _) (v := undef) rfl (by kernel_rfl) (by kernel_rfl) (by kernel_rfl) (fun _ _ _ h => h) (Or.inr ⟨by rfl, rfl⟩) hHeld ?_
        try simp only [Act.put, List.getElem_toArray, List.getElem_cons_zero, List.getElem_cons_succ, List.setIfInBounds_toArray, List.set_cons_zero, List.set_cons_succ]
        refine wpAnyH_take (i := 12) (oi := _) (v := undef) rfl (by kernel_rfl) (by kernel_rfl) (by kernel_rfl) (fun _ _ _ h => h) (Or.inr ⟨by rfl, rfl⟩) hHeld ?_
        try simp only [Act.put, List.getElem_toArray, List.getElem_cons_zero, List.getElem_cons_succ, List.setIfInBounds_toArray, List.set_cons_zero, List.set_cons_succ]
        refine wpAnyH_take (i := 13) (oi := _) (v := undef) rfl (by kernel_rfl) (by kernel_rfl) (by kernel_rfl) (fun _ _ _ h => h) (Or.inr ⟨by rfl, rfl⟩) hHeld ?_
        try simp only [Act.put, List.getElem_toArray, List.getElem_cons_zero, List.getElem_cons_succ, List.setIfInBounds_toArray, List.set_cons_zero, List.set_cons_succ]
        refine wpAnyH_take (i := 14) (oi := _) (v := undef) rfl (by kernel_rfl) (by kernel_rfl) (by kernel_rfl) (fun _ _ _ h => h) (Or.inr ⟨by rfl, rfl⟩) hHeld ?_
        try simp only [Act.put, List.getElem_toArray, List.getElem_cons_zero, List.getElem_cons_succ, List.setIfInBounds_toArray, List.set_cons_zero, List.set_cons_succ]
        refine wpAnyH_take (i := 15) (oi := _) (v := ?vR115) rfl (by kernel_rfl) (by kernel_rfl) (by kernel_rfl) (fun _ _ _ h => h) (Or.inl ⟨by rfl, ?yR115⟩) hHeld ?_
        case yR115 => (intro w hSw; (try dsimp only at hSw); go_simp <;> with_reducible rfl)
        try simp only [Act.put, List.getElem_toArray, List.getElem_cons_zero, List.getElem_cons_succ, List.setIfInBounds_toArray, List.set_cons_zero, List.set_cons_succ]
        refine wpAnyH_take (i := 16) (oi := _) (v := ?vR116) rfl (by kernel_rfl) (by kernel_rfl) (by kernel_rfl) (fun _ _ _ h => h) (Or.inl ⟨by rfl, ?yR116⟩) hHeld ?_
        case yR116 => (intro w hSw; (try dsimp only at hSw); go_simp <;> with_reducible rfl)
        try simp only [Act.put, List.getElem_toArray, List.getElem_cons_zero, List.getElem_cons_succ, List.setIfInBounds_toArray, List.set_cons_zero, List.set_cons_succ]
        refine wpAnyH_take (i := 17) (oi := _) (v := undef) rfl (by kernel_rfl) (by kernel_rfl) (by kernel_rfl) (fun _ _ _ h => h) (Or.inr ⟨by rfl, rfl⟩) hHeld ?_
        try simp only [Act.put, List.getElem_toArray, List.getElem_cons_zero, List.getElem_cons_succ, List.setIfInBounds_toArray, List.set_cons_zero, List.set_cons_succ]
        refine wpAnyH_take (i := 18) (oi := _) (v := undef) rfl (by kernel_rfl) (by kernel_rfl) (by kernel_rfl) (fun _ _ _ h => h) (Or.inr ⟨by rfl, rfl⟩) hHeld ?_
        try simp only [Act.put, List.getElem_toArray, List.getElem_cons_zero, List.getElem_cons_succ, List.setIfInBounds_toArray, List.set_cons_zero, List.set_cons_succ]
        refine wpAnyH_take (i := 19) (oi := _) (v := undef) rfl (by kernel_rfl) (by kernel_rfl) (by kernel_rfl) (fun _ _ _ h => h) (Or.inr ⟨by rfl, rfl⟩) hHeld ?_
        try simp only [Act.put, List.getElem_toArray, List.getElem_cons_zero, List.getElem_cons_succ, List.setIfInBounds_toArray, List.set_cons_zero, List.set_cons_succ]
        refine wpAnyH_take (i := 20) (oi := _) (v := undef) rfl (by kernel_rfl) (by kernel_rfl) (by kernel_rfl) (fun _ _ _ h => h) (Or.inr ⟨by rfl, rfl⟩) hHeld ?_
        try simp only [Act.put, List.getElem_toArray, List.getElem_cons_zero, List.getElem_cons_succ, List.setIfInBounds_toArray, List.set_cons_zero, List.set_cons_succ]
        refine wpAnyH_take (i := 21) (oi := _) (v := undef) rfl (by kernel_rfl) (by kernel_rfl) (by kernel_rfl) (fun _ _ _ h => h) (Or.inr ⟨by rfl, rfl⟩) hHeld ?_
        try simp only [Act.put, List.getElem_toArray, List.getElem_cons_zero, List.getElem_cons_succ, List.setIfInBounds_toArray, List.set_cons_zero, List.set_cons_succ]
        refine wpAnyH_take (i := 22) (oi := _) (v := undef) rfl (by kernel_rfl) (by kernel_rfl) (by kernel_rfl) (fun _ _ _ h => h) (Or.inr ⟨by rfl, rfl⟩) hHeld ?_
        try simp only [Act.put, List.getElem_toArray, List.getElem_cons_zero, List.getElem_cons_succ, List.setIfInBounds_toArray, List.set_cons_zero, List.set_cons_succ]
        refine wpAnyH_take (i := 23) (oi := _) (v := undef) rfl (by kernel_rfl) (by kernel_rfl) (by kernel_rfl) (fun _ _ _ h => h) (Or.inr ⟨by rfl, rfl⟩) hHeld ?_
        try simp only [Act.put, List.getElem_toArray, List.getElem_cons_zero, List.getElem_cons_succ, List.setIfInBounds_toArray, List.set_cons_zero, List.set_cons_succ]
        refine wpAnyH_take (i := 24) (oi := _) (v := undef) rfl (by kernel_rfl) (by kernel_rfl) (by kernel_rfl) (fun _ _ _ h => h) (Or.inr ⟨by rfl, rfl⟩) hHeld ?_
        try simp only [Act.put, List.getElem_toArray, List.getElem_cons_zero, List.getElem_cons_succ, List.setIfInBounds_toArray, List.set_cons_zero, List.set_cons_succ]
        refine wpAnyH_take (i := 25) (oi := _) (v := undef) rfl (by kernel_rfl) (by kernel_rfl) (by kernel_rfl) (fun _ _ _ h => h) (Or.inr ⟨by rfl, rfl⟩) hHeld ?_
        try simp only [Act.put, List.getElem_toArray, List.getElem_cons_zero, List.getElem_cons_succ, List.setIfInBounds_toArray, List.set_cons_zero, List.set_cons_succ]
        refine wpAnyH_take (i := 26) (oi := _) (v := undef) rfl (by kernel_rfl) (by kernel_rfl) (by kernel_rfl) (fun _ _ _ h => h) (Or.inr ⟨by rfl, rfl⟩) hHeld ?_
        try simp only [Act.put, List.getElem_toArray, List.getElem_cons_zero, List.getElem_cons_succ, List.setIfInBounds_toArray, List.set_cons_zero, List.set_cons_succ]
        refine wpAnyH_take (i := 27) (oi := _) (v := undef) rfl (by kernel_rfl) (by kernel_rfl) (by kernel_rfl) (fun _ _ _ h => h) (Or.inr ⟨by rfl, rfl⟩) hHeld ?_
        try simp only [Act.put, List.getElem_toArray, List.getElem_cons_zero, List.getElem_cons_succ, List.setIfInBounds_toArray, List.set_cons_zero, List.set_cons_succ]
        refine wpAnyH_take (i := 28) (oi := _) (v := undef) rfl (by kernel_rfl) (by kernel_rfl) (by kernel_rfl) (fun _ _ _ h => h) (Or.inr ⟨by rfl, rfl⟩) hHeld ?_
        try simp only [Act.put, List.getElem_toArray, List.getElem_cons_zero, List.getElem_cons_succ, List.setIfInBounds_toArray, List.set_cons_zero, List.set_cons_succ]
        refine wpAnyH_take (i := 29) (oi := _) (v := undef) rfl (by kernel_rfl) (by kernel_rfl) (by kernel_rfl) (fun _ _ _ h => h) (Or.inr ⟨by rfl, rfl⟩) hHeld ?_
        try simp only [Act.put, List.getElem_toArray, List.getElem_cons_zero, List.getElem_cons_succ, List.setIfInBounds_toArray, List.set_cons_zero, List.set_cons_succ]
        refine wpAnyH_take (i := 30) (oi := _) (v := undef) rfl (by kernel_rfl) (by kernel_rfl) (by kernel_rfl) (fun _ _ _ h => h) (Or.inr ⟨by rfl, rfl⟩) hHeld ?_
        try simp only [Act.put, List.getElem_toArray, List.getElem_cons_zero, List.getElem_cons_succ, List.setIfInBounds_toArray, List.set_cons_zero, List.set_cons_succ]
        refine wpAnyH_take (i := 31) (oi := _) (v := undef) rfl (by kernel_rfl) (by kernel_rfl) (by kernel_rfl) (fun _ _ _ h => h) (Or.inr ⟨by rfl, rfl⟩) hHeld ?_
        try simp only [Act.put, List.getElem_toArray, List.getElem_cons_zero, List.getElem_cons_succ, List.setIfInBounds_toArray, List.set_cons_zero, List.set_cons_succ]
        refine wpAnyH_take (i := 32) (oi := _) (v := undef) rfl (by kernel_rfl) (by kernel_rfl) (by kernel_rfl) (fun _ _ _ h => h) (Or.inr ⟨by rfl, rfl⟩) hHeld ?_
        try simp only [Act.put, List.getElem_toArray, List.getElem_cons_zero, List.getElem_cons_succ, List.setIfInBounds_toArray, List.set_cons_zero, List.set_cons_succ]
        refine wpAnyH_take (i := 33) (oi := _) (v := ?vR133) rfl (by kernel_rfl) (by kernel_rfl) (by kernel_rfl) (fun _ _ _ h => h) (Or.inl ⟨by rfl, ?yR133⟩) hHeld ?_
        case yR133 => (intro w hSw; (try dsimp only at hSw); go_simp <;> with_reducible rfl)
        try simp only [Act.put, List.getElem_toArray, List.getElem_cons_zero, List.getElem_cons_succ, List.setIfInBounds_toArray, List.set_cons_zero, List.set_cons_succ]
        refine wpAnyH_done (by kernel_rfl) ?_ _
        go_wp2_with fail
        go_ret
        exact ⟨by rw [HB.out (rowOk_no (HX.out))]; rfl, hbr.trans (hd0.mono hbr.size)⟩
      | true =>
        cases q with
        | false =>
          clear h0o hpv
          have KEEP : Hid (∀ w1, Below wr.heap.size wr w1 → w1.cell? ⟨b, off + k * 5, none⟩ = some (.string d.name) ∧ w1.cell? ⟨b, off + k * 5 + 1, none⟩ = some (.int .i64 d.vA) ∧ w1.cell? ⟨b, off + k * 5 + 2, none⟩ = some (.int .i64 d.vB) ∧ w1.cell? ⟨b, off + k * 5 + 3, none⟩ = some (.int .i64 d.vC) ∧ w1.cell? ⟨b, off + k * 5 + 4, none⟩ = some (.slice a0 d.vP.length cap0)) := fun w1 h => ⟨(h.cell (by simpa using hbb)).trans e0, (h.cell (by simpa using hbb)).trans e1, (h.cell (by simpa using hbb)).trans e2, (h.cell (by simpa using hbb)).trans e3, (h.cell (by simpa using hbb)).trans e4⟩
          clear e0 e1 e2 e3 e4
          go_wp2_with fail
          refine wp_region_held_drew (S := (fun w' => w'.cell? ⟨b, off + k * 5, none⟩ = some (.string d.name) ∧ w'.cell? ⟨b, off + k * 5 + 1, none⟩ = some (.int .i64 d.vA) ∧ w'.cell? ⟨b, off + k * 5 + 2, none⟩ = some (.int .i64 d.vB) ∧ w'.cell? ⟨b, off + k * 5 + 3, none⟩ = some (.int .i64 d.vC) ∧ w'.cell? ⟨b, off + k * 5 + 4, none⟩ = some (.slice a0 d.vP.length cap0))) (by kernel_rfl) ?SR20 (fun hHeld => ?_)
          case SR20 => (first | (with_reducible exact KEEP.out _ hd1) | (with_reducible exact KEEP.out _ hd0))
          refine wpAnyH_take (i := 0) (oi := _) (v := ?vR20) rfl (by kernel_rfl) (by kernel_rfl) (by kernel_rfl) (fun _ _ _ h => h) (Or.inl ⟨by rfl, ?yR20⟩) hHeld ?_
          case yR20 => (intro w hSw; (try dsimp only at hSw); go_simp <;> with_reducible rfl)
          try simp only [Act.put, List.getElem_toArray, List.getElem_cons_zero, List.getElem_cons_succ, List.setIfInBounds_toArray, List.set_cons_zero, List.set_cons_succ]
          refine wpAnyH_take (i := 1) (oi := _) (v := ?vR21) rfl (by kernel_rfl) (by kernel_rfl) (by kernel_rfl) (fun _ _ _ h => h) (Or.inl ⟨by rfl, ?yR21⟩) hHeld ?_
          case yR21 => (intro w hSw; (try dsimp only at hSw); go_simp <;> with_reducible rfl)
          try simp only [Act.put, List.getElem_toArray, List.getElem_cons_zero, List.getElem_cons_succ, List.setIfInBounds_toArray, List.set_cons_zero, List.set_cons_succ]
          refine wpAnyH_take (i := 2) (oi := _) (v := ?vR22) rfl (by kernel_rfl) (by kernel_rfl) (by kernel_rfl) (fun _ _ _ h => h) (Or.inl ⟨by rfl, ?yR22⟩) hHeld ?_
          case yR22 => (intro w hSw; (try dsimp only at hSw); go_simp <;> with_reducible rfl)
          try simp only [Act.put, List.getElem_toArray, List.getElem_cons_zero, List.getElem_cons_succ, List.setIfInBounds_toArray, List.set_cons_zero, List.set_cons_succ]
          refine wpAnyH_take (i := 3) (oi := _) (v := ?vR23) rfl (by kernel_rfl) (by kernel_rfl) (by kernel_rfl) (fun _ _ _ h => h) (Or.inl ⟨by rfl, ?yR23⟩) hHeld ?_
          case yR23 => (intro w hSw; (try dsimp only at hSw); go_simp <;> with_reducible rfl)
          try simp only [Act.put, List.getElem_toArray, List.getElem_cons_zero, List.getElem_cons_succ, List.setIfInBounds_toArray, List.set_cons_zero, List.set_cons_succ]
          refine wpAnyH_take (i := 4) (oi := _) (v := ?vR24) rfl (by kernel_rfl) (by kernel_rfl) (by kernel_rfl) (fun _ _ _ h => h) (Or.inl ⟨by rfl, ?yR24⟩) hHeld ?_
          case yR24 => (intro w hSw; (try dsimp only at hSw); go_simp <;> with_reducible rfl)
          try simp only [Act.put, List.getElem_toArray, List.getElem_cons_zero, List.getElem_cons_succ, List.setIfInBounds_toArray, List.set_cons_zero, List.set_cons_succ]
          refine wpAnyH_ready (rs := [5]) (by kernel_rfl) (by simp) ?_
          refine AllReadyH.cons rfl (fun K hK => ?_) AllReadyH.nil
          go_simp
          go_wp2_with (go_at_call 31; refine (HN.out _).mono ?_; rintro e w' ⟨rfl, rfl⟩)
          clear hHeld
          refine hK.out _ _ ?SR26 (fun hHeld => ?_)
          case SR26 => ((try dsimp only); first | (with_reducible exact KEEP.out _ hd1) | (with_reducible exact KEEP.out _ hd0))
          clear hK K
          refine wpAnyH_take (i := 6) (oi := _) (v := ?vR26) rfl (by kernel_rfl) (by kernel_rfl) (by kernel_rfl) (fun _ _ _ h => h) (Or.inl ⟨by rfl, ?yR26⟩) hHeld ?_
          case yR26 => (intro w hSw; (try dsimp only at hSw); go_simp <;> with_reducible rfl)
          try simp only [Act.put, List.getElem_toArray, List.getElem_cons_zero, List.getElem_cons_succ, List.setIfInBounds_toArray, List.set_cons_zero, List.set_cons_succ]
          refine wpAnyH_take (i := 7) (oi := _) (v := ?vR27) rfl (by kernel_rfl) (by kernel_rfl) (by kernel_rfl) (fun _ _ _ h => h) (Or.inl ⟨by rfl, ?yR27⟩) hHeld ?_
          case yR27 => (intro w hSw; (try dsimp only at hSw); go_simp <;> with_reducible rfl)
          try simp only [Act.put, List.getElem_toArray, List.getElem_cons_zero, List.getElem_cons_succ, List.setIfInBounds_toArray, List.set_cons_zero, List.set_cons_succ]
          refine wpAnyH_take (i := 8) (oi := _) (v := ?vR28) rfl (by kernel_rfl) (by kernel_rfl) (by kernel_rfl) (fun _ _ _ h => h) (Or.inl ⟨by rfl, ?yR28⟩) hHeld ?_
          case yR28 => (intro w hSw; (try dsimp only at hSw); go_simp <;> with_reducible rfl)
          try simp only [Act.put, List.getElem_toArray, List.getElem_cons_zero, List.getElem_cons_succ, List.setIfInBounds_toArray, List.set_cons_zero, List.set_cons_succ]
          refine wpAnyH_take (i := 9) (oi := _) (v := ?vR29) rfl (by kernel_rfl) (by kernel_rfl) (by kernel_rfl) (fun _ _ _ h => h) (Or.inl ⟨by rfl, ?yR29⟩) hHeld ?_
          case yR29 => (intro w hSw; (try dsimp only at hSw); go_simp <;> with_reducible rfl)
          try simp only [Act.put, List.getElem_toArray, List.getElem_cons_zero, List.getElem_cons_succ, List.setIfInBounds_toArray, List.set_cons_zero, List.set_cons_succ]
          refine wpAnyH_take (i := 10) (oi := _) (v := ?vR210) rfl (by kernel_rfl) (by kernel_rfl) (by kernel_rfl) (fun _ _ _ h => h) (Or.inl ⟨by rfl, ?yR210⟩) hHeld ?_
          case yR210 => (intro w hSw; (try dsimp only at hSw); go_simp <;> with_reducible rfl)
          try simp only [Act.put, List.getElem_toArray, List.getElem_cons_zero, List.getElem_cons_succ, List.setIfInBounds_toArray, List.set_cons_zero, List.set_cons_succ]
          refine wpAnyH_take (i := 11) (oi := _) (v := ?vR211) rfl (by kernel_rfl) (by kernel_rfl) (by kernel_rfl) (fun _ _ _ h => h) (Or.inl ⟨by rfl, ?yR211⟩) hHeld ?_
          case yR211 => (intro w hSw; (try dsimp only at hSw); go_simp <;> with_reducible rfl)
          try simp only [Act.put, List.getElem_toArray, List.getElem_cons_zero, List.getElem_cons_succ, List.setIfInBounds_toArray, List.set_cons_zero, List.set_cons_succ]
          refine wpAnyH_take (i := 12) (oi := _) (v := ?vR212) rfl (by kernel_rfl) (by kernel_rfl) (by kernel_rfl) (fun _ _ _ h => h) (Or.inl ⟨by rfl, ?yR212⟩) hHeld ?_
          case yR212 => (intro w hSw; (try dsimp only at hSw); go_simp <;> with_reducible rfl)
          try simp only [Act.put, List.getElem_toArray, List.getElem_cons_zero, List.getElem_cons_succ, List.setIfInBounds_toArray, List.set_cons_zero, List.set_cons_succ]
          refine wpAnyH_ready (rs := [13]) (by kernel_rfl) (by simp) ?_
          refine AllReadyH.cons rfl (fun K hK => ?_) AllReadyH.nil
          go_simp
          go_wp2_with (go_at_call 32; refine (H1.out _ hd0).mono ?_; rintro e w1 ⟨rfl, b1⟩; have hd1 : Below wr.heap.size wr w1 := hd0.trans (b1.mono hd0.size))
          clear hHeld
          refine hK.out _ _ ?SR214 (fun hHeld => ?_)
          case SR214 => ((try dsimp only); first | (with_reducible exact KEEP.out _ hd1) | (with_reducible exact KEEP.out _ hd0))
          clear hK K
          refine wpAnyH_take (i := 14) (oi := _) (v := ?vR214) rfl (by kernel_rfl) (by kernel_rfl) (by kernel_rfl) (fun _ _ _ h => h) (Or.inl ⟨by rfl, ?yR214⟩) hHeld ?_
          case yR214 => (intro w hSw; (try dsimp only at hSw); go_simp <;> with_reducible rfl)
          try simp only [Act.put, List.getElem_toArray, List.getElem_cons_zero, List.getElem_cons_succ, List.setIfInBounds_toArray, List.set_cons_zero, List.set_cons_succ]
          refine wpAnyH_take (i := 15) (oi := _) (v := ?vR215) rfl (by kernel_rfl) (by kernel_rfl) (by kernel_rfl) (fun _ _ _ h => h) (Or.inl ⟨by rfl, ?yR215⟩) hHeld ?_
          case yR215 => (intro w hSw; (try dsimp only at hSw); go_simp <;> with_reducible rfl)
          try simp only [Act.put, List.getElem_toArray, List.getElem_cons_zero, List.getElem_cons_succ, List.setIfInBounds_toArray, List.set_cons_zero, List.set_cons_succ]
          refine wpAnyH_take (i := 16) (oi := _) (v := ?vR216) rfl (by kernel_rfl) (by kernel_rfl) (by kernel_rfl) (fun _ _ _ h => h) (Or.inl ⟨by rfl, ?yR216⟩) hHeld ?_
          case yR216 => (intro w hSw; (try dsimp only at hSw); go_simp <;> with_reducible rfl)
          try simp only [Act.put, List.getElem_toArray, List.getElem_cons_zero, List.getElem_cons_succ, List.setIfInBounds_toArray, List.set_cons_zero, List.set_cons_succ]
          refine wpAnyH_take (i := 17) (oi := _) (v := undef) rfl (by kernel_rfl) (by kernel_rfl) (by kernel_rfl) (fun _ _ _ h => h) (Or.inr ⟨by rfl, rfl⟩) hHeld ?_
          try simp only [Act.put, List.getElem_toArray, List.getElem_cons_zero, List.getElem_cons_succ, List.setIfInBounds_toArray, List.set_cons_zero, List.set_cons_succ]
          refine wpAnyH_take (i := 18) (oi := _) (v := undef) rfl (by kernel_rfl) (by kernel_rfl) (by kernel_rfl) (fun _ _ _ h => h) (Or.inr ⟨by rfl, rfl⟩) hHeld ?_
          try simp only [Act.put, List.getElem_toArray, List.getElem_cons_zero, List.getElem_cons_succ, List.setIfInBounds_toArray, List.set_cons_zero, List.set_cons_succ]
          refine wpAnyH_take (i := 19) (oi := _) (v := undef) rfl (by kernel_rfl) (by kernel_rfl) (by kernel_rfl) (fun _ _ _ h => h) (Or.inr ⟨by rfl, rfl⟩) hHeld ?_
          try simp only [Act.put, List.getElem_toArray, List.getElem_cons_zero, List.getElem_cons_succ, List.setIfInBounds_toArray, List.set_cons_zero, List.set_cons_succ]
          refine wpAnyH_take (i := 20) (oi := _) (v := undef) rfl (by kernel_rfl) (by kernel_rfl) (by kernel_rfl) (fun _ _ _ h => h) (Or.inr ⟨by rfl, rfl⟩) hHeld ?_
          try simp only [Act.put, List.getElem_toArray, List.getElem_cons_zero, List.getElem_cons_succ, List.setIfInBounds_toArray, List.set_cons_zero, List.set_cons_succ]
          refine wpAnyH_take (i := 21) (oi := _) (v := undef) rfl (by kernel_rfl) (by kernel_rfl) (by kernel_rfl) (fun _ _ _ h => h) (Or.inr ⟨by rfl, rfl⟩) hHeld ?_
          try simp only [Act.put, List.getElem_toArray, List.getElem_cons_zero, List.getElem_cons_succ, List.setIfInBounds_toArray, List.set_cons_zero, List.set_cons_succ]
          refine wpAnyH_take (i := 22) (oi := _) (v := undef) rfl (by kernel_rfl) (by kernel_rfl) (by kernel_rfl) (fun _ _ _ h => h) (Or.inr ⟨by rfl, rfl⟩) hHeld ?_
          try simp only [Act.put, List.getElem_toArray, List.getElem_cons_zero, List.getElem_cons_succ, List.setIfInBounds_toArray, List.set_cons_zero, List.set_cons_succ]
          refine wpAnyH_take (i := 23) (oi := _) (v := undef) rfl (by kernel_rfl) (by kernel_rfl) (by kernel_rfl) (fun _ _ _ h => h) (Or.inr ⟨by rfl, rfl⟩) hHeld ?_
          try simp only [Act.put, List.getElem_toArray, List.getElem_cons_zero, List.getElem_cons_succ, List.setIfInBounds_toArray, List.set_cons_zero, List.set_cons_succ]
          refine wpAnyH_take (i := 24) (oi := _) (v := undef) rfl (by kernel_rfl) (by kernel_rfl) (by kernel_rfl) (fun _ _ _ h => h) (Or.inr ⟨by rfl, rfl⟩) hHeld ?_
          try simp only [Act.put, List.getElem_toArray, List.getElem_cons_zero, List.getElem_cons_succ, List.setIfInBounds_toArray, List.set_cons_zero, List.set_cons_succ]
          refine wpAnyH_take (i := 25) (oi := _) (v := undef) rfl (by kernel_rfl) (by kernel_rfl) (by kernel_rfl) (fun _ _ _ h => h) (Or.inr ⟨by rfl, rfl⟩) hHeld ?_
          try simp only [Act.put, List.getElem_toArray, List.getElem_cons_zero, List.getElem_cons_succ, List.setIfInBounds_toArray, List.set_cons_zero, List.set_cons_succ]
          refine wpAnyH_take (i := 26) (oi := _) (v := undef) rfl (by kernel_rfl) (by kernel_rfl) (by kernel_rfl) (fun _ _ _ h => h) (Or.inr ⟨by rfl, rfl⟩) hHeld ?_
          try simp only [Act.put, List.getElem_toArray, List.getElem_cons_zero, List.getElem_cons_succ, List.setIfInBounds_toArray, List.set_cons_zero, List.set_cons_succ]
          refine wpAnyH_take (i := 27) (oi := _) (v := undef) rfl (by kernel_rfl) (by kernel_rfl) (by kernel_rfl) (fun _ _ _ h => h) (Or.inr ⟨by rfl, rfl⟩) hHeld ?_
          try simp only [Act.put, List.getElem_toArray, List.getElem_cons_zero, List.getElem_cons_succ, List.setIfInBounds_toArray, List.set_cons_zero, List.set_cons_succ]
          refine wpAnyH_take (i := 28) (oi := _) (v := undef) rfl (by kernel_rfl) (by kernel_rfl) (by kernel_rfl) (fun _ _ _ h => h) (Or.inr ⟨by rfl, rfl⟩) hHeld ?_
          try simp only [Act.put, List.getElem_toArray, List.getElem_cons_zero, List.getElem_cons_succ, List.setIfInBounds_toArray, List.set_cons_zero, List.set_cons_succ]
          refine wpAnyH_take (i := 29) (oi := _) (v := undef) rfl (by kernel_rfl) (by kernel_rfl) (by kernel_rfl) (fun _ _ _ h => h) (Or.inr ⟨by rfl, rfl⟩) hHeld ?_
          try simp only [Act.put, List.getElem_toArray, List.getElem_cons_zero, List.getElem_cons_succ, List.setIfInBounds_toArray, List.set_cons_zero, List.set_cons_succ]
          refine wpAnyH_take (i := 30) (oi := _) (v := undef) rfl (by kernel_rfl) (by kernel_rfl) (by kernel_rfl) (fun _ _ _ h => h) (Or.inr ⟨by rfl, rfl⟩) hHeld ?_
          try simp only [Act.put, List.getElem_toArray, List.getElem_cons_zero, List.getElem_cons_succ, List.setIfInBounds_toArray, List.set_cons_zero, List.set_cons_succ]
          refine wpAnyH_take (i := 31) (oi := _) (v := undef) rfl (by kernel_rfl) (by kernel_rfl) (by kernel_rfl) (fun _ _ _ h => h) (Or.inr ⟨by rfl, rfl⟩) hHeld ?_
          try simp only [Act.put, List.getElem_toArray, List.getElem_cons_zero, List.getElem_cons_succ, List.setIfInBounds_toArray, List.set_cons_zero, List.set_cons_succ]
          refine wpAnyH_take (i := 32) (oi := _) (v := undef) rfl (by kernel_rfl) (by kernel_rfl) (by kernel_rfl) (fun _ _ _ h => h) (Or.inr ⟨by rfl, rfl⟩) hHeld ?_
          try simp only [Act.put, List.getElem_toArray, List.getElem_cons_zero, List.getElem_cons_succ, List.setIfInBounds_toArray, List.set_cons_zero, List.set_cons_succ]
          refine wpAnyH_take (i := 33) (oi := _) (v := ?vR233) rfl (by kernel_rfl) (by kernel_rfl) (by kernel_rfl) (fun _ _ _ h => h) (Or.inl ⟨by rfl, ?yR233⟩) hHeld ?_
          case yR233 => (intro w hSw; (try dsimp only at hSw); go_simp <;> with_reducible rfl)
          try simp only [Act.put, List.getElem_toArray, List.getElem_cons_zero, List.getElem_cons_succ, List.setIfInBounds_toArray, List.set_cons_zero, List.set_cons_succ]
          refine wpAnyH_done (by kernel_rfl) ?_ _
          go_wp2_with fail
          go_ret
          exact ⟨by rw [HB.out (rowOk_no (HX.out))]; rfl, hbr.trans (hd1.mono hbr.size)⟩
        | true =>
          cases k with
          | zero =>
            have h1 := h0o rfl
            subst h1
            clear h0o hpv
            rw [Nat.zero_mul, Nat.add_zero] at e0 e1 e2 e3 e4
            have KEEP : Hid (∀ w1, Below wr.heap.size wr w1 → w1.cell? ⟨b, off, none⟩ = some (.string d.name) ∧ w1.cell? ⟨b, off + 1, none⟩ = some (.int .i64 d.vA) ∧ w1.cell? ⟨b, off + 2, none⟩ = some (.int .i64 d.vB) ∧ w1.cell? ⟨b, off + 3, none⟩ = some (.int .i64 d.vC) ∧ w1.cell? ⟨b, off + 4, none⟩ = some (.slice a0 d.vP.length cap0)) := fun w1 h => ⟨(h.cell (by simpa using hbb)).trans e0, (h.cell (by simpa using hbb)).trans e1, (h.cell (by simpa using hbb)).trans e2, (h.cell (by simpa using hbb)).trans e3, (h.cell (by simpa using hbb)).trans e4⟩
            clear e0 e1 e2 e3 e4
            go_wp2_with fail
            refine wp_region_held_drew (S := (fun w' => w'.cell? ⟨b, off, none⟩ = some (.string d.name) ∧ w'.cell? ⟨b, off + 1, none⟩ = some (.int .i64 d.vA) ∧ w'.cell? ⟨b, off + 2, none⟩ = some (.int .i64 d.vB) ∧ w'.cell? ⟨b, off + 3, none⟩ = some (.int .i64 d.vC) ∧ w'.cell? ⟨b, off + 4, none⟩ = some (.slice a0 d.vP.length cap0))) (by kernel_rfl) ?SR30 (fun hHeld => ?_)
            case SR30 => (first | (with_reducible exact KEEP.out _ hd1) | (with_reducible exact KEEP.out _ hd0))
            refine wpAnyH_take (i := 0) (oi := _) (v := ?vR30) rfl (by kernel_rfl) (by kernel_rfl) (by kernel_rfl) (fun _ _ _ h => h) (Or.inl ⟨by rfl, ?yR30⟩) hHeld ?_
            case yR30 => (intro w hSw; (try dsimp only at hSw); go_simp <;> with_reducible rfl)
            try simp only [Act.put, List.getElem_toArray, List.getElem_cons_zero, List.getElem_cons_succ, List.setIfInBounds_toArray, List.set_cons_zero, List.set_cons_succ]
            refine wpAnyH_take (i := 1) (oi := _) (v := ?vR31) rfl (by kernel_rfl) (by kernel_rfl) (by kernel_rfl) (fun _ _ _ h => h) (Or.inl ⟨by rfl, ?yR31⟩) hHeld ?_
            case yR31 => (intro w hSw; (try dsimp only at hSw); go_simp <;> with_reducible rfl)
            try simp only [Act.put, List.getElem_toArray, List.getElem_cons_zero, List.getElem_cons_succ, List.setIfInBounds_toArray, List.set_cons_zero, List.set_cons_succ]
            refine wpAnyH_take (i := 2) (oi := _) (v := ?vR32) rfl (by kernel_rfl) (by kernel_rfl) (by kernel_rfl) (fun _ _ _ h => h) (Or.inl ⟨by rfl, ?yR32⟩) hHeld ?_
            case yR32 => (intro w hSw; (try dsimp only at hSw); go_simp <;> with_reducible rfl)
            try simp only [Act.put, List.getElem_toArray, List.getElem_cons_zero, List.getElem_cons_succ, List.setIfInBounds_toArray, List.set_cons_zero, List.set_cons_succ]
            refine wpAnyH_take (i := 3) (oi := _) (v := ?vR33) rfl (by kernel_rfl) (by kernel_rfl) (by kernel_rfl) (fun _ _ _ h => h) (Or.inl ⟨by rfl, ?yR33⟩) hHeld ?_
            case yR33 => (intro w hSw; (try dsimp only at hSw); go_simp <;> with_reducible rfl)
            try simp only [Act.put, List.getElem_toArray, List.getElem_cons_zero, List.getElem_cons_succ, List.setIfInBounds_toArray, List.set_cons_zero, List.set_cons_succ]
            refine wpAnyH_take (i := 4) (oi := _) (v := ?vR34) rfl (by kernel_rfl) (by kernel_rfl) (by kernel_rfl) (fun _ _ _ h => h) (Or.inl ⟨by rfl, ?yR34⟩) hHeld ?_
            case yR34 => (intro w hSw; (try dsimp only at hSw); go_simp <;> with_reducible rfl)
            try simp only [Act.put, List.getElem_toArray, List.getElem_cons_zero, List.getElem_cons_succ, List.setIfInBounds_toArray, List.set_cons_zero, List.set_cons_succ]
            refine wpAnyH_ready (rs := [5]) (by kernel_rfl) (by simp) ?_
            refine AllReadyH.cons rfl (fun K hK => ?_) AllReadyH.nil
            go_simp
            go_wp2_with (go_at_call 31; refine (HN.out _).mono ?_; rintro e w' ⟨rfl, rfl⟩)
            clear hHeld
            refine hK.out _ _ ?SR36 (fun hHeld => ?_)
            case SR36 => ((try dsimp only); first | (with_reducible exact KEEP.out _ hd1) | (with_reducible exact KEEP.out _ hd0))
            clear hK K
            refine wpAnyH_take (i := 6) (oi := _) (v := ?vR36) rfl (by kernel_rfl) (by kernel_rfl) (by kernel_rfl) (fun _ _ _ h => h) (Or.inl ⟨by rfl, ?yR36⟩) hHeld ?_
            case yR36 => (intro w hSw; (try dsimp only at hSw); go_simp <;> with_reducible rfl)
            try simp only [Act.put, List.getElem_toArray, List.getElem_cons_zero, List.getElem_cons_succ, List.setIfInBounds_toArray, List.set_cons_zero, List.set_cons_succ]
            refine wpAnyH_take (i := 7) (oi := _) (v := ?vR37) rfl (by kernel_rfl) (by kernel_rfl) (by kernel_rfl) (fun _ _ _ h => h) (Or.inl ⟨by rfl, ?yR37⟩) hHeld ?_
            case yR37 => (intro w hSw; (try dsimp only at hSw); go_simp <;> with_reducible rfl)
            try simp only [Act.put, List.getElem_toArray, List.getElem_cons_zero, List.getElem_cons_succ, List.setIfInBounds_toArray, List.set_cons_zero, List.set_cons_succ]
            refine wpAnyH_take (i := 8) (oi := _) (v := ?vR38) rfl (by kernel_rfl) (by kernel_rfl) (by kernel_rfl) (fun _ _ _ h => h) (Or.inl ⟨by rfl, ?yR38⟩) hHeld ?_
            case yR38 => (intro w hSw; (try dsimp only at hSw); go_simp <;> with_reducible rfl)
            try simp only [Act.put, List.getElem_toArray, List.getElem_cons_zero, List.getElem_cons_succ, List.setIfInBounds_toArray, List.set_cons_zero, List.set_cons_succ]
            refine wpAnyH_take (i := 9) (oi := _) (v := ?vR39) rfl (by kernel_rfl) (by kernel_rfl) (by kernel_rfl) (fun _ _ _ h => h) (Or.inl ⟨by rfl, ?yR39⟩) hHeld ?_
            case yR39 => (intro w hSw; (try dsimp only at hSw); go_simp <;> with_reducible rfl)
            try simp only [Act.put, List.getElem_toArray, List.getElem_cons_zero, List.getElem_cons_succ, List.setIfInBounds_toArray, List.set_cons_zero, List.set_cons_succ]
            refine wpAnyH_take (i := 10) (oi := _) (v := ?vR310) rfl (by kernel_rfl) (by kernel_rfl) (by kernel_rfl) (fun _ _ _ h => h) (Or.inl ⟨by rfl, ?yR310⟩) hHeld ?_
            case yR310 => (intro w hSw; (try dsimp only at hSw); go_simp <;> with_reducible rfl)
            try simp only [Act.put, List.getElem_toArray, List.getElem_cons_zero, List.getElem_cons_succ, List.setIfInBounds_toArray, List.set_cons_zero, List.set_cons_succ]
            refine wpAnyH_take (i := 11) (oi := _) (v := ?vR311) rfl (by kernel_rfl) (by kernel_rfl) (by kernel_rfl) (fun _ _ _ h => h) (Or.inl ⟨by rfl, ?yR311⟩) hHeld ?_
            case yR311 => (intro w hSw; (try dsimp only at hSw); go_simp <;> with_reducible rfl)
            try simp only [Act.put, List.getElem_toArray, List.getElem_cons_zero, List.getElem_cons_succ, List.setIfInBounds_toArray, List.set_cons_zero, List.set_cons_succ]
            refine wpAnyH_take (i := 12) (oi := _) (v := ?vR312) rfl (by kernel_rfl) (by kernel_rfl) (by kernel_rfl) (fun _ _ _ h => h) (Or.inl ⟨by rfl, ?yR312⟩) hHeld ?_
            case yR312 => (intro w hSw; (try dsimp only at hSw); go_simp <;> with_reducible rfl)
            try simp only [Act.put, List.getElem_toArray, List.getElem_cons_zero, List.getElem_cons_succ, List.setIfInBounds_toArray, List.set_cons_zero, List.set_cons_succ]
            refine wpAnyH_ready (rs := [13]) (by kernel_rfl) (by simp) ?_
            refine AllReadyH.cons rfl (fun K hK => ?_) AllReadyH.nil
            go_simp
            go_wp2_with (go_at_call 32; refine (H1.out _ hd0).mono ?_; rintro e w1 ⟨rfl, b1⟩; have hd1 : Below wr.heap.size wr w1 := hd0.trans (b1.mono hd0.size))
            clear hHeld
            refine hK.out _ _ ?SR314 (fun hHeld => ?_)
            case SR314 => ((try dsimp only); first | (with_reducible exact KEEP.out _ hd1) | (with_reducible exact KEEP.out _ hd0))
            clear hK K
            refine wpAnyH_take (i := 14) (oi := _) (v := ?vR314) rfl (by kernel_rfl) (by kernel_rfl) (by kernel_rfl) (fun _ _ _ h => h) (Or.inl ⟨by rfl, ?yR314⟩) hHeld ?_
            case yR314 => (intro w hSw; (try dsimp only at hSw); go_simp <;> with_reducible rfl)
            try simp only [Act.put, List.getElem_toArray, List.getElem_cons_zero, List.getElem_cons_succ, List.setIfInBounds_toArray, List.set_cons_zero, List.set_cons_succ]
            refine wpAnyH_take (i := 15) (oi := _) (v := ?vR315) rfl (by kernel_rfl) (by kernel_rfl) (by kernel_rfl) (fun _ _ _ h => h) (Or.inl ⟨by rfl, ?yR315⟩) hHeld ?_
            case yR315 => (intro w hSw; (try dsimp only at hSw); go_simp <;> with_reducible rfl)
            try simp only [Act.put, List.getElem_toArray, List.getElem_cons_zero, List.getElem_cons_succ, List.setIfInBounds_toArray, List.set_cons_zero, List.set_cons_succ]
            refine wpAnyH_take (i := 16) (oi := _) (v := ?vR316) rfl (by kernel_rfl) (by kernel_rfl) (by kernel_rfl) (fun _ _ _ h => h) (Or.inl ⟨by rfl, ?yR316⟩) hHeld ?_
            case yR316 => (intro w hSw; (try dsimp only at hSw); go_simp <;> with_reducible rfl)
            try simp only [Act.put, List.getElem_toArray, List.getElem_cons_zero, List.getElem_cons_succ, List.setIfInBounds_toArray, List.set_cons_zero, List.set_cons_succ]
            refine wpAnyH_take (i := 17) (oi := _) (v := ?vR317) rfl (by kernel_rfl) (by kernel_rfl) (by kernel_rfl) (fun _ _ _ h => h) (Or.inl ⟨by rfl, ?yR317⟩) hHeld ?_
            case yR317 => (intro w hSw; (try dsimp only at hSw); go_simp <;> with_reducible rfl)
            try simp only [Act.put, List.getElem_toArray, List.getElem_cons_zero, List.getElem_cons_succ, List.setIfInBounds_toArray, List.set_cons_zero, List.set_cons_succ]
            refine wpAnyH_take (i := 18) (oi := _) (v := ?vR318) rfl (by kernel_rfl) (by kernel_rfl) (by kernel_rfl) (fun _ _ _ h => h) (Or.inl ⟨by rfl, ?yR318⟩) hHeld ?_
            case yR318 => (intro w hSw; (try dsimp only at hSw); go_simp <;> with_reducible rfl)
            try simp only [Act.put, List.getElem_toArray, List.getElem_cons_zero, List.getElem_cons_succ, List.setIfInBounds_toArray, List.set_cons_zero, List.set_cons_succ]
            refine wpAnyH_take (i := 19) (oi := _) (v := ?vR319) rfl (by kernel_rfl) (by kernel_rfl) (by kernel_rfl) (fun _ _ _ h => h) (Or.inl ⟨by rfl, ?yR319⟩) hHeld ?_
            case yR319 => (intro w hSw; (try dsimp only at hSw); go_simp <;> with_reducible rfl)
            try simp only [Act.put, List.getElem_toArray, List.getElem_cons_zero, List.getElem_cons_succ, List.setIfInBounds_toArray, List.set_cons_zero, List.set_cons_succ]
            refine wpAnyH_take (i := 20) (oi := _) (v := undef) rfl (by kernel_rfl) (by kernel_rfl) (by kernel_rfl) (fun _ _ _ h => h) (Or.inr ⟨by rfl, rfl⟩) hHeld ?_
            try simp only [Act.put, List.getElem_toArray, List.getElem_cons_zero, List.getElem_cons_succ, List.setIfInBounds_toArray, List.set_cons_zero, List.set_cons_succ]
            refine wpAnyH_take (i := 21) (oi := _) (v := undef) rfl (by kernel_rfl) (by kernel_rfl) (by kernel_rfl) (fun _ _ _ h => h) (Or.inr ⟨by rfl, rfl⟩) hHeld ?_
            try simp only [Act.put, List.getElem_toArray, List.getElem_cons_zero, List.getElem_cons_succ, List.setIfInBounds_toArray, List.set_cons_zero, List.set_cons_succ]
            refine wpAnyH_take (i := 22) (oi := _) (v := undef) rfl (by kernel_rfl) (by kernel_rfl) (by kernel_rfl) (fun _ _ _ h => h) (Or.inr ⟨by rfl, rfl⟩) hHeld ?_
            try simp only [Act.put, List.getElem_toArray, List.getElem_cons_zero, List.getElem_cons_succ, List.setIfInBounds_toArray, List.set_cons_zero, List.set_cons_succ]
            refine wpAnyH_take (i := 23) (oi := _) (v := undef) rfl (by kernel_rfl) (by kernel_rfl) (by kernel_rfl) (fun _ _ _ h => h) (Or.inr ⟨by rfl, rfl⟩) hHeld ?_
            try simp only [Act.put, List.getElem_toArray, List.getElem_cons_zero, List.getElem_cons_succ, List.setIfInBounds_toArray, List.set_cons_zero, List.set_cons_succ]
            refine wpAnyH_take (i := 24) (oi := _) (v := undef) rfl (by kernel_rfl) (by kernel_rfl) (by kernel_rfl) (fun _ _ _ h => h) (Or.inr ⟨by rfl, rfl⟩) hHeld ?_
            try simp only [Act.put, List.getElem_toArray, List.getElem_cons_zero, List.getElem_cons_succ, List.setIfInBounds_toArray, List.set_cons_zero, List.set_cons_succ]
            refine wpAnyH_take (i := 25) (oi := _) (v := undef) rfl (by kernel_rfl) (by kernel_rfl) (by kernel_rfl) (fun _ _ _ h => h) (Or.inr ⟨by rfl, rfl⟩) hHeld ?_
            try simp only [Act.put, List.getElem_toArray, List.getElem_cons_zero, List.getElem_cons_succ, List.setIfInBounds_toArray, List.set_cons_zero, List.set_cons_succ]
            refine wpAnyH_take (i := 26) (oi := _) (v := undef) rfl (by kernel_rfl) (by kernel_rfl) (by kernel_rfl) (fun _ _ _ h => h) (Or.inr ⟨by rfl, rfl⟩) hHeld ?_
            try simp only [Act.put, List.getElem_toArray, List.getElem_cons_zero, List.getElem_cons_succ, List.setIfInBounds_toArray, List.set_cons_zero, List.set_cons_succ]
            refine wpAnyH_take (i := 27) (oi := _) (v := undef) rfl (by kernel_rfl) (by kernel_rfl) (by kernel_rfl) (fun _ _ _ h => h) (Or.inr ⟨by rfl, rfl⟩) hHeld ?_
            try simp only [Act.put, List.getElem_toArray, List.getElem_cons_zero, List.getElem_cons_succ, List.setIfInBounds_toArray, List.set_cons_zero, List.set_cons_succ]
            refine wpAnyH_take (i := 28) (oi := _) (v := undef) rfl (by kernel_rfl) (by kernel_rfl) (by kernel_rfl) (fun _ _ _ h => h) (Or.inr ⟨by rfl, rfl⟩) hHeld ?_
            try simp only [Act.put, List.getElem_toArray, List.getElem_cons_zero, List.getElem_cons_succ, List.setIfInBounds_toArray, List.set_cons_zero, List.set_cons_succ]
            refine wpAnyH_take (i := 29) (oi := _) (v := undef) rfl (by kernel_rfl) (by kernel_rfl) (by kernel_rfl) (fun _ _ _ h => h) (Or.inr ⟨by rfl, rfl⟩) hHeld ?_
            try simp only [Act.put, List.getElem_toArray, List.getElem_cons_zero, List.getElem_cons_succ, List.setIfInBounds_toArray, List.set_cons_zero, List.set_cons_succ]
            refine wpAnyH_take (i := 30) (oi := _) (v := undef) rfl (by kernel_rfl) (by kernel_rfl) (by kernel_rfl) (fun _ _ _ h => h) (Or.inr ⟨by rfl, rfl⟩) hHeld ?_
            try simp only [Act.put, List.getElem_toArray, List.getElem_cons_zero, List.getElem_cons_succ, List.setIfInBounds_toArray, List.set_cons_zero, List.set_cons_succ]
            refine wpAnyH_take (i := 31) (oi := _) (v := undef) rfl (by kernel_rfl) (by kernel_rfl) (by kernel_rfl) (fun _ _ _ h => h) (Or.inr ⟨by rfl, rfl⟩) hHeld ?_
            try simp only [Act.put, List.getElem_toArray, List.getElem_cons_zero, List.getElem_cons_succ, List.setIfInBounds_toArray, List.set_cons_zero, List.set_cons_succ]
            refine wpAnyH_take (i := 32) (oi := _) (v := ?vR332) rfl (by kernel_rfl) (by kernel_rfl) (by kernel_rfl) (fun _ _ _ h => h) (Or.inl ⟨by rfl, ?yR332⟩) hHeld ?_
            case yR332 => (intro w hSw; (try dsimp only at hSw); go_simp <;> with_reducible rfl)
            try simp only [Act.put, List.getElem_toArray, List.getElem_cons_zero, List.getElem_cons_succ, List.setIfInBounds_toArray, List.set_cons_zero, List.set_cons_succ]
            refine wpAnyH_take (i := 33) (oi := _) (v := ?vR333) rfl (by kernel_rfl) (by kernel_rfl) (by kernel_rfl) (fun _ _ _ h => h) (Or.inl ⟨by rfl, ?yR333⟩) hHeld ?_
            case yR333 => (intro w hSw; (try dsimp only at hSw); go_simp <;> with_reducible rfl)
            try simp only [Act.put, List.getElem_toArray, List.getElem_cons_zero, List.getElem_cons_succ, List.setIfInBounds_toArray, List.set_cons_zero, List.set_cons_succ]
            refine wpAnyH_done (by kernel_rfl) ?_ _
            go_wp2_with fail
            go_roundw
            case rel => exact ⟨0 + 1, by omega, by go_num, HG.out (rowOk_first HX.out), hbr.trans (hd1.mono hbr.size)⟩
            case measure => simp [intOf]; omega
          | succ j =>
            obtain ⟨c, h1, e9⟩ := hpv j rfl
            subst h1
            clear h0o hpv
            have hj0 : (0 : Int) ≤ (j : Int) + 1 := by omega
            have hj1 : decide ((0 : Int) < (j : Int) + 1) = true := decide_eq_true (by omega)
            have hj2 : (j : Int) + 1 < (xs.length : Int) := by omega
            have hj3 : (j : Int) < (xs.length : Int) := by omega
            have hjw : IntKind.i64.wrap (j : Int) = (j : Int) := IntWalk.i64_in _ ⟨by omega, by omega⟩
            have KEEP : Hid (∀ w1, Below wr.heap.size wr w1 → w1.cell? ⟨b, off + (j + 1) * 5, none⟩ = some (.string d.name) ∧ w1.cell? ⟨b, off + (j + 1) * 5 + 1, none⟩ = some (.int .i64 d.vA) ∧ w1.cell? ⟨b, off + (j + 1) * 5 + 2, none⟩ = some (.int .i64 d.vB) ∧ w1.cell? ⟨b, off + (j + 1) * 5 + 3, none⟩ = some (.int .i64 d.vC) ∧ w1.cell? ⟨b, off + (j + 1) * 5 + 4, none⟩ = some (.slice a0 d.vP.length cap0) ∧ w1.cell? ⟨b, off + j * 5, none⟩ = some (.string c.name)) := fun w1 h => ⟨(h.cell (by simpa using hbb)).trans e0, (h.cell (by simpa using hbb)).trans e1, (h.cell (by simpa using hbb)).trans e2, (h.cell (by simpa using hbb)).trans e3, (h.cell (by simpa using hbb)).trans e4, (h.cell (by simpa using hbb)).trans e9⟩
            clear e0 e1 e2 e3 e4 e9
            go_wp2_with fail
            refine wp_region_held_drew (S := (fun w' => w'.cell? ⟨b, off + (j + 1) * 5, none⟩ = some (.string d.name) ∧ w'.cell? ⟨b, off + (j + 1) * 5 + 1, none⟩ = some (.int .i64 d.vA) ∧ w'.cell? ⟨b, off + (j + 1) * 5 + 2, none⟩ = some (.int .i64 d.vB) ∧ w'.cell? ⟨b, off + (j + 1) * 5 + 3, none⟩ = some (.int .i64 d.vC) ∧ w'.cell? ⟨b, off + (j + 1) * 5 + 4, none⟩ = some (.slice a0 d.vP.length cap0) ∧ w'.cell? ⟨b, off + j * 5, none⟩ = some (.string c.name))) (by kernel_rfl) ?SR40 (fun hHeld => ?_)
            case SR40 => (first | (with_reducible exact KEEP.out _ hd1) | (with_reducible exact KEEP.out _ hd0))
            refine wpAnyH_take (i := 0) (oi := _) (v := ?vR40) rfl (by kernel_rfl) (by kernel_rfl) (by kernel_rfl) (fun _ _ _ h => h) (Or.inl ⟨by rfl, ?yR40⟩) hHeld ?_
            case yR40 => (intro w hSw; (try dsimp only at hSw); go_simp <;> with_reducible rfl)
            try simp only [Act.put, List.getElem_toArray, List.getElem_cons_zero, List.getElem_cons_succ, List.setIfInBounds_toArray, List.set_cons_zero, List.set_cons_succ]
            refine wpAnyH_take (i := 1) (oi := _) (v := ?vR41) rfl (by kernel_rfl) (by kernel_rfl) (by kernel_rfl) (fun _ _ _ h => h) (Or.inl ⟨by rfl, ?yR41⟩) hHeld ?_
            case yR41 => (intro w hSw; (try dsimp only at hSw); go_simp <;> with_reducible rfl)
            try simp only [Act.put, List.getElem_toArray, List.getElem_cons_zero, List.getElem_cons_succ, List.setIfInBounds_toArray, List.set_cons_zero, List.set_cons_succ]
            refine wpAnyH_take (i := 2) (oi := _) (v := ?vR42) rfl (by kernel_rfl) (by kernel_rfl) (by kernel_rfl) (fun _ _ _ h => h) (Or.inl ⟨by rfl, ?yR42⟩) hHeld ?_
            case yR42 => (intro w hSw; (try dsimp only at hSw); go_simp <;> with_reducible rfl)
            try simp only [Act.put, List.getElem_toArray, List.getElem_cons_zero, List.getElem_cons_succ, List.setIfInBounds_toArray, List.set_cons_zero, List.set_cons_succ]
            refine wpAnyH_take (i := 3) (oi := _) (v := ?vR43) rfl (by kernel_rfl) (by kernel_rfl) (by kernel_rfl) (fun _ _ _ h => h) (Or.inl ⟨by rfl, ?yR43⟩) hHeld ?_
            case yR43 => (intro w hSw; (try dsimp only at hSw); go_simp <;> with_reducible rfl)
            try simp only [Act.put, List.getElem_toArray, List.getElem_cons_zero, List.getElem_cons_succ, List.setIfInBounds_toArray, List.set_cons_zero, List.set_cons_succ]
            refine wpAnyH_take (i := 4) (oi := _) (v := ?vR44) rfl (by kernel_rfl) (by kernel_rfl) (by kernel_rfl) (fun _ _ _ h => h) (Or.inl ⟨by rfl, ?yR44⟩) hHeld ?_
            case yR44 => (intro w hSw; (try dsimp only at hSw); go_simp <;> with_reducible rfl)
            try simp only [Act.put, List.getElem_toArray, List.getElem_cons_zero, List.getElem_cons_succ, List.setIfInBounds_toArray, List.set_cons_zero, List.set_cons_succ]
            refine wpAnyH_ready (rs := [5]) (by kernel_rfl) (by simp) ?_
            refine AllReadyH.cons rfl (fun K hK => ?_) AllReadyH.nil
            go_simp
            go_wp2_with (go_at_call 31; refine (HN.out _).mono ?_; rintro e w' ⟨rfl, rfl⟩)
            clear hHeld
            refine hK.out _ _ ?SR46 (fun hHeld => ?_)
            case SR46 => ((try dsimp only); first | (with_reducible exact KEEP.out _ hd1) | (with_reducible exact KEEP.out _ hd0))
            clear hK K
            refine wpAnyH_take (i := 6) (oi := _) (v := ?vR46) rfl (by kernel_rfl) (by kernel_rfl) (by kernel_rfl) (fun _ _ _ h => h) (Or.inl ⟨by rfl, ?yR46⟩) hHeld ?_
            case yR46 => (intro w hSw; (try dsimp only at hSw); go_simp <;> with_reducible rfl)
            try simp only [Act.put, List.getElem_toArray, List.getElem_cons_zero, List.getElem_cons_succ, List.setIfInBounds_toArray, List.set_cons_zero, List.set_cons_succ]
            refine wpAnyH_take (i := 7) (oi := _) (v := ?vR47) rfl (by kernel_rfl) (by kernel_rfl) (by kernel_rfl) (fun _ _ _ h => h) (Or.inl ⟨by rfl, ?yR47⟩) hHeld ?_
            case yR47 => (intro w hSw; (try dsimp only at hSw); go_simp <;> with_reducible rfl)
            try simp only [Act.put, List.getElem_toArray, List.getElem_cons_zero, List.getElem_cons_succ, List.setIfInBounds_toArray, List.set_cons_zero, List.set_cons_succ]
            refine wpAnyH_take (i := 8) (oi := _) (v := ?vR48) rfl (by kernel_rfl) (by kernel_rfl) (by kernel_rfl) (fun _ _ _ h => h) (Or.inl ⟨by rfl, ?yR48⟩) hHeld ?_
            case yR48 => (intro w hSw; (try dsimp only at hSw); go_simp <;> with_reducible rfl)
            try simp only [Act.put, List.getElem_toArray, List.getElem_cons_zero, List.getElem_cons_succ, List.setIfInBounds_toArray, List.set_cons_zero, List.set_cons_succ]
            refine wpAnyH_take (i := 9) (oi := _) (v := ?vR49) rfl (by kernel_rfl) (by kernel_rfl) (by kernel_rfl) (fun _ _ _ h => h) (Or.inl ⟨by rfl, ?yR49⟩) hHeld ?_
            case yR49 => (intro w hSw; (try dsimp only at hSw); go_simp <;> with_reducible rfl)
            try simp only [Act.put, List.getElem_toArray, List.getElem_cons_zero, List.getElem_cons_succ, List.setIfInBounds_toArray, List.set_cons_zero, List.set_cons_succ]
            refine wpAnyH_take (i := 10) (oi := _) (v := ?vR410) rfl (by kernel_rfl) (by kernel_rfl) (by kernel_rfl) (fun _ _ _ h => h) (Or.inl ⟨by rfl, ?yR410⟩) hHeld ?_
            case yR410 => (intro w hSw; (try dsimp only at hSw); go_simp <;> with_reducible rfl)
            try simp only [Act.put, List.getElem_toArray, List.getElem_cons_zero, List.getElem_cons_succ, List.setIfInBounds_toArray, List.set_cons_zero, List.set_cons_succ]
            refine wpAnyH_take (i := 11) (oi := _) (v := ?vR411) rfl (by kernel_rfl) (by kernel_rfl) (by kernel_rfl) (fun _ _ _ h => h) (Or.inl ⟨by rfl, ?yR411⟩) hHeld ?_
            case yR411 => (intro w hSw; (try dsimp only at hSw); go_simp <;> with_reducible rfl)
            try simp only [Act.put, List.getElem_toArray, List.getElem_cons_zero, List.getElem_cons_succ, List.setIfInBounds_toArray, List.set_cons_zero, List.set_cons_succ]
            refine wpAnyH_take (i := 12) (oi := _) (v := ?vR412) rfl (by kernel_rfl) (by kernel_rfl) (by kernel_rfl) (fun _ _ _ h => h) (Or.inl ⟨by rfl, ?yR412⟩) hHeld ?_
            case yR412 => (intro w hSw; (try dsimp only at hSw); go_simp <;> with_reducible rfl)
            try simp only [Act.put, List.getElem_toArray, List.getElem_cons_zero, List.getElem_cons_succ, List.setIfInBounds_toArray, List.set_cons_zero, List.set_cons_succ]
            refine wpAnyH_ready (rs := [13]) (by kernel_rfl) (by simp) ?_
            refine AllReadyH.cons rfl (fun K hK => ?_) AllReadyH.nil
            go_simp
            go_wp2_with (go_at_call 32; refine (H1.out _ hd0).mono ?_; rintro e w1 ⟨rfl, b1⟩; have hd1 : Below wr.heap.size wr w1 := hd0.trans (b1.mono hd0.size))
            clear hHeld
            refine hK.out _ _ ?SR414 (fun hHeld => ?_)
            case SR414 => ((try dsimp only); first | (with_reducible exact KEEP.out _ hd1) | (with_reducible exact KEEP.out _ hd0))
            clear hK K
            refine wpAnyH_take (i := 14) (oi := _) (v := ?vR414) rfl (by kernel_rfl) (by kernel_rfl) (by kernel_rfl) (fun _ _ _ h => h) (Or.inl ⟨by rfl, ?yR414⟩) hHeld ?_
            case yR414 => (intro w hSw; (try dsimp only at hSw); go_simp <;> with_reducible rfl)
            try simp only [Act.put, List.getElem_toArray, List.getElem_cons_zero, List.getElem_cons_succ, List.setIfInBounds_toArray, List.set_cons_zero, List.set_cons_succ]
            refine wpAnyH_take (i := 15) (oi := _) (v := ?vR415) rfl (by kernel_rfl) (by kernel_rfl) (by kernel_rfl) (fun _ _ _ h => h) (Or.inl ⟨by rfl, ?yR415⟩) hHeld ?_
            case yR415 => (intro w hSw; (try dsimp only at hSw); go_simp <;> with_reducible rfl)
            try simp only [Act.put, List.getElem_toArray, List.getElem_cons_zero, List.getElem_cons_succ, List.setIfInBounds_toArray, List.set_cons_zero, List.set_cons_succ]
            refine wpAnyH_take (i := 16) (oi := _) (v := ?vR416) rfl (by kernel_rfl) (by kernel_rfl) (by kernel_rfl) (fun _ _ _ h => h) (Or.inl ⟨by rfl, ?yR416⟩) hHeld ?_
            case yR416 => (intro w hSw; (try dsimp only at hSw); go_simp <;> with_reducible rfl)
            try simp only [Act.put, List.getElem_toArray, List.getElem_cons_zero, List.getElem_cons_succ, List.setIfInBounds_toArray, List.set_cons_zero, List.set_cons_succ]
            refine wpAnyH_take (i := 17) (oi := _) (v := ?vR417) rfl (by kernel_rfl) (by kernel_rfl) (by kernel_rfl) (fun _ _ _ h => h) (Or.inl ⟨by rfl, ?yR417⟩) hHeld ?_
            case yR417 => (intro w hSw; (try dsimp only at hSw); go_simp <;> with_reducible rfl)
            try simp only [Act.put, List.getElem_toArray, List.getElem_cons_zero, List.getElem_cons_succ, List.setIfInBounds_toArray, List.set_cons_zero, List.set_cons_succ]
            refine wpAnyH_take (i := 18) (oi := _) (v := ?vR418) rfl (by kernel_rfl) (by kernel_rfl) (by kernel_rfl) (fun _ _ _ h => h) (Or.inl ⟨by rfl, ?yR418⟩) hHeld ?_
            case yR418 => (intro w hSw; (try dsimp only at hSw); go_simp <;> with_reducible rfl)
            try simp only [Act.put, List.getElem_toArray, List.getElem_cons_zero, List.getElem_cons_succ, List.setIfInBounds_toArray, List.set_cons_zero, List.set_cons_succ]
            refine wpAnyH_take (i := 19) (oi := _) (v := ?vR419) rfl (by kernel_rfl) (by kernel_rfl) (by kernel_rfl) (fun _ _ _ h => h) (Or.inl ⟨by rfl, ?yR419⟩) hHeld ?_
            case yR419 => (intro w hSw; (try dsimp only at hSw); go_simp <;> with_reducible rfl)
            try simp only [Act.put, List.getElem_toArray, List.getElem_cons_zero, List.getElem_cons_succ, List.setIfInBounds_toArray, List.set_cons_zero, List.set_cons_succ]
            refine wpAnyH_take (i := 20) (oi := _) (v := ?vR420) rfl (by kernel_rfl) (by kernel_rfl) (by kernel_rfl) (fun _ _ _ h => h) (Or.inl ⟨by rfl, ?yR420⟩) hHeld ?_
            case yR420 => (intro w hSw; (try dsimp only at hSw); go_simp <;> with_reducible rfl)
            try simp only [Act.put, List.getElem_toArray, List.getElem_cons_zero, List.getElem_cons_succ, List.setIfInBounds_toArray, List.set_cons_zero, List.set_cons_succ]
            refine wpAnyH_take (i := 21) (oi := _) (v := ?vR421) rfl (by kernel_rfl) (by kernel_rfl) (by kernel_rfl) (fun _ _ _ h => h) (Or.inl ⟨by rfl, ?yR421⟩) hHeld ?_
            case yR421 => (intro w hSw; (try dsimp only at hSw); go_simp <;> with_reducible rfl)
            try simp only [Act.put, List.getElem_toArray, List.getElem_cons_zero, List.getElem_cons_succ, List.setIfInBounds_toArray, List.set_cons_zero, List.set_cons_succ]
            refine wpAnyH_take (i := 22) (oi := _) (v := ?vR422) rfl (by kernel_rfl) (by kernel_rfl) (by kernel_rfl) (fun _ _ _ h => h) (Or.inl ⟨by rfl, ?yR422⟩) hHeld ?_
            case yR422 => (intro w hSw; (try dsimp only at hSw); go_simp <;> with_reducible rfl)
            try simp only [Act.put, List.getElem_toArray, List.getElem_cons_zero, List.getElem_cons_succ, List.setIfInBounds_toArray, List.set_cons_zero, List.set_cons_succ]
            refine wpAnyH_take (i := 23) (oi := _) (v := ?vR423) rfl (by kernel_rfl) (by kernel_rfl) (by kernel_rfl) (fun _ _ _ h => h) (Or.inl ⟨by rfl, ?yR423⟩) hHeld ?_
            case yR423 => (intro w hSw; (try dsimp only at hSw); go_simp <;> with_reducible rfl)
            try simp only [Act.put, List.getElem_toArray, List.getElem_cons_zero, List.getElem_cons_succ, List.setIfInBounds_toArray, List.set_cons_zero, List.set_cons_succ]
            refine wpAnyH_take (i := 24) (oi := _) (v := ?vR424) rfl (by kernel_rfl) (by kernel_rfl) (by kernel_rfl) (fun _ _ _ h => h) (Or.inl ⟨by rfl, ?yR424⟩) hHeld ?_
            case yR424 => (intro w hSw; (try dsimp only at hSw); go_simp <;> with_reducible rfl)
            try simp only [Act.put, List.getElem_toArray, List.getElem_cons_zero, List.getElem_cons_succ, List.setIfInBounds_toArray, List.set_cons_zero, List.set_cons_succ]
            refine wpAnyH_take (i := 25) (oi := _) (v := ?vR425) rfl (by kernel_rfl) (by kernel_rfl) (by kernel_rfl) (fun _ _ _ h => h) (Or.inl ⟨by rfl, ?yR425⟩) hHeld ?_
            case yR425 => (intro w hSw; (try dsimp only at hSw); go_simp <;> with_reducible rfl)
            try simp only [Act.put, List.getElem_toArray, List.getElem_cons_zero, List.getElem_cons_succ, List.setIfInBounds_toArray, List.set_cons_zero, List.set_cons_succ]
            refine wpAnyH_take (i := 26) (oi := _) (v := ?vR426) rfl (by kernel_rfl) (by kernel_rfl) (by kernel_rfl) (fun _ _ _ h => h) (Or.inl ⟨by rfl, ?yR426⟩) hHeld ?_
            case yR426 => (intro w hSw; (try dsimp only at hSw); go_simp <;> with_reducible rfl)
            try simp only [Act.put, List.getElem_toArray, List.getElem_cons_zero, List.getElem_cons_succ, List.setIfInBounds_toArray, List.set_cons_zero, List.set_cons_succ]
            refine wpAnyH_take (i := 27) (oi := _) (v := ?vR427) rfl (by kernel_rfl) (by kernel_rfl) (by kernel_rfl) (fun _ _ _ h => h) (Or.inl ⟨by rfl, ?yR427⟩) hHeld ?_
            case yR427 => (intro w hSw; (try dsimp only at hSw); go_simp <;> with_reducible rfl)
            try simp only [Act.put, List.getElem_toArray, List.getElem_cons_zero, List.getElem_cons_succ, List.setIfInBounds_toArray, List.set_cons_zero, List.set_cons_succ]
            refine wpAnyH_take (i := 28) (oi := _) (v := ?vR428) rfl (by kernel_rfl) (by kernel_rfl) (by kernel_rfl) (fun _ _ _ h => h) (Or.inl ⟨by rfl, ?yR428⟩) hHeld ?_
            case yR428 => (intro w hSw; (try dsimp only at hSw); go_simp <;> with_reducible rfl)
            try simp only [Act.put, List.getElem_toArray, List.getElem_cons_zero, List.getElem_cons_succ, List.setIfInBounds_toArray, List.set_cons_zero, List.set_cons_succ]
            refine wpAnyH_take (i := 29) (oi := _) (v := ?vR429) rfl (by kernel_rfl) (by kernel_rfl) (by kernel_rfl) (fun _ _ _ h => h) (Or.inl ⟨by rfl, ?yR429⟩) hHeld ?_
            case yR429 => (intro w hSw; (try dsimp only at hSw); go_simp <;> with_reducible rfl)
            try simp only [Act.put, List.getElem_toArray, List.getElem_cons_zero, List.getElem_cons_succ, List.setIfInBounds_toArray, List.set_cons_zero, List.set_cons_succ]
            refine wpAnyH_take (i := 30) (oi := _) (v := ?vR430) rfl (by kernel_rfl) (by kernel_rfl) (by kernel_rfl) (fun _ _ _ h => h) (Or.inl ⟨by rfl, ?yR430⟩) hHeld ?_
            case yR430 => (intro w hSw; (try dsimp only at hSw); go_simp <;> with_reducible rfl)
            try simp only [Act.put, List.getElem_toArray, List.getElem_cons_zero, List.getElem_cons_succ, List.setIfInBounds_toArray, List.set_cons_zero, List.set_cons_succ]
            refine wpAnyH_take (i := 31) (oi := _) (v := ?vR431) rfl (by kernel_rfl) (by kernel_rfl) (by kernel_rfl) (fun _ _ _ h => h) (Or.inl ⟨by rfl, ?yR431⟩) hHeld ?_
            case yR431 => (intro w hSw; (try dsimp only at hSw); go_simp <;> with_reducible rfl)
            try simp only [Act.put, List.getElem_toArray, List.getElem_cons_zero, List.getElem_cons_succ, List.setIfInBounds_toArray, List.set_cons_zero, List.set_cons_succ]
            refine wpAnyH_take (i := 32) (oi := _) (v := ?vR432) rfl (by kernel_rfl) (by kernel_rfl) (by kernel_rfl) (fun _ _ _ h => h) (Or.inl ⟨by rfl, ?yR432⟩) hHeld ?_
            case yR432 => (intro w hSw; (try dsimp only at hSw); go_simp <;> with_reducible rfl)
            try simp only [Act.put, List.getElem_toArray, List.getElem_cons_zero, List.getElem_cons_succ, List.setIfInBounds_toArray, List.set_cons_zero, List.set_cons_succ]
            refine wpAnyH_take (i := 33) (oi := _) (v := ?vR433) rfl (by kernel_rfl) (by kernel_rfl) (by kernel_rfl) (fun _ _ _ h => h) (Or.inl ⟨by rfl, ?yR433⟩) hHeld ?_
            case yR433 => (intro w hSw; (try dsimp only at hSw); go_simp <;> with_reducible rfl)
            try simp only [Act.put, List.getElem_toArray, List.getElem_cons_zero, List.getElem_cons_succ, List.setIfInBounds_toArray, List.set_cons_zero, List.set_cons_succ]
            refine wpAnyH_done (by kernel_rfl) ?_ _
            go_wp2_with fail
            · have hlx : (!Op.bytesLess c.name.toList d.name.toList) = true := by assumption
              go_ret
              exact ⟨by rw [HB.out (rowOk_less (by simpa using hlx))]; rfl, hbr.trans (hd1.mono hbr.size)⟩
            · have hlx : (!Op.bytesLess c.name.toList d.name.toList) = false := by assumption
              go_roundw
              case rel => exact ⟨j + 1 + 1, by omega, by go_num, HG.out (by rw [rowOk_some HX.out]; simpa using hlx), hbr.trans (hd1.mono hbr.size)⟩
              case measure => simp [intOf]; omega
    · have he : k = xs.length := by omega
      subst he
      have HE : Hid (Q = true) := HQ.out.trans hh.out
      clear ha hh HQ
      by_cases hm : xs.length ≤ 12
      · have hm' : (xs.length : Int) ≤ 12 := by omega
        go_wp2_with fail
        go_ret
        exact ⟨by first | rfl | (rw [HE.out, decide_eq_true hm]; rfl) | (rw [HE.out, decide_eq_true hm]; simp [hm]; done) | rfl | simp [hm] | (simp; omega), hbr⟩
      · have hm' : ¬ (xs.length : Int) ≤ 12 := by omega
        go_wp2_with fail
        go_ret
        exact ⟨by first | rfl | (rw [HE.out, decide_eq_false hm]; rfl) | rfl | simp [hm] | (simp; omega), hbr⟩
end Go.Proofs.YthmilkcghfaecaaDoor

/-! Facts on blocks of memory that are kept, for the laws over two versions; no condition. -/
namespace Go.Proofs.YthmilkcghfaecaaDoor
open Go.RowKit
set_option linter.unusedSimpArgs false
set_option linter.unusedVariables false

/-- The block N holds these four cells. -/
def Four (w : World) (N : Nat) (t : TypeId) (c0 c1 c2 c3 : Value) : Prop := w.heap[N]? = some (.cells #[c0, c1, c2, c3] t (0, 0))
theorem Four.lt {w : World} {N : Nat} {t : TypeId} {c0 c1 c2 c3 : Value} (h : Four w N t c0 c1 c2 c3) : N < w.heap.size := (Array.getElem?_eq_some_iff.1 h).1
theorem Four.keep {w w' : World} {N : Nat} {t : TypeId} {c0 c1 c2 c3 : Value} (h : Four w N t c0 c1 c2 c3) (b : Below w.heap.size w w') : Four w' N t c0 c1 c2 c3 := (b.block N h.lt).trans h
theorem Four.cells {w : World} {N : Nat} {t : TypeId} {c0 c1 c2 c3 : Value} (h : Four w N t c0 c1 c2 c3) : w.cell? ⟨N, 0, none⟩ = some c0 ∧ w.cell? ⟨N, 1, none⟩ = some c1 ∧ w.cell? ⟨N, 2, none⟩ = some c2 ∧ w.cell? ⟨N, 3, none⟩ = some c3 :=
  ⟨vblk_cell h 0, vblk_cell h 1, vblk_cell h 2, vblk_cell h 3⟩
theorem Four.drew {w : World} {N : Nat} {t : TypeId} {c0 c1 c2 c3 : Value} (h : Four w N t c0 c1 c2 c3) : Four w.drew N t c0 c1 c2 c3 := h
theorem four_new (w : World) (t : TypeId) (c0 c1 c2 c3 : Value) : Four (w.alloc (.cells #[c0, c1, c2, c3] t)) w.heap.size t c0 c1 c2 c3 := vheap_new _ _
theorem four_old {w : World} {N : Nat} {t : TypeId} {c0 c1 c2 c3 : Value} (h : Four w N t c0 c1 c2 c3) (o : Obj) : Four (w.alloc o) N t c0 c1 c2 c3 := (vheap_old w o h.lt).trans h
theorem four_two (w : World) (t t' : TypeId) (c0 c1 c2 c3 d0 d1 d2 d3 : Value) : Four ((w.alloc (.cells #[c0, c1, c2, c3] t)).alloc (.cells #[d0, d1, d2, d3] t')) w.heap.size t c0 c1 c2 c3 ∧ Four ((w.alloc (.cells #[c0, c1, c2, c3] t)).alloc (.cells #[d0, d1, d2, d3] t')) (w.heap.size + 1) t' d0 d1 d2 d3 := by
  refine ⟨four_old (four_new _ _ _ _ _ _) _, ?_⟩
  have h := four_new (w.alloc (.cells #[c0, c1, c2, c3] t)) t' d0 d1 d2 d3
  have s1 : ∀ o, (w.alloc o).heap.size = w.heap.size + 1 := fun o => by simp
  rw [s1] at h
  exact h
end Go.Proofs.YthmilkcghfaecaaDoor

/-! The contract of the library for the text that a Builder holds, taken over from the library of contracts at the numbers of this program; conditions as it says. -/
namespace Go.Proofs
open Go.Shelf
def Tryd.lays169_ren : Go.Shelf.Ren := ⟨fun | 169 => 21 | n => n, fun | 70 => 45 | 9 => 9 | 0 => 0 | 72 => 48 | 37 => 46 | 127 => 74 | 3 => 3 | 5 => 5 | n => n, fun | n => n⟩
theorem Tryd.lays169 : Go.Proofs.Lays.n169 Tryd.prog Tryd.lays169_ren := {
  mixed := by kernel_rfl
  f169 := Tryd.func21.trans (congrArg some (by kernel_rfl))
  t0 := Tryd.underlying0
  a0 := Tryd.isAgg0
  z0 := Tryd.sizeOf0
  v0 := Tryd.zeroValue0
  t3 := Tryd.underlying3
  a3 := Tryd.isAgg3
  z3 := Tryd.sizeOf3
  v3 := Tryd.zeroValue3
  t9 := Tryd.underlying9
  a9 := Tryd.isAgg9
  z9 := Tryd.sizeOf9
  v9 := Tryd.zeroValue9
  t37 := Tryd.underlying46
  a37 := Tryd.isAgg46
  z37 := Tryd.sizeOf46
  v37 := Tryd.zeroValue46
  t70 := Tryd.underlying45
  a70 := Tryd.isAgg45
  z70 := Tryd.sizeOf45
  v70 := Tryd.zeroValue45
  t72 := Tryd.underlying48
  a72 := Tryd.isAgg48
  z72 := Tryd.sizeOf48
  v72 := Tryd.zeroValue48
  t127 := Tryd.underlying74
  a127 := Tryd.isAgg74
  z127 := Tryd.sizeOf74
  v127 := Tryd.zeroValue74 }
theorem Tryd.Builder_Extra_169 : Builder.Extra Tryd.prog Tryd.lays169_ren := {
  sizeBuilder := by kernel_rfl
  liesBuilder := by kernel_rfl
  t5 := Tryd.underlying5
  a5 := Tryd.isAgg5
  z5 := Tryd.sizeOf5
  v5 := Tryd.zeroValue5
  infoByte := by kernel_rfl
  cellsByte := by kernel_rfl
  sizeByte := by kernel_rfl
  neB5 := by decide }
open Go.RowKit in
theorem Tryd.Builder_String (B b : Nat) (l : List UInt8) (w : World) (h : Lib.IsBuilder 48 5 B b (Lib.byteCells l) w) (h0 : l ≠ []) :
    Calls Tryd.prog 21 #[.pointer (some ⟨b, 0, none⟩)] w fun e w' => e = .returned (.string ⟨l.toArray⟩) ∧ Below B w w' := Any.Builder_String Tryd.lays169 Tryd.Builder_Extra_169 B b l w h h0
open Go.RowKit in
theorem Tryd.Builder_String_empty (B b : Nat) (w : World) (h : Lib.IsBuilder 48 5 B b [] w) (hBw : B ≤ w.heap.size) :
    Calls Tryd.prog 21 #[.pointer (some ⟨b, 0, none⟩)] w fun e w' => e = .returned (.string ⟨#[]⟩) ∧ Below B w w' := Any.Builder_String_empty Tryd.lays169 Tryd.Builder_Extra_169 B b w h hBw
open Go.RowKit in
theorem Tryd.Builder_String_any (B b : Nat) (l : List UInt8) (w : World) (h : Lib.IsBuilder 48 5 B b (Lib.byteCells l) w) (hBw : B ≤ w.heap.size) :
    Calls Tryd.prog 21 #[.pointer (some ⟨b, 0, none⟩)] w fun e w' => e = .returned (.string ⟨l.toArray⟩) ∧ Below B w w' := Any.Builder_String_any Tryd.lays169 Tryd.Builder_Extra_169 B b l w h hBw
open Go.RowKit in
theorem Tryd.Builder_String_f (B b : Nat) (l : List UInt8) (w : World) (h : Lib.IsBuilderF 48 5 B b (Lib.byteCells l) w) (h0 : l ≠ []) :
    Calls Tryd.prog 21 #[.pointer (some ⟨b, 0, none⟩)] w fun e w' => e = .returned (.string ⟨l.toArray⟩) ∧ (Lib.IsBuilderF 48 5 B b (Lib.byteCells l) w' ∧ Below B w w') := Any.Builder_String_f Tryd.lays169 Tryd.Builder_Extra_169 B b l w h h0
open Go.RowKit in
theorem Tryd.Builder_String_empty_f (B b : Nat) (w : World) (h : Lib.IsBuilderF 48 5 B b [] w) (hBw : B ≤ w.heap.size) :
    Calls Tryd.prog 21 #[.pointer (some ⟨b, 0, none⟩)] w fun e w' => e = .returned (.string ⟨#[]⟩) ∧ (Lib.IsBuilderF 48 5 B b [] w' ∧ Below B w w') := Any.Builder_String_empty_f Tryd.lays169 Tryd.Builder_Extra_169 B b w h hBw
open Go.RowKit in
theorem Tryd.Builder_String_any_f (B b : Nat) (l : List UInt8) (w : World) (h : Lib.IsBuilderF 48 5 B b (Lib.byteCells l) w) (hBw : B ≤ w.heap.size) :
    Calls Tryd.prog 21 #[.pointer (some ⟨b, 0, none⟩)] w fun e w' => e = .returned (.string ⟨l.toArray⟩) ∧ (Lib.IsBuilderF 48 5 B b (Lib.byteCells l) w' ∧ Below B w w') := Any.Builder_String_any_f Tryd.lays169 Tryd.Builder_Extra_169 B b l w h hBw
end Go.Proofs

/-! What writing a text into a Builder of the call's own does, walked at this program's own copy of the library's text: the Builder holds the bytes behind those that it held; condition: together at most 2 to the 47. -/
namespace Go.Proofs.YthmilkcghfaecaaDoor
open Go.RowKit
set_option linter.unusedSimpArgs false
set_option linter.unusedVariables false

theorem sizeBuilder : (Tryd.prog.info? 48).map (·.size) = some 2 := by kernel_rfl

set_option maxHeartbeats 1000000 in
set_option maxRecDepth 100000 in
theorem check_used (b : Nat) (w : World) (h0 : w.cell? ⟨b, 0, none⟩ = some (.pointer (some ⟨b, 0, none⟩))) :
    Calls Tryd.prog 40 #[.pointer (some ⟨b, 0, none⟩)] w fun e w' => e = .returned (.tuple #[]) ∧ w = w' := by
  obtain ⟨j, hj, _⟩ := Option.map_eq_some_iff.1 sizeBuilder
  have hne := Lib.run_neq_ptr_same w (⟨b, 0, none⟩ : Addr) Tryd.underlying45 hj
  go_enter Tryd.func40, Tryd.ntmps40
  go_wp2
  go_end0
  exact ⟨rfl, rfl⟩

set_option maxHeartbeats 1000000 in
set_option maxRecDepth 100000 in
theorem check_fresh (b : Nat) (w : World) (h0 : w.cell? ⟨b, 0, none⟩ = some (.pointer none)) (hsh : w.shape? b = some (48, 2)) (hfz : w.frozen? ⟨b, 0, none⟩ = false) :
    Calls Tryd.prog 40 #[.pointer (some ⟨b, 0, none⟩)] w fun e w' => e = .returned (.tuple #[]) ∧ w.setCell ⟨b, 0, none⟩ (.pointer (some ⟨b, 0, none⟩)) = w' := by
  obtain ⟨j, hj, hjs⟩ := Option.map_eq_some_iff.1 sizeBuilder
  have u1 := Lib.run_to_unsafe w ⟨b, 0, none⟩ Tryd.underlying45 Tryd.underlying82 hj (by rw [hjs]; decide) hsh (Nat.zero_lt_succ 1)
  have u2 := Lib.run_from_unsafe w ⟨b, 0, none⟩ Tryd.underlying82 Tryd.underlying45 hj hsh (by kernel_rfl)
  have u3 : ∀ v w, (callFunc 60 #[v]).run Tryd.prog w = .ok (.value v) w := fun v w => by
    rw [run_callFunc_extern Tryd.func60 (by kernel_rfl) (by kernel_rfl) (by kernel_rfl) (e := Extern.AbiNoEscape.same) (by kernel_rfl), Lib.run_noEscape]
    rfl
  go_enter Tryd.func40, Tryd.ntmps40
  go_wp2
  go_end0
  exact ⟨rfl, rfl⟩

theorem check_c (B b : Nat) (bs : List Value) (w : World) (h : Lib.IsBuilder 48 5 B b bs w) :
    Calls Tryd.prog 40 #[.pointer (some ⟨b, 0, none⟩)] w fun e w' => e = .returned (.tuple #[]) ∧ (Lib.BuilderAt 48 5 B b (.pointer (some ⟨b, 0, none⟩)) bs w' ∧ Below B w w') := by
  rcases h with h | h
  · exact (check_fresh b w h.cell0 h.shape h.frozen0).mono fun e w' ⟨h1, h2⟩ => by
      subst h2
      exact ⟨h1, h.used _, (Below.refl B w).setCell (p := ⟨b, 0, none⟩) h.1 _⟩
  · exact (check_used b w h.cell0).mono fun e w' ⟨h1, h2⟩ => by
      subst h2
      exact ⟨h1, h, Below.refl B _⟩

set_option maxHeartbeats 2000000 in
set_option maxRecDepth 100000 in
theorem write_c (B b : Nat) (bs : List Value) (s : ByteArray) (w : World) (h : Lib.IsBuilder 48 5 B b bs w) (hlen : bs.length + s.size ≤ 140737488355328) (hBw : B ≤ w.heap.size) :
    Calls Tryd.prog 19 #[.pointer (some ⟨b, 0, none⟩), .string s] w fun e w' => e = .returned (.tuple #[.int .i64 s.size, .nilIface]) ∧ (Lib.BuilderAt 48 5 B b (.pointer (some ⟨b, 0, none⟩)) (bs ++ Lib.strCells s) w' ∧ Below B w w') := by
  obtain ⟨i0, hi, hz0, hz1, hz2⟩ := info_parts info5
  go_enter Tryd.func19, Tryd.ntmps19
  go_wp2_with (first
    | (go_at_call 40
       refine (check_c B b bs _ h).mono ?_
       rintro e w1 ⟨rfl, h1, hb1⟩
       obtain ⟨hB, v, hbk, hown, hne⟩ := h1
       have c0 : w1.cell? ⟨b, 0, none⟩ = some (.pointer (some ⟨b, 0, none⟩)) := by rw [Lib.cell_of_heap hbk]; rfl
       have c1 : w1.cell? ⟨b, 1, none⟩ = some v := by rw [Lib.cell_of_heap hbk]; rfl)
    | (at_builtin; refine Lib.wpList_append_own_string _ rfl _ _ 46 9 rfl B 5 i0 Tryd.underlying46 Tryd.underlying9 hi hz0 hz1 hz2 _ bs.length bs rfl hown s rfl (by unfold maxLen; omega) hlen (Nat.le_trans hBw hb1.size) ?_))
  intro v' w2 hown' hgrow hnil
  have hlt : b < w1.heap.size := (Array.getElem?_eq_some_iff.1 hbk).1
  have hb2 : w2.heap[b]? = some (.cells #[.pointer (some ⟨b, 0, none⟩), v] 48 (0, 0)) := by
    rw [hgrow.block b hlt (fun e => hne e.symm)]
    exact hbk
  have d0 : w2.cell? ⟨b, 0, none⟩ = some (.pointer (some ⟨b, 0, none⟩)) := by rw [Lib.cell_of_heap hb2]; rfl
  have d1 : w2.cell? ⟨b, 1, none⟩ = some v := by rw [Lib.cell_of_heap hb2]; rfl
  have f1 : w2.frozen? ⟨b, 1, none⟩ = false := Lib.frozen_of_heap hb2 1
  have hex : ∃ ao cap, v' = .slice ao (bs.length + s.size) cap := by
    rcases hown'.2 with ⟨hv, h0⟩ | ⟨g, cap, cur, hv, _⟩
    · exact ⟨none, 0, by rw [hv, h0]⟩
    · exact ⟨_, cap, hv⟩
  have hbel : Below B w (w2.setCell ⟨b, 1, none⟩ v') := (hb1.grown hgrow (Nat.le_trans hBw hb1.size) (fun k hk => (hown.lt k hk).1)).setCell (p := ⟨b, 1, none⟩) hB _
  have hput : Lib.BuilderAt 48 5 B b (.pointer (some ⟨b, 0, none⟩)) (bs ++ Lib.strCells s) (w2.setCell ⟨b, 1, none⟩ v') :=
    Lib.BuilderAt.put hB hb2 (bs' := bs ++ Lib.strCells s) (by rw [List.length_append, Lib.strCells_length]; exact hown') (by decide)
  obtain ⟨ao, cap, hv⟩ := hex
  subst hv
  clear hnil
  go_wp2
  go_ret2
  exact ⟨rfl, hput, hbel⟩
end Go.Proofs.YthmilkcghfaecaaDoor
