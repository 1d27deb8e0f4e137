/-
  The place of the pack of a name, the program's and the specification's: contracts for the walks; conditions: the row of packs lies in memory.
-/
import Derived.Test.YtlnofdlhjeomfaaPkA
namespace Go.Proofs.Ytlnofdlhjeomfaa
open Go.RowKit
set_option linter.unusedSimpArgs false
set_option linter.unusedVariables false

/-- The place of the first pack of this name, or -1. -/
def findP (xs : List PackD) (s : ByteArray) : Int := if xs.findIdx (fun d => decide (d.name = s)) < xs.length then (xs.findIdx (fun d => decide (d.name = s)) : Int) else -1
theorem findP_here {xs : List PackD} {s : ByteArray} {k : Nat} (h : k < xs.length) (hy : xs[k].name = s) (hn : ∀ j (hj : j < xs.length), j < k → ¬ xs[j].name = s) : findP xs s = (k : Int) := by
  have e : xs.findIdx (fun d => decide (d.name = s)) = k := by
    rw [List.findIdx_eq h]
    exact ⟨by simpa using hy, fun j hj => by simpa using hn j (by omega) hj⟩
  unfold findP
  rw [e, if_pos h]
theorem findP_none {xs : List PackD} {s : ByteArray} (hn : ∀ j (hj : j < xs.length), ¬ xs[j].name = s) : findP xs s = -1 := by
  have e : xs.findIdx (fun d => decide (d.name = s)) = xs.length := by
    rw [List.findIdx_eq_length]
    intro x hx
    obtain ⟨j, hj, rfl⟩ := List.mem_iff_getElem.1 hx
    simpa using hn j hj
  unfold findP
  rw [e, if_neg (by omega)]
theorem name_alike (a b : ByteArray) : (a.toList == b.toList) = decide (a = b) := by
  by_cases h : a = b
  · subst h; simp
  · rw [decide_eq_false h]
    cases hh : (a.toList == b.toList) with
    | false => rfl
    | true => exact absurd (bytes_eq_of_toList (by simpa using hh)) h

set_option maxHeartbeats 2000000 in
set_option maxRecDepth 100000 in
theorem specFind_c (S : Nat → Prop) (v : Value) (xs : List PackD) (s : ByteArray) (w : World) (hv : RowIn shPack S w v xs) (hB : ∀ b, S b → b < w.heap.size) :
    Calls Try.prog 31 #[v, .string s] w fun e w' => e = .returned (.int .i64 (findP xs s)) ∧ Below w.heap.size w w' := by
  obtain ⟨a, cap, rfl, hl, hc, ha⟩ := hv
  unfold maxLen at hl
  obtain ⟨R, hR⟩ : ∃ R, R = findP xs s := ⟨_, rfl⟩
  rw [← hR]
  have HR : Hid (R = findP xs s) := hR
  clear hR
  go_enter Try.func31, Try.ntmps31
  go_wp2_with fail
  go_loopw [5] (fun vi wr => ∃ k : Nat, k ≤ xs.length ∧ vi = .int .i64 (k : Int) ∧ Hid (∀ j (hj : j < xs.length), j < k → ¬ xs[j].name = s) ∧ Below w.heap.size w wr) (fun vi _ => xs.length - (intOf vi).toNat)
  case atStart => exact ⟨0, Nat.zero_le _, rfl, (fun j hj h => by omega), Below.refl _ _⟩
  case round =>
    obtain ⟨k, hk, rfl, hno, hbr⟩ := hrel
    by_cases hlt' : k < xs.length
    · rcases ha with rfl | ⟨b, off, rfl, hlt, ha⟩
      · simp at hlt'
      obtain ⟨cs, hL, hcell⟩ := ha k hlt'
      have hcell2 := hcell.keep (.of hbr hB) hlt
      have HT : Hid (xs[k].name = s → R = (k : Int)) := fun h => HR.out.trans (findP_here hlt' h hno.out)
      have HN : Hid (¬ xs[k].name = s → ∀ j (hj : j < xs.length), j < k + 1 → ¬ xs[j].name = s) := fun h j hj hjk => by
        by_cases e : j = k
        · subst e; exact h
        · exact hno.out j hj (by omega)
      obtain ⟨d, hd⟩ : ∃ d, d = xs[k] := ⟨_, rfl⟩
      rw [← hd] at hL HT HN
      obtain ⟨u0, u1, u2, rfl, _⟩ := hL
      have e0 : wr.cell? ⟨b, off + k * 4, none⟩ = some (.string d.name) := hcell2 0 (by simp)
      have hki : (k : Int) < (xs.length : Int) := by omega
      obtain ⟨t, ht⟩ : ∃ t, t = d.name := ⟨_, rfl⟩
      rw [← ht] at e0 HT HN
      have hal := name_alike t s
      clear ha hd ht hcell hcell2 hno HR
      by_cases hts : t = s
      · have hq : (t.toList == s.toList) = true := by rw [hal]; simpa using hts
        have HT2 := hidden (HT.out hts)
        clear HT HN hts hal
        go_wp2_with fail
        try (go_quiet (fail); go_wp2_with fail)
        go_ret
        exact ⟨by rw [HT2.out]; rfl, by first | exact hbr | exact hbr.drew | exact below_drewN' hbr _⟩
      · have hq : (t.toList == s.toList) = false := by rw [hal]; simpa using hts
        have HN2 := hidden (HN.out hts)
        clear HT HN hts hal
        go_wp2_with fail
        try (go_quiet (fail); go_wp2_with fail)
        go_roundw
        case rel => exact ⟨k + 1, by omega, by go_num, HN2.out, by first | exact hbr | exact hbr.drew | exact below_drewN' hbr _⟩
        case measure => simp [intOf]; omega
    · have he : k = xs.length := by omega
      subst he
      have HE : Hid (R = -1) := HR.out.trans (findP_none (fun j hj => hno.out j hj hj))
      clear ha hno HR
      go_wp2_with fail
      go_ret
      exact ⟨by rw [HE.out]; rfl, hbr⟩

set_option maxHeartbeats 1000000 in
set_option maxRecDepth 100000 in
theorem findFn_c (S : Nat → Prop) (d : PackD) (cs : List Value) (s : ByteArray) (B : Nat) (w : World) (hd : shPack.lies S w cs d) (hF : w.heap[B]? = some (.cells #[.string s] 9 (0, 0))) :
    Calls Try.prog 77 #[.agg cs.toArray, .pointer (some ⟨B, 0, none⟩)] w fun e w' => e = .returned (.bool (decide (d.name = s))) ∧ Below w.heap.size w w' := by
  obtain ⟨u0, u1, u2, rfl, _, r0, _, r1, r2⟩ := hd
  obtain ⟨a0, c0, rfl, _⟩ := id r0
  obtain ⟨a1, c1, rfl, _⟩ := id r1
  obtain ⟨a2, c2, rfl, _⟩ := id r2
  clear r0 r1 r2
  have hBl := (Array.getElem?_eq_some_iff.1 hF).1
  have y0 : ∀ o, (w.alloc o).cell? ⟨B, 0, none⟩ = some (.string s) := fun o => by
    have : w.cell? ⟨B, 0, none⟩ = some (.string s) := by rw [vblk_cell hF]; rfl
    rw [← this]
    exact ((Below.refl w.heap.size w).alloc (Nat.le_refl _) _).cell (by simpa using hBl)
  have kb : ∀ o, Below w.heap.size w (w.alloc o) := fun o => (Below.refl w.heap.size w).alloc (Nat.le_refl _) o
  have HG := hidden (name_alike d.name s)
  have hy := hidden y0
  clear hF y0
  rw [length_strsV]
  have y1 := hy.out (.cells #[.string d.name, .slice a0 d.uses.length c0, .slice a1 d.needs.length c1, .slice a2 d.cmds.length c2] 58)
  go_enter Try.func77, Try.ntmps77
  go_wp2_with fail
  go_ret
  exact ⟨by rw [← HG.out]; rfl, kb _⟩

set_option maxHeartbeats 2000000 in
set_option maxRecDepth 100000 in
theorem findAt_c (S : Nat → Prop) (v : Value) (xs : List PackD) (s : ByteArray) (B : Nat) (w : World) (hv : RowIn shPack S w v xs) (hB : ∀ b, S b → b < w.heap.size) (hF : w.heap[B]? = some (.cells #[.string s] 9 (0, 0))) :
    Calls Try.prog 76 #[v, .func (.func 77) #[] #[.pointer (some ⟨B, 0, none⟩)]] w fun e w' => e = .returned (.int .i64 (findP xs s)) ∧ Below w.heap.size w w' := by
  obtain ⟨a, cap, rfl, hl, hc, ha⟩ := hv
  unfold maxLen at hl
  have hBlt := (Array.getElem?_eq_some_iff.1 hF).1
  obtain ⟨R, hR⟩ : ∃ R, R = findP xs s := ⟨_, rfl⟩
  rw [← hR]
  have HR : Hid (R = findP xs s) := hR
  clear hR
  go_enter Try.func76, Try.ntmps76
  go_wp2_with fail
  go_loopw [8] (fun vi wr => ∃ k : Nat, k ≤ xs.length ∧ vi = .int .i64 (k : Int) ∧ Hid (∀ j (hj : j < xs.length), j < k → ¬ xs[j].name = s) ∧ Below w.heap.size w wr) (fun vi _ => xs.length - (intOf vi).toNat)
  case atStart => exact ⟨0, Nat.zero_le _, rfl, (fun j hj h => by omega), Below.refl _ _⟩
  case round =>
    obtain ⟨k, hk, rfl, hno, hbr⟩ := hrel
    by_cases hlt' : k < xs.length
    · rcases ha with rfl | ⟨b, off, rfl, hlt, ha⟩
      · simp at hlt'
      obtain ⟨cs, hL, hcell⟩ := ha k hlt'
      have hL2 := shPack.keep (.of hbr hB) hL
      have hcell2 := hcell.keep (.of hbr hB) hlt
      have HT : Hid (xs[k].name = s → R = (k : Int)) := fun h => HR.out.trans (findP_here hlt' h hno.out)
      have HN : Hid (¬ xs[k].name = s → ∀ j (hj : j < xs.length), j < k + 1 → ¬ xs[j].name = s) := fun h j hj hjk => by
        by_cases e : j = k
        · subst e; exact h
        · exact hno.out j hj (by omega)
      obtain ⟨d, hd⟩ : ∃ d, d = xs[k] := ⟨_, rfl⟩
      rw [← hd] at hL2 HT HN
      have HC := findFn_c S d cs s B wr hL2 ((hbr.block B hBlt).trans hF)
      obtain ⟨u0, u1, u2, rfl, _, r0, _, r1, r2⟩ := hL2
      obtain ⟨a0, c0, eu0, _⟩ := id r0
      rw [length_strsV] at eu0
      subst eu0
      obtain ⟨a1, c1, rfl, _⟩ := id r1
      obtain ⟨a2, c2, rfl, _⟩ := id r2
      clear r0 r1 r2
      have e0 : wr.cell? ⟨b, off + k * 4, none⟩ = some (.string d.name) := hcell2 0 (by simp)
      have e1 : wr.cell? ⟨b, off + k * 4 + 1, none⟩ = some (.slice a0 d.uses.length c0) := hcell2 1 (by simp)
      have e2 : wr.cell? ⟨b, off + k * 4 + 2, none⟩ = some (.slice a1 d.needs.length c1) := hcell2 2 (by simp)
      have e3 : wr.cell? ⟨b, off + k * 4 + 3, none⟩ = some (.slice a2 d.cmds.length c2) := hcell2 3 (by simp)
      have hki : (k : Int) < (xs.length : Int) := by omega
      obtain ⟨r, hr⟩ : ∃ r, r = decide (d.name = s) := ⟨_, rfl⟩
      rw [← hr] at HC
      have HC2 := hidden HC
      clear ha hd hcell hcell2 hno HR HC hF hL
      by_cases hts : d.name = s
      · have hr2 : r = true := by rw [hr]; simpa using hts
        subst hr2
        have HT2 := hidden (HT.out hts)
        clear HT HN hts hr
        go_wp2_with (go_at_call 77; refine HC2.out.mono ?_; rintro e w1 ⟨rfl, b1⟩)
        go_ret
        exact ⟨by rw [HT2.out]; rfl, hbr.trans (b1.mono hbr.size)⟩
      · have hr2 : r = false := by rw [hr]; simpa using hts
        subst hr2
        have HN2 := hidden (HN.out hts)
        clear HT HN hts hr
        go_wp2_with (go_at_call 77; refine HC2.out.mono ?_; rintro e w1 ⟨rfl, b1⟩)
        go_roundw
        case rel => exact ⟨k + 1, by omega, by go_num, HN2.out, hbr.trans (b1.mono hbr.size)⟩
        case measure => simp [intOf]; omega
    · have he : k = xs.length := by omega
      subst he
      have HE : Hid (R = -1) := HR.out.trans (findP_none (fun j hj => hno.out j hj hj))
      clear ha hno HR hF
      go_wp2_with fail
      go_ret
      exact ⟨by rw [HE.out]; rfl, hbr⟩

set_option maxHeartbeats 1000000 in
set_option maxRecDepth 100000 in
theorem implFind_c (S : Nat → Prop) (v : Value) (xs : List PackD) (s : ByteArray) (w : World) (hv : RowIn shPack S w v xs) (hB : ∀ b, S b → b < w.heap.size) :
    Calls Try.prog 33 #[v, .string s] w fun e w' => e = .returned (.int .i64 (findP xs s)) ∧ Below w.heap.size w w' := by
  have kb : ∀ o, Below w.heap.size w (w.alloc o) := fun o => (Below.refl w.heap.size w).alloc (Nat.le_refl _) o
  have HF := hidden (findAt_c S v xs s w.heap.size (w.alloc (.cells #[.string s] 9)) (hv.keep (.of (kb _) hB)) (fun b h => Nat.lt_of_lt_of_le (hB b h) (kb (.cells #[.string s] 9)).size) (vheap_new _ _))
  obtain ⟨a, cap, rfl, _⟩ := hv
  go_enter Try.func33, Try.ntmps33
  go_wp2_with (go_at_call 76; refine HF.out.mono ?_; rintro e w1 ⟨rfl, b1⟩)
  go_ret
  exact ⟨rfl, (kb _).trans (b1.mono (kb _).size)⟩
end Go.Proofs.Ytlnofdlhjeomfaa
