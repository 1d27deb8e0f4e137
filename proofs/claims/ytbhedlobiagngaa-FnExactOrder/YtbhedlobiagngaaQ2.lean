/-
  Contracts for the walks, several texts in one: each part says what it proves, and under which conditions.
-/
import Derived.Sort.Walk0
import Derived.Laws.AppendOwnNone
import Derived.Deep.RegionHeld
import Derived.Handy
import Derived.Test.YtbhedlobiagngaaQ1

/-! What the specification's Sorted answers: a list that rises and has the members of the list handed in, in memory of its own; conditions: the list lies in memory as told and has at most 2 to the 20 texts. -/
namespace Go.Proofs.Ytbhedlobiagngaa
open Go.RowKit
set_option linter.unusedSimpArgs false
set_option linter.unusedVariables false

def hasS (ss : List ByteArray) (s : ByteArray) : Bool := decide (bytesL s ∈ ss.map bytesL)
theorem hasS_iff (ss : List ByteArray) (s : ByteArray) : hasS ss s = true ↔ s ∈ ss := by
  rw [hasS, decide_eq_true_iff, List.mem_map]
  constructor
  · rintro ⟨t, ht, e⟩
    rw [← bytesL_inj e]; exact ht
  · intro h; exact ⟨s, h, rfl⟩
theorem hasS_not {ss : List ByteArray} {s : ByteArray} (h : ¬ s ∈ ss) : hasS ss s = false := by
  cases e : hasS ss s with
  | false => rfl
  | true => exact absurd ((hasS_iff ss s).1 e) h

set_option maxHeartbeats 1000000 in
set_option maxRecDepth 100000 in
theorem has_c (v : Value) (ss : List ByteArray) (s : ByteArray) (w : World) (hv : Reads w v (strsV ss)) (hn : ss.length ≤ 1099511627776) :
    Calls Try.prog 41 #[v, .string s] w fun e w' => e = .returned (.bool (hasS ss s)) ∧ w = w' := by
  obtain ⟨a, cap, rfl, _, hc⟩ := reads_strs hv
  clear hv
  rcases hc with rfl | ⟨b, off, rfl, hlt, hc⟩
  · go_enter Try.func41, Try.ntmps41
    go_wp2
    go_loop [5] (fun vi => vi = .int .i64 0) (fun _ => 0)
    case atStart => rfl
    case round =>
      obtain rfl := hrel
      go_wp2
      go_ret
      exact ⟨rfl, rfl⟩
  · go_enter Try.func41, Try.ntmps41
    go_wp2
    go_loop [5] (fun vi => ∃ k : Nat, k ≤ ss.length ∧ vi = .int .i64 (k : Int) ∧ Hid (∀ j (h : j < ss.length), j < k → ss[j] ≠ s)) (fun vi => ss.length - (intOf vi).toNat)
    case atStart => exact ⟨0, Nat.zero_le _, rfl, fun j h hj => by omega⟩
    case round =>
      obtain ⟨k, hk, rfl, hh⟩ := hrel
      by_cases hlt' : k < ss.length
      · have hcx := hc k hlt'
        obtain ⟨t, ht⟩ : ∃ t, t = ss[k] := ⟨_, rfl⟩
        rw [← ht] at hcx
        have HT : Hid (t = ss[k]) := ht
        have hki : (k : Int) < (ss.length : Int) := by omega
        clear hc ht
        go_wp2
        · have h1 : (t.toList == s.toList) = true := by assumption
          have e : t = s := bytes_eq_of_toList (by simpa using h1)
          have hm : s ∈ ss := by rw [← e, HT.out]; exact List.getElem_mem hlt'
          go_ret
          exact ⟨by rw [(hasS_iff ss s).2 hm]; rfl, rfl⟩
        · have h1 : (t.toList == s.toList) = false := by assumption
          have e : t ≠ s := fun e => by subst e; simp at h1
          go_round
          case rel => exact ⟨k + 1, by omega, by go_num, fun j h hj => (by
            by_cases ej : j = k
            · subst ej; rw [← HT.out]; exact e
            · exact hh.out j h (by omega))⟩
          case measure => simp [intOf]; omega
      · have he : k = ss.length := by omega
        subst he
        have hm : ¬ s ∈ ss := fun hm => by
          obtain ⟨j, hj, e⟩ := List.getElem_of_mem hm
          exact hh.out j hj hj e
        clear hc
        go_wp2
        go_ret
        exact ⟨by rw [hasS_not hm]; rfl, rfl⟩

theorem gt_iff (a b : ByteArray) : (!(Op.bytesLess a.toList b.toList || a.toList == b.toList)) = decide (bytesL b < bytesL a) := by
  rw [ByteArray.toList_eq, ByteArray.toList_eq, bytesLess_eq]
  show _ = decide (b.data.toList < a.data.toList)
  by_cases h : b.data.toList < a.data.toList
  · have h1 : ¬ a.data.toList < b.data.toList := fun k => ltL_irrefl _ (ltL_trans h k)
    have h2 : ¬ a.data = b.data := fun e => by rw [e] at h; exact ltL_irrefl _ h
    simp [h, h1, h2]
  · by_cases h1 : a.data.toList < b.data.toList
    · simp [h, h1]
    · have h2 : a.data.toList = b.data.toList := ltL_total h1 h
      simp [h2, ltL_irrefl]

theorem below_all {xs : List ByteArray} {t : ByteArray} {j : Nat} (hr : risesS xs) (hin : ¬ t ∈ xs) (hj : j ≤ xs.length) (h : j = 0 ∨ ∃ h0 : j - 1 < xs.length, ¬ bytesL t < bytesL xs[j - 1]) : ∀ i (hi : i < xs.length), i < j → bytesL xs[i] < bytesL t := by
  intro i hi hij
  rcases h with h | ⟨h0, h⟩
  · omega
  · have h1 : bytesL xs[j - 1] < bytesL t := by
      by_cases k : bytesL xs[j - 1] < bytesL t
      · exact k
      · have e := bytesL_inj (ltL_total h k)
        exact absurd (by rw [e]; exact List.getElem_mem h0) hin
    by_cases e : i = j - 1
    · subst e; exact h1
    · have hp := List.pairwise_iff_getElem.1 (show (xs.map bytesL).Pairwise (· < ·) from hr) i (j - 1) (by simpa using hi) (by simpa using h0) (by omega)
      simp at hp
      exact ltL_trans hp h1

theorem ins_cells {xs : List ByteArray} {t : ByteArray} {j : Nat} {ys : List Value} (hj : j ≤ xs.length) (hl : ys.length = xs.length + 1) (h1 : ∀ i, i < j → ys[i]? = (strsV xs)[i]?) (h2 : ∀ i, j < i → i ≤ xs.length → ys[i]? = (strsV xs)[i - 1]?) :
    ys.set j (.string t) = strsV (xs.take j ++ t :: xs.drop j) := by
  refine list_done (n := xs.length + 1) (by simp [hl]) (by simp; omega) (fun i hi => ?_)
  rw [List.getElem?_set]
  by_cases e : j = i
  · subst e
    rw [if_pos rfl, if_pos (by omega), strsV, List.getElem?_map, List.getElem?_append_right (by simp; omega)]
    simp [Nat.min_eq_left hj]
  · rw [if_neg e]
    by_cases k : i < j
    · rw [h1 i k, strsV, strsV, List.getElem?_map, List.getElem?_map, List.getElem?_append_left (by simp; omega), List.getElem?_take, if_pos k]
    · rw [h2 i (by omega) (by omega), strsV, strsV, List.getElem?_map, List.getElem?_map, List.getElem?_append_right (by simp; omega)]
      simp only [List.length_take, Nat.min_eq_left hj]
      rw [show i - j = (i - j - 1) + 1 by omega, List.getElem?_cons_succ, List.getElem?_drop, show j + (i - j - 1) = i - 1 by omega]

/-- What the inner loop holds on to. -/
def Shifted (xs : List ByteArray) (t : ByteArray) (j : Nat) (ys : List Value) : Prop :=
  ys.length = xs.length + 1 ∧ (∀ i, i < j → ys[i]? = (strsV xs)[i]?) ∧ (∀ i, j < i → i ≤ xs.length → ys[i]? = (strsV xs)[i - 1]?) ∧ ∀ i (h : i < xs.length), j ≤ i → bytesL t < bytesL xs[i]

theorem shifted_start (xs : List ByteArray) (t : ByteArray) : Shifted xs t xs.length (strsV (xs ++ [t])) := by
  refine ⟨by simp, fun i hi => ?_, fun i h1 h2 => by omega, fun i h1 h2 => by omega⟩
  rw [strsV, strsV, List.getElem?_map, List.getElem?_map, List.getElem?_append_left hi]
theorem shifted_step {xs : List ByteArray} {t : ByteArray} {j : Nat} {ys : List Value} (hj : 0 < j) (hjl : j - 1 < xs.length) (h : Shifted xs t j ys) (hg : bytesL t < bytesL xs[j - 1]) : Shifted xs t (j - 1) (ys.set j (.string xs[j - 1])) := by
  obtain ⟨h0, h1, h2, h3⟩ := h
  refine ⟨by simp [h0], fun i hi => ?_, fun i hi1 hi2 => ?_, fun i hi hji => ?_⟩
  · rw [List.getElem?_set, if_neg (by omega)]; exact h1 i (by omega)
  · rw [List.getElem?_set]
    by_cases e : j = i
    · subst e; rw [if_pos rfl, if_pos (by omega), strsV_at xs (j - 1) hjl]
    · rw [if_neg e]; exact h2 i (by omega) hi2
  · by_cases e : i = j - 1
    · subst e; exact hg
    · exact h3 i hi (by omega)

set_option maxHeartbeats 4000000 in
set_option maxRecDepth 100000 in
theorem specSorted_c (v : Value) (ss : List ByteArray) (w : World) (hv : Reads w v (strsV ss)) (hn : ss.length ≤ 1048576) :
    Calls Try.prog 42 #[v] w fun e w' => ∃ (u : Value) (ys : List ByteArray), e = .returned u ∧ w'.ownsRow w.heap.size 9 1 u ys.length (strsV ys) ∧ risesS ys ∧ (∀ x, x ∈ ys ↔ x ∈ ss) ∧ ys.length ≤ ss.length ∧ Below w.heap.size w w' := by
  obtain ⟨a, cap, rfl, _, hc⟩ := reads_strs hv
  clear hv
  obtain ⟨i0, hi, hz0, hz1, hz2⟩ := info_parts infoS
  have ho : (w.alloc (.cells #[] 9)).ownsRow w.heap.size 9 1 (.slice (some ⟨w.heap.size, 0, none⟩) 0 0) 0 [] := World.ownsRow_lit w #[] 0 (Nat.le_refl _) (by unfold maxLen; omega) rfl
  rcases hc with rfl | ⟨b, off, rfl, hlt, hc⟩
  · go_enter Try.func42, Try.ntmps42
    go_wp2
    go_loopw [3, 4] (fun vo vi wr => vo = .slice (some ⟨w.heap.size, 0, none⟩) 0 0 ∧ vi = .int .i64 0 ∧ wr = w.alloc (.cells #[] 9)) (fun _ _ _ => 0)
    case atStart => exact ⟨rfl, rfl, rfl⟩
    case round =>
      obtain ⟨rfl, rfl, hwr⟩ := hrel
      subst hwr
      go_wp2
      go_ret
      exact ⟨_, [], rfl, ho, List.Pairwise.nil, by simp, by simp, (Below.refl _ _).alloc (Nat.le_refl _) _⟩
  · go_enter Try.func42, Try.ntmps42
    go_wp2
    go_loopw [3, 4] (fun vo vi wr => ∃ (k : Nat) (xs : List ByteArray), k ≤ ss.length ∧ vi = .int .i64 (k : Int) ∧ xs.length ≤ k ∧ wr.ownsRow w.heap.size 9 1 vo xs.length (strsV xs) ∧ Hid (risesS xs) ∧ Hid (∀ x, x ∈ xs ↔ x ∈ ss.take k) ∧ Below w.heap.size w wr) (fun _ vi _ => ss.length - (intOf vi).toNat)
    case atStart => exact ⟨0, [], Nat.zero_le _, rfl, by simp, ho, List.Pairwise.nil, (by intro x; simp), (Below.refl _ _).alloc (Nat.le_refl _) _⟩
    case round =>
      obtain ⟨k, xs, hk, rfl, hxl, hown, hrs, hmem, hbr⟩ := hrel
      clear ho
      by_cases hlt' : k < ss.length
      · have hcx : wr.cell? ⟨b, off + k, none⟩ = some (.string ss[k]) := (hbr.cell (p := ⟨b, off + k, none⟩) hlt).trans (hc k hlt')
        have hki : (k : Int) < (ss.length : Int) := by omega
        have htk : ss.take (k + 1) = ss.take k ++ [ss[k]] := List.take_succ_eq_append_getElem hlt'
        obtain ⟨t, ht⟩ : ∃ t, t = ss[k] := ⟨_, rfl⟩
        rw [← ht] at hcx htk
        have HTK : Hid (ss.take (k + 1) = ss.take k ++ [t]) := htk
        clear hc ht htk
        by_cases hin : t ∈ xs
        · have hd := (hasS_iff xs t).2 hin
          have hm2 : Hid (∀ x, x ∈ xs ↔ x ∈ ss.take (k + 1)) := fun x => by
            rw [HTK.out, List.mem_append, ← hmem.out x]
            simp
            intro e; subst e; exact hin
          go_wp2_with (go_at_call 41; refine (has_c _ xs t _ (reads_of_owns hown) (by omega)).mono ?_; rintro e w1 ⟨rfl, rfl⟩)
          go_roundw
          case rel => exact ⟨k + 1, xs, by omega, by go_num, by omega, hown, hrs, hm2, hbr⟩
          case measure => simp [intOf]; omega
        · have hd := hasS_not hin
          go_wp2_with (first
            | (go_at_call 41; refine (has_c _ xs t _ (reads_of_owns hown) (by omega)).mono ?_; rintro e w1 ⟨rfl, rfl⟩)
            | (at_builtin; refine wpList_append_own _ rfl _ _ 26 rfl w.heap.size 9 i0 (.string ⟨#[]⟩) 1 16 Try.underlying26 hi hz0 hz1 hz2 rfl (by decide) _ xs.length (strsV xs) rfl (hown.alloc _) ⟨wr.heap.size, 0, none⟩ 1 1 (strsV [t]) rfl rfl (cell_one_new _ _ _) (fun u hu => by simp [strsV] at hu; subst hu; rfl) (by unfold maxLen; omega) (by omega) (by have := hbr.size; simp; omega) ?_))
          intro v2 w2 o2 gr2 hnil
          have hst : strsV xs ++ strsV [t] = strsV (xs ++ [t]) := by simp [strsV]
          rw [hst] at o2
          have hb2 : Below w.heap.size w w2 := Below.grown (hbr.alloc hbr.size _) gr2 (by have := hbr.size; simp; omega) (fun j hj => (hown.lt _ hj).1)
          have hcx2 : w2.cell? ⟨b, off + k, none⟩ = some (.string t) := by
            rw [hb2.cell (p := ⟨b, off + k, none⟩) hlt, ← hbr.cell (p := ⟨b, off + k, none⟩) hlt]; exact hcx
          have hex : ∃ g2 cap2, v2 = .slice (some ⟨g2, 0, none⟩) (xs.length + 1) cap2 := by
            rcases o2.2 with ⟨_, h0⟩ | ⟨g, cp, cur, hv, _⟩
            · omega
            · exact ⟨g, cp, hv⟩
          obtain ⟨g2, cap2, hv2⟩ := hex
          subst hv2
          have hgl : w.heap.size ≤ g2 := (o2.lt g2 rfl).1
          clear gr2 hnil hown hbr hcx hst hd
          go_wp2
          go_loopw [5] (fun vk wr => ∃ (j : Nat) (ys : List Value), j ≤ xs.length ∧ vk = .int .i64 (j : Int) ∧ wr.ownsRow w.heap.size 9 1 (.slice (some ⟨g2, 0, none⟩) (xs.length + 1) cap2) (xs.length + 1) ys ∧ Hid (Shifted xs t j ys) ∧ wr.cell? ⟨b, off + k, none⟩ = some (.string t) ∧ Below w.heap.size w wr) (fun vk _ => (intOf vk).toNat)
          case atStart => exact ⟨xs.length, _, Nat.le_refl _, by go_num, o2, shifted_start xs t, hcx2, hb2⟩
          case round =>
            clear o2 hcx2 hb2
            obtain ⟨j, ys, hj, rfl, hown, hsh, hcx, hbr⟩ := hrel
            have hjl : ys.length = xs.length + 1 := hsh.out.1
            have hcy : wr.cell? ⟨g2, j, none⟩ = some (ys.getD j undef) := by
              rw [hown.cellAt j (by omega)]; simp [List.getD_eq_getElem?_getD, show j < ys.length by omega]
            have hfr := hown.frozenAt j
            have hji : (j : Int) < (xs.length : Int) + 1 := by omega
            clear hjl
            by_cases hj0 : 0 < j
            · have hj1 : j - 1 < xs.length := by omega
              have hcz : wr.cell? ⟨g2, j - 1, none⟩ = some (.string xs[j - 1]) := by
                rw [hown.cellAt (j - 1) (by omega), hsh.out.2.1 (j - 1) (by omega), strsV_at xs (j - 1) hj1]
              have hgt := gt_iff xs[j - 1] t
              have hj0i : (0 : Int) < (j : Int) := by omega
              obtain ⟨u, hu⟩ : ∃ u, u = xs[j - 1] := ⟨_, rfl⟩
              rw [← hu] at hcz hgt
              have HU : Hid (u = xs[j - 1]) := hu
              by_cases hlt2 : bytesL t < bytesL u
              · rw [decide_eq_true hlt2] at hgt
                clear hu
                go_wp2
                go_quiet (fail)
                have hown' : (wr.drewN nq).ownsRow w.heap.size 9 1 (.slice (some ⟨g2, 0, none⟩) (xs.length + 1) cap2) (xs.length + 1) ys := hown
                have hbr' := below_drewN' hbr nq
                go_wp2
                go_roundw
                case rel =>
                  refine ⟨j - 1, ys.set j (.string u), by omega, by go_num, (hown'.stored j _).1, ?_, ?_, hbr'.setCell (p := ⟨g2, j, none⟩) hgl _⟩
                  · have h1 := HU.out
                    subst h1
                    exact shifted_step hj0 hj1 hsh.out hlt2
                  · rw [World.cell?_setCell_other _ _ _ _ (by intro e; injection e; omega)]; exact hcx
                case measure => simp [intOf]; omega
              · rw [decide_eq_false hlt2] at hgt
                clear hu
                go_wp2
                go_quiet (fail)
                have hins := ins_cells (t := t) hj hsh.out.1 hsh.out.2.1 hsh.out.2.2.1
                have hrise : Hid (risesS (xs.take j ++ t :: xs.drop j)) := rises_insert hj hrs.out (below_all hrs.out hin hj (.inr ⟨hj1, by rw [← HU.out]; exact hlt2⟩)) hsh.out.2.2.2
                have hm2 : Hid (∀ x, x ∈ xs.take j ++ t :: xs.drop j ↔ x ∈ ss.take (k + 1)) := fun x => by
                  rw [mem_insert, HTK.out, List.mem_append, ← hmem.out x]
                  simp
                  exact Or.comm
                have hlen : (xs.take j ++ t :: xs.drop j).length = xs.length + 1 := by simp; omega
                have hown' : (wr.drewN nq).ownsRow w.heap.size 9 1 (.slice (some ⟨g2, 0, none⟩) (xs.length + 1) cap2) (xs.length + 1) ys := hown
                have hbr' := below_drewN' hbr nq
                have o5 := (hown'.stored j (.string t)).1
                rw [hins, ← hlen] at o5
                have HL : Hid ((xs.take j ++ t :: xs.drop j).length = xs.length + 1) := hlen
                have O5 : Hid (((wr.drewN nq).setCell ⟨g2, j, none⟩ (.string t)).ownsRow w.heap.size 9 1 (.slice (some ⟨g2, 0, none⟩) (xs.length + 1) cap2) (xs.take j ++ t :: xs.drop j).length (strsV (xs.take j ++ t :: xs.drop j))) := by
                  have h6 := (hown'.stored j (.string t)).1
                  rw [hins] at h6
                  show World.ownsRow _ _ _ _ _ _ _
                  rw [hlen]; exact h6
                clear o5 hins hlen
                go_wp2
                go_roundw
                case rel => exact ⟨k + 1, xs.take j ++ t :: xs.drop j, by omega, by go_num, (by have := HL.out; omega), O5.out, hrise, hm2, hbr'.setCell (p := ⟨g2, j, none⟩) hgl _⟩
                case measure => simp [intOf]; omega
            · have hd1 : decide ((0 : Int) < (j : Int)) = false := by simp; omega
              have hd2 : decide (0 < j) = false := by simp; omega
              have HJ : Hid (j = 0) := by show _ = _; omega
              clear hj0
              go_wp2
              go_quiet (fail)
              have hins := ins_cells (t := t) hj hsh.out.1 hsh.out.2.1 hsh.out.2.2.1
              have hrise : Hid (risesS (xs.take j ++ t :: xs.drop j)) := rises_insert hj hrs.out (below_all hrs.out hin hj (.inl HJ.out)) hsh.out.2.2.2
              have hm2 : Hid (∀ x, x ∈ xs.take j ++ t :: xs.drop j ↔ x ∈ ss.take (k + 1)) := fun x => by
                rw [mem_insert, HTK.out, List.mem_append, ← hmem.out x]
                simp
                exact Or.comm
              have hlen : (xs.take j ++ t :: xs.drop j).length = xs.length + 1 := by simp; omega
              have hown' : (wr.drewN nq).ownsRow w.heap.size 9 1 (.slice (some ⟨g2, 0, none⟩) (xs.length + 1) cap2) (xs.length + 1) ys := hown
              have hbr' := below_drewN' hbr nq
              have o5 := (hown'.stored j (.string t)).1
              rw [hins, ← hlen] at o5
              have HL : Hid ((xs.take j ++ t :: xs.drop j).length = xs.length + 1) := hlen
              have O5 : Hid (((wr.drewN nq).setCell ⟨g2, j, none⟩ (.string t)).ownsRow w.heap.size 9 1 (.slice (some ⟨g2, 0, none⟩) (xs.length + 1) cap2) (xs.take j ++ t :: xs.drop j).length (strsV (xs.take j ++ t :: xs.drop j))) := by
                have h6 := (hown'.stored j (.string t)).1
                rw [hins] at h6
                show World.ownsRow _ _ _ _ _ _ _
                rw [hlen]; exact h6
              clear o5 hins hlen
              go_wp2
              go_roundw
              case rel => exact ⟨k + 1, xs.take j ++ t :: xs.drop j, by omega, by go_num, (by have := HL.out; omega), O5.out, hrise, hm2, hbr'.setCell (p := ⟨g2, j, none⟩) hgl _⟩
              case measure => simp [intOf]; omega
      · have he : k = ss.length := by omega
        subst he
        clear hc
        have hm2 := hmem.out
        rw [List.take_length] at hm2
        go_wp2
        go_ret
        exact ⟨_, xs, rfl, hown, hrs.out, hm2, hxl, hbr⟩
end Go.Proofs.Ytbhedlobiagngaa

/-! Who uses a pack, as the specification answers it: a contract for the walks; conditions: the row of packs lies in memory, and holds at most 2 to the 20. -/
namespace Go.Proofs.Ytbhedlobiagngaa
open Go.RowKit
set_option linter.unusedSimpArgs false
set_option linter.unusedVariables false

theorem owns_slG {w : World} {lo sz n : Nat} {e : TypeId} {v : Value} {xs : List Value} (h : w.ownsRow lo e sz v n xs) : ∃ q cap, v = .slice q n cap := by
  rcases h.2 with ⟨h1, h0⟩ | ⟨g, cap, cur, h1, _⟩
  · exact ⟨none, 0, by rw [h1, h0]⟩
  · exact ⟨_, _, h1⟩
/-- The names of the packs whose uses have a text, in their order. -/
def usersL (xs : List PackD) (s : ByteArray) : List ByteArray := (xs.filter fun d => hasS d.uses s).map (·.name)
theorem usersL_take (xs : List PackD) (s : ByteArray) (k : Nat) (h : k < xs.length) : usersL (xs.take (k + 1)) s = usersL (xs.take k) s ++ (if hasS xs[k].uses s = true then [xs[k].name] else []) := by
  unfold usersL
  rw [List.take_succ_eq_append_getElem h, List.filter_append, List.map_append]
  congr 1
  by_cases e : hasS xs[k].uses s = true
  · rw [if_pos e, List.filter_cons_of_pos (by simpa using e)]; rfl
  · rw [if_neg e, List.filter_cons_of_neg (by simpa using e)]; rfl
theorem usersL_len (xs : List PackD) (s : ByteArray) : (usersL xs s).length ≤ xs.length := by
  unfold usersL
  rw [List.length_map]
  exact List.length_filter_le _ _
theorem usersL_takeLen (xs : List PackD) (s : ByteArray) (k : Nat) : (usersL (xs.take k) s).length ≤ k := by
  have := usersL_len (xs.take k) s
  have h2 : (xs.take k).length ≤ k := by rw [List.length_take]; omega
  omega
theorem mem_usersL {xs : List PackD} {s x : ByteArray} : x ∈ usersL xs s ↔ ∃ d ∈ xs, s ∈ d.uses ∧ d.name = x := by
  unfold usersL
  rw [List.mem_map]
  constructor
  · rintro ⟨d, hd, rfl⟩
    obtain ⟨h1, h2⟩ := List.mem_filter.1 hd
    exact ⟨d, h1, (hasS_iff _ _).1 h2, rfl⟩
  · rintro ⟨d, h1, h2, rfl⟩
    exact ⟨d, List.mem_filter.2 ⟨h1, (hasS_iff _ _).2 h2⟩, rfl⟩

set_option maxHeartbeats 4000000 in
set_option maxRecDepth 100000 in
theorem specUsedBy_c (S : Nat → Prop) (v : Value) (xs : List PackD) (s : ByteArray) (w : World) (hv : RowIn shPack S w v xs) (hB : ∀ b, S b → b < w.heap.size) (hw : wtRow wtPack xs ≤ 1048576) :
    Calls Try.prog 17 #[v, .string s] w fun e w' => ∃ (u : Value) (ys : List ByteArray), e = .returned u ∧ w'.ownsRow w.heap.size 9 1 u ys.length (strsV ys) ∧ risesS ys ∧ (∀ x, x ∈ ys ↔ x ∈ usersL xs s) ∧ ys.length ≤ xs.length ∧ Below w.heap.size w w' := by
  have hl2 := len_wtRow wtPack xs
  have hlen : xs.length ≤ 1048576 := by omega
  have hwe : ∀ d ∈ xs, d.uses.length ≤ 1048576 := fun d hd => by
    have h1 := Nat.le_trans (wt_wtRow wtPack hd) hw
    unfold wtPack bulkS at h1
    omega
  clear hl2 hw
  obtain ⟨i0, hi, hz0, hz1, hz2⟩ := info_parts infoS
  have ho : (w.alloc (.cells #[] 9)).ownsRow w.heap.size 9 1 (.slice (some ⟨w.heap.size, 0, none⟩) 0 0) 0 [] := World.ownsRow_lit w #[] 0 (Nat.le_refl _) (by unfold maxLen; omega) rfl
  obtain ⟨a, cap, rfl, hl, hc, ha⟩ := hv
  unfold maxLen at hl
  go_enter Try.func17, Try.ntmps17
  go_wp2_with fail
  go_loopw [5, 6] (fun vo vi wr => ∃ (k : Nat) (ys : List ByteArray), k ≤ xs.length ∧ vi = .int .i64 (k : Int) ∧ Hid (ys = usersL (xs.take k) s) ∧ ys.length ≤ k ∧ wr.ownsRow w.heap.size 9 1 vo ys.length (strsV ys) ∧ Below w.heap.size w wr) (fun _ vi _ => xs.length - (intOf vi).toNat)
  case atStart => exact ⟨0, [], Nat.zero_le _, rfl, rfl, Nat.le_refl _, ho, (Below.refl _ _).alloc (Nat.le_refl _) _⟩
  case round =>
    obtain ⟨k, ys, hk, rfl, hys, hyk, hown, hbr⟩ := hrel
    clear ho
    obtain ⟨qo, co, hvo⟩ := owns_slG hown
    subst hvo
    by_cases hlt' : k < xs.length
    · rcases ha with rfl | ⟨b, off, rfl, hlt, ha⟩
      · simp at hlt'
      obtain ⟨cs, hL, hcell⟩ := ha k hlt'
      have hBr : ∀ b, S b → b < wr.heap.size := fun b h => Nat.lt_of_lt_of_le (hB b h) hbr.size
      have hcell2 := hcell.keep (.of hbr hB) hlt
      replace hL := shPack.keep (.of hbr hB) hL
      have HT := hidden (usersL_take xs s k hlt')
      have hul := hwe xs[k] (List.getElem_mem hlt')
      rw [← hys.out] at HT
      obtain ⟨d, hd⟩ : ∃ d, d = xs[k] := ⟨_, rfl⟩
      rw [← hd] at hL HT hul
      obtain ⟨u0, u1, u2, rfl, _, r0, p0, _⟩ := hL
      have r1 := r0.reads hBr
      have HC := hidden (has_c u0 d.uses s wr r1 (by omega))
      obtain ⟨a0, c0, eu0, _⟩ := id r0
      rw [length_strsV] at eu0
      subst eu0
      have e0 : wr.cell? ⟨b, off + k * 4, none⟩ = some (.string d.name) := hcell2 0 (by simp)
      have e1 : wr.cell? ⟨b, off + k * 4 + 1, none⟩ = some (.slice a0 d.uses.length c0) := hcell2 1 (by simp)
      have hki : (k : Int) < (xs.length : Int) := by omega
      obtain ⟨t, ht⟩ : ∃ t, t = d.name := ⟨_, rfl⟩
      rw [← ht] at e0 HT
      obtain ⟨r, hr⟩ : ∃ r, r = hasS d.uses s := ⟨_, rfl⟩
      rw [← hr] at HC HT
      clear ha hd ht hr hcell hcell2 r0 r1 p0
      cases r with
      | true =>
        have HT2 : Hid (usersL (xs.take (k + 1)) s = ys ++ [t]) := HT.out
        clear HT
        go_wp2_with (first
          | (go_at_call 41; refine HC.out.mono ?_; rintro e w1 ⟨rfl, rfl⟩)
          | (at_builtin; refine wpList_append_own _ rfl _ _ 26 rfl w.heap.size 9 i0 (.string ⟨#[]⟩) 1 16 Try.underlying26 hi hz0 hz1 hz2 rfl (by decide) _ ys.length (strsV ys) rfl (hown.alloc _) ⟨wr.heap.size, 0, none⟩ 1 1 (strsV [t]) rfl rfl (cell_one_new _ _ _) (fun u hu => by simp [strsV] at hu; subst hu; rfl) (by unfold maxLen; omega) (by omega) (by have := hbr.size; simp; omega) ?_))
        intro v2 w2 o2 gr2 hnil
        have hst : strsV ys ++ strsV [t] = strsV (ys ++ [t]) := by simp [strsV]
        rw [hst] at o2
        have hb2 : Below w.heap.size w w2 := Below.grown (hbr.alloc hbr.size _) gr2 (by have := hbr.size; simp; omega) (fun j hj => (hown.lt _ hj).1)
        clear gr2 hnil hown hbr hst e0 e1
        go_wp2_with fail
        go_roundw
        case rel => exact ⟨k + 1, ys ++ [t], by omega, by go_num, HT2.out.symm, by simp; omega, by simpa using o2, hb2⟩
        case measure => simp [intOf]; omega
      | false =>
        have HT2 := hidden (show usersL (xs.take (k + 1)) s = ys by rw [HT.out]; simp)
        clear HT
        go_wp2_with (go_at_call 41; refine HC.out.mono ?_; rintro e w1 ⟨rfl, rfl⟩)
        go_roundw
        case rel => exact ⟨k + 1, ys, by omega, by go_num, HT2.out.symm, by omega, hown, hbr⟩
        case measure => simp [intOf]; omega
    · have he : k = xs.length := by omega
      subst he
      have HE := hidden (show ys = usersL xs s by rw [hys.out, List.take_length])
      have HS := hidden (specSorted_c (.slice qo ys.length co) ys wr (reads_of_owns hown) (by omega))
      clear ha hys
      go_wp2_with (go_at_call 42; refine HS.out.mono ?_; rintro e w1 ⟨u, zs, rfl, o1, hr1, hm1, hl1, b1⟩)
      go_ret
      exact ⟨u, zs, rfl, owns_lo hbr.size o1, hr1, fun x => by rw [hm1 x, HE.out], by omega, hbr.trans (b1.mono hbr.size)⟩
end Go.Proofs.Ytbhedlobiagngaa

/-! Graphs of names that lie in memory, the place of a name, and what it leads to, as the specification has them: contracts for the walks; conditions: the graph lies in memory. -/
namespace Go.Proofs.Ytbhedlobiagngaa
open Go.RowKit
set_option linter.unusedSimpArgs false
set_option linter.unusedVariables false

/-- A list of texts as an element of a row. -/
def shSS : Sh (List ByteArray) where
  n := 1
  lies S w cs ss := ∃ u, cs = [u] ∧ StrsOwn S w u ss ∧ ss.length ≤ 1048576
  keep hk h := by obtain ⟨u, h0, h1, h2⟩ := h; exact ⟨u, h0, h1.keep hk, h2⟩
  mono hS h := by obtain ⟨u, h0, h1, h2⟩ := h; exact ⟨u, h0, h1.mono hS, h2⟩
/-- Names, and of each what it leads to. -/
structure GrIn (S : Nat → Prop) (w : World) (vn vx : Value) (ns : List ByteArray) (nx : List (List ByteArray)) : Prop where
  names : RdB S w vn (strsV ns)
  next : RowIn shSS S w vx nx
  len : nx.length = ns.length
  few : ns.length ≤ 1048577
theorem GrIn.keep {S : Nat → Prop} {w w' : World} {vn vx : Value} {ns : List ByteArray} {nx : List (List ByteArray)} (hk : Kp S w w') (h : GrIn S w vn vx ns nx) : GrIn S w' vn vx ns nx := ⟨h.names.keep hk, h.next.keep hk, h.len, h.few⟩
theorem GrIn.mono {S S' : Nat → Prop} {w : World} {vn vx : Value} {ns : List ByteArray} {nx : List (List ByteArray)} (hS : ∀ b, S b → S' b) (h : GrIn S w vn vx ns nx) : GrIn S' w vn vx ns nx := ⟨h.names.mono hS, h.next.mono hS, h.len, h.few⟩
/-- The first place of a name, or -1. -/
def idxS (ns : List ByteArray) (s : ByteArray) : Int := if ns.findIdx (fun d => decide (d = s)) < ns.length then (ns.findIdx (fun d => decide (d = s)) : Int) else -1
theorem idxS_here {ns : List ByteArray} {s : ByteArray} {k : Nat} (h : k < ns.length) (hy : ns[k] = s) (hn : ∀ j (hj : j < ns.length), j < k → ¬ ns[j] = s) : idxS ns s = (k : Int) := by
  have e : ns.findIdx (fun d => decide (d = s)) = k := by
    rw [List.findIdx_eq h]
    exact ⟨by simpa using hy, fun j hj => by simpa using hn j (by omega) hj⟩
  unfold idxS
  rw [e, if_pos h]
theorem idxS_none {ns : List ByteArray} {s : ByteArray} (hn : ∀ j (hj : j < ns.length), ¬ ns[j] = s) : idxS ns s = -1 := by
  have e : ns.findIdx (fun d => decide (d = s)) = ns.length := by
    rw [List.findIdx_eq_length]
    intro x hx
    obtain ⟨j, hj, rfl⟩ := List.mem_iff_getElem.1 hx
    simpa using hn j hj
  unfold idxS
  rw [e, if_neg (by omega)]
theorem idxS_cases (ns : List ByteArray) (s : ByteArray) : idxS ns s = -1 ∨ ∃ k : Nat, k < ns.length ∧ idxS ns s = (k : Int) := by
  unfold idxS
  by_cases h : ns.findIdx (fun d => decide (d = s)) < ns.length
  · rw [if_pos h]; exact .inr ⟨_, h, rfl⟩
  · rw [if_neg h]; exact .inl rfl
/-- What a name leads to. -/
def nextS (ns : List ByteArray) (nx : List (List ByteArray)) (s : ByteArray) : List ByteArray := if idxS ns s < 0 then [] else (nx[(idxS ns s).toNat]?).getD []

set_option maxHeartbeats 2000000 in
set_option maxRecDepth 100000 in
theorem l11At_c (S : Nat → Prop) (vn vx : Value) (ns : List ByteArray) (s : ByteArray) (w : World) (hv : RdB S w vn (strsV ns)) (hx : ∃ q n c, vx = .slice q n c) (hB : ∀ b, S b → b < w.heap.size) (hn : ns.length ≤ 1048577) :
    Calls Try.prog 48 #[.agg #[vn, vx], .string s] w fun e w' => e = .returned (.int .i64 (idxS ns s)) ∧ Below w.heap.size w w' := by
  obtain ⟨q, n, c, rfl⟩ := hx
  obtain ⟨a, cap, eu, hc, ha⟩ := hv
  rw [length_strsV] at eu
  subst eu
  obtain ⟨R, hR⟩ : ∃ R, R = idxS ns s := ⟨_, rfl⟩
  rw [← hR]
  have HR := hidden hR
  clear hR
  have c0 : (w.alloc (.cells #[.slice a ns.length cap, .slice q n c] 78)).cell? ⟨w.heap.size, 0, none⟩ = some (.slice a ns.length cap) := by rw [vblk_cell (vheap_new _ _)]; rfl
  have b0 : Below w.heap.size w (w.alloc (.cells #[.slice a ns.length cap, .slice q n c] 78)) := (Below.refl _ _).alloc (Nat.le_refl _) _
  go_enter Try.func48, Try.ntmps48
  go_wp2_with fail
  go_loopw [5] (fun vi wr => ∃ k : Nat, k ≤ ns.length ∧ vi = .int .i64 (k : Int) ∧ Hid (∀ j (hj : j < ns.length), j < k → ¬ ns[j] = s) ∧ wr.cell? ⟨w.heap.size, 0, none⟩ = some (.slice a ns.length cap) ∧ Below w.heap.size w wr) (fun vi _ => ns.length - (intOf vi).toNat)
  case atStart => exact ⟨0, Nat.zero_le _, rfl, (fun j hj h => by omega), c0, b0⟩
  case round =>
    obtain ⟨k, hk, rfl, hno, hcb, hbr⟩ := hrel
    clear c0 b0
    by_cases hlt' : k < ns.length
    · rcases ha with ha | ⟨b, off, rfl, hlt, ha⟩
      · have := congrArg List.length ha; rw [length_strsV] at this; simp at this; rw [this] at hlt'; simp at hlt'
      have e0 : wr.cell? ⟨b, off + k, none⟩ = some (.string ns[k]) := by
        rw [hbr.cell (p := ⟨b, off + k, none⟩) (hB b hlt), ha k (by rw [length_strsV]; exact hlt')]
        simp [strsV]
      have HT : Hid (ns[k] = s → R = (k : Int)) := fun h => HR.out.trans (idxS_here hlt' h hno.out)
      have HN : Hid (¬ ns[k] = s → ∀ j (hj : j < ns.length), j < k + 1 → ¬ ns[j] = s) := fun h j hj hjk => by
        by_cases e : j = k
        · subst e; exact h
        · exact hno.out j hj (by omega)
      have hki : (k : Int) < (ns.length : Int) := by omega
      obtain ⟨t, ht⟩ : ∃ t, t = ns[k] := ⟨_, rfl⟩
      rw [← ht] at e0 HT HN
      have hal := name_alike t s
      clear ha ht hno HR
      by_cases hts : t = s
      · have hq : (t.toList == s.toList) = true := by rw [hal]; simpa using hts
        have HT2 := hidden (HT.out hts)
        clear HT HN hts hal
        go_wp2_with fail
        go_ret
        exact ⟨by rw [HT2.out]; rfl, hbr⟩
      · have hq : (t.toList == s.toList) = false := by rw [hal]; simpa using hts
        have HN2 := hidden (HN.out hts)
        clear HT HN hts hal
        go_wp2_with fail
        go_roundw
        case rel => exact ⟨k + 1, by omega, by go_num, HN2.out, hcb, hbr⟩
        case measure => simp [intOf]; omega
    · have he : k = ns.length := by omega
      subst he
      have HE : Hid (R = -1) := HR.out.trans (idxS_none (fun j hj => hno.out j hj hj))
      clear ha hno HR
      go_wp2_with fail
      go_ret
      exact ⟨by rw [HE.out]; rfl, hbr⟩

set_option maxHeartbeats 2000000 in
set_option maxRecDepth 100000 in
theorem l11Next_c (S : Nat → Prop) (vn vx : Value) (ns : List ByteArray) (nx : List (List ByteArray)) (s : ByteArray) (w : World) (hg : GrIn S w vn vx ns nx) (hB : ∀ b, S b → b < w.heap.size) :
    Calls Try.prog 74 #[.agg #[vn, vx], .string s] w fun e w' => ∃ u, e = .returned u ∧ StrsOwn (fun b => S b ∨ Ow w.heap.size w'.heap.size b) w' u (nextS ns nx s) ∧ (nextS ns nx s).length ≤ 1048576 ∧ Below w.heap.size w w' := by
  have hlen := hidden hg.len
  obtain ⟨ax, cx, hvx, hlx, hcx, hax⟩ := id hg.next
  obtain ⟨an, cn, hvn, hcn, han⟩ := id hg.names
  rw [length_strsV] at hvn
  have b0 : ∀ o, Below w.heap.size w (w.alloc o) := fun o => (Below.refl _ _).alloc (Nat.le_refl _) o
  have HA := hidden (fun o => l11At_c S vn vx ns s (w.alloc o) (hg.names.keep (.of (b0 o) hB)) ⟨_, _, _, hvx⟩ (fun b h => Nat.lt_of_lt_of_le (hB b h) (b0 o).size) hg.few)
  subst hvn hvx
  have c1 : (w.alloc (.cells #[.slice an ns.length cn, .slice ax nx.length cx] 78)).cell? ⟨w.heap.size, 0, none⟩ = some (.slice an ns.length cn) := by rw [vblk_cell (vheap_new _ _)]; rfl
  have c2 : (w.alloc (.cells #[.slice an ns.length cn, .slice ax nx.length cx] 78)).cell? ⟨w.heap.size, 1, none⟩ = some (.slice ax nx.length cx) := by rw [vblk_cell (vheap_new _ _)]; rfl
  obtain ⟨R, hR⟩ : ∃ R, R = idxS ns s := ⟨_, rfl⟩
  have HN := hidden (show nextS ns nx s = if R < 0 then [] else (nx[R.toNat]?).getD [] by rw [hR]; rfl)
  have hcs := idxS_cases ns s
  rw [← hR] at HA hcs
  clear hR han hcn hg hlx hcx
  rcases hcs with rfl | ⟨k, hk, rfl⟩
  · go_enter Try.func74, Try.ntmps74
    go_wp2_with (go_at_call 48; refine (HA.out _).mono ?_; rintro e w1 ⟨rfl, b1⟩)
    go_ret
    have hb1 : Below w.heap.size w w1 := (b0 _).trans (b1.mono (b0 _).size)
    refine ⟨_, rfl, ?_, by rw [HN.out]; simp, hb1.alloc hb1.size _⟩
    rw [HN.out]
    exact ⟨owns_lo (Nat.zero_le _) (World.ownsRow_lit w1 #[] 0 (Nat.le_refl _) (by unfold maxLen; omega) rfl), fun g hg => .inr (by
      obtain rfl : w1.heap.size = g := Option.some.inj hg
      exact ⟨hb1.size, by simp⟩)⟩
  · have hkx : k < nx.length := by have := hlen.out; omega
    clear hlen hk
    rcases hax with hax | ⟨b, off, rfl, hlt, hax⟩
    · rw [hax] at hkx; simp at hkx
    obtain ⟨cs, ⟨u, rfl, hu, hul⟩, hcell⟩ := hax k hkx
    have hcu : w.cell? ⟨b, off + k, none⟩ = some u := by have := hcell 0 (by simp); simpa [shSS] using this
    have HN2 := hidden (show nextS ns nx s = nx[k] by rw [HN.out, if_neg (by omega)]; simp [hkx])
    have hcu2 : ∀ w1, Below w.heap.size w w1 → w1.cell? ⟨b, off + k, none⟩ = some u := fun w1 h => (h.cell (p := ⟨b, off + k, none⟩) (hB b hlt)).trans hcu
    have HCU := hidden hcu2
    have HU := hidden (show ∀ w1, Below w.heap.size w w1 → StrsOwn S w1 u nx[k] from fun w1 h => hu.keep (.of h hB))
    obtain ⟨au, cu, eu⟩ := owns_slG hu.1
    subst eu
    have hki : (k : Int) < (nx.length : Int) := by omega
    clear hcell hax hcu hcu2 hu HN
    go_enter Try.func74, Try.ntmps74
    go_wp2_with (go_at_call 48; refine (HA.out _).mono ?_; rintro e w1 ⟨rfl, b1⟩; have hb1 : Below w.heap.size w w1 := (b0 _).trans (b1.mono (b0 _).size); have c3 := (b1.cell (p := ⟨w.heap.size, 1, none⟩) (by simp)).trans c2; have c4 := HCU.out w1 hb1)
    go_ret
    refine ⟨_, rfl, ?_, by rw [HN2.out]; exact hul, hb1⟩
    rw [HN2.out]
    exact (HU.out w1 hb1).mono (fun b h => .inl h)
end Go.Proofs.Ytbhedlobiagngaa

/-! Appending to a row that may be written, told with the block where the new row lies: laws for the walks; conditions as each says. -/
namespace Go.Proofs.Ytbhedlobiagngaa
open Go.RowKit
set_option linter.unusedSimpArgs false
set_option linter.unusedVariables false

theorem append_blk {P : Program} (w : World) (base : Nat) (t ty e : TypeId) (i : TypeInfo) (z : Value) (size bytes : Nat) (ht : P.underlying t = some (.slice e)) (hi : P.info? e = some i) (hz : i.zero = some z)
    (hsize : i.size = size) (hby : i.bytes = bytes) (hzs : z.cells.size = size) (hsz : 0 < size)
    (g n cap : Nat) (xs : List Value) (hown : w.ownsRow base e size (.slice (some ⟨g, 0, none⟩) n cap) n xs)
    (a : Addr) (m c : Nat) (news : List Value) (hl : news.length = m * size) (hnews : ∀ j u, news[j]? = some u → w.cell? (a.add j) = some u) (h1 : ∀ u ∈ news, u.oneCell' = true)
    (h63 : n + m ≤ maxLen) (hbytes : (n + m) * bytes ≤ 140737488355328) (v' : Value) (w' : World)
    (hr : (Builtin.append_ #[t, t] ty #[.slice (some ⟨g, 0, none⟩) n cap, .slice (some a) m c]).run P w = .ok v' w') : v'.ownBlock = some g ∨ v'.ownBlock = some w.heap.size := by
  subst hsize
  subst hby
  have hsmall : n + m ≤ 9223372036854775807 := by simp only [maxLen] at h63; omega
  rcases id hown.2 with ⟨h, _⟩ | ⟨g', cap', cur, hv, hbg, hg, hnc, hcm, hcs, htake⟩
  · cases h
  · injection hv with e1 e2 e3
    obtain rfl : g = g' := by injection Option.some.inj e1
    subst e3
    by_cases hroom : n + m ≤ cap
    · have hfit : n * i.size + news.length ≤ cur.size := by rw [hl, hcs, ← Nat.add_mul]; exact Nat.mul_le_mul_right _ hroom
      have h := run_append_room (P := P) w t ty e i ht hi g n cap cur hg a m c news hl hnews h1 hroom hfit
      rw [hr] at h
      obtain ⟨rfl, _⟩ := (Result.ok.injEq ..).mp h
      exact .inl rfl
    · have h := run_append_grow (P := P) w t ty e i z ht hi hz ⟨g, 0, none⟩ n cap xs hown.1 (hown.cells (g := g) rfl) a m c news hl hnews (by omega) (by omega) (growslice_fits (by omega) hbytes)
      rw [hr] at h
      obtain ⟨rfl, _⟩ := (Result.ok.injEq ..).mp h
      exact .inr rfl
theorem apA {P : Program} {w : World} {ops : Array Oper} {rest : List Oper} {o : Oper} {a : Act} {Q : Exit → Act → World → Prop} (hgd : o.guard = none) (s x : Operand) (t : TypeId)
    (ho : o.op = .call { callee := .builtin .append, args := #[s, x], argTypes := #[t, t] })
    (base : Nat) (e : TypeId) (i : TypeInfo) (z : Value) (size bytes : Nat) (ht : P.underlying t = some (.slice e)) (hi : P.info? e = some i) (hz : i.zero = some z)
    (hsize : i.size = size) (hby : i.bytes = bytes) (hzs : z.cells.size = size) (hsz : 0 < size)
    (g n cap : Nat) (xs : List Value) (hs : a.eval s = .slice (some ⟨g, 0, none⟩) n cap) (hown : w.ownsRow base e size (.slice (some ⟨g, 0, none⟩) n cap) n xs)
    (ad : Addr) (m c : Nat) (news : List Value) (hx : a.eval x = .slice (some ad) m c) (hl : news.length = m * size) (hnews : ∀ j u, news[j]? = some u → w.cell? (ad.add j) = some u) (h1 : ∀ u ∈ news, u.oneCell' = true)
    (h63 : n + m ≤ maxLen) (hbytes : (n + m) * bytes ≤ 140737488355328) (hbase : base ≤ w.heap.size)
    (h : ∀ v' w', w'.ownsRow base e size v' (n + m) (xs ++ news) → w.grownBy w' (some g) → (v'.ownBlock = some g ∨ v'.ownBlock = some w.heap.size) → wpList P ops Q rest (a.put o.dst v') w') : wpList P ops Q (o :: rest) a w :=
  wpList_plain hgd fun K hK => by
    obtain ⟨v', w', hr, h2, h3, _⟩ := run_append_own (P := P) w base t o.type e i z size bytes ht hi hz hsize hby hzs hsz _ n xs hown ad m c news hl hnews h1 h63 hbytes hbase
    have h4 := append_blk w base t o.type e i z size bytes ht hi hz hsize hby hzs hsz g n cap xs hown ad m c news hl hnews h1 h63 hbytes v' w' hr
    unfold Oper.wp execOp
    simp only [ho, resolve, invoke, builtin, Sem.run_bind, Sem.run_pure, Result.andThen_ok, List.map_toArray, List.map_cons, List.map_nil, hs, hx, hr]
    exact hK _ _ (h v' w' h2 h3 h4)
theorem addr_addZ (g j : Nat) : (⟨g, 0, none⟩ : Addr).add j = ⟨g, j, none⟩ := by unfold Addr.add; split <;> simp_all
theorem apR {P : Program} {w : World} {ops : Array Oper} {rest : List Oper} {o : Oper} {a : Act} {Q : Exit → Act → World → Prop} (hgd : o.guard = none) (s x : Operand) (t : TypeId)
    (ho : o.op = .call { callee := .builtin .append, args := #[s, x], argTypes := #[t, t] })
    (base : Nat) (e : TypeId) (i : TypeInfo) (z : Value) (size bytes : Nat) (ht : P.underlying t = some (.slice e)) (hi : P.info? e = some i) (hz : i.zero = some z)
    (hsize : i.size = size) (hby : i.bytes = bytes) (hzs : z.cells.size = size) (hsz : 0 < size)
    (g n cap : Nat) (xs : List Value) (hs : a.eval s = .slice (some ⟨g, 0, none⟩) n cap) (hown : w.ownsRow base e size (.slice (some ⟨g, 0, none⟩) n cap) n xs)
    (u : Value) (m lo : Nat) (news : List Value) (hx : a.eval x = u) (hsrc : w.ownsRow lo e size u m news) (h1 : ∀ u ∈ news, u.oneCell' = true)
    (h63 : n + m ≤ maxLen) (hbytes : (n + m) * bytes ≤ 140737488355328) (hbase : base ≤ w.heap.size)
    (h : ∀ v' w', w'.ownsRow base e size v' (n + m) (xs ++ news) → w.grownBy w' (some g) → (v'.ownBlock = some g ∨ v'.ownBlock = some w.heap.size) → wpList P ops Q rest (a.put o.dst v') w') : wpList P ops Q (o :: rest) a w := by
  rcases id hsrc.2 with ⟨rfl, rfl⟩ | ⟨gs, caps, cur, rfl, hgl, hgb, hcap, hmax, _⟩
  · have hn : news = [] := List.eq_nil_of_length_eq_zero (by rw [hsrc.1]; omega)
    subst hn
    refine wpList_plain hgd fun K hK => ?_
    have hrun := run_append_owned_none (P := P) (w := w) base t o.type e i size ht hi _ n xs hown
    unfold Oper.wp
    simp [execOp, ho, resolve, invoke, builtin, hs, hx, hrun, Result.andThen]
    refine hK _ _ (h _ w ?_ (World.grownBy.refl _ _) (.inl rfl))
    rw [Nat.add_zero, List.append_nil]
    exact hown
  · refine apA hgd s x t ho base e i z size bytes ht hi hz hsize hby hzs hsz g n cap xs hs hown ⟨gs, 0, none⟩ m caps news hx hsrc.1 (fun j u hu => ?_) h1 h63 hbytes hbase h
    rw [addr_addZ, hsrc.cellAt j (by rw [← hsrc.1]; exact (List.getElem?_eq_some_iff.1 hu).1)]
    exact hu
end Go.Proofs.Ytbhedlobiagngaa

/-! The program's graph of packs in memory: names, numbers by names, lists of numbers that each lie in a block of their own; what an append, a store and a new block leave of it: laws for the walks; conditions as each says. -/
namespace Go.Proofs.Ytbhedlobiagngaa
open Go.RowKit
set_option linter.unusedSimpArgs false
set_option linter.unusedVariables false

/-- An append, told with where the new row lies: where the old one was, or in a new block. -/
theorem append_loc {P : Program} (w : World) (base : Nat) (t ty e : TypeId) (i : TypeInfo) (z : Value) (size bytes : Nat) (ht : P.underlying t = some (.slice e)) (hi : P.info? e = some i) (hz : i.zero = some z)
    (hsize : i.size = size) (hby : i.bytes = bytes) (hzs : z.cells.size = size) (hsz : 0 < size) (v : Value) (n : Nat) (xs : List Value) (hown : w.ownsRow base e size v n xs)
    (a : Addr) (m c : Nat) (news : List Value) (hl : news.length = m * size) (hnews : ∀ j u, news[j]? = some u → w.cell? (a.add j) = some u) (h1 : ∀ u ∈ news, u.oneCell' = true)
    (h63 : n + m ≤ maxLen) (hbytes : (n + m) * bytes ≤ 140737488355328) (v' : Value) (w' : World)
    (hr : (Builtin.append_ #[t, t] ty #[v, .slice (some a) m c]).run P w = .ok v' w') : ∀ g, v'.ownBlock = some g → v.ownBlock = some g ∨ w.heap.size ≤ g := by
  intro g hg
  rcases id hown.2 with ⟨rfl, rfl⟩ | ⟨g', cap', cur, rfl, _⟩
  · have hx : xs = [] := List.eq_nil_of_length_eq_zero (by rw [hown.1]; omega)
    subst hx
    obtain ⟨v2, w2, hr2, ho2, _, _⟩ := run_append_own (P := P) w w.heap.size t ty e i z size bytes ht hi hz hsize hby hzs hsz _ 0 [] (World.ownsRow_nil w _ e size) a m c news hl hnews h1 h63 hbytes (Nat.le_refl _)
    rw [hr] at hr2
    obtain ⟨rfl, rfl⟩ := (Result.ok.injEq ..).mp hr2
    exact .inr (ho2.lt g hg).1
  · rcases append_blk w base t ty e i z size bytes ht hi hz hsize hby hzs hsz g' n cap' xs hown a m c news hl hnews h1 h63 hbytes v' w' hr with h | h
    · rw [h] at hg; exact .inl (by rw [← hg]; rfl)
    · rw [h] at hg; exact .inr (by have := Option.some.inj hg; omega)
/-- The same, at an operation that comes up. -/
theorem wp_append_loc {P : Program} {w : World} {o : Oper} {a : Act} {K : Act → World → Prop} {Q : Exit → Act → World → Prop} (s x : Operand) (t : TypeId)
    (ho : o.op = .call { callee := .builtin .append, args := #[s, x], argTypes := #[t, t] })
    (base : Nat) (e : TypeId) (i : TypeInfo) (z : Value) (size bytes : Nat) (ht : P.underlying t = some (.slice e)) (hi : P.info? e = some i) (hz : i.zero = some z)
    (hsize : i.size = size) (hby : i.bytes = bytes) (hzs : z.cells.size = size) (hsz : 0 < size)
    (v : Value) (n : Nat) (xs : List Value) (hs : a.eval s = v) (hown : w.ownsRow base e size v n xs)
    (ad : Addr) (m c : Nat) (news : List Value) (hx : a.eval x = .slice (some ad) m c) (hl : news.length = m * size) (hnews : ∀ j u, news[j]? = some u → w.cell? (ad.add j) = some u) (h1 : ∀ u ∈ news, u.oneCell' = true)
    (h63 : n + m ≤ maxLen) (hbytes : (n + m) * bytes ≤ 140737488355328) (hbase : base ≤ w.heap.size)
    (h : ∀ v' w', w'.ownsRow base e size v' (n + m) (xs ++ news) → w.grownBy w' v.ownBlock → (∀ g, v'.ownBlock = some g → v.ownBlock = some g ∨ w.heap.size ≤ g) → K (a.put o.dst v') w') : o.wp P a w K Q := by
  obtain ⟨v', w', hr, h2, h3, _⟩ := run_append_own (P := P) w base t o.type e i z size bytes ht hi hz hsize hby hzs hsz v n xs hown ad m c news hl hnews h1 h63 hbytes hbase
  have h4 := append_loc w base t o.type e i z size bytes ht hi hz hsize hby hzs hsz v n xs hown ad m c news hl hnews h1 h63 hbytes v' w' hr
  unfold Oper.wp execOp
  simp only [ho, resolve, invoke, builtin, Sem.run_bind, Sem.run_pure, Result.andThen_ok, List.map_toArray, List.map_cons, List.map_nil, hs, hx, hr]
  exact h v' w' h2 h3 h4

/-- Numbers as values. -/
def intsV (l : List Nat) : List Value := l.map fun (n : Nat) => .int .i64 (n : Int)
@[simp] theorem length_intsV (l : List Nat) : (intsV l).length = l.length := by simp [intsV]
theorem intsV_app (l : List Nat) (n : Nat) : intsV (l ++ [n]) = intsV l ++ [.int .i64 (n : Int)] := by simp [intsV]
theorem intsV_at {l : List Nat} {j : Nat} (h : j < l.length) : (intsV l)[j]? = some (.int .i64 (l[j] : Int)) := by simp [intsV, h]
theorem infoI : (Try.prog.info? 3).map (fun i => (i.zero, i.size, i.bytes)) = some (some (.int .i64 0), 1, 8) := by kernel_rfl
theorem infoIs : (Try.prog.info? 59).map (fun i => (i.zero, i.size, i.bytes)) = some (some (.slice none 0 0), 1, 24) := by kernel_rfl
theorem rows_apart {w : World} {lo lo' sz sz' n n' : Nat} {e e' : TypeId} {v v' : Value} {xs xs' : List Value} (h : w.ownsRow lo e sz v n xs) (h' : w.ownsRow lo' e' sz' v' n' xs') (he : e ≠ e') {g : Nat} (hg : v.ownBlock = some g) : v'.ownBlock ≠ some g := fun hg' => by
  rcases h.2 with ⟨rfl, _⟩ | ⟨g1, _, _, rfl, _, hh, _⟩
  · cases hg
  rcases h'.2 with ⟨rfl, _⟩ | ⟨g2, _, _, rfl, _, hh', _⟩
  · cases hg'
  obtain rfl : g1 = g := Option.some.inj hg
  obtain rfl : g2 = g1 := Option.some.inj hg'
  rw [hh] at hh'
  simp at hh'
  exact he hh'.2
theorem row_block {w : World} {lo sz n : Nat} {e : TypeId} {v : Value} {xs : List Value} (h : w.ownsRow lo e sz v n xs) {g : Nat} (hg : v.ownBlock = some g) : ∃ cur, w.heap[g]? = some (.cells cur e (0, 0)) := by
  rcases h.2 with ⟨rfl, _⟩ | ⟨g1, _, cur, rfl, _, hh, _⟩
  · cases hg
  obtain rfl : g1 = g := Option.some.inj hg
  exact ⟨cur, hh⟩
/-- What numbers a map holds. -/
noncomputable def mOf (N : List ByteArray) (s : ByteArray) : Option Value := open Classical in if s ∈ N then some (.int .i64 (posN N s : Int)) else none
/-- Blocks that are lists' own: none of two. -/
structure ApartL (us bs : List Value) : Prop where
  uu : ∀ (i j g : Nat) (u v : Value), us[i]? = some u → us[j]? = some v → u.ownBlock = some g → v.ownBlock = some g → i = j
  bb : ∀ (i j g : Nat) (u v : Value), bs[i]? = some u → bs[j]? = some v → u.ownBlock = some g → v.ownBlock = some g → i = j
  ub : ∀ (i j g : Nat) (u v : Value), us[i]? = some u → bs[j]? = some v → u.ownBlock = some g → v.ownBlock ≠ some g
/-- The graph in memory: its map, its names, its lists of lists; 'xa', 'xb': places that are left out. -/
structure GrC (lo : Nat) (w : World) (mb : Nat) (vn vu vb : Value) (us bs : List Value) (M N : List ByteArray) (U B : List (List Nat)) (xa xb : Nat → Prop) : Prop where
  map : ∃ s, MapI w mb M.length s (mOf M)
  mlo : lo ≤ mb
  names : w.ownsRow lo 9 1 vn N.length (strsV N)
  ru : w.ownsRow lo 59 1 vu U.length us
  rb : w.ownsRow lo 59 1 vb B.length bs
  eu : ∀ i u, ¬ xa i → us[i]? = some u → w.ownsRow lo 3 1 u (rowAt U i).length (intsV (rowAt U i))
  eb : ∀ i u, ¬ xb i → bs[i]? = some u → w.ownsRow lo 3 1 u (rowAt B i).length (intsV (rowAt B i))
  vv : ∀ g, vu.ownBlock = some g → vb.ownBlock ≠ some g
  ap : ApartL us bs
  ltu : ∀ (i g : Nat) (u : Value), us[i]? = some u → u.ownBlock = some g → g < w.heap.size
  ltb : ∀ (i g : Nat) (u : Value), bs[i]? = some u → u.ownBlock = some g → g < w.heap.size
theorem block_ne {w : World} {g : Nat} {cur : Array Value} {t : TypeId} {fz : Nat × Nat} {es : _} {c : _} (h : w.heap[g]? = some (.cells cur t fz)) (h' : w.heap[g]? = some (.map es c)) : False := by rw [h] at h'; cases h'
section
variable {lo : Nat} {w w' : World} {mb : Nat} {vn vu vb : Value} {us bs : List Value} {M N : List ByteArray} {U B : List (List Nat)} {xa xb : Nat → Prop}
/-- What changes one block that is none of the graph's leaves it as it is. -/
theorem GrC.kept {r : Option Nat} (h : GrC lo w mb vn vu vb us bs M N U B xa xb) (hg : w.grownBy w' r) (h1 : r ≠ some mb) (h2 : vn.ownBlock = none ∨ vn.ownBlock ≠ r) (h3 : vu.ownBlock = none ∨ vu.ownBlock ≠ r) (h4 : vb.ownBlock = none ∨ vb.ownBlock ≠ r)
    (h5 : ∀ (i : Nat) (u : Value), ¬ xa i → us[i]? = some u → u.ownBlock = none ∨ u.ownBlock ≠ r) (h6 : ∀ (i : Nat) (u : Value), ¬ xb i → bs[i]? = some u → u.ownBlock = none ∨ u.ownBlock ≠ r) : GrC lo w' mb vn vu vb us bs M N U B xa xb :=
  ⟨h.map.imp fun s hs => hs.kept hg h1, h.mlo, h.names.kept hg h2, h.ru.kept hg h3, h.rb.kept hg h4, fun i u hx hi => (h.eu i u hx hi).kept hg (h5 i u hx hi), fun i u hx hi => (h.eb i u hx hi).kept hg (h6 i u hx hi), h.vv, h.ap, fun i g u hu hb => Nat.lt_of_lt_of_le (h.ltu i g u hu hb) hg.size, fun i g u hu hb => Nat.lt_of_lt_of_le (h.ltb i g u hu hb) hg.size⟩
/-- .. a block of another type than any of the graph's. -/
theorem GrC.other {q : Nat} {cs : Array Value} {t : TypeId} {fz : Nat × Nat} (h : GrC lo w mb vn vu vb us bs M N U B xa xb) (hg : w.grownBy w' (some q)) (hq : w.heap[q]? = some (.cells cs t fz)) (ht : t ≠ 9 ∧ t ≠ 59 ∧ t ≠ 3) : GrC lo w' mb vn vu vb us bs M N U B xa xb := by
  have hr : ∀ {l sz n : Nat} {e : TypeId} {v : Value} {xs : List Value}, w.ownsRow l e sz v n xs → t ≠ e → v.ownBlock = none ∨ v.ownBlock ≠ some q := fun h he => .inr fun e => by
    obtain ⟨cur, hc⟩ := row_block h e
    rw [hq] at hc
    simp at hc
    exact he hc.2.1
  refine h.kept hg (fun e => ?_) (hr h.names ht.1) (hr h.ru ht.2.1) (hr h.rb ht.2.1) (fun i u hx hi => hr (h.eu i u hx hi) ht.2.2) (fun i u hx hi => hr (h.eb i u hx hi) ht.2.2)
  obtain ⟨s, hm⟩ := h.map
  obtain ⟨es, c, hh⟩ := hm.heap
  obtain rfl : q = mb := Option.some.inj e
  exact block_ne hq hh
/-- .. a new block. -/
theorem GrC.new {r : Option Nat} (h : GrC lo w mb vn vu vb us bs M N U B xa xb) (hg : w.grownBy w' r) (hq : ∀ q, r = some q → w.heap.size ≤ q) : GrC lo w' mb vn vu vb us bs M N U B xa xb := by
  have hr : ∀ {l sz n : Nat} {e : TypeId} {v : Value} {xs : List Value}, w.ownsRow l e sz v n xs → v.ownBlock = none ∨ v.ownBlock ≠ r := fun {l sz n e v xs} h => by
    cases hv : v.ownBlock with
    | none => exact .inl rfl
    | some g => exact .inr fun e => by have := (h.lt g hv).2; have := hq g e.symm; omega
  refine h.kept hg (fun e => ?_) (hr h.names) (hr h.ru) (hr h.rb) (fun i u hx hi => hr (h.eu i u hx hi)) (fun i u hx hi => hr (h.eb i u hx hi))
  obtain ⟨s, hm⟩ := h.map
  have := hm.lt
  have := hq _ e
  omega
/-- A name more. -/
theorem GrC.addN {v' : Value} {s : ByteArray} (h : GrC lo w mb vn vu vb us bs M N U B xa xb) (o : w'.ownsRow lo 9 1 v' (N.length + 1) (strsV N ++ strsV [s])) (gr : w.grownBy w' vn.ownBlock) : GrC lo w' mb v' vu vb us bs M (N ++ [s]) U B xa xb := by
  have hr : ∀ {l sz n : Nat} {e : TypeId} {v : Value} {xs : List Value}, w.ownsRow l e sz v n xs → 9 ≠ e → v.ownBlock = none ∨ v.ownBlock ≠ vn.ownBlock := fun {l sz n e v xs} hv he => by
    cases hq : v.ownBlock with
    | none => exact .inl rfl
    | some g => exact .inr fun e => rows_apart hv h.names (fun e' => he e'.symm) hq e.symm
  have hm : vn.ownBlock ≠ some mb := fun e => by
    obtain ⟨s, hm⟩ := h.map
    obtain ⟨es, c, hh⟩ := hm.heap
    obtain ⟨cur, hc⟩ := row_block h.names e
    exact block_ne hc hh
  refine ⟨h.map.imp fun s hs => hs.kept gr hm, h.mlo, ?_, h.ru.kept gr (hr h.ru (by decide)), h.rb.kept gr (hr h.rb (by decide)), fun i u hx hi => (h.eu i u hx hi).kept gr (hr (h.eu i u hx hi) (by decide)), fun i u hx hi => (h.eb i u hx hi).kept gr (hr (h.eb i u hx hi) (by decide)), h.vv, h.ap, fun i g u hu hb => Nat.lt_of_lt_of_le (h.ltu i g u hu hb) gr.size, fun i g u hu hb => Nat.lt_of_lt_of_le (h.ltb i g u hu hb) gr.size⟩
  rw [List.length_append, List.length_singleton]
  have : strsV (N ++ [s]) = strsV N ++ strsV [s] := by simp [strsV]
  rw [this]
  exact o
theorem GrC.swap (h : GrC lo w mb vn vu vb us bs M N U B xa xb) : GrC lo w mb vn vb vu bs us M N B U xb xa :=
  ⟨h.map, h.mlo, h.names, h.rb, h.ru, h.eb, h.eu, fun g hb hu => h.vv g hu hb, ⟨h.ap.bb, h.ap.uu, fun i j g u v hu hv h1 h2 => h.ap.ub j i g v u hv hu h2 h1⟩, h.ltb, h.ltu⟩
theorem GrC.len_u (h : GrC lo w mb vn vu vb us bs M N U B xa xb) : us.length = U.length := by have := h.ru.1; omega
theorem GrC.len_b (h : GrC lo w mb vn vu vb us bs M N U B xa xb) : bs.length = B.length := by have := h.rb.1; omega
theorem at_snoc {us : List Value} {i : Nat} {u x : Value} (h : (us ++ [x])[i]? = some u) : us[i]? = some u ∨ (i = us.length ∧ u = x) := by
  rcases Nat.lt_trichotomy i us.length with hl | hl | hl
  · rw [List.getElem?_append_left hl] at h; exact .inl h
  · subst hl; simp at h; exact .inr ⟨rfl, h.symm⟩
  · rw [List.getElem?_eq_none (by simp; omega)] at h; cases h
theorem GrC.ne_map {lo' sz n : Nat} {e : TypeId} {v : Value} {xs : List Value} (h : GrC lo w mb vn vu vb us bs M N U B xa xb) (hv : w.ownsRow lo' e sz v n xs) : v.ownBlock ≠ some mb := fun e => by
  obtain ⟨s, hm⟩ := h.map
  obtain ⟨es, c, hh⟩ := hm.heap
  obtain ⟨cur, hc⟩ := row_block hv e
  exact block_ne hc hh
theorem apart_r {lo1 lo2 sz1 sz2 n1 n2 : Nat} {e1 e2 : TypeId} {v1 v2 : Value} {xs1 xs2 : List Value} (h1 : w.ownsRow lo1 e1 sz1 v1 n1 xs1) (h2 : w.ownsRow lo2 e2 sz2 v2 n2 xs2) (he : e1 ≠ e2) : v1.ownBlock = none ∨ v1.ownBlock ≠ v2.ownBlock := by
  cases hq : v1.ownBlock with
  | none => exact .inl rfl
  | some g => exact .inr fun e => rows_apart h1 h2 he hq e.symm
/-- A list more, empty. -/
theorem GrC.addU {v' : Value} (h : GrC lo w mb vn vu vb us bs M N U B xa xb) (hx : ¬ xa U.length) (o : w'.ownsRow lo 59 1 v' (U.length + 1) (us ++ [.slice none 0 0])) (gr : w.grownBy w' vu.ownBlock) (hl : ∀ g, v'.ownBlock = some g → vu.ownBlock = some g ∨ w.heap.size ≤ g) : GrC lo w' mb vn v' vb (us ++ [.slice none 0 0]) bs M N (U ++ [[]]) B xa xb := by
  refine ⟨h.map.imp fun s hs => hs.kept gr (h.ne_map h.ru), h.mlo, h.names.kept gr (apart_r h.names h.ru (by decide)), by rw [List.length_append, List.length_singleton]; exact o, h.rb.kept gr ?_, fun i u hx hi => ?_, fun i u hx hi => (h.eb i u hx hi).kept gr (apart_r (h.eb i u hx hi) h.ru (by decide)), fun g hg hb => ?_, ⟨fun i j g u v hu hv h1 h2 => ?_, h.ap.bb, fun i j g u v hu hv h1 => ?_⟩, fun i g u hu hb => ?_, fun i g u hu hb => Nat.lt_of_lt_of_le (h.ltb i g u hu hb) gr.size⟩
  · cases hq : vb.ownBlock with
    | none => exact .inl rfl
    | some g => exact .inr fun e => h.vv g e.symm hq
  · rw [rowAt_app]
    rcases at_snoc hi with hi | ⟨hi', rfl⟩
    · exact (h.eu i u hx hi).kept gr (apart_r (h.eu i u hx hi) h.ru (by decide))
    · rw [rowAt_out (by have := h.len_u; omega)]
      exact World.ownsRow_nil _ _ _ _
  · rcases hl g hg with hg | hg
    · exact h.vv g hg hb
    · have := (h.rb.lt g hb).2; omega
  · rcases at_snoc hu with hu | ⟨_, rfl⟩
    · rcases at_snoc hv with hv | ⟨_, rfl⟩
      · exact h.ap.uu i j g u v hu hv h1 h2
      · cases h2
    · cases h1
  · rcases at_snoc hu with hu | ⟨_, rfl⟩
    · exact h.ap.ub i j g u v hu hv h1
    · cases h1
  · rcases at_snoc hu with hu | ⟨_, rfl⟩
    · exact Nat.lt_of_lt_of_le (h.ltu i g u hu hb) gr.size
    · cases hb
theorem GrC.addB {v' : Value} (h : GrC lo w mb vn vu vb us bs M N U B xa xb) (hx : ¬ xb B.length) (o : w'.ownsRow lo 59 1 v' (B.length + 1) (bs ++ [.slice none 0 0])) (gr : w.grownBy w' vb.ownBlock) (hl : ∀ g, v'.ownBlock = some g → vb.ownBlock = some g ∨ w.heap.size ≤ g) : GrC lo w' mb vn vu v' us (bs ++ [.slice none 0 0]) M N U (B ++ [[]]) xa xb := (h.swap.addU hx o gr hl).swap
/-- A list that is left out, and what is done to its block. -/
theorem GrC.out {a : Nat} {u : Value} {n : Nat} {xs : List Value} (h : GrC lo w mb vn vu vb us bs M N U B xa xb) (hu : us[a]? = some u) (hr : w.ownsRow lo 3 1 u n xs) (gr : w.grownBy w' u.ownBlock) : GrC lo w' mb vn vu vb us bs M N U B (fun i => xa i ∨ i = a) xb := by
  refine ⟨h.map.imp fun s hs => hs.kept gr (h.ne_map hr), h.mlo, h.names.kept gr (apart_r h.names hr (by decide)), h.ru.kept gr (apart_r h.ru hr (by decide)), h.rb.kept gr (apart_r h.rb hr (by decide)), fun i v hx hi => (h.eu i v (fun e => hx (.inl e)) hi).kept gr ?_, fun i v hx hi => (h.eb i v hx hi).kept gr ?_, h.vv, h.ap, fun i g u hu hb => Nat.lt_of_lt_of_le (h.ltu i g u hu hb) gr.size, fun i g u hu hb => Nat.lt_of_lt_of_le (h.ltb i g u hu hb) gr.size⟩
  · cases hq : v.ownBlock with
    | none => exact .inl rfl
    | some g => exact .inr fun e => hx (.inr (h.ap.uu i a g v u hi hu hq e.symm))
  · cases hq : v.ownBlock with
    | none => exact .inl rfl
    | some g => exact .inr fun e => h.ap.ub a i g u v hu hi e.symm hq
theorem at_set {us : List Value} {a i : Nat} {u x : Value} (h : (us.set a x)[i]? = some u) : (i ≠ a ∧ us[i]? = some u) ∨ (i = a ∧ u = x) := by
  by_cases e : i = a
  · subst e
    by_cases hl : i < us.length
    · rw [List.getElem?_set_self hl] at h; exact .inr ⟨rfl, (Option.some.inj h).symm⟩
    · rw [List.getElem?_eq_none (by simp; omega)] at h; cases h
  · rw [List.getElem?_set_ne (fun e' => e e'.symm)] at h; exact .inl ⟨e, h⟩
theorem grown_set (w : World) (g j : Nat) (v : Value) : w.grownBy (w.setCell ⟨g, j, none⟩ v) (some g) := by
  have h : Kp (· ≠ g) w (w.setCell ⟨g, j, none⟩ v) := Kp.set (by simp)
  exact ⟨rfl, rfl, rfl, by simp [World.setCell], fun k _ hk => h k (fun e => hk (by rw [e]))⟩
/-- The list is stored. -/
theorem GrC.fill {a x gg cap : Nat} {u' : Value} (h : GrC lo w mb vn (.slice (some ⟨gg, 0, none⟩) U.length cap) vb us bs M N U B xa xb) (ha : a < U.length) (hxa : ∀ i, xa i → i = a) (hu : w.ownsRow lo 3 1 u' ((rowAt U a).length + 1) (intsV (rowAt U a ++ [x])))
    (c1 : ∀ (j g : Nat) (u : Value), j ≠ a → us[j]? = some u → u.ownBlock = some g → u'.ownBlock ≠ some g) (c2 : ∀ (j g : Nat) (u : Value), bs[j]? = some u → u.ownBlock = some g → u'.ownBlock ≠ some g) :
    GrC lo (w.setCell ⟨gg, a, none⟩ u') mb vn (.slice (some ⟨gg, 0, none⟩) U.length cap) vb (us.set a u') bs M N (putAt U a x) B (fun _ => False) xb := by
  obtain ⟨o, gr⟩ := h.ru.stored a u'
  have hsz : (w.setCell ⟨gg, a, none⟩ u').heap.size = w.heap.size := by simp [World.setCell]
  have hr := rowAt_put U a x
  refine ⟨h.map.imp fun s hs => hs.kept gr (h.ne_map h.ru), h.mlo, h.names.kept gr (apart_r h.names h.ru (by decide)), by rw [putAt_len]; exact o, h.rb.kept gr ?_, fun i v hx hi => ?_, fun i v hx hi => (h.eb i v hx hi).kept gr (apart_r (h.eb i v hx hi) h.ru (by decide)), h.vv, ⟨fun i j g u v hu hv h1 h2 => ?_, h.ap.bb, fun i j g u v hu hv h1 => ?_⟩, fun i g v hv hb => ?_, fun i g v hv hb => by rw [hsz]; exact h.ltb i g v hv hb⟩
  · cases hq : vb.ownBlock with
    | none => exact .inl rfl
    | some g => exact .inr fun e => h.vv g e.symm hq
  · rw [hr i ha]
    rcases at_set hi with ⟨hne, hi⟩ | ⟨rfl, rfl⟩
    · rw [if_neg (fun e => hne e.symm)]
      have hi2 := h.eu i v (fun e => hne (hxa i e)) hi
      exact hi2.kept gr (apart_r hi2 h.ru (by decide))
    · rw [if_pos rfl, List.length_append, List.length_singleton]
      exact hu.kept gr (apart_r hu h.ru (by decide))
  · rcases at_set hu with ⟨hne, hu9⟩ | ⟨e9, e8⟩ <;> rcases at_set hv with ⟨hne2, hv9⟩ | ⟨e7, e6⟩
    · exact h.ap.uu i j g u v hu9 hv9 h1 h2
    · subst e6; exact (c1 i g u hne hu9 h1 h2).elim
    · subst e8; exact (c1 j g v hne2 hv9 h2 h1).elim
    · rw [e9, e7]
  · rcases at_set hu with ⟨hne, hu⟩ | ⟨rfl, rfl⟩
    · exact h.ap.ub i j g u v hu hv h1
    · exact fun h2 => c2 j g v hv h2 h1
  · rw [hsz]
    rcases at_set hv with ⟨hne, hv⟩ | ⟨rfl, rfl⟩
    · exact h.ltu i g v hv hb
    · exact (hu.lt g hb).2
theorem GrC.weak {xa' xb' : Nat → Prop} (h : GrC lo w mb vn vu vb us bs M N U B xa xb) (h1 : ∀ i, xa i → xa' i) (h2 : ∀ i, xb i → xb' i) : GrC lo w mb vn vu vb us bs M N U B xa' xb' :=
  ⟨h.map, h.mlo, h.names, h.ru, h.rb, fun i u hx hi => h.eu i u (fun e => hx (h1 i e)) hi, fun i u hx hi => h.eb i u (fun e => hx (h2 i e)) hi, h.vv, h.ap, h.ltu, h.ltb⟩
end
end Go.Proofs.Ytbhedlobiagngaa

/-! A drawn region whose last operations write what the first ones read: what reads may be taken first where a condition on the world holds until a certain operation has come up, and that operation waits for what reads: laws for the walks; conditions as each says. -/
namespace Go.Proofs.Ytbhedlobiagngaa
open Go.RowKit
set_option linter.unusedSimpArgs false
set_option linter.unusedVariables false

section
variable {P : Program} {ops : Array Oper} {Q : Exit → Act → World → Prop} {md : Region.Mode} {S : World → Prop} {stop : Nat}

/-- Whatever order is picked: until number 'stop' has come up, S holds behind each operation. -/
def Till (P : Program) (md : Region.Mode) (ops : Array Oper) (Q : Exit → Act → World → Prop) (S : World → Prop) (stop : Nat) : Nat → Array Bool → Act → World → Prop
  | 0, l, a, w => Region.ready md ops l = [] ∧ Q .normal a w
  | k + 1, l, a, w => (Region.ready md ops l = [] → Q .normal a w) ∧ ∀ i ∈ Region.ready md ops l, wpOp P ops Q i (fun a' w' => ((l.setIfInBounds i true).getD stop true = false → S w') ∧ Till P md ops Q S stop k (l.setIfInBounds i true) a' w') a w
theorem till_any : ∀ (k : Nat) (l : Array Bool) (a : Act) (w : World), Till P md ops Q S stop k l a w → wpAny P md ops Q k l a w
  | 0, _, _, _, h => h
  | k + 1, _, _, _, h => ⟨h.1, fun i hi => wpOp_mono (fun a' w' h' => till_any k _ a' w' h'.2) (h.2 i hi)⟩
/-- Does one operation wait for another? -/
def waitsB (md : Region.Mode) (ops : Array Oper) (j i : Nat) : Bool := (ops[j]?).all fun o => o.after.any fun e => Region.binds md e && e.on == i
theorem waits_of {i j : Nat} (h : waitsB md ops j i = true) {o : Oper} (ho : ops[j]? = some o) : ∃ e ∈ o.after, Region.binds md e = true ∧ e.on = i := by
  unfold waitsB at h
  rw [ho] at h
  simp only [Option.all_some, Array.any_eq_true] at h
  obtain ⟨n, hn, hb⟩ := h
  simp only [Bool.and_eq_true, beq_iff_eq] at hb
  exact ⟨_, Array.getElem_mem hn, hb.1, hb.2⟩
theorem till_first {i : Nat} {oi : Oper} {v : Value} (hi : ops[i]? = some oi) (hsel : ∀ (j : Nat) (o : Oper) cs b, ops[j]? = some o → o.op ≠ .select cs b) (hQ : ∀ c a w, Q (.panic c) (a.put oi.dst v) w → Q (.panic c) a w) (hne : i ≠ stop) (hwt : waitsB md ops stop i = true) :
    ∀ (k : Nat) (l : Array Bool) (a : Act) (w : World), (∀ j oj, ops[j]? = some oj → j ≠ i → l.getD j true = false → (∀ e ∈ oj.after, Region.binds md e = true → e.on ≠ i) → oi.apart ops oj = true) →
      i ∈ Region.ready md ops l → YieldsIf P ops S oi v a → l.getD stop true = false → S w → Till P md ops Q S stop k (l.setIfInBounds i true) (a.put oi.dst v) w → Till P md ops Q S stop (k + 1) l a w := by
  have none_ready : ∀ {l : Array Bool}, i ∈ Region.ready md ops l → Region.ready md ops l = [] → False := fun h e => by rw [e] at h; cases h
  intro k
  induction k with
  | zero =>
    intro l a w _ hr hy _ hS H
    refine ⟨fun e => (none_ready hr e).elim, fun j hj => ?_⟩
    by_cases e : j = i
    · subst e; exact hy.wpOp hi hS ⟨fun _ => hS, H⟩
    · have := ready_mono hj e
      rw [H.1] at this
      cases this
  | succ k ih =>
    intro l a w hap hr hy hst hS H
    refine ⟨fun e => (none_ready hr e).elim, fun j hj => ?_⟩
    by_cases e : j = i
    · subst e; exact hy.wpOp hi hS ⟨fun _ => hS, H⟩
    obtain ⟨hju, oj, hoj, hall⟩ := mem_ready.1 hj
    have hno : ∀ d ∈ oj.after, Region.binds md d = true → d.on ≠ i := fun d hd hb he => by
      have a1 := hall d hd hb
      have a0 := (mem_ready.1 hr).1
      rw [he] at a1
      by_cases hl : i < l.size
      · simp [hl] at a0 a1; rw [a0] at a1; cases a1
      · simp [Array.getElem?_eq_none (Nat.le_of_not_lt hl)] at a1
    have hjs : j ≠ stop := fun hjs => by
      subst hjs
      obtain ⟨d, hd, hb, he⟩ := waits_of hwt hoj
      exact hno d hd hb he
    have hst2 : ((l.setIfInBounds i true).setIfInBounds j true).getD stop true = false := by rw [getD_set_ne true hjs, getD_set_ne true hne]; exact hst
    have hst3 : (l.setIfInBounds j true).getD stop true = false := by rw [getD_set_ne true hjs]; exact hst
    refine wpOp_mono (fun a' w' h3 => ?_) (wpOp_putIf hoj (hap j oj hoj e hju hno) (fun cs b => hsel i oi cs b hi) (fun cs b => hsel j oj cs b hoj) hQ hy (H.2 j (ready_mono hj e)))
    obtain ⟨h4, h5, h6⟩ := h3
    refine ⟨fun _ => h5 hst2, ih _ a' w' (fun n on hn hni hun hw => hap n on hn hni ?_ hw) (ready_mono hr (Ne.symm e)) h4 hst3 (h5 hst2) (by rw [Array.setIfInBounds_comm _ _ e]; exact h6)⟩
    by_cases hjn : j = n
    · subst hjn; exact hju
    · rw [getD_set_ne true hjn] at hun; exact hun
/-- Take number i first. -/
theorem tu (i : Nat) {oi : Oper} {v : Value} {k : Nat} {l l' : Array Bool} {a a' : Act} {w : World} (hS : S w)
    (hi : ops[i]? = some oi := by rfl) (hs : Region.noSelect ops = true := by kernel_rfl) (hf : Region.free md ops l i = true := by kernel_rfl) (hr : (Region.ready md ops l).contains i = true := by kernel_rfl) (hne : i ≠ stop := by decide) (hwt : waitsB md ops stop i = true := by kernel_rfl) (hst : l.getD stop true = false := by kernel_rfl)
    (hQ : ∀ c a w, Q (.panic c) (a.put oi.dst v) w → Q (.panic c) a w := by exact fun _ _ _ h => h) (hy : YieldsIf P ops S oi v a := by exact Or.inl ⟨by rfl, by (intro w hSw; (try dsimp only at hSw); go_simp <;> with_reducible rfl)⟩)
    (hl : l.setIfInBounds i true = l' := by (try simp only [List.setIfInBounds_toArray, List.set_cons_zero, List.set_cons_succ]); with_reducible rfl)
    (ha : a.put oi.dst v = a' := by (try simp only [Act.put, List.getElem_toArray, List.getElem_cons_zero, List.getElem_cons_succ, List.setIfInBounds_toArray, List.set_cons_zero, List.set_cons_succ]); with_reducible rfl)
    (h : Till P md ops Q S stop k l' a' w) : Till P md ops Q S stop (k + 1) l a w := till_first hi (Region.noSelect_spec hs) hQ hne hwt k l a w (Region.free_spec hi hf) (by simpa using hr) hy hst hS (by rw [hl, ha]; exact h)
theorem till_firstV {i : Nat} {oi : Oper} {v : Value} (hi : ops[i]? = some oi) (hsel : ∀ (j : Nat) (o : Oper) cs b, ops[j]? = some o → o.op ≠ .select cs b) (hQ : ∀ c a w, Q (.panic c) (a.put oi.dst v) w → Q (.panic c) a w) (hne : i ≠ stop) :
    ∀ (k : Nat) (l : Array Bool) (a : Act) (w : World), (∀ j oj, ops[j]? = some oj → j ≠ i → l.getD j true = false → (∀ e ∈ oj.after, Region.binds md e = true → e.on ≠ i) → oi.apart ops oj = true) →
      i ∈ Region.ready md ops l → YieldsIf P ops (fun _ => True) oi v a → (l.getD stop true = false → S w) → Till P md ops Q S stop k (l.setIfInBounds i true) (a.put oi.dst v) w → Till P md ops Q S stop (k + 1) l a w := by
  have none_ready : ∀ {l : Array Bool}, i ∈ Region.ready md ops l → Region.ready md ops l = [] → False := fun h e => by rw [e] at h; cases h
  have hst : ∀ (l : Array Bool) (j : Nat), ((l.setIfInBounds i true).setIfInBounds j true).getD stop true = (l.setIfInBounds j true).getD stop true := fun l j => by
    by_cases e : j = i
    · subst e; simp only [getD_set_ne true hne]
    · rw [Array.setIfInBounds_comm _ _ (fun e' => e e'.symm), getD_set_ne true hne]
  intro k
  induction k with
  | zero =>
    intro l a w _ hr hy hS H
    refine ⟨fun e => (none_ready hr e).elim, fun j hj => ?_⟩
    by_cases e : j = i
    · subst e; exact hy.wpOp hi trivial ⟨fun h => hS (by rw [getD_set_ne true hne] at h; exact h), H⟩
    · have := ready_mono hj e
      rw [H.1] at this
      cases this
  | succ k ih =>
    intro l a w hap hr hy hS H
    refine ⟨fun e => (none_ready hr e).elim, fun j hj => ?_⟩
    by_cases e : j = i
    · subst e; exact hy.wpOp hi trivial ⟨fun h => hS (by rw [getD_set_ne true hne] at h; exact h), H⟩
    obtain ⟨hju, oj, hoj, hall⟩ := mem_ready.1 hj
    have hno : ∀ d ∈ oj.after, Region.binds md d = true → d.on ≠ i := fun d hd hb he => by
      have a1 := hall d hd hb
      have a0 := (mem_ready.1 hr).1
      rw [he] at a1
      by_cases hl : i < l.size
      · simp [hl] at a0 a1; rw [a0] at a1; cases a1
      · simp [Array.getElem?_eq_none (Nat.le_of_not_lt hl)] at a1
    refine wpOp_mono (fun a' w' h3 => ?_) (wpOp_putIf hoj (hap j oj hoj e hju hno) (fun cs b => hsel i oi cs b hi) (fun cs b => hsel j oj cs b hoj) hQ hy (H.2 j (ready_mono hj e)))
    obtain ⟨h4, h5, h6⟩ := h3
    rw [hst] at h5
    refine ⟨h5, ih _ a' w' (fun n on hn hni hun hw => hap n on hn hni ?_ hw) (ready_mono hr (Ne.symm e)) h4 h5 (by rw [Array.setIfInBounds_comm _ _ e]; exact h6)⟩
    by_cases hjn : j = n
    · subst hjn; exact hju
    · rw [getD_set_ne true hjn] at hun; exact hun
/-- Take number i first: what it yields hangs on no world. -/
theorem tv (i : Nat) {oi : Oper} {v : Value} {k : Nat} {l l' : Array Bool} {a a' : Act} {w : World} (hS : S w)
    (hi : ops[i]? = some oi := by rfl) (hs : Region.noSelect ops = true := by kernel_rfl) (hf : Region.free md ops l i = true := by kernel_rfl) (hr : (Region.ready md ops l).contains i = true := by kernel_rfl) (hne : i ≠ stop := by decide)
    (hQ : ∀ c a w, Q (.panic c) (a.put oi.dst v) w → Q (.panic c) a w := by exact fun _ _ _ h => h) (hy : YieldsIf P ops (fun _ => True) oi v a := by exact Or.inl ⟨by rfl, by (intro w _; go_simp <;> with_reducible rfl)⟩)
    (hl : l.setIfInBounds i true = l' := by (try simp only [List.setIfInBounds_toArray, List.set_cons_zero, List.set_cons_succ]); with_reducible rfl)
    (ha : a.put oi.dst v = a' := by (try simp only [Act.put, List.getElem_toArray, List.getElem_cons_zero, List.getElem_cons_succ, List.setIfInBounds_toArray, List.set_cons_zero, List.set_cons_succ]); with_reducible rfl)
    (h : Till P md ops Q S stop k l' a' w) : Till P md ops Q S stop (k + 1) l a w := till_firstV hi (Region.noSelect_spec hs) hQ hne k l a w (Region.free_spec hi hf) (by simpa using hr) hy (fun _ => hS) (by rw [hl, ha]; exact h)
/-- One operation comes up: behind it S, where 'stop' has not come up. -/
def AllTill (P : Program) (md : Region.Mode) (ops : Array Oper) (Q : Exit → Act → World → Prop) (S : World → Prop) (stop k : Nat) (l : Array Bool) (a : Act) (w : World) (rs : List Nat) : Prop :=
  ∀ i ∈ rs, wpOp P ops Q i (fun a' w' => ((l.setIfInBounds i true).getD stop true = false → S w') ∧ Till P md ops Q S stop k (l.setIfInBounds i true) a' w') a w
theorem AllTill.nil {k : Nat} {l : Array Bool} {a : Act} {w : World} : AllTill P md ops Q S stop k l a w [] := fun _ h => by cases h
theorem AllTill.cons {k : Nat} {l l' : Array Bool} {a : Act} {w : World} {i : Nat} {o : Oper} {rs : List Nat} (ho : ops[i]? = some o) (hl : l.setIfInBounds i true = l')
    (h : ∀ K' : Act → World → Prop, Shut (∀ a w, (l'.getD stop true = false → S w) → Till P md ops Q S stop k l' a w → K' a w) → if Region.wanted o (yielded ops a.tmps) = true then Oper.wp P o a w K' Q else K' (a.put o.dst undef) w)
    (hs : AllTill P md ops Q S stop k l a w rs) : AllTill P md ops Q S stop k l a w (i :: rs) := fun j hj => by
  subst hl
  rcases List.mem_cons.1 hj with rfl | hj
  · exact wpOp_step ho (fun K' hK => h K' (fun a w hS hW => hK a w ⟨hS, hW⟩))
  · exact hs j hj
theorem till_ready {rs : List Nat} {k : Nat} {l : Array Bool} {a : Act} {w : World} (hr : Region.ready md ops l = rs) (hne : rs ≠ []) (h : AllTill P md ops Q S stop k l a w rs) : Till P md ops Q S stop (k + 1) l a w :=
  ⟨fun e => absurd (hr.symm.trans e) hne, hr ▸ h⟩
theorem till_done {l : Array Bool} {a : Act} {w : World} (hr : Region.ready md ops l = []) (h : Q .normal a w) : ∀ k, Till P md ops Q S stop k l a w
  | 0 => ⟨hr, h⟩
  | _ + 1 => ⟨fun _ => h, by rw [hr]; simp⟩
theorem till_region {id : Nat} {a : Act} {w : World} (S : World → Prop) (stop : Nat) (hm : P.follows .mixedOrders = true) (hS : S w.drew) (h : S w.drew → Till P .any ops Q S stop ops.size (Array.replicate ops.size false) a w.drew) : (Code.region id ops true).wp P Q a w :=
  wp_region_any hm (till_any _ _ _ _ (h hS))
theorem till_phi {k : Nat} {l : Array Bool} {a : Act} {w : World} (h : ∀ Φ, Φ = Till P md ops Q S stop → Till P md ops Q S stop k l a w) : Till P md ops Q S stop k l a w := h _ rfl
theorem till_at {k k' : Nat} {l l' : Array Bool} {a : Act} {w : World} (h : Till P md ops Q S stop k' l' a w) (hk : k' = k) (hl : l' = l) : Till P md ops Q S stop k l a w := by subst hk hl; exact h
end
end Go.Proofs.Ytbhedlobiagngaa
