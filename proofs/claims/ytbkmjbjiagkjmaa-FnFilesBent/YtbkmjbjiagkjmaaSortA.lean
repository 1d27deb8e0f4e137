/-
  What the specification's Sorted answers: a list that rises and has the members of the list handed in, in memory of its own; conditions: the list lies in memory as told and has at most 2 to the 20 texts.
-/
import Derived.Test.YtbkmjbjiagkjmaaOrder
import Derived.Sort.Walk0
namespace Go.Proofs.Ytbkmjbjiagkjmaa
open Go.RowKit
set_option linter.unusedSimpArgs false
set_option linter.unusedVariables false

def hasS (ss : List ByteArray) (s : ByteArray) : Bool := decide (bytesL s ∈ ss.map bytesL)
theorem hasS_iff (ss : List ByteArray) (s : ByteArray) : hasS ss s = true ↔ s ∈ ss := by
  rw [hasS, decide_eq_true_iff, List.mem_map]
  constructor
  · rintro ⟨t, ht, e⟩
    rw [← bytesL_inj e]; exact ht
  · intro h; exact ⟨s, h, rfl⟩
theorem hasS_not {ss : List ByteArray} {s : ByteArray} (h : ¬ s ∈ ss) : hasS ss s = false := by
  cases e : hasS ss s with
  | false => rfl
  | true => exact absurd ((hasS_iff ss s).1 e) h

set_option maxHeartbeats 1000000 in
set_option maxRecDepth 100000 in
theorem has_c (v : Value) (ss : List ByteArray) (s : ByteArray) (w : World) (hv : Reads w v (strsV ss)) (hn : ss.length ≤ 1099511627776) :
    Calls Try.prog 109 #[v, .string s] w fun e w' => e = .returned (.bool (hasS ss s)) ∧ w = w' := by
  obtain ⟨a, cap, rfl, _, hc⟩ := reads_strs hv
  clear hv
  rcases hc with rfl | ⟨b, off, rfl, hlt, hc⟩
  · go_enter Try.func109, Try.ntmps109
    go_wp2
    go_loop [5] (fun vi => vi = .int .i64 0) (fun _ => 0)
    case atStart => rfl
    case round =>
      obtain rfl := hrel
      go_wp2
      go_ret
      exact ⟨rfl, rfl⟩
  · go_enter Try.func109, Try.ntmps109
    go_wp2
    go_loop [5] (fun vi => ∃ k : Nat, k ≤ ss.length ∧ vi = .int .i64 (k : Int) ∧ Hid (∀ j (h : j < ss.length), j < k → ss[j] ≠ s)) (fun vi => ss.length - (intOf vi).toNat)
    case atStart => exact ⟨0, Nat.zero_le _, rfl, fun j h hj => by omega⟩
    case round =>
      obtain ⟨k, hk, rfl, hh⟩ := hrel
      by_cases hlt' : k < ss.length
      · have hcx := hc k hlt'
        obtain ⟨t, ht⟩ : ∃ t, t = ss[k] := ⟨_, rfl⟩
        rw [← ht] at hcx
        have HT : Hid (t = ss[k]) := ht
        have hki : (k : Int) < (ss.length : Int) := by omega
        clear hc ht
        go_wp2
        · have h1 : (t.toList == s.toList) = true := by assumption
          have e : t = s := bytes_eq_of_toList (by simpa using h1)
          have hm : s ∈ ss := by rw [← e, HT.out]; exact List.getElem_mem hlt'
          go_ret
          exact ⟨by rw [(hasS_iff ss s).2 hm]; rfl, rfl⟩
        · have h1 : (t.toList == s.toList) = false := by assumption
          have e : t ≠ s := fun e => by subst e; simp at h1
          go_round
          case rel => exact ⟨k + 1, by omega, by go_num, fun j h hj => (by
            by_cases ej : j = k
            · subst ej; rw [← HT.out]; exact e
            · exact hh.out j h (by omega))⟩
          case measure => simp [intOf]; omega
      · have he : k = ss.length := by omega
        subst he
        have hm : ¬ s ∈ ss := fun hm => by
          obtain ⟨j, hj, e⟩ := List.getElem_of_mem hm
          exact hh.out j hj hj e
        clear hc
        go_wp2
        go_ret
        exact ⟨by rw [hasS_not hm]; rfl, rfl⟩

theorem gt_iff (a b : ByteArray) : (!(Op.bytesLess a.toList b.toList || a.toList == b.toList)) = decide (bytesL b < bytesL a) := by
  rw [ByteArray.toList_eq, ByteArray.toList_eq, bytesLess_eq]
  show _ = decide (b.data.toList < a.data.toList)
  by_cases h : b.data.toList < a.data.toList
  · have h1 : ¬ a.data.toList < b.data.toList := fun k => ltL_irrefl _ (ltL_trans h k)
    have h2 : ¬ a.data = b.data := fun e => by rw [e] at h; exact ltL_irrefl _ h
    simp [h, h1, h2]
  · by_cases h1 : a.data.toList < b.data.toList
    · simp [h, h1]
    · have h2 : a.data.toList = b.data.toList := ltL_total h1 h
      simp [h2, ltL_irrefl]

theorem below_all {xs : List ByteArray} {t : ByteArray} {j : Nat} (hr : risesS xs) (hin : ¬ t ∈ xs) (hj : j ≤ xs.length) (h : j = 0 ∨ ∃ h0 : j - 1 < xs.length, ¬ bytesL t < bytesL xs[j - 1]) : ∀ i (hi : i < xs.length), i < j → bytesL xs[i] < bytesL t := by
  intro i hi hij
  rcases h with h | ⟨h0, h⟩
  · omega
  · have h1 : bytesL xs[j - 1] < bytesL t := by
      by_cases k : bytesL xs[j - 1] < bytesL t
      · exact k
      · have e := bytesL_inj (ltL_total h k)
        exact absurd (by rw [e]; exact List.getElem_mem h0) hin
    by_cases e : i = j - 1
    · subst e; exact h1
    · have hp := List.pairwise_iff_getElem.1 (show (xs.map bytesL).Pairwise (· < ·) from hr) i (j - 1) (by simpa using hi) (by simpa using h0) (by omega)
      simp at hp
      exact ltL_trans hp h1

theorem ins_cells {xs : List ByteArray} {t : ByteArray} {j : Nat} {ys : List Value} (hj : j ≤ xs.length) (hl : ys.length = xs.length + 1) (h1 : ∀ i, i < j → ys[i]? = (strsV xs)[i]?) (h2 : ∀ i, j < i → i ≤ xs.length → ys[i]? = (strsV xs)[i - 1]?) :
    ys.set j (.string t) = strsV (xs.take j ++ t :: xs.drop j) := by
  refine list_done (n := xs.length + 1) (by simp [hl]) (by simp; omega) (fun i hi => ?_)
  rw [List.getElem?_set]
  by_cases e : j = i
  · subst e
    rw [if_pos rfl, if_pos (by omega), strsV, List.getElem?_map, List.getElem?_append_right (by simp; omega)]
    simp [Nat.min_eq_left hj]
  · rw [if_neg e]
    by_cases k : i < j
    · rw [h1 i k, strsV, strsV, List.getElem?_map, List.getElem?_map, List.getElem?_append_left (by simp; omega), List.getElem?_take, if_pos k]
    · rw [h2 i (by omega) (by omega), strsV, strsV, List.getElem?_map, List.getElem?_map, List.getElem?_append_right (by simp; omega)]
      simp only [List.length_take, Nat.min_eq_left hj]
      rw [show i - j = (i - j - 1) + 1 by omega, List.getElem?_cons_succ, List.getElem?_drop, show j + (i - j - 1) = i - 1 by omega]

/-- What the inner loop holds on to. -/
def Shifted (xs : List ByteArray) (t : ByteArray) (j : Nat) (ys : List Value) : Prop :=
  ys.length = xs.length + 1 ∧ (∀ i, i < j → ys[i]? = (strsV xs)[i]?) ∧ (∀ i, j < i → i ≤ xs.length → ys[i]? = (strsV xs)[i - 1]?) ∧ ∀ i (h : i < xs.length), j ≤ i → bytesL t < bytesL xs[i]

theorem shifted_start (xs : List ByteArray) (t : ByteArray) : Shifted xs t xs.length (strsV (xs ++ [t])) := by
  refine ⟨by simp, fun i hi => ?_, fun i h1 h2 => by omega, fun i h1 h2 => by omega⟩
  rw [strsV, strsV, List.getElem?_map, List.getElem?_map, List.getElem?_append_left hi]
theorem shifted_step {xs : List ByteArray} {t : ByteArray} {j : Nat} {ys : List Value} (hj : 0 < j) (hjl : j - 1 < xs.length) (h : Shifted xs t j ys) (hg : bytesL t < bytesL xs[j - 1]) : Shifted xs t (j - 1) (ys.set j (.string xs[j - 1])) := by
  obtain ⟨h0, h1, h2, h3⟩ := h
  refine ⟨by simp [h0], fun i hi => ?_, fun i hi1 hi2 => ?_, fun i hi hji => ?_⟩
  · rw [List.getElem?_set, if_neg (by omega)]; exact h1 i (by omega)
  · rw [List.getElem?_set]
    by_cases e : j = i
    · subst e; rw [if_pos rfl, if_pos (by omega), strsV_at xs (j - 1) hjl]
    · rw [if_neg e]; exact h2 i (by omega) hi2
  · by_cases e : i = j - 1
    · subst e; exact hg
    · exact h3 i hi (by omega)

set_option maxHeartbeats 4000000 in
set_option maxRecDepth 100000 in
theorem specSorted_c (v : Value) (ss : List ByteArray) (w : World) (hv : Reads w v (strsV ss)) (hn : ss.length ≤ 1048576) :
    Calls Try.prog 76 #[v] w fun e w' => ∃ (u : Value) (ys : List ByteArray), e = .returned u ∧ w'.ownsRow w.heap.size 9 1 u ys.length (strsV ys) ∧ risesS ys ∧ (∀ x, x ∈ ys ↔ x ∈ ss) ∧ ys.length ≤ ss.length ∧ Below w.heap.size w w' := by
  obtain ⟨a, cap, rfl, _, hc⟩ := reads_strs hv
  clear hv
  obtain ⟨i0, hi, hz0, hz1, hz2⟩ := info_parts infoS
  have ho : (w.alloc (.cells #[] 9)).ownsRow w.heap.size 9 1 (.slice (some ⟨w.heap.size, 0, none⟩) 0 0) 0 [] := World.ownsRow_lit w #[] 0 (Nat.le_refl _) (by unfold maxLen; omega) rfl
  rcases hc with rfl | ⟨b, off, rfl, hlt, hc⟩
  · go_enter Try.func76, Try.ntmps76
    go_wp2
    go_loopw [3, 4] (fun vo vi wr => vo = .slice (some ⟨w.heap.size, 0, none⟩) 0 0 ∧ vi = .int .i64 0 ∧ wr = w.alloc (.cells #[] 9)) (fun _ _ _ => 0)
    case atStart => exact ⟨rfl, rfl, rfl⟩
    case round =>
      obtain ⟨rfl, rfl, hwr⟩ := hrel
      subst hwr
      go_wp2
      go_ret
      exact ⟨_, [], rfl, ho, List.Pairwise.nil, by simp, by simp, (Below.refl _ _).alloc (Nat.le_refl _) _⟩
  · go_enter Try.func76, Try.ntmps76
    go_wp2
    go_loopw [3, 4] (fun vo vi wr => ∃ (k : Nat) (xs : List ByteArray), k ≤ ss.length ∧ vi = .int .i64 (k : Int) ∧ xs.length ≤ k ∧ wr.ownsRow w.heap.size 9 1 vo xs.length (strsV xs) ∧ Hid (risesS xs) ∧ Hid (∀ x, x ∈ xs ↔ x ∈ ss.take k) ∧ Below w.heap.size w wr) (fun _ vi _ => ss.length - (intOf vi).toNat)
    case atStart => exact ⟨0, [], Nat.zero_le _, rfl, by simp, ho, List.Pairwise.nil, (by intro x; simp), (Below.refl _ _).alloc (Nat.le_refl _) _⟩
    case round =>
      obtain ⟨k, xs, hk, rfl, hxl, hown, hrs, hmem, hbr⟩ := hrel
      clear ho
      by_cases hlt' : k < ss.length
      · have hcx : wr.cell? ⟨b, off + k, none⟩ = some (.string ss[k]) := (hbr.cell (p := ⟨b, off + k, none⟩) hlt).trans (hc k hlt')
        have hki : (k : Int) < (ss.length : Int) := by omega
        have htk : ss.take (k + 1) = ss.take k ++ [ss[k]] := List.take_succ_eq_append_getElem hlt'
        obtain ⟨t, ht⟩ : ∃ t, t = ss[k] := ⟨_, rfl⟩
        rw [← ht] at hcx htk
        have HTK : Hid (ss.take (k + 1) = ss.take k ++ [t]) := htk
        clear hc ht htk
        by_cases hin : t ∈ xs
        · have hd := (hasS_iff xs t).2 hin
          have hm2 : Hid (∀ x, x ∈ xs ↔ x ∈ ss.take (k + 1)) := fun x => by
            rw [HTK.out, List.mem_append, ← hmem.out x]
            simp
            intro e; subst e; exact hin
          go_wp2_with (go_at_call 109; refine (has_c _ xs t _ (reads_of_owns hown) (by omega)).mono ?_; rintro e w1 ⟨rfl, rfl⟩)
          go_roundw
          case rel => exact ⟨k + 1, xs, by omega, by go_num, by omega, hown, hrs, hm2, hbr⟩
          case measure => simp [intOf]; omega
        · have hd := hasS_not hin
          go_wp2_with (first
            | (go_at_call 109; refine (has_c _ xs t _ (reads_of_owns hown) (by omega)).mono ?_; rintro e w1 ⟨rfl, rfl⟩)
            | (at_builtin; refine wpList_append_own _ rfl _ _ 34 rfl w.heap.size 9 i0 (.string ⟨#[]⟩) 1 16 Try.underlying34 hi hz0 hz1 hz2 rfl (by decide) _ xs.length (strsV xs) rfl (hown.alloc _) ⟨wr.heap.size, 0, none⟩ 1 1 (strsV [t]) rfl rfl (cell_one_new _ _ _) (fun u hu => by simp [strsV] at hu; subst hu; rfl) (by unfold maxLen; omega) (by omega) (by have := hbr.size; simp; omega) ?_))
          intro v2 w2 o2 gr2 hnil
          have hst : strsV xs ++ strsV [t] = strsV (xs ++ [t]) := by simp [strsV]
          rw [hst] at o2
          have hb2 : Below w.heap.size w w2 := Below.grown (hbr.alloc hbr.size _) gr2 (by have := hbr.size; simp; omega) (fun j hj => (hown.lt _ hj).1)
          have hcx2 : w2.cell? ⟨b, off + k, none⟩ = some (.string t) := by
            rw [hb2.cell (p := ⟨b, off + k, none⟩) hlt, ← hbr.cell (p := ⟨b, off + k, none⟩) hlt]; exact hcx
          have hex : ∃ g2 cap2, v2 = .slice (some ⟨g2, 0, none⟩) (xs.length + 1) cap2 := by
            rcases o2.2 with ⟨_, h0⟩ | ⟨g, cp, cur, hv, _⟩
            · omega
            · exact ⟨g, cp, hv⟩
          obtain ⟨g2, cap2, hv2⟩ := hex
          subst hv2
          have hgl : w.heap.size ≤ g2 := (o2.lt g2 rfl).1
          clear gr2 hnil hown hbr hcx hst hd
          go_wp2
          go_loopw [5] (fun vk wr => ∃ (j : Nat) (ys : List Value), j ≤ xs.length ∧ vk = .int .i64 (j : Int) ∧ wr.ownsRow w.heap.size 9 1 (.slice (some ⟨g2, 0, none⟩) (xs.length + 1) cap2) (xs.length + 1) ys ∧ Hid (Shifted xs t j ys) ∧ wr.cell? ⟨b, off + k, none⟩ = some (.string t) ∧ Below w.heap.size w wr) (fun vk _ => (intOf vk).toNat)
          case atStart => exact ⟨xs.length, _, Nat.le_refl _, by go_num, o2, shifted_start xs t, hcx2, hb2⟩
          case round =>
            clear o2 hcx2 hb2
            obtain ⟨j, ys, hj, rfl, hown, hsh, hcx, hbr⟩ := hrel
            have hjl : ys.length = xs.length + 1 := hsh.out.1
            have hcy : wr.cell? ⟨g2, j, none⟩ = some (ys.getD j undef) := by
              rw [hown.cellAt j (by omega)]; simp [List.getD_eq_getElem?_getD, show j < ys.length by omega]
            have hfr := hown.frozenAt j
            have hji : (j : Int) < (xs.length : Int) + 1 := by omega
            clear hjl
            by_cases hj0 : 0 < j
            · have hj1 : j - 1 < xs.length := by omega
              have hcz : wr.cell? ⟨g2, j - 1, none⟩ = some (.string xs[j - 1]) := by
                rw [hown.cellAt (j - 1) (by omega), hsh.out.2.1 (j - 1) (by omega), strsV_at xs (j - 1) hj1]
              have hgt := gt_iff xs[j - 1] t
              have hj0i : (0 : Int) < (j : Int) := by omega
              obtain ⟨u, hu⟩ : ∃ u, u = xs[j - 1] := ⟨_, rfl⟩
              rw [← hu] at hcz hgt
              have HU : Hid (u = xs[j - 1]) := hu
              by_cases hlt2 : bytesL t < bytesL u
              · rw [decide_eq_true hlt2] at hgt
                clear hu
                go_wp2
                go_quiet (fail)
                have hown' : (wr.drewN nq).ownsRow w.heap.size 9 1 (.slice (some ⟨g2, 0, none⟩) (xs.length + 1) cap2) (xs.length + 1) ys := hown
                have hbr' := below_drewN' hbr nq
                go_wp2
                go_roundw
                case rel =>
                  refine ⟨j - 1, ys.set j (.string u), by omega, by go_num, (hown'.stored j _).1, ?_, ?_, hbr'.setCell (p := ⟨g2, j, none⟩) hgl _⟩
                  · have h1 := HU.out
                    subst h1
                    exact shifted_step hj0 hj1 hsh.out hlt2
                  · rw [World.cell?_setCell_other _ _ _ _ (by intro e; injection e; omega)]; exact hcx
                case measure => simp [intOf]; omega
              · rw [decide_eq_false hlt2] at hgt
                clear hu
                go_wp2
                go_quiet (fail)
                have hins := ins_cells (t := t) hj hsh.out.1 hsh.out.2.1 hsh.out.2.2.1
                have hrise : Hid (risesS (xs.take j ++ t :: xs.drop j)) := rises_insert hj hrs.out (below_all hrs.out hin hj (.inr ⟨hj1, by rw [← HU.out]; exact hlt2⟩)) hsh.out.2.2.2
                have hm2 : Hid (∀ x, x ∈ xs.take j ++ t :: xs.drop j ↔ x ∈ ss.take (k + 1)) := fun x => by
                  rw [mem_insert, HTK.out, List.mem_append, ← hmem.out x]
                  simp
                  exact Or.comm
                have hlen : (xs.take j ++ t :: xs.drop j).length = xs.length + 1 := by simp; omega
                have hown' : (wr.drewN nq).ownsRow w.heap.size 9 1 (.slice (some ⟨g2, 0, none⟩) (xs.length + 1) cap2) (xs.length + 1) ys := hown
                have hbr' := below_drewN' hbr nq
                have o5 := (hown'.stored j (.string t)).1
                rw [hins, ← hlen] at o5
                have HL : Hid ((xs.take j ++ t :: xs.drop j).length = xs.length + 1) := hlen
                have O5 : Hid (((wr.drewN nq).setCell ⟨g2, j, none⟩ (.string t)).ownsRow w.heap.size 9 1 (.slice (some ⟨g2, 0, none⟩) (xs.length + 1) cap2) (xs.take j ++ t :: xs.drop j).length (strsV (xs.take j ++ t :: xs.drop j))) := by
                  have h6 := (hown'.stored j (.string t)).1
                  rw [hins] at h6
                  show World.ownsRow _ _ _ _ _ _ _
                  rw [hlen]; exact h6
                clear o5 hins hlen
                go_wp2
                go_roundw
                case rel => exact ⟨k + 1, xs.take j ++ t :: xs.drop j, by omega, by go_num, (by have := HL.out; omega), O5.out, hrise, hm2, hbr'.setCell (p := ⟨g2, j, none⟩) hgl _⟩
                case measure => simp [intOf]; omega
            · have hd1 : decide ((0 : Int) < (j : Int)) = false := by simp; omega
              have hd2 : decide (0 < j) = false := by simp; omega
              have HJ : Hid (j = 0) := by show _ = _; omega
              clear hj0
              go_wp2
              go_quiet (fail)
              have hins := ins_cells (t := t) hj hsh.out.1 hsh.out.2.1 hsh.out.2.2.1
              have hrise : Hid (risesS (xs.take j ++ t :: xs.drop j)) := rises_insert hj hrs.out (below_all hrs.out hin hj (.inl HJ.out)) hsh.out.2.2.2
              have hm2 : Hid (∀ x, x ∈ xs.take j ++ t :: xs.drop j ↔ x ∈ ss.take (k + 1)) := fun x => by
                rw [mem_insert, HTK.out, List.mem_append, ← hmem.out x]
                simp
                exact Or.comm
              have hlen : (xs.take j ++ t :: xs.drop j).length = xs.length + 1 := by simp; omega
              have hown' : (wr.drewN nq).ownsRow w.heap.size 9 1 (.slice (some ⟨g2, 0, none⟩) (xs.length + 1) cap2) (xs.length + 1) ys := hown
              have hbr' := below_drewN' hbr nq
              have o5 := (hown'.stored j (.string t)).1
              rw [hins, ← hlen] at o5
              have HL : Hid ((xs.take j ++ t :: xs.drop j).length = xs.length + 1) := hlen
              have O5 : Hid (((wr.drewN nq).setCell ⟨g2, j, none⟩ (.string t)).ownsRow w.heap.size 9 1 (.slice (some ⟨g2, 0, none⟩) (xs.length + 1) cap2) (xs.take j ++ t :: xs.drop j).length (strsV (xs.take j ++ t :: xs.drop j))) := by
                have h6 := (hown'.stored j (.string t)).1
                rw [hins] at h6
                show World.ownsRow _ _ _ _ _ _ _
                rw [hlen]; exact h6
              clear o5 hins hlen
              go_wp2
              go_roundw
              case rel => exact ⟨k + 1, xs.take j ++ t :: xs.drop j, by omega, by go_num, (by have := HL.out; omega), O5.out, hrise, hm2, hbr'.setCell (p := ⟨g2, j, none⟩) hgl _⟩
              case measure => simp [intOf]; omega
      · have he : k = ss.length := by omega
        subst he
        clear hc
        have hm2 := hmem.out
        rw [List.take_length] at hm2
        go_wp2
        go_ret
        exact ⟨_, xs, rfl, hown, hrs.out, hm2, hxl, hbr⟩
end Go.Proofs.Ytbkmjbjiagkjmaa
