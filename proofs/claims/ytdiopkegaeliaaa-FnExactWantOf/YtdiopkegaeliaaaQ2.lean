/-
  Contracts for the walks, several texts in one: each part says what it proves, and under which conditions.
-/
import Derived.Sort.Walk0
import Derived.Shelf.LaysM
import Derived.Shelf.Strconv.Clone
import Derived.Shelf.Sort.Plain
import Derived.Shelf.Slices.CompactS
import Derived.Shelf.Slices.In.SortNone
import Derived.Test.YtdiopkegaeliaaaProg
import Derived.Laws.CopyOwn
import Derived.Lib.Strings
import Derived.Lib.IndexLaws
import Derived.WalkSpells
import Derived.Deep.RegionHeld
import Derived.Test.YtdiopkegaeliaaaQ1

/-! What the specification's Sorted answers: a list that rises and has the members of the list handed in, in memory of its own; conditions: the list lies in memory as told and has at most 2 to the 20 texts. -/
namespace Go.Proofs.Ytdiopkegaeliaaa
open Go.RowKit
set_option linter.unusedSimpArgs false
set_option linter.unusedVariables false

def hasS (ss : List ByteArray) (s : ByteArray) : Bool := decide (bytesL s ∈ ss.map bytesL)
theorem hasS_iff (ss : List ByteArray) (s : ByteArray) : hasS ss s = true ↔ s ∈ ss := by
  rw [hasS, decide_eq_true_iff, List.mem_map]
  constructor
  · rintro ⟨t, ht, e⟩
    rw [← bytesL_inj e]; exact ht
  · intro h; exact ⟨s, h, rfl⟩
theorem hasS_not {ss : List ByteArray} {s : ByteArray} (h : ¬ s ∈ ss) : hasS ss s = false := by
  cases e : hasS ss s with
  | false => rfl
  | true => exact absurd ((hasS_iff ss s).1 e) h

set_option maxHeartbeats 1000000 in
set_option maxRecDepth 100000 in
theorem has_c (v : Value) (ss : List ByteArray) (s : ByteArray) (w : World) (hv : Reads w v (strsV ss)) (hn : ss.length ≤ 1099511627776) :
    Calls Try.prog 31 #[v, .string s] w fun e w' => e = .returned (.bool (hasS ss s)) ∧ w = w' := by
  obtain ⟨a, cap, rfl, _, hc⟩ := reads_strs hv
  clear hv
  rcases hc with rfl | ⟨b, off, rfl, hlt, hc⟩
  · go_enter Try.func31, Try.ntmps31
    go_wp2
    go_loop [5] (fun vi => vi = .int .i64 0) (fun _ => 0)
    case atStart => rfl
    case round =>
      obtain rfl := hrel
      go_wp2
      go_ret
      exact ⟨rfl, rfl⟩
  · go_enter Try.func31, Try.ntmps31
    go_wp2
    go_loop [5] (fun vi => ∃ k : Nat, k ≤ ss.length ∧ vi = .int .i64 (k : Int) ∧ Hid (∀ j (h : j < ss.length), j < k → ss[j] ≠ s)) (fun vi => ss.length - (intOf vi).toNat)
    case atStart => exact ⟨0, Nat.zero_le _, rfl, fun j h hj => by omega⟩
    case round =>
      obtain ⟨k, hk, rfl, hh⟩ := hrel
      by_cases hlt' : k < ss.length
      · have hcx := hc k hlt'
        obtain ⟨t, ht⟩ : ∃ t, t = ss[k] := ⟨_, rfl⟩
        rw [← ht] at hcx
        have HT : Hid (t = ss[k]) := ht
        have hki : (k : Int) < (ss.length : Int) := by omega
        clear hc ht
        go_wp2
        · have h1 : (t.toList == s.toList) = true := by assumption
          have e : t = s := bytes_eq_of_toList (by simpa using h1)
          have hm : s ∈ ss := by rw [← e, HT.out]; exact List.getElem_mem hlt'
          go_ret
          exact ⟨by rw [(hasS_iff ss s).2 hm]; rfl, rfl⟩
        · have h1 : (t.toList == s.toList) = false := by assumption
          have e : t ≠ s := fun e => by subst e; simp at h1
          go_round
          case rel => exact ⟨k + 1, by omega, by go_num, fun j h hj => (by
            by_cases ej : j = k
            · subst ej; rw [← HT.out]; exact e
            · exact hh.out j h (by omega))⟩
          case measure => simp [intOf]; omega
      · have he : k = ss.length := by omega
        subst he
        have hm : ¬ s ∈ ss := fun hm => by
          obtain ⟨j, hj, e⟩ := List.getElem_of_mem hm
          exact hh.out j hj hj e
        clear hc
        go_wp2
        go_ret
        exact ⟨by rw [hasS_not hm]; rfl, rfl⟩

theorem gt_iff (a b : ByteArray) : (!(Op.bytesLess a.toList b.toList || a.toList == b.toList)) = decide (bytesL b < bytesL a) := by
  rw [ByteArray.toList_eq, ByteArray.toList_eq, bytesLess_eq]
  show _ = decide (b.data.toList < a.data.toList)
  by_cases h : b.data.toList < a.data.toList
  · have h1 : ¬ a.data.toList < b.data.toList := fun k => ltL_irrefl _ (ltL_trans h k)
    have h2 : ¬ a.data = b.data := fun e => by rw [e] at h; exact ltL_irrefl _ h
    simp [h, h1, h2]
  · by_cases h1 : a.data.toList < b.data.toList
    · simp [h, h1]
    · have h2 : a.data.toList = b.data.toList := ltL_total h1 h
      simp [h2, ltL_irrefl]

theorem below_all {xs : List ByteArray} {t : ByteArray} {j : Nat} (hr : risesS xs) (hin : ¬ t ∈ xs) (hj : j ≤ xs.length) (h : j = 0 ∨ ∃ h0 : j - 1 < xs.length, ¬ bytesL t < bytesL xs[j - 1]) : ∀ i (hi : i < xs.length), i < j → bytesL xs[i] < bytesL t := by
  intro i hi hij
  rcases h with h | ⟨h0, h⟩
  · omega
  · have h1 : bytesL xs[j - 1] < bytesL t := by
      by_cases k : bytesL xs[j - 1] < bytesL t
      · exact k
      · have e := bytesL_inj (ltL_total h k)
        exact absurd (by rw [e]; exact List.getElem_mem h0) hin
    by_cases e : i = j - 1
    · subst e; exact h1
    · have hp := List.pairwise_iff_getElem.1 (show (xs.map bytesL).Pairwise (· < ·) from hr) i (j - 1) (by simpa using hi) (by simpa using h0) (by omega)
      simp at hp
      exact ltL_trans hp h1

theorem ins_cells {xs : List ByteArray} {t : ByteArray} {j : Nat} {ys : List Value} (hj : j ≤ xs.length) (hl : ys.length = xs.length + 1) (h1 : ∀ i, i < j → ys[i]? = (strsV xs)[i]?) (h2 : ∀ i, j < i → i ≤ xs.length → ys[i]? = (strsV xs)[i - 1]?) :
    ys.set j (.string t) = strsV (xs.take j ++ t :: xs.drop j) := by
  refine list_done (n := xs.length + 1) (by simp [hl]) (by simp; omega) (fun i hi => ?_)
  rw [List.getElem?_set]
  by_cases e : j = i
  · subst e
    rw [if_pos rfl, if_pos (by omega), strsV, List.getElem?_map, List.getElem?_append_right (by simp; omega)]
    simp [Nat.min_eq_left hj]
  · rw [if_neg e]
    by_cases k : i < j
    · rw [h1 i k, strsV, strsV, List.getElem?_map, List.getElem?_map, List.getElem?_append_left (by simp; omega), List.getElem?_take, if_pos k]
    · rw [h2 i (by omega) (by omega), strsV, strsV, List.getElem?_map, List.getElem?_map, List.getElem?_append_right (by simp; omega)]
      simp only [List.length_take, Nat.min_eq_left hj]
      rw [show i - j = (i - j - 1) + 1 by omega, List.getElem?_cons_succ, List.getElem?_drop, show j + (i - j - 1) = i - 1 by omega]

/-- What the inner loop holds on to. -/
def Shifted (xs : List ByteArray) (t : ByteArray) (j : Nat) (ys : List Value) : Prop :=
  ys.length = xs.length + 1 ∧ (∀ i, i < j → ys[i]? = (strsV xs)[i]?) ∧ (∀ i, j < i → i ≤ xs.length → ys[i]? = (strsV xs)[i - 1]?) ∧ ∀ i (h : i < xs.length), j ≤ i → bytesL t < bytesL xs[i]

theorem shifted_start (xs : List ByteArray) (t : ByteArray) : Shifted xs t xs.length (strsV (xs ++ [t])) := by
  refine ⟨by simp, fun i hi => ?_, fun i h1 h2 => by omega, fun i h1 h2 => by omega⟩
  rw [strsV, strsV, List.getElem?_map, List.getElem?_map, List.getElem?_append_left hi]
theorem shifted_step {xs : List ByteArray} {t : ByteArray} {j : Nat} {ys : List Value} (hj : 0 < j) (hjl : j - 1 < xs.length) (h : Shifted xs t j ys) (hg : bytesL t < bytesL xs[j - 1]) : Shifted xs t (j - 1) (ys.set j (.string xs[j - 1])) := by
  obtain ⟨h0, h1, h2, h3⟩ := h
  refine ⟨by simp [h0], fun i hi => ?_, fun i hi1 hi2 => ?_, fun i hi hji => ?_⟩
  · rw [List.getElem?_set, if_neg (by omega)]; exact h1 i (by omega)
  · rw [List.getElem?_set]
    by_cases e : j = i
    · subst e; rw [if_pos rfl, if_pos (by omega), strsV_at xs (j - 1) hjl]
    · rw [if_neg e]; exact h2 i (by omega) hi2
  · by_cases e : i = j - 1
    · subst e; exact hg
    · exact h3 i hi (by omega)

set_option maxHeartbeats 4000000 in
set_option maxRecDepth 100000 in
theorem specSorted_c (v : Value) (ss : List ByteArray) (w : World) (hv : Reads w v (strsV ss)) (hn : ss.length ≤ 1048576) :
    Calls Try.prog 18 #[v] w fun e w' => ∃ (u : Value) (ys : List ByteArray), e = .returned u ∧ w'.ownsRow w.heap.size 9 1 u ys.length (strsV ys) ∧ risesS ys ∧ (∀ x, x ∈ ys ↔ x ∈ ss) ∧ ys.length ≤ ss.length ∧ Below w.heap.size w w' := by
  obtain ⟨a, cap, rfl, _, hc⟩ := reads_strs hv
  clear hv
  obtain ⟨i0, hi, hz0, hz1, hz2⟩ := info_parts infoS
  have ho : (w.alloc (.cells #[] 9)).ownsRow w.heap.size 9 1 (.slice (some ⟨w.heap.size, 0, none⟩) 0 0) 0 [] := World.ownsRow_lit w #[] 0 (Nat.le_refl _) (by unfold maxLen; omega) rfl
  rcases hc with rfl | ⟨b, off, rfl, hlt, hc⟩
  · go_enter Try.func18, Try.ntmps18
    go_wp2
    go_loopw [3, 4] (fun vo vi wr => vo = .slice (some ⟨w.heap.size, 0, none⟩) 0 0 ∧ vi = .int .i64 0 ∧ wr = w.alloc (.cells #[] 9)) (fun _ _ _ => 0)
    case atStart => exact ⟨rfl, rfl, rfl⟩
    case round =>
      obtain ⟨rfl, rfl, hwr⟩ := hrel
      subst hwr
      go_wp2
      go_ret
      exact ⟨_, [], rfl, ho, List.Pairwise.nil, by simp, by simp, (Below.refl _ _).alloc (Nat.le_refl _) _⟩
  · go_enter Try.func18, Try.ntmps18
    go_wp2
    go_loopw [3, 4] (fun vo vi wr => ∃ (k : Nat) (xs : List ByteArray), k ≤ ss.length ∧ vi = .int .i64 (k : Int) ∧ xs.length ≤ k ∧ wr.ownsRow w.heap.size 9 1 vo xs.length (strsV xs) ∧ Hid (risesS xs) ∧ Hid (∀ x, x ∈ xs ↔ x ∈ ss.take k) ∧ Below w.heap.size w wr) (fun _ vi _ => ss.length - (intOf vi).toNat)
    case atStart => exact ⟨0, [], Nat.zero_le _, rfl, by simp, ho, List.Pairwise.nil, (by intro x; simp), (Below.refl _ _).alloc (Nat.le_refl _) _⟩
    case round =>
      obtain ⟨k, xs, hk, rfl, hxl, hown, hrs, hmem, hbr⟩ := hrel
      clear ho
      by_cases hlt' : k < ss.length
      · have hcx : wr.cell? ⟨b, off + k, none⟩ = some (.string ss[k]) := (hbr.cell (p := ⟨b, off + k, none⟩) hlt).trans (hc k hlt')
        have hki : (k : Int) < (ss.length : Int) := by omega
        have htk : ss.take (k + 1) = ss.take k ++ [ss[k]] := List.take_succ_eq_append_getElem hlt'
        obtain ⟨t, ht⟩ : ∃ t, t = ss[k] := ⟨_, rfl⟩
        rw [← ht] at hcx htk
        have HTK : Hid (ss.take (k + 1) = ss.take k ++ [t]) := htk
        clear hc ht htk
        by_cases hin : t ∈ xs
        · have hd := (hasS_iff xs t).2 hin
          have hm2 : Hid (∀ x, x ∈ xs ↔ x ∈ ss.take (k + 1)) := fun x => by
            rw [HTK.out, List.mem_append, ← hmem.out x]
            simp
            intro e; subst e; exact hin
          go_wp2_with (go_at_call 31; refine (has_c _ xs t _ (reads_of_owns hown) (by omega)).mono ?_; rintro e w1 ⟨rfl, rfl⟩)
          go_roundw
          case rel => exact ⟨k + 1, xs, by omega, by go_num, by omega, hown, hrs, hm2, hbr⟩
          case measure => simp [intOf]; omega
        · have hd := hasS_not hin
          go_wp2_with (first
            | (go_at_call 31; refine (has_c _ xs t _ (reads_of_owns hown) (by omega)).mono ?_; rintro e w1 ⟨rfl, rfl⟩)
            | (at_builtin; refine wpList_append_own _ rfl _ _ 23 rfl w.heap.size 9 i0 (.string ⟨#[]⟩) 1 16 Try.underlying23 hi hz0 hz1 hz2 rfl (by decide) _ xs.length (strsV xs) rfl (hown.alloc _) ⟨wr.heap.size, 0, none⟩ 1 1 (strsV [t]) rfl rfl (cell_one_new _ _ _) (fun u hu => by simp [strsV] at hu; subst hu; rfl) (by unfold maxLen; omega) (by omega) (by have := hbr.size; simp; omega) ?_))
          intro v2 w2 o2 gr2 hnil
          have hst : strsV xs ++ strsV [t] = strsV (xs ++ [t]) := by simp [strsV]
          rw [hst] at o2
          have hb2 : Below w.heap.size w w2 := Below.grown (hbr.alloc hbr.size _) gr2 (by have := hbr.size; simp; omega) (fun j hj => (hown.lt _ hj).1)
          have hcx2 : w2.cell? ⟨b, off + k, none⟩ = some (.string t) := by
            rw [hb2.cell (p := ⟨b, off + k, none⟩) hlt, ← hbr.cell (p := ⟨b, off + k, none⟩) hlt]; exact hcx
          have hex : ∃ g2 cap2, v2 = .slice (some ⟨g2, 0, none⟩) (xs.length + 1) cap2 := by
            rcases o2.2 with ⟨_, h0⟩ | ⟨g, cp, cur, hv, _⟩
            · omega
            · exact ⟨g, cp, hv⟩
          obtain ⟨g2, cap2, hv2⟩ := hex
          subst hv2
          have hgl : w.heap.size ≤ g2 := (o2.lt g2 rfl).1
          clear gr2 hnil hown hbr hcx hst hd
          go_wp2
          go_loopw [5] (fun vk wr => ∃ (j : Nat) (ys : List Value), j ≤ xs.length ∧ vk = .int .i64 (j : Int) ∧ wr.ownsRow w.heap.size 9 1 (.slice (some ⟨g2, 0, none⟩) (xs.length + 1) cap2) (xs.length + 1) ys ∧ Hid (Shifted xs t j ys) ∧ wr.cell? ⟨b, off + k, none⟩ = some (.string t) ∧ Below w.heap.size w wr) (fun vk _ => (intOf vk).toNat)
          case atStart => exact ⟨xs.length, _, Nat.le_refl _, by go_num, o2, shifted_start xs t, hcx2, hb2⟩
          case round =>
            clear o2 hcx2 hb2
            obtain ⟨j, ys, hj, rfl, hown, hsh, hcx, hbr⟩ := hrel
            have hjl : ys.length = xs.length + 1 := hsh.out.1
            have hcy : wr.cell? ⟨g2, j, none⟩ = some (ys.getD j undef) := by
              rw [hown.cellAt j (by omega)]; simp [List.getD_eq_getElem?_getD, show j < ys.length by omega]
            have hfr := hown.frozenAt j
            have hji : (j : Int) < (xs.length : Int) + 1 := by omega
            clear hjl
            by_cases hj0 : 0 < j
            · have hj1 : j - 1 < xs.length := by omega
              have hcz : wr.cell? ⟨g2, j - 1, none⟩ = some (.string xs[j - 1]) := by
                rw [hown.cellAt (j - 1) (by omega), hsh.out.2.1 (j - 1) (by omega), strsV_at xs (j - 1) hj1]
              have hgt := gt_iff xs[j - 1] t
              have hj0i : (0 : Int) < (j : Int) := by omega
              obtain ⟨u, hu⟩ : ∃ u, u = xs[j - 1] := ⟨_, rfl⟩
              rw [← hu] at hcz hgt
              have HU : Hid (u = xs[j - 1]) := hu
              by_cases hlt2 : bytesL t < bytesL u
              · rw [decide_eq_true hlt2] at hgt
                clear hu
                go_wp2
                go_quiet (fail)
                have hown' : (wr.drewN nq).ownsRow w.heap.size 9 1 (.slice (some ⟨g2, 0, none⟩) (xs.length + 1) cap2) (xs.length + 1) ys := hown
                have hbr' := below_drewN' hbr nq
                go_wp2
                go_roundw
                case rel =>
                  refine ⟨j - 1, ys.set j (.string u), by omega, by go_num, (hown'.stored j _).1, ?_, ?_, hbr'.setCell (p := ⟨g2, j, none⟩) hgl _⟩
                  · have h1 := HU.out
                    subst h1
                    exact shifted_step hj0 hj1 hsh.out hlt2
                  · rw [World.cell?_setCell_other _ _ _ _ (by intro e; injection e; omega)]; exact hcx
                case measure => simp [intOf]; omega
              · rw [decide_eq_false hlt2] at hgt
                clear hu
                go_wp2
                go_quiet (fail)
                have hins := ins_cells (t := t) hj hsh.out.1 hsh.out.2.1 hsh.out.2.2.1
                have hrise : Hid (risesS (xs.take j ++ t :: xs.drop j)) := rises_insert hj hrs.out (below_all hrs.out hin hj (.inr ⟨hj1, by rw [← HU.out]; exact hlt2⟩)) hsh.out.2.2.2
                have hm2 : Hid (∀ x, x ∈ xs.take j ++ t :: xs.drop j ↔ x ∈ ss.take (k + 1)) := fun x => by
                  rw [mem_insert, HTK.out, List.mem_append, ← hmem.out x]
                  simp
                  exact Or.comm
                have hlen : (xs.take j ++ t :: xs.drop j).length = xs.length + 1 := by simp; omega
                have hown' : (wr.drewN nq).ownsRow w.heap.size 9 1 (.slice (some ⟨g2, 0, none⟩) (xs.length + 1) cap2) (xs.length + 1) ys := hown
                have hbr' := below_drewN' hbr nq
                have o5 := (hown'.stored j (.string t)).1
                rw [hins, ← hlen] at o5
                have HL : Hid ((xs.take j ++ t :: xs.drop j).length = xs.length + 1) := hlen
                have O5 : Hid (((wr.drewN nq).setCell ⟨g2, j, none⟩ (.string t)).ownsRow w.heap.size 9 1 (.slice (some ⟨g2, 0, none⟩) (xs.length + 1) cap2) (xs.take j ++ t :: xs.drop j).length (strsV (xs.take j ++ t :: xs.drop j))) := by
                  have h6 := (hown'.stored j (.string t)).1
                  rw [hins] at h6
                  show World.ownsRow _ _ _ _ _ _ _
                  rw [hlen]; exact h6
                clear o5 hins hlen
                go_wp2
                go_roundw
                case rel => exact ⟨k + 1, xs.take j ++ t :: xs.drop j, by omega, by go_num, (by have := HL.out; omega), O5.out, hrise, hm2, hbr'.setCell (p := ⟨g2, j, none⟩) hgl _⟩
                case measure => simp [intOf]; omega
            · have hd1 : decide ((0 : Int) < (j : Int)) = false := by simp; omega
              have hd2 : decide (0 < j) = false := by simp; omega
              have HJ : Hid (j = 0) := by show _ = _; omega
              clear hj0
              go_wp2
              go_quiet (fail)
              have hins := ins_cells (t := t) hj hsh.out.1 hsh.out.2.1 hsh.out.2.2.1
              have hrise : Hid (risesS (xs.take j ++ t :: xs.drop j)) := rises_insert hj hrs.out (below_all hrs.out hin hj (.inl HJ.out)) hsh.out.2.2.2
              have hm2 : Hid (∀ x, x ∈ xs.take j ++ t :: xs.drop j ↔ x ∈ ss.take (k + 1)) := fun x => by
                rw [mem_insert, HTK.out, List.mem_append, ← hmem.out x]
                simp
                exact Or.comm
              have hlen : (xs.take j ++ t :: xs.drop j).length = xs.length + 1 := by simp; omega
              have hown' : (wr.drewN nq).ownsRow w.heap.size 9 1 (.slice (some ⟨g2, 0, none⟩) (xs.length + 1) cap2) (xs.length + 1) ys := hown
              have hbr' := below_drewN' hbr nq
              have o5 := (hown'.stored j (.string t)).1
              rw [hins, ← hlen] at o5
              have HL : Hid ((xs.take j ++ t :: xs.drop j).length = xs.length + 1) := hlen
              have O5 : Hid (((wr.drewN nq).setCell ⟨g2, j, none⟩ (.string t)).ownsRow w.heap.size 9 1 (.slice (some ⟨g2, 0, none⟩) (xs.length + 1) cap2) (xs.take j ++ t :: xs.drop j).length (strsV (xs.take j ++ t :: xs.drop j))) := by
                have h6 := (hown'.stored j (.string t)).1
                rw [hins] at h6
                show World.ownsRow _ _ _ _ _ _ _
                rw [hlen]; exact h6
              clear o5 hins hlen
              go_wp2
              go_roundw
              case rel => exact ⟨k + 1, xs.take j ++ t :: xs.drop j, by omega, by go_num, (by have := HL.out; omega), O5.out, hrise, hm2, hbr'.setCell (p := ⟨g2, j, none⟩) hgl _⟩
              case measure => simp [intOf]; omega
      · have he : k = ss.length := by omega
        subst he
        clear hc
        have hm2 := hmem.out
        rw [List.take_length] at hm2
        go_wp2
        go_ret
        exact ⟨_, xs, rfl, hown, hrs.out, hm2, hxl, hbr⟩
end Go.Proofs.Ytdiopkegaeliaaa

/-! Contracts of two functions of the library (the first place of a byte in a text; a copy of a text), taken over from the library of contracts at the numbers of this program; conditions as each says. -/
namespace Go.Proofs
open Go.Shelf
def Try.laysM316_ren : Go.Shelf.Ren := ⟨fun | 316 => 51 | n => n, fun | 9 => 9 | 3 => 3 | 4 => 4 | 37 => 72 | 0 => 0 | 127 => 103 | 5 => 5 | n => n, fun | n => n⟩
theorem Try.laysM316 : Go.Proofs.LaysM.n316 Try.prog Try.laysM316_ren := {
  mixed := by kernel_rfl
  f316 := Try.func51.trans (congrArg some (by kernel_rfl))
  t0 := Try.underlying0
  a0 := Try.isAgg0
  z0 := Try.sizeOf0
  v0 := Try.zeroValue0
  t3 := Try.underlying3
  a3 := Try.isAgg3
  z3 := Try.sizeOf3
  v3 := Try.zeroValue3
  t4 := Try.underlying4
  a4 := Try.isAgg4
  z4 := Try.sizeOf4
  v4 := Try.zeroValue4
  t9 := Try.underlying9
  a9 := Try.isAgg9
  z9 := Try.sizeOf9
  v9 := Try.zeroValue9
  t37 := Try.underlying72
  a37 := Try.isAgg72
  z37 := Try.sizeOf72
  v37 := Try.zeroValue72
  t127 := Try.underlying103
  a127 := Try.isAgg103
  z127 := Try.sizeOf103
  v127 := Try.zeroValue103
  t5 := Try.underlying5
  a5 := Try.isAgg5
  z5 := Try.sizeOf5
  v5 := Try.zeroValue5
  i0 := by kernel_rfl
  i3 := by kernel_rfl
  i4 := by kernel_rfl
  i5 := by kernel_rfl
  i9 := by kernel_rfl
  i37 := by kernel_rfl
  i127 := by kernel_rfl }
open Go.RowKit in
theorem Try.stringslite_Clone (s : ByteArray) (w : World) (hlim : s.size ≤ 281474976710656) :
    Calls Try.prog 51 #[.string s] w fun e w' => e = .returned (.string s) ∧ Below w.heap.size w w' := Any.stringslite_Clone Try.laysM316 s w hlim
end Go.Proofs

/-! The contracts of the library for sorting a list of texts and for leaving out what is alike side by side, taken over from the library of contracts at the numbers of this program; conditions as each says. -/
namespace Go.Proofs
open Go.Shelf
def Try.lays190_ren : Go.Shelf.Ren := ⟨fun | 190 => 36 | 125 => 50 | 258 => 49 | 128 => 63 | 129 => 64 | 302 => 54 | 303 => 55 | 304 => 56 | 305 => 57 | 306 => 58 | 307 => 59 | 308 => 60 | 309 => 61 | 310 => 62 | 333 => 65 | 329 => 66 | 330 => 67 | 334 => 68 | 335 => 69 | 336 => 70 | 344 => 71 | n => n, fun | 31 => 23 | 9 => 9 | 3 => 3 | 46 => 88 | 0 => 0 | 51 => 100 | 53 => 102 | 4 => 4 | 183 => 93 | 182 => 92 | 131 => 97 | 5 => 5 | 218 => 104 | 222 => 108 | 228 => 111 | 229 => 112 | n => n, fun | n => n⟩
theorem Try.lays190 : Go.Proofs.Lays.n190 Try.prog Try.lays190_ren := {
  mixed := by kernel_rfl
  f125 := Try.func50.trans (congrArg some (by kernel_rfl))
  f128 := Try.func63.trans (congrArg some (by kernel_rfl))
  f129 := Try.func64.trans (congrArg some (by kernel_rfl))
  f190 := Try.func36.trans (congrArg some (by kernel_rfl))
  f258 := Try.func49.trans (congrArg some (by kernel_rfl))
  f302 := Try.func54.trans (congrArg some (by kernel_rfl))
  f303 := Try.func55.trans (congrArg some (by kernel_rfl))
  f304 := Try.func56.trans (congrArg some (by kernel_rfl))
  f305 := Try.func57.trans (congrArg some (by kernel_rfl))
  f306 := Try.func58.trans (congrArg some (by kernel_rfl))
  f307 := Try.func59.trans (congrArg some (by kernel_rfl))
  f308 := Try.func60.trans (congrArg some (by kernel_rfl))
  f309 := Try.func61.trans (congrArg some (by kernel_rfl))
  f310 := Try.func62.trans (congrArg some (by kernel_rfl))
  f329 := Try.func66.trans (congrArg some (by kernel_rfl))
  f330 := Try.func67.trans (congrArg some (by kernel_rfl))
  f333 := Try.func65.trans (congrArg some (by kernel_rfl))
  f334 := Try.func68.trans (congrArg some (by kernel_rfl))
  f335 := Try.func69.trans (congrArg some (by kernel_rfl))
  f336 := Try.func70.trans (congrArg some (by kernel_rfl))
  f344 := Try.func71.trans (congrArg some (by kernel_rfl))
  t0 := Try.underlying0
  a0 := Try.isAgg0
  z0 := Try.sizeOf0
  v0 := Try.zeroValue0
  t3 := Try.underlying3
  a3 := Try.isAgg3
  z3 := Try.sizeOf3
  v3 := Try.zeroValue3
  t4 := Try.underlying4
  a4 := Try.isAgg4
  z4 := Try.sizeOf4
  v4 := Try.zeroValue4
  t5 := Try.underlying5
  a5 := Try.isAgg5
  z5 := Try.sizeOf5
  v5 := Try.zeroValue5
  t9 := Try.underlying9
  a9 := Try.isAgg9
  z9 := Try.sizeOf9
  v9 := Try.zeroValue9
  t31 := Try.underlying23
  a31 := Try.isAgg23
  z31 := Try.sizeOf23
  v31 := Try.zeroValue23
  t46 := Try.underlying88
  a46 := Try.isAgg88
  z46 := Try.sizeOf88
  v46 := Try.zeroValue88
  t51 := Try.underlying100
  a51 := Try.isAgg100
  z51 := Try.sizeOf100
  v51 := Try.zeroValue100
  t53 := Try.underlying102
  a53 := Try.isAgg102
  z53 := Try.sizeOf102
  v53 := Try.zeroValue102
  t131 := Try.underlying97
  a131 := Try.isAgg97
  z131 := Try.sizeOf97
  v131 := Try.zeroValue97
  t182 := Try.underlying92
  a182 := Try.isAgg92
  z182 := Try.sizeOf92
  v182 := Try.zeroValue92
  t183 := Try.underlying93
  a183 := Try.isAgg93
  z183 := Try.sizeOf93
  v183 := Try.zeroValue93
  t218 := Try.underlying104
  a218 := Try.isAgg104
  z218 := Try.sizeOf104
  v218 := Try.zeroValue104
  t222 := Try.underlying108
  a222 := Try.isAgg108
  z222 := Try.sizeOf108
  v222 := Try.zeroValue108
  t228 := Try.underlying111
  a228 := Try.isAgg111
  z228 := Try.sizeOf111
  v228 := Try.zeroValue111
  t229 := Try.underlying112
  a229 := Try.isAgg112
  z229 := Try.sizeOf112
  v229 := Try.zeroValue112 }
open Go.Sort Go.RowKit in
theorem Try.slices_Sort_string (blk off cap : Nat) (ss : List (List UInt8)) (w : World) (hH : Holds encStr w blk off ss.toArray) (hblk : blk < w.heap.size) (hsz : ss.length < 4611686018427387904) :
    Calls Try.prog 36 #[.slice (some ⟨blk, off, none⟩) ss.length cap] w fun e w' =>
      e = .returned (.tuple #[]) ∧ ∃ n os, w' = grow (putRow encStr (Sort.ahead w n) blk off (ss.mergeSort fun x y => decide (x ≤ y)).toArray) os := Any.slices_Sort_string Try.lays190 blk off cap ss w hH hblk hsz
def Try.lays194_ren : Go.Shelf.Ren := ⟨fun | 194 => 37 | n => n, fun | 31 => 23 | 9 => 9 | 3 => 3 | 4 => 4 | 0 => 0 | n => n, fun | n => n⟩
theorem Try.lays194 : Go.Proofs.Lays.n194 Try.prog Try.lays194_ren := {
  mixed := by kernel_rfl
  f194 := Try.func37.trans (congrArg some (by kernel_rfl))
  t0 := Try.underlying0
  a0 := Try.isAgg0
  z0 := Try.sizeOf0
  v0 := Try.zeroValue0
  t3 := Try.underlying3
  a3 := Try.isAgg3
  z3 := Try.sizeOf3
  v3 := Try.zeroValue3
  t4 := Try.underlying4
  a4 := Try.isAgg4
  z4 := Try.sizeOf4
  v4 := Try.zeroValue4
  t9 := Try.underlying9
  a9 := Try.isAgg9
  z9 := Try.sizeOf9
  v9 := Try.zeroValue9
  t31 := Try.underlying23
  a31 := Try.isAgg23
  z31 := Try.sizeOf23
  v31 := Try.zeroValue23 }
open Go.RowKit Go.Lib Go.Sort in
theorem Try.slices_Compact_string_arr (blk off cap : Nat) (d : Array (List UInt8)) (w : World) (hH : Holds encStr w blk off d) (hsz : d.size ≤ 9223372036854775807) (hcap : d.size ≤ cap) :
    Calls Try.prog 37 #[.slice (some ⟨blk, off, none⟩) d.size cap] w fun e w' => e = .returned (.slice (some ⟨blk, off, none⟩) (compactUpTo d d.size).length cap) ∧ ∃ q, w' = putRow encStr (Sort.ahead w q) blk off (compactUpTo d d.size ++ List.replicate (d.size - (compactUpTo d d.size).length) []).toArray := Any.slices_Compact_string_arr Try.lays194 blk off cap d w hH hsz hcap
open Go.RowKit Go.Lib Go.Sort in
theorem Try.slices_Compact_string (blk off cap : Nat) (zs : List (List UInt8)) (w : World) (hH : Holds encStr w blk off zs.toArray) (hsz : zs.length ≤ 9223372036854775807) (hcap : zs.length ≤ cap) :
    Calls Try.prog 37 #[.slice (some ⟨blk, off, none⟩) zs.length cap] w fun e w' => e = .returned (.slice (some ⟨blk, off, none⟩) (Lib.compact zs).length cap) ∧ ∃ q, w' = putRow encStr (Sort.ahead w q) blk off (Lib.compact zs ++ List.replicate (zs.length - (Lib.compact zs).length) []).toArray := Any.slices_Compact_string Try.lays194 blk off cap zs w hH hsz hcap
open Go.RowKit Go.Lib Go.Sort in
theorem Try.slices_Compact_string_empty (a : Option Addr) (cap : Nat) (w : World) :
    Calls Try.prog 37 #[.slice a 0 cap] w fun e w' => e = .returned (.slice a 0 cap) ∧ w' = w := Any.slices_Compact_string_empty Try.lays194 a cap w
open Go.RowKit Go.Sort in
theorem Try.slices_Sort_string_none (p : Option Addr) (cap : Nat) (w : World) :
    Calls Try.prog 36 #[.slice p 0 cap] w fun e w' => e = .returned (.tuple #[]) ∧ w' = w := Any.slices_Sort_string_none Try.lays190 p cap w
end Go.Proofs

/-! What the program's Sorted answers: a list that rises and has the members of the list handed in, in memory of its own; conditions: the list lies in memory as told and has at most 2 to the 20 texts, each of at most 2 to the 20 bytes. -/
namespace Go.Proofs.Ytdiopkegaeliaaa
open Go.RowKit Go.Sort
set_option linter.unusedSimpArgs false
set_option linter.unusedVariables false

/-! ### What is left of a list in order when what is alike side by side is left out -/
theorem compact_sub (zs : List (List UInt8)) : ∀ m, m ≤ zs.length → ∀ x, x ∈ Lib.compactUpTo zs.toArray m ↔ x ∈ zs.take m
  | 0, _, x => by simp [Lib.compactUpTo]
  | m + 1, h, x => by
    have ih := compact_sub zs m (by omega)
    have hb : zs.toArray[m]! = zs[m] := by simp [show m < zs.length by omega]
    rw [Lib.compactUpTo_succ, List.mem_append, ih x, List.take_succ_eq_append_getElem (by omega), List.mem_append, List.mem_singleton]
    cases hk : Lib.keeps zs.toArray m with
    | true => rw [if_pos rfl, List.mem_singleton, hb]
    | false =>
      rw [if_neg (by simp)]
      constructor
      · rintro (h1 | h1)
        · exact .inl h1
        · simp at h1
      · rintro (h1 | h1)
        · exact .inl h1
        · refine .inl ?_
          have hm : ¬ m = 0 ∧ zs.toArray[m]! = zs.toArray[m - 1]! := by
            simp only [Lib.keeps, decide_eq_false_iff_not] at hk
            exact ⟨fun e => hk (.inl e), Classical.byContradiction fun e => hk (.inr e)⟩
          have hb1 : zs.toArray[m - 1]! = zs[m - 1] := by simp [show m - 1 < zs.length by omega]
          rw [h1, ← hb, hm.2, hb1]
          rw [List.mem_take_iff_getElem]
          exact ⟨m - 1, by omega, rfl⟩

theorem compact_mem (zs : List (List UInt8)) (x : List UInt8) : x ∈ Lib.compact zs ↔ x ∈ zs := by
  rw [Lib.compact, compact_sub zs zs.length (Nat.le_refl _), List.take_length]

theorem compact_rises (zs : List (List UInt8)) (h : zs.Pairwise (· ≤ ·)) : Rises (Lib.compact zs) := by
  unfold Rises Lib.compact Lib.compactUpTo
  rw [List.pairwise_map]
  refine List.Pairwise.imp_of_mem ?_ ((List.pairwise_lt_range (n := zs.length)).filter _)
  intro i j hi hj hij
  have hil := List.mem_range.1 (List.mem_filter.1 hi).1
  have hjl := List.mem_range.1 (List.mem_filter.1 hj).1
  have hk := (List.mem_filter.1 hj).2
  have e1 : zs.toArray[i]! = zs[i] := by simp [hil]
  have e2 : zs.toArray[j]! = zs[j] := by simp [hjl]
  have e3 : zs.toArray[j - 1]! = zs[j - 1] := by simp [show j - 1 < zs.length by omega]
  rw [e1, e2]
  simp only [Lib.keeps, decide_eq_true_eq] at hk
  have hne : zs[j] ≠ zs[j - 1] := by
    rcases hk with h0 | h0
    · omega
    · rw [e2, e3] at h0; exact h0
  have hp := List.pairwise_iff_getElem.1 h
  have h2 := hp (j - 1) j (by omega) hjl (by omega)
  have hlt : zs[j - 1] < zs[j] := by
    by_cases k : zs[j - 1] < zs[j]
    · exact k
    · exact absurd (List.le_antisymm (by simpa using k) h2) hne
  by_cases e : i = j - 1
  · subst e; exact hlt
  · have h1 := hp i (j - 1) hil (by omega) (by omega)
    by_cases k : zs[i] < zs[j - 1]
    · exact ltL_trans k hlt
    · have : zs[i] = zs[j - 1] := List.le_antisymm h1 (by simpa using k)
      rw [this]; exact hlt

def sortL (L : List (List UInt8)) : List (List UInt8) := L.mergeSort fun x y => decide (x ≤ y)
theorem sortL_le (L : List (List UInt8)) : (sortL L).Pairwise (· ≤ ·) := by
  have := List.pairwise_mergeSort (le := fun x y : List UInt8 => decide (x ≤ y)) (fun a b c h1 h2 => by simp at h1 h2 ⊢; exact List.le_trans h1 h2) (fun a b => by simp; exact List.le_total a b) L
  exact this.imp (fun h => by simpa using h)
theorem sortL_mem (L : List (List UInt8)) (x : List UInt8) : x ∈ sortL L ↔ x ∈ L := List.mem_mergeSort
theorem sortL_len (L : List (List UInt8)) : (sortL L).length = L.length := List.length_mergeSort L

def strOf' (l : List UInt8) : ByteArray := ⟨l.toArray⟩
theorem bytesL_strOf (l : List UInt8) : bytesL (strOf' l) = l := by simp [bytesL, strOf']
theorem strOf_bytesL (s : ByteArray) : strOf' (bytesL s) = s := by simp [bytesL, strOf']
theorem enc_bytes (ss : List ByteArray) : (ss.map bytesL).map encStr = strsV ss := by
  simp [strsV, encStr, bytesL]
theorem enc_strs (C : List (List UInt8)) : C.map encStr = strsV (C.map strOf') := by
  simp [strsV, encStr, strOf']

/-- What the program's Sorted answers. -/
def sortedS (ss : List ByteArray) : List ByteArray := (Lib.compact (sortL (ss.map bytesL))).map strOf'
theorem sortedS_rises (ss : List ByteArray) : risesS (sortedS ss) := by
  unfold risesS sortedS
  rw [List.map_map]
  have : (bytesL ∘ strOf') = id := by funext l; exact bytesL_strOf l
  rw [this, List.map_id]
  exact compact_rises _ (sortL_le _)
theorem sortedS_mem (ss : List ByteArray) (x : ByteArray) : x ∈ sortedS ss ↔ x ∈ ss := by
  unfold sortedS
  rw [List.mem_map]
  constructor
  · rintro ⟨l, hl, rfl⟩
    rw [compact_mem, sortL_mem, List.mem_map] at hl
    obtain ⟨s, hs, rfl⟩ := hl
    rw [strOf_bytesL]; exact hs
  · intro h
    exact ⟨bytesL x, by rw [compact_mem, sortL_mem]; exact List.mem_map.2 ⟨x, h, rfl⟩, strOf_bytesL x⟩
theorem compact_len (zs : List (List UInt8)) : (Lib.compact zs).length ≤ zs.length := by
  unfold Lib.compact Lib.compactUpTo
  rw [List.length_map]
  exact Nat.le_trans (List.length_filter_le _ _) (by simp)

theorem own_cut {w : World} {base : Nat} {e : TypeId} {g n m cap : Nat} {xs : List Value} (h : w.ownsRow base e 1 (.slice (some ⟨g, 0, none⟩) n cap) n xs) (hm : m ≤ n) : w.ownsRow base e 1 (.slice (some ⟨g, 0, none⟩) m cap) m (xs.take m) := by
  have hl : xs.length = n := by simpa using h.1
  refine ⟨by simp; omega, ?_⟩
  rcases h.2 with ⟨h', _⟩ | ⟨g', cap', cur, h', hb, hg, hn, hc, hs, ht⟩
  · simp at h'
  · simp only [Value.slice.injEq, Option.some.injEq, Addr.mk.injEq, and_true, true_and] at h'
    obtain ⟨rfl, rfl⟩ := h'
    refine .inr ⟨g, cap, cur, rfl, hb, hg, by omega, hc, hs, ?_⟩
    rw [← ht, List.take_take, Nat.mul_one, Nat.mul_one, Nat.min_eq_left hm]

theorem cloneW_c (s : ByteArray) (w : World) (h : s.size ≤ 4194304) : Calls Try.prog 38 #[.string s] w fun e w' => e = .returned (.string s) ∧ Below w.heap.size w w' := by
  go_enter Try.func38, Try.ntmps38
  go_wp2_with (go_at_call 51; refine (Try.stringslite_Clone s _ (by omega)).mono ?_; rintro e w1 ⟨rfl, b1⟩)
  go_ret
  exact ⟨rfl, b1⟩

theorem cloneB_c (s : ByteArray) (w : World) (h : s.size ≤ 1048576) : Calls Try.prog 38 #[.string s] w fun e w' => e = .returned (.string s) ∧ Below w.heap.size w w' := cloneW_c s w (by omega)

theorem size9 : (Try.prog.info? 9).map (·.size) = some 1 := by kernel_rfl
theorem strs_oneCell (ss : List ByteArray) : ∀ u ∈ strsV ss, u.oneCell' = true := fun u hu => by
  obtain ⟨s, _, rfl⟩ := List.mem_map.1 hu
  rfl

/-- The sort at a row of the call's own. -/
theorem sort_c (base g cap : Nat) (ss : List ByteArray) (w : World) (ho : w.ownsRow base 9 1 (.slice (some ⟨g, 0, none⟩) ss.length cap) ss.length (strsV ss)) (hn : ss.length ≤ 1048576) :
    Calls Try.prog 36 #[.slice (some ⟨g, 0, none⟩) ss.length cap] w fun e w' => e = .returned (.tuple #[]) ∧ w'.ownsRow base 9 1 (.slice (some ⟨g, 0, none⟩) ss.length cap) ss.length ((sortL (ss.map bytesL)).map encStr) ∧ w.grownBy w' (some g) := by
  rcases ho.2 with ⟨h', _⟩ | ⟨g', cap', cur, h', hb, hg, hn1, hc, hs, ht⟩
  · simp at h'
  · simp only [Value.slice.injEq, Option.some.injEq, Addr.mk.injEq, and_true, true_and] at h'
    obtain ⟨rfl, rfl⟩ := h'
    have hH : Holds encStr w g 0 (ss.map bytesL).toArray := holds_of_block hg (by rw [List.length_map, enc_bytes]; simpa using ht)
    have hc1 := Try.slices_Sort_string g 0 cap (ss.map bytesL) w hH (Array.getElem?_eq_some_iff.1 hg).1 (by rw [List.length_map]; omega)
    rw [List.length_map] at hc1
    refine hc1.mono fun e w' ⟨h1, n, os, h2⟩ => ?_
    subst h2
    refine ⟨h1, ?_, grownBy_sorted _⟩
    have := ownsRow_sorted (n := n) (os := os) (ss := ss.map bytesL) (ts := sortL (ss.map bytesL)) (sortL_len _) hb hg (by rw [List.length_map]; exact hn1) hc hs
    rw [List.length_map] at this
    exact this

/-- Leaving out what is alike side by side, at a row of the call's own. -/
theorem compact_c (base g cap : Nat) (L : List (List UInt8)) (w : World) (ho : w.ownsRow base 9 1 (.slice (some ⟨g, 0, none⟩) L.length cap) L.length (L.map encStr)) (hn : L.length ≤ 1048576) :
    Calls Try.prog 37 #[.slice (some ⟨g, 0, none⟩) L.length cap] w fun e w' => e = .returned (.slice (some ⟨g, 0, none⟩) (Lib.compact L).length cap) ∧ w'.ownsRow base 9 1 (.slice (some ⟨g, 0, none⟩) (Lib.compact L).length cap) (Lib.compact L).length ((Lib.compact L).map encStr) ∧ w.grownBy w' (some g) := by
  rcases ho.2 with ⟨h', _⟩ | ⟨g', cap', cur, h', hb, hg, hn1, hc, hs, ht⟩
  · simp at h'
  · simp only [Value.slice.injEq, Option.some.injEq, Addr.mk.injEq, and_true, true_and] at h'
    obtain ⟨rfl, rfl⟩ := h'
    have hH : Holds encStr w g 0 L.toArray := holds_of_block hg (by simpa using ht)
    have hc1 := Try.slices_Compact_string g 0 cap L w hH (by omega) hn1
    refine hc1.mono fun e w' ⟨h1, q, h2⟩ => ?_
    have hcl := compact_len L
    have hl2 : (Lib.compact L ++ List.replicate (L.length - (Lib.compact L).length) []).length = L.length := by simp; omega
    have h3 : w' = grow (putRow encStr (Sort.ahead w q) g 0 (Lib.compact L ++ List.replicate (L.length - (Lib.compact L).length) []).toArray) #[] := by rw [grow_empty]; exact h2
    subst h3
    refine ⟨h1, ?_, grownBy_sorted _⟩
    have := own_cut (ownsRow_sorted (n := q) (os := #[]) (ss := L) (ts := Lib.compact L ++ List.replicate (L.length - (Lib.compact L).length) []) hl2 hb hg hn1 hc hs) hcl
    rw [List.map_append, List.take_append_of_le_length (by simp), List.take_of_length_le (by simp)] at this
    exact this

set_option maxHeartbeats 4000000 in
set_option maxRecDepth 100000 in
theorem implSortedW_c (v : Value) (ss : List ByteArray) (w : World) (hv : Reads w v (strsV ss)) (hn : ss.length ≤ 1048576) (hs : ∀ s ∈ ss, s.size ≤ 4194304) :
    Calls Try.prog 23 #[v] w fun e w' => ∃ u, e = .returned u ∧ w'.ownsRow w.heap.size 9 1 u (sortedS ss).length (strsV (sortedS ss)) ∧ Below w.heap.size w w' := by
  obtain ⟨a, cap, hvv, _, hc⟩ := hv
  rw [length_strsV] at hvv
  subst hvv
  obtain ⟨i0, hi, hz0, hz1, hz2⟩ := info_parts infoS
  have hpos : ∀ w1, Below w.heap.size w w1 → 0 < (strsV ss).length → ∃ ad, a = some ad ∧ ∀ j v, (strsV ss)[j]? = some v → w1.cell? (ad.add j) = some v := fun w1 hb1 h0 => by
    rcases hc with h | ⟨b, off, ha, hlt, hc⟩
    · rw [h] at h0; simp at h0
    · refine ⟨_, ha, fun j v hj => ?_⟩
      rw [show ((⟨b, off, none⟩ : Addr).add j) = ⟨b, off + j, none⟩ by unfold Addr.add; split <;> simp_all, hb1.cell (p := ⟨b, off + j, none⟩) hlt]
      obtain ⟨hjl, e⟩ := List.getElem?_eq_some_iff.1 hj
      rw [hc j hjl, e]
  have HP : Hid (∀ w1, Below w.heap.size w w1 → 0 < (strsV ss).length → ∃ ad, a = some ad ∧ ∀ j v, (strsV ss)[j]? = some v → w1.cell? (ad.add j) = some v) := hpos
  clear hc hpos
  have hss : ∀ x ∈ sortedS ss, x.size ≤ 4194304 := fun x hx => hs x ((sortedS_mem ss x).1 hx)
  have hcl := compact_len (sortL (ss.map bytesL))
  have hsl : (sortL (ss.map bytesL)).length = ss.length := by rw [sortL_len, List.length_map]
  have hyl2 : (sortedS ss).length = (Lib.compact (sortL (ss.map bytesL))).length := by simp [sortedS]
  have hst : (Lib.compact (sortL (ss.map bytesL))).map encStr = strsV (sortedS ss) := enc_strs _
  have hsort := fun w2 h => sort_c w.heap.size w.heap.size ss.length ss w2 h hn
  have hcomp := fun w3 h => compact_c w.heap.size w.heap.size ss.length (sortL (ss.map bytesL)) w3 h (by omega)
  rw [hsl] at hcomp hcl
  rw [hst, ← hyl2] at hcomp
  rw [← hyl2] at hcl
  obtain ⟨rs, hrs⟩ : ∃ rs, rs = sortedS ss := ⟨_, rfl⟩
  rw [← hrs] at hcomp hcl hss ⊢
  clear hst hyl2 hsl hrs hs
  go_enter Try.func23, Try.ntmps23
  go_wp2_with (first
    | (at_make; refine wpList_make_full _ rfl _ _ 23 rfl w.heap.size 9 i0 (.string ⟨#[]⟩) 1 Try.underlying23 hi hz0 hz1 _ _ _ _ ss.length rfl rfl rfl rfl (by rw [hz2]; omega) (by unfold maxLen; omega) (Nat.le_refl _) ?_))
  intro w1 o1 gr1
  have hb1 := below_of_grown gr1
  have hh1 : ∃ ys : List Value, ys.length = ss.length ∧ w1.heap[w.heap.size]? = some (.cells ys.toArray 9 (0, 0)) := by
    have hl : (madeCells #[Value.string ⟨#[]⟩] ss.length).toList.length = ss.length := by simp [size_madeCells]
    rcases o1.2 with ⟨h', _⟩ | ⟨g', cap', cur, h', hb, hg, hn1, hcc, hss, ht⟩
    · simp at h'
    · simp only [Value.slice.injEq, Option.some.injEq, Addr.mk.injEq, and_true, true_and] at h'
      obtain ⟨h1, h2⟩ := h'
      rw [← h1] at hg
      exact ⟨cur.toList, by rw [Array.length_toList, hss, ← h2]; omega, by simpa using hg⟩
  obtain ⟨ys, hyl, hhy⟩ := hh1
  clear o1 gr1
  go_wp2_with (first
    | (refine wpList_copy_splice rfl _ _ 23 23 rfl 9 Try.underlying23 size9 _ _ _ _ _ _ rfl rfl w.heap.size 0 ys 9 hhy (strsV ss) (by simp) (fun h0 => ⟨rfl, HP.out w1 hb1 h0⟩) (by simp [hyl]) (strs_oneCell ss) w.heap.size w hb1 (Nat.le_refl _) ?_))
  intro w2 hh2 hb2
  have o2 : w2.ownsRow w.heap.size 9 1 (.slice (some ⟨w.heap.size, 0, none⟩) ss.length ss.length) ss.length (strsV ss) := by
    have := hh2.out
    rw [show splice ys 0 (strsV ss) = strsV ss by simp [splice, hyl]] at this
    exact ⟨by simp, .inr ⟨_, _, _, rfl, Nat.le_refl _, this, Nat.le_refl _, by unfold maxLen; omega, by simp, by simp [← length_strsV]⟩⟩
  clear hh2 hhy hyl hb1 HP
  go_wp2_with (first
    | (go_at_call 36; refine (hsort _ o2).mono ?_; rintro e w3 ⟨rfl, o3, g3⟩
       have c3 : Below w.heap.size w w3 := Below.grown hb2 g3 hb2.size (fun j hj => by simp at hj; omega)
       clear hsort)
    | (go_at_call 37; refine (hcomp _ o3).mono ?_; rintro e w4 ⟨rfl, o4, g4⟩
       have c4 : Below w.heap.size w w4 := Below.grown c3 g4 c3.size (fun j hj => by simp at hj; omega)
       clear hcomp o3))
  go_loopw [18] (fun vi wr => ∃ k : Nat, k ≤ rs.length ∧ vi = .int .i64 (k : Int) ∧ wr.ownsRow w.heap.size 9 1 (.slice (some ⟨w.heap.size, 0, none⟩) rs.length ss.length) rs.length (strsV rs) ∧ Below w.heap.size w wr) (fun vi _ => rs.length - (intOf vi).toNat)
  case atStart => exact ⟨0, Nat.zero_le _, rfl, o4, c4⟩
  case round =>
    obtain ⟨k, hk, rfl, hown, hbr⟩ := hrel
    clear o4 c4 g3 g4 c3 hb2 o2
    by_cases hlt' : k < rs.length
    · have hcx : wr.cell? ⟨w.heap.size, k, none⟩ = some (.string rs[k]) := by
        rw [hown.cellAt k (by omega), strsV_at rs k hlt']
      have hki : (k : Int) < (rs.length : Int) := by omega
      have htz := hss rs[k] (List.getElem_mem hlt')
      have hset : (strsV rs).set k (.string rs[k]) = strsV rs := by
        apply List.ext_getElem?
        intro i
        rw [List.getElem?_set]
        by_cases e : k = i
        · subst e; rw [if_pos rfl, if_pos (by simpa using hlt'), strsV_at rs k hlt']
        · rw [if_neg e]
      obtain ⟨t, ht⟩ : ∃ t, t = rs[k] := ⟨_, rfl⟩
      rw [← ht] at hcx htz hset
      have HS : Hid ((strsV rs).set k (.string t) = strsV rs) := hset
      clear ht hset hss
      go_wp2_with (
        go_at_call 38
        refine (cloneW_c t _ htz).mono ?_
        rintro e w5 ⟨rfl, b5⟩
        have hown5 := owns_of_below hown b5
        have hcx5 : w5.cell? ⟨w.heap.size, k, none⟩ = some (.string t) := (b5.cell (p := ⟨w.heap.size, k, none⟩) (hown.lt w.heap.size rfl).2).trans hcx
        have hfr := hown5.frozenAt k
        have hbr5 := hbr.trans (b5.mono hbr.size)
        clear hown hcx hbr)
      go_roundw
      case rel => exact ⟨k + 1, by omega, by go_num, (by have := (hown5.stored k (.string t)).1; rw [HS.out] at this; exact this), hbr5.setCell (p := ⟨w.heap.size, k, none⟩) (Nat.le_refl _) _⟩
      case measure => simp [intOf]; omega
    · have he : k = rs.length := by omega
      subst he
      go_wp2
      go_ret
      exact ⟨_, rfl, hown, hbr⟩
theorem implSorted_c (v : Value) (ss : List ByteArray) (w : World) (hv : Reads w v (strsV ss)) (hn : ss.length ≤ 1048576) (hs : ∀ s ∈ ss, s.size ≤ 1048576) :
    Calls Try.prog 23 #[v] w fun e w' => ∃ u, e = .returned u ∧ w'.ownsRow w.heap.size 9 1 u (sortedS ss).length (strsV (sortedS ss)) ∧ Below w.heap.size w w' := implSortedW_c v ss w hv hn (fun x hx => Nat.le_trans (hs x hx) (by decide))
end Go.Proofs.Ytdiopkegaeliaaa

/-! Who uses a pack, as the specification answers it: a contract for the walks; conditions: the row of packs lies in memory, and holds at most 2 to the 20. -/
namespace Go.Proofs.Ytdiopkegaeliaaa
open Go.RowKit
set_option linter.unusedSimpArgs false
set_option linter.unusedVariables false

theorem owns_slG {w : World} {lo sz n : Nat} {e : TypeId} {v : Value} {xs : List Value} (h : w.ownsRow lo e sz v n xs) : ∃ q cap, v = .slice q n cap := by
  rcases h.2 with ⟨h1, h0⟩ | ⟨g, cap, cur, h1, _⟩
  · exact ⟨none, 0, by rw [h1, h0]⟩
  · exact ⟨_, _, h1⟩
/-- The names of the packs whose uses have a text, in their order. -/
def usersL (xs : List PackD) (s : ByteArray) : List ByteArray := (xs.filter fun d => hasS d.uses s).map (·.name)
theorem usersL_take (xs : List PackD) (s : ByteArray) (k : Nat) (h : k < xs.length) : usersL (xs.take (k + 1)) s = usersL (xs.take k) s ++ (if hasS xs[k].uses s = true then [xs[k].name] else []) := by
  unfold usersL
  rw [List.take_succ_eq_append_getElem h, List.filter_append, List.map_append]
  congr 1
  by_cases e : hasS xs[k].uses s = true
  · rw [if_pos e, List.filter_cons_of_pos (by simpa using e)]; rfl
  · rw [if_neg e, List.filter_cons_of_neg (by simpa using e)]; rfl
theorem usersL_len (xs : List PackD) (s : ByteArray) : (usersL xs s).length ≤ xs.length := by
  unfold usersL
  rw [List.length_map]
  exact List.length_filter_le _ _
theorem usersL_takeLen (xs : List PackD) (s : ByteArray) (k : Nat) : (usersL (xs.take k) s).length ≤ k := by
  have := usersL_len (xs.take k) s
  have h2 : (xs.take k).length ≤ k := by rw [List.length_take]; omega
  omega
theorem mem_usersL {xs : List PackD} {s x : ByteArray} : x ∈ usersL xs s ↔ ∃ d ∈ xs, s ∈ d.uses ∧ d.name = x := by
  unfold usersL
  rw [List.mem_map]
  constructor
  · rintro ⟨d, hd, rfl⟩
    obtain ⟨h1, h2⟩ := List.mem_filter.1 hd
    exact ⟨d, h1, (hasS_iff _ _).1 h2, rfl⟩
  · rintro ⟨d, h1, h2, rfl⟩
    exact ⟨d, List.mem_filter.2 ⟨h1, (hasS_iff _ _).2 h2⟩, rfl⟩

end Go.Proofs.Ytdiopkegaeliaaa

/-! Entries that lie in memory: what they are: no condition. -/
namespace Go.Proofs.Ytdiopkegaeliaaa
open Go.RowKit
set_option linter.unusedSimpArgs false
set_option linter.unusedVariables false

structure EntryD where
  name : ByteArray
  vA : Int
  vB : Int
  vC : Int
  vP : List ByteArray
  needs : List NeedD
def wtEntry (d : EntryD) : Nat := d.name.size + bulkS d.vP + wtRow wtNeed d.needs
def shEntry : Sh EntryD where
  n := 6
  lies S w cs d := ∃ u0 u1, cs = [.string d.name, .int .i64 d.vA, .int .i64 d.vB, .int .i64 d.vC, u0, u1] ∧ d.name.size ≤ maxLen ∧ RdB S w u0 (strsV d.vP) ∧ saneP d.vP ∧ RowIn shNeed S w u1 d.needs
  keep hk h := by obtain ⟨u0, u1, h0, h1, h2, h3, h4⟩ := h; exact ⟨u0, u1, h0, h1, h2.keep hk, h3, h4.keep hk⟩
  mono hS h := by obtain ⟨u0, u1, h0, h1, h2, h3, h4⟩ := h; exact ⟨u0, u1, h0, h1, h2.mono hS, h3, h4.mono hS⟩
def shEntryO : Sh EntryD where
  n := 6
  lies S w cs d := ∃ u0 u1, cs = [.string d.name, .int .i64 d.vA, .int .i64 d.vB, .int .i64 d.vC, u0, u1] ∧ d.name.size ≤ maxLen ∧ StrsOwn S w u0 d.vP ∧ saneP d.vP ∧ RowOwn shNeed 74 S w u1 d.needs
  keep hk h := by obtain ⟨u0, u1, h0, h1, h2, h3, h4⟩ := h; exact ⟨u0, u1, h0, h1, h2.keep hk, h3, h4.keep hk⟩
  mono hS h := by obtain ⟨u0, u1, h0, h1, h2, h3, h4⟩ := h; exact ⟨u0, u1, h0, h1, h2.mono hS, h3, h4.mono hS⟩
theorem liesEntry_plain {S : Nat → Prop} {w : World} {cs : List Value} {d : EntryD} (h : shEntryO.lies S w cs d) : shEntry.lies S w cs d := by
  obtain ⟨u0, u1, e0, s_name, r0, p0, r1⟩ := h
  exact ⟨u0, u1, e0, s_name, r0.plain, p0, r1.plain⟩
end Go.Proofs.Ytdiopkegaeliaaa

/-! Copies of needs and commands, and of rows of them, in memory of their own, as the law makes them: contracts for the walks; condition: what is copied holds at most 2 to the 20. -/
namespace Go.Proofs.Ytdiopkegaeliaaa
open Go.RowKit
set_option linter.unusedSimpArgs false
set_option linter.unusedVariables false

theorem owns_sliceP {w : World} {lo : Nat} {e : TypeId} {sz n : Nat} {v : Value} {xs : List Value} (hg : w.ownsRow lo e sz v n xs) : ∃ q cap, v = .slice q n cap := by
  rcases hg.2 with ⟨h1, h2⟩ | ⟨g, cap, cur, h1, _⟩
  · exact ⟨none, 0, by rw [h1, h2]⟩
  · exact ⟨_, _, h1⟩
theorem StrsOwn.slice {S : Nat → Prop} {w : World} {u : Value} {ss : List ByteArray} (h : StrsOwn S w u ss) : ∃ q cap, u = .slice q ss.length cap := owns_sliceP h.1
theorem RowOwn.slice {α : Type} {sh : Sh α} {t : TypeId} {S : Nat → Prop} {w : World} {v : Value} {xs : List α} (h : RowOwn sh t S w v xs) : ∃ q cap, v = .slice q xs.length cap := by
  obtain ⟨_, ys, h1, _⟩ := h; exact owns_sliceP h1

set_option maxHeartbeats 2000000 in
set_option maxRecDepth 100000 in
theorem toNeed_c (S : Nat → Prop) (d : NeedD) (cs : List Value) (w : World) (hd : shNeed.lies S w cs d) (hB : ∀ b, S b → b < w.heap.size) (hw : wtNeed d ≤ 1048576) :
    Calls Try.prog 44 #[.agg cs.toArray] w fun e w' => ∃ cs', e = .returned (.agg cs'.toArray) ∧ shNeed.lies (Ow w.heap.size w'.heap.size) w' cs' d ∧ Below w.heap.size w w' := by
  obtain ⟨rfl, s_n, s_r⟩ := hd
  have hb3 : ∀ A R O, Below w.heap.size w (((w.alloc A).alloc R).alloc O) := fun A R O => (((Below.refl _ _).alloc (Nat.le_refl _) _).alloc (by simp) _).alloc (by simp; omega) _
  go_enter Try.func44, Try.ntmps44
  go_wp2_with fail
  refine bodyPost_ret (v := .agg #[.string d.n, .string d.r]) (by simp [results, Try.results44, go_sem]) rfl ⟨_, rfl, ⟨rfl, s_n, s_r⟩, ?_⟩
  exact hb3 _ _ _

set_option maxHeartbeats 2000000 in
set_option maxRecDepth 100000 in
theorem infoNeed : (Try.prog.info? 74).map (fun i => (i.zero, i.size, i.bytes)) = some (some (.agg #[.string ⟨#[]⟩, .string ⟨#[]⟩]), 2, 32) := by kernel_rfl
set_option maxHeartbeats 2000000 in
set_option maxRecDepth 100000 in
theorem toNeedS_c (S : Nat → Prop) (v : Value) (xs : List NeedD) (w : World) (hv : RowIn shNeed S w v xs) (hB : ∀ b, S b → b < w.heap.size) (hw : wtRow wtNeed xs ≤ 1048576) :
    Calls Try.prog 32 #[v] w fun e w' => ∃ g, e = .returned (.slice (some ⟨g, 0, none⟩) xs.length xs.length) ∧ RowOwn shNeed 74 (Ow w.heap.size w'.heap.size) w' (.slice (some ⟨g, 0, none⟩) xs.length xs.length) xs ∧ Below w.heap.size w w' := by
  obtain ⟨a, cap, rfl, hl, hc, ha⟩ := hv
  have hn := len_wtRow wtNeed xs
  have hlm : xs.length ≤ maxLen := hl
  unfold maxLen at hl
  obtain ⟨i0, hi, hz0, hz1, hz2⟩ := info_parts infoNeed
  go_enter Try.func32, Try.ntmps32
  go_wp2_with (first
    | (at_make; refine wpList_make_full _ rfl _ _ 41 rfl w.heap.size 74 i0 _ 2 Try.underlying41 hi hz0 hz1 _ _ _ _ xs.length rfl rfl rfl rfl (by rw [hz2]; omega) (by unfold maxLen; omega) (Nat.le_refl _) ?_))
  intro w1 hown hgrow
  have hb1 := below_of_grown hgrow
  have hs1 : w.heap.size + 1 ≤ w1.heap.size := by
    rcases hown.2 with ⟨h, _⟩ | ⟨g, cap, cur, h, _, hg, _⟩
    · simp at h
    · simp at h
      have := (Array.getElem?_eq_some_iff.1 hg).1
      omega
  obtain ⟨ys1, hown1⟩ : ∃ ys, w1.ownsRow w.heap.size 74 2 (.slice (some ⟨w.heap.size, 0, none⟩) xs.length xs.length) xs.length ys := ⟨_, hown⟩
  clear hgrow hown
  go_wp2_with fail
  go_loopw [4] (fun vi wr => ∃ (k : Nat) (ys : List Value), k ≤ xs.length ∧ vi = .int .i64 (k : Int) ∧ wr.ownsRow w.heap.size 74 2 (.slice (some ⟨w.heap.size, 0, none⟩) xs.length xs.length) xs.length ys ∧ Hid (Laid shNeed (Ow (w.heap.size + 1) wr.heap.size) wr ys xs k) ∧ Below w.heap.size w wr ∧ w.heap.size + 1 ≤ wr.heap.size) (fun vi _ => xs.length - (intOf vi).toNat)
  case atStart => exact ⟨0, ys1, Nat.zero_le _, rfl, hown1, (fun i h h0 => by omega), hb1, hs1⟩
  case round =>
    obtain ⟨k, ys, hk, rfl, hownr, hy, hbr, hsr⟩ := hrel
    by_cases hlt' : k < xs.length
    · rcases ha with rfl | ⟨b, off, rfl, hlt, ha⟩
      · simp at hlt'
      obtain ⟨cs, hL, hcell⟩ := ha k hlt'
      have hL2 := shNeed.keep (.of hbr hB) hL
      have hcell2 := hcell.keep (.of hbr hB) hlt
      have hBr : ∀ b, S b → b < wr.heap.size := fun b h => Nat.lt_of_lt_of_le (hB b h) hbr.size
      have hwt : wtNeed xs[k] ≤ 1048576 := by have := wt_wtRow wtNeed (List.getElem_mem hlt'); omega
      have hown2 : ∀ w2, Below wr.heap.size wr w2 → w2.ownsRow w.heap.size 74 2 (.slice (some ⟨w.heap.size, 0, none⟩) xs.length xs.length) xs.length ys := fun w2 h2 => hownr.kept (grown_of_below h2 none) (by simp [Value.ownBlock])
      have hlen := hownr.1
      have HC : Hid (∀ w2, Below wr.heap.size wr w2 → ∀ j, j < 2 → ∃ x, w2.cell? ⟨w.heap.size, k * 2 + j, none⟩ = some x) := fun w2 h2 j hj => ⟨ys.getD (k * 2 + j) undef, by rw [(hown2 w2 h2).cellAt _ (by omega)]; simp [List.getD_eq_getElem?_getD, show k * 2 + j < ys.length by omega]⟩
      have HF : Hid (∀ w2, Below wr.heap.size wr w2 → ∀ j, w2.frozen? ⟨w.heap.size, j, none⟩ = false) := fun w2 h2 j => (hown2 w2 h2).frozenAt j
      have HO : Hid (∀ w2, Below wr.heap.size wr w2 → w2.ownsRow w.heap.size 74 2 (.slice (some ⟨w.heap.size, 0, none⟩) xs.length xs.length) xs.length ys) := hown2
      have HST : Hid (∀ w2 cs, Below wr.heap.size wr w2 → cs.length = 2 → shNeed.lies (Ow (w.heap.size + 1) w2.heap.size) w2 cs xs[k] → Laid shNeed (Ow (w.heap.size + 1) (setW w2 w.heap.size (k * 2) cs).heap.size) (setW w2 w.heap.size (k * 2) cs) (putL ys (k * 2) cs) xs (k + 1)) := fun w2 cs h2 hc hr => hy.out.step (sh := shNeed) hlt' hlen h2 (by omega) hc hr
      obtain ⟨d, hd⟩ : ∃ d, d = xs[k] := ⟨_, rfl⟩
      rw [← hd] at hL2 hwt HST
      have HC1 := toNeed_c S d cs wr hL2 hBr hwt
      clear ha hL hcell hd hown2 hi hz0 hz1 hz2 hown1 hb1 hlen hwt
      obtain ⟨rfl, s_n, s_r⟩ := hL2
      clear s_n s_r
      have e0 : wr.cell? ⟨b, off + k * 2, none⟩ = some (.string d.n) := hcell2 0 (by simp)
      have e1 : wr.cell? ⟨b, off + k * 2 + 1, none⟩ = some (.string d.r) := hcell2 1 (by simp)
      have HC2 := hidden HC1
      have hki : (k : Int) < (xs.length : Int) := by omega
      clear hcell2 HC1
      go_wp2_with (go_at_call 44; refine HC2.out.mono ?_; rintro e w2 ⟨cs, rfl, hX, hb2⟩; have HX := hidden (HST.out w2 cs hb2 (by have h := hX; obtain ⟨h9, s_n, s_r⟩ := h; rw [h9]; rfl) (shNeed.mono (Ow.mono hsr (Nat.le_refl _)) hX)); obtain ⟨rfl, s_n, s_r⟩ := hX; obtain ⟨y0, d0⟩ := HC.out w2 hb2 0 (by omega); obtain ⟨y1, d1⟩ := HC.out w2 hb2 1 (by omega); rw [Nat.add_zero] at d0; have f9 := HF.out w2 hb2)
      go_roundw
      case rel =>
        refine ⟨k + 1, _, by omega, by go_num, setW_owns [.string d.n, .string d.r] w2 ys (k * 2) (HO.out w2 hb2), HX.out, setW_below (Nat.le_refl _) [.string d.n, .string d.r] w2 w (k * 2) (hbr.trans (hb2.mono hbr.size)), ?_⟩
        have h9 := setW_size [.string d.n, .string d.r] w2 w.heap.size (k * 2)
        have := hb2.size
        exact Nat.le_trans (show w.heap.size + 1 ≤ w2.heap.size by omega) (Nat.le_of_eq h9.symm)
      case measure => simp [intOf]; omega
    · have he : k = xs.length := by omega
      subst he
      clear ha
      go_wp2_with fail
      go_ret
      exact ⟨_, rfl, rowOwn_of hownr hlm hy.out, hbr⟩

set_option maxHeartbeats 2000000 in
set_option maxRecDepth 100000 in
theorem toCmd_c (S : Nat → Prop) (d : CmdD) (cs : List Value) (w : World) (hd : shCmd.lies S w cs d) (hB : ∀ b, S b → b < w.heap.size) (hw : wtCmd d ≤ 1048576) :
    Calls Try.prog 45 #[.agg cs.toArray] w fun e w' => ∃ cs', e = .returned (.agg cs'.toArray) ∧ shCmdO.lies (Ow w.heap.size w'.heap.size) w' cs' d ∧ Below w.heap.size w w' := by
  obtain ⟨u0, rfl, s_t, r0, p0⟩ := hd
  have hb3 : ∀ A R O, Below w.heap.size w (((w.alloc A).alloc R).alloc O) := fun A R O => (((Below.refl _ _).alloc (Nat.le_refl _) _).alloc (by simp) _).alloc (by simp; omega) _
  unfold wtCmd at hw
  have HS0 : Hid (∀ w1, Below w.heap.size w w1 → Calls Try.prog 8 #[u0] w1 fun e w' => ∃ g, e = .returned (.slice (some ⟨g, 0, none⟩) d.acts.length d.acts.length) ∧ StrsOwn (Ow w1.heap.size w'.heap.size) w' (.slice (some ⟨g, 0, none⟩) d.acts.length d.acts.length) d.acts ∧ Below w1.heap.size w1 w') := fun w1 hb =>
    (toStrs_c u0 d.acts w1 ((r0.keep (.of hb hB)).reads (fun b h => Nat.lt_of_lt_of_le (hB b h) hb.size)) (by unfold bulkS at hw; omega)).mono fun e w' ⟨g, h1, h2, h3⟩ => ⟨g, h1, ⟨owns_lo (Nat.zero_le _) h2, owns_in h2⟩, h3⟩
  obtain ⟨a0, cap0, eu0, _⟩ := id r0
  rw [length_strsV] at eu0
  subst eu0
  clear r0
  go_enter Try.func45, Try.ntmps45
  go_wp2_with fail
  go_at_call 8
  refine (HS0.out _ (hb3 _ _ _)).mono ?_
  rintro e w1 ⟨g1, rfl, R0, b1⟩
  obtain ⟨hA1, hR1, hO1⟩ := vthree b1
  have s3 : ∀ A R O, (((w.alloc A).alloc R).alloc O).heap.size = w.heap.size + 1 + 1 + 1 := fun A R O => by simp
  rw [s3] at b1 R0
  have m1 : w.heap.size + 3 ≤ w1.heap.size := by have := b1.size; rw [s3] at this; omega
  have kw1 : Below w.heap.size w w1 := (hb3 _ _ _).trans (b1.mono (by omega))
  replace R0 := R0.mono (S' := Ow (w.heap.size + 3) w1.heap.size) (Ow.mono (by omega) (Nat.le_refl _))
  have m1' : w.heap.size + 3 ≤ w1.heap.size := by omega
  have o0 := vblk_cell hO1 0
  have q0 := vblk_cell hR1 0
  have y0 := vblk_cell hA1 0
  have o1 := vblk_cell hO1 1
  have q1 := vblk_cell hR1 1
  have y1 := vblk_cell hA1 1
  have fo := vblk_frozen hO1
  have fr := vblk_frozen hR1
  simp only [List.getElem?_toArray, List.getElem?_cons_succ, List.getElem?_cons_zero, List.setIfInBounds_toArray, List.set_cons_succ, List.set_cons_zero] at o0 q0 y0 o1 q1 y1
  go_wp2_with fail
  refine bodyPost_ret (v := .agg #[.string d.t, .slice (some ⟨g1, 0, none⟩) d.acts.length d.acts.length]) (by simp [results, Try.results45, go_sem, o0, q0, o1, q1]) rfl ⟨[.string d.t, .slice (some ⟨g1, 0, none⟩) d.acts.length d.acts.length], rfl, ?_, ?_⟩
  · have hS : ∀ {W : World}, w1.heap.size ≤ W.heap.size → ∀ b, Ow (w.heap.size + 3) w1.heap.size b → Ow w.heap.size W.heap.size b := fun h => Ow.mono (by omega) h
    refine ⟨_, rfl, s_t, (R0.keep ?_).mono (hS ?_), p0⟩
    all_goals first
      | (simp [World.setCell]; done)
      | ((repeat (refine Kp.trans ?_ (Kp.set (Ow.not (by omega))))); exact fun b hb => rfl)
  · refine ?_
    (repeat (refine Below.setCell ?_ (by simp <;> omega) _))
    exact kw1

set_option maxHeartbeats 2000000 in
set_option maxRecDepth 100000 in
theorem infoCmd : (Try.prog.info? 57).map (fun i => (i.zero, i.size, i.bytes)) = some (some (.agg #[.string ⟨#[]⟩, .slice none 0 0]), 2, 40) := by kernel_rfl
set_option maxHeartbeats 2000000 in
set_option maxRecDepth 100000 in
theorem toCmdS_c (S : Nat → Prop) (v : Value) (xs : List CmdD) (w : World) (hv : RowIn shCmd S w v xs) (hB : ∀ b, S b → b < w.heap.size) (hw : wtRow wtCmd xs ≤ 1048576) :
    Calls Try.prog 33 #[v] w fun e w' => ∃ g, e = .returned (.slice (some ⟨g, 0, none⟩) xs.length xs.length) ∧ RowOwn shCmdO 57 (Ow w.heap.size w'.heap.size) w' (.slice (some ⟨g, 0, none⟩) xs.length xs.length) xs ∧ Below w.heap.size w w' := by
  obtain ⟨a, cap, rfl, hl, hc, ha⟩ := hv
  have hn := len_wtRow wtCmd xs
  have hlm : xs.length ≤ maxLen := hl
  unfold maxLen at hl
  obtain ⟨i0, hi, hz0, hz1, hz2⟩ := info_parts infoCmd
  go_enter Try.func33, Try.ntmps33
  go_wp2_with (first
    | (at_make; refine wpList_make_full _ rfl _ _ 42 rfl w.heap.size 57 i0 _ 2 Try.underlying42 hi hz0 hz1 _ _ _ _ xs.length rfl rfl rfl rfl (by rw [hz2]; omega) (by unfold maxLen; omega) (Nat.le_refl _) ?_))
  intro w1 hown hgrow
  have hb1 := below_of_grown hgrow
  have hs1 : w.heap.size + 1 ≤ w1.heap.size := by
    rcases hown.2 with ⟨h, _⟩ | ⟨g, cap, cur, h, _, hg, _⟩
    · simp at h
    · simp at h
      have := (Array.getElem?_eq_some_iff.1 hg).1
      omega
  obtain ⟨ys1, hown1⟩ : ∃ ys, w1.ownsRow w.heap.size 57 2 (.slice (some ⟨w.heap.size, 0, none⟩) xs.length xs.length) xs.length ys := ⟨_, hown⟩
  clear hgrow hown
  go_wp2_with fail
  go_loopw [4] (fun vi wr => ∃ (k : Nat) (ys : List Value), k ≤ xs.length ∧ vi = .int .i64 (k : Int) ∧ wr.ownsRow w.heap.size 57 2 (.slice (some ⟨w.heap.size, 0, none⟩) xs.length xs.length) xs.length ys ∧ Hid (Laid shCmdO (Ow (w.heap.size + 1) wr.heap.size) wr ys xs k) ∧ Below w.heap.size w wr ∧ w.heap.size + 1 ≤ wr.heap.size) (fun vi _ => xs.length - (intOf vi).toNat)
  case atStart => exact ⟨0, ys1, Nat.zero_le _, rfl, hown1, (fun i h h0 => by omega), hb1, hs1⟩
  case round =>
    obtain ⟨k, ys, hk, rfl, hownr, hy, hbr, hsr⟩ := hrel
    by_cases hlt' : k < xs.length
    · rcases ha with rfl | ⟨b, off, rfl, hlt, ha⟩
      · simp at hlt'
      obtain ⟨cs, hL, hcell⟩ := ha k hlt'
      have hL2 := shCmd.keep (.of hbr hB) hL
      have hcell2 := hcell.keep (.of hbr hB) hlt
      have hBr : ∀ b, S b → b < wr.heap.size := fun b h => Nat.lt_of_lt_of_le (hB b h) hbr.size
      have hwt : wtCmd xs[k] ≤ 1048576 := by have := wt_wtRow wtCmd (List.getElem_mem hlt'); omega
      have hown2 : ∀ w2, Below wr.heap.size wr w2 → w2.ownsRow w.heap.size 57 2 (.slice (some ⟨w.heap.size, 0, none⟩) xs.length xs.length) xs.length ys := fun w2 h2 => hownr.kept (grown_of_below h2 none) (by simp [Value.ownBlock])
      have hlen := hownr.1
      have HC : Hid (∀ w2, Below wr.heap.size wr w2 → ∀ j, j < 2 → ∃ x, w2.cell? ⟨w.heap.size, k * 2 + j, none⟩ = some x) := fun w2 h2 j hj => ⟨ys.getD (k * 2 + j) undef, by rw [(hown2 w2 h2).cellAt _ (by omega)]; simp [List.getD_eq_getElem?_getD, show k * 2 + j < ys.length by omega]⟩
      have HF : Hid (∀ w2, Below wr.heap.size wr w2 → ∀ j, w2.frozen? ⟨w.heap.size, j, none⟩ = false) := fun w2 h2 j => (hown2 w2 h2).frozenAt j
      have HO : Hid (∀ w2, Below wr.heap.size wr w2 → w2.ownsRow w.heap.size 57 2 (.slice (some ⟨w.heap.size, 0, none⟩) xs.length xs.length) xs.length ys) := hown2
      have HST : Hid (∀ w2 cs, Below wr.heap.size wr w2 → cs.length = 2 → shCmdO.lies (Ow (w.heap.size + 1) w2.heap.size) w2 cs xs[k] → Laid shCmdO (Ow (w.heap.size + 1) (setW w2 w.heap.size (k * 2) cs).heap.size) (setW w2 w.heap.size (k * 2) cs) (putL ys (k * 2) cs) xs (k + 1)) := fun w2 cs h2 hc hr => hy.out.step (sh := shCmdO) hlt' hlen h2 (by omega) hc hr
      obtain ⟨d, hd⟩ : ∃ d, d = xs[k] := ⟨_, rfl⟩
      rw [← hd] at hL2 hwt HST
      have HC1 := toCmd_c S d cs wr hL2 hBr hwt
      clear ha hL hcell hd hown2 hi hz0 hz1 hz2 hown1 hb1 hlen hwt
      obtain ⟨u0, rfl, s_t, r0, p0⟩ := hL2
      clear s_t p0
      obtain ⟨a0, cap0, eu0, _⟩ := id r0
      rw [length_strsV] at eu0
      subst eu0
      clear r0
      have e0 : wr.cell? ⟨b, off + k * 2, none⟩ = some (.string d.t) := hcell2 0 (by simp)
      have e1 : wr.cell? ⟨b, off + k * 2 + 1, none⟩ = some (.slice a0 d.acts.length cap0) := hcell2 1 (by simp)
      have HC2 := hidden HC1
      have hki : (k : Int) < (xs.length : Int) := by omega
      clear hcell2 HC1
      go_wp2_with (go_at_call 45; refine HC2.out.mono ?_; rintro e w2 ⟨cs, rfl, hX, hb2⟩; have HX := hidden (HST.out w2 cs hb2 (by have h := hX; obtain ⟨u0, h9, s_t, r0, p0⟩ := h; rw [h9]; rfl) (shCmdO.mono (Ow.mono hsr (Nat.le_refl _)) hX)); obtain ⟨u0, rfl, s_t, z0, p0⟩ := hX; obtain ⟨b0, bap0, ev0⟩ := z0.slice; subst ev0; obtain ⟨y0, d0⟩ := HC.out w2 hb2 0 (by omega); obtain ⟨y1, d1⟩ := HC.out w2 hb2 1 (by omega); rw [Nat.add_zero] at d0; have f9 := HF.out w2 hb2)
      go_roundw
      case rel =>
        refine ⟨k + 1, _, by omega, by go_num, setW_owns [.string d.t, .slice b0 d.acts.length bap0] w2 ys (k * 2) (HO.out w2 hb2), HX.out, setW_below (Nat.le_refl _) [.string d.t, .slice b0 d.acts.length bap0] w2 w (k * 2) (hbr.trans (hb2.mono hbr.size)), ?_⟩
        have h9 := setW_size [.string d.t, .slice b0 d.acts.length bap0] w2 w.heap.size (k * 2)
        have := hb2.size
        exact Nat.le_trans (show w.heap.size + 1 ≤ w2.heap.size by omega) (Nat.le_of_eq h9.symm)
      case measure => simp [intOf]; omega
    · have he : k = xs.length := by omega
      subst he
      clear ha
      go_wp2_with fail
      go_ret
      exact ⟨_, rfl, rowOwn_of hownr hlm hy.out, hbr⟩

end Go.Proofs.Ytdiopkegaeliaaa

/-! Copies in memory of their own, as the law makes them: contracts for the walks; condition: what is copied holds at most 2 to the 20. -/
namespace Go.Proofs.Ytdiopkegaeliaaa
open Go.RowKit
set_option linter.unusedSimpArgs false
set_option linter.unusedVariables false

end Go.Proofs.Ytdiopkegaeliaaa

/-! What a text falls into between the bytes c, and what the specification's Split answers: just that list; conditions: the text has at most 2 to the 20 bytes and a few more. -/
namespace Go.Proofs.Ytdiopkegaeliaaa
open Go.RowKit
set_option linter.unusedSimpArgs false
set_option linter.unusedVariables false

/-- The pieces behind place i, the piece at hand having begun at place b. -/
def splitGo (s : ByteArray) (c : Int) : Nat → Nat → Nat → List ByteArray
  | 0, _, b => [s.extract b s.size]
  | f + 1, i, b => if ((s.data[i]!).toNat : Int) = c then s.extract b i :: splitGo s c f (i + 1) (i + 1) else splitGo s c f (i + 1) b
def splitS (s : ByteArray) (c : Int) : List ByteArray := splitGo s c s.size 0 0

theorem splitGo_hit (s : ByteArray) (c : Int) (i b : Nat) (hi : i < s.size) (h : ((s.data[i]!).toNat : Int) = c) : splitGo s c (s.size - i) i b = s.extract b i :: splitGo s c (s.size - (i + 1)) (i + 1) (i + 1) := by
  obtain ⟨f, hf⟩ : ∃ f, s.size - i = f + 1 := ⟨s.size - i - 1, by omega⟩
  rw [hf, splitGo, if_pos h, show s.size - (i + 1) = f by omega]
theorem splitGo_miss (s : ByteArray) (c : Int) (i b : Nat) (hi : i < s.size) (h : ¬ ((s.data[i]!).toNat : Int) = c) : splitGo s c (s.size - i) i b = splitGo s c (s.size - (i + 1)) (i + 1) b := by
  obtain ⟨f, hf⟩ : ∃ f, s.size - i = f + 1 := ⟨s.size - i - 1, by omega⟩
  rw [hf, splitGo, if_neg h, show s.size - (i + 1) = f by omega]
theorem splitGo_end (s : ByteArray) (c : Int) (b : Nat) : splitGo s c (s.size - s.size) s.size b = [s.extract b s.size] := by
  rw [Nat.sub_self, splitGo]

theorem strs_append (xs ys : List ByteArray) : strsV xs ++ strsV ys = strsV (xs ++ ys) := by simp [strsV]

end Go.Proofs.Ytdiopkegaeliaaa

/-! What the program's Split answers: the same list as the specification's, in memory of its own; condition: the text has at most 2 to the 20 bytes. -/
namespace Go.Proofs.Ytdiopkegaeliaaa
open Go.RowKit
set_option linter.unusedSimpArgs false
set_option linter.unusedVariables false

theorem split_none (s : ByteArray) (c : Int) (b : Nat) : ∀ (n i : Nat), n = s.size - i → i ≤ s.size → (∀ j, i ≤ j → j < s.size → ¬ ((s.data[j]!).toNat : Int) = c) → splitGo s c (s.size - i) i b = [s.extract b s.size]
  | 0, i, hn, hi, h => by
    have : i = s.size := by omega
    subst this
    exact splitGo_end s c b
  | n + 1, i, hn, hi, h => by
    rw [splitGo_miss s c i b (by omega) (h i (Nat.le_refl _) (by omega))]
    exact split_none s c b n (i + 1) (by omega) (by omega) (fun j h1 h2 => h j (by omega) h2)
theorem split_some (s : ByteArray) (c : Int) (b j : Nat) (hj : j < s.size) (hc : ((s.data[j]!).toNat : Int) = c) : ∀ (n i : Nat), n = j - i → i ≤ j → (∀ k, i ≤ k → k < j → ¬ ((s.data[k]!).toNat : Int) = c) → splitGo s c (s.size - i) i b = s.extract b j :: splitGo s c (s.size - (j + 1)) (j + 1) (j + 1)
  | 0, i, hn, hi, h => by
    have : i = j := by omega
    subst this
    exact splitGo_hit s c i b hj hc
  | n + 1, i, hn, hi, h => by
    rw [splitGo_miss s c i b (by omega) (h i (Nat.le_refl _) (by omega))]
    exact split_some s c b j hj hc n (i + 1) (by omega) (by omega) (fun k h1 h2 => h k (by omega) h2)

def strSize : Value → Nat | .string s => s.size | _ => 0

theorem ext_list {a b : ByteArray} (h : a.data.toList = b.data.toList) : a = b := ByteArray.ext (Array.toList_inj.1 h)
theorem extract_list (s : ByteArray) (a b : Nat) : (s.extract a b).data.toList = (s.data.toList.drop a).take (b - a) := Lib.extract_data s a b
theorem len_list (s : ByteArray) : s.data.toList.length = s.size := by rw [Array.length_toList]; rfl
theorem size_tail (s : ByteArray) (b : Nat) (h : b ≤ s.size) : (s.extract b s.size).size = s.size - b := by
  rw [← len_list, extract_list, List.length_take, List.length_drop, len_list]; omega
theorem tail_list (s : ByteArray) (b : Nat) : (s.extract b s.size).data.toList = s.data.toList.drop b := by
  rw [extract_list, List.take_of_length_le (by rw [List.length_drop, len_list]; omega)]
theorem tail_head (s : ByteArray) (b k : Nat) : (s.extract b s.size).extract 0 k = s.extract b (b + k) := by
  apply ext_list
  rw [extract_list, tail_list, extract_list]
  simp
theorem tail_tail (s : ByteArray) (b k : Nat) : (s.extract b s.size).extract k (s.extract b s.size).size = s.extract (b + k) s.size := by
  apply ext_list
  rw [tail_list, tail_list, tail_list, List.drop_drop]

theorem bang_list (s : ByteArray) (j : Nat) (h : j < s.size) : s.data.toList[j]? = some (s.data[j]!) := by
  rw [byteBang s j h, List.getElem?_eq_getElem (by rw [len_list]; exact h)]
  rfl

/-- What the search for the byte says of the text behind place b. -/
theorem search (s : ByteArray) (c : Int) (b : Nat) (hb : b ≤ s.size) (h0 : 0 ≤ c) (h1 : c ≤ 255) :
    (Lib.indexByte (s.extract b s.size).data.toList c.toNat.toUInt8 = -1 ∧ splitGo s c (s.size - b) b b = [s.extract b s.size]) ∨
    ∃ k : Nat, Lib.indexByte (s.extract b s.size).data.toList c.toNat.toUInt8 = (k : Int) ∧ b + k < s.size ∧ splitGo s c (s.size - b) b b = s.extract b (b + k) :: splitGo s c (s.size - (b + k + 1)) (b + k + 1) (b + k + 1) := by
  have hcn : ∀ u : UInt8, (u.toNat : Int) = c ↔ u = c.toNat.toUInt8 := fun u => by
    have hu := u.toNat_lt
    constructor
    · intro e
      have : u.toNat = c.toNat := by omega
      rw [← this]; simp
    · intro e
      subst e
      simp [UInt8.toNat_ofNat']
      omega
  rw [tail_list]
  have hge := Lib.indexByte_ge (s.data.toList.drop b) c.toNat.toUInt8
  by_cases hm : Lib.indexByte (s.data.toList.drop b) c.toNat.toUInt8 = -1
  · refine .inl ⟨hm, split_none s c b _ b rfl hb (fun j h1 h2 e => ?_)⟩
    have := Lib.indexByte_none hm (j - b)
    rw [List.getElem?_drop, show b + (j - b) = j by omega, bang_list s j h2] at this
    exact this (by rw [(hcn _).1 e])
  · obtain ⟨k, hk⟩ := Int.eq_ofNat_of_zero_le (show 0 ≤ Lib.indexByte (s.data.toList.drop b) c.toNat.toUInt8 by omega)
    obtain ⟨hh, hbef⟩ := Lib.indexByte_some hk
    rw [List.getElem?_drop] at hh
    have hlt : b + k < s.size := by
      rw [← len_list]
      exact (List.getElem?_eq_some_iff.1 hh).1
    refine .inr ⟨k, hk, hlt, split_some s c b (b + k) hlt ?_ _ b rfl (by omega) (fun j h1 h2 e => ?_)⟩
    · rw [bang_list s _ hlt] at hh
      exact (hcn _).2 (by simpa using hh)
    · have := hbef (j - b) (by omega)
      rw [List.getElem?_drop, show b + (j - b) = j by omega, bang_list s j (by omega)] at this
      exact this (by rw [(hcn _).1 e])

set_option maxHeartbeats 1000000 in
theorem clone_c (s : ByteArray) (w : World) (h : s.size ≤ 1048576) : Calls Try.prog 38 #[.string s] w fun e w' => e = .returned (.string s) ∧ Below w.heap.size w w' := by
  go_enter Try.func38, Try.ntmps38
  go_wp2_with (go_at_call 51; refine (Try.stringslite_Clone s _ (by omega)).mono ?_; rintro e w1 ⟨rfl, b1⟩)
  go_ret
  exact ⟨rfl, b1⟩

end Go.Proofs.Ytdiopkegaeliaaa

/-! Copies of versions, needs and entries, as the program makes them: contracts for the walks; conditions: they lie in memory, and hold at most 2 to the 20. -/
namespace Go.Proofs.Ytdiopkegaeliaaa
open Go.RowKit
set_option linter.unusedSimpArgs false
set_option linter.unusedVariables false

/-- A block of another type than a row's is not the row's. -/
theorem row_box {w : World} {lo sz n g : Nat} {e t : TypeId} {v : Value} {xs : List Value} {cs : Array Value} {fz : Nat × Nat} (h : w.ownsRow lo e sz v n xs) (hb : w.heap[g]? = some (.cells cs t fz)) (hne : e ≠ t) : v.ownBlock ≠ some g := fun he => by
  rcases h.2 with ⟨rfl, _⟩ | ⟨g', cap, cur, rfl, _, hg, _⟩
  · simp [Value.ownBlock] at he
  · simp [Value.ownBlock] at he
    subst he
    rw [hg] at hb
    simp at hb
    exact hne hb.2.1
theorem box_grown {w w' : World} {row : Option Nat} {g : Nat} {o : Obj} (hb : w.heap[g]? = some o) (hg : w.grownBy w' row) (hne : row ≠ some g) : w'.heap[g]? = some o :=
  (hg.block g (Array.getElem?_eq_some_iff.1 hb).1 (fun e => hne e.symm)).trans hb
theorem box_below {w w' : World} {g : Nat} {o : Obj} (hb : w.heap[g]? = some o) (h : Below w.heap.size w w') : w'.heap[g]? = some o :=
  (h.block g (Array.getElem?_eq_some_iff.1 hb).1).trans hb
theorem row_put {w : World} {lo sz n g j : Nat} {e t : TypeId} {v x : Value} {xs : List Value} {cs : Array Value} {fz : Nat × Nat} (h : w.ownsRow lo e sz v n xs) (hb : w.heap[g]? = some (.cells cs t fz)) (hne : e ≠ t) : (w.setCell ⟨g, j, none⟩ x).ownsRow lo e sz v n xs :=
  owns_kept (S := fun b => b ≠ g) (Kp.set (by simp)) (fun b hb' => by rintro rfl; exact row_box h hb hne hb') h
theorem List.single_le_sum_natC {ss : List ByteArray} {t : ByteArray} (h : t ∈ ss) : t.size ≤ (ss.map ByteArray.size).sum := by
  induction ss with
  | nil => simp at h
  | cons a l ih =>
    simp only [List.map_cons, List.sum_cons]
    rcases List.mem_cons.1 h with rfl | h
    · omega
    · have := ih h; omega
theorem two_boxes {w : World} (A R : Obj) : ((w.alloc A).alloc R).heap[w.heap.size]? = some A ∧ ((w.alloc A).alloc R).heap[w.heap.size + 1]? = some R := by
  have s1 : (w.alloc A).heap.size = w.heap.size + 1 := by simp
  refine ⟨?_, ?_⟩
  · rw [vheap_old _ _ (by simp), vheap_new]
  · rw [← s1, vheap_new]

end Go.Proofs.Ytdiopkegaeliaaa

/-! Copies of needs and entries, as the program makes them: contracts for the walks; conditions: they lie in memory, and hold at most 2 to the 20. -/
namespace Go.Proofs.Ytdiopkegaeliaaa
open Go.RowKit
set_option linter.unusedSimpArgs false
set_option linter.unusedVariables false

/-- The cells of needs. -/
def needsV (xs : List NeedD) : List Value := xs.flatMap fun d => [.string d.n, .string d.r]
theorem needsV_length (xs : List NeedD) : (needsV xs).length = xs.length * 2 := by
  induction xs with
  | nil => rfl
  | cons d l ih => simp only [needsV, List.flatMap_cons, List.length_append, List.length_cons, List.length_nil] at *; omega
theorem needsV_append (xs ys : List NeedD) : needsV xs ++ needsV ys = needsV (xs ++ ys) := by simp [needsV]
theorem needsV_take (xs : List NeedD) (k : Nat) (h : k < xs.length) : needsV (xs.take k) ++ [.string xs[k].n, .string xs[k].r] = needsV (xs.take (k + 1)) := by
  rw [List.take_succ_eq_append_getElem h, ← needsV_append]; rfl
theorem needsV_at (xs : List NeedD) : ∀ i (h : i < xs.length), (needsV xs)[i * 2]? = some (.string xs[i].n) ∧ (needsV xs)[i * 2 + 1]? = some (.string xs[i].r) := by
  induction xs with
  | nil => intro i h; simp at h
  | cons d l ih =>
    intro i h
    have e : needsV (d :: l) = [.string d.n, .string d.r] ++ needsV l := by simp [needsV]
    cases i with
    | zero => rw [e]; simp
    | succ i =>
      have h' := ih i (by simpa using h)
      rw [e, List.getElem?_append_right (by simp; omega), List.getElem?_append_right (by simp; omega)]
      simp only [List.length_cons, List.length_nil]
      rw [show (i + 1) * 2 - (0 + 1 + 1) = i * 2 by omega, show (i + 1) * 2 + 1 - (0 + 1 + 1) = i * 2 + 1 by omega]
      simpa using h'
theorem needs_own {w : World} {lo : Nat} {v : Value} {xs : List NeedD} (h : w.ownsRow lo 74 2 v xs.length (needsV xs)) (hl : xs.length ≤ maxLen) (hs : ∀ d ∈ xs, d.n.size ≤ maxLen ∧ d.r.size ≤ maxLen) : RowOwn shNeed 74 (Ow lo w.heap.size) w v xs := by
  refine ⟨hl, needsV xs, owns_lo (Nat.zero_le _) h, owns_in h, fun i hi _ => ⟨[.string xs[i].n, .string xs[i].r], rfl, ⟨rfl, hs _ (List.getElem_mem hi)⟩, fun j hj => ?_⟩⟩
  obtain ⟨h1, h2⟩ := needsV_at xs i hi
  match j, hj with
  | 0, _ => exact h1
  | 1, _ => exact h2

theorem owns_of_belowN {w w' : World} {lo sz n : Nat} {e : TypeId} {v : Value} {xs : List Value} (h : w.ownsRow lo e sz v n xs) (hb : Below w.heap.size w w') : w'.ownsRow lo e sz v n xs := h.kept (grown_of_below hb none) (by cases hq : v.ownBlock <;> simp)
theorem cells_put {w : World} {N M : Nat} {o : Obj} (h : w.heap[N]? = some o) (hne : N ≠ M) (j : Nat) (v : Value) : (w.setCell ⟨M, j, none⟩ v).heap[N]? = some o := (Below.heap_setCell w ⟨M, j, none⟩ v N (by simpa using hne)).trans h
theorem two_src (w : World) (c0 c1 : Value) : ∀ j u, ([c0, c1] : List Value)[j]? = some u → (w.alloc (.cells #[c0, c1] 74)).cell? ((⟨w.heap.size, 0, none⟩ : Addr).add j) = some u := fun j u hu => by
  have e : ((⟨w.heap.size, 0, none⟩ : Addr).add j) = ⟨w.heap.size, j, none⟩ := by unfold Addr.add; split <;> simp_all
  rw [e, vblk_cell (vheap_new _ _) j]
  simpa using hu

end Go.Proofs.Ytdiopkegaeliaaa

/-! The tasks that are wanted, as the program tells them: contracts for the walks; conditions: the packs and the names lie in memory, and hold at most 2 to the 20. -/
namespace Go.Proofs.Ytdiopkegaeliaaa
open Go.RowKit
set_option linter.unusedSimpArgs false
set_option linter.unusedVariables false

/-- The name of a task; the tasks of those names that have it, in their order. -/
def tnW (a b : ByteArray) : ByteArray := a ++ ⟨#[35]⟩ ++ b
def wantL (xs : List PackD) (t : ByteArray) (ns : List ByteArray) : List ByteArray := (ns.filter fun n => hasT xs n t).map fun n => tnW n t
theorem wantL_take (xs : List PackD) (t : ByteArray) (ns : List ByteArray) (k : Nat) (h : k < ns.length) : wantL xs t (ns.take (k + 1)) = wantL xs t (ns.take k) ++ (if hasT xs ns[k] t = true then [tnW ns[k] t] else []) := by
  unfold wantL
  rw [List.take_succ_eq_append_getElem h, List.filter_append, List.map_append]
  congr 1
  by_cases e : hasT xs ns[k] t = true
  · rw [if_pos e, List.filter_cons_of_pos (by simpa using e)]; rfl
  · rw [if_neg e, List.filter_cons_of_neg (by simpa using e)]; rfl
theorem wantL_len (xs : List PackD) (t : ByteArray) (ns : List ByteArray) : (wantL xs t ns).length ≤ ns.length := by
  unfold wantL
  rw [List.length_map]
  exact List.length_filter_le _ _
theorem wantL_size {xs : List PackD} {t : ByteArray} {ns : List ByteArray} (ht : t.size ≤ 1048576) (hn : ∀ n ∈ ns, n.size ≤ 1048576) : ∀ x ∈ wantL xs t ns, x.size ≤ 4194304 := by
  intro x hx
  unfold wantL at hx
  obtain ⟨n, h1, rfl⟩ := List.mem_map.1 hx
  have h2 := hn n (List.mem_filter.1 h1).1
  unfold tnW
  rw [ByteArray.size_append, ByteArray.size_append]
  have h3 : (⟨#[35]⟩ : ByteArray).size = 1 := rfl
  omega

theorem owns_cellsW {w : World} {lo sz n : Nat} {e : TypeId} {v : Value} {xs : List Value} {g : Nat} (h : w.ownsRow lo e sz v n xs) (hg : v.ownBlock = some g) : ∃ cs tt fz, w.heap[g]? = some (.cells cs tt fz) := by
  rcases h.2 with ⟨rfl, _⟩ | ⟨g', cap, cur, rfl, _, hc, _⟩
  · cases hg
  · cases hg; exact ⟨_, _, _, hc⟩
set_option maxHeartbeats 2000000 in
set_option maxRecDepth 100000 in
theorem implTnW_c (a b : ByteArray) (w : World) (ha : a.size ≤ 1048576) (hb : b.size ≤ 1048576) :
    Calls Try.prog 22 #[.string a, .string b] w fun e w' => e = .returned (.string (tnW a b)) ∧ Below w.heap.size w w' := by
  go_enter Try.func22, Try.ntmps22
  go_wp2_with fail
  go_ret
  exact ⟨rfl, Below.refl _ _⟩

set_option maxHeartbeats 4000000 in
set_option maxRecDepth 100000 in
theorem implWantOf_c (S : Nat → Prop) (v u : Value) (xs : List PackD) (ns : List ByteArray) (t : ByteArray) (w : World) (hv : RowIn shPack S w v xs) (hB : ∀ b, S b → b < w.heap.size) (hw : wtRow wtPack xs ≤ 1048576) (hu : Reads w u (strsV ns)) (hn : ns.length ≤ 1048576) (hns : ∀ n ∈ ns, n.size ≤ 1048576) (ht : t.size ≤ 1048576) :
    Calls Try.prog 9 #[v, u, .string t] w fun e w' => ∃ (q : Value), e = .returned q ∧ w'.ownsRow w.heap.size 9 1 q (sortedS (wantL xs t ns)).length (strsV (sortedS (wantL xs t ns))) ∧ Below w.heap.size w w' := by
  obtain ⟨i0, hi, hz0, hz1, hz2⟩ := info_parts infoS
  have HNM := hidden (wantL_size (xs := xs) ht hns)
  have HC := hidden (cmdsByPack_c S v xs w hv hB hw)
  have HH : Hid (∀ mb n sz m w1 p, MapC w1 mb n sz m → (∀ p, Fnd S w (m p) (xs.find? fun d => decide (d.name = p))) → Below w.heap.size w w1 → p.size ≤ 1048576 → Calls Try.prog 21 #[.map (some mb), .string p, .string t] w1 fun e w' => e = .returned (.bool (hasT xs p t)) ∧ Below w1.heap.size w1 w') := fun mb n sz m w1 p h1 h2 h3 h4 => hasT_c S xs p t mb n sz m w w1 h1 h2 hB h3 (by unfold maxLen; omega)
  obtain ⟨q, cap, rfl, _, hc⟩ := reads_strs hu
  obtain ⟨av, capv, rfl⟩ := hv.slice
  clear hu hv
  go_enter Try.func9, Try.ntmps9
  go_wp2_with fail
  go_at_call 20
  refine HC.out.mono ?_
  rintro e w1 ⟨mb, n0, sz, m, rfl, hm, hF, b1⟩
  have HF := hidden hF
  clear hF HC
  go_wp2_with fail
  go_loopw [8, 15] (fun vx vi wr => ∃ (k : Nat) (ys : List ByteArray), k ≤ ns.length ∧ vi = .int .i64 (k : Int) ∧ Hid (ys = wantL xs t (ns.take k)) ∧ ys.length ≤ k ∧ wr.ownsRow w.heap.size 9 1 vx ys.length (strsV ys) ∧ MapC wr mb n0 sz m ∧ Below w.heap.size w wr) (fun _ vi _ => ns.length - (intOf vi).toNat)
  case atStart => exact ⟨0, [], Nat.zero_le _, rfl, rfl, Nat.le_refl _, World.ownsRow_nil _ _ _ _, hm, b1⟩
  case round =>
    clear hm b1
    obtain ⟨k, ys, hk, rfl, hys, hyk, hown, hm, hbr⟩ := hrel
    obtain ⟨qo, co, hvo⟩ := owns_slG hown
    subst hvo
    by_cases hlt' : k < ns.length
    · rcases hc with rfl | ⟨b0, off, rfl, hlt, hc⟩
      · simp at hlt'
      have e0 : wr.cell? ⟨b0, off + k, none⟩ = some (.string ns[k]) := (hbr.cell (by simpa using hlt)).trans (hc k hlt')
      have hsk := hns ns[k] (List.getElem_mem hlt')
      have HT := hidden (wantL_take xs t ns k hlt')
      rw [← hys.out] at HT
      obtain ⟨p, hp⟩ : ∃ t, t = ns[k] := ⟨_, rfl⟩
      rw [← hp] at e0 hsk HT
      have HH2 := hidden (HH.out mb n0 sz m wr p hm HF.out hbr hsk)
      have HTN := hidden (fun w1 => implTnW_c p t w1 hsk ht)
      obtain ⟨r, hr⟩ : ∃ r, r = hasT xs p t := ⟨_, rfl⟩
      rw [← hr] at HH2 HT
      obtain ⟨tn, htn⟩ : ∃ r, r = tnW p t := ⟨_, rfl⟩
      rw [← htn] at HTN HT
      have hki : (k : Int) < (ns.length : Int) := by omega
      have HMM := hidden hm
      clear hc hp hns hr htn hm HH
      cases r with
      | true =>
        have HT2 : Hid (wantL xs t (ns.take (k + 1)) = ys ++ [tn]) := HT.out
        clear HT
        go_wp2_with fail
        go_at_call 21
        refine HH2.out.mono ?_
        rintro e w2 ⟨rfl, b2⟩
        have o2 := owns_of_belowN hown b2
        have k2 := hbr.trans (b2.mono hbr.size)
        have HM2 := hidden (HMM.out.below b2)
        clear hown HMM b2
        go_wp2_with fail
        go_at_call 22
        refine (HTN.out w2).mono ?_
        rintro e w3 ⟨rfl, b3⟩
        have o3 := owns_of_belowN o2 b3
        have k3 := k2.trans (b3.mono k2.size)
        have HM3 := hidden (HM2.out.below b3)
        clear o2 HM2 b3 k2 HH2 HTN
        go_wp2_with (at_builtin; refine wpList_append_own _ rfl _ _ 23 rfl w.heap.size 9 i0 (.string ⟨#[]⟩) 1 16 Try.underlying23 hi hz0 hz1 hz2 rfl (by decide) _ ys.length (strsV ys) rfl (o3.alloc _) ⟨w3.heap.size, 0, none⟩ 1 1 (strsV [tn]) rfl rfl (cell_one_new _ _ _) (fun u hu => by simp [strsV] at hu; subst hu; rfl) (by unfold maxLen; omega) (by omega) (by have := k3.size; simp; omega) ?_)
        intro v4 w4 o4 gr4 hnil
        have hst : strsV ys ++ strsV [tn] = strsV (ys ++ [tn]) := by simp [strsV]
        rw [hst] at o4
        have k4 : Below w.heap.size w w4 := Below.grown (k3.alloc k3.size _) gr4 (by have := k3.size; simp; omega) (fun j hj => (o3.lt _ hj).1)
        have HM4 := hidden ((HM3.out.kept (World.grownBy_alloc w3 (.cells #[.string tn] 9) none) (by simp)).kept gr4 (fun e => by
          have h9 := owns_cellsW o3 e
          obtain ⟨es, c, h8⟩ := HM3.out.heap
          obtain ⟨cs, tt, fz, h7⟩ := h9
          rw [h8] at h7
          cases h7))
        clear gr4 hnil o3 k3 HM3 hst e0
        go_wp2_with fail
        go_roundw
        case rel => exact ⟨k + 1, ys ++ [tn], by omega, by go_num, HT2.out.symm, by simp; omega, by simpa using o4, HM4.out, k4⟩
        case measure => simp [intOf]; omega
      | false =>
        have HT2 := hidden (show wantL xs t (ns.take (k + 1)) = ys by rw [HT.out]; simp)
        clear HT HTN
        go_wp2_with fail
        go_at_call 21
        refine HH2.out.mono ?_
        rintro e w2 ⟨rfl, b2⟩
        have o2 := owns_of_belowN hown b2
        have k2 := hbr.trans (b2.mono hbr.size)
        have HM2 := hidden (HMM.out.below b2)
        clear hown HMM b2 HH2
        go_wp2_with fail
        go_roundw
        case rel => exact ⟨k + 1, ys, by omega, by go_num, HT2.out.symm, by omega, o2, HM2.out, k2⟩
        case measure => simp [intOf]; omega
    · have he : k = ns.length := by omega
      subst he
      have HE := hidden (show ys = wantL xs t ns by rw [hys.out, List.take_length])
      have HS := hidden (implSortedW_c (.slice qo ys.length co) ys wr (reads_of_owns hown) (by omega) (fun x hx => HNM.out x (by rw [← HE.out]; exact hx)))
      have hbs := hbr.size
      clear hc hys hm HF HH hown
      go_wp2_with fail
      go_at_call 23
      refine HS.out.mono ?_
      rintro e w2 ⟨u, rfl, o1, b1⟩
      go_wp2_with fail
      go_ret
      exact ⟨u, rfl, by rw [← HE.out]; exact owns_lo hbr.size o1, hbr.trans (b1.mono hbr.size)⟩
end Go.Proofs.Ytdiopkegaeliaaa

/-! The tasks that are wanted, as the specification tells them: contracts for the walks; conditions: the packs and the names lie in memory, and hold at most 2 to the 20. -/
namespace Go.Proofs.Ytdiopkegaeliaaa
open Go.RowKit
set_option linter.unusedSimpArgs false
set_option linter.unusedVariables false

theorem findP_find (xs : List PackD) (s : ByteArray) : (findP xs s = -1 ∧ xs.find? (fun d => decide (d.name = s)) = none) ∨ ∃ k : Nat, ∃ h : k < xs.length, findP xs s = (k : Int) ∧ xs.find? (fun d => decide (d.name = s)) = some xs[k] := by
  unfold findP
  by_cases h : xs.findIdx (fun d => decide (d.name = s)) < xs.length
  · rw [if_pos h]
    refine .inr ⟨_, h, rfl, ?_⟩
    rw [List.find?_eq_some_iff_getElem]
    exact ⟨List.findIdx_getElem (w := h), _, h, rfl, fun j hj => by simpa using List.not_of_lt_findIdx hj⟩
  · rw [if_neg h]
    refine .inl ⟨rfl, ?_⟩
    rw [List.find?_eq_none]
    intro x hx hy
    exact h (List.findIdx_lt_length_of_exists ⟨x, hx, hy⟩)

set_option maxHeartbeats 2000000 in
set_option maxRecDepth 100000 in
theorem specTnW_c (a b : ByteArray) (w : World) (ha : a.size ≤ 1048576) (hb : b.size ≤ 1048576) :
    Calls Try.prog 17 #[.string a, .string b] w fun e w' => e = .returned (.string (tnW a b)) ∧ Below w.heap.size w w' := by
  go_enter Try.func17, Try.ntmps17
  go_wp2_with fail
  go_ret
  exact ⟨rfl, Below.refl _ _⟩

theorem two_putC {w : World} {R : Nat} {t : TypeId} {a b : Value} (h : w.heap[R]? = some (.cells #[a, b] t (0, 0))) (v0 v1 : Value) : ((w.setCell ⟨R, 0, none⟩ v0).setCell ⟨R, 1, none⟩ v1).heap[R]? = some (.cells #[v0, v1] t (0, 0)) :=
  heap_setCell_same _ R 1 _ _ v1 (heap_setCell_same _ R 0 _ _ v0 h)
theorem res_cellC {tmps : Array Value} {w : World} {p : Nat} {v0 v1 : Value} {y : Bool} (h4 : tmps.getD 6 undef = .pointer (some ⟨p, 0, none⟩)) (h5 : tmps.getD 7 undef = .bool y) (hp : w.heap[p]? = some (.cells #[v0, v1] 57 (0, 0))) :
    (results Try.f30 tmps).run Try.prog w = .ok (.tuple #[.agg #[v0, v1], .bool y]) w := by
  have h4' : tmps[6]?.getD undef = .pointer (some ⟨p, 0, none⟩) := by simpa using h4
  have h5' : tmps[7]?.getD undef = .bool y := by simpa using h5
  have y0 := vblk_cell hp 0
  have y1 := vblk_cell hp 1
  simp only [List.getElem?_toArray, List.getElem?_cons_succ, List.getElem?_cons_zero] at y0 y1
  simp [results, Try.results30, h4', h5', asAddr, go_sem, y0, y1, Result.andThen]
set_option maxHeartbeats 4000000 in
set_option maxRecDepth 100000 in
theorem l13Cmd_c (S : Nat → Prop) (v : Value) (xs : List PackD) (p t : ByteArray) (w : World) (hv : RowIn shPack S w v xs) (hB : ∀ b, S b → b < w.heap.size) (hw : wtRow wtPack xs ≤ 1048576) :
    Calls Try.prog 30 #[v, .string p, .string t] w fun e w' => (∃ x0 x1 x2 x3, e = .returned (.tuple #[.agg #[.string x0, .slice x1 x2 x3], .bool (hasT xs p t)])) ∧ Below w.heap.size w w' := by
  have hlen : xs.length ≤ 1048576 := by have := len_wtRow wtPack xs; omega
  have hbx : Below w.heap.size w (w.alloc (.cells #[.string ⟨#[]⟩, .slice none 0 0] 57 (0, 0))) := (Below.refl _ _).alloc (Nat.le_refl _) _
  have hbz : (w.alloc (.cells #[.string ⟨#[]⟩, .slice none 0 0] 57 (0, 0))).heap[w.heap.size]? = some (.cells #[.string ⟨#[]⟩, .slice none 0 0] 57 (0, 0)) := vheap_new _ _
  have HFI := hidden (fun w1 (h : Below w.heap.size w w1) => specFind_c S v xs p w1 (hv.keep (.of h hB)) (fun b hb => Nat.lt_of_lt_of_le (hB b hb) h.size))
  have hHT : hasT xs p t = match xs.find? (fun d => decide (d.name = p)) with | some d => d.cmds.any (isCm t) | none => false := rfl
  obtain ⟨R, hR⟩ : ∃ R, R = hasT xs p t := ⟨_, rfl⟩
  rw [← hR] at hHT ⊢
  clear hR
  rcases findP_find xs p with ⟨hf, hn⟩ | ⟨j, hj, hf, hn⟩
  · rw [hn] at hHT
    have hR2 : R = false := hHT
    subst hR2
    rw [hf] at HFI
    obtain ⟨av, capv, rfl⟩ := hv.slice
    clear hn hf hHT hv
    go_enter Try.func30, Try.ntmps30
    go_wp2_with fail
    go_at_call 43
    refine (HFI.out _ hbx).mono ?_
    rintro e w1 ⟨rfl, b1⟩
    have hA := (b1.block w.heap.size (by simp)).trans hbz
    have k1 := hbx.trans (b1.mono hbx.size)
    have x0 : w1.cell? ⟨w.heap.size, 0, none⟩ = some (.string ⟨#[]⟩) := vblk_cell hA 0
    have x1 : w1.cell? ⟨w.heap.size, 1, none⟩ = some (.slice none 0 0) := vblk_cell hA 1
    have f0 : w1.frozen? ⟨w.heap.size, 0, none⟩ = false := vblk_frozen hA 0
    have f1 : w1.frozen? ⟨w.heap.size, 1, none⟩ = false := vblk_frozen hA 1
    clear hbz HFI hbx b1
    go_wp2_with fail
    go_loopw [9] (fun vi wr => vi = .int .i64 0 ∧ wr = w1) (fun _ _ => 0)
    case atStart => exact ⟨rfl, rfl⟩
    case round =>
      obtain ⟨rfl, rfl⟩ := hrel
      go_wp2_with fail
      refine bodyPost_ret (res_cellC (p := w.heap.size) rfl rfl (two_putC hA _ _)) rfl ⟨⟨_, _, _, _, rfl⟩, ?_⟩
      exact (k1.setCell (p := ⟨w.heap.size, 0, none⟩) (Nat.le_refl _) _).setCell (p := ⟨w.heap.size, 1, none⟩) (Nat.le_refl _) _
  · rw [hn] at hHT
    have hR2 : R = xs[j].cmds.any (isCm t) := hHT
    rw [hf] at HFI
    have hcl : xs[j].cmds.length ≤ 1048576 := by
      have h1 := Nat.le_trans (wt_wtRow wtPack (List.getElem_mem hj)) hw
      have h2 := len_wtRow wtCmd xs[j].cmds
      unfold wtPack at h1
      omega
    obtain ⟨a, cap, rfl, hl, hc, ha⟩ := hv
    unfold maxLen at hl
    rcases ha with rfl | ⟨b, off, rfl, hlt, ha⟩
    · simp at hj
    obtain ⟨cs, hL, hcell⟩ := ha j hj
    obtain ⟨u0, u1, u2, rfl, s_name, r0, p0, r1, r2⟩ := hL
    have HK : Hid (∀ W, Below w.heap.size w W → W.cell? ⟨b, off + j * 4 + 3, none⟩ = some u2) := fun W h => (hcell.keep (.of h hB) hlt) 3 (by simp)
    have HR := hidden hR2
    obtain ⟨ys, hys⟩ : ∃ y, y = xs[j].cmds := ⟨_, rfl⟩
    rw [← hys] at r2 HR hcl
    have hji : (j : Int) < (xs.length : Int) := by omega
    have hr2 := r2
    obtain ⟨a2, c2, rfl, hl2, hc2, ha2⟩ := r2
    clear hn hf hHT ha r0 r1 p0 hcell hys hR2 hr2
    go_enter Try.func30, Try.ntmps30
    go_wp2_with fail
    go_at_call 43
    refine (HFI.out _ hbx).mono ?_
    rintro e w1 ⟨rfl, b1⟩
    have hA := (b1.block w.heap.size (by simp)).trans hbz
    have k1 := hbx.trans (b1.mono hbx.size)
    clear hbz HFI hbx b1
    go_wp2_with fail
    go_loopw [9] (fun vi wr => ∃ k : Nat, k ≤ ys.length ∧ vi = .int .i64 (k : Int) ∧ Hid (∀ i (hi : i < ys.length), i < k → isCm t ys[i] = false) ∧ wr = w1) (fun vi _ => ys.length - (intOf vi).toNat)
    case atStart => exact ⟨0, Nat.zero_le _, rfl, (fun i hi h => by omega), rfl⟩
    case round =>
      obtain ⟨k, hk, rfl, hno, rfl⟩ := hrel
      have y3 := HK.out _ k1
      have x0 : wr.cell? ⟨w.heap.size, 0, none⟩ = some (.string ⟨#[]⟩) := vblk_cell hA 0
      have x1 : wr.cell? ⟨w.heap.size, 1, none⟩ = some (.slice none 0 0) := vblk_cell hA 1
      have f0 : wr.frozen? ⟨w.heap.size, 0, none⟩ = false := vblk_frozen hA 0
      have f1 : wr.frozen? ⟨w.heap.size, 1, none⟩ = false := vblk_frozen hA 1
      by_cases hlt' : k < ys.length
      · rcases ha2 with rfl | ⟨b2, off2, rfl, hlt2, ha2⟩
        · simp at hlt'
        obtain ⟨cs2, hL2, hcell2⟩ := ha2 k hlt'
        have hcell3 := hcell2.keep (.of k1 hB) hlt2
        obtain ⟨u3, rfl, st, r3, p3⟩ := hL2
        obtain ⟨a3, c3, e3, _⟩ := id r3
        rw [length_strsV] at e3
        subst e3
        have z0 : wr.cell? ⟨b2, off2 + k * 2, none⟩ = some (.string ys[k].t) := hcell3 0 (by simp)
        have z1 : wr.cell? ⟨b2, off2 + k * 2 + 1, none⟩ = some (.slice a3 ys[k].acts.length c3) := hcell3 1 (by simp)
        have hki : (k : Int) < (ys.length : Int) := by omega
        have hal : (ys[k].t.toList == t.toList) = isCm t ys[k] := name_alike ys[k].t t
        have HY : Hid (isCm t ys[k] = true → R = true) := fun h => by rw [HR.out]; exact List.any_eq_true.2 ⟨_, List.getElem_mem hlt', h⟩
        have HN : Hid (isCm t ys[k] = false → ∀ i (hi : i < ys.length), i < k + 1 → isCm t ys[i] = false) := fun h i hi hik => by
          by_cases e : i = k
          · subst e; exact h
          · exact hno.out i hi (by omega)
        generalize ys[k].acts.length = nl at *
        generalize ys[k].t = tt at *
        generalize isCm t ys[k] = r at *
        clear ha2 hcell2 hcell3 r3 p3 hno HR HK
        cases r with
        | true =>
          have hR3 := HY.out rfl
          subst hR3
          clear HY HN
          go_wp2_with fail
          refine bodyPost_ret (res_cellC (p := w.heap.size) rfl rfl (two_putC hA _ _)) rfl ⟨⟨_, _, _, _, rfl⟩, ?_⟩
          exact (k1.setCell (p := ⟨w.heap.size, 0, none⟩) (Nat.le_refl _) _).setCell (p := ⟨w.heap.size, 1, none⟩) (Nat.le_refl _) _
        | false =>
          have HN2 := hidden (HN.out rfl)
          clear HY HN
          go_wp2_with fail
          go_roundw
          case rel => exact ⟨k + 1, by omega, by go_num, HN2.out, by first | rfl | trivial⟩
          case measure => simp [intOf]; omega
      · have he : k = ys.length := by omega
        subst he
        have hR3 : R = false := by
          rw [HR.out]
          cases hq : ys.any (isCm t) with
          | false => rfl
          | true =>
            obtain ⟨x, hx, hy⟩ := List.any_eq_true.1 hq
            obtain ⟨i, hi, rfl⟩ := List.mem_iff_getElem.1 hx
            rw [hno.out i hi hi] at hy
            cases hy
        subst hR3
        clear ha2 hno HR HK
        go_wp2_with fail
        refine bodyPost_ret (res_cellC (p := w.heap.size) rfl rfl (two_putC hA _ _)) rfl ⟨⟨_, _, _, _, rfl⟩, ?_⟩
        exact (k1.setCell (p := ⟨w.heap.size, 0, none⟩) (Nat.le_refl _) _).setCell (p := ⟨w.heap.size, 1, none⟩) (Nat.le_refl _) _

set_option maxHeartbeats 4000000 in
set_option maxRecDepth 100000 in
theorem l13There_c (S : Nat → Prop) (v : Value) (xs : List PackD) (p t : ByteArray) (w : World) (hv : RowIn shPack S w v xs) (hB : ∀ b, S b → b < w.heap.size) (hw : wtRow wtPack xs ≤ 1048576) :
    Calls Try.prog 16 #[v, .string p, .string t] w fun e w' => e = .returned (.bool (hasT xs p t)) ∧ Below w.heap.size w w' := by
  have HC := hidden (l13Cmd_c S v xs p t w hv hB hw)
  obtain ⟨a, cap, rfl⟩ := hv.slice
  generalize hasT xs p t = R at *
  clear hv
  go_enter Try.func16, Try.ntmps16
  go_wp2_with fail
  go_at_call 30
  refine HC.out.mono ?_
  rintro e w1 ⟨⟨x0, x1, x2, x3, rfl⟩, b1⟩
  clear HC
  go_wp2_with fail
  go_ret
  exact ⟨rfl, b1.alloc b1.size _⟩

set_option maxHeartbeats 4000000 in
set_option maxRecDepth 100000 in
theorem specWantOf_c (S : Nat → Prop) (v u : Value) (xs : List PackD) (ns : List ByteArray) (t : ByteArray) (w : World) (hv : RowIn shPack S w v xs) (hB : ∀ b, S b → b < w.heap.size) (hw : wtRow wtPack xs ≤ 1048576) (hu : Reads w u (strsV ns)) (hn : ns.length ≤ 1048576) (hns : ∀ n ∈ ns, n.size ≤ 1048576) (ht : t.size ≤ 1048576) :
    Calls Try.prog 6 #[v, u, .string t] w fun e w' => ∃ (q : Value), e = .returned q ∧ w'.ownsRow w.heap.size 9 1 q (sortedS (wantL xs t ns)).length (strsV (sortedS (wantL xs t ns))) ∧ Below w.heap.size w w' := by
  obtain ⟨i0, hi, hz0, hz1, hz2⟩ := info_parts infoS
  have HH : Hid (∀ w1 p, Below w.heap.size w w1 → Calls Try.prog 16 #[v, .string p, .string t] w1 fun e w' => e = .returned (.bool (hasT xs p t)) ∧ Below w1.heap.size w1 w') := fun w1 p h => l13There_c S v xs p t w1 (hv.keep (.of h hB)) (fun b hb => Nat.lt_of_lt_of_le (hB b hb) h.size) hw
  have ho : (w.alloc (.cells #[] 9)).ownsRow w.heap.size 9 1 (.slice (some ⟨w.heap.size, 0, none⟩) 0 0) 0 [] := World.ownsRow_lit w #[] 0 (Nat.le_refl _) (by unfold maxLen; omega) rfl
  obtain ⟨q, cap, rfl, _, hc⟩ := reads_strs hu
  obtain ⟨av, capv, rfl⟩ := hv.slice
  clear hu hv hB hw
  go_enter Try.func6, Try.ntmps6
  go_wp2_with fail
  go_loopw [7, 8] (fun vx vi wr => ∃ (k : Nat) (ys : List ByteArray), k ≤ ns.length ∧ vi = .int .i64 (k : Int) ∧ Hid (ys = wantL xs t (ns.take k)) ∧ ys.length ≤ k ∧ wr.ownsRow w.heap.size 9 1 vx ys.length (strsV ys) ∧ Below w.heap.size w wr) (fun _ vi _ => ns.length - (intOf vi).toNat)
  case atStart => exact ⟨0, [], Nat.zero_le _, rfl, rfl, Nat.le_refl _, ho, (Below.refl _ _).alloc (Nat.le_refl _) _⟩
  case round =>
    clear ho
    obtain ⟨k, ys, hk, rfl, hys, hyk, hown, hbr⟩ := hrel
    obtain ⟨qo, co, hvo⟩ := owns_slG hown
    subst hvo
    by_cases hlt' : k < ns.length
    · rcases hc with rfl | ⟨b0, off, rfl, hlt, hc⟩
      · simp at hlt'
      have e0' : ∀ W, Below w.heap.size w W → W.cell? ⟨b0, off + k, none⟩ = some (.string ns[k]) := fun W h => (h.cell (by simpa using hlt)).trans (hc k hlt')
      have hsk := hns ns[k] (List.getElem_mem hlt')
      have HT := hidden (wantL_take xs t ns k hlt')
      rw [← hys.out] at HT
      obtain ⟨p, hp⟩ : ∃ t, t = ns[k] := ⟨_, rfl⟩
      rw [← hp] at e0' hsk HT
      have HE0 := hidden e0'
      have e0 := e0' wr hbr
      have HH2 := hidden (HH.out wr p hbr)
      have HTN := hidden (fun w1 => specTnW_c p t w1 hsk ht)
      obtain ⟨r, hr⟩ : ∃ r, r = hasT xs p t := ⟨_, rfl⟩
      rw [← hr] at HH2 HT
      obtain ⟨tn, htn⟩ : ∃ r, r = tnW p t := ⟨_, rfl⟩
      rw [← htn] at HTN HT
      have hki : (k : Int) < (ns.length : Int) := by omega
      clear hc hp hns hr htn HH e0'
      cases r with
      | true =>
        have HT2 : Hid (wantL xs t (ns.take (k + 1)) = ys ++ [tn]) := HT.out
        clear HT
        go_wp2_with fail
        go_at_call 16
        refine HH2.out.mono ?_
        rintro e w2 ⟨rfl, b2⟩
        have o2 := owns_of_belowN hown b2
        have k2 := hbr.trans (b2.mono hbr.size)
        have e2 := HE0.out w2 k2
        clear hown b2 e0 HE0
        go_wp2_with fail
        go_at_call 17
        refine (HTN.out w2).mono ?_
        rintro e w3 ⟨rfl, b3⟩
        have o3 := owns_of_belowN o2 b3
        have k3 := k2.trans (b3.mono k2.size)
        clear o2 b3 k2 HH2 HTN e2
        go_wp2_with (at_builtin; refine wpList_append_own _ rfl _ _ 23 rfl w.heap.size 9 i0 (.string ⟨#[]⟩) 1 16 Try.underlying23 hi hz0 hz1 hz2 rfl (by decide) _ ys.length (strsV ys) rfl (o3.alloc _) ⟨w3.heap.size, 0, none⟩ 1 1 (strsV [tn]) rfl rfl (cell_one_new _ _ _) (fun u hu => by simp [strsV] at hu; subst hu; rfl) (by unfold maxLen; omega) (by omega) (by have := k3.size; simp; omega) ?_)
        intro v4 w4 o4 gr4 hnil
        have hst : strsV ys ++ strsV [tn] = strsV (ys ++ [tn]) := by simp [strsV]
        rw [hst] at o4
        have k4 : Below w.heap.size w w4 := Below.grown (k3.alloc k3.size _) gr4 (by have := k3.size; simp; omega) (fun j hj => (o3.lt _ hj).1)
        clear gr4 hnil o3 k3 hst
        go_wp2_with fail
        go_roundw
        case rel => exact ⟨k + 1, ys ++ [tn], by omega, by go_num, HT2.out.symm, by simp; omega, by simpa using o4, k4⟩
        case measure => simp [intOf]; omega
      | false =>
        have HT2 := hidden (show wantL xs t (ns.take (k + 1)) = ys by rw [HT.out]; simp)
        clear HT HTN HE0
        go_wp2_with fail
        go_at_call 16
        refine HH2.out.mono ?_
        rintro e w2 ⟨rfl, b2⟩
        have o2 := owns_of_belowN hown b2
        have k2 := hbr.trans (b2.mono hbr.size)
        clear hown b2 HH2
        go_wp2_with fail
        go_roundw
        case rel => exact ⟨k + 1, ys, by omega, by go_num, HT2.out.symm, by omega, o2, k2⟩
        case measure => simp [intOf]; omega
    · have he : k = ns.length := by omega
      subst he
      have HE := hidden (show ys = wantL xs t ns by rw [hys.out, List.take_length])
      have HS := hidden (specSorted_c (.slice qo ys.length co) ys wr (reads_of_owns hown) (by omega))
      have hbs := hbr.size
      clear hc hys HH hown
      go_wp2_with fail
      go_at_call 18
      refine HS.out.mono ?_
      rintro e w2 ⟨u, zs, rfl, o1, hr1, hm1, hl1, b1⟩
      obtain rfl : zs = sortedS (wantL xs t ns) := risesS_eq hr1 (sortedS_rises _) (fun x => by rw [hm1 x, sortedS_mem, HE.out])
      go_wp2_with fail
      go_ret
      exact ⟨u, rfl, owns_lo hbr.size o1, hbr.trans (b1.mono hbr.size)⟩
end Go.Proofs.Ytdiopkegaeliaaa

/-! A value as a tree, how much it holds, and what it means that it lies in memory below a block number; no condition but those told. -/
namespace Go.Proofs.Ytdiopkegaeliaaa
open Go.RowKit
set_option linter.unusedSimpArgs false
set_option linter.unusedVariables false

inductive Tree where
  | mk (k n : Int) (s : ByteArray) (l : List Tree) (keys : List ByteArray) : Tree

theorem Tree.ind {P : Tree → Prop} (h : ∀ k n s l ks, (∀ U ∈ l, P U) → P (.mk k n s l ks)) : ∀ T, P T
  | .mk k n s l ks => h k n s l ks (fun U _ => Tree.ind h U)
  termination_by T => SizeOf.sizeOf T
  decreasing_by
    rename_i hU
    have := List.sizeOf_lt_of_mem hU
    simp
    omega

mutual
def Tree.wt : Tree → Nat
  | .mk _ _ s l ks => s.size + (wtL l + bulkS ks)
def wtL : List Tree → Nat
  | [] => 0
  | t :: r => 1 + t.wt + wtL r
end

theorem wtL_append (a b : List Tree) : wtL (a ++ b) = wtL a + wtL b := by
  induction a with
  | nil => simp [wtL]
  | cons t r ih => simp only [List.cons_append, wtL, ih]; omega

theorem wtL_take_succ (l : List Tree) (k : Nat) (h : k < l.length) : wtL (l.take (k + 1)) = wtL (l.take k) + 1 + (l[k]).wt := by
  rw [List.take_succ_eq_append_getElem h, wtL_append]
  simp [wtL]; omega

theorem wtL_take_le (l : List Tree) (k : Nat) : wtL (l.take k) ≤ wtL l := by
  conv => rhs; rw [← List.take_append_drop k l, wtL_append]
  omega

theorem length_le_wtL (l : List Tree) : l.length ≤ wtL l := by
  induction l with
  | nil => simp
  | cons t r ih => simp only [List.length_cons, wtL]; omega

theorem wtL_take_rest (l : List Tree) (k : Nat) : wtL (l.take k) + (l.length - k) ≤ wtL l := by
  conv => rhs; rw [← List.take_append_drop k l, wtL_append]
  have := length_le_wtL (l.drop k)
  simp at this
  omega

theorem wt_le_wtL {l : List Tree} {U : Tree} (h : U ∈ l) : U.wt + 1 ≤ wtL l := by
  induction l with
  | nil => simp at h
  | cons t r ih =>
    simp only [List.mem_cons] at h
    simp only [wtL]
    rcases h with rfl | h
    · omega
    · have := ih h; omega

/-- In blocks of S the world w' is as w was. -/
def KeptIn (S : Nat → Prop) (w w' : World) : Prop := ∀ b, S b → w'.heap[b]? = w.heap[b]?
theorem KeptIn.cell {S : Nat → Prop} {w w' : World} (h : KeptIn S w w') {b : Nat} (hb : S b) (o : Nat) : w'.cell? ⟨b, o, none⟩ = w.cell? ⟨b, o, none⟩ := World.cell?_of_block (w := w) (h b hb)
theorem KeptIn.trans {S : Nat → Prop} {a b c : World} (h : KeptIn S a b) (k : KeptIn S b c) : KeptIn S a c := fun i hi => (k i hi).trans (h i hi)
theorem KeptIn.of {S : Nat → Prop} {B : Nat} {w w' : World} (hb : Below B w w') (hS : ∀ b, S b → b < B) : KeptIn S w w' := fun b h => hb.block b (hS b h)

/-- A list of texts that lies in blocks of S. -/
def ReadsB (S : Nat → Prop) (w : World) (v : Value) (xs : List Value) : Prop :=
  ∃ a cap, v = .slice a xs.length cap ∧ xs.length ≤ cap ∧ (xs = [] ∨ ∃ b off, a = some ⟨b, off, none⟩ ∧ S b ∧ ∀ k (h : k < xs.length), w.cell? ⟨b, off + k, none⟩ = some xs[k])

theorem ReadsB.reads {S : Nat → Prop} {w : World} {v : Value} {xs : List Value} (h : ReadsB S w v xs) (hS : ∀ b, S b → b < w.heap.size) : Reads w v xs := by
  obtain ⟨a, cap, hv, hc, h⟩ := h
  refine ⟨a, cap, hv, hc, ?_⟩
  rcases h with h | ⟨b, off, ha, hb, h⟩
  · exact .inl h
  · exact .inr ⟨b, off, ha, hS b hb, h⟩

theorem ReadsB.of {w : World} {v : Value} {xs : List Value} (h : Reads w v xs) : ReadsB (· < w.heap.size) w v xs := h

theorem ReadsB.keep {S : Nat → Prop} {w w' : World} {v : Value} {xs : List Value} (hb : KeptIn S w w') (h : ReadsB S w v xs) : ReadsB S w' v xs := by
  obtain ⟨a, cap, hv, hc, h⟩ := h
  refine ⟨a, cap, hv, hc, ?_⟩
  rcases h with h | ⟨b, off, ha, hlt, h⟩
  · exact .inl h
  · exact .inr ⟨b, off, ha, hlt, fun k hk => (hb.cell hlt _).trans (h k hk)⟩

theorem ReadsB.mono {S S' : Nat → Prop} {w : World} {v : Value} {xs : List Value} (hB : ∀ b, S b → S' b) (h : ReadsB S w v xs) : ReadsB S' w v xs := by
  obtain ⟨a, cap, hv, hc, h⟩ := h
  refine ⟨a, cap, hv, hc, ?_⟩
  rcases h with h | ⟨b, off, ha, hlt, h⟩
  · exact .inl h
  · exact .inr ⟨b, off, ha, hB b hlt, h⟩

def saneS (ks : List ByteArray) : Prop := ks.length ≤ maxLen ∧ ∀ s ∈ ks, s.size ≤ maxLen

/-- The value v is the tree T, all of whose memory lies in blocks of S. -/
inductive Lies (S : Nat → Prop) (w : World) : Value → Tree → Prop
  | mk (k n : Int) (s : ByteArray) (l : List Tree) (ks : List ByteArray) (a : Option Addr) (cap : Nat) (u : Value) (C : Nat → Nat → Value)
      (hs : s.size ≤ maxLen) (hl : l.length ≤ maxLen) (hk : saneS ks) (hc : l.length ≤ cap) (hu : ReadsB S w u (strsV ks))
      (ha : l = [] ∨ ∃ b off, a = some ⟨b, off, none⟩ ∧ S b ∧ ∀ i, i < l.length → ∀ j, j < 5 → w.cell? ⟨b, off + i * 5 + j, none⟩ = some (C i j))
      (hC : ∀ i (h : i < l.length), Lies S w (.agg #[C i 0, C i 1, C i 2, C i 3, C i 4]) l[i]) :
      Lies S w (.agg #[.int .i64 k, .int .i64 n, .string s, .slice a l.length cap, u]) (.mk k n s l ks)

/-- The list of values v is l. -/
def LiesL (S : Nat → Prop) (w : World) (v : Value) (l : List Tree) : Prop :=
  ∃ a cap, ∃ C : Nat → Nat → Value, v = .slice a l.length cap ∧ l.length ≤ maxLen ∧ l.length ≤ cap ∧
    (l = [] ∨ ∃ b off, a = some ⟨b, off, none⟩ ∧ S b ∧ ∀ i, i < l.length → ∀ j, j < 5 → w.cell? ⟨b, off + i * 5 + j, none⟩ = some (C i j)) ∧
    ∀ i (h : i < l.length), Lies S w (.agg #[C i 0, C i 1, C i 2, C i 3, C i 4]) l[i]

theorem Lies.out {S : Nat → Prop} {w : World} {v : Value} {k n : Int} {s : ByteArray} {l : List Tree} {ks : List ByteArray} (h : Lies S w v (.mk k n s l ks)) :
    ∃ c u, v = .agg #[.int .i64 k, .int .i64 n, .string s, c, u] ∧ s.size ≤ maxLen ∧ saneS ks ∧ LiesL S w c l ∧ ReadsB S w u (strsV ks) := by
  cases h with
  | mk k n s l ks a cap u C hs hl hk hc hu ha hC => exact ⟨_, u, rfl, hs, hk, ⟨a, cap, C, rfl, hl, hc, ha, hC⟩, hu⟩

theorem Lies.of {S : Nat → Prop} {w : World} {c u : Value} {k n : Int} {s : ByteArray} {l : List Tree} {ks : List ByteArray} (hs : s.size ≤ maxLen) (hk : saneS ks) (hl : LiesL S w c l) (hu : ReadsB S w u (strsV ks)) :
    Lies S w (.agg #[.int .i64 k, .int .i64 n, .string s, c, u]) (.mk k n s l ks) := by
  obtain ⟨a, cap, C, rfl, hl, hc, ha, hC⟩ := hl
  exact .mk k n s l ks a cap u C hs hl hk hc hu ha hC

theorem LiesL.mk_keep {S : Nat → Prop} {w w' : World} {v : Value} {l : List Tree} (hb : KeptIn S w w') (hi : ∀ U ∈ l, ∀ x, Lies S w x U → Lies S w' x U) (h : LiesL S w v l) : LiesL S w' v l := by
  obtain ⟨a, cap, C, rfl, hl, hc, ha, hC⟩ := h
  refine ⟨a, cap, C, rfl, hl, hc, ?_, fun i h => hi _ (List.getElem_mem h) _ (hC i h)⟩
  rcases ha with ha | ⟨b, off, ha, hlt, hcell⟩
  · exact .inl ha
  · exact .inr ⟨b, off, ha, hlt, fun i hi j hj => (hb.cell hlt _).trans (hcell i hi j hj)⟩

theorem Lies.keep {S : Nat → Prop} {w w' : World} (hb : KeptIn S w w') : ∀ {T : Tree} {v : Value}, Lies S w v T → Lies S w' v T := by
  have h := Tree.ind (P := fun T => ∀ v, Lies S w v T → Lies S w' v T) ?_
  · exact fun {T v} hx => h T v hx
  intro k n s l ks ih v h
  obtain ⟨c, u, rfl, hs, hk, hl, hu⟩ := h.out
  exact Lies.of hs hk (hl.mk_keep hb ih) (hu.keep hb)

theorem LiesL.keep {S : Nat → Prop} {w w' : World} {v : Value} {l : List Tree} (hb : KeptIn S w w') (h : LiesL S w v l) : LiesL S w' v l :=
  h.mk_keep hb fun U _ x hx => Lies.keep hb hx

theorem LiesL.mk_mono {S S' : Nat → Prop} {w : World} {v : Value} {l : List Tree} (hB : ∀ b, S b → S' b) (hi : ∀ U ∈ l, ∀ x, Lies S w x U → Lies S' w x U) (h : LiesL S w v l) : LiesL S' w v l := by
  obtain ⟨a, cap, C, rfl, hl, hc, ha, hC⟩ := h
  refine ⟨a, cap, C, rfl, hl, hc, ?_, fun i h => hi _ (List.getElem_mem h) _ (hC i h)⟩
  rcases ha with ha | ⟨b, off, ha, hlt, hcell⟩
  · exact .inl ha
  · exact .inr ⟨b, off, ha, hB b hlt, hcell⟩

theorem Lies.mono {S S' : Nat → Prop} {w : World} (hB : ∀ b, S b → S' b) : ∀ {T : Tree} {v : Value}, Lies S w v T → Lies S' w v T := by
  have h := Tree.ind (P := fun T => ∀ v, Lies S w v T → Lies S' w v T) ?_
  · exact fun {T v} hx => h T v hx
  intro k n s l ks ih v h
  obtain ⟨c, u, rfl, hs, hk, hl, hu⟩ := h.out
  exact Lies.of hs hk (hl.mk_mono hB ih) (hu.mono hB)

theorem LiesL.mono {S S' : Nat → Prop} {w : World} {v : Value} {l : List Tree} (hB : ∀ b, S b → S' b) (h : LiesL S w v l) : LiesL S' w v l :=
  h.mk_mono hB fun U _ x hx => Lies.mono hB hx

/-- What is at place i of a list of values: five cells, which are the tree there. -/
theorem LiesL.at {S : Nat → Prop} {w : World} {v : Value} {l : List Tree} (h : LiesL S w v l) :
    ∃ a cap, v = .slice a l.length cap ∧ l.length ≤ maxLen ∧ l.length ≤ cap ∧ (l = [] ∨ ∃ b off, a = some ⟨b, off, none⟩ ∧ S b ∧ ∀ i (h : i < l.length), ∃ c0 c1 c2 c3 c4,
      w.cell? ⟨b, off + i * 5, none⟩ = some c0 ∧ w.cell? ⟨b, off + i * 5 + 1, none⟩ = some c1 ∧ w.cell? ⟨b, off + i * 5 + 2, none⟩ = some c2 ∧ w.cell? ⟨b, off + i * 5 + 3, none⟩ = some c3 ∧ w.cell? ⟨b, off + i * 5 + 4, none⟩ = some c4 ∧
      Lies S w (.agg #[c0, c1, c2, c3, c4]) l[i]) := by
  obtain ⟨a, cap, C, rfl, hl, hc, ha, hC⟩ := h
  refine ⟨a, cap, rfl, hl, hc, ?_⟩
  rcases ha with ha | ⟨b, off, ha, hlt, hcell⟩
  · exact .inl ha
  · refine .inr ⟨b, off, ha, hlt, fun i hi => ⟨C i 0, C i 1, C i 2, C i 3, C i 4, ?_, ?_, ?_, ?_, ?_, hC i hi⟩⟩
    · simpa using hcell i hi 0 (by omega)
    · exact hcell i hi 1 (by omega)
    · exact hcell i hi 2 (by omega)
    · exact hcell i hi 3 (by omega)
    · exact hcell i hi 4 (by omega)

/-- A parameter that was put into a block of its own is still there behind a call. -/
theorem box5 {w w1 : World} {c0 c1 c2 c3 c4 : Value} {t : TypeId} (hb : Below (w.alloc (.cells #[c0, c1, c2, c3, c4] t)).heap.size (w.alloc (.cells #[c0, c1, c2, c3, c4] t)) w1) :
    w1.cell? ⟨w.heap.size, 0, none⟩ = some c0 ∧ w1.cell? ⟨w.heap.size, 1, none⟩ = some c1 ∧ w1.cell? ⟨w.heap.size, 2, none⟩ = some c2 ∧ w1.cell? ⟨w.heap.size, 3, none⟩ = some c3 ∧ w1.cell? ⟨w.heap.size, 4, none⟩ = some c4 := by
  have h : ∀ j, w1.cell? ⟨w.heap.size, j, none⟩ = (#[c0, c1, c2, c3, c4] : Array Value)[j]? := fun j => by
    rw [hb.cell (p := ⟨w.heap.size, j, none⟩) (by simp)]
    have e : (w.alloc (.cells #[c0, c1, c2, c3, c4] t)).heap[w.heap.size]? = some (.cells #[c0, c1, c2, c3, c4] t) := by show (w.heap.push _)[w.heap.size]? = _; simp
    simp only [World.cell?, e]; rfl
  exact ⟨h 0, h 1, h 2, h 3, h 4⟩

theorem heap_new (w : World) (o : Obj) : (w.alloc o).heap[w.heap.size]? = some o := by show (w.heap.push _)[w.heap.size]? = _; simp
theorem heap_old (w : World) (o : Obj) {b : Nat} (h : b < w.heap.size) : (w.alloc o).heap[b]? = w.heap[b]? := Below.heap_alloc w o b h
theorem three {w w1 : World} {A R O : Obj} (hb : Below (((w.alloc A).alloc R).alloc O).heap.size (((w.alloc A).alloc R).alloc O) w1) :
    w1.heap[w.heap.size]? = some A ∧ w1.heap[w.heap.size + 1]? = some R ∧ w1.heap[w.heap.size + 1 + 1]? = some O := by
  have s1 : (w.alloc A).heap.size = w.heap.size + 1 := by simp
  have s2 : ((w.alloc A).alloc R).heap.size = w.heap.size + 1 + 1 := by simp
  refine ⟨?_, ?_, ?_⟩
  · rw [hb.block _ (by simp; omega), heap_old _ _ (by simp; omega), heap_old _ _ (by simp), heap_new]
  · rw [hb.block _ (by simp), heap_old _ _ (by simp), ← s1, heap_new]
  · rw [hb.block _ (by simp), ← s2, heap_new]
theorem blk_cell {w : World} {b : Nat} {cs : Array Value} {t : TypeId} (h : w.heap[b]? = some (.cells cs t (0, 0))) (j : Nat) : w.cell? ⟨b, j, none⟩ = cs[j]? := cell_of_row w b j cs t (0, 0) h
theorem blk_frozen {w : World} {b : Nat} {cs : Array Value} {t : TypeId} (h : w.heap[b]? = some (.cells cs t (0, 0))) (j : Nat) : w.frozen? ⟨b, j, none⟩ = false := frozen_of_row w b j cs t h
theorem blk_set {w : World} {b : Nat} {cs : Array Value} {t : TypeId} (h : w.heap[b]? = some (.cells cs t (0, 0))) (j : Nat) (v : Value) : (w.setCell ⟨b, j, none⟩ v).heap[b]? = some (.cells (cs.setIfInBounds j v) t (0, 0)) := heap_setCell_same w b j cs t v h

#print axioms Lies.keep
end Go.Proofs.Ytdiopkegaeliaaa

/-! How much a value holds, as the law's own helper reckons it: a contract for every value that lies in memory. -/
namespace Go.Proofs.Ytdiopkegaeliaaa
open Go.RowKit
set_option linter.unusedSimpArgs false
set_option linter.unusedVariables false

set_option maxHeartbeats 1000000 in
set_option maxRecDepth 100000 in
theorem sizeStrsT_c (v : Value) (ss : List ByteArray) (w : World) (left : Int) (hl0 : 0 ≤ left) (hl1 : left ≤ 1048576) (hv : Reads w v (strsV ss)) (hn : ss.length ≤ maxLen) (hs : ∀ s ∈ ss, s.size ≤ maxLen) :
    Calls Try.prog 5 #[v, .int .i64 left] w fun e w' => e = .returned (.int .i64 (leftS ss left)) ∧ w = w' := by
  obtain ⟨a, cap, rfl, _, hc⟩ := reads_strs hv
  clear hv
  unfold maxLen at hn hs
  by_cases h0 : left < (ss.length : Int)
  · have hneg : left - (ss.length : Int) < 0 := by omega
    have e : leftS ss left = -1 := by rw [leftS, bulkS, if_neg (by omega)]
    rw [e]
    clear hc hs
    go_enter Try.func5, Try.ntmps5
    go_wp2
    go_ret
    exact ⟨rfl, rfl⟩
  · have hpos : ¬ (left - (ss.length : Int) < 0) := by omega
    rcases hc with rfl | ⟨b, off, rfl, hlt, hc⟩
    · go_enter Try.func5, Try.ntmps5
      go_wp2
      go_loop [1, 5] (fun vl vi => vl = .int .i64 left ∧ vi = .int .i64 0) (fun _ _ => 0)
      case atStart => exact ⟨rfl, rfl⟩
      case round =>
        obtain ⟨rfl, rfl⟩ := hrel
        go_wp2
        go_ret
        exact ⟨by rw [show leftS [] left = left by simp [leftS, bulkS, hl0]]; rfl, rfl⟩
    · go_enter Try.func5, Try.ntmps5
      go_wp2
      go_loop [1, 5] (fun vl vi => ∃ (k : Nat) (l : Int), k ≤ ss.length ∧ vi = .int .i64 (k : Int) ∧ vl = .int .i64 l ∧ 0 ≤ l ∧ l ≤ 1048576 ∧ Hid (l = left - (ss.length : Int) - (((ss.take k).map ByteArray.size).sum : Int))) (fun _ vi => ss.length - (intOf vi).toNat)
      case atStart => exact ⟨0, _, Nat.zero_le _, rfl, rfl, by omega, by omega, by show _ = _; simp⟩
      case round =>
        obtain ⟨k, l, hk, rfl, rfl, hq0, hq1, hl⟩ := hrel
        by_cases hlt' : k < ss.length
        · have hcx := hc k hlt'
          have hsk := hs ss[k] (List.getElem_mem hlt')
          have hsum := sum_take_succ ss k hlt'
          obtain ⟨t, ht⟩ : ∃ t, t = ss[k] := ⟨_, rfl⟩
          rw [← ht] at hcx hsk hsum
          have HS : Hid (((ss.take (k + 1)).map ByteArray.size).sum = ((ss.take k).map ByteArray.size).sum + t.size) := hsum
          have hki : (k : Int) < (ss.length : Int) := by omega
          clear hc hs ht hsum
          by_cases hneg : l - (t.size : Int) < 0
          · have e : leftS ss left = -1 := by
              have h1 := HS.out; have h2 := hl.out; have h3 := sum_take_le ss (k + 1)
              rw [leftS, bulkS, if_neg (by omega)]
            have HE : Hid (leftS ss left = -1) := e
            clear e
            go_wp2
            go_ret
            exact ⟨by rw [HE.out]; rfl, rfl⟩
          · go_wp2
            go_round
            case rel => exact ⟨k + 1, l - (t.size : Int), by omega, by go_num, rfl, by omega, by omega, (by show _ = _; rw [HS.out, hl.out]; omega)⟩
            case measure => simp [intOf]; omega
        · have he : k = ss.length := by omega
          subst he
          have e : leftS ss left = l := by
            have h2 := hl.out
            rw [List.take_length] at h2
            rw [leftS, bulkS, if_pos (by omega)]; omega
          have HE : Hid (leftS ss left = l) := e
          clear hc hs e
          go_wp2
          go_ret
          exact ⟨by rw [HE.out]; rfl, rfl⟩
def leftN (n : Nat) (left : Int) : Int := if (n : Int) ≤ left then left - (n : Int) else -1
theorem leftN_bad {n : Nat} {left : Int} (h : left < (n : Int)) : leftN n left = -1 := by unfold leftN; rw [if_neg (by omega)]
theorem leftN_good {n : Nat} {left : Int} (h : (n : Int) ≤ left) : leftN n left = left - (n : Int) := by unfold leftN; rw [if_pos h]
theorem leftS_N (ks : List ByteArray) (left : Int) : leftS ks left = leftN (bulkS ks) left := rfl
theorem wt_mk (k n : Int) (s : ByteArray) (l : List Tree) (ks : List ByteArray) : (Tree.mk k n s l ks).wt = s.size + (wtL l + bulkS ks) := by rw [Tree.wt]

end Go.Proofs.Ytdiopkegaeliaaa
