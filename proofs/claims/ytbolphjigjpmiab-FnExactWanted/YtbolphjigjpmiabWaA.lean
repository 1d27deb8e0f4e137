/-
  Wanted, as the program and the specification answer it: contracts for the walks; conditions: what comes in lies in memory, and holds at most 2 to the 20.
-/
import Derived.Test.YtbolphjigjpmiabCpB
import Derived.Test.YtbolphjigjpmiabPkA
import Derived.Test.YtbolphjigjpmiabEkS
import Derived.Laws.AppendOwnNone
namespace Go.Proofs.Ytbolphjigjpmiab
open Go.RowKit
set_option linter.unusedSimpArgs false
set_option linter.unusedVariables false

def allN (xs : List PackD) : List NeedD := xs.flatMap (·.needs)
theorem allN_take (xs : List PackD) (k : Nat) (h : k < xs.length) : allN (xs.take (k + 1)) = allN (xs.take k) ++ xs[k].needs := by
  unfold allN
  rw [List.take_succ_eq_append_getElem h, List.flatMap_append]; simp
theorem allN_wt : ∀ xs : List PackD, wtRow wtNeed (allN xs) ≤ wtRow wtPack xs
  | [] => by simp [allN, wtRow]
  | d :: xs => by
    have h1 := allN_wt xs
    have e1 : wtRow wtNeed (allN (d :: xs)) = wtRow wtNeed d.needs + wtRow wtNeed (allN xs) := by simp [allN, wtRow]
    have e2 : wtRow wtPack (d :: xs) = (1 + wtPack d) + wtRow wtPack xs := by simp [wtRow]
    have h2 : wtRow wtNeed d.needs ≤ wtPack d := by unfold wtPack; omega
    omega
theorem allN_len (xs : List PackD) (k : Nat) : (allN (xs.take k)).length ≤ wtRow wtPack xs := by
  have h1 := len_wtRow wtNeed (allN (xs.take k))
  have h2 := allN_wt (xs.take k)
  have h3 := wtRow_split wtPack xs k
  omega
theorem add_zero (g j : Nat) : (⟨g, 0, none⟩ : Addr).add j = ⟨g, j, none⟩ := by unfold Addr.add; split <;> simp_all
theorem owns_src {w : World} {lo n cap g : Nat} {e : TypeId} {sz : Nat} {xs : List Value} (h : w.ownsRow lo e sz (.slice (some ⟨g, 0, none⟩) n cap) n xs) : ∀ j u, xs[j]? = some u → w.cell? ((⟨g, 0, none⟩ : Addr).add j) = some u := fun j u hu => by
  have hj : j < n * sz := by
    have := (List.getElem?_eq_some_iff.1 hu).1
    have := h.1
    omega
  rw [add_zero, h.cellAt j hj]
  exact hu

set_option maxHeartbeats 4000000 in
set_option maxRecDepth 100000 in
theorem implWanted_c (S : Nat → Prop) (v : Value) (xs : List PackD) (w : World) (hv : RowIn shPack S w v xs) (hB : ∀ b, S b → b < w.heap.size) (hw : wtRow wtPack xs ≤ 1048576) :
    Calls Try.prog 7 #[v] w fun e w' => ∃ u', e = .returned u' ∧ w'.ownsRow w.heap.size 46 2 u' (allN xs).length (needsV (allN xs)) ∧ Below w.heap.size w w' := by
  obtain ⟨i0, hi, hz0, hz1, hz2⟩ := info_parts infoNeed
  have hwe : ∀ d ∈ xs, wtPack d ≤ 1048576 := fun d hd => Nat.le_trans (wt_wtRow wtPack hd) hw
  obtain ⟨av, cv, rfl, hl, hc, ha⟩ := hv
  unfold maxLen at hl
  go_enter Try.func7, Try.ntmps7
  go_wp2_with fail
  go_loopw [3, 8] (fun vx vi wr => ∃ (k m : Nat) (ys : List Value), k ≤ xs.length ∧ vi = .int .i64 (k : Int) ∧ Hid (m = (allN (xs.take k)).length ∧ ys = needsV (allN (xs.take k))) ∧ wr.ownsRow w.heap.size 46 2 vx m ys ∧ Below w.heap.size w wr) (fun _ vi _ => xs.length - (intOf vi).toNat)
  case atStart => exact ⟨0, 0, [], Nat.zero_le _, rfl, ⟨by simp [allN], by simp [allN, needsV]⟩, World.ownsRow_nil _ _ _ _, Below.refl _ _⟩
  case round =>
    obtain ⟨k, m, ys, hk, rfl, hmy, hown, hbr⟩ := hrel
    obtain ⟨qo, co, hvo⟩ := owns_sliceP hown
    subst hvo
    by_cases hlt' : k < xs.length
    · rcases ha with rfl | ⟨b, off, rfl, hlt, ha⟩
      · simp at hlt'
      obtain ⟨cs, hL, hcell⟩ := ha k hlt'
      have hcell2 := hcell.keep (.of hbr hB) hlt
      replace hL := shPack.keep (.of hbr hB) hL
      have hBr : ∀ b, S b → b < wr.heap.size := fun b h => Nat.lt_of_lt_of_le (hB b h) hbr.size
      have hwk := hwe xs[k] (List.getElem_mem hlt')
      have hn1 := allN_len xs (k + 1)
      have HT : Hid ((allN (xs.take (k + 1))).length = m + xs[k].needs.length ∧ needsV (allN (xs.take (k + 1))) = ys ++ needsV xs[k].needs) := ⟨by rw [allN_take xs k hlt', hmy.out.1, List.length_append], by rw [allN_take xs k hlt', hmy.out.2, needsV_append]⟩
      have hsum : m + xs[k].needs.length ≤ 1048576 := by have := HT.out.1; omega
      obtain ⟨d, hd⟩ : ∃ d, d = xs[k] := ⟨_, rfl⟩
      rw [← hd] at hL HT hwk hsum
      obtain ⟨u0, u1, u2, rfl, s_n, r0, p0, r1, r2⟩ := hL
      have hwn : wtRow wtNeed d.needs ≤ 1048576 := by unfold wtPack at hwk; omega
      have HV' : ∀ w1, Below wr.heap.size wr w1 → Calls Try.prog 15 #[u1] w1 fun e w' => ∃ u', e = .returned u' ∧ w'.ownsRow w1.heap.size 46 2 u' d.needs.length (needsV d.needs) ∧ Below w1.heap.size w1 w' := fun w1 h => copyNeeds_c S u1 d.needs w1 (r1.keep (.of h hBr)) (fun b hb => Nat.lt_of_lt_of_le (hBr b hb) h.size) hwn
      have HV := hidden HV'
      clear HV'
      obtain ⟨a0, c0, eu0, _⟩ := id r0
      rw [length_strsV] at eu0
      obtain ⟨a1, c1, eu1, _⟩ := id r1
      obtain ⟨a2, c2, eu2, _⟩ := id r2
      subst eu0 eu1 eu2
      have e0 : wr.cell? ⟨b, off + k * 4, none⟩ = some (.string d.name) := hcell2 0 (by simp)
      have e1 : wr.cell? ⟨b, off + k * 4 + 1, none⟩ = some (.slice a0 d.uses.length c0) := hcell2 1 (by simp)
      have e2 : wr.cell? ⟨b, off + k * 4 + 2, none⟩ = some (.slice a1 d.needs.length c1) := hcell2 2 (by simp)
      have e3 : wr.cell? ⟨b, off + k * 4 + 3, none⟩ = some (.slice a2 d.cmds.length c2) := hcell2 3 (by simp)
      have hki : (k : Int) < (xs.length : Int) := by omega
      have hb0 : Below wr.heap.size wr (wr.alloc (.cells #[.string d.name, .slice a0 d.uses.length c0, .slice a1 d.needs.length c1, .slice a2 d.cmds.length c2] 41 (0, 0))) := (Below.refl _ _).alloc (Nat.le_refl _) _
      have o0 := owns_of_belowN hown hb0
      have k0 := hbr.trans (hb0.mono hbr.size)
      clear ha hd hcell hcell2 r0 r1 r2 hown hmy hwk hn1
      go_wp2_with fail
      go_at_call 15
      refine (HV.out _ hb0).mono ?_
      rintro e w1 ⟨u', rfl, ho, b1⟩
      have k1 := k0.trans (b1.mono k0.size)
      have o1 := owns_of_belowN o0 b1
      clear HV o0 hb0 e0 e1 e2 e3
      rcases id ho.2 with ⟨rfl, hn0⟩ | ⟨g, cap, cur, rfl, _, _⟩
      · have HY : Hid (ys ++ needsV d.needs = ys ∧ m + d.needs.length = m) := by
          have hnil : d.needs = [] := List.eq_nil_of_length_eq_zero hn0
          exact ⟨by rw [hnil]; simp [needsV], by omega⟩
        clear ho
        go_wp2_with (at_builtin; refine wpList_append_own_none rfl _ _ 24 rfl w.heap.size 46 i0 2 Try.underlying24 hi _ m ys rfl o1 rfl ?_)
        go_wp2_with fail
        go_roundw
        case rel => exact ⟨k + 1, m, ys, by omega, by go_num, ⟨by rw [HT.out.1, HY.out.2], by rw [HT.out.2, HY.out.1]⟩, o1, k1⟩
        case measure => simp [intOf]; omega
      · have hsrc := owns_src ho
        have HSRC := hidden hsrc
        have hll : (needsV d.needs).length = d.needs.length * 2 := needsV_length _
        clear hsrc ho
        go_wp2_with (at_builtin; refine wpList_append_own _ rfl _ _ 24 rfl w.heap.size 46 i0 (.agg #[.string ⟨#[]⟩, .string ⟨#[]⟩]) 2 32 Try.underlying24 hi hz0 hz1 hz2 rfl (by decide) _ m ys rfl o1 ⟨g, 0, none⟩ d.needs.length cap (needsV d.needs) rfl hll HSRC.out (needsV_one d.needs) (by unfold maxLen; omega) (by omega) k1.size ?_)
        intro v3 w3 o3 gr3 _
        have hb3 : Below w.heap.size w w3 := Below.grown k1 gr3 k1.size (fun j hj => (o1.lt _ hj).1)
        go_wp2_with fail
        go_roundw
        case rel => exact ⟨k + 1, _, _, by omega, by go_num, ⟨HT.out.1.symm, HT.out.2.symm⟩, o3, hb3⟩
        case measure => simp [intOf]; omega
    · have he : k = xs.length := by omega
      subst he
      have HE : Hid (m = (allN xs).length ∧ ys = needsV (allN xs)) := by have := hmy.out; rw [List.take_length] at this; exact this
      have HO := hidden hown
      clear ha hmy hown
      go_wp2_with fail
      go_ret
      refine ⟨_, rfl, ?_, hbr⟩
      have := HO.out
      rw [HE.out.1, HE.out.2] at this
      rw [HE.out.1]
      exact this

set_option maxHeartbeats 4000000 in
set_option maxRecDepth 100000 in
theorem specWanted_c (S : Nat → Prop) (v : Value) (xs : List PackD) (w : World) (hv : RowIn shPackO S w v xs) (hB : ∀ b, S b → b < w.heap.size) (hw : wtRow wtPack xs ≤ 1048576) :
    Calls Try.prog 5 #[v] w fun e w' => ∃ u', e = .returned u' ∧ w'.ownsRow w.heap.size 46 2 u' (allN xs).length (needsV (allN xs)) ∧ Below w.heap.size w w' := by
  obtain ⟨i0, hi, hz0, hz1, hz2⟩ := info_parts infoNeed
  have hwe : ∀ d ∈ xs, wtPack d ≤ 1048576 := fun d hd => Nat.le_trans (wt_wtRow wtPack hd) hw
  obtain ⟨av, cv, rfl, hl, hc, ha⟩ := hv
  unfold maxLen at hl
  have hbx : Below w.heap.size w (w.alloc (.cells #[] 46)) := (Below.refl _ _).alloc (Nat.le_refl _) _
  have hg0 : (w.alloc (.cells #[] 46)).ownsRow w.heap.size 46 2 (.slice (some ⟨w.heap.size, 0, none⟩) 0 0) 0 [] := World.ownsRow_lit w #[] 0 (Nat.le_refl _) (by unfold maxLen; omega) rfl
  go_enter Try.func5, Try.ntmps5
  go_wp2_with fail
  go_loopw [3, 4] (fun vx vi wr => ∃ (k m : Nat) (ys : List Value), k ≤ xs.length ∧ vi = .int .i64 (k : Int) ∧ Hid (m = (allN (xs.take k)).length ∧ ys = needsV (allN (xs.take k))) ∧ wr.ownsRow w.heap.size 46 2 vx m ys ∧ Below w.heap.size w wr) (fun _ vi _ => xs.length - (intOf vi).toNat)
  case atStart => exact ⟨0, 0, [], Nat.zero_le _, rfl, ⟨by simp [allN], by simp [allN, needsV]⟩, hg0, hbx⟩
  case round =>
    clear hbx hg0
    obtain ⟨k, m, ys, hk, rfl, hmy, hown, hbr⟩ := hrel
    obtain ⟨qo, co, hvo⟩ := owns_sliceP hown
    subst hvo
    by_cases hlt' : k < xs.length
    · rcases ha with rfl | ⟨b, off, rfl, hlt, ha⟩
      · simp at hlt'
      obtain ⟨cs, hL, hcell⟩ := ha k hlt'
      have hcell2 := hcell.keep (.of hbr hB) hlt
      replace hL := shPackO.keep (.of hbr hB) hL
      have hn1 := allN_len xs (k + 1)
      have HT : Hid ((allN (xs.take (k + 1))).length = m + xs[k].needs.length ∧ needsV (allN (xs.take (k + 1))) = ys ++ needsV xs[k].needs) := ⟨by rw [allN_take xs k hlt', hmy.out.1, List.length_append], by rw [allN_take xs k hlt', hmy.out.2, needsV_append]⟩
      have hsum : m + xs[k].needs.length ≤ 1048576 := by have := HT.out.1; omega
      obtain ⟨d, hd⟩ : ∃ d, d = xs[k] := ⟨_, rfl⟩
      rw [← hd] at hL HT hsum
      obtain ⟨u0, u1, u2, rfl, s_n, r0, p0, r1, r2⟩ := hL
      obtain ⟨_, yn, hyn, _, hLd⟩ := r1
      have hyN := laid_needs hLd hyn.1
      subst hyN
      have e2 : wr.cell? ⟨b, off + k * 4 + 2, none⟩ = some u1 := hcell2 2 (by simp)
      have hki : (k : Int) < (xs.length : Int) := by omega
      clear ha hd hcell hcell2 r0 r2 hmy hn1 hLd
      have ho : wr.ownsRow 0 46 2 u1 d.needs.length (needsV d.needs) := hyn
      clear hyn
      rcases id ho.2 with ⟨rfl, hn0⟩ | ⟨g, cap, cur, rfl, _, _⟩
      · have HY : Hid (ys ++ needsV d.needs = ys ∧ m + d.needs.length = m) := by
          have hnil : d.needs = [] := List.eq_nil_of_length_eq_zero hn0
          exact ⟨by rw [hnil]; simp [needsV], by omega⟩
        clear ho
        go_wp2_with (at_builtin; refine wpList_append_own_none rfl _ _ 24 rfl w.heap.size 46 i0 2 Try.underlying24 hi _ m ys rfl hown rfl ?_)
        go_wp2_with fail
        go_roundw
        case rel => exact ⟨k + 1, m, ys, by omega, by go_num, ⟨by rw [HT.out.1, HY.out.2], by rw [HT.out.2, HY.out.1]⟩, hown, hbr⟩
        case measure => simp [intOf]; omega
      · have hsrc := owns_src ho
        have HSRC := hidden hsrc
        have hll : (needsV d.needs).length = d.needs.length * 2 := needsV_length _
        clear hsrc ho
        go_wp2_with (at_builtin; refine wpList_append_own _ rfl _ _ 24 rfl w.heap.size 46 i0 (.agg #[.string ⟨#[]⟩, .string ⟨#[]⟩]) 2 32 Try.underlying24 hi hz0 hz1 hz2 rfl (by decide) _ m ys rfl hown ⟨g, 0, none⟩ d.needs.length cap (needsV d.needs) rfl hll HSRC.out (needsV_one d.needs) (by unfold maxLen; omega) (by omega) hbr.size ?_)
        intro v3 w3 o3 gr3 _
        have hb3 : Below w.heap.size w w3 := Below.grown hbr gr3 hbr.size (fun j hj => (hown.lt _ hj).1)
        go_wp2_with fail
        go_roundw
        case rel => exact ⟨k + 1, _, _, by omega, by go_num, ⟨HT.out.1.symm, HT.out.2.symm⟩, o3, hb3⟩
        case measure => simp [intOf]; omega
    · have he : k = xs.length := by omega
      subst he
      have HE : Hid (m = (allN xs).length ∧ ys = needsV (allN xs)) := by have := hmy.out; rw [List.take_length] at this; exact this
      have HO := hidden hown
      clear ha hmy hown
      go_wp2_with fail
      go_ret
      refine ⟨_, rfl, ?_, hbr⟩
      have := HO.out
      rw [HE.out.1, HE.out.2] at this
      rw [HE.out.1]
      exact this
end Go.Proofs.Ytbolphjigjpmiab
