/-
  Contracts for the walks, several texts in one: each part says what it proves, and under which conditions.
-/
import Derived.Deep.RegionWith
import Derived.Test.YtbolphjigjpmiabGreatDoorQ4
import Derived.Test.YtbolphjigjpmiabGreatDoorQ1
import Derived.Test.YtbolphjigjpmiabGreatDoorQ2

/-! The Cmps that a list of words makes, the program's: a contract for the walks; conditions: the text has at most 2 to the 20 bytes, the table of signs holds what the text lays. -/
namespace Go.Proofs.YtbolphjigjpmiabGreatDoor
open Go.RowKit
set_option linter.unusedSimpArgs false
set_option linter.unusedVariables false

/-- The Cmps that words make, one behind the other, at most four; none where a word is none. -/
def foldW : List ByteArray → List CmpD → Option (List CmpD)
  | [], acc => some acc
  | x :: ws, acc => if wordOk x = true ∧ acc.length + (wordD x).length ≤ 4 then foldW ws (acc ++ wordD x) else none
def listC (ws : List ByteArray) : Option (List CmpD) :=
  if ws.length = 3 ∧ ws.getD 1 ⟨#[]⟩ = ⟨#[45]⟩ then (if betweenOk (ws.getD 0 ⟨#[]⟩) (ws.getD 2 ⟨#[]⟩) then some (betweenD (ws.getD 0 ⟨#[]⟩) (ws.getD 2 ⟨#[]⟩)) else none) else foldW ws []

theorem makeC_ne (sign a b c : Int) (ps : List ByteArray) (t : Int) : makeC sign a b c ps t ≠ [] := by
  unfold makeC
  dsimp only
  repeat (split; · simp)
  simp
theorem wordD_len (x : ByteArray) : (wordD x).length ≤ 2 := by
  unfold wordD
  split
  · simp
  split
  · exact make_len _ _ _ _ _ _
  · simp
theorem wordD_ne {x : ByteArray} (h : wordOk x = true) : wordD x ≠ [] := by
  unfold wordD
  split
  · simp
  · rename_i hs
    split
    · exact makeC_ne _ _ _ _ _ _
    · rename_i hp
      simp [wordOk, hs, hp] at h

set_option maxHeartbeats 4000000 in
set_option maxRecDepth 100000 in
theorem parseCmps_c (s : ByteArray) (hs : s.size ≤ 1048576) (w : World) (hsg : ∀ k (h : k < signsT.length), w.cell? ⟨0, k, none⟩ = some (.string signsT[k])) :
    Calls Tryz.prog 108 #[.string s] w fun e w' => ∃ v, e = .returned (.tuple #[v, .bool (listC (splitS s 32)).isSome]) ∧ CmpsOwn w.heap.size w' v ((listC (splitS s 32)).getD []) ∧ Below w.heap.size w w' := by
  have HS := implSplit_c s 32 w hs (by omega) (by omega)
  have hL := splitS_len s 32
  have hL0 := splitS_pos s 32
  have hpc := splitS_piece s 32
  have hgl : 0 < w.heap.size := World.block_lt_of_cell? w _ (hsg 0 (by decide))
  have HG : Hid (∀ w1, Below w.heap.size w w1 → ∀ k (h : k < signsT.length), w1.cell? ⟨0, k, none⟩ = some (.string signsT[k])) := fun w1 b k h => (b.cell (p := ⟨0, k, none⟩) hgl).trans (hsg k h)
  obtain ⟨ws, hws⟩ : ∃ ws, ws = splitS s 32 := ⟨_, rfl⟩
  rw [← hws] at HS hL hL0 hpc
  rw [← hws]
  clear hws hsg hgl
  obtain ⟨i0, hi, hz0, hz1, hz2⟩ := info_parts infoCmp
  go_enter Tryz.func108, Tryz.ntmps108
  go_wp2_with fail
  go_at_call 138
  refine HS.mono ?_
  rintro e w3 ⟨v3, rfl, o3, b3⟩
  obtain ⟨qw, cw, hv, hcw, hc3⟩ := reads_strs (reads_of_owns o3)
  subst hv
  rcases hc3 with hw0 | ⟨bq, off, rfl, hbq, hcell⟩
  · rw [hw0] at hL0; simp at hL0
  clear HS o3
  have hsz : ∀ k (h : k < ws.length), ws[k].size ≤ 1048576 := fun k h => by have := hpc ws[k] (List.getElem_mem _); omega
  have hgd : ∀ k (h : k < ws.length), ws.getD k ⟨#[]⟩ = ws[k] := fun k h => by simp [List.getD_eq_getElem?_getD, h]
  by_cases hb : ws.length = 3 ∧ ws.getD 1 ⟨#[]⟩ = ⟨#[45]⟩
  · obtain ⟨h3, hd⟩ := hb
    have c0 : w3.cell? ⟨bq, off, none⟩ = some (.string ws[0]) := hcell 0 (by omega)
    have c1 := hcell 1 (by omega)
    have c2 := hcell 2 (by omega)
    have HL : Hid (listC ws = if betweenOk ws[0] ws[2] then some (betweenD ws[0] ws[2]) else none) := by show _ = _; rw [listC, if_pos ⟨h3, hd⟩, hgd 0 (by omega), hgd 2 (by omega)]
    have z0 := hsz 0 (by omega)
    have z2 := hsz 2 (by omega)
    rw [hgd 1 (by omega)] at hd
    rw [hd] at c1
    obtain ⟨x0, hx0⟩ : ∃ x, x = ws[0] := ⟨_, rfl⟩
    obtain ⟨x2, hx2⟩ : ∃ x, x = ws[2] := ⟨_, rfl⟩
    rw [← hx0] at c0 HL z0
    rw [← hx2] at c2 HL z2
    have h3' : ((ws.length : Int) == 3) = true := by simp [h3]
    have hi0 : (0 : Int) < (ws.length : Int) := by omega
    have hi1 : (1 : Int) < (ws.length : Int) := by omega
    have hi2 : (2 : Int) < (ws.length : Int) := by omega
    have HB : Hid (∀ w1, Calls Tryz.prog 139 #[.string x0, .string x2] w1 fun e w' => ∃ v, e = .returned (.tuple #[v, .bool (betweenOk x0 x2)]) ∧ CmpsOwn w1.heap.size w' v (betweenD x0 x2) ∧ Below w1.heap.size w1 w') := fun w1 => cmpsBetween_c x0 x2 z0 z2 w1
    have HD : Hid (betweenOk x0 x2 = false → betweenD x0 x2 = []) := fun h => by rw [betweenD, h]; rfl
    have c0d : w3.drew.cell? ⟨bq, off, none⟩ = some (.string x0) := c0
    have c2d : w3.drew.cell? ⟨bq, off + 2, none⟩ = some (.string x2) := c2
    clear hcell hsz hgd hd hx0 hx2 HG hi hz0 hz1 hz2 hpc z0 z2
    go_wp2_with fail
    refine wp_region_held_drew (S := (fun w' => w'.cell? ⟨bq, off, none⟩ = some (.string x0) ∧ w'.cell? ⟨bq, off + 2, none⟩ = some (.string x2))) (by kernel_rfl) ?SR10 (fun hHeld => ?_)
    case SR10 => (first | exact ⟨c0d, c2d⟩ | exact ⟨(b4.cell (p := ⟨bq, off, none⟩) hbq).trans c0, (b4.cell (p := ⟨bq, off + 2, none⟩) hbq).trans c2⟩)
    refine wpAnyH_take (i := 0) (oi := _) (v := ?vR10) rfl (by kernel_rfl) (by kernel_rfl) (by kernel_rfl) (fun _ _ _ h => h) (Or.inl ⟨by rfl, ?yR10⟩) hHeld ?_
    case yR10 => (intro w hSw; (try dsimp only at hSw); go_simp <;> with_reducible rfl)
    try simp only [Act.put, List.getElem_toArray, List.getElem_cons_zero, List.getElem_cons_succ, List.setIfInBounds_toArray, List.set_cons_zero, List.set_cons_succ]
    refine wpAnyH_take (i := 1) (oi := _) (v := ?vR11) rfl (by kernel_rfl) (by kernel_rfl) (by kernel_rfl) (fun _ _ _ h => h) (Or.inl ⟨by rfl, ?yR11⟩) hHeld ?_
    case yR11 => (intro w hSw; (try dsimp only at hSw); go_simp <;> with_reducible rfl)
    try simp only [Act.put, List.getElem_toArray, List.getElem_cons_zero, List.getElem_cons_succ, List.setIfInBounds_toArray, List.set_cons_zero, List.set_cons_succ]
    refine wpAnyH_take (i := 2) (oi := _) (v := ?vR12) rfl (by kernel_rfl) (by kernel_rfl) (by kernel_rfl) (fun _ _ _ h => h) (Or.inl ⟨by rfl, ?yR12⟩) hHeld ?_
    case yR12 => (intro w hSw; (try dsimp only at hSw); go_simp <;> with_reducible rfl)
    try simp only [Act.put, List.getElem_toArray, List.getElem_cons_zero, List.getElem_cons_succ, List.setIfInBounds_toArray, List.set_cons_zero, List.set_cons_succ]
    refine wpAnyH_take (i := 3) (oi := _) (v := ?vR13) rfl (by kernel_rfl) (by kernel_rfl) (by kernel_rfl) (fun _ _ _ h => h) (Or.inl ⟨by rfl, ?yR13⟩) hHeld ?_
    case yR13 => (intro w hSw; (try dsimp only at hSw); go_simp <;> with_reducible rfl)
    try simp only [Act.put, List.getElem_toArray, List.getElem_cons_zero, List.getElem_cons_succ, List.setIfInBounds_toArray, List.set_cons_zero, List.set_cons_succ]
    refine wpAnyH_take (i := 4) (oi := _) (v := ?vR14) rfl (by kernel_rfl) (by kernel_rfl) (by kernel_rfl) (fun _ _ _ h => h) (Or.inl ⟨by rfl, ?yR14⟩) hHeld ?_
    case yR14 => (intro w hSw; (try dsimp only at hSw); go_simp <;> with_reducible rfl)
    try simp only [Act.put, List.getElem_toArray, List.getElem_cons_zero, List.getElem_cons_succ, List.setIfInBounds_toArray, List.set_cons_zero, List.set_cons_succ]
    refine wpAnyH_take (i := 5) (oi := _) (v := ?vR15) rfl (by kernel_rfl) (by kernel_rfl) (by kernel_rfl) (fun _ _ _ h => h) (Or.inl ⟨by rfl, ?yR15⟩) hHeld ?_
    case yR15 => (intro w hSw; (try dsimp only at hSw); go_simp <;> with_reducible rfl)
    try simp only [Act.put, List.getElem_toArray, List.getElem_cons_zero, List.getElem_cons_succ, List.setIfInBounds_toArray, List.set_cons_zero, List.set_cons_succ]
    refine wpAnyH_ready (rs := [6]) (by kernel_rfl) (by simp) ?_
    refine AllReadyH.cons rfl (fun K hK => ?_) AllReadyH.nil
    go_simp
    go_wp2_with (go_at_call 139; refine (HB.out _).mono ?_; rintro e w4 ⟨v, rfl, hv, b4⟩)
    clear hHeld
    refine hK.out _ _ ?SR17 (fun hHeld => ?_)
    case SR17 => ((try dsimp only); first | exact ⟨c0d, c2d⟩ | exact ⟨(b4.cell (p := ⟨bq, off, none⟩) hbq).trans c0, (b4.cell (p := ⟨bq, off + 2, none⟩) hbq).trans c2⟩)
    clear hK K
    refine wpAnyH_take (i := 7) (oi := _) (v := ?vR17) rfl (by kernel_rfl) (by kernel_rfl) (by kernel_rfl) (fun _ _ _ h => h) (Or.inl ⟨by rfl, ?yR17⟩) hHeld ?_
    case yR17 => (intro w hSw; (try dsimp only at hSw); go_simp <;> with_reducible rfl)
    try simp only [Act.put, List.getElem_toArray, List.getElem_cons_zero, List.getElem_cons_succ, List.setIfInBounds_toArray, List.set_cons_zero, List.set_cons_succ]
    refine wpAnyH_take (i := 8) (oi := _) (v := ?vR18) rfl (by kernel_rfl) (by kernel_rfl) (by kernel_rfl) (fun _ _ _ h => h) (Or.inl ⟨by rfl, ?yR18⟩) hHeld ?_
    case yR18 => (intro w hSw; (try dsimp only at hSw); go_simp <;> with_reducible rfl)
    try simp only [Act.put, List.getElem_toArray, List.getElem_cons_zero, List.getElem_cons_succ, List.setIfInBounds_toArray, List.set_cons_zero, List.set_cons_succ]
    refine wpAnyH_take (i := 9) (oi := _) (v := ?vR19) rfl (by kernel_rfl) (by kernel_rfl) (by kernel_rfl) (fun _ _ _ h => h) (Or.inl ⟨by rfl, ?yR19⟩) hHeld ?_
    case yR19 => (intro w hSw; (try dsimp only at hSw); go_simp <;> with_reducible rfl)
    try simp only [Act.put, List.getElem_toArray, List.getElem_cons_zero, List.getElem_cons_succ, List.setIfInBounds_toArray, List.set_cons_zero, List.set_cons_succ]
    refine wpAnyH_take (i := 10) (oi := _) (v := ?vR110) rfl (by kernel_rfl) (by kernel_rfl) (by kernel_rfl) (fun _ _ _ h => h) (Or.inl ⟨by rfl, ?yR110⟩) hHeld ?_
    case yR110 => (intro w hSw; (try dsimp only at hSw); go_simp <;> with_reducible rfl)
    try simp only [Act.put, List.getElem_toArray, List.getElem_cons_zero, List.getElem_cons_succ, List.setIfInBounds_toArray, List.set_cons_zero, List.set_cons_succ]
    refine wpAnyH_done (by kernel_rfl) ?_ _
    have hr : (listC ws).isSome = betweenOk x0 x2 ∧ (listC ws).getD [] = betweenD x0 x2 := by
      rw [HL.out]
      cases hk : betweenOk x0 x2 with
      | true => simp
      | false => simp [HD.out hk]
    have HR : Hid ((listC ws).isSome = betweenOk x0 x2 ∧ (listC ws).getD [] = betweenD x0 x2) := hr
    clear hr
    go_wp2_with fail
    go_ret2
    exact ⟨v, by rw [HR.out.1]; rfl, by rw [HR.out.2]; exact hv.lower b3.size, (b3.drew).trans (b4.mono b3.size)⟩
  · have HL : Hid (listC ws = foldW ws []) := by show _ = _; rw [listC, if_neg hb]
    have HW : Hid (∀ x : ByteArray, x.size ≤ 1048576 → ∀ w1, Below w.heap.size w w1 → Calls Tryz.prog 140 #[.string x] w1 fun e w' => ∃ v, e = .returned (.tuple #[v, .bool (wordOk x)]) ∧ CmpsOwn w1.heap.size w' v (wordD x) ∧ Below w1.heap.size w1 w') := fun x hx w1 b => cmpsOfWord_c x hx w1 (HG.out w1 b)
    by_cases h3 : ws.length = 3
    · have hd : ¬ ws[1] = ⟨#[45]⟩ := fun h => hb ⟨h3, by rw [hgd 1 (by omega)]; exact h⟩
      have c1 := hcell 1 (by omega)
      obtain ⟨x1, hx1⟩ : ∃ x, x = ws[1] := ⟨_, rfl⟩
      rw [← hx1] at c1 hd
      have hd' : (x1.toList == [45]) = false := by rw [beq_eq_false_iff_ne]; intro h; exact hd (bytes_eq_of_toList (by rw [h, ByteArray.toList_eq]))
      have h3' : ((ws.length : Int) == 3) = true := by simp [h3]
      have hi1 : (1 : Int) < (ws.length : Int) := by omega
      clear hb hd hx1 hgd HG h3
      go_wp2_with fail
      go_loopw [5, 32] (fun v5 vi wr => ∃ (k : Nat) (acc : List CmpD), k ≤ ws.length ∧ vi = .int .i64 (k : Int) ∧ CmpsOwn w3.heap.size wr v5 acc ∧ acc.length ≤ 4 ∧ Hid (foldW (ws.drop k) acc = foldW ws []) ∧ Below w3.heap.size w3 wr) (fun _ vi _ => ws.length - (intOf vi).toNat)
      case atStart => exact ⟨0, [], Nat.zero_le _, rfl, own_nilC _ _, by simp, rfl, Below.refl _ _⟩
      case round =>
        obtain ⟨k, acc, hk, rfl, hacc, hal, hf, hbr⟩ := hrel
        have hmr := b3.trans (hbr.mono b3.size)
        obtain ⟨qv, cv, us, hv5, _, _⟩ := hacc.at
        subst hv5
        by_cases hlt : k < ws.length
        · have hcx : wr.cell? ⟨bq, off + k, none⟩ = some (.string ws[k]) := (hbr.cell (p := ⟨bq, off + k, none⟩) hbq).trans (hcell k hlt)
          have hsk := hsz k hlt
          have hdr : ws.drop k = ws[k] :: ws.drop (k + 1) := List.drop_eq_getElem_cons hlt
          rw [hdr, foldW] at hf
          obtain ⟨x, hx⟩ : ∃ x, x = ws[k] := ⟨_, rfl⟩
          rw [← hx] at hcx hsk hf
          have HC := HW.out x hsk wr hmr
          have hne := @wordD_ne x
          have hDl := wordD_len x
          obtain ⟨D, hD⟩ : ∃ D, D = wordD x := ⟨_, rfl⟩
          obtain ⟨K, hK⟩ : ∃ K, K = wordOk x := ⟨_, rfl⟩
          rw [← hD, ← hK] at HC hf hne
          rw [← hD] at hDl
          have HC' : Hid (Calls Tryz.prog 140 #[.string x] wr fun e w' => ∃ v, e = .returned (.tuple #[v, .bool K]) ∧ CmpsOwn wr.heap.size w' v D ∧ Below wr.heap.size wr w') := HC
          have hki : (k : Int) < (ws.length : Int) := by omega
          clear HC hD hK hx hdr hcell hsz HW
          cases K with
          | false =>
            have HN : Hid (listC ws = none) := by show _ = _; rw [HL.out, ← hf.out]; simp
            clear hf HL
            go_wp2_with (go_at_call 140; refine HC'.out.mono ?_; rintro e w4 ⟨v4, rfl, hv4, b4⟩; obtain ⟨q4, c4, us4, hq4, _, _⟩ := hv4.at; subst hq4)
            go_ret2
            exact ⟨_, by rw [HN.out]; rfl, by rw [HN.out]; exact own_nilC _ _, hmr.trans (b4.mono hmr.size)⟩
          | true =>
            have hDne := hne rfl
            by_cases h4 : acc.length + D.length ≤ 4
            · have HN : Hid (foldW (ws.drop (k + 1)) (acc ++ D) = foldW ws []) := by show _ = _; rw [← hf.out, if_pos ⟨rfl, h4⟩]
              have h4' : ¬ (4 : Int) < (acc.length : Int) + (D.length : Int) := by omega
              have hlo : w3.heap.size ≤ wr.heap.size := hbr.size
              have hrow : ∀ j, Value.ownBlock (.slice qv acc.length cv) = some j → w3.heap.size ≤ j := fun j hj => by
                obtain ⟨ys, us, h1, _, _⟩ := hacc
                rcases h1.2 with ⟨h, _⟩ | ⟨g, cap, cur, h, hg, _⟩
                · rw [h] at hj; simp [Value.ownBlock] at hj
                · rw [h] at hj; simp [Value.ownBlock] at hj; omega
              have HAP : Hid (∀ w4 v4, Below wr.heap.size wr w4 → CmpsOwn wr.heap.size w4 v4 D → ∃ (ys ys' : List Value) (g cap : Nat), w4.ownsRow w3.heap.size 158 5 (.slice qv acc.length cv) acc.length ys ∧ v4 = .slice (some ⟨g, 0, none⟩) D.length cap ∧ ys'.length = D.length * 5 ∧ (∀ j u, ys'[j]? = some u → w4.cell? ((⟨g, 0, none⟩ : Addr).add j) = some u) ∧ (∀ u ∈ ys', u.oneCell' = true) ∧ ∀ w2 v2, w2.ownsRow w3.heap.size 158 5 v2 (acc.length + D.length) (ys ++ ys') → w4.grownBy w2 (Value.ownBlock (.slice qv acc.length cv)) → CmpsOwn w3.heap.size w2 v2 (acc ++ D)) := fun w4 v4 b4 h4 => hacc.app hlo b4 h4 hDne
              have HRW : Hid (∀ j, Value.ownBlock (.slice qv acc.length cv) = some j → w3.heap.size ≤ j) := hrow
              clear hf hne hrow hacc
              go_wp2_with (first | (go_at_call 140; refine HC'.out.mono ?_; rintro e w4 ⟨v4, rfl, hv4, b4⟩; obtain ⟨ys, ys', g, cap, o4, hv, hly, hnw, hon, happ⟩ := HAP.out w4 v4 b4 hv4; subst hv; have HNW : Hid (∀ j u, ys'[j]? = some u → w4.cell? ((⟨g, 0, none⟩ : Addr).add j) = some u) := hnw; have HON : Hid (∀ u ∈ ys', u.oneCell' = true) := hon; have HAPP : Hid (∀ w2 v2, w2.ownsRow w3.heap.size 158 5 v2 (acc.length + D.length) (ys ++ ys') → w4.grownBy w2 (Value.ownBlock (.slice qv acc.length cv)) → CmpsOwn w3.heap.size w2 v2 (acc ++ D)) := happ; clear hnw hon happ hv4) | (at_builtin; refine wpList_append_own _ rfl _ _ 122 rfl w3.heap.size 158 i0 _ 5 56 Tryz.underlying122 hi hz0 hz1 hz2 rfl (by decide) (.slice qv acc.length cv) acc.length ys rfl o4 ⟨g, 0, none⟩ D.length cap ys' rfl hly HNW.out HON.out (by unfold maxLen; omega) (by omega) (Nat.le_trans hlo b4.size) ?_))
              intro v2 w2 o2 gr2 _
              have kx := hbr.trans (b4.mono hlo)
              have k2 := below_turned kx gr2 kx.size HRW.out
              have hown := HAPP.out w2 v2 o2 gr2
              clear HAPP HNW HON HAP o4 o2 gr2
              go_wp2_with fail
              go_roundw
              case rel => exact ⟨k + 1, acc ++ D, by omega, by go_num, hown, by rw [List.length_append]; omega, HN, k2⟩
              case measure => simp [intOf]; omega
            · have HN : Hid (listC ws = none) := by show _ = _; rw [HL.out, ← hf.out, if_neg (fun h => h4 h.2)]
              have h4' : (4 : Int) < (acc.length : Int) + (D.length : Int) := by omega
              clear hf HL hne h4
              go_wp2_with (go_at_call 140; refine HC'.out.mono ?_; rintro e w4 ⟨v4, rfl, hv4, b4⟩; obtain ⟨q4, c4, us4, hq4, _, _⟩ := hv4.at; subst hq4)
              go_ret2
              exact ⟨_, by rw [HN.out]; rfl, by rw [HN.out]; exact own_nilC _ _, hmr.trans (b4.mono hmr.size)⟩
        · have he : k = ws.length := by omega
          subst he
          have HN : Hid (listC ws = some acc) := by show _ = _; rw [HL.out, ← hf.out, List.drop_length, foldW]
          clear hf HL hcell hsz HW
          go_wp2_with fail
          go_ret2
          exact ⟨_, by rw [HN.out]; rfl, by rw [HN.out]; exact hacc.lower b3.size, hmr⟩
    · have h3' : ((ws.length : Int) == 3) = false := by rw [beq_eq_false_iff_ne]; omega
      clear hb hgd HG h3
      go_wp2_with fail
      go_loopw [5, 32] (fun v5 vi wr => ∃ (k : Nat) (acc : List CmpD), k ≤ ws.length ∧ vi = .int .i64 (k : Int) ∧ CmpsOwn w3.heap.size wr v5 acc ∧ acc.length ≤ 4 ∧ Hid (foldW (ws.drop k) acc = foldW ws []) ∧ Below w3.heap.size w3 wr) (fun _ vi _ => ws.length - (intOf vi).toNat)
      case atStart => exact ⟨0, [], Nat.zero_le _, rfl, own_nilC _ _, by simp, rfl, Below.refl _ _⟩
      case round =>
        obtain ⟨k, acc, hk, rfl, hacc, hal, hf, hbr⟩ := hrel
        have hmr := b3.trans (hbr.mono b3.size)
        obtain ⟨qv, cv, us, hv5, _, _⟩ := hacc.at
        subst hv5
        by_cases hlt : k < ws.length
        · have hcx : wr.cell? ⟨bq, off + k, none⟩ = some (.string ws[k]) := (hbr.cell (p := ⟨bq, off + k, none⟩) hbq).trans (hcell k hlt)
          have hsk := hsz k hlt
          have hdr : ws.drop k = ws[k] :: ws.drop (k + 1) := List.drop_eq_getElem_cons hlt
          rw [hdr, foldW] at hf
          obtain ⟨x, hx⟩ : ∃ x, x = ws[k] := ⟨_, rfl⟩
          rw [← hx] at hcx hsk hf
          have HC := HW.out x hsk wr hmr
          have hne := @wordD_ne x
          have hDl := wordD_len x
          obtain ⟨D, hD⟩ : ∃ D, D = wordD x := ⟨_, rfl⟩
          obtain ⟨K, hK⟩ : ∃ K, K = wordOk x := ⟨_, rfl⟩
          rw [← hD, ← hK] at HC hf hne
          rw [← hD] at hDl
          have HC' : Hid (Calls Tryz.prog 140 #[.string x] wr fun e w' => ∃ v, e = .returned (.tuple #[v, .bool K]) ∧ CmpsOwn wr.heap.size w' v D ∧ Below wr.heap.size wr w') := HC
          have hki : (k : Int) < (ws.length : Int) := by omega
          clear HC hD hK hx hdr hcell hsz HW
          cases K with
          | false =>
            have HN : Hid (listC ws = none) := by show _ = _; rw [HL.out, ← hf.out]; simp
            clear hf HL
            go_wp2_with (go_at_call 140; refine HC'.out.mono ?_; rintro e w4 ⟨v4, rfl, hv4, b4⟩; obtain ⟨q4, c4, us4, hq4, _, _⟩ := hv4.at; subst hq4)
            go_ret2
            exact ⟨_, by rw [HN.out]; rfl, by rw [HN.out]; exact own_nilC _ _, hmr.trans (b4.mono hmr.size)⟩
          | true =>
            have hDne := hne rfl
            by_cases h4 : acc.length + D.length ≤ 4
            · have HN : Hid (foldW (ws.drop (k + 1)) (acc ++ D) = foldW ws []) := by show _ = _; rw [← hf.out, if_pos ⟨rfl, h4⟩]
              have h4' : ¬ (4 : Int) < (acc.length : Int) + (D.length : Int) := by omega
              have hlo : w3.heap.size ≤ wr.heap.size := hbr.size
              have hrow : ∀ j, Value.ownBlock (.slice qv acc.length cv) = some j → w3.heap.size ≤ j := fun j hj => by
                obtain ⟨ys, us, h1, _, _⟩ := hacc
                rcases h1.2 with ⟨h, _⟩ | ⟨g, cap, cur, h, hg, _⟩
                · rw [h] at hj; simp [Value.ownBlock] at hj
                · rw [h] at hj; simp [Value.ownBlock] at hj; omega
              have HAP : Hid (∀ w4 v4, Below wr.heap.size wr w4 → CmpsOwn wr.heap.size w4 v4 D → ∃ (ys ys' : List Value) (g cap : Nat), w4.ownsRow w3.heap.size 158 5 (.slice qv acc.length cv) acc.length ys ∧ v4 = .slice (some ⟨g, 0, none⟩) D.length cap ∧ ys'.length = D.length * 5 ∧ (∀ j u, ys'[j]? = some u → w4.cell? ((⟨g, 0, none⟩ : Addr).add j) = some u) ∧ (∀ u ∈ ys', u.oneCell' = true) ∧ ∀ w2 v2, w2.ownsRow w3.heap.size 158 5 v2 (acc.length + D.length) (ys ++ ys') → w4.grownBy w2 (Value.ownBlock (.slice qv acc.length cv)) → CmpsOwn w3.heap.size w2 v2 (acc ++ D)) := fun w4 v4 b4 h4 => hacc.app hlo b4 h4 hDne
              have HRW : Hid (∀ j, Value.ownBlock (.slice qv acc.length cv) = some j → w3.heap.size ≤ j) := hrow
              clear hf hne hrow hacc
              go_wp2_with (first | (go_at_call 140; refine HC'.out.mono ?_; rintro e w4 ⟨v4, rfl, hv4, b4⟩; obtain ⟨ys, ys', g, cap, o4, hv, hly, hnw, hon, happ⟩ := HAP.out w4 v4 b4 hv4; subst hv; have HNW : Hid (∀ j u, ys'[j]? = some u → w4.cell? ((⟨g, 0, none⟩ : Addr).add j) = some u) := hnw; have HON : Hid (∀ u ∈ ys', u.oneCell' = true) := hon; have HAPP : Hid (∀ w2 v2, w2.ownsRow w3.heap.size 158 5 v2 (acc.length + D.length) (ys ++ ys') → w4.grownBy w2 (Value.ownBlock (.slice qv acc.length cv)) → CmpsOwn w3.heap.size w2 v2 (acc ++ D)) := happ; clear hnw hon happ hv4) | (at_builtin; refine wpList_append_own _ rfl _ _ 122 rfl w3.heap.size 158 i0 _ 5 56 Tryz.underlying122 hi hz0 hz1 hz2 rfl (by decide) (.slice qv acc.length cv) acc.length ys rfl o4 ⟨g, 0, none⟩ D.length cap ys' rfl hly HNW.out HON.out (by unfold maxLen; omega) (by omega) (Nat.le_trans hlo b4.size) ?_))
              intro v2 w2 o2 gr2 _
              have kx := hbr.trans (b4.mono hlo)
              have k2 := below_turned kx gr2 kx.size HRW.out
              have hown := HAPP.out w2 v2 o2 gr2
              clear HAPP HNW HON HAP o4 o2 gr2
              go_wp2_with fail
              go_roundw
              case rel => exact ⟨k + 1, acc ++ D, by omega, by go_num, hown, by rw [List.length_append]; omega, HN, k2⟩
              case measure => simp [intOf]; omega
            · have HN : Hid (listC ws = none) := by show _ = _; rw [HL.out, ← hf.out, if_neg (fun h => h4 h.2)]
              have h4' : (4 : Int) < (acc.length : Int) + (D.length : Int) := by omega
              clear hf HL hne h4
              go_wp2_with (go_at_call 140; refine HC'.out.mono ?_; rintro e w4 ⟨v4, rfl, hv4, b4⟩; obtain ⟨q4, c4, us4, hq4, _, _⟩ := hv4.at; subst hq4)
              go_ret2
              exact ⟨_, by rw [HN.out]; rfl, by rw [HN.out]; exact own_nilC _ _, hmr.trans (b4.mono hmr.size)⟩
        · have he : k = ws.length := by omega
          subst he
          have HN : Hid (listC ws = some acc) := by show _ = _; rw [HL.out, ← hf.out, List.drop_length, foldW]
          clear hf HL hcell hsz HW
          go_wp2_with fail
          go_ret2
          exact ⟨_, by rw [HN.out]; rfl, by rw [HN.out]; exact hacc.lower b3.size, hmr⟩
end Go.Proofs.YtbolphjigjpmiabGreatDoor

/-! What the specification makes of a version of which a part is told: contracts for the walks; conditions: its numbers lie between 0 and 9999. -/
namespace Go.Proofs.YtbolphjigjpmiabGreatDoor
open Go.RowKit
set_option linter.unusedSimpArgs false
set_option linter.unusedVariables false

set_option maxHeartbeats 1000000 in
set_option maxRecDepth 100000 in
theorem l4Next_c (a b c : Int) (u : Value) (t : Int) (ok : Bool) (hn : numsOk a b c) (ht : t = 1 ∨ t = 2 ∨ t = 3) (w : World) (hu : ∃ q n cap, u = .slice q n cap) :
    Calls Tryz.prog 223 #[.agg #[.int .i64 a, .int .i64 b, .int .i64 c, u, .int .i64 t, .bool ok]] w fun e w' => e = .returned (.agg #[.int .i64 (nextA (min t 2) a), .int .i64 (nextB (min t 2) b), .int .i64 (nextC (min t 2) c), .slice none 0 0]) ∧ Below w.heap.size w w' := by
  obtain ⟨q, n, cap, rfl⟩ := hu
  obtain ⟨⟨ha0, ha1⟩, ⟨hb0, hb1⟩, hc0, hc1⟩ := hn
  by_cases h1 : t = 1
  · have e : min t 2 = 1 := by omega
    rw [e]
    subst h1
    go_enter Tryz.func223, Tryz.ntmps223
    go_wp2
    exact bodyPost_ret (v := .agg #[.int .i64 (a + 1), .int .i64 0, .int .i64 0, .slice none 0 0]) (by simp [results, Tryz.results223, go_sem]) rfl ⟨by simp [nextA, nextB, nextC], box_two _ _⟩
  have e : min t 2 = 2 := by omega
  rw [e]
  have k1 : (t == 1) = false := by simpa using h1
  go_enter Tryz.func223, Tryz.ntmps223
  go_wp2
  exact bodyPost_ret (v := .agg #[.int .i64 a, .int .i64 (b + 1), .int .i64 0, .slice none 0 0]) (by simp [results, Tryz.results223, go_sem]) rfl ⟨by simp [nextA, nextB, nextC], box_two _ _⟩

set_option maxHeartbeats 1000000 in
set_option maxRecDepth 100000 in
theorem l4Tilde_c (a b c : Int) (u : Value) (t : Int) (ok : Bool) (hn : numsOk a b c) (ht : t = 1 ∨ t = 2 ∨ t = 3) (w : World) (hu : ∃ q n cap, u = .slice q n cap) :
    Calls Tryz.prog 222 #[.agg #[.int .i64 a, .int .i64 b, .int .i64 c, u, .int .i64 t, .bool ok]] w fun e w' => e = .returned (.agg #[.int .i64 (nextA (min t 2) a), .int .i64 (nextB (min t 2) b), .int .i64 (nextC (min t 2) c), .slice none 0 0]) ∧ Below w.heap.size w w' := by
  obtain ⟨q, n, cap, rfl⟩ := hu
  obtain ⟨⟨ha0, ha1⟩, ⟨hb0, hb1⟩, hc0, hc1⟩ := hn
  by_cases h1 : t = 1
  · have e : min t 2 = 1 := by omega
    rw [e]
    subst h1
    go_enter Tryz.func222, Tryz.ntmps222
    go_wp2
    exact bodyPost_ret (v := .agg #[.int .i64 (a + 1), .int .i64 0, .int .i64 0, .slice none 0 0]) (by simp [results, Tryz.results222, go_sem]) rfl ⟨by simp [nextA, nextB, nextC], box_two _ _⟩
  have e : min t 2 = 2 := by omega
  rw [e]
  have k1 : (t == 1) = false := by simpa using h1
  go_enter Tryz.func222, Tryz.ntmps222
  go_wp2
  exact bodyPost_ret (v := .agg #[.int .i64 a, .int .i64 (b + 1), .int .i64 0, .slice none 0 0]) (by simp [results, Tryz.results222, go_sem]) rfl ⟨by simp [nextA, nextB, nextC], box_two _ _⟩

set_option maxHeartbeats 1000000 in
set_option maxRecDepth 100000 in
theorem l4Caret_c (a b c : Int) (u : Value) (t : Int) (ok : Bool) (hn : numsOk a b c) (ht : t = 1 ∨ t = 2 ∨ t = 3) (w : World) (hu : ∃ q n cap, u = .slice q n cap) :
    Calls Tryz.prog 221 #[.agg #[.int .i64 a, .int .i64 b, .int .i64 c, u, .int .i64 t, .bool ok]] w fun e w' => e = .returned (.agg #[.int .i64 (nextA (caretK a b t) a), .int .i64 (nextB (caretK a b t) b), .int .i64 (nextC (caretK a b t) c), .slice none 0 0]) ∧ Below w.heap.size w w' := by
  obtain ⟨q, n, cap, rfl⟩ := hu
  obtain ⟨⟨ha0, ha1⟩, ⟨hb0, hb1⟩, hc0, hc1⟩ := hn
  by_cases ha : a = 0
  · have ka : (a != 0) = false := by simp [ha]
    by_cases h1 : t = 1
    · have e : caretK a b t = 1 := by simp [caretK, h1]
      rw [e]
      have k1 : (t == 1) = true := by simp [h1]
      clear e h1 ha
      go_enter Tryz.func221, Tryz.ntmps221
      go_wp2
      exact bodyPost_ret (v := .agg #[.int .i64 (a + 1), .int .i64 0, .int .i64 0, .slice none 0 0]) (by simp [results, Tryz.results221, go_sem]) rfl ⟨by simp [nextA, nextB, nextC], box_two _ _⟩
    have k1 : (t == 1) = false := by simpa using h1
    by_cases hb : b = 0
    · have kb : (b != 0) = false := by simp [hb]
      by_cases h2 : t = 2
      · have e : caretK a b t = 2 := by simp [caretK, ha, h1, h2]
        rw [e]
        have k2 : (t == 2) = true := by simp [h2]
        have HA : Hid (a = 0) := ha
        clear e h1 h2 ha hb
        go_enter Tryz.func221, Tryz.ntmps221
        go_wp2
        exact bodyPost_ret (v := .agg #[.int .i64 0, .int .i64 (b + 1), .int .i64 0, .slice none 0 0]) (by simp [results, Tryz.results221, go_sem]) rfl ⟨by simp [nextA, nextB, nextC, HA.out], box_two _ _⟩
      have e : caretK a b t = 3 := by simp [caretK, ha, h1, hb, h2]
      rw [e]
      have k2 : (t == 2) = false := by simpa using h2
      have HA : Hid (a = 0) := ha
      have HB : Hid (b = 0) := hb
      clear e h1 h2 ha hb
      go_enter Tryz.func221, Tryz.ntmps221
      go_wp2
      exact bodyPost_ret (v := .agg #[.int .i64 0, .int .i64 0, .int .i64 (c + 1), .slice none 0 0]) (by simp [results, Tryz.results221, go_sem]) rfl ⟨by simp [nextA, nextB, nextC, HA.out, HB.out], box_two _ _⟩
    have e : caretK a b t = 2 := by simp [caretK, ha, h1, hb]
    rw [e]
    have kb : (b != 0) = true := by simpa using hb
    have HA : Hid (a = 0) := ha
    clear e h1 ha hb
    go_enter Tryz.func221, Tryz.ntmps221
    go_wp2
    exact bodyPost_ret (v := .agg #[.int .i64 0, .int .i64 (b + 1), .int .i64 0, .slice none 0 0]) (by simp [results, Tryz.results221, go_sem]) rfl ⟨by simp [nextA, nextB, nextC, HA.out], box_two _ _⟩
  have e : caretK a b t = 1 := by simp [caretK, ha]
  rw [e]
  have ka : (a != 0) = true := by simpa using ha
  go_enter Tryz.func221, Tryz.ntmps221
  go_wp2
  exact bodyPost_ret (v := .agg #[.int .i64 (a + 1), .int .i64 0, .int .i64 0, .slice none 0 0]) (by simp [results, Tryz.results221, go_sem]) rfl ⟨by simp [nextA, nextB, nextC], box_two _ _⟩

set_option maxHeartbeats 1000000 in
set_option maxRecDepth 100000 in
theorem l4From_c (a b c : Int) (u : Value) (t : Int) (ok : Bool) (w : World) (hu : ∃ q n cap, u = .slice q n cap) :
    Calls Tryz.prog 219 #[.agg #[.int .i64 a, .int .i64 b, .int .i64 c, u, .int .i64 t, .bool ok]] w fun e w' => e = .returned (.agg #[.int .i64 4, .int .i64 a, .int .i64 b, .int .i64 c, u]) ∧ Below w.heap.size w w' := by
  obtain ⟨q, n, cap, rfl⟩ := hu
  go_enter Tryz.func219, Tryz.ntmps219
  go_wp2
  exact bodyPost_ret (v := .agg #[.int .i64 4, .int .i64 a, .int .i64 b, .int .i64 c, .slice q n cap]) (by simp [results, Tryz.results219, go_sem]) rfl ⟨rfl, box_two _ _⟩

set_option maxHeartbeats 1000000 in
set_option maxRecDepth 100000 in
theorem l4Below_c (a b c : Int) (u : Value) (w : World) (hu : ∃ q n cap, u = .slice q n cap) :
    Calls Tryz.prog 220 #[.agg #[.int .i64 a, .int .i64 b, .int .i64 c, u]] w fun e w' => ∃ g, e = .returned (.agg #[.int .i64 1, .int .i64 a, .int .i64 b, .int .i64 c, .slice (some ⟨g, 0, none⟩) 1 1]) ∧ w'.ownsRow w.heap.size 9 1 (.slice (some ⟨g, 0, none⟩) 1 1) 1 (strsV [zeroT]) ∧ Below w.heap.size w w' := by
  obtain ⟨q, n, cap, rfl⟩ := hu
  go_enter Tryz.func220, Tryz.ntmps220
  go_wp2
  refine bodyPost_ret (v := .agg #[.int .i64 1, .int .i64 a, .int .i64 b, .int .i64 c, .slice (some ⟨w.heap.size + 1 + 1, 0, none⟩) 1 1]) (by simp [results, Tryz.results220, go_sem]) rfl ⟨_, rfl, ?_, ?_⟩
  · have s1 : ∀ o o', ((w.alloc o).alloc o').heap.size = w.heap.size + 1 + 1 := fun o o' => by simp
    have h := fun o o' => owns_lit1 ((w.alloc o).alloc o') ⟨#[48]⟩ w.heap.size (by simp; omega)
    simp only [s1] at h
    exact h _ _
  · exact (box_two _ _).alloc (by simp; omega) _
end Go.Proofs.YtbolphjigjpmiabGreatDoor

/-! What a sign and a version make, the specification's: contracts for the walks; conditions: its numbers lie between 0 and 9999, its texts are a row of the call's own. -/
namespace Go.Proofs.YtbolphjigjpmiabGreatDoor
open Go.RowKit
set_option linter.unusedSimpArgs false
set_option linter.unusedVariables false

set_option maxHeartbeats 8000000 in
set_option maxRecDepth 100000 in
theorem mk_caret (lo : Nat) (a b c : Int) (u : Value) (ps : List ByteArray) (t : Int) (ok : Bool) (w : World) (hlo : lo ≤ w.heap.size) (hnum : numsOk a b c) (ht : t = 1 ∨ t = 2 ∨ t = 3) (hu : w.ownsRow lo 9 1 u ps.length (strsV ps)) :
    Calls Tryz.prog 193 #[.string ⟨#[94]⟩, .agg #[.int .i64 a, .int .i64 b, .int .i64 c, u, .int .i64 t, .bool ok]] w fun e w' => ∃ v, e = .returned v ∧ CmpsOwn lo w' v (makeC 6 a b c ps t) ∧ Below w.heap.size w w' := by
  obtain ⟨q, n, cap, hq⟩ : ∃ q n cap, u = .slice q n cap := by rcases hu.2 with ⟨rfl, _⟩ | ⟨g, cap, cur, rfl, _⟩ <;> exact ⟨_, _, _, rfl⟩
  subst hq
  have hWF : Below w.heap.size w (w.alloc (.cells #[.int .i64 a, .int .i64 b, .int .i64 c, .slice q n cap, .int .i64 t, .bool ok] 216)) := (Below.refl _ _).alloc (Nat.le_refl _) _
  have C0 : (w.alloc (.cells #[.int .i64 a, .int .i64 b, .int .i64 c, .slice q n cap, .int .i64 t, .bool ok] 216)).cell? ⟨w.heap.size, 0, none⟩ = some (.int .i64 a) ∧ (w.alloc (.cells #[.int .i64 a, .int .i64 b, .int .i64 c, .slice q n cap, .int .i64 t, .bool ok] 216)).cell? ⟨w.heap.size, 1, none⟩ = some (.int .i64 b) ∧ (w.alloc (.cells #[.int .i64 a, .int .i64 b, .int .i64 c, .slice q n cap, .int .i64 t, .bool ok] 216)).cell? ⟨w.heap.size, 2, none⟩ = some (.int .i64 c) ∧ (w.alloc (.cells #[.int .i64 a, .int .i64 b, .int .i64 c, .slice q n cap, .int .i64 t, .bool ok] 216)).cell? ⟨w.heap.size, 3, none⟩ = some (.slice q n cap) ∧ (w.alloc (.cells #[.int .i64 a, .int .i64 b, .int .i64 c, .slice q n cap, .int .i64 t, .bool ok] 216)).cell? ⟨w.heap.size, 4, none⟩ = some (.int .i64 t) ∧ (w.alloc (.cells #[.int .i64 a, .int .i64 b, .int .i64 c, .slice q n cap, .int .i64 t, .bool ok] 216)).cell? ⟨w.heap.size, 5, none⟩ = some (.bool ok) := by
    have h := vheap_new w (.cells #[.int .i64 a, .int .i64 b, .int .i64 c, .slice q n cap, .int .i64 t, .bool ok] 216)
    exact ⟨vblk_cell h 0, vblk_cell h 1, vblk_cell h 2, vblk_cell h 3, vblk_cell h 4, vblk_cell h 5⟩
  have hs1 : (w.alloc (.cells #[.int .i64 a, .int .i64 b, .int .i64 c, .slice q n cap, .int .i64 t, .bool ok] 216)).heap.size = w.heap.size + 1 := by simp
  have hap : ∀ g (w1 : World) base, w.heap.size ≤ base → w1.ownsRow base 9 1 (.slice (some ⟨g, 0, none⟩) 1 1) 1 (strsV [zeroT]) → Value.ownBlock (.slice q n cap) = Value.ownBlock (.slice (some ⟨g, 0, none⟩) 1 1) → Value.ownBlock (.slice q n cap) = none := fun g w1 base hb og he => by
    cases hk : Value.ownBlock (.slice q n cap) with
    | none => rfl
    | some k =>
      have h1 := (hu.lt k hk).2
      rw [he] at hk
      have h2 := (og.lt k hk).1
      omega
  obtain ⟨WF, hWFd⟩ : ∃ x, x = w.alloc (.cells #[.int .i64 a, .int .i64 b, .int .i64 c, .slice q n cap, .int .i64 t, .bool ok] 216) := ⟨_, rfl⟩
  rw [← hWFd] at hWF C0 hs1
  have KEEP : Hid (∀ w1, Below WF.heap.size WF w1 → w1.cell? ⟨w.heap.size, 0, none⟩ = some (.int .i64 a) ∧ w1.cell? ⟨w.heap.size, 1, none⟩ = some (.int .i64 b) ∧ w1.cell? ⟨w.heap.size, 2, none⟩ = some (.int .i64 c) ∧ w1.cell? ⟨w.heap.size, 3, none⟩ = some (.slice q n cap) ∧ w1.cell? ⟨w.heap.size, 4, none⟩ = some (.int .i64 t) ∧ w1.cell? ⟨w.heap.size, 5, none⟩ = some (.bool ok)) := fun w1 hb => by
    have k : ∀ j, w1.cell? ⟨w.heap.size, j, none⟩ = WF.cell? ⟨w.heap.size, j, none⟩ := fun j => World.cell?_of_block (w := WF) (hb.block w.heap.size (by omega))
    simp only [k]; exact C0
  have em : makeC 6 a b c ps t = [⟨4, a, b, c, ps⟩, ⟨1, nextA (caretK a b t) a, nextB (caretK a b t) b, nextC (caretK a b t) c, [zeroT]⟩] := by rfl
  obtain ⟨x, hx⟩ : ∃ x, x = nextA (caretK a b t) a := ⟨_, rfl⟩
  obtain ⟨y, hy⟩ : ∃ x, x = nextB (caretK a b t) b := ⟨_, rfl⟩
  obtain ⟨z, hz⟩ : ∃ x, x = nextC (caretK a b t) c := ⟨_, rfl⟩
  rw [em, ← hx, ← hy, ← hz]
  have HF : Hid (∀ w1, Below WF.heap.size WF w1 → Calls Tryz.prog 219 #[.agg #[.int .i64 a, .int .i64 b, .int .i64 c, .slice q n cap, .int .i64 t, .bool ok]] w1 fun e w' => e = .returned (.agg #[.int .i64 4, .int .i64 a, .int .i64 b, .int .i64 c, .slice q n cap]) ∧ Below w1.heap.size w1 w' ∧ Below WF.heap.size WF w' ∧ w'.cell? ⟨w.heap.size, 0, none⟩ = some (.int .i64 a) ∧ w'.cell? ⟨w.heap.size, 1, none⟩ = some (.int .i64 b) ∧ w'.cell? ⟨w.heap.size, 2, none⟩ = some (.int .i64 c) ∧ w'.cell? ⟨w.heap.size, 3, none⟩ = some (.slice q n cap) ∧ w'.cell? ⟨w.heap.size, 4, none⟩ = some (.int .i64 t) ∧ w'.cell? ⟨w.heap.size, 5, none⟩ = some (.bool ok)) := fun w1 hb => (l4From_c a b c _ t ok w1 ⟨_, _, _, rfl⟩).mono (fun e w' ⟨h1, h2⟩ => ⟨h1, h2, hb.trans (h2.mono hb.size), KEEP.out w' (hb.trans (h2.mono hb.size))⟩)
  have HN : Hid (∀ w1, Below WF.heap.size WF w1 → Calls Tryz.prog 221 #[.agg #[.int .i64 a, .int .i64 b, .int .i64 c, .slice q n cap, .int .i64 t, .bool ok]] w1 fun e w' => e = .returned (.agg #[.int .i64 x, .int .i64 y, .int .i64 z, .slice none 0 0]) ∧ Below w1.heap.size w1 w' ∧ Below WF.heap.size WF w' ∧ w'.cell? ⟨w.heap.size, 0, none⟩ = some (.int .i64 a) ∧ w'.cell? ⟨w.heap.size, 1, none⟩ = some (.int .i64 b) ∧ w'.cell? ⟨w.heap.size, 2, none⟩ = some (.int .i64 c) ∧ w'.cell? ⟨w.heap.size, 3, none⟩ = some (.slice q n cap) ∧ w'.cell? ⟨w.heap.size, 4, none⟩ = some (.int .i64 t) ∧ w'.cell? ⟨w.heap.size, 5, none⟩ = some (.bool ok)) := fun w1 hb => (l4Caret_c a b c _ t ok hnum ht w1 ⟨_, _, _, rfl⟩).mono (fun e w' ⟨h1, h2⟩ => ⟨by rw [h1, ← hx, ← hy, ← hz], h2, hb.trans (h2.mono hb.size), KEEP.out w' (hb.trans (h2.mono hb.size))⟩)
  have HB : Hid (∀ w1, Below WF.heap.size WF w1 → Calls Tryz.prog 220 #[.agg #[.int .i64 x, .int .i64 y, .int .i64 z, .slice none 0 0]] w1 fun e w' => ∃ g, e = .returned (.agg #[.int .i64 1, .int .i64 x, .int .i64 y, .int .i64 z, .slice (some ⟨g, 0, none⟩) 1 1]) ∧ w'.ownsRow WF.heap.size 9 1 (.slice (some ⟨g, 0, none⟩) 1 1) 1 (strsV [zeroT]) ∧ Below WF.heap.size WF w' ∧ w'.cell? ⟨w.heap.size, 0, none⟩ = some (.int .i64 a) ∧ w'.cell? ⟨w.heap.size, 1, none⟩ = some (.int .i64 b) ∧ w'.cell? ⟨w.heap.size, 2, none⟩ = some (.int .i64 c) ∧ w'.cell? ⟨w.heap.size, 3, none⟩ = some (.slice q n cap) ∧ w'.cell? ⟨w.heap.size, 4, none⟩ = some (.int .i64 t) ∧ w'.cell? ⟨w.heap.size, 5, none⟩ = some (.bool ok)) := fun w1 hb => (l4Below_c x y z _ w1 ⟨_, _, _, rfl⟩).mono (fun e w' ⟨g, h1, h2, h3⟩ => ⟨g, h1, owns_base h2 hb.size, hb.trans (h3.mono hb.size), KEEP.out w' (hb.trans (h3.mono hb.size))⟩)
  have hd0 : Below WF.heap.size WF WF.drew := (Below.refl _ _).drew
  have D0 := KEEP.out _ hd0
  obtain ⟨d0, d1, d2, d3, d4, d5⟩ := D0
  obtain ⟨c0, c1, c2, c3, c4, c5⟩ := C0
  clear hx hy hz em hnum ht KEEP
  go_enter Tryz.func193, Tryz.ntmps193
  go_wp2_with fail
  rw [← hWFd]
  clear hWFd
  go_region_with (first
    | (go_at_call 219; refine (HF.out _ ?_).mono ?_; · assumption
       rintro e wF ⟨rfl, bF, BF, ⟨c0, c1, c2, c3, c4, c5⟩⟩)
    | (go_at_call 221; refine (HN.out _ ?_).mono ?_; · assumption
       rintro e wN ⟨rfl, bN, BN, ⟨c0, c1, c2, c3, c4, c5⟩⟩)
    | (go_at_call 220; refine (HB.out _ ?_).mono ?_; · assumption
       rintro e wB ⟨g, rfl, og, BB, ⟨c0, c1, c2, c3, c4, c5⟩⟩))
  all_goals go_wp2_with fail
  all_goals go_ret
  all_goals
    have hx := hWF.trans (BB.mono hWF.size)
    exact ⟨_, rfl, two_own ⟨4, a, b, c, ps⟩ ⟨1, x, y, z, [zeroT]⟩ (by simp) (Nat.le_trans hlo hx.size) (owns_of_below hu hx) (owns_base og (Nat.le_trans hlo hWF.size)) (hap g _ _ hWF.size og), hx.alloc hx.size _⟩

end Go.Proofs.YtbolphjigjpmiabGreatDoor

/-! What a sign and a version make, the specification's: contracts for the walks; conditions: its numbers lie between 0 and 9999, its texts are a row of the call's own. -/
namespace Go.Proofs.YtbolphjigjpmiabGreatDoor
open Go.RowKit
set_option linter.unusedSimpArgs false
set_option linter.unusedVariables false

set_option maxHeartbeats 8000000 in
set_option maxRecDepth 100000 in
theorem mk_ge (lo : Nat) (a b c : Int) (u : Value) (ps : List ByteArray) (t : Int) (ok : Bool) (w : World) (hlo : lo ≤ w.heap.size) (hnum : numsOk a b c) (ht : t = 1 ∨ t = 2 ∨ t = 3) (hu : w.ownsRow lo 9 1 u ps.length (strsV ps)) :
    Calls Tryz.prog 193 #[.string ⟨#[62, 61]⟩, .agg #[.int .i64 a, .int .i64 b, .int .i64 c, u, .int .i64 t, .bool ok]] w fun e w' => ∃ v, e = .returned v ∧ CmpsOwn lo w' v (makeC 4 a b c ps t) ∧ Below w.heap.size w w' := by
  obtain ⟨q, n, cap, hq⟩ : ∃ q n cap, u = .slice q n cap := by rcases hu.2 with ⟨rfl, _⟩ | ⟨g, cap, cur, rfl, _⟩ <;> exact ⟨_, _, _, rfl⟩
  subst hq
  have hWF : Below w.heap.size w (w.alloc (.cells #[.int .i64 a, .int .i64 b, .int .i64 c, .slice q n cap, .int .i64 t, .bool ok] 216)) := (Below.refl _ _).alloc (Nat.le_refl _) _
  have C0 : (w.alloc (.cells #[.int .i64 a, .int .i64 b, .int .i64 c, .slice q n cap, .int .i64 t, .bool ok] 216)).cell? ⟨w.heap.size, 0, none⟩ = some (.int .i64 a) ∧ (w.alloc (.cells #[.int .i64 a, .int .i64 b, .int .i64 c, .slice q n cap, .int .i64 t, .bool ok] 216)).cell? ⟨w.heap.size, 1, none⟩ = some (.int .i64 b) ∧ (w.alloc (.cells #[.int .i64 a, .int .i64 b, .int .i64 c, .slice q n cap, .int .i64 t, .bool ok] 216)).cell? ⟨w.heap.size, 2, none⟩ = some (.int .i64 c) ∧ (w.alloc (.cells #[.int .i64 a, .int .i64 b, .int .i64 c, .slice q n cap, .int .i64 t, .bool ok] 216)).cell? ⟨w.heap.size, 3, none⟩ = some (.slice q n cap) ∧ (w.alloc (.cells #[.int .i64 a, .int .i64 b, .int .i64 c, .slice q n cap, .int .i64 t, .bool ok] 216)).cell? ⟨w.heap.size, 4, none⟩ = some (.int .i64 t) ∧ (w.alloc (.cells #[.int .i64 a, .int .i64 b, .int .i64 c, .slice q n cap, .int .i64 t, .bool ok] 216)).cell? ⟨w.heap.size, 5, none⟩ = some (.bool ok) := by
    have h := vheap_new w (.cells #[.int .i64 a, .int .i64 b, .int .i64 c, .slice q n cap, .int .i64 t, .bool ok] 216)
    exact ⟨vblk_cell h 0, vblk_cell h 1, vblk_cell h 2, vblk_cell h 3, vblk_cell h 4, vblk_cell h 5⟩
  have hs1 : (w.alloc (.cells #[.int .i64 a, .int .i64 b, .int .i64 c, .slice q n cap, .int .i64 t, .bool ok] 216)).heap.size = w.heap.size + 1 := by simp
  have hap : ∀ g (w1 : World) base, w.heap.size ≤ base → w1.ownsRow base 9 1 (.slice (some ⟨g, 0, none⟩) 1 1) 1 (strsV [zeroT]) → Value.ownBlock (.slice q n cap) = Value.ownBlock (.slice (some ⟨g, 0, none⟩) 1 1) → Value.ownBlock (.slice q n cap) = none := fun g w1 base hb og he => by
    cases hk : Value.ownBlock (.slice q n cap) with
    | none => rfl
    | some k =>
      have h1 := (hu.lt k hk).2
      rw [he] at hk
      have h2 := (og.lt k hk).1
      omega
  obtain ⟨WF, hWFd⟩ : ∃ x, x = w.alloc (.cells #[.int .i64 a, .int .i64 b, .int .i64 c, .slice q n cap, .int .i64 t, .bool ok] 216) := ⟨_, rfl⟩
  rw [← hWFd] at hWF C0 hs1
  have KEEP : Hid (∀ w1, Below WF.heap.size WF w1 → w1.cell? ⟨w.heap.size, 0, none⟩ = some (.int .i64 a) ∧ w1.cell? ⟨w.heap.size, 1, none⟩ = some (.int .i64 b) ∧ w1.cell? ⟨w.heap.size, 2, none⟩ = some (.int .i64 c) ∧ w1.cell? ⟨w.heap.size, 3, none⟩ = some (.slice q n cap) ∧ w1.cell? ⟨w.heap.size, 4, none⟩ = some (.int .i64 t) ∧ w1.cell? ⟨w.heap.size, 5, none⟩ = some (.bool ok)) := fun w1 hb => by
    have k : ∀ j, w1.cell? ⟨w.heap.size, j, none⟩ = WF.cell? ⟨w.heap.size, j, none⟩ := fun j => World.cell?_of_block (w := WF) (hb.block w.heap.size (by omega))
    simp only [k]; exact C0
  have em : makeC 4 a b c ps t = [⟨4, a, b, c, ps⟩] := by simp [makeC]
  rw [em]
  have x := a
  have y := b
  have z := c
  have HF : Hid (∀ w1, Below WF.heap.size WF w1 → Calls Tryz.prog 219 #[.agg #[.int .i64 a, .int .i64 b, .int .i64 c, .slice q n cap, .int .i64 t, .bool ok]] w1 fun e w' => e = .returned (.agg #[.int .i64 4, .int .i64 a, .int .i64 b, .int .i64 c, .slice q n cap]) ∧ Below w1.heap.size w1 w' ∧ Below WF.heap.size WF w' ∧ w'.cell? ⟨w.heap.size, 0, none⟩ = some (.int .i64 a) ∧ w'.cell? ⟨w.heap.size, 1, none⟩ = some (.int .i64 b) ∧ w'.cell? ⟨w.heap.size, 2, none⟩ = some (.int .i64 c) ∧ w'.cell? ⟨w.heap.size, 3, none⟩ = some (.slice q n cap) ∧ w'.cell? ⟨w.heap.size, 4, none⟩ = some (.int .i64 t) ∧ w'.cell? ⟨w.heap.size, 5, none⟩ = some (.bool ok)) := fun w1 hb => (l4From_c a b c _ t ok w1 ⟨_, _, _, rfl⟩).mono (fun e w' ⟨h1, h2⟩ => ⟨h1, h2, hb.trans (h2.mono hb.size), KEEP.out w' (hb.trans (h2.mono hb.size))⟩)
  have hd0 : Below WF.heap.size WF WF := Below.refl _ _
  obtain ⟨c0, c1, c2, c3, c4, c5⟩ := C0
  clear em hnum ht KEEP
  go_enter Tryz.func193, Tryz.ntmps193
  go_wp2_with (first
    | (go_at_call 219; rw [← hWFd]; refine (HF.out _ ?_).mono ?_; · assumption
       rintro e wF ⟨rfl, bF, BF, ⟨c0, c1, c2, c3, c4, c5⟩⟩))
  go_ret
  have hx := hWF.trans (BF.mono hWF.size)
  exact ⟨_, rfl, one_own ⟨4, a, b, c, ps⟩ (by simp) (Nat.le_trans hlo hx.size) (owns_of_below hu hx), hx.alloc hx.size _⟩

set_option maxHeartbeats 8000000 in
set_option maxRecDepth 100000 in
theorem mk_lt (lo : Nat) (a b c : Int) (u : Value) (ps : List ByteArray) (t : Int) (ok : Bool) (w : World) (hlo : lo ≤ w.heap.size) (hnum : numsOk a b c) (ht : t = 1 ∨ t = 2 ∨ t = 3) (hu : w.ownsRow lo 9 1 u ps.length (strsV ps)) :
    Calls Tryz.prog 193 #[.string ⟨#[60]⟩, .agg #[.int .i64 a, .int .i64 b, .int .i64 c, u, .int .i64 t, .bool ok]] w fun e w' => ∃ v, e = .returned v ∧ CmpsOwn lo w' v (makeC 1 a b c ps t) ∧ Below w.heap.size w w' := by
  obtain ⟨q, n, cap, hq⟩ : ∃ q n cap, u = .slice q n cap := by rcases hu.2 with ⟨rfl, _⟩ | ⟨g, cap, cur, rfl, _⟩ <;> exact ⟨_, _, _, rfl⟩
  subst hq
  have hWF : Below w.heap.size w (w.alloc (.cells #[.int .i64 a, .int .i64 b, .int .i64 c, .slice q n cap, .int .i64 t, .bool ok] 216)) := (Below.refl _ _).alloc (Nat.le_refl _) _
  have C0 : (w.alloc (.cells #[.int .i64 a, .int .i64 b, .int .i64 c, .slice q n cap, .int .i64 t, .bool ok] 216)).cell? ⟨w.heap.size, 0, none⟩ = some (.int .i64 a) ∧ (w.alloc (.cells #[.int .i64 a, .int .i64 b, .int .i64 c, .slice q n cap, .int .i64 t, .bool ok] 216)).cell? ⟨w.heap.size, 1, none⟩ = some (.int .i64 b) ∧ (w.alloc (.cells #[.int .i64 a, .int .i64 b, .int .i64 c, .slice q n cap, .int .i64 t, .bool ok] 216)).cell? ⟨w.heap.size, 2, none⟩ = some (.int .i64 c) ∧ (w.alloc (.cells #[.int .i64 a, .int .i64 b, .int .i64 c, .slice q n cap, .int .i64 t, .bool ok] 216)).cell? ⟨w.heap.size, 3, none⟩ = some (.slice q n cap) ∧ (w.alloc (.cells #[.int .i64 a, .int .i64 b, .int .i64 c, .slice q n cap, .int .i64 t, .bool ok] 216)).cell? ⟨w.heap.size, 4, none⟩ = some (.int .i64 t) ∧ (w.alloc (.cells #[.int .i64 a, .int .i64 b, .int .i64 c, .slice q n cap, .int .i64 t, .bool ok] 216)).cell? ⟨w.heap.size, 5, none⟩ = some (.bool ok) := by
    have h := vheap_new w (.cells #[.int .i64 a, .int .i64 b, .int .i64 c, .slice q n cap, .int .i64 t, .bool ok] 216)
    exact ⟨vblk_cell h 0, vblk_cell h 1, vblk_cell h 2, vblk_cell h 3, vblk_cell h 4, vblk_cell h 5⟩
  have hs1 : (w.alloc (.cells #[.int .i64 a, .int .i64 b, .int .i64 c, .slice q n cap, .int .i64 t, .bool ok] 216)).heap.size = w.heap.size + 1 := by simp
  have hap : ∀ g (w1 : World) base, w.heap.size ≤ base → w1.ownsRow base 9 1 (.slice (some ⟨g, 0, none⟩) 1 1) 1 (strsV [zeroT]) → Value.ownBlock (.slice q n cap) = Value.ownBlock (.slice (some ⟨g, 0, none⟩) 1 1) → Value.ownBlock (.slice q n cap) = none := fun g w1 base hb og he => by
    cases hk : Value.ownBlock (.slice q n cap) with
    | none => rfl
    | some k =>
      have h1 := (hu.lt k hk).2
      rw [he] at hk
      have h2 := (og.lt k hk).1
      omega
  obtain ⟨WF, hWFd⟩ : ∃ x, x = w.alloc (.cells #[.int .i64 a, .int .i64 b, .int .i64 c, .slice q n cap, .int .i64 t, .bool ok] 216) := ⟨_, rfl⟩
  rw [← hWFd] at hWF C0 hs1
  have KEEP : Hid (∀ w1, Below WF.heap.size WF w1 → w1.cell? ⟨w.heap.size, 0, none⟩ = some (.int .i64 a) ∧ w1.cell? ⟨w.heap.size, 1, none⟩ = some (.int .i64 b) ∧ w1.cell? ⟨w.heap.size, 2, none⟩ = some (.int .i64 c) ∧ w1.cell? ⟨w.heap.size, 3, none⟩ = some (.slice q n cap) ∧ w1.cell? ⟨w.heap.size, 4, none⟩ = some (.int .i64 t) ∧ w1.cell? ⟨w.heap.size, 5, none⟩ = some (.bool ok)) := fun w1 hb => by
    have k : ∀ j, w1.cell? ⟨w.heap.size, j, none⟩ = WF.cell? ⟨w.heap.size, j, none⟩ := fun j => World.cell?_of_block (w := WF) (hb.block w.heap.size (by omega))
    simp only [k]; exact C0
  have em : makeC 1 a b c ps t = [⟨1, a, b, c, ps⟩] := by simp [makeC]
  rw [em]
  have hd0 : Below WF.heap.size WF WF := Below.refl _ _
  subst hWFd
  clear em hnum ht KEEP C0
  go_enter Tryz.func193, Tryz.ntmps193
  go_wp2_with fail
  go_ret
  exact ⟨_, rfl, one_own ⟨1, a, b, c, ps⟩ (by simp) (Nat.le_trans hlo hWF.size) (owns_of_below hu hWF), hWF.alloc hWF.size _⟩

set_option maxHeartbeats 8000000 in
set_option maxRecDepth 100000 in
theorem mk_gt3 (lo : Nat) (a b c : Int) (u : Value) (ps : List ByteArray) (t : Int) (ok : Bool) (w : World) (hlo : lo ≤ w.heap.size) (hnum : numsOk a b c) (ht : t = 1 ∨ t = 2 ∨ t = 3) (h3 : t = 3) (hu : w.ownsRow lo 9 1 u ps.length (strsV ps)) :
    Calls Tryz.prog 193 #[.string ⟨#[62]⟩, .agg #[.int .i64 a, .int .i64 b, .int .i64 c, u, .int .i64 t, .bool ok]] w fun e w' => ∃ v, e = .returned v ∧ CmpsOwn lo w' v (makeC 3 a b c ps t) ∧ Below w.heap.size w w' := by
  obtain ⟨q, n, cap, hq⟩ : ∃ q n cap, u = .slice q n cap := by rcases hu.2 with ⟨rfl, _⟩ | ⟨g, cap, cur, rfl, _⟩ <;> exact ⟨_, _, _, rfl⟩
  subst hq
  have hWF : Below w.heap.size w (w.alloc (.cells #[.int .i64 a, .int .i64 b, .int .i64 c, .slice q n cap, .int .i64 t, .bool ok] 216)) := (Below.refl _ _).alloc (Nat.le_refl _) _
  have C0 : (w.alloc (.cells #[.int .i64 a, .int .i64 b, .int .i64 c, .slice q n cap, .int .i64 t, .bool ok] 216)).cell? ⟨w.heap.size, 0, none⟩ = some (.int .i64 a) ∧ (w.alloc (.cells #[.int .i64 a, .int .i64 b, .int .i64 c, .slice q n cap, .int .i64 t, .bool ok] 216)).cell? ⟨w.heap.size, 1, none⟩ = some (.int .i64 b) ∧ (w.alloc (.cells #[.int .i64 a, .int .i64 b, .int .i64 c, .slice q n cap, .int .i64 t, .bool ok] 216)).cell? ⟨w.heap.size, 2, none⟩ = some (.int .i64 c) ∧ (w.alloc (.cells #[.int .i64 a, .int .i64 b, .int .i64 c, .slice q n cap, .int .i64 t, .bool ok] 216)).cell? ⟨w.heap.size, 3, none⟩ = some (.slice q n cap) ∧ (w.alloc (.cells #[.int .i64 a, .int .i64 b, .int .i64 c, .slice q n cap, .int .i64 t, .bool ok] 216)).cell? ⟨w.heap.size, 4, none⟩ = some (.int .i64 t) ∧ (w.alloc (.cells #[.int .i64 a, .int .i64 b, .int .i64 c, .slice q n cap, .int .i64 t, .bool ok] 216)).cell? ⟨w.heap.size, 5, none⟩ = some (.bool ok) := by
    have h := vheap_new w (.cells #[.int .i64 a, .int .i64 b, .int .i64 c, .slice q n cap, .int .i64 t, .bool ok] 216)
    exact ⟨vblk_cell h 0, vblk_cell h 1, vblk_cell h 2, vblk_cell h 3, vblk_cell h 4, vblk_cell h 5⟩
  have hs1 : (w.alloc (.cells #[.int .i64 a, .int .i64 b, .int .i64 c, .slice q n cap, .int .i64 t, .bool ok] 216)).heap.size = w.heap.size + 1 := by simp
  have hap : ∀ g (w1 : World) base, w.heap.size ≤ base → w1.ownsRow base 9 1 (.slice (some ⟨g, 0, none⟩) 1 1) 1 (strsV [zeroT]) → Value.ownBlock (.slice q n cap) = Value.ownBlock (.slice (some ⟨g, 0, none⟩) 1 1) → Value.ownBlock (.slice q n cap) = none := fun g w1 base hb og he => by
    cases hk : Value.ownBlock (.slice q n cap) with
    | none => rfl
    | some k =>
      have h1 := (hu.lt k hk).2
      rw [he] at hk
      have h2 := (og.lt k hk).1
      omega
  obtain ⟨WF, hWFd⟩ : ∃ x, x = w.alloc (.cells #[.int .i64 a, .int .i64 b, .int .i64 c, .slice q n cap, .int .i64 t, .bool ok] 216) := ⟨_, rfl⟩
  rw [← hWFd] at hWF C0 hs1
  have KEEP : Hid (∀ w1, Below WF.heap.size WF w1 → w1.cell? ⟨w.heap.size, 0, none⟩ = some (.int .i64 a) ∧ w1.cell? ⟨w.heap.size, 1, none⟩ = some (.int .i64 b) ∧ w1.cell? ⟨w.heap.size, 2, none⟩ = some (.int .i64 c) ∧ w1.cell? ⟨w.heap.size, 3, none⟩ = some (.slice q n cap) ∧ w1.cell? ⟨w.heap.size, 4, none⟩ = some (.int .i64 t) ∧ w1.cell? ⟨w.heap.size, 5, none⟩ = some (.bool ok)) := fun w1 hb => by
    have k : ∀ j, w1.cell? ⟨w.heap.size, j, none⟩ = WF.cell? ⟨w.heap.size, j, none⟩ := fun j => World.cell?_of_block (w := WF) (hb.block w.heap.size (by omega))
    simp only [k]; exact C0
  have k3 : (t == 3) = true := by simpa using h3
  have em : makeC 3 a b c ps t = [⟨3, a, b, c, ps⟩] := by simp [makeC, h3]
  rw [em]
  have hd0 : Below WF.heap.size WF WF := Below.refl _ _
  subst hWFd
  clear em hnum ht KEEP h3 C0
  go_enter Tryz.func193, Tryz.ntmps193
  go_wp2_with fail
  go_ret
  exact ⟨_, rfl, one_own ⟨3, a, b, c, ps⟩ (by simp) (Nat.le_trans hlo hWF.size) (owns_of_below hu hWF), hWF.alloc hWF.size _⟩

set_option maxHeartbeats 8000000 in
set_option maxRecDepth 100000 in
theorem mk_gt (lo : Nat) (a b c : Int) (u : Value) (ps : List ByteArray) (t : Int) (ok : Bool) (w : World) (hlo : lo ≤ w.heap.size) (hnum : numsOk a b c) (ht : t = 1 ∨ t = 2 ∨ t = 3) (h3 : ¬ t = 3) (hu : w.ownsRow lo 9 1 u ps.length (strsV ps)) :
    Calls Tryz.prog 193 #[.string ⟨#[62]⟩, .agg #[.int .i64 a, .int .i64 b, .int .i64 c, u, .int .i64 t, .bool ok]] w fun e w' => ∃ v, e = .returned v ∧ CmpsOwn lo w' v (makeC 3 a b c ps t) ∧ Below w.heap.size w w' := by
  obtain ⟨q, n, cap, hq⟩ : ∃ q n cap, u = .slice q n cap := by rcases hu.2 with ⟨rfl, _⟩ | ⟨g, cap, cur, rfl, _⟩ <;> exact ⟨_, _, _, rfl⟩
  subst hq
  have hWF : Below w.heap.size w (w.alloc (.cells #[.int .i64 a, .int .i64 b, .int .i64 c, .slice q n cap, .int .i64 t, .bool ok] 216)) := (Below.refl _ _).alloc (Nat.le_refl _) _
  have C0 : (w.alloc (.cells #[.int .i64 a, .int .i64 b, .int .i64 c, .slice q n cap, .int .i64 t, .bool ok] 216)).cell? ⟨w.heap.size, 0, none⟩ = some (.int .i64 a) ∧ (w.alloc (.cells #[.int .i64 a, .int .i64 b, .int .i64 c, .slice q n cap, .int .i64 t, .bool ok] 216)).cell? ⟨w.heap.size, 1, none⟩ = some (.int .i64 b) ∧ (w.alloc (.cells #[.int .i64 a, .int .i64 b, .int .i64 c, .slice q n cap, .int .i64 t, .bool ok] 216)).cell? ⟨w.heap.size, 2, none⟩ = some (.int .i64 c) ∧ (w.alloc (.cells #[.int .i64 a, .int .i64 b, .int .i64 c, .slice q n cap, .int .i64 t, .bool ok] 216)).cell? ⟨w.heap.size, 3, none⟩ = some (.slice q n cap) ∧ (w.alloc (.cells #[.int .i64 a, .int .i64 b, .int .i64 c, .slice q n cap, .int .i64 t, .bool ok] 216)).cell? ⟨w.heap.size, 4, none⟩ = some (.int .i64 t) ∧ (w.alloc (.cells #[.int .i64 a, .int .i64 b, .int .i64 c, .slice q n cap, .int .i64 t, .bool ok] 216)).cell? ⟨w.heap.size, 5, none⟩ = some (.bool ok) := by
    have h := vheap_new w (.cells #[.int .i64 a, .int .i64 b, .int .i64 c, .slice q n cap, .int .i64 t, .bool ok] 216)
    exact ⟨vblk_cell h 0, vblk_cell h 1, vblk_cell h 2, vblk_cell h 3, vblk_cell h 4, vblk_cell h 5⟩
  have hs1 : (w.alloc (.cells #[.int .i64 a, .int .i64 b, .int .i64 c, .slice q n cap, .int .i64 t, .bool ok] 216)).heap.size = w.heap.size + 1 := by simp
  have hap : ∀ g (w1 : World) base, w.heap.size ≤ base → w1.ownsRow base 9 1 (.slice (some ⟨g, 0, none⟩) 1 1) 1 (strsV [zeroT]) → Value.ownBlock (.slice q n cap) = Value.ownBlock (.slice (some ⟨g, 0, none⟩) 1 1) → Value.ownBlock (.slice q n cap) = none := fun g w1 base hb og he => by
    cases hk : Value.ownBlock (.slice q n cap) with
    | none => rfl
    | some k =>
      have h1 := (hu.lt k hk).2
      rw [he] at hk
      have h2 := (og.lt k hk).1
      omega
  obtain ⟨WF, hWFd⟩ : ∃ x, x = w.alloc (.cells #[.int .i64 a, .int .i64 b, .int .i64 c, .slice q n cap, .int .i64 t, .bool ok] 216) := ⟨_, rfl⟩
  rw [← hWFd] at hWF C0 hs1
  have KEEP : Hid (∀ w1, Below WF.heap.size WF w1 → w1.cell? ⟨w.heap.size, 0, none⟩ = some (.int .i64 a) ∧ w1.cell? ⟨w.heap.size, 1, none⟩ = some (.int .i64 b) ∧ w1.cell? ⟨w.heap.size, 2, none⟩ = some (.int .i64 c) ∧ w1.cell? ⟨w.heap.size, 3, none⟩ = some (.slice q n cap) ∧ w1.cell? ⟨w.heap.size, 4, none⟩ = some (.int .i64 t) ∧ w1.cell? ⟨w.heap.size, 5, none⟩ = some (.bool ok)) := fun w1 hb => by
    have k : ∀ j, w1.cell? ⟨w.heap.size, j, none⟩ = WF.cell? ⟨w.heap.size, j, none⟩ := fun j => World.cell?_of_block (w := WF) (hb.block w.heap.size (by omega))
    simp only [k]; exact C0
  have k3 : (t == 3) = false := by simpa using h3
  have hm : min t 2 = t := by omega
  have em : makeC 3 a b c ps t = [⟨4, nextA (min t 2) a, nextB (min t 2) b, nextC (min t 2) c, []⟩] := by simp [makeC, h3, hm]
  obtain ⟨x, hx⟩ : ∃ x, x = nextA (min t 2) a := ⟨_, rfl⟩
  obtain ⟨y, hy⟩ : ∃ x, x = nextB (min t 2) b := ⟨_, rfl⟩
  obtain ⟨z, hz⟩ : ∃ x, x = nextC (min t 2) c := ⟨_, rfl⟩
  rw [em, ← hx, ← hy, ← hz]
  have HF : Hid (∀ w1, Below WF.heap.size WF w1 → Calls Tryz.prog 219 #[.agg #[.int .i64 a, .int .i64 b, .int .i64 c, .slice q n cap, .int .i64 t, .bool ok]] w1 fun e w' => e = .returned (.agg #[.int .i64 4, .int .i64 a, .int .i64 b, .int .i64 c, .slice q n cap]) ∧ Below w1.heap.size w1 w' ∧ Below WF.heap.size WF w' ∧ w'.cell? ⟨w.heap.size, 0, none⟩ = some (.int .i64 a) ∧ w'.cell? ⟨w.heap.size, 1, none⟩ = some (.int .i64 b) ∧ w'.cell? ⟨w.heap.size, 2, none⟩ = some (.int .i64 c) ∧ w'.cell? ⟨w.heap.size, 3, none⟩ = some (.slice q n cap) ∧ w'.cell? ⟨w.heap.size, 4, none⟩ = some (.int .i64 t) ∧ w'.cell? ⟨w.heap.size, 5, none⟩ = some (.bool ok)) := fun w1 hb => (l4From_c a b c _ t ok w1 ⟨_, _, _, rfl⟩).mono (fun e w' ⟨h1, h2⟩ => ⟨h1, h2, hb.trans (h2.mono hb.size), KEEP.out w' (hb.trans (h2.mono hb.size))⟩)
  have HN : Hid (∀ w1, Below WF.heap.size WF w1 → Calls Tryz.prog 223 #[.agg #[.int .i64 a, .int .i64 b, .int .i64 c, .slice q n cap, .int .i64 t, .bool ok]] w1 fun e w' => e = .returned (.agg #[.int .i64 x, .int .i64 y, .int .i64 z, .slice none 0 0]) ∧ Below w1.heap.size w1 w' ∧ Below WF.heap.size WF w' ∧ w'.cell? ⟨w.heap.size, 0, none⟩ = some (.int .i64 a) ∧ w'.cell? ⟨w.heap.size, 1, none⟩ = some (.int .i64 b) ∧ w'.cell? ⟨w.heap.size, 2, none⟩ = some (.int .i64 c) ∧ w'.cell? ⟨w.heap.size, 3, none⟩ = some (.slice q n cap) ∧ w'.cell? ⟨w.heap.size, 4, none⟩ = some (.int .i64 t) ∧ w'.cell? ⟨w.heap.size, 5, none⟩ = some (.bool ok)) := fun w1 hb => (l4Next_c a b c _ t ok hnum ht w1 ⟨_, _, _, rfl⟩).mono (fun e w' ⟨h1, h2⟩ => ⟨by rw [h1, ← hx, ← hy, ← hz], h2, hb.trans (h2.mono hb.size), KEEP.out w' (hb.trans (h2.mono hb.size))⟩)
  have HB : Hid (∀ w1, Below WF.heap.size WF w1 → Calls Tryz.prog 220 #[.agg #[.int .i64 x, .int .i64 y, .int .i64 z, .slice none 0 0]] w1 fun e w' => ∃ g, e = .returned (.agg #[.int .i64 1, .int .i64 x, .int .i64 y, .int .i64 z, .slice (some ⟨g, 0, none⟩) 1 1]) ∧ w'.ownsRow WF.heap.size 9 1 (.slice (some ⟨g, 0, none⟩) 1 1) 1 (strsV [zeroT]) ∧ Below WF.heap.size WF w' ∧ w'.cell? ⟨w.heap.size, 0, none⟩ = some (.int .i64 a) ∧ w'.cell? ⟨w.heap.size, 1, none⟩ = some (.int .i64 b) ∧ w'.cell? ⟨w.heap.size, 2, none⟩ = some (.int .i64 c) ∧ w'.cell? ⟨w.heap.size, 3, none⟩ = some (.slice q n cap) ∧ w'.cell? ⟨w.heap.size, 4, none⟩ = some (.int .i64 t) ∧ w'.cell? ⟨w.heap.size, 5, none⟩ = some (.bool ok)) := fun w1 hb => (l4Below_c x y z _ w1 ⟨_, _, _, rfl⟩).mono (fun e w' ⟨g, h1, h2, h3⟩ => ⟨g, h1, owns_base h2 hb.size, hb.trans (h3.mono hb.size), KEEP.out w' (hb.trans (h3.mono hb.size))⟩)
  have hd0 : Below WF.heap.size WF WF := Below.refl _ _
  obtain ⟨c0, c1, c2, c3, c4, c5⟩ := C0
  clear em hnum ht KEEP hx hy hz hm h3
  go_enter Tryz.func193, Tryz.ntmps193
  go_wp2_with (first
    | (go_at_call 223; rw [← hWFd]; refine (HN.out _ ?_).mono ?_; · assumption
       rintro e wN ⟨rfl, bN, BN, ⟨c0, c1, c2, c3, c4, c5⟩⟩))
  go_ret
  have hx := hWF.trans (BN.mono hWF.size)
  exact ⟨_, rfl, one_own ⟨4, x, y, z, []⟩ (by simp) (Nat.le_trans hlo hx.size) (owns_nil _ _), hx.alloc hx.size _⟩

set_option maxHeartbeats 8000000 in
set_option maxRecDepth 100000 in
theorem mk_le3 (lo : Nat) (a b c : Int) (u : Value) (ps : List ByteArray) (t : Int) (ok : Bool) (w : World) (hlo : lo ≤ w.heap.size) (hnum : numsOk a b c) (ht : t = 1 ∨ t = 2 ∨ t = 3) (h3 : t = 3) (hu : w.ownsRow lo 9 1 u ps.length (strsV ps)) :
    Calls Tryz.prog 193 #[.string ⟨#[60, 61]⟩, .agg #[.int .i64 a, .int .i64 b, .int .i64 c, u, .int .i64 t, .bool ok]] w fun e w' => ∃ v, e = .returned v ∧ CmpsOwn lo w' v (makeC 2 a b c ps t) ∧ Below w.heap.size w w' := by
  obtain ⟨q, n, cap, hq⟩ : ∃ q n cap, u = .slice q n cap := by rcases hu.2 with ⟨rfl, _⟩ | ⟨g, cap, cur, rfl, _⟩ <;> exact ⟨_, _, _, rfl⟩
  subst hq
  have hWF : Below w.heap.size w (w.alloc (.cells #[.int .i64 a, .int .i64 b, .int .i64 c, .slice q n cap, .int .i64 t, .bool ok] 216)) := (Below.refl _ _).alloc (Nat.le_refl _) _
  have C0 : (w.alloc (.cells #[.int .i64 a, .int .i64 b, .int .i64 c, .slice q n cap, .int .i64 t, .bool ok] 216)).cell? ⟨w.heap.size, 0, none⟩ = some (.int .i64 a) ∧ (w.alloc (.cells #[.int .i64 a, .int .i64 b, .int .i64 c, .slice q n cap, .int .i64 t, .bool ok] 216)).cell? ⟨w.heap.size, 1, none⟩ = some (.int .i64 b) ∧ (w.alloc (.cells #[.int .i64 a, .int .i64 b, .int .i64 c, .slice q n cap, .int .i64 t, .bool ok] 216)).cell? ⟨w.heap.size, 2, none⟩ = some (.int .i64 c) ∧ (w.alloc (.cells #[.int .i64 a, .int .i64 b, .int .i64 c, .slice q n cap, .int .i64 t, .bool ok] 216)).cell? ⟨w.heap.size, 3, none⟩ = some (.slice q n cap) ∧ (w.alloc (.cells #[.int .i64 a, .int .i64 b, .int .i64 c, .slice q n cap, .int .i64 t, .bool ok] 216)).cell? ⟨w.heap.size, 4, none⟩ = some (.int .i64 t) ∧ (w.alloc (.cells #[.int .i64 a, .int .i64 b, .int .i64 c, .slice q n cap, .int .i64 t, .bool ok] 216)).cell? ⟨w.heap.size, 5, none⟩ = some (.bool ok) := by
    have h := vheap_new w (.cells #[.int .i64 a, .int .i64 b, .int .i64 c, .slice q n cap, .int .i64 t, .bool ok] 216)
    exact ⟨vblk_cell h 0, vblk_cell h 1, vblk_cell h 2, vblk_cell h 3, vblk_cell h 4, vblk_cell h 5⟩
  have hs1 : (w.alloc (.cells #[.int .i64 a, .int .i64 b, .int .i64 c, .slice q n cap, .int .i64 t, .bool ok] 216)).heap.size = w.heap.size + 1 := by simp
  have hap : ∀ g (w1 : World) base, w.heap.size ≤ base → w1.ownsRow base 9 1 (.slice (some ⟨g, 0, none⟩) 1 1) 1 (strsV [zeroT]) → Value.ownBlock (.slice q n cap) = Value.ownBlock (.slice (some ⟨g, 0, none⟩) 1 1) → Value.ownBlock (.slice q n cap) = none := fun g w1 base hb og he => by
    cases hk : Value.ownBlock (.slice q n cap) with
    | none => rfl
    | some k =>
      have h1 := (hu.lt k hk).2
      rw [he] at hk
      have h2 := (og.lt k hk).1
      omega
  obtain ⟨WF, hWFd⟩ : ∃ x, x = w.alloc (.cells #[.int .i64 a, .int .i64 b, .int .i64 c, .slice q n cap, .int .i64 t, .bool ok] 216) := ⟨_, rfl⟩
  rw [← hWFd] at hWF C0 hs1
  have KEEP : Hid (∀ w1, Below WF.heap.size WF w1 → w1.cell? ⟨w.heap.size, 0, none⟩ = some (.int .i64 a) ∧ w1.cell? ⟨w.heap.size, 1, none⟩ = some (.int .i64 b) ∧ w1.cell? ⟨w.heap.size, 2, none⟩ = some (.int .i64 c) ∧ w1.cell? ⟨w.heap.size, 3, none⟩ = some (.slice q n cap) ∧ w1.cell? ⟨w.heap.size, 4, none⟩ = some (.int .i64 t) ∧ w1.cell? ⟨w.heap.size, 5, none⟩ = some (.bool ok)) := fun w1 hb => by
    have k : ∀ j, w1.cell? ⟨w.heap.size, j, none⟩ = WF.cell? ⟨w.heap.size, j, none⟩ := fun j => World.cell?_of_block (w := WF) (hb.block w.heap.size (by omega))
    simp only [k]; exact C0
  have k3 : (t == 3) = true := by simpa using h3
  have em : makeC 2 a b c ps t = [⟨2, a, b, c, ps⟩] := by simp [makeC, h3]
  rw [em]
  have hd0 : Below WF.heap.size WF WF := Below.refl _ _
  subst hWFd
  clear em hnum ht KEEP h3 C0
  go_enter Tryz.func193, Tryz.ntmps193
  go_wp2_with fail
  go_ret
  exact ⟨_, rfl, one_own ⟨2, a, b, c, ps⟩ (by simp) (Nat.le_trans hlo hWF.size) (owns_of_below hu hWF), hWF.alloc hWF.size _⟩

set_option maxHeartbeats 8000000 in
set_option maxRecDepth 100000 in
theorem mk_le (lo : Nat) (a b c : Int) (u : Value) (ps : List ByteArray) (t : Int) (ok : Bool) (w : World) (hlo : lo ≤ w.heap.size) (hnum : numsOk a b c) (ht : t = 1 ∨ t = 2 ∨ t = 3) (h3 : ¬ t = 3) (hu : w.ownsRow lo 9 1 u ps.length (strsV ps)) :
    Calls Tryz.prog 193 #[.string ⟨#[60, 61]⟩, .agg #[.int .i64 a, .int .i64 b, .int .i64 c, u, .int .i64 t, .bool ok]] w fun e w' => ∃ v, e = .returned v ∧ CmpsOwn lo w' v (makeC 2 a b c ps t) ∧ Below w.heap.size w w' := by
  obtain ⟨q, n, cap, hq⟩ : ∃ q n cap, u = .slice q n cap := by rcases hu.2 with ⟨rfl, _⟩ | ⟨g, cap, cur, rfl, _⟩ <;> exact ⟨_, _, _, rfl⟩
  subst hq
  have hWF : Below w.heap.size w (w.alloc (.cells #[.int .i64 a, .int .i64 b, .int .i64 c, .slice q n cap, .int .i64 t, .bool ok] 216)) := (Below.refl _ _).alloc (Nat.le_refl _) _
  have C0 : (w.alloc (.cells #[.int .i64 a, .int .i64 b, .int .i64 c, .slice q n cap, .int .i64 t, .bool ok] 216)).cell? ⟨w.heap.size, 0, none⟩ = some (.int .i64 a) ∧ (w.alloc (.cells #[.int .i64 a, .int .i64 b, .int .i64 c, .slice q n cap, .int .i64 t, .bool ok] 216)).cell? ⟨w.heap.size, 1, none⟩ = some (.int .i64 b) ∧ (w.alloc (.cells #[.int .i64 a, .int .i64 b, .int .i64 c, .slice q n cap, .int .i64 t, .bool ok] 216)).cell? ⟨w.heap.size, 2, none⟩ = some (.int .i64 c) ∧ (w.alloc (.cells #[.int .i64 a, .int .i64 b, .int .i64 c, .slice q n cap, .int .i64 t, .bool ok] 216)).cell? ⟨w.heap.size, 3, none⟩ = some (.slice q n cap) ∧ (w.alloc (.cells #[.int .i64 a, .int .i64 b, .int .i64 c, .slice q n cap, .int .i64 t, .bool ok] 216)).cell? ⟨w.heap.size, 4, none⟩ = some (.int .i64 t) ∧ (w.alloc (.cells #[.int .i64 a, .int .i64 b, .int .i64 c, .slice q n cap, .int .i64 t, .bool ok] 216)).cell? ⟨w.heap.size, 5, none⟩ = some (.bool ok) := by
    have h := vheap_new w (.cells #[.int .i64 a, .int .i64 b, .int .i64 c, .slice q n cap, .int .i64 t, .bool ok] 216)
    exact ⟨vblk_cell h 0, vblk_cell h 1, vblk_cell h 2, vblk_cell h 3, vblk_cell h 4, vblk_cell h 5⟩
  have hs1 : (w.alloc (.cells #[.int .i64 a, .int .i64 b, .int .i64 c, .slice q n cap, .int .i64 t, .bool ok] 216)).heap.size = w.heap.size + 1 := by simp
  have hap : ∀ g (w1 : World) base, w.heap.size ≤ base → w1.ownsRow base 9 1 (.slice (some ⟨g, 0, none⟩) 1 1) 1 (strsV [zeroT]) → Value.ownBlock (.slice q n cap) = Value.ownBlock (.slice (some ⟨g, 0, none⟩) 1 1) → Value.ownBlock (.slice q n cap) = none := fun g w1 base hb og he => by
    cases hk : Value.ownBlock (.slice q n cap) with
    | none => rfl
    | some k =>
      have h1 := (hu.lt k hk).2
      rw [he] at hk
      have h2 := (og.lt k hk).1
      omega
  obtain ⟨WF, hWFd⟩ : ∃ x, x = w.alloc (.cells #[.int .i64 a, .int .i64 b, .int .i64 c, .slice q n cap, .int .i64 t, .bool ok] 216) := ⟨_, rfl⟩
  rw [← hWFd] at hWF C0 hs1
  have KEEP : Hid (∀ w1, Below WF.heap.size WF w1 → w1.cell? ⟨w.heap.size, 0, none⟩ = some (.int .i64 a) ∧ w1.cell? ⟨w.heap.size, 1, none⟩ = some (.int .i64 b) ∧ w1.cell? ⟨w.heap.size, 2, none⟩ = some (.int .i64 c) ∧ w1.cell? ⟨w.heap.size, 3, none⟩ = some (.slice q n cap) ∧ w1.cell? ⟨w.heap.size, 4, none⟩ = some (.int .i64 t) ∧ w1.cell? ⟨w.heap.size, 5, none⟩ = some (.bool ok)) := fun w1 hb => by
    have k : ∀ j, w1.cell? ⟨w.heap.size, j, none⟩ = WF.cell? ⟨w.heap.size, j, none⟩ := fun j => World.cell?_of_block (w := WF) (hb.block w.heap.size (by omega))
    simp only [k]; exact C0
  have k3 : (t == 3) = false := by simpa using h3
  have hm : min t 2 = t := by omega
  have em : makeC 2 a b c ps t = [⟨1, nextA (min t 2) a, nextB (min t 2) b, nextC (min t 2) c, [zeroT]⟩] := by simp [makeC, h3, hm]
  obtain ⟨x, hx⟩ : ∃ x, x = nextA (min t 2) a := ⟨_, rfl⟩
  obtain ⟨y, hy⟩ : ∃ x, x = nextB (min t 2) b := ⟨_, rfl⟩
  obtain ⟨z, hz⟩ : ∃ x, x = nextC (min t 2) c := ⟨_, rfl⟩
  rw [em, ← hx, ← hy, ← hz]
  have HF : Hid (∀ w1, Below WF.heap.size WF w1 → Calls Tryz.prog 219 #[.agg #[.int .i64 a, .int .i64 b, .int .i64 c, .slice q n cap, .int .i64 t, .bool ok]] w1 fun e w' => e = .returned (.agg #[.int .i64 4, .int .i64 a, .int .i64 b, .int .i64 c, .slice q n cap]) ∧ Below w1.heap.size w1 w' ∧ Below WF.heap.size WF w' ∧ w'.cell? ⟨w.heap.size, 0, none⟩ = some (.int .i64 a) ∧ w'.cell? ⟨w.heap.size, 1, none⟩ = some (.int .i64 b) ∧ w'.cell? ⟨w.heap.size, 2, none⟩ = some (.int .i64 c) ∧ w'.cell? ⟨w.heap.size, 3, none⟩ = some (.slice q n cap) ∧ w'.cell? ⟨w.heap.size, 4, none⟩ = some (.int .i64 t) ∧ w'.cell? ⟨w.heap.size, 5, none⟩ = some (.bool ok)) := fun w1 hb => (l4From_c a b c _ t ok w1 ⟨_, _, _, rfl⟩).mono (fun e w' ⟨h1, h2⟩ => ⟨h1, h2, hb.trans (h2.mono hb.size), KEEP.out w' (hb.trans (h2.mono hb.size))⟩)
  have HN : Hid (∀ w1, Below WF.heap.size WF w1 → Calls Tryz.prog 223 #[.agg #[.int .i64 a, .int .i64 b, .int .i64 c, .slice q n cap, .int .i64 t, .bool ok]] w1 fun e w' => e = .returned (.agg #[.int .i64 x, .int .i64 y, .int .i64 z, .slice none 0 0]) ∧ Below w1.heap.size w1 w' ∧ Below WF.heap.size WF w' ∧ w'.cell? ⟨w.heap.size, 0, none⟩ = some (.int .i64 a) ∧ w'.cell? ⟨w.heap.size, 1, none⟩ = some (.int .i64 b) ∧ w'.cell? ⟨w.heap.size, 2, none⟩ = some (.int .i64 c) ∧ w'.cell? ⟨w.heap.size, 3, none⟩ = some (.slice q n cap) ∧ w'.cell? ⟨w.heap.size, 4, none⟩ = some (.int .i64 t) ∧ w'.cell? ⟨w.heap.size, 5, none⟩ = some (.bool ok)) := fun w1 hb => (l4Next_c a b c _ t ok hnum ht w1 ⟨_, _, _, rfl⟩).mono (fun e w' ⟨h1, h2⟩ => ⟨by rw [h1, ← hx, ← hy, ← hz], h2, hb.trans (h2.mono hb.size), KEEP.out w' (hb.trans (h2.mono hb.size))⟩)
  have HB : Hid (∀ w1, Below WF.heap.size WF w1 → Calls Tryz.prog 220 #[.agg #[.int .i64 x, .int .i64 y, .int .i64 z, .slice none 0 0]] w1 fun e w' => ∃ g, e = .returned (.agg #[.int .i64 1, .int .i64 x, .int .i64 y, .int .i64 z, .slice (some ⟨g, 0, none⟩) 1 1]) ∧ w'.ownsRow WF.heap.size 9 1 (.slice (some ⟨g, 0, none⟩) 1 1) 1 (strsV [zeroT]) ∧ Below WF.heap.size WF w' ∧ w'.cell? ⟨w.heap.size, 0, none⟩ = some (.int .i64 a) ∧ w'.cell? ⟨w.heap.size, 1, none⟩ = some (.int .i64 b) ∧ w'.cell? ⟨w.heap.size, 2, none⟩ = some (.int .i64 c) ∧ w'.cell? ⟨w.heap.size, 3, none⟩ = some (.slice q n cap) ∧ w'.cell? ⟨w.heap.size, 4, none⟩ = some (.int .i64 t) ∧ w'.cell? ⟨w.heap.size, 5, none⟩ = some (.bool ok)) := fun w1 hb => (l4Below_c x y z _ w1 ⟨_, _, _, rfl⟩).mono (fun e w' ⟨g, h1, h2, h3⟩ => ⟨g, h1, owns_base h2 hb.size, hb.trans (h3.mono hb.size), KEEP.out w' (hb.trans (h3.mono hb.size))⟩)
  have hd0 : Below WF.heap.size WF WF := Below.refl _ _
  obtain ⟨c0, c1, c2, c3, c4, c5⟩ := C0
  clear em hnum ht KEEP hx hy hz hm h3
  go_enter Tryz.func193, Tryz.ntmps193
  go_wp2_with (first
    | (go_at_call 223; rw [← hWFd]; refine (HN.out _ ?_).mono ?_; · assumption
       rintro e wN ⟨rfl, bN, BN, ⟨c0, c1, c2, c3, c4, c5⟩⟩)
    | (go_at_call 220; refine (HB.out _ ?_).mono ?_; · assumption
       rintro e wB ⟨g, rfl, og, BB, ⟨c0, c1, c2, c3, c4, c5⟩⟩))
  go_ret
  have hx := hWF.trans (BB.mono hWF.size)
  exact ⟨_, rfl, one_own ⟨1, x, y, z, [zeroT]⟩ (by simp) (Nat.le_trans hlo hx.size) (owns_base og (Nat.le_trans hlo hWF.size)), hx.alloc hx.size _⟩

set_option maxHeartbeats 8000000 in
set_option maxRecDepth 100000 in
theorem mk_eq3 (lo : Nat) (a b c : Int) (u : Value) (ps : List ByteArray) (t : Int) (ok : Bool) (w : World) (hlo : lo ≤ w.heap.size) (hnum : numsOk a b c) (ht : t = 1 ∨ t = 2 ∨ t = 3) (h3 : t = 3) (hu : w.ownsRow lo 9 1 u ps.length (strsV ps)) :
    Calls Tryz.prog 193 #[.string ⟨#[61]⟩, .agg #[.int .i64 a, .int .i64 b, .int .i64 c, u, .int .i64 t, .bool ok]] w fun e w' => ∃ v, e = .returned v ∧ CmpsOwn lo w' v (makeC 0 a b c ps t) ∧ Below w.heap.size w w' := by
  obtain ⟨q, n, cap, hq⟩ : ∃ q n cap, u = .slice q n cap := by rcases hu.2 with ⟨rfl, _⟩ | ⟨g, cap, cur, rfl, _⟩ <;> exact ⟨_, _, _, rfl⟩
  subst hq
  have hWF : Below w.heap.size w (w.alloc (.cells #[.int .i64 a, .int .i64 b, .int .i64 c, .slice q n cap, .int .i64 t, .bool ok] 216)) := (Below.refl _ _).alloc (Nat.le_refl _) _
  have C0 : (w.alloc (.cells #[.int .i64 a, .int .i64 b, .int .i64 c, .slice q n cap, .int .i64 t, .bool ok] 216)).cell? ⟨w.heap.size, 0, none⟩ = some (.int .i64 a) ∧ (w.alloc (.cells #[.int .i64 a, .int .i64 b, .int .i64 c, .slice q n cap, .int .i64 t, .bool ok] 216)).cell? ⟨w.heap.size, 1, none⟩ = some (.int .i64 b) ∧ (w.alloc (.cells #[.int .i64 a, .int .i64 b, .int .i64 c, .slice q n cap, .int .i64 t, .bool ok] 216)).cell? ⟨w.heap.size, 2, none⟩ = some (.int .i64 c) ∧ (w.alloc (.cells #[.int .i64 a, .int .i64 b, .int .i64 c, .slice q n cap, .int .i64 t, .bool ok] 216)).cell? ⟨w.heap.size, 3, none⟩ = some (.slice q n cap) ∧ (w.alloc (.cells #[.int .i64 a, .int .i64 b, .int .i64 c, .slice q n cap, .int .i64 t, .bool ok] 216)).cell? ⟨w.heap.size, 4, none⟩ = some (.int .i64 t) ∧ (w.alloc (.cells #[.int .i64 a, .int .i64 b, .int .i64 c, .slice q n cap, .int .i64 t, .bool ok] 216)).cell? ⟨w.heap.size, 5, none⟩ = some (.bool ok) := by
    have h := vheap_new w (.cells #[.int .i64 a, .int .i64 b, .int .i64 c, .slice q n cap, .int .i64 t, .bool ok] 216)
    exact ⟨vblk_cell h 0, vblk_cell h 1, vblk_cell h 2, vblk_cell h 3, vblk_cell h 4, vblk_cell h 5⟩
  have hs1 : (w.alloc (.cells #[.int .i64 a, .int .i64 b, .int .i64 c, .slice q n cap, .int .i64 t, .bool ok] 216)).heap.size = w.heap.size + 1 := by simp
  have hap : ∀ g (w1 : World) base, w.heap.size ≤ base → w1.ownsRow base 9 1 (.slice (some ⟨g, 0, none⟩) 1 1) 1 (strsV [zeroT]) → Value.ownBlock (.slice q n cap) = Value.ownBlock (.slice (some ⟨g, 0, none⟩) 1 1) → Value.ownBlock (.slice q n cap) = none := fun g w1 base hb og he => by
    cases hk : Value.ownBlock (.slice q n cap) with
    | none => rfl
    | some k =>
      have h1 := (hu.lt k hk).2
      rw [he] at hk
      have h2 := (og.lt k hk).1
      omega
  obtain ⟨WF, hWFd⟩ : ∃ x, x = w.alloc (.cells #[.int .i64 a, .int .i64 b, .int .i64 c, .slice q n cap, .int .i64 t, .bool ok] 216) := ⟨_, rfl⟩
  rw [← hWFd] at hWF C0 hs1
  have KEEP : Hid (∀ w1, Below WF.heap.size WF w1 → w1.cell? ⟨w.heap.size, 0, none⟩ = some (.int .i64 a) ∧ w1.cell? ⟨w.heap.size, 1, none⟩ = some (.int .i64 b) ∧ w1.cell? ⟨w.heap.size, 2, none⟩ = some (.int .i64 c) ∧ w1.cell? ⟨w.heap.size, 3, none⟩ = some (.slice q n cap) ∧ w1.cell? ⟨w.heap.size, 4, none⟩ = some (.int .i64 t) ∧ w1.cell? ⟨w.heap.size, 5, none⟩ = some (.bool ok)) := fun w1 hb => by
    have k : ∀ j, w1.cell? ⟨w.heap.size, j, none⟩ = WF.cell? ⟨w.heap.size, j, none⟩ := fun j => World.cell?_of_block (w := WF) (hb.block w.heap.size (by omega))
    simp only [k]; exact C0
  have k3 : (t == 3) = true := by simpa using h3
  have em : makeC 0 a b c ps t = [⟨0, a, b, c, ps⟩] := by simp [makeC, h3]
  rw [em]
  have hd0 : Below WF.heap.size WF WF := Below.refl _ _
  subst hWFd
  clear em hnum ht KEEP h3 C0
  go_enter Tryz.func193, Tryz.ntmps193
  go_wp2_with fail
  go_ret
  exact ⟨_, rfl, one_own ⟨0, a, b, c, ps⟩ (by simp) (Nat.le_trans hlo hWF.size) (owns_of_below hu hWF), hWF.alloc hWF.size _⟩

set_option maxHeartbeats 8000000 in
set_option maxRecDepth 100000 in
theorem mk_no3 (lo : Nat) (a b c : Int) (u : Value) (ps : List ByteArray) (t : Int) (ok : Bool) (w : World) (hlo : lo ≤ w.heap.size) (hnum : numsOk a b c) (ht : t = 1 ∨ t = 2 ∨ t = 3) (h3 : t = 3) (hu : w.ownsRow lo 9 1 u ps.length (strsV ps)) :
    Calls Tryz.prog 193 #[.string ⟨#[]⟩, .agg #[.int .i64 a, .int .i64 b, .int .i64 c, u, .int .i64 t, .bool ok]] w fun e w' => ∃ v, e = .returned v ∧ CmpsOwn lo w' v (makeC 0 a b c ps t) ∧ Below w.heap.size w w' := by
  obtain ⟨q, n, cap, hq⟩ : ∃ q n cap, u = .slice q n cap := by rcases hu.2 with ⟨rfl, _⟩ | ⟨g, cap, cur, rfl, _⟩ <;> exact ⟨_, _, _, rfl⟩
  subst hq
  have hWF : Below w.heap.size w (w.alloc (.cells #[.int .i64 a, .int .i64 b, .int .i64 c, .slice q n cap, .int .i64 t, .bool ok] 216)) := (Below.refl _ _).alloc (Nat.le_refl _) _
  have C0 : (w.alloc (.cells #[.int .i64 a, .int .i64 b, .int .i64 c, .slice q n cap, .int .i64 t, .bool ok] 216)).cell? ⟨w.heap.size, 0, none⟩ = some (.int .i64 a) ∧ (w.alloc (.cells #[.int .i64 a, .int .i64 b, .int .i64 c, .slice q n cap, .int .i64 t, .bool ok] 216)).cell? ⟨w.heap.size, 1, none⟩ = some (.int .i64 b) ∧ (w.alloc (.cells #[.int .i64 a, .int .i64 b, .int .i64 c, .slice q n cap, .int .i64 t, .bool ok] 216)).cell? ⟨w.heap.size, 2, none⟩ = some (.int .i64 c) ∧ (w.alloc (.cells #[.int .i64 a, .int .i64 b, .int .i64 c, .slice q n cap, .int .i64 t, .bool ok] 216)).cell? ⟨w.heap.size, 3, none⟩ = some (.slice q n cap) ∧ (w.alloc (.cells #[.int .i64 a, .int .i64 b, .int .i64 c, .slice q n cap, .int .i64 t, .bool ok] 216)).cell? ⟨w.heap.size, 4, none⟩ = some (.int .i64 t) ∧ (w.alloc (.cells #[.int .i64 a, .int .i64 b, .int .i64 c, .slice q n cap, .int .i64 t, .bool ok] 216)).cell? ⟨w.heap.size, 5, none⟩ = some (.bool ok) := by
    have h := vheap_new w (.cells #[.int .i64 a, .int .i64 b, .int .i64 c, .slice q n cap, .int .i64 t, .bool ok] 216)
    exact ⟨vblk_cell h 0, vblk_cell h 1, vblk_cell h 2, vblk_cell h 3, vblk_cell h 4, vblk_cell h 5⟩
  have hs1 : (w.alloc (.cells #[.int .i64 a, .int .i64 b, .int .i64 c, .slice q n cap, .int .i64 t, .bool ok] 216)).heap.size = w.heap.size + 1 := by simp
  have hap : ∀ g (w1 : World) base, w.heap.size ≤ base → w1.ownsRow base 9 1 (.slice (some ⟨g, 0, none⟩) 1 1) 1 (strsV [zeroT]) → Value.ownBlock (.slice q n cap) = Value.ownBlock (.slice (some ⟨g, 0, none⟩) 1 1) → Value.ownBlock (.slice q n cap) = none := fun g w1 base hb og he => by
    cases hk : Value.ownBlock (.slice q n cap) with
    | none => rfl
    | some k =>
      have h1 := (hu.lt k hk).2
      rw [he] at hk
      have h2 := (og.lt k hk).1
      omega
  obtain ⟨WF, hWFd⟩ : ∃ x, x = w.alloc (.cells #[.int .i64 a, .int .i64 b, .int .i64 c, .slice q n cap, .int .i64 t, .bool ok] 216) := ⟨_, rfl⟩
  rw [← hWFd] at hWF C0 hs1
  have KEEP : Hid (∀ w1, Below WF.heap.size WF w1 → w1.cell? ⟨w.heap.size, 0, none⟩ = some (.int .i64 a) ∧ w1.cell? ⟨w.heap.size, 1, none⟩ = some (.int .i64 b) ∧ w1.cell? ⟨w.heap.size, 2, none⟩ = some (.int .i64 c) ∧ w1.cell? ⟨w.heap.size, 3, none⟩ = some (.slice q n cap) ∧ w1.cell? ⟨w.heap.size, 4, none⟩ = some (.int .i64 t) ∧ w1.cell? ⟨w.heap.size, 5, none⟩ = some (.bool ok)) := fun w1 hb => by
    have k : ∀ j, w1.cell? ⟨w.heap.size, j, none⟩ = WF.cell? ⟨w.heap.size, j, none⟩ := fun j => World.cell?_of_block (w := WF) (hb.block w.heap.size (by omega))
    simp only [k]; exact C0
  have k3 : (t == 3) = true := by simpa using h3
  have em : makeC 0 a b c ps t = [⟨0, a, b, c, ps⟩] := by simp [makeC, h3]
  rw [em]
  have hd0 : Below WF.heap.size WF WF := Below.refl _ _
  subst hWFd
  clear em hnum ht KEEP h3 C0
  go_enter Tryz.func193, Tryz.ntmps193
  go_wp2_with fail
  go_ret
  exact ⟨_, rfl, one_own ⟨0, a, b, c, ps⟩ (by simp) (Nat.le_trans hlo hWF.size) (owns_of_below hu hWF), hWF.alloc hWF.size _⟩

end Go.Proofs.YtbolphjigjpmiabGreatDoor

/-! What a sign and a version make, the specification's: contracts for the walks; conditions: its numbers lie between 0 and 9999, its texts are a row of the call's own. -/
namespace Go.Proofs.YtbolphjigjpmiabGreatDoor
open Go.RowKit
set_option linter.unusedSimpArgs false
set_option linter.unusedVariables false

set_option maxHeartbeats 8000000 in
set_option maxRecDepth 100000 in
theorem mk_eq (lo : Nat) (a b c : Int) (u : Value) (ps : List ByteArray) (t : Int) (ok : Bool) (w : World) (hlo : lo ≤ w.heap.size) (hnum : numsOk a b c) (ht : t = 1 ∨ t = 2 ∨ t = 3) (h3 : ¬ t = 3) (hu : w.ownsRow lo 9 1 u ps.length (strsV ps)) :
    Calls Tryz.prog 193 #[.string ⟨#[61]⟩, .agg #[.int .i64 a, .int .i64 b, .int .i64 c, u, .int .i64 t, .bool ok]] w fun e w' => ∃ v, e = .returned v ∧ CmpsOwn lo w' v (makeC 0 a b c ps t) ∧ Below w.heap.size w w' := by
  obtain ⟨q, n, cap, hq⟩ : ∃ q n cap, u = .slice q n cap := by rcases hu.2 with ⟨rfl, _⟩ | ⟨g, cap, cur, rfl, _⟩ <;> exact ⟨_, _, _, rfl⟩
  subst hq
  have hWF : Below w.heap.size w (w.alloc (.cells #[.int .i64 a, .int .i64 b, .int .i64 c, .slice q n cap, .int .i64 t, .bool ok] 216)) := (Below.refl _ _).alloc (Nat.le_refl _) _
  have C0 : (w.alloc (.cells #[.int .i64 a, .int .i64 b, .int .i64 c, .slice q n cap, .int .i64 t, .bool ok] 216)).cell? ⟨w.heap.size, 0, none⟩ = some (.int .i64 a) ∧ (w.alloc (.cells #[.int .i64 a, .int .i64 b, .int .i64 c, .slice q n cap, .int .i64 t, .bool ok] 216)).cell? ⟨w.heap.size, 1, none⟩ = some (.int .i64 b) ∧ (w.alloc (.cells #[.int .i64 a, .int .i64 b, .int .i64 c, .slice q n cap, .int .i64 t, .bool ok] 216)).cell? ⟨w.heap.size, 2, none⟩ = some (.int .i64 c) ∧ (w.alloc (.cells #[.int .i64 a, .int .i64 b, .int .i64 c, .slice q n cap, .int .i64 t, .bool ok] 216)).cell? ⟨w.heap.size, 3, none⟩ = some (.slice q n cap) ∧ (w.alloc (.cells #[.int .i64 a, .int .i64 b, .int .i64 c, .slice q n cap, .int .i64 t, .bool ok] 216)).cell? ⟨w.heap.size, 4, none⟩ = some (.int .i64 t) ∧ (w.alloc (.cells #[.int .i64 a, .int .i64 b, .int .i64 c, .slice q n cap, .int .i64 t, .bool ok] 216)).cell? ⟨w.heap.size, 5, none⟩ = some (.bool ok) := by
    have h := vheap_new w (.cells #[.int .i64 a, .int .i64 b, .int .i64 c, .slice q n cap, .int .i64 t, .bool ok] 216)
    exact ⟨vblk_cell h 0, vblk_cell h 1, vblk_cell h 2, vblk_cell h 3, vblk_cell h 4, vblk_cell h 5⟩
  have hs1 : (w.alloc (.cells #[.int .i64 a, .int .i64 b, .int .i64 c, .slice q n cap, .int .i64 t, .bool ok] 216)).heap.size = w.heap.size + 1 := by simp
  have hap : ∀ g (w1 : World) base, w.heap.size ≤ base → w1.ownsRow base 9 1 (.slice (some ⟨g, 0, none⟩) 1 1) 1 (strsV [zeroT]) → Value.ownBlock (.slice q n cap) = Value.ownBlock (.slice (some ⟨g, 0, none⟩) 1 1) → Value.ownBlock (.slice q n cap) = none := fun g w1 base hb og he => by
    cases hk : Value.ownBlock (.slice q n cap) with
    | none => rfl
    | some k =>
      have h1 := (hu.lt k hk).2
      rw [he] at hk
      have h2 := (og.lt k hk).1
      omega
  obtain ⟨WF, hWFd⟩ : ∃ x, x = w.alloc (.cells #[.int .i64 a, .int .i64 b, .int .i64 c, .slice q n cap, .int .i64 t, .bool ok] 216) := ⟨_, rfl⟩
  rw [← hWFd] at hWF C0 hs1
  have KEEP : Hid (∀ w1, Below WF.heap.size WF w1 → w1.cell? ⟨w.heap.size, 0, none⟩ = some (.int .i64 a) ∧ w1.cell? ⟨w.heap.size, 1, none⟩ = some (.int .i64 b) ∧ w1.cell? ⟨w.heap.size, 2, none⟩ = some (.int .i64 c) ∧ w1.cell? ⟨w.heap.size, 3, none⟩ = some (.slice q n cap) ∧ w1.cell? ⟨w.heap.size, 4, none⟩ = some (.int .i64 t) ∧ w1.cell? ⟨w.heap.size, 5, none⟩ = some (.bool ok)) := fun w1 hb => by
    have k : ∀ j, w1.cell? ⟨w.heap.size, j, none⟩ = WF.cell? ⟨w.heap.size, j, none⟩ := fun j => World.cell?_of_block (w := WF) (hb.block w.heap.size (by omega))
    simp only [k]; exact C0
  have hm : min t 2 = t := by omega
  have k3 : (t == 3) = false := by simpa using h3
  have em : makeC 0 a b c ps t = [⟨4, a, b, c, ps⟩, ⟨1, nextA (min t 2) a, nextB (min t 2) b, nextC (min t 2) c, [zeroT]⟩] := by simp [makeC, h3, hm]
  obtain ⟨x, hx⟩ : ∃ x, x = nextA (min t 2) a := ⟨_, rfl⟩
  obtain ⟨y, hy⟩ : ∃ x, x = nextB (min t 2) b := ⟨_, rfl⟩
  obtain ⟨z, hz⟩ : ∃ x, x = nextC (min t 2) c := ⟨_, rfl⟩
  rw [em, ← hx, ← hy, ← hz]
  have HF : Hid (∀ w1, Below WF.heap.size WF w1 → Calls Tryz.prog 219 #[.agg #[.int .i64 a, .int .i64 b, .int .i64 c, .slice q n cap, .int .i64 t, .bool ok]] w1 fun e w' => e = .returned (.agg #[.int .i64 4, .int .i64 a, .int .i64 b, .int .i64 c, .slice q n cap]) ∧ Below w1.heap.size w1 w' ∧ Below WF.heap.size WF w' ∧ w'.cell? ⟨w.heap.size, 0, none⟩ = some (.int .i64 a) ∧ w'.cell? ⟨w.heap.size, 1, none⟩ = some (.int .i64 b) ∧ w'.cell? ⟨w.heap.size, 2, none⟩ = some (.int .i64 c) ∧ w'.cell? ⟨w.heap.size, 3, none⟩ = some (.slice q n cap) ∧ w'.cell? ⟨w.heap.size, 4, none⟩ = some (.int .i64 t) ∧ w'.cell? ⟨w.heap.size, 5, none⟩ = some (.bool ok)) := fun w1 hb => (l4From_c a b c _ t ok w1 ⟨_, _, _, rfl⟩).mono (fun e w' ⟨h1, h2⟩ => ⟨h1, h2, hb.trans (h2.mono hb.size), KEEP.out w' (hb.trans (h2.mono hb.size))⟩)
  have HN : Hid (∀ w1, Below WF.heap.size WF w1 → Calls Tryz.prog 223 #[.agg #[.int .i64 a, .int .i64 b, .int .i64 c, .slice q n cap, .int .i64 t, .bool ok]] w1 fun e w' => e = .returned (.agg #[.int .i64 x, .int .i64 y, .int .i64 z, .slice none 0 0]) ∧ Below w1.heap.size w1 w' ∧ Below WF.heap.size WF w' ∧ w'.cell? ⟨w.heap.size, 0, none⟩ = some (.int .i64 a) ∧ w'.cell? ⟨w.heap.size, 1, none⟩ = some (.int .i64 b) ∧ w'.cell? ⟨w.heap.size, 2, none⟩ = some (.int .i64 c) ∧ w'.cell? ⟨w.heap.size, 3, none⟩ = some (.slice q n cap) ∧ w'.cell? ⟨w.heap.size, 4, none⟩ = some (.int .i64 t) ∧ w'.cell? ⟨w.heap.size, 5, none⟩ = some (.bool ok)) := fun w1 hb => (l4Next_c a b c _ t ok hnum ht w1 ⟨_, _, _, rfl⟩).mono (fun e w' ⟨h1, h2⟩ => ⟨by rw [h1, ← hx, ← hy, ← hz], h2, hb.trans (h2.mono hb.size), KEEP.out w' (hb.trans (h2.mono hb.size))⟩)
  have HB : Hid (∀ w1, Below WF.heap.size WF w1 → Calls Tryz.prog 220 #[.agg #[.int .i64 x, .int .i64 y, .int .i64 z, .slice none 0 0]] w1 fun e w' => ∃ g, e = .returned (.agg #[.int .i64 1, .int .i64 x, .int .i64 y, .int .i64 z, .slice (some ⟨g, 0, none⟩) 1 1]) ∧ w'.ownsRow WF.heap.size 9 1 (.slice (some ⟨g, 0, none⟩) 1 1) 1 (strsV [zeroT]) ∧ Below WF.heap.size WF w' ∧ w'.cell? ⟨w.heap.size, 0, none⟩ = some (.int .i64 a) ∧ w'.cell? ⟨w.heap.size, 1, none⟩ = some (.int .i64 b) ∧ w'.cell? ⟨w.heap.size, 2, none⟩ = some (.int .i64 c) ∧ w'.cell? ⟨w.heap.size, 3, none⟩ = some (.slice q n cap) ∧ w'.cell? ⟨w.heap.size, 4, none⟩ = some (.int .i64 t) ∧ w'.cell? ⟨w.heap.size, 5, none⟩ = some (.bool ok)) := fun w1 hb => (l4Below_c x y z _ w1 ⟨_, _, _, rfl⟩).mono (fun e w' ⟨g, h1, h2, h3⟩ => ⟨g, h1, owns_base h2 hb.size, hb.trans (h3.mono hb.size), KEEP.out w' (hb.trans (h3.mono hb.size))⟩)
  have hd0 : Below WF.heap.size WF WF.drew := (Below.refl _ _).drew
  have D0 := KEEP.out _ hd0
  obtain ⟨d0, d1, d2, d3, d4, d5⟩ := D0
  obtain ⟨c0, c1, c2, c3, c4, c5⟩ := C0
  clear hx hy hz em hnum ht KEEP hm h3
  go_enter Tryz.func193, Tryz.ntmps193
  go_wp2_with fail
  rw [← hWFd]
  clear hWFd
  go_region_with (first
    | (go_at_call 219; refine (HF.out _ ?_).mono ?_; · assumption
       rintro e wF ⟨rfl, bF, BF, ⟨c0, c1, c2, c3, c4, c5⟩⟩)
    | (go_at_call 223; refine (HN.out _ ?_).mono ?_; · assumption
       rintro e wN ⟨rfl, bN, BN, ⟨c0, c1, c2, c3, c4, c5⟩⟩)
    | (go_at_call 220; refine (HB.out _ ?_).mono ?_; · assumption
       rintro e wB ⟨g, rfl, og, BB, ⟨c0, c1, c2, c3, c4, c5⟩⟩))
  all_goals go_wp2_with fail
  all_goals go_ret
  all_goals
    have hx := hWF.trans (BB.mono hWF.size)
    exact ⟨_, rfl, two_own ⟨4, a, b, c, ps⟩ ⟨1, x, y, z, [zeroT]⟩ (by simp) (Nat.le_trans hlo hx.size) (owns_of_below hu hx) (owns_base og (Nat.le_trans hlo hWF.size)) (hap g _ _ hWF.size og), hx.alloc hx.size _⟩

end Go.Proofs.YtbolphjigjpmiabGreatDoor

/-! What a sign and a version make, the specification's: contracts for the walks; conditions: its numbers lie between 0 and 9999, its texts are a row of the call's own. -/
namespace Go.Proofs.YtbolphjigjpmiabGreatDoor
open Go.RowKit
set_option linter.unusedSimpArgs false
set_option linter.unusedVariables false

set_option maxHeartbeats 8000000 in
set_option maxRecDepth 100000 in
theorem mk_no (lo : Nat) (a b c : Int) (u : Value) (ps : List ByteArray) (t : Int) (ok : Bool) (w : World) (hlo : lo ≤ w.heap.size) (hnum : numsOk a b c) (ht : t = 1 ∨ t = 2 ∨ t = 3) (h3 : ¬ t = 3) (hu : w.ownsRow lo 9 1 u ps.length (strsV ps)) :
    Calls Tryz.prog 193 #[.string ⟨#[]⟩, .agg #[.int .i64 a, .int .i64 b, .int .i64 c, u, .int .i64 t, .bool ok]] w fun e w' => ∃ v, e = .returned v ∧ CmpsOwn lo w' v (makeC 0 a b c ps t) ∧ Below w.heap.size w w' := by
  obtain ⟨q, n, cap, hq⟩ : ∃ q n cap, u = .slice q n cap := by rcases hu.2 with ⟨rfl, _⟩ | ⟨g, cap, cur, rfl, _⟩ <;> exact ⟨_, _, _, rfl⟩
  subst hq
  have hWF : Below w.heap.size w (w.alloc (.cells #[.int .i64 a, .int .i64 b, .int .i64 c, .slice q n cap, .int .i64 t, .bool ok] 216)) := (Below.refl _ _).alloc (Nat.le_refl _) _
  have C0 : (w.alloc (.cells #[.int .i64 a, .int .i64 b, .int .i64 c, .slice q n cap, .int .i64 t, .bool ok] 216)).cell? ⟨w.heap.size, 0, none⟩ = some (.int .i64 a) ∧ (w.alloc (.cells #[.int .i64 a, .int .i64 b, .int .i64 c, .slice q n cap, .int .i64 t, .bool ok] 216)).cell? ⟨w.heap.size, 1, none⟩ = some (.int .i64 b) ∧ (w.alloc (.cells #[.int .i64 a, .int .i64 b, .int .i64 c, .slice q n cap, .int .i64 t, .bool ok] 216)).cell? ⟨w.heap.size, 2, none⟩ = some (.int .i64 c) ∧ (w.alloc (.cells #[.int .i64 a, .int .i64 b, .int .i64 c, .slice q n cap, .int .i64 t, .bool ok] 216)).cell? ⟨w.heap.size, 3, none⟩ = some (.slice q n cap) ∧ (w.alloc (.cells #[.int .i64 a, .int .i64 b, .int .i64 c, .slice q n cap, .int .i64 t, .bool ok] 216)).cell? ⟨w.heap.size, 4, none⟩ = some (.int .i64 t) ∧ (w.alloc (.cells #[.int .i64 a, .int .i64 b, .int .i64 c, .slice q n cap, .int .i64 t, .bool ok] 216)).cell? ⟨w.heap.size, 5, none⟩ = some (.bool ok) := by
    have h := vheap_new w (.cells #[.int .i64 a, .int .i64 b, .int .i64 c, .slice q n cap, .int .i64 t, .bool ok] 216)
    exact ⟨vblk_cell h 0, vblk_cell h 1, vblk_cell h 2, vblk_cell h 3, vblk_cell h 4, vblk_cell h 5⟩
  have hs1 : (w.alloc (.cells #[.int .i64 a, .int .i64 b, .int .i64 c, .slice q n cap, .int .i64 t, .bool ok] 216)).heap.size = w.heap.size + 1 := by simp
  have hap : ∀ g (w1 : World) base, w.heap.size ≤ base → w1.ownsRow base 9 1 (.slice (some ⟨g, 0, none⟩) 1 1) 1 (strsV [zeroT]) → Value.ownBlock (.slice q n cap) = Value.ownBlock (.slice (some ⟨g, 0, none⟩) 1 1) → Value.ownBlock (.slice q n cap) = none := fun g w1 base hb og he => by
    cases hk : Value.ownBlock (.slice q n cap) with
    | none => rfl
    | some k =>
      have h1 := (hu.lt k hk).2
      rw [he] at hk
      have h2 := (og.lt k hk).1
      omega
  obtain ⟨WF, hWFd⟩ : ∃ x, x = w.alloc (.cells #[.int .i64 a, .int .i64 b, .int .i64 c, .slice q n cap, .int .i64 t, .bool ok] 216) := ⟨_, rfl⟩
  rw [← hWFd] at hWF C0 hs1
  have KEEP : Hid (∀ w1, Below WF.heap.size WF w1 → w1.cell? ⟨w.heap.size, 0, none⟩ = some (.int .i64 a) ∧ w1.cell? ⟨w.heap.size, 1, none⟩ = some (.int .i64 b) ∧ w1.cell? ⟨w.heap.size, 2, none⟩ = some (.int .i64 c) ∧ w1.cell? ⟨w.heap.size, 3, none⟩ = some (.slice q n cap) ∧ w1.cell? ⟨w.heap.size, 4, none⟩ = some (.int .i64 t) ∧ w1.cell? ⟨w.heap.size, 5, none⟩ = some (.bool ok)) := fun w1 hb => by
    have k : ∀ j, w1.cell? ⟨w.heap.size, j, none⟩ = WF.cell? ⟨w.heap.size, j, none⟩ := fun j => World.cell?_of_block (w := WF) (hb.block w.heap.size (by omega))
    simp only [k]; exact C0
  have hm : min t 2 = t := by omega
  have k3 : (t == 3) = false := by simpa using h3
  have em : makeC 0 a b c ps t = [⟨4, a, b, c, ps⟩, ⟨1, nextA (min t 2) a, nextB (min t 2) b, nextC (min t 2) c, [zeroT]⟩] := by simp [makeC, h3, hm]
  obtain ⟨x, hx⟩ : ∃ x, x = nextA (min t 2) a := ⟨_, rfl⟩
  obtain ⟨y, hy⟩ : ∃ x, x = nextB (min t 2) b := ⟨_, rfl⟩
  obtain ⟨z, hz⟩ : ∃ x, x = nextC (min t 2) c := ⟨_, rfl⟩
  rw [em, ← hx, ← hy, ← hz]
  have HF : Hid (∀ w1, Below WF.heap.size WF w1 → Calls Tryz.prog 219 #[.agg #[.int .i64 a, .int .i64 b, .int .i64 c, .slice q n cap, .int .i64 t, .bool ok]] w1 fun e w' => e = .returned (.agg #[.int .i64 4, .int .i64 a, .int .i64 b, .int .i64 c, .slice q n cap]) ∧ Below w1.heap.size w1 w' ∧ Below WF.heap.size WF w' ∧ w'.cell? ⟨w.heap.size, 0, none⟩ = some (.int .i64 a) ∧ w'.cell? ⟨w.heap.size, 1, none⟩ = some (.int .i64 b) ∧ w'.cell? ⟨w.heap.size, 2, none⟩ = some (.int .i64 c) ∧ w'.cell? ⟨w.heap.size, 3, none⟩ = some (.slice q n cap) ∧ w'.cell? ⟨w.heap.size, 4, none⟩ = some (.int .i64 t) ∧ w'.cell? ⟨w.heap.size, 5, none⟩ = some (.bool ok)) := fun w1 hb => (l4From_c a b c _ t ok w1 ⟨_, _, _, rfl⟩).mono (fun e w' ⟨h1, h2⟩ => ⟨h1, h2, hb.trans (h2.mono hb.size), KEEP.out w' (hb.trans (h2.mono hb.size))⟩)
  have HN : Hid (∀ w1, Below WF.heap.size WF w1 → Calls Tryz.prog 223 #[.agg #[.int .i64 a, .int .i64 b, .int .i64 c, .slice q n cap, .int .i64 t, .bool ok]] w1 fun e w' => e = .returned (.agg #[.int .i64 x, .int .i64 y, .int .i64 z, .slice none 0 0]) ∧ Below w1.heap.size w1 w' ∧ Below WF.heap.size WF w' ∧ w'.cell? ⟨w.heap.size, 0, none⟩ = some (.int .i64 a) ∧ w'.cell? ⟨w.heap.size, 1, none⟩ = some (.int .i64 b) ∧ w'.cell? ⟨w.heap.size, 2, none⟩ = some (.int .i64 c) ∧ w'.cell? ⟨w.heap.size, 3, none⟩ = some (.slice q n cap) ∧ w'.cell? ⟨w.heap.size, 4, none⟩ = some (.int .i64 t) ∧ w'.cell? ⟨w.heap.size, 5, none⟩ = some (.bool ok)) := fun w1 hb => (l4Next_c a b c _ t ok hnum ht w1 ⟨_, _, _, rfl⟩).mono (fun e w' ⟨h1, h2⟩ => ⟨by rw [h1, ← hx, ← hy, ← hz], h2, hb.trans (h2.mono hb.size), KEEP.out w' (hb.trans (h2.mono hb.size))⟩)
  have HB : Hid (∀ w1, Below WF.heap.size WF w1 → Calls Tryz.prog 220 #[.agg #[.int .i64 x, .int .i64 y, .int .i64 z, .slice none 0 0]] w1 fun e w' => ∃ g, e = .returned (.agg #[.int .i64 1, .int .i64 x, .int .i64 y, .int .i64 z, .slice (some ⟨g, 0, none⟩) 1 1]) ∧ w'.ownsRow WF.heap.size 9 1 (.slice (some ⟨g, 0, none⟩) 1 1) 1 (strsV [zeroT]) ∧ Below WF.heap.size WF w' ∧ w'.cell? ⟨w.heap.size, 0, none⟩ = some (.int .i64 a) ∧ w'.cell? ⟨w.heap.size, 1, none⟩ = some (.int .i64 b) ∧ w'.cell? ⟨w.heap.size, 2, none⟩ = some (.int .i64 c) ∧ w'.cell? ⟨w.heap.size, 3, none⟩ = some (.slice q n cap) ∧ w'.cell? ⟨w.heap.size, 4, none⟩ = some (.int .i64 t) ∧ w'.cell? ⟨w.heap.size, 5, none⟩ = some (.bool ok)) := fun w1 hb => (l4Below_c x y z _ w1 ⟨_, _, _, rfl⟩).mono (fun e w' ⟨g, h1, h2, h3⟩ => ⟨g, h1, owns_base h2 hb.size, hb.trans (h3.mono hb.size), KEEP.out w' (hb.trans (h3.mono hb.size))⟩)
  have hd0 : Below WF.heap.size WF WF.drew := (Below.refl _ _).drew
  have D0 := KEEP.out _ hd0
  obtain ⟨d0, d1, d2, d3, d4, d5⟩ := D0
  obtain ⟨c0, c1, c2, c3, c4, c5⟩ := C0
  clear hx hy hz em hnum ht KEEP hm h3
  go_enter Tryz.func193, Tryz.ntmps193
  go_wp2_with fail
  rw [← hWFd]
  clear hWFd
  go_region_with (first
    | (go_at_call 219; refine (HF.out _ ?_).mono ?_; · assumption
       rintro e wF ⟨rfl, bF, BF, ⟨c0, c1, c2, c3, c4, c5⟩⟩)
    | (go_at_call 223; refine (HN.out _ ?_).mono ?_; · assumption
       rintro e wN ⟨rfl, bN, BN, ⟨c0, c1, c2, c3, c4, c5⟩⟩)
    | (go_at_call 220; refine (HB.out _ ?_).mono ?_; · assumption
       rintro e wB ⟨g, rfl, og, BB, ⟨c0, c1, c2, c3, c4, c5⟩⟩))
  all_goals go_wp2_with fail
  all_goals go_ret
  all_goals
    have hx := hWF.trans (BB.mono hWF.size)
    exact ⟨_, rfl, two_own ⟨4, a, b, c, ps⟩ ⟨1, x, y, z, [zeroT]⟩ (by simp) (Nat.le_trans hlo hx.size) (owns_of_below hu hx) (owns_base og (Nat.le_trans hlo hWF.size)) (hap g _ _ hWF.size og), hx.alloc hx.size _⟩

set_option maxHeartbeats 8000000 in
set_option maxRecDepth 100000 in
theorem mk_tilde (lo : Nat) (a b c : Int) (u : Value) (ps : List ByteArray) (t : Int) (ok : Bool) (w : World) (hlo : lo ≤ w.heap.size) (hnum : numsOk a b c) (ht : t = 1 ∨ t = 2 ∨ t = 3) (hu : w.ownsRow lo 9 1 u ps.length (strsV ps)) :
    Calls Tryz.prog 193 #[.string ⟨#[126]⟩, .agg #[.int .i64 a, .int .i64 b, .int .i64 c, u, .int .i64 t, .bool ok]] w fun e w' => ∃ v, e = .returned v ∧ CmpsOwn lo w' v (makeC 5 a b c ps t) ∧ Below w.heap.size w w' := by
  obtain ⟨q, n, cap, hq⟩ : ∃ q n cap, u = .slice q n cap := by rcases hu.2 with ⟨rfl, _⟩ | ⟨g, cap, cur, rfl, _⟩ <;> exact ⟨_, _, _, rfl⟩
  subst hq
  have hWF : Below w.heap.size w (w.alloc (.cells #[.int .i64 a, .int .i64 b, .int .i64 c, .slice q n cap, .int .i64 t, .bool ok] 216)) := (Below.refl _ _).alloc (Nat.le_refl _) _
  have C0 : (w.alloc (.cells #[.int .i64 a, .int .i64 b, .int .i64 c, .slice q n cap, .int .i64 t, .bool ok] 216)).cell? ⟨w.heap.size, 0, none⟩ = some (.int .i64 a) ∧ (w.alloc (.cells #[.int .i64 a, .int .i64 b, .int .i64 c, .slice q n cap, .int .i64 t, .bool ok] 216)).cell? ⟨w.heap.size, 1, none⟩ = some (.int .i64 b) ∧ (w.alloc (.cells #[.int .i64 a, .int .i64 b, .int .i64 c, .slice q n cap, .int .i64 t, .bool ok] 216)).cell? ⟨w.heap.size, 2, none⟩ = some (.int .i64 c) ∧ (w.alloc (.cells #[.int .i64 a, .int .i64 b, .int .i64 c, .slice q n cap, .int .i64 t, .bool ok] 216)).cell? ⟨w.heap.size, 3, none⟩ = some (.slice q n cap) ∧ (w.alloc (.cells #[.int .i64 a, .int .i64 b, .int .i64 c, .slice q n cap, .int .i64 t, .bool ok] 216)).cell? ⟨w.heap.size, 4, none⟩ = some (.int .i64 t) ∧ (w.alloc (.cells #[.int .i64 a, .int .i64 b, .int .i64 c, .slice q n cap, .int .i64 t, .bool ok] 216)).cell? ⟨w.heap.size, 5, none⟩ = some (.bool ok) := by
    have h := vheap_new w (.cells #[.int .i64 a, .int .i64 b, .int .i64 c, .slice q n cap, .int .i64 t, .bool ok] 216)
    exact ⟨vblk_cell h 0, vblk_cell h 1, vblk_cell h 2, vblk_cell h 3, vblk_cell h 4, vblk_cell h 5⟩
  have hs1 : (w.alloc (.cells #[.int .i64 a, .int .i64 b, .int .i64 c, .slice q n cap, .int .i64 t, .bool ok] 216)).heap.size = w.heap.size + 1 := by simp
  have hap : ∀ g (w1 : World) base, w.heap.size ≤ base → w1.ownsRow base 9 1 (.slice (some ⟨g, 0, none⟩) 1 1) 1 (strsV [zeroT]) → Value.ownBlock (.slice q n cap) = Value.ownBlock (.slice (some ⟨g, 0, none⟩) 1 1) → Value.ownBlock (.slice q n cap) = none := fun g w1 base hb og he => by
    cases hk : Value.ownBlock (.slice q n cap) with
    | none => rfl
    | some k =>
      have h1 := (hu.lt k hk).2
      rw [he] at hk
      have h2 := (og.lt k hk).1
      omega
  obtain ⟨WF, hWFd⟩ : ∃ x, x = w.alloc (.cells #[.int .i64 a, .int .i64 b, .int .i64 c, .slice q n cap, .int .i64 t, .bool ok] 216) := ⟨_, rfl⟩
  rw [← hWFd] at hWF C0 hs1
  have KEEP : Hid (∀ w1, Below WF.heap.size WF w1 → w1.cell? ⟨w.heap.size, 0, none⟩ = some (.int .i64 a) ∧ w1.cell? ⟨w.heap.size, 1, none⟩ = some (.int .i64 b) ∧ w1.cell? ⟨w.heap.size, 2, none⟩ = some (.int .i64 c) ∧ w1.cell? ⟨w.heap.size, 3, none⟩ = some (.slice q n cap) ∧ w1.cell? ⟨w.heap.size, 4, none⟩ = some (.int .i64 t) ∧ w1.cell? ⟨w.heap.size, 5, none⟩ = some (.bool ok)) := fun w1 hb => by
    have k : ∀ j, w1.cell? ⟨w.heap.size, j, none⟩ = WF.cell? ⟨w.heap.size, j, none⟩ := fun j => World.cell?_of_block (w := WF) (hb.block w.heap.size (by omega))
    simp only [k]; exact C0
  have em : makeC 5 a b c ps t = [⟨4, a, b, c, ps⟩, ⟨1, nextA (min t 2) a, nextB (min t 2) b, nextC (min t 2) c, [zeroT]⟩] := by rfl
  obtain ⟨x, hx⟩ : ∃ x, x = nextA (min t 2) a := ⟨_, rfl⟩
  obtain ⟨y, hy⟩ : ∃ x, x = nextB (min t 2) b := ⟨_, rfl⟩
  obtain ⟨z, hz⟩ : ∃ x, x = nextC (min t 2) c := ⟨_, rfl⟩
  rw [em, ← hx, ← hy, ← hz]
  have HF : Hid (∀ w1, Below WF.heap.size WF w1 → Calls Tryz.prog 219 #[.agg #[.int .i64 a, .int .i64 b, .int .i64 c, .slice q n cap, .int .i64 t, .bool ok]] w1 fun e w' => e = .returned (.agg #[.int .i64 4, .int .i64 a, .int .i64 b, .int .i64 c, .slice q n cap]) ∧ Below w1.heap.size w1 w' ∧ Below WF.heap.size WF w' ∧ w'.cell? ⟨w.heap.size, 0, none⟩ = some (.int .i64 a) ∧ w'.cell? ⟨w.heap.size, 1, none⟩ = some (.int .i64 b) ∧ w'.cell? ⟨w.heap.size, 2, none⟩ = some (.int .i64 c) ∧ w'.cell? ⟨w.heap.size, 3, none⟩ = some (.slice q n cap) ∧ w'.cell? ⟨w.heap.size, 4, none⟩ = some (.int .i64 t) ∧ w'.cell? ⟨w.heap.size, 5, none⟩ = some (.bool ok)) := fun w1 hb => (l4From_c a b c _ t ok w1 ⟨_, _, _, rfl⟩).mono (fun e w' ⟨h1, h2⟩ => ⟨h1, h2, hb.trans (h2.mono hb.size), KEEP.out w' (hb.trans (h2.mono hb.size))⟩)
  have HN : Hid (∀ w1, Below WF.heap.size WF w1 → Calls Tryz.prog 222 #[.agg #[.int .i64 a, .int .i64 b, .int .i64 c, .slice q n cap, .int .i64 t, .bool ok]] w1 fun e w' => e = .returned (.agg #[.int .i64 x, .int .i64 y, .int .i64 z, .slice none 0 0]) ∧ Below w1.heap.size w1 w' ∧ Below WF.heap.size WF w' ∧ w'.cell? ⟨w.heap.size, 0, none⟩ = some (.int .i64 a) ∧ w'.cell? ⟨w.heap.size, 1, none⟩ = some (.int .i64 b) ∧ w'.cell? ⟨w.heap.size, 2, none⟩ = some (.int .i64 c) ∧ w'.cell? ⟨w.heap.size, 3, none⟩ = some (.slice q n cap) ∧ w'.cell? ⟨w.heap.size, 4, none⟩ = some (.int .i64 t) ∧ w'.cell? ⟨w.heap.size, 5, none⟩ = some (.bool ok)) := fun w1 hb => (l4Tilde_c a b c _ t ok hnum ht w1 ⟨_, _, _, rfl⟩).mono (fun e w' ⟨h1, h2⟩ => ⟨by rw [h1, ← hx, ← hy, ← hz], h2, hb.trans (h2.mono hb.size), KEEP.out w' (hb.trans (h2.mono hb.size))⟩)
  have HB : Hid (∀ w1, Below WF.heap.size WF w1 → Calls Tryz.prog 220 #[.agg #[.int .i64 x, .int .i64 y, .int .i64 z, .slice none 0 0]] w1 fun e w' => ∃ g, e = .returned (.agg #[.int .i64 1, .int .i64 x, .int .i64 y, .int .i64 z, .slice (some ⟨g, 0, none⟩) 1 1]) ∧ w'.ownsRow WF.heap.size 9 1 (.slice (some ⟨g, 0, none⟩) 1 1) 1 (strsV [zeroT]) ∧ Below WF.heap.size WF w' ∧ w'.cell? ⟨w.heap.size, 0, none⟩ = some (.int .i64 a) ∧ w'.cell? ⟨w.heap.size, 1, none⟩ = some (.int .i64 b) ∧ w'.cell? ⟨w.heap.size, 2, none⟩ = some (.int .i64 c) ∧ w'.cell? ⟨w.heap.size, 3, none⟩ = some (.slice q n cap) ∧ w'.cell? ⟨w.heap.size, 4, none⟩ = some (.int .i64 t) ∧ w'.cell? ⟨w.heap.size, 5, none⟩ = some (.bool ok)) := fun w1 hb => (l4Below_c x y z _ w1 ⟨_, _, _, rfl⟩).mono (fun e w' ⟨g, h1, h2, h3⟩ => ⟨g, h1, owns_base h2 hb.size, hb.trans (h3.mono hb.size), KEEP.out w' (hb.trans (h3.mono hb.size))⟩)
  have hd0 : Below WF.heap.size WF WF.drew := (Below.refl _ _).drew
  have D0 := KEEP.out _ hd0
  obtain ⟨d0, d1, d2, d3, d4, d5⟩ := D0
  obtain ⟨c0, c1, c2, c3, c4, c5⟩ := C0
  clear hx hy hz em hnum ht KEEP
  go_enter Tryz.func193, Tryz.ntmps193
  go_wp2_with fail
  rw [← hWFd]
  clear hWFd
  go_region_with (first
    | (go_at_call 219; refine (HF.out _ ?_).mono ?_; · assumption
       rintro e wF ⟨rfl, bF, BF, ⟨c0, c1, c2, c3, c4, c5⟩⟩)
    | (go_at_call 222; refine (HN.out _ ?_).mono ?_; · assumption
       rintro e wN ⟨rfl, bN, BN, ⟨c0, c1, c2, c3, c4, c5⟩⟩)
    | (go_at_call 220; refine (HB.out _ ?_).mono ?_; · assumption
       rintro e wB ⟨g, rfl, og, BB, ⟨c0, c1, c2, c3, c4, c5⟩⟩))
  all_goals go_wp2_with fail
  all_goals go_ret
  all_goals
    have hx := hWF.trans (BB.mono hWF.size)
    exact ⟨_, rfl, two_own ⟨4, a, b, c, ps⟩ ⟨1, x, y, z, [zeroT]⟩ (by simp) (Nat.le_trans hlo hx.size) (owns_of_below hu hx) (owns_base og (Nat.le_trans hlo hWF.size)) (hap g _ _ hWF.size og), hx.alloc hx.size _⟩

end Go.Proofs.YtbolphjigjpmiabGreatDoor

/-! What a sign and a version make, all signs; are all versions of a list right: contracts for the walks, the specification's; conditions: as the parts' own, at most 2 to the 20 bytes. -/
namespace Go.Proofs.YtbolphjigjpmiabGreatDoor
open Go.RowKit
set_option linter.unusedSimpArgs false
set_option linter.unusedVariables false

/-- The signs in the specification's order, and the program's number of each. -/
def signsS : List ByteArray := [⟨#[94]⟩, ⟨#[126]⟩, ⟨#[62, 61]⟩, ⟨#[62]⟩, ⟨#[60, 61]⟩, ⟨#[60]⟩, ⟨#[61]⟩, ⟨#[]⟩]
def numsS : List Int := [6, 5, 4, 3, 2, 1, 0, 0]

theorem l4Make_c (i : Nat) (hi : i < 8) (lo : Nat) (a b c : Int) (u : Value) (ps : List ByteArray) (t : Int) (ok : Bool) (w : World) (hlo : lo ≤ w.heap.size) (hnum : numsOk a b c) (ht : t = 1 ∨ t = 2 ∨ t = 3) (hu : w.ownsRow lo 9 1 u ps.length (strsV ps)) :
    Calls Tryz.prog 193 #[.string (signsS.getD i ⟨#[]⟩), .agg #[.int .i64 a, .int .i64 b, .int .i64 c, u, .int .i64 t, .bool ok]] w fun e w' => ∃ v, e = .returned v ∧ CmpsOwn lo w' v (makeC (numsS.getD i 0) a b c ps t) ∧ Below w.heap.size w w' := by
  have h : i = 0 ∨ i = 1 ∨ i = 2 ∨ i = 3 ∨ i = 4 ∨ i = 5 ∨ i = 6 ∨ i = 7 := by omega
  by_cases h3 : t = 3
  · rcases h with rfl | rfl | rfl | rfl | rfl | rfl | rfl | rfl
    · exact mk_caret lo a b c u ps t ok w hlo hnum ht hu
    · exact mk_tilde lo a b c u ps t ok w hlo hnum ht hu
    · exact mk_ge lo a b c u ps t ok w hlo hnum ht hu
    · exact mk_gt3 lo a b c u ps t ok w hlo hnum ht h3 hu
    · exact mk_le3 lo a b c u ps t ok w hlo hnum ht h3 hu
    · exact mk_lt lo a b c u ps t ok w hlo hnum ht hu
    · exact mk_eq3 lo a b c u ps t ok w hlo hnum ht h3 hu
    · exact mk_no3 lo a b c u ps t ok w hlo hnum ht h3 hu
  · rcases h with rfl | rfl | rfl | rfl | rfl | rfl | rfl | rfl
    · exact mk_caret lo a b c u ps t ok w hlo hnum ht hu
    · exact mk_tilde lo a b c u ps t ok w hlo hnum ht hu
    · exact mk_ge lo a b c u ps t ok w hlo hnum ht hu
    · exact mk_gt lo a b c u ps t ok w hlo hnum ht h3 hu
    · exact mk_le lo a b c u ps t ok w hlo hnum ht h3 hu
    · exact mk_lt lo a b c u ps t ok w hlo hnum ht hu
    · exact mk_eq lo a b c u ps t ok w hlo hnum ht h3 hu
    · exact mk_no lo a b c u ps t ok w hlo hnum ht h3 hu

set_option maxHeartbeats 1000000 in
set_option maxRecDepth 100000 in
theorem l4Good_c (lo : Nat) (v : Value) (ds : List CmpD) (w : World) (hv : CmpsOwn lo w v ds) (hl : ds.length ≤ 1048576) (hb : ∀ d ∈ ds, bulkS d.ps ≤ 1048576) :
    Calls Tryz.prog 129 #[v] w fun e w' => e = .returned (.bool (ds.all goodD)) ∧ Below w.heap.size w w' := by
  obtain ⟨q, cap, us, rfl, ha, hr⟩ := hv.at
  clear hv
  go_enter Tryz.func129, Tryz.ntmps129
  go_wp2_with fail
  go_loopw [3] (fun vi wr => ∃ k : Nat, k ≤ ds.length ∧ vi = .int .i64 (k : Int) ∧ Hid ((ds.take k).all goodD = true) ∧ Below w.heap.size w wr) (fun vi _ => ds.length - (intOf vi).toNat)
  case atStart => exact ⟨0, Nat.zero_le _, rfl, (by show _ = _; simp), Below.refl _ _⟩
  case round =>
    obtain ⟨k, hk, rfl, hall, hbr⟩ := hrel
    by_cases hlt : k < ds.length
    · rcases ha with rfl | ⟨g, rfl, _, hg, ha⟩
      · simp at hlt
      obtain ⟨e0, e1, e2, e3, e4⟩ := ha k hlt
      rw [← hbr.cell (by simpa using hg)] at e0 e1 e2 e3 e4
      have hu := (hr k hlt).below hbr
      have hbk := hb _ (List.getElem_mem hlt)
      have HT : Hid (goodD ds[k] = true → (ds.take (k + 1)).all goodD = true) := fun h => by rw [List.take_succ_eq_append_getElem hlt, List.all_append, hall.out]; simp [h]
      have HF : Hid (goodD ds[k] = false → ds.all goodD = false) := fun h => by rw [List.all_eq_false]; exact ⟨_, List.getElem_mem hlt, by simp [h]⟩
      obtain ⟨d, hd⟩ : ∃ d, d = ds[k] := ⟨_, rfl⟩
      rw [← hd] at e0 e1 e2 e3 hu hbk HT HF
      obtain ⟨u, hu0⟩ : ∃ u, u = us k := ⟨_, rfl⟩
      rw [← hu0] at e4 hu
      obtain ⟨r, hr0⟩ : ∃ r, r = goodD d := ⟨_, rfl⟩
      have HC : Hid (Calls Tryz.prog 62 #[.agg #[.int .i64 d.a, .int .i64 d.b, .int .i64 d.c, u]] wr fun e w' => e = .returned (.bool r) ∧ Below wr.heap.size wr w') := by rw [hr0]; exact specVerOk_c _ _ _ _ d.ps wr hu hbk
      rw [← hr0] at HT HF
      obtain ⟨uq, ucap, hu2, _, _⟩ := reads_strs hu
      subst hu2
      have hki : (k : Int) < (ds.length : Int) := by omega
      clear ha hr hd hu0 hr0 hu hbk hb
      cases r with
      | false =>
        have HF2 : Hid (ds.all goodD = false) := HF.out rfl
        clear HT HF
        go_wp2_with (go_at_call 62; refine HC.out.mono ?_; rintro e w1 ⟨rfl, b1⟩)
        go_ret
        exact ⟨by rw [HF2.out]; rfl, hbr.trans (b1.mono hbr.size)⟩
      | true =>
        have HT2 : Hid ((ds.take (k + 1)).all goodD = true) := HT.out rfl
        clear HT HF
        go_wp2_with (go_at_call 62; refine HC.out.mono ?_; rintro e w1 ⟨rfl, b1⟩)
        go_roundw
        case rel => exact ⟨k + 1, by omega, by go_num, HT2, hbr.trans (b1.mono hbr.size)⟩
        case measure => simp [intOf]; omega
    · have he : k = ds.length := by omega
      subst he
      have HE : Hid (ds.all goodD = true) := by have := hall.out; rw [List.take_length] at this; exact this
      clear ha hr hall
      go_wp2_with fail
      go_ret
      exact ⟨by rw [HE.out]; rfl, hbr⟩

end Go.Proofs.YtbolphjigjpmiabGreatDoor
