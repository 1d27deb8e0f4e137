/-
  Contracts for the walks, several texts in one: each part says what it proves, and under which conditions.
-/
import Derived.Deep.RegionHeld
import Derived.Test.YtlfmefojcmpfeaaGreatDoorQ5
import Derived.Test.YtlfmefojcmpfeaaGreatDoorQ17
import Derived.Test.YtlfmefojcmpfeaaGreatDoorQ16
import Derived.Test.YtlfmefojcmpfeaaGreatDoorQ4
import Derived.Test.YtlfmefojcmpfeaaGreatDoorQ2
import Derived.Test.YtlfmefojcmpfeaaGreatDoorQ12
import Derived.Test.YtlfmefojcmpfeaaGreatDoorQ15

/-! What ParseLock answers, the specification's: the picks of the lines, or none: a contract for the walks; condition: the text has at most 2 to the 20 bytes. -/
namespace Go.Proofs.YtlfmefojcmpfeaaGreatDoor
open Go.RowKit
set_option linter.unusedSimpArgs false
set_option linter.unusedVariables false

theorem linesP_step (L : List ByteArray) : ∀ i (h : i < L.length), linesP (L.take (i + 1)) = match linesP (L.take i), lineS L[i] with
    | some ps, some p => some (ps ++ [p])
    | _, _ => none := by
  induction L with
  | nil => intro i h; simp at h
  | cons l r ih =>
    intro i h
    cases i with
    | zero =>
      simp only [List.take_succ_cons, List.take_zero, linesP, List.getElem_cons_zero]
      cases lineS l <;> rfl
    | succ i =>
      have h2 : i < r.length := by simpa using h
      simp only [List.take_succ_cons, linesP, List.getElem_cons_succ]
      have e := ih i h2
      rw [e]
      cases lineS l with
      | none => rfl
      | some p =>
        cases linesP (r.take i) with
        | none => rfl
        | some ps => cases lineS r[i] <;> rfl
theorem linesP_bad (L : List ByteArray) (i : Nat) (h : i < L.length) (hn : lineS L[i] = none) : linesP L = none := by
  induction L generalizing i with
  | nil => simp at h
  | cons l r ih =>
    rw [linesP]
    cases i with
    | zero => rw [List.getElem_cons_zero] at hn; rw [hn]
    | succ i =>
      rw [List.getElem_cons_succ] at hn
      rw [ih i (by simpa using h) hn]
      cases lineS l <;> rfl
theorem lockS_bad (L : List ByteArray) (i : Nat) (h : i + 1 < L.length) (hn : lineS (L[i]'(by omega)) = none) : lockS L = none := by
  unfold lockS
  rw [linesP_bad L.dropLast i (by rw [List.length_dropLast]; omega) (by rw [List.getElem_dropLast]; exact hn)]
theorem lockS_end (L : List ByteArray) (h : 0 < L.length) (ps : List PickD) (hp : linesP (L.take (L.length - 1)) = some ps) : lockS L = if (L[L.length - 1]'(by omega)).size = 0 ∧ picksB ps = true then some ps else none := by
  unfold lockS
  rw [List.dropLast_eq_take, hp]
  have e : L.getLastD ⟨#[]⟩ = L[L.length - 1]'(by omega) := by
    rw [List.getLastD_eq_getLast?, List.getLast?_eq_getElem?, List.getElem?_eq_getElem (by omega)]
    rfl
  rw [e]
theorem lineS_two {l n0 t : ByteArray} (h : splitS l 64 = [n0, t]) : lineS l = if resOk t = true then some (pickT n0 t) else none := by unfold lineS; rw [h]
theorem lineS_not {l : ByteArray} (h : (splitS l 64).length ≠ 2) : lineS l = none := by
  unfold lineS
  split
  · rename_i e; rw [e] at h; simp at h
  · rfl
theorem two_ofL {L : List ByteArray} (h : L.length = 2) : ∃ a b, L = [a, b] := by
  match L, h with
  | [a, b], _ => exact ⟨a, b, rfl⟩
set_option maxHeartbeats 8000000 in
set_option maxRecDepth 100000 in
theorem specLock_c (s : ByteArray) (hs : s.size ≤ 1048576) (w : World) :
    Calls Tryz.prog 47 #[.string s] w fun e w' => ∃ q c, e = .returned (.tuple #[.slice q ((lockR s).getD []).length c, .bool (lockR s).isSome]) ∧ RowOwn shPickO 59 (Ow w.heap.size w'.heap.size) w' (.slice q ((lockR s).getD []).length c) ((lockR s).getD []) ∧ Below w.heap.size w w' := by
  obtain ⟨i0, hi0, hz0, hz1, hz2⟩ := info_parts infoPick
  have HSP := fun w1 => specSplit_c s 10 w1 hs
  have hpos := splitS_pos s 10
  have hln := splitS_len s 10
  have HPC := hidden (splitS_piece s 10)
  rw [lock_alike]
  obtain ⟨L, hL⟩ : ∃ L, L = splitS s 10 := ⟨_, rfl⟩
  rw [← hL] at HSP HPC hpos hln ⊢
  obtain ⟨R, hR⟩ : ∃ R, R = lockS L := ⟨_, rfl⟩
  have HSB : Hid (∀ i (h : i + 1 < L.length), lineS (L[i]'(by omega)) = none → R = none) := fun i h hn => hR.trans (lockS_bad L i h hn)
  have HSE : Hid (∀ ps, linesP (L.take (L.length - 1)) = some ps → R = if (L[L.length - 1]'(by omega)).size = 0 ∧ picksB ps = true then some ps else none) := fun ps h => hR.trans (lockS_end L hpos ps h)
  rw [← hR]
  replace HSP := hidden HSP
  have he0 : (w.alloc (.cells #[] 59)).ownsRow w.heap.size 59 5 (.slice (some ⟨w.heap.size, 0, none⟩) 0 0) 0 [] := World.ownsRow_lit w #[] 0 (Nat.le_refl _) (by unfold maxLen; omega) rfl
  clear hL hR
  go_enter Tryz.func47, Tryz.ntmps47
  go_wp2_with fail
  go_at_call 127
  refine (HSP.out _).mono ?_
  rintro e w1 ⟨vl, rfl, ol, b1⟩
  have k1 : Below w.heap.size w w1 := ((Below.refl _ _).alloc (Nat.le_refl _) _).trans (b1.mono (by simp))
  have HG0 : Hid (RowL w.heap.size w1 (.slice (some ⟨w.heap.size, 0, none⟩) 0 0) []) := ⟨owns_of_belowN he0 b1, fun p hp => by simp at hp⟩
  replace ol := owns_lo (lo' := w.heap.size) (by simp) ol
  obtain ⟨gl, cl, hvl⟩ : ∃ g cap, vl = .slice (some ⟨g, 0, none⟩) L.length cap := by
    rcases ol.2 with ⟨_, h⟩ | ⟨g, cap, cur, hv, _⟩
    · omega
    · exact ⟨g, cap, hv⟩
  subst hvl
  have HOL := hidden ol
  obtain ⟨n, hn⟩ : ∃ n, n = L.length := ⟨_, rfl⟩
  have HN := hidden hn
  rw [← hn] at HOL hpos hln ⊢
  have K1 := hidden k1
  clear hn ol b1 he0 HSP k1
  go_wp2_with fail
  go_loopw [4, 6] (fun vo vi wr => ∃ (i : Nat) (v : Value) (ps : List LC), i + 1 ≤ n ∧ vi = .int .i64 (i : Int) ∧ vo = v ∧ Hid (linesP (L.take i) = some (ps.map LC.d)) ∧ Hid (RowL w.heap.size wr v ps) ∧ Hid (∀ p ∈ ps, p.d.name.size ≤ 1048576 ∧ bulkS p.d.vP ≤ 1048576) ∧ ps.length ≤ i ∧ Hid (wr.ownsRow w.heap.size 9 1 (.slice (some ⟨gl, 0, none⟩) n cl) n (strsV L)) ∧ Hid (Below w.heap.size w wr)) (fun _ vi _ => n - (intOf vi).toNat)
  case atStart => exact ⟨0, _, [], hpos, rfl, rfl, (by show _ = _; rw [List.take_zero]; rfl), HG0, (fun p hp => by simp at hp), by simp, HOL, K1⟩
  case round =>
    clear HG0 HOL K1
    obtain ⟨wo, hwo⟩ : ∃ wo, wo = wr := ⟨_, rfl⟩
    subst hwo
    obtain ⟨i, v, ps, hin, rfl, hvo, hlp, hrow, hps, hpl, hol, HBR⟩ := hrel
    have hbr := HBR.out
    obtain ⟨qo, co, hv⟩ := owns_sliceL hrow.out.1
    subst hvo
    subst hv
    by_cases hlt : i + 1 < n
    · have hki : (i : Int) < (n : Int) - 1 := by omega
      have hki2 : (i : Int) < (n : Int) := by omega
      have hiL : i + 1 < L.length := by rw [← HN.out]; exact hlt
      have e0 : wo.cell? ⟨gl, i, none⟩ = some (.string L[i]) := by
        rw [hol.out.cellAt i (by omega)]
        simp [strsV]
      have hlz : L[i].size ≤ 1048576 := Nat.le_trans (HPC.out _ (List.getElem_mem _)) hs
      have HB1 := hidden (HSB.out i hiL)
      have HST := hidden (linesP_step L i (by omega))
      rw [hlp.out] at HST
      obtain ⟨l, hl⟩ : ∃ l, l = L[i] := ⟨_, rfl⟩
      rw [← hl] at e0 hlz HB1 HST
      have HSW := fun w1 => specSplit_c l 64 w1 hlz
      have hwz := splitS_piece l 64
      have HL2 := hidden (fun a b h => lineS_two (l := l) (n0 := a) (t := b) h)
      have HLN := hidden (fun h => lineS_not (l := l) h)
      obtain ⟨W, hW⟩ : ∃ W, W = splitS l 64 := ⟨_, rfl⟩
      rw [← hW] at HSW hwz HL2 HLN
      replace HSW := hidden HSW
      clear hl hW hiL
      go_wp2_with fail
      go_at_call 127
      refine (HSW.out _).mono ?_
      rintro e w2 ⟨vw, rfl, ow, b2⟩
      have k2 : Below w.heap.size w w2 := hbr.trans (b2.mono hbr.size)
      have hrow2 := hidden (hrow.out.below b2)
      have hol2 := hidden (owns_of_belowN hol.out b2)
      replace ow := owns_lo (lo' := w.heap.size) hbr.size ow
      clear HSW hrow hol hbr HBR b2 e0
      by_cases h2 : W.length = 2
      · obtain ⟨n0, t0, hW2⟩ := two_ofL h2
        subst hW2
        have hn0 : n0.size ≤ 1048576 := Nat.le_trans (hwz n0 (by simp)) hlz
        have ht0 : t0.size ≤ 1048576 := Nat.le_trans (hwz t0 (by simp)) hlz
        have HLS := hidden (HL2.out n0 t0 rfl)
        have HPV : ∀ w1, Calls Tryz.prog 128 #[.string t0] w1 fun e w' => ∃ q c, e = .returned (.tuple #[.agg #[.int .i64 (resN t0 0), .int .i64 (resN t0 1), .int .i64 (resN t0 2), .slice q (resP t0).length c], .bool (resOk t0)]) ∧ w'.ownsRow w1.heap.size 9 1 (.slice q (resP t0).length c) (resP t0).length (strsV (resP t0)) ∧ Below w1.heap.size w1 w' := fun w1 => (specParseN_c t0 ht0 w1).mono fun e w' ⟨u, h1, h2, h3⟩ => by
          obtain ⟨q, c, rfl⟩ := owns_sliceL h2
          exact ⟨q, c, h1, h2, h3⟩
        have HBK := hidden (fun h => pickT_bulk (t := t0) h)
        have HPT : Hid (pickT n0 t0 = ⟨n0, resN t0 0, resN t0 1, resN t0 2, resP t0⟩) := rfl
        obtain ⟨ra, hra⟩ : ∃ z, z = resN t0 0 := ⟨_, rfl⟩
        obtain ⟨rb, hrb⟩ : ∃ z, z = resN t0 1 := ⟨_, rfl⟩
        obtain ⟨rc, hrc⟩ : ∃ z, z = resN t0 2 := ⟨_, rfl⟩
        obtain ⟨rk, hrk⟩ : ∃ z, z = resOk t0 := ⟨_, rfl⟩
        obtain ⟨rp, hrp2⟩ : ∃ z, z = resP t0 := ⟨_, rfl⟩
        obtain ⟨Dd, hD⟩ : ∃ z, z = pickT n0 t0 := ⟨_, rfl⟩
        rw [← hD] at HPT HLS
        simp only [← hra, ← hrb, ← hrc, ← hrk, ← hrp2] at HPV HBK HPT HLS
        obtain ⟨un, hun⟩ : ∃ n, n = rp.length := ⟨_, rfl⟩
        have HUN := hidden hun
        rw [← hun] at HPV
        replace HPV := hidden HPV
        obtain ⟨gw, cw, hvw⟩ : ∃ g cap, vw = .slice (some ⟨g, 0, none⟩) 2 cap := by
          rcases ow.2 with ⟨_, h⟩ | ⟨g, cap, cur, hv, _⟩
          · simp at h
          · exact ⟨g, cap, hv⟩
        subst hvw
        have ow2 : w2.ownsRow w.heap.size 9 1 (.slice (some ⟨gw, 0, none⟩) 2 cw) 2 (strsV [n0, t0]) := ow
        have HOW := hidden ow2
        have y0 : w2.cell? ⟨gw, 0, none⟩ = some (.string n0) := by rw [ow2.cellAt 0 (by simp)]; rfl
        have y1 : w2.cell? ⟨gw, 1, none⟩ = some (.string t0) := by rw [ow2.cellAt 1 (by simp)]; rfl
        clear ow ow2 hra hrb hrc hrk hrp2 hD hun HL2 HLN hwz h2
        go_wp2_with fail
        go_at_call 128
        refine (HPV.out _).mono ?_
        rintro e w3 ⟨uq, uc, rfl, ou, b3⟩
        have k3 : Below w.heap.size w w3 := k2.trans (b3.mono k2.size)
        have hrow3 := hidden (hrow2.out.below b3)
        have hol3 := hidden (owns_of_belowN hol2.out b3)
        have how3 := hidden (owns_of_belowN HOW.out b3)
        have HOU := hidden (owns_lo k2.size ou)
        clear HPV hrow2 hol2 HOW b3 k2 ou y0 y1
        cases rk with
        | false =>
          have hRn := HB1.out (by rw [HLS.out]; rfl)
          subst hRn
          have k4 : Below w.heap.size w (w3.alloc (.cells #[.int .i64 ra, .int .i64 rb, .int .i64 rc, .slice uq un uc] 30)) := k3.alloc k3.size _
          clear HSB HSE HB1 HST HLS HBK HPT hrow3 hol3 how3 HOU HUN hlp hps
          go_wp2_with fail
          go_ret2
          have hemp := World.ownsRow_lit (e := 59) (size := 5) (w3.alloc (.cells #[.int .i64 ra, .int .i64 rb, .int .i64 rc, .slice uq un uc] 30)) #[] 0 k4.size (by unfold maxLen; omega) rfl
          exact ⟨some ⟨w3.heap.size + 1, 0, none⟩, 0, rfl, RowL.own (ps := []) ⟨(by first | exact hemp | simpa [flatL] using hemp), fun p hp => by simp at hp⟩ (fun p hp => by simp at hp) (by unfold maxLen; simp), k4.alloc k4.size _⟩
        | true =>
          have hbk := HBK.out rfl
          obtain ⟨W4, hW4⟩ : ∃ W, W = w3.alloc (.cells #[.int .i64 ra, .int .i64 rb, .int .i64 rc, .slice uq un uc] 30) := ⟨_, rfl⟩
          have b4 : Below w3.heap.size w3 W4 := by rw [hW4]; exact (Below.refl _ _).alloc (Nat.le_refl _) _
          have bx4 : W4.heap[w3.heap.size]? = some (.cells #[.int .i64 ra, .int .i64 rb, .int .i64 rc, .slice uq un uc] 30) := by rw [hW4]; exact vheap_new _ _
          have k4 : Below w.heap.size w W4 := k3.trans (b4.mono k3.size)
          have b5 : Below W4.heap.size W4 (W4.drew.alloc (.cells #[.string n0, .int .i64 ra, .int .i64 rb, .int .i64 rc, .slice uq un uc] 59)) := (Below.refl _ _).drew.alloc (Nat.le_refl _) _
          have b45 : Below w3.heap.size w3 (W4.drew.alloc (.cells #[.string n0, .int .i64 ra, .int .i64 rb, .int .i64 rc, .slice uq un uc] 59)) := b4.trans (b5.mono b4.size)
          have KW5 : Hid (Below w.heap.size w (W4.drew.alloc (.cells #[.string n0, .int .i64 ra, .int .i64 rb, .int .i64 rc, .slice uq un uc] 59))) := k4.trans (b5.mono k4.size)
          have KEEP : Hid (∀ w', Below W4.heap.size W4 w' → w'.cell? ⟨gw, 0, none⟩ = some (.string n0) ∧ w'.cell? ⟨w3.heap.size, 0, none⟩ = some (.int .i64 ra) ∧ w'.cell? ⟨w3.heap.size, 1, none⟩ = some (.int .i64 rb) ∧ w'.cell? ⟨w3.heap.size, 2, none⟩ = some (.int .i64 rc) ∧ w'.cell? ⟨w3.heap.size, 3, none⟩ = some (.slice uq un uc)) := fun w' h => by
            have hx := box_below bx4 h
            have ho := owns_of_belowN (owns_of_belowN how3.out b4) h
            exact ⟨by rw [ho.cellAt 0 (by simp)]; rfl, vblk_cell hx 0, vblk_cell hx 1, vblk_cell hx 2, vblk_cell hx 3⟩
          have hq5 := b5
          have HR5 := hidden (hrow3.out.below b45)
          have HOL5 := hidden (owns_of_belowN hol3.out b45)
          have HOU5 := hidden (owns_of_belowN HOU.out b45)
          have HSRC : Hid (∀ j u, [.string n0, .int .i64 ra, .int .i64 rb, .int .i64 rc, .slice uq un uc][j]? = some u → (W4.drew.alloc (.cells #[.string n0, .int .i64 ra, .int .i64 rb, .int .i64 rc, .slice uq un uc] 59)).cell? ((⟨W4.heap.size, 0, none⟩ : Addr).add j) = some u) := src_newL W4.drew [.string n0, .int .i64 ra, .int .i64 rb, .int .i64 rc, .slice uq un uc] 59
          have SEND : Hid (∀ w', (W4.drew.alloc (.cells #[.string n0, .int .i64 ra, .int .i64 rb, .int .i64 rc, .slice uq un uc] 59)).grownBy w' (Value.slice qo ps.length co).ownBlock → w'.cell? ⟨gw, 0, none⟩ = some (.string n0) ∧ w'.cell? ⟨w3.heap.size, 0, none⟩ = some (.int .i64 ra) ∧ w'.cell? ⟨w3.heap.size, 1, none⟩ = some (.int .i64 rb) ∧ w'.cell? ⟨w3.heap.size, 2, none⟩ = some (.int .i64 rc) ∧ w'.cell? ⟨w3.heap.size, 3, none⟩ = some (.slice uq un uc)) := fun w' gr => by
            have hx5 := box_below bx4 b5
            have hx := (gr.block _ (Array.getElem?_eq_some_iff.1 hx5).1 (fun e => row_box HR5.out.1 hx5 (by decide) e.symm)).trans hx5
            have ho5 := owns_of_belowN how3.out b45
            have ho := ho5.kept gr (owns_apart ho5 HR5.out.1 (by decide))
            exact ⟨by rw [ho.cellAt 0 (by simp)]; rfl, vblk_cell hx 0, vblk_cell hx 1, vblk_cell hx 2, vblk_cell hx 3⟩
          have hq0 : Below W4.heap.size W4 W4.drew := (Below.refl _ _).drew
          have HW4 := hidden hW4
          have i1 : (0 : Int) < 2 := by omega
          clear hW4 b4 bx4 b5 b45 how3 hrow3 hol3 HOU k3 k4 HB1
          go_wp2_with fail
          rw [← HW4.out]
          clear HW4
          refine wp_region_held_drew (S := (fun w' => w'.cell? ⟨gw, 0, none⟩ = some (.string n0) ∧ w'.cell? ⟨w3.heap.size, 0, none⟩ = some (.int .i64 ra) ∧ w'.cell? ⟨w3.heap.size, 1, none⟩ = some (.int .i64 rb) ∧ w'.cell? ⟨w3.heap.size, 2, none⟩ = some (.int .i64 rc) ∧ w'.cell? ⟨w3.heap.size, 3, none⟩ = some (.slice uq un uc))) (by kernel_rfl) ?SR10 (fun hHeld => ?_)
          case SR10 => (exact KEEP.out _ hq0)
          refine wpAnyH_take (i := 0) (oi := _) (v := ?vR10) rfl (by kernel_rfl) (by kernel_rfl) (by kernel_rfl) (fun _ _ _ h => h) (Or.inl ⟨by rfl, ?yR10⟩) hHeld ?_
          case yR10 => (intro w hSw; (try dsimp only at hSw); go_simp <;> with_reducible rfl)
          try simp only [Act.put, List.getElem_toArray, List.getElem_cons_zero, List.getElem_cons_succ, List.setIfInBounds_toArray, List.set_cons_zero, List.set_cons_succ]
          refine wpAnyH_take (i := 1) (oi := _) (v := ?vR11) rfl (by kernel_rfl) (by kernel_rfl) (by kernel_rfl) (fun _ _ _ h => h) (Or.inl ⟨by rfl, ?yR11⟩) hHeld ?_
          case yR11 => (intro w hSw; (try dsimp only at hSw); go_simp <;> with_reducible rfl)
          try simp only [Act.put, List.getElem_toArray, List.getElem_cons_zero, List.getElem_cons_succ, List.setIfInBounds_toArray, List.set_cons_zero, List.set_cons_succ]
          refine wpAnyH_take (i := 2) (oi := _) (v := ?vR12) rfl (by kernel_rfl) (by kernel_rfl) (by kernel_rfl) (fun _ _ _ h => h) (Or.inl ⟨by rfl, ?yR12⟩) hHeld ?_
          case yR12 => (intro w hSw; (try dsimp only at hSw); go_simp <;> with_reducible rfl)
          try simp only [Act.put, List.getElem_toArray, List.getElem_cons_zero, List.getElem_cons_succ, List.setIfInBounds_toArray, List.set_cons_zero, List.set_cons_succ]
          refine wpAnyH_take (i := 3) (oi := _) (v := ?vR13) rfl (by kernel_rfl) (by kernel_rfl) (by kernel_rfl) (fun _ _ _ h => h) (Or.inl ⟨by rfl, ?yR13⟩) hHeld ?_
          case yR13 => (intro w hSw; (try dsimp only at hSw); go_simp <;> with_reducible rfl)
          try simp only [Act.put, List.getElem_toArray, List.getElem_cons_zero, List.getElem_cons_succ, List.setIfInBounds_toArray, List.set_cons_zero, List.set_cons_succ]
          refine wpAnyH_take (i := 4) (oi := _) (v := ?vR14) rfl (by kernel_rfl) (by kernel_rfl) (by kernel_rfl) (fun _ _ _ h => h) (Or.inl ⟨by rfl, ?yR14⟩) hHeld ?_
          case yR14 => (intro w hSw; (try dsimp only at hSw); go_simp <;> with_reducible rfl)
          try simp only [Act.put, List.getElem_toArray, List.getElem_cons_zero, List.getElem_cons_succ, List.setIfInBounds_toArray, List.set_cons_zero, List.set_cons_succ]
          refine wpAnyH_take (i := 5) (oi := _) (v := ?vR15) rfl (by kernel_rfl) (by kernel_rfl) (by kernel_rfl) (fun _ _ _ h => h) (Or.inl ⟨by rfl, ?yR15⟩) hHeld ?_
          case yR15 => (intro w hSw; (try dsimp only at hSw); go_simp <;> with_reducible rfl)
          try simp only [Act.put, List.getElem_toArray, List.getElem_cons_zero, List.getElem_cons_succ, List.setIfInBounds_toArray, List.set_cons_zero, List.set_cons_succ]
          refine wpAnyH_ready (rs := [6]) (by kernel_rfl) (by simp) ?_
          refine AllReadyH.cons rfl (fun K hK => ?_) AllReadyH.nil
          go_simp
          clear hHeld
          refine hK.out _ (W4.drew.alloc (.cells #[.string n0, .int .i64 ra, .int .i64 rb, .int .i64 rc, .slice uq un uc] 59)) ?SR1_6 (fun hHeld => ?_)
          case SR1_6 => (exact KEEP.out _ hq5)
          clear hK K
          try simp only [Act.put, List.getElem_toArray, List.getElem_cons_zero, List.getElem_cons_succ, List.setIfInBounds_toArray, List.set_cons_zero, List.set_cons_succ]
          refine wpAnyH_ready (rs := [7]) (by kernel_rfl) (by simp) ?_
          refine AllReadyH.cons rfl (fun K hK => ?_) AllReadyH.nil
          rw [if_pos (by rfl)]
          refine wp_append_own _ _ _ 49 rfl w.heap.size 59 i0 (.agg #[.string ⟨#[]⟩, .int .i64 0, .int .i64 0, .int .i64 0, .slice none 0 0]) 5 64 Tryz.underlying49 hi0 hz0 hz1 hz2 rfl (by decide) _ ps.length (flatL ps) rfl HR5.out.1 ⟨W4.heap.size, 0, none⟩ 1 1 ([.string n0, .int .i64 ra, .int .i64 rb, .int .i64 rc, .slice uq un uc]) rfl rfl HSRC.out (by intro u hu; simp at hu; rcases hu with rfl | rfl | rfl | rfl | rfl <;> rfl) (by unfold maxLen; omega) (by omega) KW5.out.size ?_
          intro v6 w6 o6 gr6 _
          clear hHeld
          refine hK.out _ _ ?TR1_6 (fun hHeld => ?_)
          case TR1_6 => (exact SEND.out _ gr6)
          clear hK K
          try simp only [Act.put, List.getElem_toArray, List.getElem_cons_zero, List.getElem_cons_succ, List.setIfInBounds_toArray, List.set_cons_zero, List.set_cons_succ]
          refine wpAnyH_take (i := 8) (oi := _) (v := ?vR17) rfl (by kernel_rfl) (by kernel_rfl) (by kernel_rfl) (fun _ _ _ h => h) (Or.inl ⟨by rfl, ?yR17⟩) hHeld ?_
          case yR17 => (intro w hSw; (try dsimp only at hSw); go_simp <;> with_reducible rfl)
          try simp only [Act.put, List.getElem_toArray, List.getElem_cons_zero, List.getElem_cons_succ, List.setIfInBounds_toArray, List.set_cons_zero, List.set_cons_succ]
          refine wpAnyH_done (by kernel_rfl) ?_ _
          have hb6 : Below w.heap.size w w6 := KW5.out.grown gr6 KW5.out.size (fun j hj => (HR5.out.1.lt j hj).1)
          have hrow6 : RowL w.heap.size w6 v6 (ps ++ [⟨Dd, .slice uq un uc⟩]) := by
            refine ⟨?_, fun q hq => ?_⟩
            · rw [flatL_append, List.length_append]
              have e9 : flatL [(⟨Dd, .slice uq un uc⟩ : LC)] = [.string n0, .int .i64 ra, .int .i64 rb, .int .i64 rc, .slice uq un uc] := by show LC.cells _ ++ [] = _; rw [List.append_nil, LC.cells, HPT.out]
              rw [e9]
              exact o6
            · rcases List.mem_append.1 hq with h9 | h9
              · have h8 := HR5.out.2 q h9
                exact h8.kept gr6 (owns_apart h8 HR5.out.1 (by decide))
              · rw [List.mem_singleton.1 h9]
                have h8 := HOU5.out
                have h7 := h8.kept gr6 (owns_apart h8 HR5.out.1 (by decide))
                show w6.ownsRow w.heap.size 9 1 (.slice uq un uc) Dd.vP.length (strsV Dd.vP)
                rw [HPT.out]
                show w6.ownsRow w.heap.size 9 1 (.slice uq un uc) rp.length (strsV rp)
                rw [← HUN.out]
                exact h7
          have hol6 := hidden (HOL5.out.kept gr6 (owns_apart HOL5.out HR5.out.1 (by decide)))
          have hps6 : Hid (∀ p ∈ ps ++ [(⟨Dd, .slice uq un uc⟩ : LC)], p.d.name.size ≤ 1048576 ∧ bulkS p.d.vP ≤ 1048576) := fun p hp => by
            rcases List.mem_append.1 hp with h9 | h9
            · exact hps.out p h9
            · rw [List.mem_singleton.1 h9]
              show Dd.name.size ≤ _ ∧ bulkS Dd.vP ≤ _
              rw [HPT.out]
              exact ⟨hn0, hbk⟩
          have hlp6 : Hid (linesP (L.take (i + 1)) = some ((ps ++ [(⟨Dd, .slice uq un uc⟩ : LC)]).map LC.d)) := by
            show _ = _
            rw [HST.out, HLS.out]
            simp
          have HR6 := hidden hrow6
          have HB6 := hidden hb6
          clear hrow6 hb6 o6 gr6 KW5 HR5 HOL5 HOU5 HSRC SEND KEEP hq0 hq5
          go_wp2_with fail
          go_roundw
          case rel => exact ⟨i + 1, _, ps ++ [⟨Dd, .slice uq un uc⟩], by omega, by go_num, rfl, hlp6, HR6, hps6, by simp; omega, hol6, HB6⟩
          case measure => simp [intOf]; omega
      · have hRn := HB1.out (HLN.out h2)
        subst hRn
        have h2' : ((W.length : Int) != 2) = true := by simp; omega
        obtain ⟨vq, vc, hvw⟩ := owns_sliceL ow
        subst hvw
        clear HSB HSE HB1 HST HL2 HLN hrow2 hol2 ow hlp hps
        go_wp2_with fail
        go_ret2
        have hemp := World.ownsRow_lit (e := 59) (size := 5) w2 #[] 0 k2.size (by unfold maxLen; omega) rfl
        exact ⟨some ⟨w2.heap.size, 0, none⟩, 0, rfl, RowL.own (ps := []) ⟨(by first | exact hemp | simpa [flatL] using hemp), fun p hp => by simp at hp⟩ (fun p hp => by simp at hp) (by unfold maxLen; simp), k2.alloc k2.size _⟩
    · obtain rfl : n = i + 1 := by omega
      have hj0 : (0 : Int) ≤ (i : Int) + 1 := by omega
      have hj2 : ¬ (i : Int) < (i : Int) + 1 - 1 := by omega
      have hj3 : (i : Int) < (i : Int) + 1 := by omega
      have hj4 : (i : Int) + 1 - 1 = (i : Int) := by omega
      have hjw : IntKind.i64.wrap (i : Int) = (i : Int) := IntWalk.i64_in _ ⟨by omega, by omega⟩
      have hiL : i < L.length := by rw [← HN.out]; omega
      have e0 : wo.cell? ⟨gl, i, none⟩ = some (.string L[i]) := by
        rw [hol.out.cellAt i (by omega)]
        simp [strsV]
      have HEN := HSE.out (ps.map LC.d) (by rw [← HN.out]; exact hlp.out)
      simp only [← HN.out, Nat.add_sub_cancel] at HEN
      replace HEN := hidden HEN
      have HOK := l10Ok_c (Ow w.heap.size wo.heap.size) _ _ wo (rowL_plain (RowL.own hrow.out hps.out (by unfold maxLen; omega))) (fun b hb => hb.2) (fun d hd => by obtain ⟨p, hp, rfl⟩ := List.mem_map.1 hd; exact (hps.out p hp).2)
      have HOW := hidden (RowL.own hrow.out hps.out (by unfold maxLen; omega))
      obtain ⟨l, hl⟩ : ∃ l, l = L[i] := ⟨_, rfl⟩
      rw [← hl] at e0 HEN
      obtain ⟨pk, hpk⟩ : ∃ z, z = picksB (ps.map LC.d) := ⟨_, rfl⟩
      rw [← hpk] at HEN HOK
      replace HOK := hidden HOK
      clear hl hpk hlp hol HSB HSE hiL
      by_cases hz : l.size = 0
      · have hl0 : l = ⟨#[]⟩ := ByteArray.ext (Array.eq_empty_of_size_eq_zero hz)
        subst hl0
        cases pk with
        | false =>
          have hRn : R = none := by rw [HEN.out, if_neg (fun h => by cases h.2)]
          subst hRn
          clear HEN HOW
          go_wp2_with fail
          go_at_call 129
          refine HOK.out.mono ?_
          rintro e w2 ⟨rfl, b2⟩
          have k2 : Below w.heap.size w w2 := hbr.trans (b2.mono hbr.size)
          go_wp2_with fail
          go_ret2
          have hemp := World.ownsRow_lit (e := 59) (size := 5) w2 #[] 0 k2.size (by unfold maxLen; omega) rfl
          exact ⟨some ⟨w2.heap.size, 0, none⟩, 0, rfl, RowL.own (ps := []) ⟨(by first | exact hemp | simpa [flatL] using hemp), fun p hp => by simp at hp⟩ (fun p hp => by simp at hp) (by unfold maxLen; simp), k2.alloc k2.size _⟩
        | true =>
          have hRs : R = some (ps.map LC.d) := by rw [HEN.out, if_pos ⟨hz, rfl⟩]
          subst hRs
          clear HEN
          go_wp2_with fail
          go_at_call 129
          refine HOK.out.mono ?_
          rintro e w2 ⟨rfl, b2⟩
          have k2 : Below w.heap.size w w2 := hbr.trans (b2.mono hbr.size)
          have HO2 := hidden (rowOwn_up HOW.out b2)
          go_wp2_with fail
          go_ret2
          exact ⟨qo, co, by simp, by simpa using HO2.out, k2⟩
      · have hRn : R = none := by rw [HEN.out, if_neg (fun h => hz h.1)]
        subst hRn
        have hlt0 : l.toList ≠ [] := fun h => hz (by have h2 := congrArg List.length h; simpa [ByteArray.toList_eq] using h2)
        have hl1 : (l.toList == ([] : List UInt8)) = false := by simpa using hlt0
        have hl2 : (l.toList != ([] : List UInt8)) = true := by simp [bne, hl1]
        clear HEN HOK HOW
        go_wp2_with fail
        go_ret2
        have hemp := World.ownsRow_lit (e := 59) (size := 5) wo #[] 0 hbr.size (by unfold maxLen; omega) rfl
        exact ⟨some ⟨wo.heap.size, 0, none⟩, 0, rfl, RowL.own (ps := []) ⟨(by first | exact hemp | simpa [flatL] using hemp), fun p hp => by simp at hp⟩ (fun p hp => by simp at hp) (by unfold maxLen; simp), hbr.alloc hbr.size _⟩
end Go.Proofs.YtlfmefojcmpfeaaGreatDoor

/-! Marks put into versions and entries, and found again, as the law does it: contracts for the walks; conditions: their rows lie in memory, may be written, and there are at most 2 to the 32 marks. -/
namespace Go.Proofs.YtlfmefojcmpfeaaGreatDoor
open Go.RowKit
set_option linter.unusedSimpArgs false
set_option linter.unusedVariables false

theorem chg_grown {w w' : World} {v : Value} (h : Chg (fun b => v.ownBlock = some b) w w') : w.grownBy w' v.ownBlock := ⟨h.os, h.tape, h.output, h.size, fun i hi hne => h.block i hi (fun k => hne k.symm)⟩
end Go.Proofs.YtlfmefojcmpfeaaGreatDoor

/-! Marks put into rows of entries, as the law puts them: a contract for the walks; conditions: the rows lie in memory, may be written, and there are at most 2 to the 32 marks. -/
namespace Go.Proofs.YtlfmefojcmpfeaaGreatDoor
open Go.RowKit
set_option linter.unusedSimpArgs false
set_option linter.unusedVariables false

/-- The rows of a row of entries: each may be written. -/
def EntRows (w : World) (S : Nat → Prop) (ys : List Value) (xs : List EntryD) : Prop := ∀ i (h : i < xs.length), ∃ u0 u1 z0 z1, ys[i * 6 + 4]? = some u0 ∧ ys[i * 6 + 5]? = some u1 ∧ w.ownsRow 0 9 1 u0 xs[i].vP.length z0 ∧ (∀ g, u0.ownBlock = some g → S g) ∧ w.ownsRow 0 39 2 u1 xs[i].needs.length z1 ∧ ∀ g, u1.ownBlock = some g → S g
theorem EntRows.set {w : World} {S : Nat → Prop} {ys : List Value} {xs : List EntryD} (h : EntRows w S ys xs) (i r : Nat) (hr : r < 4) (v : Value) : EntRows w S (ys.set (i * 6 + r) v) xs := fun j hj => by
  obtain ⟨u0, u1, z0, z1, h1, h2, h3⟩ := h j hj
  exact ⟨u0, u1, z0, z1, by rw [List.getElem?_set_ne (by omega)]; exact h1, by rw [List.getElem?_set_ne (by omega)]; exact h2, h3⟩
theorem EntRows.below {w w' : World} {S : Nat → Prop} {ys : List Value} {xs : List EntryD} (h : EntRows w S ys xs) (hb : Below w.heap.size w w') : EntRows w' S ys xs := fun j hj => by
  obtain ⟨u0, u1, z0, z1, h1, h2, h3, h4, h5, h6⟩ := h j hj
  exact ⟨u0, u1, z0, z1, h1, h2, owns_kept (S := fun b => b < w.heap.size) (.of hb (fun b h => h)) (fun g h => (owns_in h3 g h).2) h3, h4, owns_kept (S := fun b => b < w.heap.size) (.of hb (fun b h => h)) (fun g h => (owns_in h5 g h).2) h5, h6⟩
theorem own_put {w : World} {lo lo' sz sz' n n' g j cap : Nat} {e e' : TypeId} {u x : Value} {zs ys : List Value} (h : w.ownsRow lo e sz u n zs) (hg : w.ownsRow lo' e' sz' (.slice (some ⟨g, 0, none⟩) n' cap) n' ys) (hne : e ≠ e') : (w.setCell ⟨g, j, none⟩ x).ownsRow lo e sz u n zs := by
  refine owns_kept (S := fun b => b ≠ g) (Kp.set (fun k => k rfl)) (fun g' hg' => ?_) h
  rintro rfl
  rcases owns_apart h hg hne with k | k
  · rw [k] at hg'; cases hg'
  · exact k (by rw [hg']; rfl)
theorem EntRows.store {w : World} {S : Nat → Prop} {ys : List Value} {xs : List EntryD} {g j n cap : Nat} {zs : List Value} {x : Value} (h : EntRows w S ys xs) (hg : w.ownsRow 0 35 6 (.slice (some ⟨g, 0, none⟩) n cap) n zs) : EntRows (w.setCell ⟨g, j, none⟩ x) S ys xs := fun i hi => by
  obtain ⟨u0, u1, z0, z1, h1, h2, h3, h4, h5, h6⟩ := h i hi
  exact ⟨u0, u1, z0, z1, h1, h2, own_put h3 hg (by decide), h4, own_put h5 hg (by decide), h6⟩
theorem EntRows.overS {w w' : World} {S : Nat → Prop} {ys : List Value} {xs : List EntryD} {u : Value} {n : Nat} {z z' : List Value} (h : EntRows w S ys xs) (h0 : w.ownsRow 0 9 1 u n z) (h1 : w'.ownsRow 0 9 1 u n z') (hg : w.grownBy w' u.ownBlock) : EntRows w' S ys xs := fun i hi => by
  obtain ⟨u0, u1, z0, z1, a1, a2, a3, a4, a5, a6⟩ := h i hi
  obtain ⟨z2, a7⟩ := owns_over a3 h0 h1 hg (by omega)
  exact ⟨u0, u1, z2, z1, a1, a2, a7, a4, a5.kept hg (owns_apart a5 h0 (by decide)), a6⟩
theorem EntRows.overN {w w' : World} {S : Nat → Prop} {ys : List Value} {xs : List EntryD} {u : Value} {n : Nat} {z z' : List Value} (h : EntRows w S ys xs) (h0 : w.ownsRow 0 39 2 u n z) (h1 : w'.ownsRow 0 39 2 u n z') (hg : w.grownBy w' u.ownBlock) : EntRows w' S ys xs := fun i hi => by
  obtain ⟨u0, u1, z0, z1, a1, a2, a3, a4, a5, a6⟩ := h i hi
  obtain ⟨z2, a7⟩ := owns_over a5 h0 h1 hg (by omega)
  exact ⟨u0, u1, z0, z2, a1, a2, a3.kept hg (owns_apart a3 h0 (by decide)), a4, a7, a6⟩
theorem entRows_of {S : Nat → Prop} {w : World} {ys : List Value} {xs : List EntryD} (h : Laid shEntryO S w ys xs xs.length) : EntRows w S ys xs := fun i hi => by
  obtain ⟨cs, h1, ⟨u0, u1, rfl, _, h2, _, h3⟩, h4⟩ := h i hi hi
  obtain ⟨_, yn, h5, h6, _⟩ := h3
  exact ⟨u0, u1, _, _, h4 4 (by simp), h4 5 (by simp), h2.1, h2.2, h5, h6⟩
def cntE (d : EntryD) : Nat := 4 + d.vP.length + d.needs.length * 2
def cntEs (xs : List EntryD) : Nat := (xs.map cntE).sum
theorem cntEs_take (xs : List EntryD) (i : Nat) (h : i < xs.length) : cntEs (xs.take (i + 1)) = cntEs (xs.take i) + cntE xs[i] := by
  unfold cntEs
  rw [List.take_succ_eq_append_getElem h, List.map_append, List.sum_append]; simp
theorem cntEs_le (xs : List EntryD) (i : Nat) : cntEs (xs.take i) ≤ cntEs xs := by
  unfold cntEs
  conv => rhs; rw [← List.take_append_drop i xs, List.map_append, List.sum_append]
  omega
theorem cntE_wt (d : EntryD) : cntE d ≤ 4 * (1 + wtEntry d) := by
  have h1 := len_wtRow wtNeed d.needs
  unfold cntE wtEntry bulkS
  omega
theorem cntEs_wt : ∀ xs : List EntryD, cntEs xs ≤ 4 * wtRow wtEntry xs
  | [] => by simp [cntEs]
  | d :: xs => by
    have h1 := cntEs_wt xs
    have h2 := cntE_wt d
    have e1 : cntEs (d :: xs) = cntE d + cntEs xs := by simp [cntEs]
    have e2 : wtRow wtEntry (d :: xs) = (1 + wtEntry d) + wtRow wtEntry xs := by simp [wtRow]
    omega

set_option maxHeartbeats 8000000 in
set_option maxRecDepth 100000 in
theorem markEntryS_c (S : Nat → Prop) (v : Value) (xs : List EntryD) (k : Nat) (w : World) (hv : RowOwn shEntryO 35 S w v xs) (h1 : 1 ≤ k) (h2 : k + cntEs xs ≤ 4294967296) :
    Calls Tryz.prog 62 #[v, .int .i64 (k : Int)] w fun e w' => e = .returned (.int .i64 ((k + cntEs xs : Nat) : Int)) ∧ Chg S w w' := by
  obtain ⟨_, zs, hv, hg, hld⟩ := hv
  have hr := entRows_of hld
  clear hld
  have hv : w.ownsRow 0 35 6 v xs.length zs := hv
  rcases id hv.2 with ⟨rfl, hn0⟩ | ⟨g, cap, cur, rfl, _, hgb, hcap, hmax, _⟩
  · have hns : xs = [] := List.eq_nil_of_length_eq_zero hn0
    subst hns
    clear hv hg hr
    go_enter Tryz.func62, Tryz.ntmps62
    go_wp2_with fail
    go_loopw [1, 5] (fun vk vi wr => vk = .int .i64 (k : Int) ∧ vi = .int .i64 0 ∧ wr = w) (fun _ _ _ => 0)
    case atStart => exact ⟨rfl, rfl, rfl⟩
    case round =>
      obtain ⟨rfl, rfl, rfl⟩ := hrel
      go_wp2_with fail
      go_ret
      exact ⟨by simp [cntEs], Chg.refl _ _⟩
  · have hSg := hg g rfl
    unfold maxLen at hmax
    clear hgb hg
    go_enter Tryz.func62, Tryz.ntmps62
    go_wp2_with fail
    go_loopw [1, 5] (fun vk vi wr => ∃ (i m : Nat) (ys : List Value), i ≤ xs.length ∧ vi = .int .i64 (i : Int) ∧ vk = .int .i64 (m : Int) ∧ Hid (m = k + cntEs (xs.take i)) ∧ wr.ownsRow 0 35 6 (.slice (some ⟨g, 0, none⟩) xs.length cap) xs.length ys ∧ Hid (EntRows wr S ys xs) ∧ Chg S w wr) (fun _ vi _ => xs.length - (intOf vi).toNat)
    case atStart => exact ⟨0, k, zs, Nat.zero_le _, rfl, rfl, by show _ = _; simp [cntEs], hv, hr, Chg.refl _ _⟩
    case round =>
      obtain ⟨i, m, ys, hi, rfl, rfl, hm, hown, hrr, hchg⟩ := hrel
      by_cases hlt : i < xs.length
      · have hlen := hown.1
        have hts := cntEs_take xs i hlt
        have htl := cntEs_le xs (i + 1)
        have HTS : Hid (cntEs (xs.take (i + 1)) = cntEs (xs.take i) + (4 + xs[i].vP.length + xs[i].needs.length * 2) ∧ cntEs (xs.take (i + 1)) ≤ cntEs xs) := ⟨hts, htl⟩
        obtain ⟨P, hP⟩ : ∃ P, P = xs[i].vP.length := ⟨_, rfl⟩
        obtain ⟨Q, hQ⟩ : ∃ Q, Q = xs[i].needs.length := ⟨_, rfl⟩
        rw [← hP, ← hQ] at HTS
        have HP := hidden hP
        have HQ := hidden hQ
        have hm2 : m + 4 + P + Q * 2 ≤ 4294967296 := by have := hm.out; have := HTS.out; omega
        have hm1 : 1 ≤ m := by have := hm.out; omega
        have hki : (i : Int) < (xs.length : Int) := by omega
        have HO := hidden hown
        have HM1 := hidden (fun w1 => markText_c m w1 (by omega) (by omega))
        clear hown hv hr hts htl hP hQ
        go_wp2_with fail
        go_at_call 141
        refine (HM1.out _).mono ?_
        rintro e w1 ⟨rfl, b1⟩
        have r1 := HO.out.kept (grown_of_below b1 none) (by simp [Value.ownBlock])
        have f1 := r1.frozenAt
        have hc : ∀ j, j < 6 → ∃ x, w1.cell? ⟨g, i * 6 + j, none⟩ = some x := fun j hj => ⟨ys.getD (i * 6 + j) undef, by rw [r1.cellAt _ (by omega)]; simp [List.getD_eq_getElem?_getD, show i * 6 + j < ys.length by omega]⟩
        obtain ⟨c0, d0⟩ := hc 0 (by omega)
        obtain ⟨c1, d1⟩ := hc 1 (by omega)
        obtain ⟨c2, d2⟩ := hc 2 (by omega)
        obtain ⟨c3, d3⟩ := hc 3 (by omega)
        rw [Nat.add_zero] at d0
        have q1 := hrr.out.below b1
        have s0 := r1.stored (i * 6 + 0) (.string (markStr m))
        have q2 := (q1.store (j := i * 6 + 0) (x := .string (markStr m)) r1).set i 0 (by omega) (.string (markStr m))
        have s1 := s0.1.stored (i * 6 + 1) (.int .i64 ((m : Int) + 1))
        have q3 := (q2.store (j := i * 6 + 1) (x := .int .i64 ((m : Int) + 1)) s0.1).set i 1 (by omega) (.int .i64 ((m : Int) + 1))
        have s2 := s1.1.stored (i * 6 + 2) (.int .i64 ((m : Int) + 1 + 1))
        have q4 := (q3.store (j := i * 6 + 2) (x := .int .i64 ((m : Int) + 1 + 1)) s1.1).set i 2 (by omega) (.int .i64 ((m : Int) + 1 + 1))
        have s3 := s2.1.stored (i * 6 + 3) (.int .i64 ((m : Int) + 1 + 1 + 1))
        have q5 := (q4.store (j := i * 6 + 3) (x := .int .i64 ((m : Int) + 1 + 1 + 1)) s2.1).set i 3 (by omega) (.int .i64 ((m : Int) + 1 + 1 + 1))
        obtain ⟨u0, u1, z0, z1, hu1, hu2, hu3, hu4, hu5, hu6⟩ := q5 i hlt
        rw [← HP.out] at hu3
        have d4 : w1.cell? ⟨g, i * 6 + 4, none⟩ = some u0 := by
          rw [r1.cellAt _ (by omega)]
          rw [List.getElem?_set_ne (by omega), List.getElem?_set_ne (by omega), List.getElem?_set_ne (by omega), List.getElem?_set_ne (by omega)] at hu1
          exact hu1
        obtain ⟨qu, cu, eu⟩ := owns_sliceP hu3
        have HMS := markStrs_c u0 0 P z0 (m + 4) _ hu3 (by omega) (by omega) (by omega) (Nat.zero_le _)
        rw [show ((m + 4 : Nat) : Int) = (m : Int) + 1 + 1 + 1 + 1 by omega] at HMS
        subst eu
        have CH1 : Chg S wr ((((w1.setCell ⟨g, i * 6 + 0, none⟩ (.string (markStr m))).setCell ⟨g, i * 6 + 1, none⟩ (.int .i64 ((m : Int) + 1))).setCell ⟨g, i * 6 + 2, none⟩ (.int .i64 ((m : Int) + 1 + 1))).setCell ⟨g, i * 6 + 3, none⟩ (.int .i64 ((m : Int) + 1 + 1 + 1))) := (Chg.of b1).trans ((Chg.set hSg).trans ((Chg.set hSg).trans ((Chg.set hSg).trans (Chg.set hSg))))
        simp only [Nat.add_zero] at HMS s3 q5 CH1 hu3
        have HMS2 := hidden HMS
        have HR2 := hidden s3.1
        have HQ2 := hidden q5
        have HU2 := hidden hu3
        have HCH1 := hidden CH1
        clear r1 s0 s1 s2 s3 q1 q2 q3 q4 q5 HMS hu1 hu2 hu3 hu5 hu6 CH1 hc
        go_wp2_with fail
        go_at_call 142
        refine HMS2.out.mono ?_
        rintro e w2 ⟨rfl, y2, g2⟩
        have r3 := HR2.out.kept g2 (owns_apart HR2.out HU2.out (by decide))
        have q6 := HQ2.out.overS HU2.out y2 g2
        obtain ⟨t0, t1, x0, x1, hv1, hv2, hv3, hv4, hv5, hv6⟩ := q6 i hlt
        rw [← HQ.out] at hv5
        have hl3 := r3.1
        have d5 : w2.cell? ⟨g, i * 6 + 5, none⟩ = some t1 := by
          rw [r3.cellAt _ (by omega)]
          exact hv2
        obtain ⟨qt, ct, et⟩ := owns_sliceP hv5
        have HMN := markNeedV_c t1 0 Q (m + 4 + P) x1 _ hv5 (by omega) (by omega)
        rw [show ((m + 4 + P : Nat) : Int) = (m : Int) + 1 + 1 + 1 + 1 + (P : Int) by omega] at HMN
        subst et
        have HMN2 := hidden HMN
        have HR3 := hidden r3
        have HQ3 := hidden q6
        have HU3 := hidden hv5
        have HCH2 := hidden (HCH1.out.trans (Chg.grown g2 hu4))
        clear r3 q6 HMN hv1 hv2 hv3 hv4 hv5 y2
        go_wp2_with fail
        go_at_call 63
        refine HMN2.out.mono ?_
        rintro e w3 ⟨rfl, y3, g3⟩
        have r4 := HR3.out.kept g3 (owns_apart HR3.out HU3.out (by decide))
        have q7 := HQ3.out.overN HU3.out y3 g3
        have HR4 := hidden r4
        have HQ4 := hidden q7
        have HCH3 := hidden (HCH2.out.trans (Chg.grown g3 hv6))
        clear r4 q7 y3
        go_wp2_with fail
        go_roundw
        case rel => exact ⟨i + 1, m + 4 + P + Q * 2, _, by omega, by go_num, by first | rfl | (simp; done) | (simp; omega), (by show _ = _; have := hm.out; have := HTS.out; omega), HR4.out, HQ4, hchg.trans HCH3.out⟩
        case measure => simp [intOf]; omega
      · have he : i = xs.length := by omega
        subst he
        have hmm : m = k + cntEs xs := by have := hm.out; rw [List.take_length] at this; exact this
        have HMM := hidden hmm
        clear hown hv hr hrr hmm
        go_wp2_with fail
        go_ret
        exact ⟨by rw [← HMM.out]; rfl, hchg⟩
end Go.Proofs.YtlfmefojcmpfeaaGreatDoor

/-! Marks put into a row of picks, no two of which share memory, and held against it: contracts for the walks; conditions: the row may be written, and there are at most 2 to the 32 marks. -/
namespace Go.Proofs.YtlfmefojcmpfeaaGreatDoor
open Go.RowKit
set_option linter.unusedSimpArgs false
set_option linter.unusedVariables false

/-- A pick with marks from k on. -/
def mkD (k : Nat) (d : PickD) : PickD := ⟨markStr k, (k : Int) + 1, (k : Int) + 1 + 1, (k : Int) + 1 + 1 + 1, marksS (k + 4) d.vP.length⟩
def mkL : Nat → List LC → List LC
  | _, [] => []
  | k, p :: r => ⟨mkD k p.d, p.u0⟩ :: mkL (k + (4 + p.d.vP.length)) r
def cntLK (ps : List LC) : Nat := (ps.map fun p => 4 + p.d.vP.length).sum
theorem mkL_length (ps : List LC) : ∀ k, (mkL k ps).length = ps.length := by
  induction ps with
  | nil => intro k; rfl
  | cons p r ih => intro k; simp [mkL, ih]
theorem mkL_append (a b : List LC) : ∀ k, mkL k (a ++ b) = mkL k a ++ mkL (k + cntLK a) b := by
  induction a with
  | nil => intro k; rfl
  | cons p r ih =>
    intro k
    show _ :: mkL _ (r ++ b) = _ :: (mkL _ r ++ _)
    rw [ih]
    have e : k + cntLK (p :: r) = k + (4 + p.d.vP.length) + cntLK r := by simp [cntLK]; omega
    rw [e]
theorem cntLK_take (ps : List LC) (i : Nat) (h : i < ps.length) : cntLK (ps.take (i + 1)) = cntLK (ps.take i) + (4 + ps[i].d.vP.length) := by
  rw [List.take_succ_eq_append_getElem h]; simp only [cntLK, List.map_append, List.sum_append, List.map_cons, List.map_nil, List.sum_cons, List.sum_nil, Nat.add_zero]
theorem cntLK_le (ps : List LC) (i : Nat) : cntLK (ps.take i) ≤ cntLK ps := by
  have e : ps = ps.take i ++ ps.drop i := (List.take_append_drop i ps).symm
  have h : cntLK ps = cntLK (ps.take i) + cntLK (ps.drop i) := by
    rw [show cntLK ps = cntLK (ps.take i ++ ps.drop i) by rw [← e]]
    simp only [cntLK, List.map_append, List.sum_append]
  omega
/-- The row while it is marked: below i with marks, from i on as it was. -/
def midL (k : Nat) (ps : List LC) (i : Nat) : List LC := mkL k (ps.take i) ++ ps.drop i
theorem midL_length (k : Nat) (ps : List LC) (i : Nat) (h : i ≤ ps.length) : (midL k ps i).length = ps.length := by simp [midL, mkL_length]; omega
theorem midL_at (k : Nat) (ps : List LC) (i : Nat) (h : i < ps.length) : (midL k ps i)[i]? = some ps[i] := by
  have e : (mkL k (ps.take i)).length = i := by rw [mkL_length]; simp; omega
  rw [midL, List.getElem?_append_right (by omega), e, Nat.sub_self, List.getElem?_drop]
  simp [h]
theorem midL_set (k : Nat) (ps : List LC) (i : Nat) (h : i < ps.length) : (midL k ps i).set i ⟨mkD (k + cntLK (ps.take i)) ps[i].d, ps[i].u0⟩ = midL k ps (i + 1) := by
  have e : (mkL k (ps.take i)).length = i := by rw [mkL_length]; simp; omega
  have e2 : midL k ps (i + 1) = mkL k (ps.take i) ++ (⟨mkD (k + cntLK (ps.take i)) ps[i].d, ps[i].u0⟩ :: ps.drop (i + 1)) := by
    rw [midL, List.take_succ_eq_append_getElem h, mkL_append]
    simp [mkL]
  rw [e2, midL, List.set_append_right _ _ (by omega), e, Nat.sub_self, List.drop_eq_getElem_cons h]
  rfl
theorem mk_u0 (ps : List LC) : ∀ k j (h : j < ps.length), ((mkL k ps)[j]'(by rw [mkL_length]; exact h)).u0 = ps[j].u0 := by
  induction ps with
  | nil => intro k j h; simp at h
  | cons p r ih =>
    intro k j h
    cases j with
    | zero => rfl
    | succ j => simp only [mkL, List.getElem_cons_succ]; exact ih _ j (by simpa using h)
theorem midL_u0 (k : Nat) (ps : List LC) (i : Nat) (hi : i ≤ ps.length) (j : Nat) (h : j < ps.length) : ((midL k ps i)[j]'(by rw [midL_length k ps i hi]; exact h)).u0 = ps[j].u0 := by
  have e : (mkL k (ps.take i)).length = i := by rw [mkL_length]; simp; omega
  simp only [midL]
  by_cases hj : j < i
  · rw [List.getElem_append_left (by omega), mk_u0 _ _ _ (by simp; omega)]
    simp
  · rw [List.getElem_append_right (by omega)]
    simp only [e, List.getElem_drop]
    congr 2
    omega
/-- Four cells of one pick set. -/
theorem flatL_set (qs : List LC) (i : Nat) (h : i < qs.length) (q : LC) (hu : q.u0 = qs[i].u0) : ((((flatL qs).set (i * 5 + 0) (.string q.d.name)).set (i * 5 + 1) (.int .i64 q.d.vA)).set (i * 5 + 2) (.int .i64 q.d.vB)).set (i * 5 + 3) (.int .i64 q.d.vC) = flatL (qs.set i q) := by
  apply List.ext_getElem?
  intro m
  have hl := flatL_length qs
  by_cases hm : m < qs.length * 5
  · obtain ⟨a, r, rfl, hr⟩ : ∃ a r, m = a * 5 + r ∧ r < 5 := ⟨m / 5, m % 5, by omega, Nat.mod_lt _ (by omega)⟩
    have ha : a < qs.length := by omega
    rw [flatL_at _ _ (by simpa using ha) _ hr]
    by_cases hia : i = a
    · subst hia
      simp only [List.getElem_set_self]
      match r, hr with
      | 0, _ => rw [List.getElem?_set_ne (by omega), List.getElem?_set_ne (by omega), List.getElem?_set_ne (by omega), List.getElem?_set_self (by rw [hl]; omega)]; rfl
      | 1, _ => rw [List.getElem?_set_ne (by omega), List.getElem?_set_ne (by omega), List.getElem?_set_self (by simp; rw [hl]; omega)]; rfl
      | 2, _ => rw [List.getElem?_set_ne (by omega), List.getElem?_set_self (by simp; rw [hl]; omega)]; rfl
      | 3, _ => rw [List.getElem?_set_self (by simp; rw [hl]; omega)]; rfl
      | 4, _ => rw [List.getElem?_set_ne (by omega), List.getElem?_set_ne (by omega), List.getElem?_set_ne (by omega), List.getElem?_set_ne (by omega), flatL_at _ _ ha _ (by omega)]; show some _ = some _; rw [hu]
    · rw [List.getElem?_set_ne (by omega), List.getElem?_set_ne (by omega), List.getElem?_set_ne (by omega), List.getElem?_set_ne (by omega), flatL_at _ _ ha _ hr]
      simp [List.getElem_set, hia]
  · rw [List.getElem?_eq_none (by simp; rw [hl]; omega), List.getElem?_eq_none (by rw [flatL_length]; simp; omega)]
theorem RowL.mark {lo g n cap : Nat} {w w2 : World} {qs : List LC} {i : Nat} (h : RowL lo w (.slice (some ⟨g, 0, none⟩) n cap) qs) (hn : n = qs.length) (hi : i < qs.length) (hsep : SepL qs) (q : LC) (hu : q.u0 = qs[i].u0)
    (hg : ((((w.setCell ⟨g, i * 5 + 0, none⟩ (.string q.d.name)).setCell ⟨g, i * 5 + 1, none⟩ (.int .i64 q.d.vA)).setCell ⟨g, i * 5 + 2, none⟩ (.int .i64 q.d.vB)).setCell ⟨g, i * 5 + 3, none⟩ (.int .i64 q.d.vC)).grownBy w2 qs[i].u0.ownBlock)
    (ho : w2.ownsRow lo 9 1 q.u0 q.d.vP.length (strsV q.d.vP)) : RowL lo w2 (.slice (some ⟨g, 0, none⟩) n cap) (qs.set i q) := by
  subst hn
  obtain ⟨h1, h2⟩ := h
  have s0 := h1.stored (i * 5 + 0) (.string q.d.name)
  have s1 := s0.1.stored (i * 5 + 1) (.int .i64 q.d.vA)
  have s2 := s1.1.stored (i * 5 + 2) (.int .i64 q.d.vB)
  have s3 := s2.1.stored (i * 5 + 3) (.int .i64 q.d.vC)
  have hat : ∀ p ∈ qs, ((((w.setCell ⟨g, i * 5 + 0, none⟩ (.string q.d.name)).setCell ⟨g, i * 5 + 1, none⟩ (.int .i64 q.d.vA)).setCell ⟨g, i * 5 + 2, none⟩ (.int .i64 q.d.vB)).setCell ⟨g, i * 5 + 3, none⟩ (.int .i64 q.d.vC)).ownsRow lo 9 1 p.u0 p.d.vP.length (strsV p.d.vP) := fun p hp =>
    own_put (own_put (own_put (own_put (h2 p hp) h1 (by decide)) s0.1 (by decide)) s1.1 (by decide)) s2.1 (by decide)
  refine ⟨?_, fun p hp => ?_⟩
  · rw [List.length_set, ← flatL_set qs i hi q hu]
    exact s3.1.kept hg (owns_apart s3.1 (hat _ (List.getElem_mem hi)) (by decide))
  · obtain ⟨j, hj, rfl⟩ := List.mem_iff_getElem.1 hp
    have hj2 : j < qs.length := by simpa using hj
    by_cases e : i = j
    · subst e
      rw [List.getElem_set_self]
      exact ho
    · rw [List.getElem_set_ne e]
      have h8 := hat _ (List.getElem_mem hj2)
      refine h8.kept hg ?_
      cases hx : qs[j].u0.ownBlock with
      | none => exact .inl rfl
      | some x =>
        refine .inr (fun hy => ?_)
        exact hsep j i hj2 hi (fun e2 => e e2.symm) x hx hy.symm

set_option maxHeartbeats 8000000 in
set_option maxRecDepth 100000 in
theorem markPickL_c (lo : Nat) (v : Value) (ps : List LC) (k : Nat) (w : World) (hv : RowL lo w v ps) (hsep : SepL ps) (hlo : lo ≤ w.heap.size) (h1 : 1 ≤ k) (h2 : k + cntLK ps ≤ 4294967296) :
    Calls Tryz.prog 64 #[v, .int .i64 (k : Int)] w fun e w' => e = .returned (.int .i64 ((k + cntLK ps : Nat) : Int)) ∧ RowL lo w' v (mkL k ps) ∧ Below lo w w' := by
  rcases id hv.1.2 with ⟨rfl, hn0⟩ | ⟨g, cap, cur, rfl, hgl, hgb, hcap, hmax, _⟩
  · have hns : ps = [] := List.eq_nil_of_length_eq_zero hn0
    subst hns
    have HV := hidden hv
    clear hv
    go_enter Tryz.func64, Tryz.ntmps64
    go_wp2_with fail
    go_loopw [1, 5] (fun vk vi wr => vk = .int .i64 (k : Int) ∧ vi = .int .i64 0 ∧ wr = w) (fun _ _ _ => 0)
    case atStart => exact ⟨rfl, rfl, rfl⟩
    case round =>
      obtain ⟨rfl, rfl, rfl⟩ := hrel
      go_wp2_with fail
      go_ret
      exact ⟨by simp [cntLK], HV.out, Below.refl _ _⟩
  · unfold maxLen at hmax
    have HV0 : Hid (RowL lo w (.slice (some ⟨g, 0, none⟩) ps.length cap) (midL k ps 0)) := by show RowL _ _ _ _; rw [show midL k ps 0 = ps by simp [midL, mkL]]; exact hv
    have HSEP := hidden hsep
    obtain ⟨n, hn⟩ : ∃ n, n = ps.length := ⟨_, rfl⟩
    have HN := hidden hn
    rw [← hn] at HV0 hcap ⊢
    clear hgb hv hsep hn
    go_enter Tryz.func64, Tryz.ntmps64
    go_wp2_with fail
    go_loopw [1, 5] (fun vk vi wr => ∃ (i m : Nat), i ≤ n ∧ vi = .int .i64 (i : Int) ∧ vk = .int .i64 (m : Int) ∧ Hid (m = k + cntLK (ps.take i)) ∧ Hid (RowL lo wr (.slice (some ⟨g, 0, none⟩) n cap) (midL k ps i)) ∧ Hid (Below lo w wr)) (fun _ vi _ => n - (intOf vi).toNat)
    case atStart => exact ⟨0, k, Nat.zero_le _, rfl, rfl, by show _ = _; simp [cntLK], HV0, Below.refl _ _⟩
    case round =>
      clear HV0
      obtain ⟨wo, hwo⟩ : ∃ wo, wo = wr := ⟨_, rfl⟩
      subst hwo
      obtain ⟨i, m, hi, rfl, rfl, hm, hrow, HBR⟩ := hrel
      by_cases hlt : i < n
      · have hip : i < ps.length := by rw [← HN.out]; exact hlt
        have hml := midL_length k ps i (by omega)
        have hiq : i < (midL k ps i).length := by omega
        have hat := midL_at k ps i hip
        have hsq : SepL (midL k ps i) := fun a b ha hb hne g' hg' => by
          rw [midL_u0 k ps i (by omega) a (by omega)] at hg'
          rw [midL_u0 k ps i (by omega) b (by omega)]
          exact HSEP.out a b (by omega) (by omega) hne g' hg'
        have hset := midL_set k ps i hip
        rw [← hm.out] at hset
        have hts := cntLK_take ps i hip
        have htl := cntLK_le ps (i + 1)
        obtain ⟨P, hP⟩ : ∃ P, P = ps[i].d.vP.length := ⟨_, rfl⟩
        have HTS : Hid (cntLK (ps.take (i + 1)) = cntLK (ps.take i) + (4 + P)) := by show _ = _; rw [hP]; exact hts
        have hm2 : m + 4 + P ≤ 4294967296 := by have := hm.out; omega
        have hm1 : 1 ≤ m := by have := hm.out; omega
        have HMD : Hid (mkD m ps[i].d = ⟨markStr m, (m : Int) + 1, (m : Int) + 1 + 1, (m : Int) + 1 + 1 + 1, marksS (m + 4) P⟩) := by show _ = _; rw [hP]; rfl
        obtain ⟨p, hp⟩ : ∃ p, p = ps[i] := ⟨_, rfl⟩
        rw [← hp] at hat hset hP HMD
        obtain ⟨qs, hqs⟩ : ∃ q, q = midL k ps i := ⟨_, rfl⟩
        have hrow' : RowL lo wo (.slice (some ⟨g, 0, none⟩) n cap) qs := by rw [hqs]; exact hrow.out
        simp only [← hqs] at hsq hset hiq hat hml
        have hnq : n = qs.length := by rw [hml]; exact HN.out
        have HSET := hidden hset
        have HSQ := hidden hsq
        have HAT := hidden hat
        have HNQ := hidden hnq
        have HIQ := hidden hiq
        have HRW := hidden hrow'
        have HM1 := hidden (fun w1 => markText_c m w1 (by omega) (by omega))
        have hki : (i : Int) < (n : Int) := by omega
        have HPL := hidden hP
        clear hts htl hP hp hqs hsq hset hiq hat hml hnq hrow hrow' hip
        go_wp2_with fail
        go_at_call 141
        refine (HM1.out _).mono ?_
        rintro e w1 ⟨rfl, b1⟩
        have hr1 := HRW.out.below b1
        have r1 : w1.ownsRow lo 59 5 (.slice (some ⟨g, 0, none⟩) n cap) n (flatL qs) := by have h9 := hr1.1; rw [← HNQ.out] at h9; exact h9
        have f1 := r1.frozenAt
        have hfl := flatL_length qs
        have hin : i < qs.length := HIQ.out
        have hAT : qs[i] = p := by have h9 := HAT.out; rw [List.getElem?_eq_getElem hin] at h9; exact Option.some.inj h9
        have hc : ∀ j, j < 5 → w1.cell? ⟨g, i * 5 + j, none⟩ = (p.cells)[j]? := fun j hj => by
          rw [r1.cellAt _ (by have := HNQ.out; omega), flatL_at qs i hin j hj, hAT]
        have d0 : w1.cell? ⟨g, i * 5, none⟩ = some (.string p.d.name) := hc 0 (by omega)
        have d1 : w1.cell? ⟨g, i * 5 + 1, none⟩ = some (.int .i64 p.d.vA) := hc 1 (by omega)
        have d2 : w1.cell? ⟨g, i * 5 + 2, none⟩ = some (.int .i64 p.d.vB) := hc 2 (by omega)
        have d3 : w1.cell? ⟨g, i * 5 + 3, none⟩ = some (.int .i64 p.d.vC) := hc 3 (by omega)
        have d4 : w1.cell? ⟨g, i * 5 + 4, none⟩ = some p.u0 := hc 4 (by omega)
        have hmem : qs[i] ∈ qs := List.getElem_mem hin
        have s0 := r1.stored (i * 5 + 0) (.string (markStr m))
        have s1 := s0.1.stored (i * 5 + 1) (.int .i64 ((m : Int) + 1))
        have s2 := s1.1.stored (i * 5 + 2) (.int .i64 ((m : Int) + 1 + 1))
        have s3 := s2.1.stored (i * 5 + 3) (.int .i64 ((m : Int) + 1 + 1 + 1))
        have ua := own_put (j := i * 5 + 0) (x := .string (markStr m)) (hr1.2 _ hmem) r1 (by decide)
        have ub := own_put (j := i * 5 + 1) (x := .int .i64 ((m : Int) + 1)) ua s0.1 (by decide)
        have uc := own_put (j := i * 5 + 2) (x := .int .i64 ((m : Int) + 1 + 1)) ub s1.1 (by decide)
        have u1 := own_put (j := i * 5 + 3) (x := .int .i64 ((m : Int) + 1 + 1 + 1)) uc s2.1 (by decide)
        clear ua ub uc
        rw [hAT, ← HPL.out] at u1
        have hbW : Below lo w1 ((((w1.setCell ⟨g, i * 5 + 0, none⟩ (.string (markStr m))).setCell ⟨g, i * 5 + 1, none⟩ (.int .i64 ((m : Int) + 1))).setCell ⟨g, i * 5 + 2, none⟩ (.int .i64 ((m : Int) + 1 + 1))).setCell ⟨g, i * 5 + 3, none⟩ (.int .i64 ((m : Int) + 1 + 1 + 1))) := (((((Below.refl _ _).setCell hgl _).setCell hgl _).setCell hgl _).setCell hgl _)
        have hlw : lo ≤ wo.heap.size := Nat.le_trans hlo HBR.out.size
        have HBW : Hid (Below lo w ((((w1.setCell ⟨g, i * 5 + 0, none⟩ (.string (markStr m))).setCell ⟨g, i * 5 + 1, none⟩ (.int .i64 ((m : Int) + 1))).setCell ⟨g, i * 5 + 2, none⟩ (.int .i64 ((m : Int) + 1 + 1))).setCell ⟨g, i * 5 + 3, none⟩ (.int .i64 ((m : Int) + 1 + 1 + 1)))) := (HBR.out.trans (b1.mono hlw)).trans hbW
        have hUL : ∀ x, p.u0.ownBlock = some x → lo ≤ x := fun x hx => (u1.lt x hx).1
        have HMS := markStrs_c p.u0 lo P _ (m + 4) _ u1 (by omega) (by omega) (by omega) (by have h9 := HBW.out.size; omega)
        rw [show ((m + 4 : Nat) : Int) = (m : Int) + 1 + 1 + 1 + 1 by omega] at HMS
        obtain ⟨qu, cu, eu⟩ := owns_sliceP u1
        have HR1 := hidden hr1
        have HUL := hidden hUL
        have HU := hidden eu
        rw [eu] at HMS d4
        simp only [Nat.add_zero] at HMS HBW
        have HMS2 := hidden HMS
        clear r1 s0 s1 s2 s3 HMS hc u1 hr1 hbW hUL eu b1 HRW HM1 hmem hfl hAT hin hlw
        go_wp2_with fail
        go_at_call 142
        refine HMS2.out.mono ?_
        rintro e w2 ⟨rfl, y2, g2⟩
        have g3 := g2
        rw [← HU.out] at g3 y2
        have hR2 : RowL lo w2 (.slice (some ⟨g, 0, none⟩) n cap) (midL k ps (i + 1)) := by
          rw [← HSET.out]
          have hin := HIQ.out
          have hAT : qs[i] = p := by have h9 := HAT.out; rw [List.getElem?_eq_getElem hin] at h9; exact Option.some.inj h9
          refine RowL.mark HR1.out HNQ.out hin HSQ.out ⟨mkD m p.d, p.u0⟩ (by rw [hAT]) ?_ ?_
          · rw [hAT, HMD.out]
            simp only [Nat.add_zero]
            exact g3
          · show w2.ownsRow lo 9 1 p.u0 (mkD m p.d).vP.length (strsV (mkD m p.d).vP)
            rw [HMD.out]
            simp only [length_marksS]
            exact y2
        have HR4 := hidden hR2
        have HB4 : Hid (Below lo w w2) := HBW.out.grown g3 (Nat.le_trans hlo HBW.out.size) (fun x hx => HUL.out x hx)
        clear hR2 y2 g2 g3 HMS2 HBW d0 d1 d2 d3 d4
        go_wp2_with fail
        go_roundw
        case rel => exact ⟨i + 1, m + 4 + P, by omega, by go_num, by first | rfl | (simp; done) | (simp; omega), (by show _ = _; have := hm.out; have := HTS.out; omega), HR4, HB4⟩
        case measure => simp [intOf]; omega
      · have he : i = n := by omega
        subst he
        have hmm : m = k + cntLK ps := by have h9 := hm.out; rw [HN.out, List.take_length] at h9; exact h9
        have hrr : RowL lo wo (.slice (some ⟨g, 0, none⟩) i cap) (mkL k ps) := by
          have h9 := hrow.out
          rw [HN.out] at h9
          rw [HN.out]
          simpa [midL] using h9
        have HMM := hidden hmm
        have HRR := hidden hrr
        clear hmm hrr hrow hm
        go_wp2_with fail
        go_ret
        exact ⟨by rw [← HMM.out]; rfl, HRR.out, HBR.out⟩
end Go.Proofs.YtlfmefojcmpfeaaGreatDoor

/-! Marks looked for in a row of picks: a contract for the walks; conditions: the row holds them, and there are at most 2 to the 32 marks. -/
namespace Go.Proofs.YtlfmefojcmpfeaaGreatDoor
open Go.RowKit
set_option linter.unusedSimpArgs false
set_option linter.unusedVariables false

theorem mkL_at (ps : List LC) : ∀ (k i : Nat) (h : i < ps.length), (mkL k ps)[i]'(by rw [mkL_length]; exact h) = ⟨mkD (k + cntLK (ps.take i)) ps[i].d, ps[i].u0⟩ := by
  induction ps with
  | nil => intro k i h; simp at h
  | cons p r ih =>
    intro k i h
    cases i with
    | zero => simp [mkL, cntLK]
    | succ i =>
      have h' : i < r.length := by simpa using h
      simp only [mkL, List.getElem_cons_succ, List.take_succ_cons]
      rw [ih _ i h']
      have e : k + cntLK (p :: r.take i) = k + (4 + p.d.vP.length) + cntLK (r.take i) := by simp [cntLK]; omega
      rw [e]

set_option maxHeartbeats 8000000 in
set_option maxRecDepth 100000 in
theorem heldPickL_c (lo : Nat) (v : Value) (ps : List LC) (k : Nat) (w : World) (hv : RowL lo w v (mkL k ps)) (h1 : 1 ≤ k) (h2 : k + cntLK ps ≤ 4294967296) :
    Calls Tryz.prog 65 #[v, .int .i64 (k : Int)] w fun e w' => e = .returned (.int .i64 ((k + cntLK ps : Nat) : Int)) ∧ Below w.heap.size w w' := by
  have hv1 := hv.1
  rw [mkL_length] at hv1
  rcases id hv1.2 with ⟨rfl, hn0⟩ | ⟨g, cap, cur, rfl, hgl, hgb, hcap, hmax, _⟩
  · have hns : ps = [] := List.eq_nil_of_length_eq_zero hn0
    subst hns
    clear hv hv1
    go_enter Tryz.func65, Tryz.ntmps65
    go_wp2_with fail
    go_loopw [1, 5] (fun vk vi wr => vk = .int .i64 (k : Int) ∧ vi = .int .i64 0 ∧ wr = w) (fun _ _ _ => 0)
    case atStart => exact ⟨rfl, rfl, rfl⟩
    case round =>
      obtain ⟨rfl, rfl, rfl⟩ := hrel
      go_wp2_with fail
      go_ret
      exact ⟨by simp [cntLK], Below.refl _ _⟩
  · unfold maxLen at hmax
    have hglt : g < w.heap.size := (Array.getElem?_eq_some_iff.1 hgb).1
    obtain ⟨n, hn⟩ : ∃ n, n = ps.length := ⟨_, rfl⟩
    have HN := hidden hn
    rw [← hn] at hv1 hcap hv ⊢
    have HC : Hid (∀ i (h : i < ps.length), ∀ j, j < 5 → w.cell? ⟨g, i * 5 + j, none⟩ = ((⟨mkD (k + cntLK (ps.take i)) ps[i].d, ps[i].u0⟩ : LC).cells)[j]?) := fun i h j hj => by
      rw [hv1.cellAt _ (by rw [hn]; omega), flatL_at _ i (by rw [mkL_length]; exact h) j hj, mkL_at ps k i h]
    have HU : Hid (∀ i (h : i < ps.length), w.ownsRow lo 9 1 ps[i].u0 ps[i].d.vP.length (strsV (marksS (k + cntLK (ps.take i) + 4) ps[i].d.vP.length))) := fun i h => by
      have h9 := hv.2 _ (List.getElem_mem (show i < (mkL k ps).length by rw [mkL_length]; exact h))
      rw [mkL_at ps k i h] at h9
      simpa [mkD] using h9
    clear hgb hv hv1 hn
    go_enter Tryz.func65, Tryz.ntmps65
    go_wp2_with fail
    go_loopw [1, 5] (fun vk vi wr => ∃ (i m : Nat), i ≤ n ∧ vi = .int .i64 (i : Int) ∧ vk = .int .i64 (m : Int) ∧ Hid (m = k + cntLK (ps.take i)) ∧ Below w.heap.size w wr) (fun _ vi _ => n - (intOf vi).toNat)
    case atStart => exact ⟨0, k, Nat.zero_le _, rfl, rfl, by show _ = _; simp [cntLK], Below.refl _ _⟩
    case round =>
      obtain ⟨i, m, hi, rfl, rfl, hm, hbr⟩ := hrel
      by_cases hlt : i < n
      · have hip : i < ps.length := by rw [← HN.out]; exact hlt
        have hts := cntLK_take ps i hip
        have htl := cntLK_le ps (i + 1)
        have hc := HC.out i hip
        have hu := HU.out i hip
        rw [← hm.out] at hc hu
        obtain ⟨P, hP⟩ : ∃ P, P = ps[i].d.vP.length := ⟨_, rfl⟩
        rw [← hP] at hu
        have HTS : Hid (cntLK (ps.take (i + 1)) = cntLK (ps.take i) + (4 + P)) := by show _ = _; rw [hP]; exact hts
        have hm2 : m + 4 + P ≤ 4294967296 := by have := hm.out; omega
        have hm1 : 1 ≤ m := by have := hm.out; omega
        obtain ⟨u0, hu0⟩ : ∃ u, u = ps[i].u0 := ⟨_, rfl⟩
        rw [← hu0] at hu
        obtain ⟨M1, hM1⟩ : ∃ M, M = markStr m := ⟨_, rfl⟩
        have e0 : w.cell? ⟨g, i * 5, none⟩ = some (.string M1) := by rw [hM1]; exact hc 0 (by omega)
        have e1 : w.cell? ⟨g, i * 5 + 1, none⟩ = some (.int .i64 ((m : Int) + 1)) := hc 1 (by omega)
        have e2 : w.cell? ⟨g, i * 5 + 2, none⟩ = some (.int .i64 ((m : Int) + 1 + 1)) := hc 2 (by omega)
        have e3 : w.cell? ⟨g, i * 5 + 3, none⟩ = some (.int .i64 ((m : Int) + 1 + 1 + 1)) := hc 3 (by omega)
        have e4 : w.cell? ⟨g, i * 5 + 4, none⟩ = some u0 := by rw [hu0]; exact hc 4 (by omega)
        obtain ⟨qu, cu, eu⟩ := owns_sliceP hu
        rw [eu] at e4 hu
        have HM1 := hidden (fun w1 => markText_c m w1 (by omega) (by omega))
        rw [← hM1] at HM1
        have KEEP : Hid (∀ w1, Below wr.heap.size wr w1 → w1.cell? ⟨g, i * 5, none⟩ = some (.string M1)) := fun w1 h =>
          ((hbr.trans (h.mono hbr.size)).cell (p := ⟨g, _, none⟩) hglt).trans e0
        have KEEP4 : Hid (∀ w1, Below wr.heap.size wr w1 → w1.cell? ⟨g, i * 5 + 1, none⟩ = some (.int .i64 ((m : Int) + 1)) ∧ w1.cell? ⟨g, i * 5 + 2, none⟩ = some (.int .i64 ((m : Int) + 1 + 1)) ∧ w1.cell? ⟨g, i * 5 + 3, none⟩ = some (.int .i64 ((m : Int) + 1 + 1 + 1)) ∧ w1.cell? ⟨g, i * 5 + 4, none⟩ = some (.slice qu P cu)) := fun w1 h =>
          have hb := hbr.trans (h.mono hbr.size)
          ⟨(hb.cell (p := ⟨g, _, none⟩) hglt).trans e1, (hb.cell (p := ⟨g, _, none⟩) hglt).trans e2, (hb.cell (p := ⟨g, _, none⟩) hglt).trans e3, (hb.cell (p := ⟨g, _, none⟩) hglt).trans e4⟩
        have HHS : Hid (∀ w1, Below wr.heap.size wr w1 → Calls Tryz.prog 143 #[.slice qu P cu, .int .i64 ((m : Int) + 1 + 1 + 1 + 1)] w1 fun e w' => e = .returned (.int .i64 ((m : Int) + 1 + 1 + 1 + 1 + (P : Int))) ∧ Below w1.heap.size w1 w') := fun w1 h => by
          have h9 := heldStrs_c (.slice qu P cu) P (m + 4) w1 (reads_of_owns (owns_of_belowN hu (hbr.trans (h.mono hbr.size)))) (by omega) (by omega) (by omega)
          rw [show ((m + 4 : Nat) : Int) = (m : Int) + 1 + 1 + 1 + 1 by omega] at h9
          exact h9
        have hki : (i : Int) < (n : Int) := by omega
        have hng : ¬ (m : Int) + 1 + 1 + 1 + 1 + (P : Int) < 0 := by omega
        have h0 : Below wr.heap.size wr wr.drew := (Below.refl _ _).drew
        clear hts htl hc hu hP hu0 hM1 e0 e1 e2 e3 e4 eu hip
        go_wp2_with fail
        refine wp_region_held_drew (S := (fun w' => w'.cell? ⟨g, i * 5, none⟩ = some (.string M1))) (by kernel_rfl) ?SR10 (fun hHeld => ?_)
        case SR10 => (first | (with_reducible exact KEEP.out _ h1') | (with_reducible exact KEEP.out _ h0))
        refine wpAnyH_take (i := 0) (oi := _) (v := ?vR10) rfl (by kernel_rfl) (by kernel_rfl) (by kernel_rfl) (fun _ _ _ h => h) (Or.inl ⟨by rfl, ?yR10⟩) hHeld ?_
        case yR10 => (intro w hSw; (try dsimp only at hSw); go_simp <;> with_reducible rfl)
        try simp only [Act.put, List.getElem_toArray, List.getElem_cons_zero, List.getElem_cons_succ, List.setIfInBounds_toArray, List.set_cons_zero, List.set_cons_succ]
        refine wpAnyH_take (i := 1) (oi := _) (v := ?vR11) rfl (by kernel_rfl) (by kernel_rfl) (by kernel_rfl) (fun _ _ _ h => h) (Or.inl ⟨by rfl, ?yR11⟩) hHeld ?_
        case yR11 => (intro w hSw; (try dsimp only at hSw); go_simp <;> with_reducible rfl)
        try simp only [Act.put, List.getElem_toArray, List.getElem_cons_zero, List.getElem_cons_succ, List.setIfInBounds_toArray, List.set_cons_zero, List.set_cons_succ]
        refine wpAnyH_take (i := 2) (oi := _) (v := ?vR12) rfl (by kernel_rfl) (by kernel_rfl) (by kernel_rfl) (fun _ _ _ h => h) (Or.inl ⟨by rfl, ?yR12⟩) hHeld ?_
        case yR12 => (intro w hSw; (try dsimp only at hSw); go_simp <;> with_reducible rfl)
        try simp only [Act.put, List.getElem_toArray, List.getElem_cons_zero, List.getElem_cons_succ, List.setIfInBounds_toArray, List.set_cons_zero, List.set_cons_succ]
        refine wpAnyH_take (i := 3) (oi := _) (v := ?vR13) rfl (by kernel_rfl) (by kernel_rfl) (by kernel_rfl) (fun _ _ _ h => h) (Or.inl ⟨by rfl, ?yR13⟩) hHeld ?_
        case yR13 => (intro w hSw; (try dsimp only at hSw); go_simp <;> with_reducible rfl)
        try simp only [Act.put, List.getElem_toArray, List.getElem_cons_zero, List.getElem_cons_succ, List.setIfInBounds_toArray, List.set_cons_zero, List.set_cons_succ]
        refine wpAnyH_take (i := 4) (oi := _) (v := ?vR14) rfl (by kernel_rfl) (by kernel_rfl) (by kernel_rfl) (fun _ _ _ h => h) (Or.inl ⟨by rfl, ?yR14⟩) hHeld ?_
        case yR14 => (intro w hSw; (try dsimp only at hSw); go_simp <;> with_reducible rfl)
        try simp only [Act.put, List.getElem_toArray, List.getElem_cons_zero, List.getElem_cons_succ, List.setIfInBounds_toArray, List.set_cons_zero, List.set_cons_succ]
        refine wpAnyH_take (i := 5) (oi := _) (v := ?vR15) rfl (by kernel_rfl) (by kernel_rfl) (by kernel_rfl) (fun _ _ _ h => h) (Or.inl ⟨by rfl, ?yR15⟩) hHeld ?_
        case yR15 => (intro w hSw; (try dsimp only at hSw); go_simp <;> with_reducible rfl)
        try simp only [Act.put, List.getElem_toArray, List.getElem_cons_zero, List.getElem_cons_succ, List.setIfInBounds_toArray, List.set_cons_zero, List.set_cons_succ]
        refine wpAnyH_ready (rs := [6]) (by kernel_rfl) (by simp) ?_
        refine AllReadyH.cons rfl (fun K hK => ?_) AllReadyH.nil
        go_simp
        go_wp2_with (go_at_call 141; refine (HM1.out _).mono ?_; rintro e w1 ⟨rfl, b1⟩; have h1' : Below wr.heap.size wr w1 := h0.trans (b1.mono h0.size))
        clear hHeld
        refine hK.out _ _ ?SR17 (fun hHeld => ?_)
        case SR17 => ((try dsimp only); first | (with_reducible exact KEEP.out _ h1') | (with_reducible exact KEEP.out _ h0))
        clear hK K
        refine wpAnyH_take (i := 7) (oi := _) (v := ?vR17) rfl (by kernel_rfl) (by kernel_rfl) (by kernel_rfl) (fun _ _ _ h => h) (Or.inl ⟨by rfl, ?yR17⟩) hHeld ?_
        case yR17 => (intro w hSw; (try dsimp only at hSw); go_simp <;> with_reducible rfl)
        try simp only [Act.put, List.getElem_toArray, List.getElem_cons_zero, List.getElem_cons_succ, List.setIfInBounds_toArray, List.set_cons_zero, List.set_cons_succ]
        refine wpAnyH_done (by kernel_rfl) ?_ _
        obtain ⟨c1, c2, c3, c4⟩ := KEEP4.out _ h1'
        clear KEEP KEEP4 HM1
        go_wp2_with fail
        go_at_call 143
        refine (HHS.out _ h1').mono ?_
        rintro e w2 ⟨rfl, b2⟩
        go_wp2_with fail
        go_roundw
        case rel => exact ⟨i + 1, m + 4 + P, by omega, by go_num, by first | rfl | (simp; done) | (simp; omega), (by show _ = _; have := hm.out; have := HTS.out; omega), hbr.trans ((h1'.trans (b2.mono h1'.size)).mono hbr.size)⟩
        case measure => simp [intOf]; omega
      · have he : i = n := by omega
        subst he
        have hmm : m = k + cntLK ps := by have h9 := hm.out; rw [HN.out, List.take_length] at h9; exact h9
        have HMM := hidden hmm
        clear hmm hm HC HU
        go_wp2_with fail
        go_ret
        exact ⟨by rw [← HMM.out]; rfl, hbr⟩
end Go.Proofs.YtlfmefojcmpfeaaGreatDoor

/-! What is the same is told so by the law's own comparison: contracts for what lies in memory and holds at most 2 to the 20. -/
namespace Go.Proofs.YtlfmefojcmpfeaaGreatDoor
open Go.RowKit
set_option linter.unusedSimpArgs false
set_option linter.unusedVariables false

set_option maxHeartbeats 2000000 in
set_option maxRecDepth 100000 in
theorem eqPick_c (S S' : Nat → Prop) (d : PickD) (cs cs' : List Value) (w : World) (hd : shPick.lies S w cs d) (hd' : shPick.lies S' w cs' d) (hB : ∀ b, S b → b < w.heap.size) (hB' : ∀ b, S' b → b < w.heap.size) (hw : wtPick d ≤ 1048576) :
    Calls Tryz.prog 138 #[.agg cs.toArray, .agg cs'.toArray] w fun e w' => e = .returned (.bool true) ∧ Below w.heap.size w w' := by
  obtain ⟨xu0, rfl, xs_name, xr0, xp0⟩ := hd
  obtain ⟨yu0, rfl, ys_name, yr0, yp0⟩ := hd'
  have hb2 : ∀ A R, Below w.heap.size w ((w.alloc A).alloc R) := fun A R => ((Below.refl _ _).alloc (Nat.le_refl _) _).alloc (by simp) _
  unfold wtPick at hw
  have HS0 : Hid (∀ w1, Below w.heap.size w w1 → Calls Tryz.prog 205 #[.agg #[.int .i64 d.vA, .int .i64 d.vB, .int .i64 d.vC, xu0], .agg #[.int .i64 d.vA, .int .i64 d.vB, .int .i64 d.vC, yu0]] w1 fun e w' => e = .returned (.bool true) ∧ Below w1.heap.size w1 w') := fun w1 hb =>
    eqVer_c _ _ _ xu0 yu0 d.vP w1 ((xr0.keep (.of hb hB)).reads (fun b h => Nat.lt_of_lt_of_le (hB b h) hb.size)) ((yr0.keep (.of hb hB')).reads (fun b h => Nat.lt_of_lt_of_le (hB' b h) hb.size)) (by unfold bulkS at hw; omega)
  obtain ⟨xa0, xc0, xe0, _⟩ := id xr0
  rw [length_strsV] at xe0
  subst xe0
  clear xr0
  obtain ⟨ya0, yc0, ye0, _⟩ := id yr0
  rw [length_strsV] at ye0
  subst ye0
  clear yr0
  go_enter Tryz.func138, Tryz.ntmps138
  go_wp2_with fail
  go_at_call 205
  refine (HS0.out _ (hb2 _ _)).mono ?_
  rintro e w1 ⟨rfl, b1⟩
  obtain ⟨hA1, hR1⟩ := boxTwo b1
  have k1 : Below w.heap.size w w1 := (hb2 _ _).trans (b1.mono (hb2 _ _).size)
  go_wp2_with fail
  go_ret
  exact ⟨rfl, k1⟩

set_option maxHeartbeats 2000000 in
set_option maxRecDepth 100000 in
theorem eqPickS_c (S S' : Nat → Prop) (v u : Value) (xs : List PickD) (w : World) (hv : RowIn shPick S w v xs) (hv' : RowIn shPick S' w u xs) (hB : ∀ b, S b → b < w.heap.size) (hB' : ∀ b, S' b → b < w.heap.size) (hw : wtRow wtPick xs ≤ 1048576) :
    Calls Tryz.prog 59 #[v, u] w fun e w' => e = .returned (.bool true) ∧ Below w.heap.size w w' := by
  obtain ⟨a, cap, rfl, hl, hc, ha⟩ := hv
  obtain ⟨a', cap', rfl, _, hc', ha'⟩ := hv'
  unfold maxLen at hl
  go_enter Tryz.func59, Tryz.ntmps59
  go_wp2_with fail
  go_loopw [5] (fun vi wr => ∃ k : Nat, k ≤ xs.length ∧ vi = .int .i64 (k : Int) ∧ Below w.heap.size w wr) (fun vi _ => xs.length - (intOf vi).toNat)
  case atStart => exact ⟨0, Nat.zero_le _, rfl, Below.refl _ _⟩
  case round =>
    obtain ⟨k, hk, rfl, hbr⟩ := hrel
    by_cases hlt' : k < xs.length
    · rcases ha with rfl | ⟨b, off, rfl, hlt, ha⟩
      · simp at hlt'
      rcases ha' with rfl | ⟨b', off', rfl, hlt3, ha'⟩
      · simp at hlt'
      obtain ⟨cs, hL, hcell⟩ := ha k hlt'
      obtain ⟨cs', hL', hcell'⟩ := ha' k hlt'
      have hwt : wtPick xs[k] ≤ 1048576 := by have := wt_wtRow wtPick (List.getElem_mem hlt'); omega
      have HC := eqPick_c S S' xs[k] cs cs' wr.drew (shPick.keep (.of hbr.drew hB) hL) (shPick.keep (.of hbr.drew hB') hL') (fun b h => Nat.lt_of_lt_of_le (hB b h) hbr.size) (fun b h => Nat.lt_of_lt_of_le (hB' b h) hbr.size) hwt
      replace hL := shPick.keep (.of hbr hB) hL
      replace hL' := shPick.keep (.of hbr hB') hL'
      replace hcell := hcell.keep (.of hbr hB) hlt
      replace hcell' := hcell'.keep (.of hbr hB') hlt3
      obtain ⟨d, hd⟩ : ∃ d, d = xs[k] := ⟨_, rfl⟩
      rw [← hd] at hL hL' hwt
      clear ha ha' hd
      obtain ⟨xu0, rfl, xs_name, xr0, xp0⟩ := hL
      obtain ⟨yu0, rfl, ys_name, yr0, yp0⟩ := hL'
      clear xs_name xp0 ys_name yp0
      obtain ⟨xa0, xc0, xe0, _⟩ := id xr0
      rw [length_strsV] at xe0
      subst xe0
      clear xr0
      have xv0 : wr.cell? ⟨b, off + k * 5, none⟩ = some (.string d.name) := hcell 0 (by simp)
      have xv1 : wr.cell? ⟨b, off + k * 5 + 1, none⟩ = some (.int .i64 d.vA) := hcell 1 (by simp)
      have xv2 : wr.cell? ⟨b, off + k * 5 + 2, none⟩ = some (.int .i64 d.vB) := hcell 2 (by simp)
      have xv3 : wr.cell? ⟨b, off + k * 5 + 3, none⟩ = some (.int .i64 d.vC) := hcell 3 (by simp)
      have xv4 : wr.cell? ⟨b, off + k * 5 + 4, none⟩ = some (.slice xa0 d.vP.length xc0) := hcell 4 (by simp)
      obtain ⟨ya0, yc0, ye0, _⟩ := id yr0
      rw [length_strsV] at ye0
      subst ye0
      clear yr0
      have yv0 : wr.cell? ⟨b', off' + k * 5, none⟩ = some (.string d.name) := hcell' 0 (by simp)
      have yv1 : wr.cell? ⟨b', off' + k * 5 + 1, none⟩ = some (.int .i64 d.vA) := hcell' 1 (by simp)
      have yv2 : wr.cell? ⟨b', off' + k * 5 + 2, none⟩ = some (.int .i64 d.vB) := hcell' 2 (by simp)
      have yv3 : wr.cell? ⟨b', off' + k * 5 + 3, none⟩ = some (.int .i64 d.vC) := hcell' 3 (by simp)
      have yv4 : wr.cell? ⟨b', off' + k * 5 + 4, none⟩ = some (.slice ya0 d.vP.length yc0) := hcell' 4 (by simp)
      have HC2 := hidden HC
      have hki : (k : Int) < (xs.length : Int) := by omega
      clear hcell hcell' HC hwt
      go_wp2_with fail
      go_region_with (go_at_call 138; refine HC2.out.mono ?_; rintro e w2 ⟨rfl, hb2⟩)
      all_goals go_wp2_with fail
      all_goals go_roundw
      all_goals first
        | exact ⟨k + 1, by omega, by go_num, hbr.drew.trans (hb2.mono hbr.size)⟩
        | (simp [intOf]; omega)
    · have he : k = xs.length := by omega
      subst he
      clear ha ha'
      go_wp2_with fail
      go_ret
      exact ⟨rfl, hbr⟩

end Go.Proofs.YtlfmefojcmpfeaaGreatDoor

/-! The law on ParseLock, walked: whatever text comes in, the program and the specification read alike, no answer shares memory with another; condition: the variable of the library that names the type of errors holds it. -/
namespace Go.Proofs.YtlfmefojcmpfeaaGreatDoor
open Go.RowKit
set_option linter.unusedSimpArgs false
set_option linter.unusedVariables false

theorem lockGo_picks : ∀ (L : List ByteArray) (acc ps : List PickD), picksB acc = true → lockGo L acc = some ps → picksB ps = true
  | [], acc, ps, h, e => by first | (simp [lockGo] at e; done) | (simp [lockGo] at e; subst e; exact h)
  | [l], acc, ps, h, e => by
    rw [lockGo_last] at e
    split at e
    · cases e; exact h
    · cases e
  | l :: l2 :: r, acc, ps, h, e => by
    rw [lockGo_more (by simp)] at e
    split at e
    · cases e
    · split at e
      · rename_i h2; exact lockGo_picks _ _ _ h2 e
      · cases e
theorem lockR_picks (s : ByteArray) : picksB ((lockR s).getD []) = true := by
  cases h : lockR s with
  | none => rfl
  | some ps => exact lockGo_picks _ _ _ (by rfl) h
theorem sum_leP (l : List Nat) (k : Nat) (h : ∀ x ∈ l, x ≤ k) : l.sum ≤ l.length * k := by
  induction l with
  | nil => simp
  | cons a r ih =>
    have h1 := h a (by simp)
    have h2 := ih (fun x hx => h x (by simp [hx]))
    simp only [List.sum_cons, List.length_cons]
    have e : (r.length + 1) * k = r.length * k + k := by rw [Nat.add_mul, Nat.one_mul]
    omega
theorem pickB_small {d : PickD} (h : pickB d = true) : wtPick d ≤ 37 ∧ d.vP.length ≤ 3 := by
  simp only [pickB, nameB, verB, Bool.and_eq_true, parts_all, inB, decide_eq_true_eq] at h
  obtain ⟨⟨_, _, h1⟩, ⟨⟨⟨h2, _⟩, _⟩, _⟩, h3⟩ := h
  have h4 : (d.vP.map ByteArray.size).sum ≤ d.vP.length * 8 := by
    have h9 := sum_leP (d.vP.map ByteArray.size) 8 (fun x hx => by
      obtain ⟨y, hy, rfl⟩ := List.mem_map.1 hx
      have h8 := List.all_eq_true.1 h2 y hy
      simp only [partB, Bool.and_eq_true, inB, decide_eq_true_eq] at h8
      omega)
    simpa using h9
  refine ⟨?_, h3⟩
  unfold wtPick bulkS
  omega
theorem picks_small {l : List PickD} (h : picksB l = true) : wtRow wtPick l ≤ 456 ∧ (l.map fun d => 4 + d.vP.length).sum ≤ 84 := by
  unfold picksB at h
  rw [rowB_split] at h
  simp only [Bool.and_eq_true, decide_eq_true_eq] at h
  obtain ⟨⟨h1, _⟩, h2⟩ := h
  have ha := List.all_eq_true.1 h1
  have h3 := sum_leP (l.map fun x => 1 + wtPick x) 38 (fun x hx => by
    obtain ⟨y, hy, rfl⟩ := List.mem_map.1 hx
    have := (pickB_small (ha y hy)).1
    omega)
  have h4 := sum_leP (l.map fun d => 4 + d.vP.length) 7 (fun x hx => by
    obtain ⟨y, hy, rfl⟩ := List.mem_map.1 hx
    have := (pickB_small (ha y hy)).2
    omega)
  rw [List.length_map] at h3 h4
  refine ⟨?_, by omega⟩
  unfold wtRow
  omega
theorem cntLK_map (ps : List LC) : cntLK ps = ((ps.map LC.d).map fun d => 4 + d.vP.length).sum := by simp [cntLK, List.map_map, Function.comp_def]

end Go.Proofs.YtlfmefojcmpfeaaGreatDoor

/-! Whether a lock is stale, of both sides: contracts for the walks; conditions: what comes in lies in memory, its numbers fit into an int, the tables hold what they are laid with, and the library names the type of errors. -/
namespace Go.Proofs.YtlfmefojcmpfeaaGreatDoor
open Go.RowKit
set_option linter.unusedSimpArgs false
set_option linter.unusedVariables false

def staleB (r : List EntryD) (xs : List PackD) (s : ByteArray) : Bool := !(lockR s).isSome || !solB r (allN xs) ((lockR s).getD [])
theorem pickB_wf {d : PickD} (h : pickB d = true) : wfP d := by
  simp only [pickB, nameB, verB, Bool.and_eq_true, inB, decide_eq_true_eq] at h
  obtain ⟨_, ⟨⟨⟨_, h1⟩, h2⟩, h3⟩, _⟩ := h
  have hmin : IntKind.i64.min = -9223372036854775808 := by decide
  have hmax : IntKind.i64.max = 9223372036854775807 := by decide
  refine ⟨?_, ?_, ?_⟩ <;> (simp only [Lit.wf, hmin, hmax, Bool.and_eq_true, decide_eq_true_eq]; omega)
theorem picks_wf {l : List PickD} (h : picksB l = true) : ∀ d ∈ l, wfP d := fun d hd => by
  unfold picksB at h
  rw [rowB_split] at h
  simp only [Bool.and_eq_true] at h
  exact pickB_wf (List.all_eq_true.1 h.1.1 d hd)

set_option maxHeartbeats 8000000 in
set_option maxRecDepth 100000 in
theorem implStale_c (Sr Sl : Nat → Prop) (rv lv : Value) (r : List EntryD) (xs : List PackD) (s : ByteArray) (w : World) (hr : RowIn shEntry Sr w rv r) (hl : RowIn shPack Sl w lv xs)
    (hBr : ∀ b, Sr b → b < w.heap.size) (hBl : ∀ b, Sl b → b < w.heap.size) (hwr : wtRow wtEntry r ≤ 1048576) (hwl : wtRow wtPack xs ≤ 1048576) (hs : s.size ≤ 1048576) (hfr : ∀ d ∈ r, wfE d) (hg : ErrT w) (hT : Tabs w) (htab : Lib.TabIs Tryz.prog w "internal/strconv.uint64pow10" .u64 Lib.pow10Tab) :
    Calls Tryz.prog 53 #[rv, lv, .string s] w fun e w' => e = .returned (.bool (staleB r xs s)) ∧ Below w.heap.size w w' := by
  obtain ⟨hw1, _⟩ := picks_small (lockR_picks s)
  have hwf := picks_wf (lockR_picks s)
  obtain ⟨z1, z2, z3⟩ := need_sizes hwl
  have HL := implLock_c s hs w hg
  unfold staleB
  obtain ⟨R, hR⟩ : ∃ R, R = (lockR s).getD [] := ⟨_, rfl⟩
  obtain ⟨ok, hok⟩ : ∃ ok, ok = (lockR s).isSome := ⟨_, rfl⟩
  simp only [← hR, ← hok] at HL hw1 hwf ⊢
  clear hR hok
  have HW : Hid (∀ w1, Below w.heap.size w w1 → Calls Tryz.prog 131 #[lv] w1 fun e w' => ∃ u', e = .returned u' ∧ RowOwn shNeed 39 (Ow w1.heap.size w'.heap.size) w' u' (allN xs) ∧ Below w1.heap.size w1 w') := fun w1 h =>
    (implWanted_c Sl lv xs w1 (hl.keep (.of h hBl)) (fun b hb => Nat.lt_of_lt_of_le (hBl b hb) h.size) hwl).mono fun e w' ⟨u', h1, h2, h3⟩ => ⟨u', h1, needs_own h2 z1 z2, h3⟩
  have HS : Hid (∀ W lo hi lo' hi' u v, Below w.heap.size w W → RowOwn shNeed 39 (Ow lo hi) W u (allN xs) → hi ≤ W.heap.size → RowOwn shPickO 59 (Ow lo' hi') W v R → hi' ≤ W.heap.size → Calls Tryz.prog 35 #[rv, u, v] W fun e w' => e = .returned (.bool (solB r (allN xs) R)) ∧ Below W.heap.size W w') := fun W lo hi lo' hi' u v h h1 h2 h3 h4 =>
    implSolves_c Sr (Ow lo hi) (Ow lo' hi') rv u v r (allN xs) R W (hr.keep (.of h hBr)) h1.plain (RowIn.as (sh := shPickO) (sh' := shPick) rfl (fun S w cs x h => liesPick_plain h) h3.plain) (fun b hb => Nat.lt_of_lt_of_le (hBr b hb) h.size) (fun b hb => Nat.lt_of_lt_of_le hb.2 h2) (fun b hb => Nat.lt_of_lt_of_le hb.2 h4) hwr z3 (by omega) hfr hwf (hT.below h) (tabIs_below h htab)
  have HL2 := hidden HL
  obtain ⟨B, hB⟩ : ∃ B, B = solB r (allN xs) R := ⟨_, rfl⟩
  rw [← hB] at HS ⊢
  clear HL hr hl hBr hBl hwr hwl hw1 hwf z1 z2 z3 hB
  go_enter Tryz.func53, Tryz.ntmps53
  go_wp2_with fail
  go_at_call 46
  refine HL2.out.mono ?_
  rintro e w1 ⟨q, c, rfl, o1, b1⟩
  cases ok with
  | false =>
    go_wp2_with fail
    go_ret
    exact ⟨by simp, b1⟩
  | true =>
    go_wp2_with fail
    go_at_call 131
    refine (HW.out _ b1).mono ?_
    rintro e w2 ⟨u2, rfl, o2, b2⟩
    have k2 : Below w.heap.size w w2 := b1.trans (b2.mono b1.size)
    have o1b := o1.keep (.of b2 (fun b hb => hb.2))
    have z2 := b2.size
    go_wp2_with fail
    go_at_call 35
    refine (HS.out _ _ _ _ _ _ _ k2 o2 (Nat.le_refl _) o1b z2).mono ?_
    rintro e w3 ⟨rfl, b3⟩
    go_wp2_with fail
    go_ret
    exact ⟨by simp, k2.trans (b3.mono k2.size)⟩

set_option maxHeartbeats 8000000 in
set_option maxRecDepth 100000 in
theorem specStale_c (Sr Sl : Nat → Prop) (rv lv : Value) (r : List EntryD) (xs : List PackD) (s : ByteArray) (w : World) (hr : RowIn shEntryO Sr w rv r) (hl : RowIn shPackO Sl w lv xs)
    (hBr : ∀ b, Sr b → b < w.heap.size) (hBl : ∀ b, Sl b → b < w.heap.size) (hwr : wtRow wtEntry r ≤ 1048576) (hwl : wtRow wtPack xs ≤ 1048576) (hs : s.size ≤ 1048576) :
    Calls Tryz.prog 54 #[rv, lv, .string s] w fun e w' => e = .returned (.bool (staleB r xs s)) ∧ Below w.heap.size w w' := by
  obtain ⟨hw1, _⟩ := picks_small (lockR_picks s)
  have hwf := picks_wf (lockR_picks s)
  obtain ⟨z1, z2, z3⟩ := need_sizes hwl
  have HL := specLock_c s hs w
  unfold staleB
  obtain ⟨R, hR⟩ : ∃ R, R = (lockR s).getD [] := ⟨_, rfl⟩
  obtain ⟨ok, hok⟩ : ∃ ok, ok = (lockR s).isSome := ⟨_, rfl⟩
  simp only [← hR, ← hok] at HL hw1 hwf ⊢
  clear hR hok
  have HW : Hid (∀ w1, Below w.heap.size w w1 → Calls Tryz.prog 132 #[lv] w1 fun e w' => ∃ u', e = .returned u' ∧ RowOwn shNeed 39 (Ow w1.heap.size w'.heap.size) w' u' (allN xs) ∧ Below w1.heap.size w1 w') := fun w1 h =>
    (specWanted_c Sl lv xs w1 (hl.keep (.of h hBl)) (fun b hb => Nat.lt_of_lt_of_le (hBl b hb) h.size) hwl).mono fun e w' ⟨u', h1, h2, h3⟩ => ⟨u', h1, needs_own h2 z1 z2, h3⟩
  have HS : Hid (∀ W lo hi lo' hi' u v, Below w.heap.size w W → RowOwn shNeed 39 (Ow lo hi) W u (allN xs) → hi ≤ W.heap.size → RowOwn shPickO 59 (Ow lo' hi') W v R → hi' ≤ W.heap.size → Calls Tryz.prog 42 #[rv, u, v] W fun e w' => e = .returned (.bool (solB r (allN xs) R)) ∧ Below W.heap.size W w') := fun W lo hi lo' hi' u v h h1 h2 h3 h4 =>
    specSolves_c Sr (Ow lo hi) (Ow lo' hi') rv u v r (allN xs) R W (hr.keep (.of h hBr)) h1.plain h3.plain (fun b hb => Nat.lt_of_lt_of_le (hBr b hb) h.size) (fun b hb => Nat.lt_of_lt_of_le hb.2 h2) (fun b hb => Nat.lt_of_lt_of_le hb.2 h4) hwr z3 (by omega)
  have HL2 := hidden HL
  obtain ⟨B, hB⟩ : ∃ B, B = solB r (allN xs) R := ⟨_, rfl⟩
  rw [← hB] at HS ⊢
  clear HL hr hl hBr hBl hwr hwl hw1 hwf z1 z2 z3 hB
  go_enter Tryz.func54, Tryz.ntmps54
  go_wp2_with fail
  go_at_call 47
  refine HL2.out.mono ?_
  rintro e w1 ⟨q, c, rfl, o1, b1⟩
  cases ok with
  | false =>
    go_wp2_with fail
    go_ret
    exact ⟨by simp, b1⟩
  | true =>
    go_wp2_with fail
    go_at_call 132
    refine (HW.out _ b1).mono ?_
    rintro e w2 ⟨u2, rfl, o2, b2⟩
    have k2 : Below w.heap.size w w2 := b1.trans (b2.mono b1.size)
    have o1b := o1.keep (.of b2 (fun b hb => hb.2))
    have z2 := b2.size
    go_wp2_with fail
    go_at_call 42
    refine (HS.out _ _ _ _ _ _ _ k2 o2 (Nat.le_refl _) o1b z2).mono ?_
    rintro e w3 ⟨rfl, b3⟩
    go_wp2_with fail
    go_ret
    exact ⟨by simp, k2.trans (b3.mono k2.size)⟩

end Go.Proofs.YtlfmefojcmpfeaaGreatDoor

/-! How much they hold, as the law counts it: contracts for the walks; conditions: at most 2 to the 20 is left to count. -/
namespace Go.Proofs.YtlfmefojcmpfeaaGreatDoor
open Go.RowKit
set_option linter.unusedSimpArgs false
set_option linter.unusedVariables false

set_option maxHeartbeats 2000000 in
set_option maxRecDepth 100000 in
theorem szEntry_c (S : Nat → Prop) (d : EntryD) (cs : List Value) (left : Int) (h0 : 0 ≤ left) (h1 : left ≤ 1048576) (w : World) (hd : shEntry.lies S w cs d) (hB : ∀ b, S b → b < w.heap.size) :
    Calls Tryz.prog 134 #[.agg cs.toArray, .int .i64 left] w fun e w' => e = .returned (.int .i64 (leftW (wtEntry d) left)) ∧ Below w.heap.size w w' := by
  obtain ⟨u0, u1, rfl, s_name, r0, p0, r1⟩ := hd
  unfold maxLen at s_name
  have hbx : ∀ o, Below w.heap.size w (w.alloc o) := fun o => (Below.refl _ _).alloc (Nat.le_refl _) _
  obtain ⟨R, hR⟩ : ∃ R, R = leftW (wtEntry d) left := ⟨_, rfl⟩
  rw [← hR]
  obtain ⟨q0, hq0⟩ : ∃ q, q = leftW (bulkS d.vP) (left - (d.name.size : Int)) := ⟨_, rfl⟩
  obtain ⟨q1, hq1⟩ : ∃ q, q = leftW (wtRow wtNeed d.needs) q0 := ⟨_, rfl⟩
  have HS0 : Hid (0 ≤ (left - (d.name.size : Int)) → (left - (d.name.size : Int)) ≤ 1048576 → ∀ w1, Below w.heap.size w w1 → Calls Tryz.prog 203 #[.agg #[.int .i64 d.vA, .int .i64 d.vB, .int .i64 d.vC, u0], .int .i64 (left - (d.name.size : Int))] w1 fun e w' => e = .returned (.int .i64 q0) ∧ Below w1.heap.size w1 w') := fun a b w1 hb => by
    rw [hq0]; exact szVer_c _ _ _ u0 d.vP _ a b w1 ((r0.keep (.of hb hB)).reads (fun b h => Nat.lt_of_lt_of_le (hB b h) hb.size)) p0
  have HS1 : Hid (0 ≤ q0 → q0 ≤ 1048576 → ∀ w1, Below w.heap.size w w1 → Calls Tryz.prog 56 #[u1, .int .i64 q0] w1 fun e w' => e = .returned (.int .i64 q1) ∧ Below w1.heap.size w1 w') := fun a b w1 hb => by
    rw [hq1]; exact szNeedS_c S u1 d.needs _ a b w1 (r1.keep (.of hb hB)) (fun b h => Nat.lt_of_lt_of_le (hB b h) hb.size)
  obtain ⟨a0, cap0, eu0, _⟩ := id r0
  rw [length_strsV] at eu0
  subst eu0
  clear r0
  obtain ⟨a1, cap1, eu1, _⟩ := id r1
  subst eu1
  clear r1
  have lt := lw (wtEntry d) left
  have l0 := lw (bulkS d.vP) (left - (d.name.size : Int))
  rw [← hq0] at l0
  have l1 := lw (wtRow wtNeed d.needs) q0
  rw [← hq1] at l1
  rw [← hR] at lt
  unfold wtEntry at lt
  clear hq0 hq1 hR
  by_cases n0 : (left - (d.name.size : Int)) < 0
  · have HR : Hid (R = -1) := by show _ = _; omega
    clear lt l0 l1
    clear HS0
    clear HS1
    go_enter Tryz.func134, Tryz.ntmps134
    go_wp2_with fail
    go_ret
    exact ⟨by rw [HR.out]; rfl, (hbx _)⟩
  by_cases n1 : q0 < 0
  · have HR : Hid (R = -1) := by show _ = _; omega
    have g0a : 0 ≤ (left - (d.name.size : Int)) := by omega
    have g0b : (left - (d.name.size : Int)) ≤ 1048576 := by omega
    have HC0 := HS0.out g0a g0b
    have HD0 := hidden HC0
    clear HC0
    clear lt l0 l1
    clear HS0
    clear HS1
    go_enter Tryz.func134, Tryz.ntmps134
    go_wp2_with fail
    go_at_call 203
    refine (HD0.out _ (hbx _)).mono ?_
    rintro e w1 ⟨rfl, b1⟩
    have k1 : Below w.heap.size w w1 := ((hbx _)).trans (b1.mono (by first | exact ((hbx _)).size | (simp; omega)))
    have hx1 := boxAt b1
    have x0 := vblk_cell hx1 0
    have x1 := vblk_cell hx1 1
    have x2 := vblk_cell hx1 2
    have x3 := vblk_cell hx1 3
    have x4 := vblk_cell hx1 4
    have x5 := vblk_cell hx1 5
    simp only [List.getElem?_toArray, List.getElem?_cons_succ, List.getElem?_cons_zero] at x0 x1 x2 x3 x4 x5
    go_wp2_with fail
    go_ret
    exact ⟨by rw [HR.out]; rfl, k1⟩
  by_cases n2 : q1 < 0
  · have HR : Hid (R = -1) := by show _ = _; omega
    have g0a : 0 ≤ (left - (d.name.size : Int)) := by omega
    have g0b : (left - (d.name.size : Int)) ≤ 1048576 := by omega
    have g1a : 0 ≤ q0 := by omega
    have g1b : q0 ≤ 1048576 := by omega
    have HC0 := HS0.out g0a g0b
    have HD0 := hidden HC0
    clear HC0
    have HC1 := HS1.out g1a g1b
    have HD1 := hidden HC1
    clear HC1
    clear lt l0 l1
    clear HS0
    clear HS1
    go_enter Tryz.func134, Tryz.ntmps134
    go_wp2_with fail
    go_at_call 203
    refine (HD0.out _ (hbx _)).mono ?_
    rintro e w1 ⟨rfl, b1⟩
    have k1 : Below w.heap.size w w1 := ((hbx _)).trans (b1.mono (by first | exact ((hbx _)).size | (simp; omega)))
    have hx1 := boxAt b1
    have x0 := vblk_cell hx1 0
    have x1 := vblk_cell hx1 1
    have x2 := vblk_cell hx1 2
    have x3 := vblk_cell hx1 3
    have x4 := vblk_cell hx1 4
    have x5 := vblk_cell hx1 5
    simp only [List.getElem?_toArray, List.getElem?_cons_succ, List.getElem?_cons_zero] at x0 x1 x2 x3 x4 x5
    go_wp2_with fail
    go_at_call 56
    refine (HD1.out _ k1).mono ?_
    rintro e w2 ⟨rfl, b2⟩
    have k2 : Below w.heap.size w w2 := (k1).trans (b2.mono (by first | exact (k1).size | (simp; omega)))
    have hx2 := (b2.block _ (Array.getElem?_eq_some_iff.1 hx1).1).trans hx1
    have x0 := vblk_cell hx2 0
    have x1 := vblk_cell hx2 1
    have x2 := vblk_cell hx2 2
    have x3 := vblk_cell hx2 3
    have x4 := vblk_cell hx2 4
    have x5 := vblk_cell hx2 5
    simp only [List.getElem?_toArray, List.getElem?_cons_succ, List.getElem?_cons_zero] at x0 x1 x2 x3 x4 x5
    go_wp2_with fail
    go_ret
    exact ⟨by rw [HR.out]; rfl, k2⟩
  have HR : Hid (R = q1) := by show _ = _; omega
  have g0a : 0 ≤ (left - (d.name.size : Int)) := by omega
  have g0b : (left - (d.name.size : Int)) ≤ 1048576 := by omega
  have g1a : 0 ≤ q0 := by omega
  have g1b : q0 ≤ 1048576 := by omega
  have HC0 := HS0.out g0a g0b
  have HD0 := hidden HC0
  clear HC0
  have HC1 := HS1.out g1a g1b
  have HD1 := hidden HC1
  clear HC1
  clear lt l0 l1
  clear HS0
  clear HS1
  go_enter Tryz.func134, Tryz.ntmps134
  go_wp2_with fail
  go_at_call 203
  refine (HD0.out _ (hbx _)).mono ?_
  rintro e w1 ⟨rfl, b1⟩
  have k1 : Below w.heap.size w w1 := ((hbx _)).trans (b1.mono (by first | exact ((hbx _)).size | (simp; omega)))
  have hx1 := boxAt b1
  have x0 := vblk_cell hx1 0
  have x1 := vblk_cell hx1 1
  have x2 := vblk_cell hx1 2
  have x3 := vblk_cell hx1 3
  have x4 := vblk_cell hx1 4
  have x5 := vblk_cell hx1 5
  simp only [List.getElem?_toArray, List.getElem?_cons_succ, List.getElem?_cons_zero] at x0 x1 x2 x3 x4 x5
  go_wp2_with fail
  go_at_call 56
  refine (HD1.out _ k1).mono ?_
  rintro e w2 ⟨rfl, b2⟩
  have k2 : Below w.heap.size w w2 := (k1).trans (b2.mono (by first | exact (k1).size | (simp; omega)))
  have hx2 := (b2.block _ (Array.getElem?_eq_some_iff.1 hx1).1).trans hx1
  have x0 := vblk_cell hx2 0
  have x1 := vblk_cell hx2 1
  have x2 := vblk_cell hx2 2
  have x3 := vblk_cell hx2 3
  have x4 := vblk_cell hx2 4
  have x5 := vblk_cell hx2 5
  simp only [List.getElem?_toArray, List.getElem?_cons_succ, List.getElem?_cons_zero] at x0 x1 x2 x3 x4 x5
  go_wp2_with fail
  go_ret
  exact ⟨by rw [HR.out]; rfl, k2⟩

set_option maxHeartbeats 2000000 in
set_option maxRecDepth 100000 in
theorem szEntryS_c (S : Nat → Prop) (v : Value) (xs : List EntryD) (left : Int) (h0 : 0 ≤ left) (h1 : left ≤ 1048576) (w : World) (hv : RowIn shEntry S w v xs) (hB : ∀ b, S b → b < w.heap.size) :
    Calls Tryz.prog 55 #[v, .int .i64 left] w fun e w' => e = .returned (.int .i64 (leftW (wtRow wtEntry xs) left)) ∧ Below w.heap.size w w' := by
  obtain ⟨a, cap, rfl, hl, hc, ha⟩ := hv
  unfold maxLen at hl
  by_cases hneg : left - (xs.length : Int) < 0
  · have e : leftW (wtRow wtEntry xs) left = -1 := leftW_bad (by have := len_wtRow wtEntry xs; omega)
    rw [e]
    clear ha
    go_enter Tryz.func55, Tryz.ntmps55
    go_wp2_with fail
    go_ret
    exact ⟨rfl, Below.refl _ _⟩
  · go_enter Tryz.func55, Tryz.ntmps55
    go_wp2_with fail
    go_loopw [1, 5] (fun vl vi wr => ∃ (k : Nat) (q : Int), k ≤ xs.length ∧ vi = .int .i64 (k : Int) ∧ vl = .int .i64 q ∧ 0 ≤ q ∧ q ≤ 1048576 ∧ Hid (q = left - (xs.length : Int) - (wtRow wtEntry (xs.take k) : Int) + (k : Int)) ∧ Below w.heap.size w wr) (fun _ vi _ => xs.length - (intOf vi).toNat)
    case atStart => exact ⟨0, _, Nat.zero_le _, rfl, rfl, by omega, by omega, by show _ = _; simp [wtRow], Below.refl _ _⟩
    case round =>
      obtain ⟨k, q, hk, rfl, rfl, hq0, hq1, hq, hbr⟩ := hrel
      by_cases hlt' : k < xs.length
      · rcases ha with rfl | ⟨b, off, rfl, hlt, ha⟩
        · simp at hlt'
        obtain ⟨cs, hL, hcell⟩ := ha k hlt'
        have hL2 := shEntry.keep (.of hbr hB) hL
        have hcell2 := hcell.keep (.of hbr hB) hlt
        have hBr : ∀ b, S b → b < wr.heap.size := fun b h => Nat.lt_of_lt_of_le (hB b h) hbr.size
        have hwt := wtRow_take wtEntry xs k hlt'
        have hsp := wtRow_split wtEntry xs (k + 1)
        have hln := len_wtRow wtEntry (xs.drop (k + 1))
        have hdl : (xs.drop (k + 1)).length = xs.length - (k + 1) := by simp
        obtain ⟨d, hd⟩ : ∃ d, d = xs[k] := ⟨_, rfl⟩
        rw [← hd] at hL2 hwt
        have HW : Hid (wtRow wtEntry (xs.take (k + 1)) = wtRow wtEntry (xs.take k) + (1 + wtEntry d)) := hwt
        have HSP : Hid (wtRow wtEntry xs = wtRow wtEntry (xs.take (k + 1)) + wtRow wtEntry (xs.drop (k + 1)) ∧ xs.length - (k + 1) ≤ wtRow wtEntry (xs.drop (k + 1))) := ⟨hsp, by omega⟩
        have hki : (k : Int) < (xs.length : Int) := by omega
        obtain ⟨p, hp⟩ : ∃ p, p = leftW (wtEntry d) q := ⟨_, rfl⟩
        have HP : Hid (p = leftW (wtEntry d) q) := hp
        have HC := szEntry_c S d cs q hq0 hq1 wr hL2 hBr
        rw [← hp] at HC
        clear hL hcell ha hwt hd hp hsp hln hdl
        obtain ⟨u0, u1, rfl, s_name, r0, p0, r1⟩ := hL2
        clear s_name p0
        obtain ⟨a0, cap0, eu0, _⟩ := id r0
        rw [length_strsV] at eu0
        subst eu0
        clear r0
        obtain ⟨a1, cap1, eu1, _⟩ := id r1
        subst eu1
        clear r1
        have e0 : wr.cell? ⟨b, off + k * 6, none⟩ = some (.string d.name) := hcell2 0 (by simp)
        have e1 : wr.cell? ⟨b, off + k * 6 + 1, none⟩ = some (.int .i64 d.vA) := hcell2 1 (by simp)
        have e2 : wr.cell? ⟨b, off + k * 6 + 2, none⟩ = some (.int .i64 d.vB) := hcell2 2 (by simp)
        have e3 : wr.cell? ⟨b, off + k * 6 + 3, none⟩ = some (.int .i64 d.vC) := hcell2 3 (by simp)
        have e4 : wr.cell? ⟨b, off + k * 6 + 4, none⟩ = some (.slice a0 d.vP.length cap0) := hcell2 4 (by simp)
        have e5 : wr.cell? ⟨b, off + k * 6 + 5, none⟩ = some (.slice a1 d.needs.length cap1) := hcell2 5 (by simp)
        have HC2 := hidden HC
        clear hcell2 HC
        by_cases hpn : p < 0
        · go_wp2_with (go_at_call 134; refine HC2.out.mono ?_; rintro e w1 ⟨rfl, hb1⟩)
          go_ret
          have e : leftW (wtRow wtEntry xs) left = -1 := by
            have h2 := HP.out; have h3 := hq.out; have h4 := HW.out; have h5 := HSP.out
            refine leftW_bad ?_
            by_cases h6 : ((wtEntry d : Nat) : Int) ≤ q
            · rw [leftW_good h6] at h2; omega
            · omega
          exact ⟨by rw [e]; rfl, hbr.trans (hb1.mono hbr.size)⟩
        · go_wp2_with (go_at_call 134; refine HC2.out.mono ?_; rintro e w1 ⟨rfl, hb1⟩)
          go_roundw
          case rel =>
            have h2 := HP.out; have h3 := hq.out; have h4 := HW.out
            have h6 : ((wtEntry d : Nat) : Int) ≤ q := by
              by_cases h6 : ((wtEntry d : Nat) : Int) ≤ q
              · exact h6
              · rw [leftW_bad (by omega)] at h2; omega
            rw [leftW_good h6] at h2
            exact ⟨k + 1, p, by omega, by go_num, rfl, by omega, by omega, (by show _ = _; omega), hbr.trans (hb1.mono hbr.size)⟩
          case measure => simp [intOf]; omega
      · have he : k = xs.length := by omega
        subst he
        clear ha
        go_wp2_with fail
        go_ret
        have e : leftW (wtRow wtEntry xs) left = q := by
          have h3 := hq.out
          rw [List.take_length] at h3
          rw [leftW_good (by omega)]; omega
        exact ⟨by rw [e]; rfl, hbr⟩

end Go.Proofs.YtlfmefojcmpfeaaGreatDoor

/-! What is the same is told so by the law's own comparison: contracts for what lies in memory and holds at most 2 to the 20. -/
namespace Go.Proofs.YtlfmefojcmpfeaaGreatDoor
open Go.RowKit
set_option linter.unusedSimpArgs false
set_option linter.unusedVariables false

set_option maxHeartbeats 2000000 in
set_option maxRecDepth 100000 in
theorem eqEntry_c (S S' : Nat → Prop) (d : EntryD) (cs cs' : List Value) (w : World) (hd : shEntry.lies S w cs d) (hd' : shEntry.lies S' w cs' d) (hB : ∀ b, S b → b < w.heap.size) (hB' : ∀ b, S' b → b < w.heap.size) (hw : wtEntry d ≤ 1048576) :
    Calls Tryz.prog 139 #[.agg cs.toArray, .agg cs'.toArray] w fun e w' => e = .returned (.bool true) ∧ Below w.heap.size w w' := by
  obtain ⟨xu0, xu1, rfl, xs_name, xr0, xp0, xr1⟩ := hd
  obtain ⟨yu0, yu1, rfl, ys_name, yr0, yp0, yr1⟩ := hd'
  have hb2 : ∀ A R, Below w.heap.size w ((w.alloc A).alloc R) := fun A R => ((Below.refl _ _).alloc (Nat.le_refl _) _).alloc (by simp) _
  unfold wtEntry at hw
  have HS0 : Hid (∀ w1, Below w.heap.size w w1 → Calls Tryz.prog 205 #[.agg #[.int .i64 d.vA, .int .i64 d.vB, .int .i64 d.vC, xu0], .agg #[.int .i64 d.vA, .int .i64 d.vB, .int .i64 d.vC, yu0]] w1 fun e w' => e = .returned (.bool true) ∧ Below w1.heap.size w1 w') := fun w1 hb =>
    eqVer_c _ _ _ xu0 yu0 d.vP w1 ((xr0.keep (.of hb hB)).reads (fun b h => Nat.lt_of_lt_of_le (hB b h) hb.size)) ((yr0.keep (.of hb hB')).reads (fun b h => Nat.lt_of_lt_of_le (hB' b h) hb.size)) (by unfold bulkS at hw; omega)
  have HS1 : Hid (∀ w1, Below w.heap.size w w1 → Calls Tryz.prog 61 #[xu1, yu1] w1 fun e w' => e = .returned (.bool true) ∧ Below w1.heap.size w1 w') := fun w1 hb =>
    eqNeedS_c S S' xu1 yu1 d.needs w1 (xr1.keep (.of hb hB)) (yr1.keep (.of hb hB')) (fun b h => Nat.lt_of_lt_of_le (hB b h) hb.size) (fun b h => Nat.lt_of_lt_of_le (hB' b h) hb.size) (by omega)
  obtain ⟨xa0, xc0, xe0, _⟩ := id xr0
  rw [length_strsV] at xe0
  subst xe0
  clear xr0
  obtain ⟨xa1, xc1, xe1, _⟩ := id xr1
  subst xe1
  clear xr1
  obtain ⟨ya0, yc0, ye0, _⟩ := id yr0
  rw [length_strsV] at ye0
  subst ye0
  clear yr0
  obtain ⟨ya1, yc1, ye1, _⟩ := id yr1
  subst ye1
  clear yr1
  go_enter Tryz.func139, Tryz.ntmps139
  go_wp2_with fail
  go_at_call 205
  refine (HS0.out _ (hb2 _ _)).mono ?_
  rintro e w1 ⟨rfl, b1⟩
  obtain ⟨hA1, hR1⟩ := boxTwo b1
  have k1 : Below w.heap.size w w1 := (hb2 _ _).trans (b1.mono (hb2 _ _).size)
  have o0 := vblk_cell hA1 0
  have q0 := vblk_cell hR1 0
  have o1 := vblk_cell hA1 1
  have q1 := vblk_cell hR1 1
  have o2 := vblk_cell hA1 2
  have q2 := vblk_cell hR1 2
  have o3 := vblk_cell hA1 3
  have q3 := vblk_cell hR1 3
  have o4 := vblk_cell hA1 4
  have q4 := vblk_cell hR1 4
  have o5 := vblk_cell hA1 5
  have q5 := vblk_cell hR1 5
  simp only [List.getElem?_toArray, List.getElem?_cons_succ, List.getElem?_cons_zero] at o0 q0 o1 q1 o2 q2 o3 q3 o4 q4 o5 q5
  go_wp2_with fail
  go_at_call 61
  refine (HS1.out _ k1).mono ?_
  rintro e w2 ⟨rfl, b2⟩
  have hA2 := (b2.block _ (Array.getElem?_eq_some_iff.1 hA1).1).trans hA1
  have hR2 := (b2.block _ (Array.getElem?_eq_some_iff.1 hR1).1).trans hR1
  have k2 := k1.trans (b2.mono k1.size)
  go_wp2_with fail
  go_ret
  exact ⟨rfl, k2⟩

set_option maxHeartbeats 2000000 in
set_option maxRecDepth 100000 in
theorem eqEntryS_c (S S' : Nat → Prop) (v u : Value) (xs : List EntryD) (w : World) (hv : RowIn shEntry S w v xs) (hv' : RowIn shEntry S' w u xs) (hB : ∀ b, S b → b < w.heap.size) (hB' : ∀ b, S' b → b < w.heap.size) (hw : wtRow wtEntry xs ≤ 1048576) :
    Calls Tryz.prog 60 #[v, u] w fun e w' => e = .returned (.bool true) ∧ Below w.heap.size w w' := by
  obtain ⟨a, cap, rfl, hl, hc, ha⟩ := hv
  obtain ⟨a', cap', rfl, _, hc', ha'⟩ := hv'
  unfold maxLen at hl
  go_enter Tryz.func60, Tryz.ntmps60
  go_wp2_with fail
  go_loopw [5] (fun vi wr => ∃ k : Nat, k ≤ xs.length ∧ vi = .int .i64 (k : Int) ∧ Below w.heap.size w wr) (fun vi _ => xs.length - (intOf vi).toNat)
  case atStart => exact ⟨0, Nat.zero_le _, rfl, Below.refl _ _⟩
  case round =>
    obtain ⟨k, hk, rfl, hbr⟩ := hrel
    by_cases hlt' : k < xs.length
    · rcases ha with rfl | ⟨b, off, rfl, hlt, ha⟩
      · simp at hlt'
      rcases ha' with rfl | ⟨b', off', rfl, hlt3, ha'⟩
      · simp at hlt'
      obtain ⟨cs, hL, hcell⟩ := ha k hlt'
      obtain ⟨cs', hL', hcell'⟩ := ha' k hlt'
      have hwt : wtEntry xs[k] ≤ 1048576 := by have := wt_wtRow wtEntry (List.getElem_mem hlt'); omega
      have HC := eqEntry_c S S' xs[k] cs cs' wr.drew (shEntry.keep (.of hbr.drew hB) hL) (shEntry.keep (.of hbr.drew hB') hL') (fun b h => Nat.lt_of_lt_of_le (hB b h) hbr.size) (fun b h => Nat.lt_of_lt_of_le (hB' b h) hbr.size) hwt
      replace hL := shEntry.keep (.of hbr hB) hL
      replace hL' := shEntry.keep (.of hbr hB') hL'
      replace hcell := hcell.keep (.of hbr hB) hlt
      replace hcell' := hcell'.keep (.of hbr hB') hlt3
      obtain ⟨d, hd⟩ : ∃ d, d = xs[k] := ⟨_, rfl⟩
      rw [← hd] at hL hL' hwt
      clear ha ha' hd
      obtain ⟨xu0, xu1, rfl, xs_name, xr0, xp0, xr1⟩ := hL
      obtain ⟨yu0, yu1, rfl, ys_name, yr0, yp0, yr1⟩ := hL'
      clear xs_name xp0 ys_name yp0
      obtain ⟨xa0, xc0, xe0, _⟩ := id xr0
      rw [length_strsV] at xe0
      subst xe0
      clear xr0
      obtain ⟨xa1, xc1, xe1, _⟩ := id xr1
      subst xe1
      clear xr1
      have xv0 : wr.cell? ⟨b, off + k * 6, none⟩ = some (.string d.name) := hcell 0 (by simp)
      have xv1 : wr.cell? ⟨b, off + k * 6 + 1, none⟩ = some (.int .i64 d.vA) := hcell 1 (by simp)
      have xv2 : wr.cell? ⟨b, off + k * 6 + 2, none⟩ = some (.int .i64 d.vB) := hcell 2 (by simp)
      have xv3 : wr.cell? ⟨b, off + k * 6 + 3, none⟩ = some (.int .i64 d.vC) := hcell 3 (by simp)
      have xv4 : wr.cell? ⟨b, off + k * 6 + 4, none⟩ = some (.slice xa0 d.vP.length xc0) := hcell 4 (by simp)
      have xv5 : wr.cell? ⟨b, off + k * 6 + 5, none⟩ = some (.slice xa1 d.needs.length xc1) := hcell 5 (by simp)
      obtain ⟨ya0, yc0, ye0, _⟩ := id yr0
      rw [length_strsV] at ye0
      subst ye0
      clear yr0
      obtain ⟨ya1, yc1, ye1, _⟩ := id yr1
      subst ye1
      clear yr1
      have yv0 : wr.cell? ⟨b', off' + k * 6, none⟩ = some (.string d.name) := hcell' 0 (by simp)
      have yv1 : wr.cell? ⟨b', off' + k * 6 + 1, none⟩ = some (.int .i64 d.vA) := hcell' 1 (by simp)
      have yv2 : wr.cell? ⟨b', off' + k * 6 + 2, none⟩ = some (.int .i64 d.vB) := hcell' 2 (by simp)
      have yv3 : wr.cell? ⟨b', off' + k * 6 + 3, none⟩ = some (.int .i64 d.vC) := hcell' 3 (by simp)
      have yv4 : wr.cell? ⟨b', off' + k * 6 + 4, none⟩ = some (.slice ya0 d.vP.length yc0) := hcell' 4 (by simp)
      have yv5 : wr.cell? ⟨b', off' + k * 6 + 5, none⟩ = some (.slice ya1 d.needs.length yc1) := hcell' 5 (by simp)
      have HC2 := hidden HC
      have hki : (k : Int) < (xs.length : Int) := by omega
      clear hcell hcell' HC hwt
      go_wp2_with fail
      go_region_with (go_at_call 139; refine HC2.out.mono ?_; rintro e w2 ⟨rfl, hb2⟩)
      all_goals go_wp2_with fail
      all_goals go_roundw
      all_goals first
        | exact ⟨k + 1, by omega, by go_num, hbr.drew.trans (hb2.mono hbr.size)⟩
        | (simp [intOf]; omega)
    · have he : k = xs.length := by omega
      subst he
      clear ha ha'
      go_wp2_with fail
      go_ret
      exact ⟨rfl, hbr⟩

end Go.Proofs.YtlfmefojcmpfeaaGreatDoor

/-! The law on Stale, walked: whatever comes in, the program and the specification answer alike, and nothing is written into an argument; conditions: what comes in lies in memory, its numbers fit into an int, the tables hold what they are laid with, and the library names the type of errors. -/
namespace Go.Proofs.YtlfmefojcmpfeaaGreatDoor
open Go.RowKit
set_option linter.unusedSimpArgs false
set_option linter.unusedVariables false

theorem leftW_pos {a : Nat} {left : Int} (h : (a : Int) ≤ left) (hl : left ≤ 1048576) : 0 ≤ leftW a left ∧ leftW a left ≤ 1048576 ∧ a ≤ 1048576 := by
  rw [leftW_good h]; omega

set_option maxHeartbeats 8000000 in
set_option maxRecDepth 100000 in
theorem stale_walk (a0 a1 : Value) (z0 : List EntryD) (z1 : List PackD) (s : ByteArray) (w : World) (r0 : RowIn shEntry (· < w.heap.size) w a0 z0) (r1 : RowIn shPack (· < w.heap.size) w a1 z1) (hsm : s.size ≤ maxLen) (f0 : ∀ d ∈ z0, wfE d) (hg : ErrT w) (hT : Tabs w) (htab : Lib.TabIs Tryz.prog w "internal/strconv.uint64pow10" .u64 Lib.pow10Tab) :
    Calls Tryz.prog 10 #[a0, a1, .string s] w fun e w' => e = .returned (.bool true) ∧ Below w.heap.size w w' := by
  have hin0 : ∀ w1, Below w.heap.size w w1 → RowIn shEntry (· < w1.heap.size) w1 a0 z0 := fun w1 h => r0.below h
  have HZ0 : Hid (∀ p, 0 ≤ p → p ≤ 1048576 → ∀ w1, Below w.heap.size w w1 → Calls Tryz.prog 55 #[a0, .int .i64 p] w1 fun e w' => e = .returned (.int .i64 (leftW (wtRow wtEntry z0) p)) ∧ Below w1.heap.size w1 w') := fun p h0 h1 w1 h => szEntryS_c _ _ z0 _ h0 h1 w1 (hin0 w1 h) (fun b h => h)
  have hin1 : ∀ w1, Below w.heap.size w w1 → RowIn shPack (· < w1.heap.size) w1 a1 z1 := fun w1 h => r1.below h
  have HZ1 : Hid (∀ p, 0 ≤ p → p ≤ 1048576 → ∀ w1, Below w.heap.size w w1 → Calls Tryz.prog 66 #[a1, .int .i64 p] w1 fun e w' => e = .returned (.int .i64 (leftW (wtRow wtPack z1) p)) ∧ Below w1.heap.size w1 w') := fun p h0 h1 w1 h => szPackS_c _ _ z1 _ h0 h1 w1 (hin1 w1 h) (fun b h => h)
  obtain ⟨q0, cap0, hq0⟩ := r0.slice
  subst hq0
  obtain ⟨q1, cap1, hq1⟩ := r1.slice
  subst hq1
  unfold maxLen at hsm
  by_cases hbigs : 1048576 < s.size
  · have hb2 : (1048576 : Int) < (s.size : Int) := by omega
    clear f0 hg hT htab hin0 r0 hin1 r1 HZ0 HZ1
    go_enter Tryz.func10, Tryz.ntmps10
    go_wp2_with fail
    go_ret
    exact ⟨rfl, Below.refl _ _⟩
  have hs : s.size ≤ 1048576 := by omega
  have hnb : ¬ (1048576 : Int) < (s.size : Int) := by omega
  clear hbigs
  obtain ⟨p0, hp0e⟩ : ∃ p : Int, p = 1048576 := ⟨_, rfl⟩
  have HP0 : Hid (p0 = 1048576) := hp0e
  have hp0a : 0 ≤ p0 := by omega
  have hp0b : p0 ≤ 1048576 := by omega
  clear hp0e
  replace HZ0 := hidden (HZ0.out p0 hp0a hp0b)
  by_cases hbig0 : ¬ ((wtRow wtEntry z0 : Nat) : Int) ≤ p0
  · have e1 : leftW (wtRow wtEntry z0) p0 = -1 := leftW_bad hbig0
    rw [e1] at HZ0
    simp only [HP0.out] at HZ0
    clear e1 hbig0 f0 hg hT htab hin0 r0 hin1 r1
    go_enter Tryz.func10, Tryz.ntmps10
    go_wp2_with fail
    go_at_call 55
    refine (HZ0.out _ (Below.refl w.heap.size w)).mono ?_
    rintro e w1 ⟨rfl, b1⟩
    have k1 := (Below.refl w.heap.size w).trans (b1.mono (Below.refl w.heap.size w).size)
    go_wp2_with fail
    go_ret
    exact ⟨rfl, k1⟩
  have hle0 := Decidable.not_not.1 hbig0
  obtain ⟨hn0, hm0, hw0⟩ := leftW_pos hle0 hp0b
  clear hbig0 hle0
  obtain ⟨p1, hp1⟩ : ∃ p, p = leftW (wtRow wtEntry z0) p0 := ⟨_, rfl⟩
  rw [← hp1] at HZ0 hn0 hm0
  clear hp1
  have hp1a := hn0
  have hp1b := hm0
  replace HZ1 := hidden (HZ1.out p1 hp1a hp1b)
  by_cases hbig1 : ¬ ((wtRow wtPack z1 : Nat) : Int) ≤ p1
  · have e1 : leftW (wtRow wtPack z1) p1 = -1 := leftW_bad hbig1
    rw [e1] at HZ1
    simp only [HP0.out] at HZ0
    clear e1 hbig1 f0 hg hT htab hin0 r0 hin1 r1
    go_enter Tryz.func10, Tryz.ntmps10
    go_wp2_with fail
    go_at_call 55
    refine (HZ0.out _ (Below.refl w.heap.size w)).mono ?_
    rintro e w1 ⟨rfl, b1⟩
    have k1 := (Below.refl w.heap.size w).trans (b1.mono (Below.refl w.heap.size w).size)
    go_wp2_with fail
    go_at_call 66
    refine (HZ1.out _ (k1)).mono ?_
    rintro e w2 ⟨rfl, b2⟩
    have k2 := (k1).trans (b2.mono (k1).size)
    go_wp2_with fail
    go_ret
    exact ⟨rfl, k2⟩
  have hle1 := Decidable.not_not.1 hbig1
  obtain ⟨hn1, hm1, hw1⟩ := leftW_pos hle1 hp1b
  clear hbig1 hle1
  obtain ⟨p2, hp2⟩ : ∃ p, p = leftW (wtRow wtPack z1) p1 := ⟨_, rfl⟩
  rw [← hp2] at HZ1 hn1 hm1
  clear hp2
  simp only [HP0.out] at HZ0
  have HT0 : Hid (∀ w1, Below w.heap.size w w1 → Calls Tryz.prog 57 #[.slice q0 z0.length cap0] w1 fun e w' => ∃ g, e = .returned (.slice (some ⟨g, 0, none⟩) z0.length z0.length) ∧ RowOwn shEntryO 35 (Ow w1.heap.size w'.heap.size) w' (.slice (some ⟨g, 0, none⟩) z0.length z0.length) z0 ∧ Below w1.heap.size w1 w') := fun w1 h => toEntryS_c _ _ z0 w1 (hin0 w1 h) (fun b h => h) hw0
  have HE0 : Hid (∀ W g g' l1 h1 l2 h2, RowOwn shEntryO 35 (Ow l1 h1) W (.slice (some ⟨g, 0, none⟩) z0.length z0.length) z0 → h1 ≤ W.heap.size → RowOwn shEntryO 35 (Ow l2 h2) W (.slice (some ⟨g', 0, none⟩) z0.length z0.length) z0 → h2 ≤ W.heap.size → Calls Tryz.prog 60 #[.slice (some ⟨g, 0, none⟩) z0.length z0.length, .slice (some ⟨g', 0, none⟩) z0.length z0.length] W fun e w' => e = .returned (.bool true) ∧ Below W.heap.size W w') := fun W g g' l1 h1 l2 h2 a c b d => eqEntryS_c (Ow l1 h1) (Ow l2 h2) _ _ z0 W (RowIn.as (sh := shEntryO) (sh' := shEntry) rfl (fun S w cs x h => liesEntry_plain h) a.plain) (RowIn.as (sh := shEntryO) (sh' := shEntry) rfl (fun S w cs x h => liesEntry_plain h) b.plain) (fun b hb => Nat.lt_of_lt_of_le hb.2 c) (fun b hb => Nat.lt_of_lt_of_le hb.2 d) hw0
  have HT1 : Hid (∀ w1, Below w.heap.size w w1 → Calls Tryz.prog 67 #[.slice q1 z1.length cap1] w1 fun e w' => ∃ g, e = .returned (.slice (some ⟨g, 0, none⟩) z1.length z1.length) ∧ RowOwn shPackO 189 (Ow w1.heap.size w'.heap.size) w' (.slice (some ⟨g, 0, none⟩) z1.length z1.length) z1 ∧ Below w1.heap.size w1 w') := fun w1 h => toPackS_c _ _ z1 w1 (hin1 w1 h) (fun b h => h) hw1
  have HE1 : Hid (∀ W g g' l1 h1 l2 h2, RowOwn shPackO 189 (Ow l1 h1) W (.slice (some ⟨g, 0, none⟩) z1.length z1.length) z1 → h1 ≤ W.heap.size → RowOwn shPackO 189 (Ow l2 h2) W (.slice (some ⟨g', 0, none⟩) z1.length z1.length) z1 → h2 ≤ W.heap.size → Calls Tryz.prog 68 #[.slice (some ⟨g, 0, none⟩) z1.length z1.length, .slice (some ⟨g', 0, none⟩) z1.length z1.length] W fun e w' => e = .returned (.bool true) ∧ Below W.heap.size W w') := fun W g g' l1 h1 l2 h2 a c b d => eqPackS_c (Ow l1 h1) (Ow l2 h2) _ _ z1 W (RowIn.as (sh := shPackO) (sh' := shPack) rfl (fun S w cs x h => liesPack_plain h) a.plain) (RowIn.as (sh := shPackO) (sh' := shPack) rfl (fun S w cs x h => liesPack_plain h) b.plain) (fun b hb => Nat.lt_of_lt_of_le hb.2 c) (fun b hb => Nat.lt_of_lt_of_le hb.2 d) hw1
  obtain ⟨R, hR⟩ : ∃ R, R = staleB z0 z1 s := ⟨_, rfl⟩
  have HS : Hid (∀ W g0 g1 l0 h0 l1 h1, RowOwn shEntryO 35 (Ow l0 h0) W (.slice (some ⟨g0, 0, none⟩) z0.length z0.length) z0 → h0 ≤ W.heap.size → RowOwn shPackO 189 (Ow l1 h1) W (.slice (some ⟨g1, 0, none⟩) z1.length z1.length) z1 → h1 ≤ W.heap.size → Calls Tryz.prog 54 #[.slice (some ⟨g0, 0, none⟩) z0.length z0.length, .slice (some ⟨g1, 0, none⟩) z1.length z1.length, .string s] W fun e w' => e = .returned (.bool R) ∧ Below W.heap.size W w') := fun W g0 g1 l0 h0 l1 h1 x0 y0 x1 y1 => by rw [hR]; exact specStale_c (Ow l0 h0) (Ow l1 h1) _ _ z0 z1 s W x0.plain x1.plain (fun b hb => Nat.lt_of_lt_of_le hb.2 y0) (fun b hb => Nat.lt_of_lt_of_le hb.2 y1) hw0 hw1 hs
  have HI : Hid (∀ W g0 g1 l0 h0 l1 h1, Below w.heap.size w W → RowOwn shEntryO 35 (Ow l0 h0) W (.slice (some ⟨g0, 0, none⟩) z0.length z0.length) z0 → h0 ≤ W.heap.size → RowOwn shPackO 189 (Ow l1 h1) W (.slice (some ⟨g1, 0, none⟩) z1.length z1.length) z1 → h1 ≤ W.heap.size → Calls Tryz.prog 53 #[.slice (some ⟨g0, 0, none⟩) z0.length z0.length, .slice (some ⟨g1, 0, none⟩) z1.length z1.length, .string s] W fun e w' => e = .returned (.bool R) ∧ Below W.heap.size W w') := fun W g0 g1 l0 h0 l1 h1 hb x0 y0 x1 y1 => by rw [hR]; exact implStale_c (Ow l0 h0) (Ow l1 h1) _ _ z0 z1 s W (RowIn.as (sh := shEntryO) (sh' := shEntry) rfl (fun S w cs x h => liesEntry_plain h) x0.plain) (RowIn.as (sh := shPackO) (sh' := shPack) rfl (fun S w cs x h => liesPack_plain h) x1.plain) (fun b hb => Nat.lt_of_lt_of_le hb.2 y0) (fun b hb => Nat.lt_of_lt_of_le hb.2 y1) hw0 hw1 hs f0 (hg.below hb) (hT.below hb) (tabIs_below hb htab)
  clear hR f0 hg hT htab hin0 hin1 r0 hw0 r1 hw1 hs hsm
  go_enter Tryz.func10, Tryz.ntmps10
  go_wp2_with fail
  go_at_call 55
  refine (HZ0.out _ (Below.refl w.heap.size w)).mono ?_
  rintro e v1 ⟨rfl, b1⟩
  have k1 := (Below.refl w.heap.size w).trans (b1.mono (Below.refl w.heap.size w).size)
  clear b1
  go_wp2_with fail
  go_at_call 66
  refine (HZ1.out _ (k1)).mono ?_
  rintro e v2 ⟨rfl, b2⟩
  have k2 := (k1).trans (b2.mono (k1).size)
  clear b2
  go_wp2_with fail
  go_at_call 57
  refine (HT0.out _ k2).mono ?_
  rintro e v3 ⟨gA0, rfl, FA0, b3⟩
  have k3 := k2.trans (b3.mono k2.size)
  have m3 := b3.size
  clear b3
  go_wp2_with fail
  go_at_call 67
  refine (HT1.out _ k3).mono ?_
  rintro e v4 ⟨gA1, rfl, FA1, b4⟩
  have k4 := k3.trans (b4.mono k3.size)
  have m4 := b4.size
  have FA0 := FA0.keep (Kp.of b4 (fun b hb => by have := hb.2; omega))
  clear b4
  go_wp2_with fail
  go_at_call 54
  refine (HS.out _ gA0 gA1 _ _ _ _ FA0 (by omega) FA1 (by omega)).mono ?_
  rintro e v5 ⟨rfl, b5⟩
  have k5 := k4.trans (b5.mono k4.size)
  have m5 := b5.size
  clear b5 FA0 FA1 HS
  go_wp2_with fail
  go_at_call 57
  refine (HT0.out _ k5).mono ?_
  rintro e v6 ⟨gB0, rfl, FB0, b6⟩
  have k6 := k5.trans (b6.mono k5.size)
  have m6 := b6.size
  clear b6
  go_wp2_with fail
  go_at_call 67
  refine (HT1.out _ k6).mono ?_
  rintro e v7 ⟨gB1, rfl, FB1, b7⟩
  have k7 := k6.trans (b7.mono k6.size)
  have m7 := b7.size
  have FB0 := FB0.keep (Kp.of b7 (fun b hb => by have := hb.2; omega))
  clear b7
  go_wp2_with fail
  go_at_call 53
  refine (HI.out _ gB0 gB1 _ _ _ _ k7 FB0 (by omega) FB1 (by omega)).mono ?_
  rintro e v8 ⟨rfl, b8⟩
  have k8 := k7.trans (b8.mono k7.size)
  have m8 := b8.size
  have FB0 := FB0.keep (Kp.of b8 (fun b hb => by have := hb.2; omega))
  have FB1 := FB1.keep (Kp.of b8 (fun b hb => by have := hb.2; omega))
  clear b8 HI
  have hRR : (R != R) = false := by cases R <;> rfl
  go_wp2_with fail
  go_at_call 57
  refine (HT0.out _ k8).mono ?_
  rintro e v9 ⟨gC0, rfl, FC0, b9⟩
  have k9 := k8.trans (b9.mono k8.size)
  have m9 := b9.size
  have FB0 := FB0.keep (Kp.of b9 (fun b hb => by have := hb.2; omega))
  have FB1 := FB1.keep (Kp.of b9 (fun b hb => by have := hb.2; omega))
  clear b9
  go_wp2_with fail
  go_at_call 60
  refine (HE0.out _ gB0 gC0 _ _ _ _ FB0 (by omega) FC0 (by omega)).mono ?_
  rintro e v10 ⟨rfl, b10⟩
  have k10 := k9.trans (b10.mono k9.size)
  have m10 := b10.size
  have FB1 := FB1.keep (Kp.of b10 (fun b hb => by have := hb.2; omega))
  clear b10 FB0 FC0
  go_wp2_with fail
  go_at_call 67
  refine (HT1.out _ k10).mono ?_
  rintro e v11 ⟨gC1, rfl, FC1, b11⟩
  have k11 := k10.trans (b11.mono k10.size)
  have m11 := b11.size
  have FB1 := FB1.keep (Kp.of b11 (fun b hb => by have := hb.2; omega))
  clear b11
  go_wp2_with fail
  go_at_call 68
  refine (HE1.out _ gB1 gC1 _ _ _ _ FB1 (by omega) FC1 (by omega)).mono ?_
  rintro e v12 ⟨rfl, b12⟩
  have k12 := k11.trans (b12.mono k11.size)
  have m12 := b12.size
  clear b12 FB1 FC1
  go_wp2_with fail
  go_ret
  exact ⟨rfl, k12⟩
end Go.Proofs.YtlfmefojcmpfeaaGreatDoor
