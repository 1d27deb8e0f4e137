/-
  Contracts for the walks, several texts in one: each part says what it proves, and under which conditions.
-/
import Derived.Shelf.Strings.Builder1
import Derived.Shelf.Small.Utf8
import Derived.Shelf.Small.Strs
import Derived.Shelf.Small.Wraps
import Derived.Shelf.Strings.BuilderF
import Derived.Shelf.Strconv.Itoa0
import Derived.Shelf.Strconv.Itoa1
import Derived.Shelf.LaysM
import Derived.Shelf.Strconv.Itoa2
import Derived.Shelf.Strconv.Itoa3
import Derived.Shelf.Strconv.Clone
import Derived.Shelf.Strings.Search1
import Derived.Shelf.Strings.Search2
import Derived.Shelf.Strings.Search3
import Derived.Shelf.Strings.Count
import Derived.Shelf.Strings.Shaped
import Derived.Shelf.Strings.Prefix
import Derived.Shelf.Strings.Split
import Derived.Shelf.Strings.SplitShaped
import Derived.Shelf.Strings.Runes
import Derived.Shelf.Strings.AsciiSet
import Derived.Shelf.Unicode.DecodeSlow
import Derived.Shelf.Slices.Equal
import Derived.Test.YtbolphjigjpmiabGreatDoorProg
import Derived.Lib.Builder
import Derived.Lib.AppendStr
import Derived.Lib.UnsafeStr
import Derived.Laws.Externs
import Derived.Laws.BytesArg
import Derived.Sort.Grow
import Derived.Lib.AppendIntMem
import Derived.Deep.RegionHeld
import Derived.Test.YtbolphjigjpmiabGreatDoorQ3
import Derived.Test.YtbolphjigjpmiabGreatDoorQ1
import Derived.Test.YtbolphjigjpmiabGreatDoorQ2

/-! What is read as a version, or as a part of one, the program's: the contract; condition: the text has at most 2 to the 20 bytes. -/
namespace Go.Proofs.YtbolphjigjpmiabGreatDoor
open Go.RowKit
set_option linter.unusedSimpArgs false
set_option linter.unusedVariables false

theorem stripK_step {ws : List ByteArray} {k : Nat} (hk : 1 < k) (hl : k ≤ ws.length) (h : ws.getD (k - 1) ⟨#[]⟩ = xT) : stripK ws k = stripK ws (k - 1) := by
  obtain ⟨m, rfl⟩ : ∃ m, k = m + 1 := ⟨k - 1, by omega⟩
  rw [stripK, if_pos ⟨hk, by simpa using h⟩]
  rfl
theorem stripK_stop {ws : List ByteArray} {k : Nat} (hk : 0 < k) (h : ¬ (1 < k ∧ ws.getD (k - 1) ⟨#[]⟩ = xT)) : stripK ws k = k := by
  obtain ⟨m, rfl⟩ : ∃ m, k = m + 1 := ⟨k - 1, by omega⟩
  rw [stripK, if_neg (by simpa using h)]

set_option maxHeartbeats 2000000 in
set_option maxRecDepth 100000 in
theorem parsePart_c (s : ByteArray) (hs : s.size ≤ 1048576) (w : World) :
    Calls Tryz.prog 169 #[.string s] w fun e w' => ∃ u, e = .returned (partOut s u) ∧ w'.ownsRow w.heap.size 9 1 u (partP s).length (strsV (partP s)) ∧ Below w.heap.size w w' := by
  have hbx : Below w.heap.size w (w.alloc (.cells #[.int .i64 0, .int .i64 0, .int .i64 0, .slice none 0 0, .int .i64 0] 194)) := (Below.refl _ _).alloc (Nat.le_refl _) _
  have R0 := five_new w 194 (.int .i64 0) (.int .i64 0) (.int .i64 0) (.slice none 0 0) (.int .i64 0)
  have HP := implParse_c s hs (w.alloc (.cells #[.int .i64 0, .int .i64 0, .int .i64 0, .slice none 0 0, .int .i64 0] 194))
  have hs0 : (w.alloc (.cells #[.int .i64 0, .int .i64 0, .int .i64 0, .slice none 0 0, .int .i64 0] 194)).heap.size = w.heap.size + 1 := by simp
  unfold verOut at HP
  rw [hs0] at HP
  obtain ⟨y1, hy1⟩ : ∃ y, y = resN s 0 := ⟨_, rfl⟩
  obtain ⟨y2, hy2⟩ : ∃ y, y = resN s 1 := ⟨_, rfl⟩
  obtain ⟨y3, hy3⟩ : ∃ y, y = resN s 2 := ⟨_, rfl⟩
  obtain ⟨py, hpy⟩ : ∃ y, y = resP s := ⟨_, rfl⟩
  obtain ⟨ok, hok⟩ : ∃ y, y = resOk s := ⟨_, rfl⟩
  rw [← hy1, ← hy2, ← hy3, ← hpy, ← hok] at HP
  have HV : Hid (ok = true → ∀ u, partOut s u = .tuple #[.agg #[.int .i64 y1, .int .i64 y2, .int .i64 y3, u, .int .i64 3], .bool true] ∧ partP s = py) := fun h u => by rw [hy1, hy2, hy3, hpy]; exact partOut_ver (hok ▸ h) u
  have HN : Hid (ok = false → partW (splitS s 46) = none → partOut s (.slice none 0 0) = .tuple #[.agg #[.int .i64 0, .int .i64 0, .int .i64 0, .slice none 0 0, .int .i64 0], .bool false] ∧ partP s = []) := fun h h2 => partOut_none (hok ▸ h) h2
  have HM : Hid (ok = false → ∀ a b t, partW (splitS s 46) = some (a, b, t) → partOut s (.slice none 0 0) = .tuple #[.agg #[.int .i64 a, .int .i64 b, .int .i64 0, .slice none 0 0, .int .i64 t], .bool true] ∧ partP s = []) := fun h a b t h2 => partOut_some (hok ▸ h) h2
  have HS : Hid (∀ w1, Calls Tryz.prog 138 #[.string s, .int .u8 46] w1 fun e w' => ∃ v, e = .returned v ∧ w'.ownsRow w1.heap.size 9 1 v (splitS s 46).length (strsV (splitS s 46)) ∧ Below w1.heap.size w1 w') := fun w1 => implSplit_c s 46 w1 hs (by omega) (by omega)
  have hL := splitS_len s 46
  have hL0 := splitS_pos s 46
  have hpc := splitS_piece s 46
  obtain ⟨ws, hws⟩ : ∃ ws, ws = splitS s 46 := ⟨_, rfl⟩
  rw [← hws] at HN HM HS hL hL0 hpc
  clear hy1 hy2 hy3 hpy hok hws
  go_enter Tryz.func169, Tryz.ntmps169
  go_wp2_with fail
  go_at_call 167
  refine HP.mono ?_
  rintro e w1 ⟨uy, rfl, oy, b1⟩
  have R1 : Five w1 w.heap.size 194 (.int .i64 0) (.int .i64 0) (.int .i64 0) (.slice none 0 0) (.int .i64 0) := (b1.block _ (by omega)).trans R0
  have k1 := hbx.trans (b1.mono (by omega))
  obtain ⟨qy, ny, cy, hu⟩ : ∃ q n c, uy = .slice q n c := by rcases oy.2 with ⟨rfl, _⟩ | ⟨g, cap, cur, rfl, _⟩ <;> exact ⟨_, _, _, rfl⟩
  subst hu
  have tA : Below w1.heap.size w1 (w1.alloc (.cells #[.int .i64 y1, .int .i64 y2, .int .i64 y3, .slice qy ny cy] 58)) := (Below.refl _ _).alloc (Nat.le_refl _) _
  have R2 := R1.keep tA
  have k2 := k1.trans (tA.mono k1.size)
  have oy2 := owns_of_below oy tA
  have l1 := R1.lt
  clear HP R0 b1 hbx
  cases ok with
  | true =>
    obtain ⟨eO, eP⟩ := HV.out rfl (.slice qy ny cy)
    obtain ⟨x0, x1, x2, x3, x4⟩ := R1.cells
    have fx := vblk_frozen R1
    have HP2 : Hid (partP s = py) := eP
    have HO : Hid (partOut s (.slice qy ny cy) = .tuple #[.agg #[.int .i64 y1, .int .i64 y2, .int .i64 y3, .slice qy ny cy, .int .i64 3], .bool true]) := eO
    clear HV HN HM HS eO eP
    go_wp2_with fail
    refine bodyPost_ret (v := .tuple #[.agg #[.int .i64 y1, .int .i64 y2, .int .i64 y3, .slice qy ny cy, .int .i64 3], .bool true]) (by simp [results, Tryz.results169, go_sem, x0, x1, x2, x3, x4, l1]) rfl ⟨.slice qy ny cy, by rw [HO.out], ?_, ?_⟩
    · rw [HP2.out]
      refine owns_base (base := w.heap.size + 1) ?_ (by omega)
      refine World.ownsRow.alloc ?_ _
      repeat (refine owns_set ?_ (by simp) _)
      exact oy
    · refine Below.alloc ?_ (by simp; omega) _
      repeat (refine Below.setCell ?_ (by simp <;> omega) _)
      exact k1
  | false =>
  clear HV oy oy2 R1
  go_wp2_with fail
  generalize (w1.alloc (.cells #[.int .i64 y1, .int .i64 y2, .int .i64 y3, .slice qy ny cy] 58)) = W2 at R2 k2 tA ⊢
  go_at_call 138
  refine (HS.out _).mono ?_
  rintro e w3 ⟨v3, rfl, o3, b3⟩
  have R3 := R2.keep b3
  have k3 := k2.trans (b3.mono k2.size)
  have rw3 := reads_of_owns o3
  obtain ⟨qw, cw, hv, hcw, hc3⟩ := reads_strs rw3
  subst hv
  have l3 := R3.lt
  clear HS R2 b3 k2 tA k1 o3
  rcases hc3 with hw0 | ⟨bq, off, rfl, hbq, hcell⟩
  · rw [hw0] at hL0; simp at hL0
  go_wp2_with fail
  go_loop [7] (fun vk => ∃ k : Nat, 1 ≤ k ∧ k ≤ ws.length ∧ vk = .int .i64 (k : Int) ∧ Hid (stripK ws k = toldW ws)) (fun vk => (intOf vk).toNat)
  case atStart => exact ⟨ws.length, by omega, Nat.le_refl _, rfl, rfl⟩
  case round =>
    obtain ⟨k, hk1, hkL, rfl, hst⟩ := hrel
    by_cases h1 : 1 < k
    · have hcx := hcell (k - 1) (by omega)
      have hgd : ws.getD (k - 1) ⟨#[]⟩ = ws[k - 1] := by simp [List.getD_eq_getElem?_getD, show k - 1 < ws.length by omega]
      have h1' : (1 : Int) < (k : Int) := by omega
      have hkm : (k : Int) - 1 = ((k - 1 : Nat) : Int) := by omega
      obtain ⟨x, hx⟩ : ∃ x, x = ws[k - 1] := ⟨_, rfl⟩
      rw [← hx] at hcx hgd
      by_cases hxx : x = ⟨#[120]⟩
      · have HS2 : Hid (stripK ws (k - 1) = toldW ws) := by show _ = _; rw [← hst.out, stripK_step h1 hkL (hgd.trans hxx)]
        subst hxx
        have hkn : ((k - 1 : Nat) : Int) < (ws.length : Int) := by omega
        clear hcell rw3 hgd hx hst
        go_wp2_with fail
        go_round
        case rel => exact ⟨k - 1, by omega, by omega, by go_num, HS2⟩
        case measure => simp [intOf]; omega
      · have HK : Hid (toldW ws = k) := by show _ = _; rw [← hst.out]; exact stripK_stop (by omega) (fun h => hxx (hgd.symm.trans h.2))
        have hxb : (x.toList == [120]) = false := by rw [beq_eq_false_iff_ne]; intro h; exact hxx (bytes_eq_of_toList (by rw [h, ByteArray.toList_eq]))
        have hkn : ((k - 1 : Nat) : Int) < (ws.length : Int) := by omega
        clear hst hx hgd
        by_cases h3 : 3 < ws.length
        · have HPW : Hid (partW ws = none) := by show _ = _; rw [partW, if_pos (.inl h3)]
          have h3' : (3 : Int) < (ws.length : Int) := by omega
          obtain ⟨x0, x1, x2, x3, x4⟩ := R3.cells
          have fx := vblk_frozen R3
          clear hcell rw3 h3
          obtain ⟨eO, eP⟩ := HN.out (by first | rfl | exact True.intro) HPW.out
          have HO : Hid (partOut s (.slice none 0 0) = .tuple #[.agg #[.int .i64 0, .int .i64 0, .int .i64 0, .slice none 0 0, .int .i64 0], .bool false]) := eO
          have HP2 : Hid (partP s = []) := eP
          clear HN HM eO eP
          go_wp2_with fail
          refine bodyPost_ret (v := .tuple #[.agg #[.int .i64 0, .int .i64 0, .int .i64 0, .slice none 0 0, .int .i64 0], .bool false]) (by simp [results, Tryz.results169, go_sem, x0, x1, x2, x3, x4]) rfl ⟨.slice none 0 0, by rw [HO.out], (by rw [HP2.out]; exact ⟨rfl, .inl ⟨rfl, rfl⟩⟩), ?_⟩
          repeat (refine Below.setCell ?_ (by simp <;> omega) _)
          exact k3
        by_cases he3 : k = 3
        · have HPW : Hid (partW ws = none) := by show _ = _; rw [partW, if_pos (.inr (HK.out.trans he3))]
          subst he3
          have h3' : ¬ (3 : Int) < (ws.length : Int) := by omega
          obtain ⟨x0, x1, x2, x3, x4⟩ := R3.cells
          have fx := vblk_frozen R3
          clear hcell rw3 h3
          obtain ⟨eO, eP⟩ := HN.out (by first | rfl | exact True.intro) HPW.out
          have HO : Hid (partOut s (.slice none 0 0) = .tuple #[.agg #[.int .i64 0, .int .i64 0, .int .i64 0, .slice none 0 0, .int .i64 0], .bool false]) := eO
          have HP2 : Hid (partP s = []) := eP
          clear HN HM eO eP
          go_wp2_with fail
          refine bodyPost_ret (v := .tuple #[.agg #[.int .i64 0, .int .i64 0, .int .i64 0, .slice none 0 0, .int .i64 0], .bool false]) (by simp [results, Tryz.results169, go_sem, x0, x1, x2, x3, x4]) rfl ⟨.slice none 0 0, by rw [HO.out], (by rw [HP2.out]; exact ⟨rfl, .inl ⟨rfl, rfl⟩⟩), ?_⟩
          repeat (refine Below.setCell ?_ (by simp <;> omega) _)
          exact k3
        have hk2 : k ≤ 2 := by omega
        have h3' : ¬ (3 : Int) < (ws.length : Int) := by omega
        have he3' : ((k : Int) == 3) = false := by rw [beq_eq_false_iff_ne]; omega
        have hkc : (k : Int) ≤ (cw : Int) := by omega
        have tB : Below w3.heap.size w3 (w3.alloc (.cells #[.int .i64 0, .int .i64 0, .int .i64 0] 230)) := (Below.refl _ _).alloc (Nat.le_refl _) _
        have T0 := three_new w3 230 (.int .i64 0) (.int .i64 0) (.int .i64 0)
        have h3n := h3
        clear h3 he3
        go_wp2_with fail
        go_loopw [49] (fun vi wr => ∃ (i : Nat) (c0 c1 : Int), i ≤ k ∧ vi = .int .i64 (i : Int) ∧ Hid ((∀ j, j < i → numGood (ws.getD j ⟨#[]⟩) 9999 = true) ∧ (0 < i → c0 = numOut (ws.getD 0 ⟨#[]⟩) 9999) ∧ (1 < i → c1 = numOut (ws.getD 1 ⟨#[]⟩) 9999) ∧ (i ≤ 1 → c1 = 0)) ∧ Three wr w3.heap.size 230 (.int .i64 c0) (.int .i64 c1) (.int .i64 0) ∧ Below w3.heap.size w3 wr) (fun vi _ => k - (intOf vi).toNat)
        case atStart => exact ⟨0, 0, 0, Nat.zero_le _, rfl, ⟨fun j hj => by omega, fun h => by omega, fun h => by omega, fun _ => rfl⟩, T0, tB⟩
        case round =>
          obtain ⟨i, c0, c1, hik, rfl, hh, hT, hbr⟩ := hrel
          have hR := (hbr.block _ l3).trans R3
          have hRf : Five wr w.heap.size 194 (.int .i64 0) (.int .i64 0) (.int .i64 0) (.slice none 0 0) (.int .i64 0) := hR
          have hm := k3.trans (hbr.mono k3.size)
          clear T0 tB hR
          by_cases hlt : i < k
          · have hcx := hcell i (by omega)
            rw [← hbr.cell (p := ⟨bq, off + i, none⟩) hbq] at hcx
            have hsz : ws[i].size ≤ 1048576 := by have := hpc ws[i] (List.getElem_mem _); omega
            have hgd : ws.getD i ⟨#[]⟩ = ws[i] := by simp [List.getD_eq_getElem?_getD, show i < ws.length by omega]
            obtain ⟨x, hx⟩ : ∃ x, x = ws[i] := ⟨_, rfl⟩
            rw [← hx] at hcx hsz hgd
            have HG : Hid (ws.getD i ⟨#[]⟩ = x) := hgd
            obtain ⟨m, hm0⟩ : ∃ m, m = numOut x 9999 := ⟨_, rfl⟩
            obtain ⟨g, hg0⟩ : ∃ g, g = numGood x 9999 := ⟨_, rfl⟩
            have HC : Hid (∀ w1, Calls Tryz.prog 205 #[.string x, .int .i64 9999] w1 fun e w' => e = .returned (.tuple #[.int .i64 m, .bool g]) ∧ w1 = w') := fun w1 => by rw [hm0, hg0]; exact implNum_c x 9999 (by unfold maxLen; omega) w1
            have HMG : Hid (m = numOut x 9999 ∧ g = numGood x 9999) := ⟨hm0, hg0⟩
            have hki : (i : Int) < (k : Int) := by omega
            obtain ⟨z0, z1, z2⟩ := hT.cells
            have fz := vblk_frozen hT
            clear hcell rw3 hgd hx hm0 hg0
            cases g with
            | false =>
              have HPW : Hid (partW ws = none) := by
                show _ = _
                have hb : numGood (ws.getD i ⟨#[]⟩) 9999 = false := by rw [HG.out]; exact HMG.out.2.symm
                rw [partW, if_neg (by rw [HK.out]; omega)]
                rcases (show k = 1 ∨ k = 2 by omega) with h1 | h2
                · rw [if_pos (HK.out.trans h1)]
                  have : i = 0 := by omega
                  subst this
                  rw [hb]; rfl
                · rw [if_neg (by rw [HK.out]; omega)]
                  rcases (show i = 0 ∨ i = 1 by omega) with h0 | h0
                  · subst h0; rw [hb]; rfl
                  · subst h0; rw [hb, Bool.and_false]; rfl
              obtain ⟨x0, x1, x2, x3, x4⟩ := hRf.cells
              have fx := vblk_frozen hRf
              obtain ⟨eO, eP⟩ := HN.out (by first | rfl | exact True.intro) HPW.out
              have HO : Hid (partOut s (.slice none 0 0) = .tuple #[.agg #[.int .i64 0, .int .i64 0, .int .i64 0, .slice none 0 0, .int .i64 0], .bool false]) := eO
              have HP2 : Hid (partP s = []) := eP
              clear HN HM eO eP
              go_wp2_with (go_at_call 205; refine (HC.out _).mono ?_; rintro e w9 ⟨rfl, rfl⟩)
              refine bodyPost_ret (v := .tuple #[.agg #[.int .i64 0, .int .i64 0, .int .i64 0, .slice none 0 0, .int .i64 0], .bool false]) (by simp [results, Tryz.results169, go_sem, x0, x1, x2, x3, x4]) rfl ⟨.slice none 0 0, by rw [HO.out], (by rw [HP2.out]; exact ⟨rfl, .inl ⟨rfl, rfl⟩⟩), ?_⟩
              repeat (refine Below.setCell ?_ (by simp <;> omega) _)
              exact hm
            | true =>
              rcases (show i = 0 ∨ i = 1 by omega) with h0 | h0
              · subst h0
                try rw [Nat.add_zero] at hcx
                go_wp2_with (go_at_call 205; refine (HC.out _).mono ?_; rintro e w9 ⟨rfl, rfl⟩)
                go_roundw
                case rel => exact ⟨1, m, c1, by omega, by go_num, ⟨fun j hj => (by have : j = 0 := (by omega); subst this; rw [HG.out]; exact HMG.out.2.symm), fun _ => (by rw [HG.out]; exact HMG.out.1), fun h => by omega, fun _ => hh.out.2.2.2 (by omega)⟩, (hT.set _).1, hbr.setCell (Nat.le_refl _) _⟩
                case measure => simp [intOf]; omega
              · subst h0
                go_wp2_with (go_at_call 205; refine (HC.out _).mono ?_; rintro e w9 ⟨rfl, rfl⟩)
                go_roundw
                case rel => exact ⟨2, c0, m, by omega, by go_num, ⟨fun j hj => (by (by_cases e : j = 1); (· subst e; rw [HG.out]; exact HMG.out.2.symm); (· exact hh.out.1 j (by omega))), fun _ => hh.out.2.1 (by omega), fun _ => (by rw [HG.out]; exact HMG.out.1), fun h => by omega⟩, (hT.set _).2, hbr.setCell (Nat.le_refl _) _⟩
                case measure => simp [intOf]; omega
          · have he : i = k := by omega
            subst he
            have HPW : Hid (partW ws = some (c0, c1, (i : Int))) := by
              show _ = _
              obtain ⟨g1, g2, g3, g4⟩ := hh.out
              rw [partW, if_neg (by rw [HK.out]; omega)]
              rcases (show i = 1 ∨ i = 2 by omega) with h1 | h2
              · have e1 : (i : Int) = 1 := by omega
                rw [if_pos (HK.out.trans h1), if_pos (g1 0 (by omega)), g2 (by omega), g4 (by omega), e1]
              · have e1 : (i : Int) = 2 := by omega
                rw [if_neg (by rw [HK.out]; omega), g1 0 (by omega), g1 1 (by omega), g2 (by omega), g3 (by omega), e1]
                rfl
            obtain ⟨eO, eP⟩ := HM.out (by first | rfl | exact True.intro) _ _ _ HPW.out
            have HO : Hid (partOut s (.slice none 0 0) = .tuple #[.agg #[.int .i64 c0, .int .i64 c1, .int .i64 0, .slice none 0 0, .int .i64 (i : Int)], .bool true]) := eO
            have HP2 : Hid (partP s = []) := eP
            obtain ⟨z0, z1, z2⟩ := hT.cells
            obtain ⟨x0, x1, x2, x3, x4⟩ := hRf.cells
            have fx := vblk_frozen hRf
            clear HN HM eO eP hcell rw3
            go_wp2_with fail
            refine bodyPost_ret (v := .tuple #[.agg #[.int .i64 c0, .int .i64 c1, .int .i64 0, .slice none 0 0, .int .i64 (i : Int)], .bool true]) (by simp [results, Tryz.results169, go_sem, x0, x1, x2, x3, x4]) rfl ⟨.slice none 0 0, by rw [HO.out], (by rw [HP2.out]; exact ⟨rfl, .inl ⟨rfl, rfl⟩⟩), ?_⟩
            repeat (refine Below.setCell ?_ (by simp <;> omega) _)
            exact hm
    · have hk : k = 1 := by omega
      have HK : Hid (toldW ws = k) := by show _ = _; rw [← hst.out]; exact stripK_stop (by omega) (fun h => h1 h.1)
      have h1' : ¬ (1 : Int) < (k : Int) := by omega
      clear hst hk
      by_cases h3 : 3 < ws.length
      · have HPW : Hid (partW ws = none) := by show _ = _; rw [partW, if_pos (.inl h3)]
        have h3' : (3 : Int) < (ws.length : Int) := by omega
        obtain ⟨x0, x1, x2, x3, x4⟩ := R3.cells
        have fx := vblk_frozen R3
        clear hcell rw3 h3
        obtain ⟨eO, eP⟩ := HN.out (by first | rfl | exact True.intro) HPW.out
        have HO : Hid (partOut s (.slice none 0 0) = .tuple #[.agg #[.int .i64 0, .int .i64 0, .int .i64 0, .slice none 0 0, .int .i64 0], .bool false]) := eO
        have HP2 : Hid (partP s = []) := eP
        clear HN HM eO eP
        go_wp2_with fail
        refine bodyPost_ret (v := .tuple #[.agg #[.int .i64 0, .int .i64 0, .int .i64 0, .slice none 0 0, .int .i64 0], .bool false]) (by simp [results, Tryz.results169, go_sem, x0, x1, x2, x3, x4]) rfl ⟨.slice none 0 0, by rw [HO.out], (by rw [HP2.out]; exact ⟨rfl, .inl ⟨rfl, rfl⟩⟩), ?_⟩
        repeat (refine Below.setCell ?_ (by simp <;> omega) _)
        exact k3
      by_cases he3 : k = 3
      · omega
      have hk2 : k ≤ 2 := by omega
      have h3' : ¬ (3 : Int) < (ws.length : Int) := by omega
      have he3' : ((k : Int) == 3) = false := by rw [beq_eq_false_iff_ne]; omega
      have hkc : (k : Int) ≤ (cw : Int) := by omega
      have tB : Below w3.heap.size w3 (w3.alloc (.cells #[.int .i64 0, .int .i64 0, .int .i64 0] 230)) := (Below.refl _ _).alloc (Nat.le_refl _) _
      have T0 := three_new w3 230 (.int .i64 0) (.int .i64 0) (.int .i64 0)
      have h3n := h3
      clear h3 he3
      go_wp2_with fail
      go_loopw [49] (fun vi wr => ∃ (i : Nat) (c0 c1 : Int), i ≤ k ∧ vi = .int .i64 (i : Int) ∧ Hid ((∀ j, j < i → numGood (ws.getD j ⟨#[]⟩) 9999 = true) ∧ (0 < i → c0 = numOut (ws.getD 0 ⟨#[]⟩) 9999) ∧ (1 < i → c1 = numOut (ws.getD 1 ⟨#[]⟩) 9999) ∧ (i ≤ 1 → c1 = 0)) ∧ Three wr w3.heap.size 230 (.int .i64 c0) (.int .i64 c1) (.int .i64 0) ∧ Below w3.heap.size w3 wr) (fun vi _ => k - (intOf vi).toNat)
      case atStart => exact ⟨0, 0, 0, Nat.zero_le _, rfl, ⟨fun j hj => by omega, fun h => by omega, fun h => by omega, fun _ => rfl⟩, T0, tB⟩
      case round =>
        obtain ⟨i, c0, c1, hik, rfl, hh, hT, hbr⟩ := hrel
        have hR := (hbr.block _ l3).trans R3
        have hRf : Five wr w.heap.size 194 (.int .i64 0) (.int .i64 0) (.int .i64 0) (.slice none 0 0) (.int .i64 0) := hR
        have hm := k3.trans (hbr.mono k3.size)
        clear T0 tB hR
        by_cases hlt : i < k
        · have hcx := hcell i (by omega)
          rw [← hbr.cell (p := ⟨bq, off + i, none⟩) hbq] at hcx
          have hsz : ws[i].size ≤ 1048576 := by have := hpc ws[i] (List.getElem_mem _); omega
          have hgd : ws.getD i ⟨#[]⟩ = ws[i] := by simp [List.getD_eq_getElem?_getD, show i < ws.length by omega]
          obtain ⟨x, hx⟩ : ∃ x, x = ws[i] := ⟨_, rfl⟩
          rw [← hx] at hcx hsz hgd
          have HG : Hid (ws.getD i ⟨#[]⟩ = x) := hgd
          obtain ⟨m, hm0⟩ : ∃ m, m = numOut x 9999 := ⟨_, rfl⟩
          obtain ⟨g, hg0⟩ : ∃ g, g = numGood x 9999 := ⟨_, rfl⟩
          have HC : Hid (∀ w1, Calls Tryz.prog 205 #[.string x, .int .i64 9999] w1 fun e w' => e = .returned (.tuple #[.int .i64 m, .bool g]) ∧ w1 = w') := fun w1 => by rw [hm0, hg0]; exact implNum_c x 9999 (by unfold maxLen; omega) w1
          have HMG : Hid (m = numOut x 9999 ∧ g = numGood x 9999) := ⟨hm0, hg0⟩
          have hki : (i : Int) < (k : Int) := by omega
          obtain ⟨z0, z1, z2⟩ := hT.cells
          have fz := vblk_frozen hT
          clear hcell rw3 hgd hx hm0 hg0
          cases g with
          | false =>
            have HPW : Hid (partW ws = none) := by
              show _ = _
              have hb : numGood (ws.getD i ⟨#[]⟩) 9999 = false := by rw [HG.out]; exact HMG.out.2.symm
              rw [partW, if_neg (by rw [HK.out]; omega)]
              rcases (show k = 1 ∨ k = 2 by omega) with h1 | h2
              · rw [if_pos (HK.out.trans h1)]
                have : i = 0 := by omega
                subst this
                rw [hb]; rfl
              · rw [if_neg (by rw [HK.out]; omega)]
                rcases (show i = 0 ∨ i = 1 by omega) with h0 | h0
                · subst h0; rw [hb]; rfl
                · subst h0; rw [hb, Bool.and_false]; rfl
            obtain ⟨x0, x1, x2, x3, x4⟩ := hRf.cells
            have fx := vblk_frozen hRf
            obtain ⟨eO, eP⟩ := HN.out (by first | rfl | exact True.intro) HPW.out
            have HO : Hid (partOut s (.slice none 0 0) = .tuple #[.agg #[.int .i64 0, .int .i64 0, .int .i64 0, .slice none 0 0, .int .i64 0], .bool false]) := eO
            have HP2 : Hid (partP s = []) := eP
            clear HN HM eO eP
            go_wp2_with (go_at_call 205; refine (HC.out _).mono ?_; rintro e w9 ⟨rfl, rfl⟩)
            refine bodyPost_ret (v := .tuple #[.agg #[.int .i64 0, .int .i64 0, .int .i64 0, .slice none 0 0, .int .i64 0], .bool false]) (by simp [results, Tryz.results169, go_sem, x0, x1, x2, x3, x4]) rfl ⟨.slice none 0 0, by rw [HO.out], (by rw [HP2.out]; exact ⟨rfl, .inl ⟨rfl, rfl⟩⟩), ?_⟩
            repeat (refine Below.setCell ?_ (by simp <;> omega) _)
            exact hm
          | true =>
            rcases (show i = 0 ∨ i = 1 by omega) with h0 | h0
            · subst h0
              try rw [Nat.add_zero] at hcx
              go_wp2_with (go_at_call 205; refine (HC.out _).mono ?_; rintro e w9 ⟨rfl, rfl⟩)
              go_roundw
              case rel => exact ⟨1, m, c1, by omega, by go_num, ⟨fun j hj => (by have : j = 0 := (by omega); subst this; rw [HG.out]; exact HMG.out.2.symm), fun _ => (by rw [HG.out]; exact HMG.out.1), fun h => by omega, fun _ => hh.out.2.2.2 (by omega)⟩, (hT.set _).1, hbr.setCell (Nat.le_refl _) _⟩
              case measure => simp [intOf]; omega
            · omega
        · have he : i = k := by omega
          subst he
          have HPW : Hid (partW ws = some (c0, c1, (i : Int))) := by
            show _ = _
            obtain ⟨g1, g2, g3, g4⟩ := hh.out
            rw [partW, if_neg (by rw [HK.out]; omega)]
            rcases (show i = 1 ∨ i = 2 by omega) with h1 | h2
            · have e1 : (i : Int) = 1 := by omega
              rw [if_pos (HK.out.trans h1), if_pos (g1 0 (by omega)), g2 (by omega), g4 (by omega), e1]
            · have e1 : (i : Int) = 2 := by omega
              rw [if_neg (by rw [HK.out]; omega), g1 0 (by omega), g1 1 (by omega), g2 (by omega), g3 (by omega), e1]
              rfl
          obtain ⟨eO, eP⟩ := HM.out (by first | rfl | exact True.intro) _ _ _ HPW.out
          have HO : Hid (partOut s (.slice none 0 0) = .tuple #[.agg #[.int .i64 c0, .int .i64 c1, .int .i64 0, .slice none 0 0, .int .i64 (i : Int)], .bool true]) := eO
          have HP2 : Hid (partP s = []) := eP
          obtain ⟨z0, z1, z2⟩ := hT.cells
          obtain ⟨x0, x1, x2, x3, x4⟩ := hRf.cells
          have fx := vblk_frozen hRf
          clear HN HM eO eP hcell rw3
          go_wp2_with fail
          refine bodyPost_ret (v := .tuple #[.agg #[.int .i64 c0, .int .i64 c1, .int .i64 0, .slice none 0 0, .int .i64 (i : Int)], .bool true]) (by simp [results, Tryz.results169, go_sem, x0, x1, x2, x3, x4]) rfl ⟨.slice none 0 0, by rw [HO.out], (by rw [HP2.out]; exact ⟨rfl, .inl ⟨rfl, rfl⟩⟩), ?_⟩
          repeat (refine Below.setCell ?_ (by simp <;> omega) _)
          exact hm
end Go.Proofs.YtbolphjigjpmiabGreatDoor

/-! Whether a Cmp of a list has a version that is not right, the program's look: contracts for the walks; conditions: the list lies in memory as told, and holds no more than 2 to the 20. -/
namespace Go.Proofs.YtbolphjigjpmiabGreatDoor
open Go.RowKit
set_option linter.unusedSimpArgs false
set_option linter.unusedVariables false

def goodD (d : CmpD) : Bool := verB d.a d.b d.c d.ps

/-- What the call holds alone, read: each Cmp lies in its row. -/
theorem CmpsOwn.at {lo : Nat} {w : World} {v : Value} {ds : List CmpD} (h : CmpsOwn lo w v ds) : ∃ (q : Option Addr) (cap : Nat) (us : Nat → Value), v = .slice q ds.length cap ∧ (ds = [] ∨ ∃ g, q = some ⟨g, 0, none⟩ ∧ lo ≤ g ∧ g < w.heap.size ∧ ∀ i (h : i < ds.length), w.cell? ⟨g, i * 5, none⟩ = some (.int .i64 ds[i].o) ∧ w.cell? ⟨g, i * 5 + 1, none⟩ = some (.int .i64 ds[i].a) ∧ w.cell? ⟨g, i * 5 + 2, none⟩ = some (.int .i64 ds[i].b) ∧ w.cell? ⟨g, i * 5 + 3, none⟩ = some (.int .i64 ds[i].c) ∧ w.cell? ⟨g, i * 5 + 4, none⟩ = some (us i)) ∧ ∀ i (h : i < ds.length), Reads w (us i) (strsV ds[i].ps) := by
  obtain ⟨ys, us, h1, h2, h3⟩ := h
  have hr : ∀ i (h : i < ds.length), Reads w (us i) (strsV ds[i].ps) := fun i hi => reads_of_owns (h2 i hi).2
  have hlen := h1.1
  rcases h1.2 with ⟨rfl, hn⟩ | ⟨g, cap, cur, rfl, hg, hh, hx⟩
  · exact ⟨none, 0, us, by rw [hn], .inl (List.eq_nil_of_length_eq_zero hn), hr⟩
  · have hl := (Array.getElem?_eq_some_iff.1 hh).1
    refine ⟨_, cap, us, rfl, .inr ⟨g, rfl, hg, hl, fun i hi => ?_⟩, hr⟩
    obtain ⟨f0, f1, f2, f3, f4⟩ := (h2 i hi).1
    refine ⟨?_, ?_, ?_, ?_, ?_⟩ <;> rw [h1.cellAt _ (by omega)] <;> assumption

set_option maxHeartbeats 1000000 in
set_option maxRecDepth 100000 in
theorem badCmp_c (d : CmpD) (u : Value) (w : World) (hu : Reads w u (strsV d.ps)) (hb : bulkS d.ps ≤ 1048576) :
    Calls Tryz.prog 172 #[.agg #[.int .i64 d.o, .int .i64 d.a, .int .i64 d.b, .int .i64 d.c, u]] w fun e w' => e = .returned (.bool (!goodD d)) ∧ Below w.heap.size w w' := by
  have hbx : ∀ o, Below w.heap.size w (w.alloc o) := fun o => (Below.refl _ _).alloc (Nat.le_refl _) _
  have HV : Hid (∀ o, Calls Tryz.prog 78 #[.agg #[.int .i64 d.a, .int .i64 d.b, .int .i64 d.c, u]] (w.alloc o) fun e w' => e = .returned (.bool (goodD d)) ∧ Below (w.alloc o).heap.size (w.alloc o) w') := fun o => implVerOk_c _ _ _ _ d.ps _ (hu.below (hbx o)) hb
  obtain ⟨q, cap, rfl, _, _⟩ := reads_strs hu
  clear hu
  go_enter Tryz.func172, Tryz.ntmps172
  go_wp2_with (go_at_call 78; refine (HV.out _).mono ?_; rintro e w1 ⟨rfl, b1⟩)
  go_ret
  exact ⟨rfl, (hbx _).trans (b1.mono (by simp))⟩

set_option maxHeartbeats 1000000 in
set_option maxRecDepth 100000 in
theorem indexBad_c (lo : Nat) (v : Value) (ds : List CmpD) (w : World) (hv : CmpsOwn lo w v ds) (hl : ds.length ≤ 1048576) (hb : ∀ d ∈ ds, bulkS d.ps ≤ 1048576) :
    Calls Tryz.prog 209 #[v, .func (.func 172) #[] #[]] w fun e w' => ∃ r : Int, e = .returned (.int .i64 r) ∧ decide (r ≥ 0) = (!ds.all goodD) ∧ Below w.heap.size w w' := by
  obtain ⟨q, cap, us, rfl, ha, hr⟩ := hv.at
  clear hv
  go_enter Tryz.func209, Tryz.ntmps209
  go_wp2_with fail
  go_loopw [8] (fun vi wr => ∃ k : Nat, k ≤ ds.length ∧ vi = .int .i64 (k : Int) ∧ Hid ((ds.take k).all goodD = true) ∧ Below w.heap.size w wr) (fun vi _ => ds.length - (intOf vi).toNat)
  case atStart => exact ⟨0, Nat.zero_le _, rfl, (by show _ = _; simp), Below.refl _ _⟩
  case round =>
    obtain ⟨k, hk, rfl, hall, hbr⟩ := hrel
    by_cases hlt : k < ds.length
    · rcases ha with rfl | ⟨g, rfl, _, hg, ha⟩
      · simp at hlt
      obtain ⟨e0, e1, e2, e3, e4⟩ := ha k hlt
      rw [← hbr.cell (by simpa using hg)] at e0 e1 e2 e3 e4
      have hu := (hr k hlt).below hbr
      have hbk := hb _ (List.getElem_mem hlt)
      have HT : Hid (goodD ds[k] = true → (ds.take (k + 1)).all goodD = true) := fun h => by rw [List.take_succ_eq_append_getElem hlt, List.all_append, hall.out]; simp [h]
      have HF : Hid (goodD ds[k] = false → ds.all goodD = false) := fun h => by rw [List.all_eq_false]; exact ⟨_, List.getElem_mem hlt, by simp [h]⟩
      obtain ⟨d, hd⟩ : ∃ d, d = ds[k] := ⟨_, rfl⟩
      rw [← hd] at e0 e1 e2 e3 hu hbk HT HF
      obtain ⟨u, hu0⟩ : ∃ u, u = us k := ⟨_, rfl⟩
      rw [← hu0] at e4 hu
      obtain ⟨r, hr0⟩ : ∃ r, r = goodD d := ⟨_, rfl⟩
      have HC : Hid (Calls Tryz.prog 172 #[.agg #[.int .i64 d.o, .int .i64 d.a, .int .i64 d.b, .int .i64 d.c, u]] wr fun e w' => e = .returned (.bool (!r)) ∧ Below wr.heap.size wr w') := by rw [hr0]; exact badCmp_c d u wr hu hbk
      rw [← hr0] at HT HF
      obtain ⟨uq, ucap, hu2, _, _⟩ := reads_strs hu
      subst hu2
      have hki : (k : Int) < (ds.length : Int) := by omega
      clear ha hr hd hu0 hr0 hu hbk hb
      cases r with
      | false =>
        have HF2 : Hid (ds.all goodD = false) := HF.out rfl
        clear HT HF
        go_wp2_with (go_at_call 172; refine HC.out.mono ?_; rintro e w1 ⟨rfl, b1⟩)
        go_ret
        exact ⟨(k : Int), rfl, by rw [HF2.out]; exact decide_eq_true (by omega), hbr.trans (b1.mono hbr.size)⟩
      | true =>
        have HT2 : Hid ((ds.take (k + 1)).all goodD = true) := HT.out rfl
        clear HT HF
        go_wp2_with (go_at_call 172; refine HC.out.mono ?_; rintro e w1 ⟨rfl, b1⟩)
        go_roundw
        case rel => exact ⟨k + 1, by omega, by go_num, HT2, hbr.trans (b1.mono hbr.size)⟩
        case measure => simp [intOf]; omega
    · have he : k = ds.length := by omega
      subst he
      have HE : Hid (ds.all goodD = true) := by have := hall.out; rw [List.take_length] at this; exact this
      clear ha hr hall
      go_wp2_with fail
      go_ret
      exact ⟨-1, rfl, by rw [HE.out]; rfl, hbr⟩

set_option maxHeartbeats 1000000 in
set_option maxRecDepth 100000 in
theorem containsBad_c (lo : Nat) (v : Value) (ds : List CmpD) (w : World) (hv : CmpsOwn lo w v ds) (hl : ds.length ≤ 1048576) (hb : ∀ d ∈ ds, bulkS d.ps ≤ 1048576) :
    Calls Tryz.prog 171 #[v, .func (.func 172) #[] #[]] w fun e w' => e = .returned (.bool (!ds.all goodD)) ∧ Below w.heap.size w w' := by
  have HA := indexBad_c lo v ds w hv hl hb
  obtain ⟨q, cap, us, rfl, _, _⟩ := hv.at
  obtain ⟨R, hR⟩ : ∃ R, R = (!ds.all goodD) := ⟨_, rfl⟩
  rw [← hR] at HA
  rw [← hR]
  have HA' : Hid (Calls Tryz.prog 209 #[.slice q ds.length cap, .func (.func 172) #[] #[]] w fun e w' => ∃ r : Int, e = .returned (.int .i64 r) ∧ decide (r ≥ 0) = R ∧ Below w.heap.size w w') := HA
  clear HA hR hv
  go_enter Tryz.func171, Tryz.ntmps171
  go_wp2_with (go_at_call 209; refine HA'.out.mono ?_; rintro e w1 ⟨r, rfl, hr, b1⟩; have HR : Hid (decide (r ≥ 0) = R) := hr; clear hr)
  go_ret
  exact ⟨by rw [← HR.out]; rfl, b1⟩
end Go.Proofs.YtbolphjigjpmiabGreatDoor

/-! The contract of the library for the text that a Builder holds, taken over from the library of contracts at the numbers of this program; conditions as it says. -/
namespace Go.Proofs
open Go.Shelf
def Tryz.lays169_ren : Go.Shelf.Ren := ⟨fun | 169 => 96 | n => n, fun | 70 => 134 | 9 => 9 | 0 => 0 | 72 => 136 | 37 => 131 | 127 => 164 | 3 => 3 | 5 => 5 | n => n, fun | n => n⟩
theorem Tryz.lays169 : Go.Proofs.Lays.n169 Tryz.prog Tryz.lays169_ren := {
  mixed := by kernel_rfl
  f169 := Tryz.func96.trans (congrArg some (by kernel_rfl))
  t0 := Tryz.underlying0
  a0 := Tryz.isAgg0
  z0 := Tryz.sizeOf0
  v0 := Tryz.zeroValue0
  t3 := Tryz.underlying3
  a3 := Tryz.isAgg3
  z3 := Tryz.sizeOf3
  v3 := Tryz.zeroValue3
  t9 := Tryz.underlying9
  a9 := Tryz.isAgg9
  z9 := Tryz.sizeOf9
  v9 := Tryz.zeroValue9
  t37 := Tryz.underlying131
  a37 := Tryz.isAgg131
  z37 := Tryz.sizeOf131
  v37 := Tryz.zeroValue131
  t70 := Tryz.underlying134
  a70 := Tryz.isAgg134
  z70 := Tryz.sizeOf134
  v70 := Tryz.zeroValue134
  t72 := Tryz.underlying136
  a72 := Tryz.isAgg136
  z72 := Tryz.sizeOf136
  v72 := Tryz.zeroValue136
  t127 := Tryz.underlying164
  a127 := Tryz.isAgg164
  z127 := Tryz.sizeOf164
  v127 := Tryz.zeroValue164 }
theorem Tryz.Builder_Extra_169 : Builder.Extra Tryz.prog Tryz.lays169_ren := {
  sizeBuilder := by kernel_rfl
  liesBuilder := by kernel_rfl
  t5 := Tryz.underlying5
  a5 := Tryz.isAgg5
  z5 := Tryz.sizeOf5
  v5 := Tryz.zeroValue5
  infoByte := by kernel_rfl
  cellsByte := by kernel_rfl
  sizeByte := by kernel_rfl
  neB5 := by decide }
open Go.RowKit in
theorem Tryz.Builder_String (B b : Nat) (l : List UInt8) (w : World) (h : Lib.IsBuilder 136 5 B b (Lib.byteCells l) w) (h0 : l ≠ []) :
    Calls Tryz.prog 96 #[.pointer (some ⟨b, 0, none⟩)] w fun e w' => e = .returned (.string ⟨l.toArray⟩) ∧ Below B w w' := Any.Builder_String Tryz.lays169 Tryz.Builder_Extra_169 B b l w h h0
open Go.RowKit in
theorem Tryz.Builder_String_empty (B b : Nat) (w : World) (h : Lib.IsBuilder 136 5 B b [] w) (hBw : B ≤ w.heap.size) :
    Calls Tryz.prog 96 #[.pointer (some ⟨b, 0, none⟩)] w fun e w' => e = .returned (.string ⟨#[]⟩) ∧ Below B w w' := Any.Builder_String_empty Tryz.lays169 Tryz.Builder_Extra_169 B b w h hBw
open Go.RowKit in
theorem Tryz.Builder_String_any (B b : Nat) (l : List UInt8) (w : World) (h : Lib.IsBuilder 136 5 B b (Lib.byteCells l) w) (hBw : B ≤ w.heap.size) :
    Calls Tryz.prog 96 #[.pointer (some ⟨b, 0, none⟩)] w fun e w' => e = .returned (.string ⟨l.toArray⟩) ∧ Below B w w' := Any.Builder_String_any Tryz.lays169 Tryz.Builder_Extra_169 B b l w h hBw
end Go.Proofs

/-! What writing a text into a Builder of the call's own does, walked at this program's own copy of the library's text: the Builder holds the bytes behind those that it held; condition: together at most 2 to the 47. -/
namespace Go.Proofs.YtbolphjigjpmiabGreatDoor
open Go.RowKit
set_option linter.unusedSimpArgs false
set_option linter.unusedVariables false

theorem sizeBuilder : (Tryz.prog.info? 136).map (·.size) = some 2 := by kernel_rfl

set_option maxHeartbeats 1000000 in
set_option maxRecDepth 100000 in
theorem check_used (b : Nat) (w : World) (h0 : w.cell? ⟨b, 0, none⟩ = some (.pointer (some ⟨b, 0, none⟩))) :
    Calls Tryz.prog 131 #[.pointer (some ⟨b, 0, none⟩)] w fun e w' => e = .returned (.tuple #[]) ∧ w = w' := by
  obtain ⟨j, hj, _⟩ := Option.map_eq_some_iff.1 sizeBuilder
  have hne := Lib.run_neq_ptr_same w (⟨b, 0, none⟩ : Addr) Tryz.underlying134 hj
  go_enter Tryz.func131, Tryz.ntmps131
  go_wp2
  go_end0
  exact ⟨rfl, rfl⟩

set_option maxHeartbeats 1000000 in
set_option maxRecDepth 100000 in
theorem check_fresh (b : Nat) (w : World) (h0 : w.cell? ⟨b, 0, none⟩ = some (.pointer none)) (hsh : w.shape? b = some (136, 2)) (hfz : w.frozen? ⟨b, 0, none⟩ = false) :
    Calls Tryz.prog 131 #[.pointer (some ⟨b, 0, none⟩)] w fun e w' => e = .returned (.tuple #[]) ∧ w.setCell ⟨b, 0, none⟩ (.pointer (some ⟨b, 0, none⟩)) = w' := by
  obtain ⟨j, hj, hjs⟩ := Option.map_eq_some_iff.1 sizeBuilder
  have u1 := Lib.run_to_unsafe w ⟨b, 0, none⟩ Tryz.underlying134 Tryz.underlying185 hj (by rw [hjs]; decide) hsh (Nat.zero_lt_succ 1)
  have u2 := Lib.run_from_unsafe w ⟨b, 0, none⟩ Tryz.underlying185 Tryz.underlying134 hj hsh (by kernel_rfl)
  have u3 : ∀ v w, (callFunc 160 #[v]).run Tryz.prog w = .ok (.value v) w := fun v w => by
    rw [run_callFunc_extern Tryz.func160 (by kernel_rfl) (by kernel_rfl) (by kernel_rfl) (e := Extern.AbiNoEscape.same) (by kernel_rfl), Lib.run_noEscape]
    rfl
  go_enter Tryz.func131, Tryz.ntmps131
  go_wp2
  go_end0
  exact ⟨rfl, rfl⟩

theorem check_c (B b : Nat) (bs : List Value) (w : World) (h : Lib.IsBuilder 136 5 B b bs w) :
    Calls Tryz.prog 131 #[.pointer (some ⟨b, 0, none⟩)] w fun e w' => e = .returned (.tuple #[]) ∧ (Lib.BuilderAt 136 5 B b (.pointer (some ⟨b, 0, none⟩)) bs w' ∧ Below B w w') := by
  rcases h with h | h
  · exact (check_fresh b w h.cell0 h.shape h.frozen0).mono fun e w' ⟨h1, h2⟩ => by
      subst h2
      exact ⟨h1, h.used _, (Below.refl B w).setCell (p := ⟨b, 0, none⟩) h.1 _⟩
  · exact (check_used b w h.cell0).mono fun e w' ⟨h1, h2⟩ => by
      subst h2
      exact ⟨h1, h, Below.refl B _⟩

set_option maxHeartbeats 2000000 in
set_option maxRecDepth 100000 in
theorem write_c (B b : Nat) (bs : List Value) (s : ByteArray) (w : World) (h : Lib.IsBuilder 136 5 B b bs w) (hlen : bs.length + s.size ≤ 140737488355328) (hBw : B ≤ w.heap.size) :
    Calls Tryz.prog 93 #[.pointer (some ⟨b, 0, none⟩), .string s] w fun e w' => e = .returned (.tuple #[.int .i64 s.size, .nilIface]) ∧ (Lib.BuilderAt 136 5 B b (.pointer (some ⟨b, 0, none⟩)) (bs ++ Lib.strCells s) w' ∧ Below B w w') := by
  obtain ⟨i0, hi, hz0, hz1, hz2⟩ := info_parts info5
  go_enter Tryz.func93, Tryz.ntmps93
  go_wp2_with (first
    | (go_at_call 131
       refine (check_c B b bs _ h).mono ?_
       rintro e w1 ⟨rfl, h1, hb1⟩
       obtain ⟨hB, v, hbk, hown, hne⟩ := h1
       have c0 : w1.cell? ⟨b, 0, none⟩ = some (.pointer (some ⟨b, 0, none⟩)) := by rw [Lib.cell_of_heap hbk]; rfl
       have c1 : w1.cell? ⟨b, 1, none⟩ = some v := by rw [Lib.cell_of_heap hbk]; rfl)
    | (at_builtin; refine Lib.wpList_append_own_string _ rfl _ _ 131 9 rfl B 5 i0 Tryz.underlying131 Tryz.underlying9 hi hz0 hz1 hz2 _ bs.length bs rfl hown s rfl (by unfold maxLen; omega) hlen (Nat.le_trans hBw hb1.size) ?_))
  intro v' w2 hown' hgrow hnil
  have hlt : b < w1.heap.size := (Array.getElem?_eq_some_iff.1 hbk).1
  have hb2 : w2.heap[b]? = some (.cells #[.pointer (some ⟨b, 0, none⟩), v] 136 (0, 0)) := by
    rw [hgrow.block b hlt (fun e => hne e.symm)]
    exact hbk
  have d0 : w2.cell? ⟨b, 0, none⟩ = some (.pointer (some ⟨b, 0, none⟩)) := by rw [Lib.cell_of_heap hb2]; rfl
  have d1 : w2.cell? ⟨b, 1, none⟩ = some v := by rw [Lib.cell_of_heap hb2]; rfl
  have f1 : w2.frozen? ⟨b, 1, none⟩ = false := Lib.frozen_of_heap hb2 1
  have hex : ∃ ao cap, v' = .slice ao (bs.length + s.size) cap := by
    rcases hown'.2 with ⟨hv, h0⟩ | ⟨g, cap, cur, hv, _⟩
    · exact ⟨none, 0, by rw [hv, h0]⟩
    · exact ⟨_, cap, hv⟩
  have hbel : Below B w (w2.setCell ⟨b, 1, none⟩ v') := (hb1.grown hgrow (Nat.le_trans hBw hb1.size) (fun k hk => (hown.lt k hk).1)).setCell (p := ⟨b, 1, none⟩) hB _
  have hput : Lib.BuilderAt 136 5 B b (.pointer (some ⟨b, 0, none⟩)) (bs ++ Lib.strCells s) (w2.setCell ⟨b, 1, none⟩ v') :=
    Lib.BuilderAt.put hB hb2 (bs' := bs ++ Lib.strCells s) (by rw [List.length_append, Lib.strCells_length]; exact hown') (by decide)
  obtain ⟨ao, cap, hv⟩ := hex
  subst hv
  clear hnil
  go_wp2
  go_ret2
  exact ⟨rfl, hput, hbel⟩
end Go.Proofs.YtbolphjigjpmiabGreatDoor

/-! What all texts of a list make with another text between them, and what the two functions Join (the program's, by a Builder, and the specification's) answer: just that text; conditions: at most 2 to the 20 texts and letters in the list, and as many in the text between. -/
namespace Go.Proofs.YtbolphjigjpmiabGreatDoor
open Go.RowKit
set_option linter.unusedSimpArgs false
set_option linter.unusedVariables false

def joinUpto (ss : List ByteArray) (t : ByteArray) : Nat → ByteArray
  | 0 => ⟨#[]⟩
  | k + 1 => (if k = 0 then joinUpto ss t k else joinUpto ss t k ++ t) ++ ss.getD k ⟨#[]⟩
def joinS (ss : List ByteArray) (t : ByteArray) : ByteArray := joinUpto ss t ss.length

theorem joinUpto_size (ss : List ByteArray) (t : ByteArray) : ∀ k, k ≤ ss.length → (joinUpto ss t k).size ≤ k * t.size + ((ss.take k).map ByteArray.size).sum
  | 0, _ => by simp [joinUpto]; rfl
  | k + 1, h => by
    have ih := joinUpto_size ss t k (by omega)
    have hs := sum_take_succ ss k (by omega)
    have hg : ss.getD k ⟨#[]⟩ = ss[k] := by simp [List.getD_eq_getElem?_getD, show k < ss.length by omega]
    rw [joinUpto, ByteArray.size_append, hg, hs, Nat.succ_mul]
    split
    · omega
    · rw [ByteArray.size_append]; omega
theorem joinUpto_succ0 (ss : List ByteArray) (t : ByteArray) (h : 0 < ss.length) : joinUpto ss t 1 = joinUpto ss t 0 ++ ss[0] := by
  simp [joinUpto, List.getD_eq_getElem?_getD, h]
theorem joinUpto_succ (ss : List ByteArray) (t : ByteArray) (k : Nat) (hk : ¬ k = 0) (h : k < ss.length) : joinUpto ss t (k + 1) = joinUpto ss t k ++ t ++ ss[k] := by
  rw [joinUpto, if_neg hk]
  simp [List.getD_eq_getElem?_getD, h]

theorem join_bound (ss : List ByteArray) (t : ByteArray) (k : Nat) (hk : k ≤ ss.length) (hb : bulkS ss ≤ 1048576) (ht : t.size ≤ 1048576) : (joinUpto ss t k).size ≤ 1099512676352 := by
  have h1 := joinUpto_size ss t k hk
  have h2 := sum_take_le ss k
  have h3 : k * t.size ≤ 1048576 * 1048576 := Nat.mul_le_mul (by unfold bulkS at hb; omega) ht
  unfold bulkS at hb
  omega

theorem strCells_append (a b : ByteArray) : Lib.strCells (a ++ b) = Lib.strCells a ++ Lib.strCells b := by
  simp [Lib.strCells, ByteArray.data_append]

theorem fresh_builder (w : World) : Lib.IsBuilder 136 5 w.heap.size w.heap.size [] (w.alloc (.cells #[.pointer none, .slice none 0 0] 136)) :=
  .inl ⟨Nat.le_refl _, .slice none 0 0, heap_alloc_new w _, World.ownsRow_nil _ _ _ _, by simp [Value.ownBlock]⟩

end Go.Proofs.YtbolphjigjpmiabGreatDoor

/-! The contract of the library for the digits of a number, taken over from the library of contracts at the numbers of this program; conditions as it says. -/
namespace Go.Proofs
open Go.Shelf
def Tryz.laysM171_ren : Go.Shelf.Ren := ⟨fun | 171 => 94 | 243 => 132 | 246 => 161 | 283 => 194 | 284 => 195 | 285 => 196 | 286 => 197 | 129 => 190 | 317 => 224 | 318 => 225 | 319 => 226 | 320 => 227 | 337 => 235 | 338 => 236 | n => n, fun | 3 => 3 | 9 => 9 | 2 => 2 | 4 => 4 | 171 => 219 | 0 => 0 | 53 => 213 | 37 => 131 | 5 => 5 | 173 => 221 | 212 => 246 | 51 => 211 | 20 => 20 | 213 => 247 | 46 => 183 | 232 => 258 | 233 => 259 | n => n, fun | 17 => 1 | 18 => 5 | 19 => 6 | n => n⟩
theorem Tryz.laysM171 : Go.Proofs.LaysM.n171 Tryz.prog Tryz.laysM171_ren := {
  mixed := by kernel_rfl
  f129 := Tryz.func190.trans (congrArg some (by kernel_rfl))
  f171 := Tryz.func94.trans (congrArg some (by kernel_rfl))
  f243 := Tryz.func132.trans (congrArg some (by kernel_rfl))
  f246 := Tryz.func161.trans (congrArg some (by kernel_rfl))
  f283 := Tryz.func194.trans (congrArg some (by kernel_rfl))
  f284 := Tryz.func195.trans (congrArg some (by kernel_rfl))
  f285 := Tryz.func196.trans (congrArg some (by kernel_rfl))
  f286 := Tryz.func197.trans (congrArg some (by kernel_rfl))
  f317 := Tryz.func224.trans (congrArg some (by kernel_rfl))
  f318 := Tryz.func225.trans (congrArg some (by kernel_rfl))
  f319 := Tryz.func226.trans (congrArg some (by kernel_rfl))
  f320 := Tryz.func227.trans (congrArg some (by kernel_rfl))
  f337 := Tryz.func235.trans (congrArg some (by kernel_rfl))
  f338 := Tryz.func236.trans (congrArg some (by kernel_rfl))
  t0 := Tryz.underlying0
  a0 := Tryz.isAgg0
  z0 := Tryz.sizeOf0
  v0 := Tryz.zeroValue0
  t2 := Tryz.underlying2
  a2 := Tryz.isAgg2
  z2 := Tryz.sizeOf2
  v2 := Tryz.zeroValue2
  t3 := Tryz.underlying3
  a3 := Tryz.isAgg3
  z3 := Tryz.sizeOf3
  v3 := Tryz.zeroValue3
  t4 := Tryz.underlying4
  a4 := Tryz.isAgg4
  z4 := Tryz.sizeOf4
  v4 := Tryz.zeroValue4
  t5 := Tryz.underlying5
  a5 := Tryz.isAgg5
  z5 := Tryz.sizeOf5
  v5 := Tryz.zeroValue5
  t9 := Tryz.underlying9
  a9 := Tryz.isAgg9
  z9 := Tryz.sizeOf9
  v9 := Tryz.zeroValue9
  t20 := Tryz.underlying20
  a20 := Tryz.isAgg20
  z20 := Tryz.sizeOf20
  v20 := Tryz.zeroValue20
  t37 := Tryz.underlying131
  a37 := Tryz.isAgg131
  z37 := Tryz.sizeOf131
  v37 := Tryz.zeroValue131
  t46 := Tryz.underlying183
  a46 := Tryz.isAgg183
  z46 := Tryz.sizeOf183
  v46 := Tryz.zeroValue183
  t51 := Tryz.underlying211
  a51 := Tryz.isAgg211
  z51 := Tryz.sizeOf211
  v51 := Tryz.zeroValue211
  t53 := Tryz.underlying213
  a53 := Tryz.isAgg213
  z53 := Tryz.sizeOf213
  v53 := Tryz.zeroValue213
  t171 := Tryz.underlying219
  a171 := Tryz.isAgg219
  z171 := Tryz.sizeOf219
  v171 := Tryz.zeroValue219
  t173 := Tryz.underlying221
  a173 := Tryz.isAgg221
  z173 := Tryz.sizeOf221
  v173 := Tryz.zeroValue221
  t212 := Tryz.underlying246
  a212 := Tryz.isAgg246
  z212 := Tryz.sizeOf246
  v212 := Tryz.zeroValue246
  t213 := Tryz.underlying247
  a213 := Tryz.isAgg247
  z213 := Tryz.sizeOf247
  t232 := Tryz.underlying258
  a232 := Tryz.isAgg258
  z232 := Tryz.sizeOf258
  v232 := Tryz.zeroValue258
  t233 := Tryz.underlying259
  a233 := Tryz.isAgg259
  z233 := Tryz.sizeOf259
  v233 := Tryz.zeroValue259
  g17 := by kernel_rfl
  g18 := by kernel_rfl
  g19 := by kernel_rfl
  i0 := by kernel_rfl
  i2 := by kernel_rfl
  i3 := by kernel_rfl
  i4 := by kernel_rfl
  i5 := by kernel_rfl
  i9 := by kernel_rfl
  i20 := by kernel_rfl
  i37 := by kernel_rfl
  i46 := by kernel_rfl
  i51 := by kernel_rfl
  i53 := by kernel_rfl
  i171 := by kernel_rfl
  i173 := by kernel_rfl
  i212 := by kernel_rfl
  i232 := by kernel_rfl
  i233 := by kernel_rfl
  m17 := by kernel_rfl
  m18 := by kernel_rfl
  m19 := by kernel_rfl }
open Go.RowKit Go.Sort Go.Lib in
theorem Tryz.strconv_Itoa (n : Int) (h0 : -9223372036854775808 ≤ n) (h1 : n ≤ 9223372036854775807) (w : World) (htab : Lib.TabIs Tryz.prog w "internal/strconv.uint64pow10" .u64 Lib.pow10Tab) :
    Calls Tryz.prog 94 #[.int .i64 n] w fun e w' => e = .returned (.string ⟨(Lib.itoa n).toArray⟩) ∧ ∃ k os, w' = grow (w.drewN k) os := Any.strconv_Itoa Tryz.laysM171 n h0 h1 w htab
end Go.Proofs

/-! What the two functions NumText (the program's, by the library's Itoa, and the specification's) answer: the digits of the number, of 0 where it is below 0; condition: the library's table of powers of ten lies in memory as its initialiser lays it. -/
namespace Go.Proofs.YtbolphjigjpmiabGreatDoor
open Go.RowKit
set_option linter.unusedSimpArgs false
set_option linter.unusedVariables false

def numStr (n : Nat) : ByteArray := ⟨(Lib.decDigits n).toArray⟩

theorem conv_digit {w : World} (x : Int) : (convert 131 9 (.slice (some ⟨w.heap.size, 0, none⟩) 1 1)).run Tryz.prog (w.alloc (.cells #[.int .u8 x] 5)) = .ok (.string (strOfNums [x])) (w.alloc (.cells #[.int .u8 x] 5)) := by
  refine run_convert_bytes_arg _ 131 5 Tryz.underlying131 Tryz.underlying5 _ 0 1 1 [x] rfl (fun i hi => ?_) 9 Tryz.underlying9
  have : i = 0 := by omega
  subst this
  simp

/-- What is told already, and what is left. -/
def DigitsLeft (N m : Nat) (s : ByteArray) : Prop := Lib.decDigits N = (if m < 10 then [] else Lib.decDigits (m / 10)) ++ s.data.toList

theorem digit_list (m : Nat) : (strOfNums [48 + (m : Int) % 10]).data.toList = [UInt8.ofNat (48 + m % 10)] := by
  rw [strOfNums_data]
  show [UInt8.ofNat (48 + (m : Int) % 10).toNat] = _
  have e : (48 + (m : Int) % 10).toNat = 48 + m % 10 := by omega
  rw [e]
theorem digits_start (N : Nat) : DigitsLeft N N (strOfNums [48 + (N : Int) % 10]) := by
  unfold DigitsLeft
  rw [digit_list]
  by_cases h : N < 10
  · rw [if_pos h, Lib.decDigits, dif_pos h, Nat.mod_eq_of_lt h]; rfl
  · rw [if_neg h, Lib.decDigits, dif_neg h]
theorem digits_step {N m : Nat} {s : ByteArray} (hm : ¬ m < 10) (h : DigitsLeft N m s) : DigitsLeft N (m / 10) (strOfNums [48 + ((m / 10 : Nat) : Int) % 10] ++ s) := by
  unfold DigitsLeft at *
  rw [h, if_neg hm, ByteArray.data_append, Array.toList_append, digit_list, ← List.append_assoc]
  congr 1
  by_cases h2 : m / 10 < 10
  · rw [if_pos h2, Lib.decDigits, dif_pos h2, Nat.mod_eq_of_lt h2]; rfl
  · rw [if_neg h2]
    conv => lhs; rw [Lib.decDigits, dif_neg h2]
theorem digits_end {N m : Nat} {s : ByteArray} (hm : m < 10) (h : DigitsLeft N m s) : s = numStr N := by
  unfold DigitsLeft at h
  rw [if_pos hm, List.nil_append] at h
  apply ByteArray.ext
  apply Array.toList_inj.1
  rw [← h, numStr]

theorem tabIs_below {w w' : World} {n : String} {k : IntKind} {zs : List Int} (b : Below w.heap.size w w') (h : Lib.TabIs Tryz.prog w n k zs) : Lib.TabIs Tryz.prog w' n k zs := Lib.tabBelow_of_tabIs h w' b

theorem below_grow (w : World) (k : Nat) (os : Array Obj) : Below w.heap.size w (Sort.grow (w.drewN k) os) :=
  ⟨rfl, rfl, rfl, by rw [Sort.size_grow]; exact Nat.le_add_right _ _, fun j hj => Sort.heap_grow_old _ _ hj⟩

end Go.Proofs.YtbolphjigjpmiabGreatDoor

/-! What VerText answers, the program's and the specification's: the same text; conditions: the list of texts lies in memory as told, and holds no more than 2 to the 20; the library's table of powers of ten lies in memory as its initialiser lays it. -/
namespace Go.Proofs.YtbolphjigjpmiabGreatDoor
open Go.RowKit
set_option linter.unusedSimpArgs false
set_option linter.unusedVariables false

theorem numStr_four (n : Nat) (h : n ≤ 9999) : (numStr n).size ≤ 4 := by
  have e : (numStr n).size = (Lib.decDigits n).length := by simp [numStr, ByteArray.size]
  rw [e]
  have hl : ∀ m, ¬ m < 10 → (Lib.decDigits m).length = (Lib.decDigits (m / 10)).length + 1 := fun m hm => by rw [Lib.decDigits, dif_neg hm]; simp
  have h0 : ∀ m, m < 10 → (Lib.decDigits m).length = 1 := fun m hm => by rw [Lib.decDigits, dif_pos hm]; simp
  by_cases h1 : n < 10
  · rw [h0 n h1]; omega
  · rw [hl n h1]
    by_cases h2 : n / 10 < 10
    · rw [h0 _ h2]; omega
    · rw [hl _ h2]
      by_cases h3 : n / 10 / 10 < 10
      · rw [h0 _ h3]; omega
      · rw [hl _ h3, h0 _ (by omega)]; omega

def coreT (a b c : Int) : ByteArray := numStr a.toNat ++ ⟨#[46]⟩ ++ numStr b.toNat ++ ⟨#[46]⟩ ++ numStr c.toNat
def verT (a b c : Int) (ps : List ByteArray) : ByteArray := if verB a b c ps then (if 0 < ps.length then coreT a b c ++ ⟨#[45]⟩ ++ joinS ps ⟨#[46]⟩ else coreT a b c) else ⟨#[]⟩

theorem join_three (x y z t : ByteArray) : joinS [x, y, z] t = x ++ t ++ y ++ t ++ z := by
  have e : joinS [x, y, z] t = ((⟨#[]⟩ ++ x) ++ t ++ y) ++ t ++ z := rfl
  rw [e]
  congr 4

theorem reads_three {w w1 : World} (x y z : ByteArray) (hw : ∀ b, b < (w.alloc (.cells #[.string x, .string y, .string z] 9)).heap.size → w1.heap[b]? = (w.alloc (.cells #[.string x, .string y, .string z] 9)).heap[b]?) (hs : (w.alloc (.cells #[.string x, .string y, .string z] 9)).heap.size ≤ w1.heap.size) : Reads w1 (.slice (some ⟨w.heap.size, 0, none⟩) 3 3) (strsV [x, y, z]) := by
  refine ⟨some ⟨w.heap.size, 0, none⟩, 3, rfl, Nat.le_refl _, .inr ⟨w.heap.size, 0, rfl, Nat.lt_of_lt_of_le (by simp) hs, fun k hk => ?_⟩⟩
  have e : w1.heap[w.heap.size]? = some (.cells #[.string x, .string y, .string z] 9 (0, 0)) := (hw _ (by simp)).trans (vheap_new _ _)
  rw [vblk_cell e]
  match k, hk with
  | 0, _ => rfl
  | 1, _ => rfl
  | 2, _ => rfl

theorem in_range {a : Int} (h : inB a 0 9999 = true) : 0 ≤ a ∧ a ≤ 9999 := by simpa [inB] using h
theorem verB_nums {a b c : Int} {ps : List ByteArray} (h : verB a b c ps = true) : inB a 0 9999 = true ∧ inB b 0 9999 = true ∧ inB c 0 9999 = true := by
  simp only [verB, Bool.and_eq_true] at h
  exact ⟨h.1.1.1.2, h.1.1.2, h.1.2⟩

end Go.Proofs.YtbolphjigjpmiabGreatDoor

/-! Digits that tell a number are the number's digits; what a text's pieces make with dots between is the text; no condition. -/
namespace Go.Proofs.YtbolphjigjpmiabGreatDoor
open Go.RowKit
set_option linter.unusedSimpArgs false
set_option linter.unusedVariables false

theorem vdec_step {n : Nat} (h : ¬ n < 10) : Lib.decDigits n = Lib.decDigits (n / 10) ++ [UInt8.ofNat (48 + n % 10)] := by
  conv => lhs; rw [Lib.decDigits, dif_neg h]
theorem vdec_one {n : Nat} (h : n < 10) : Lib.decDigits n = [UInt8.ofNat (48 + n)] := by
  rw [Lib.decDigits, dif_pos h]
theorem allUpto_at {p : Nat → Int → Bool} {s : ByteArray} : ∀ {n : Nat}, allUpto p s n = true → ∀ k, k < n → p k ((s.data[k]!).toNat : Int) = true
  | 0, _, k, hk => by omega
  | n + 1, h, k, hk => by
    rw [allUpto, Bool.and_eq_true] at h
    by_cases e : k = n
    · subst e; exact h.2
    · exact allUpto_at h.1 k (by omega)
theorem vtake_snoc (s : ByteArray) (k : Nat) (h : k < s.size) : s.data.toList.take (k + 1) = s.data.toList.take k ++ [s.data[k]!] := by
  rw [List.take_succ_eq_append_getElem (by rw [vlen]; exact h)]
  congr 2
  rw [getElem!_pos s.data k h]
  rfl
theorem u8_back (u : UInt8) (h : 48 ≤ u.toNat) : UInt8.ofNat (48 + (u.toNat - 48)) = u := by
  rw [show 48 + (u.toNat - 48) = u.toNat by omega]
  simp

/-- The digits of what the first k bytes tell are these bytes. -/
theorem dec_back (s : ByteArray) (hd : allUpto okDigit s s.size = true) (hz : 1 < s.size → ¬ ((s.data[0]!).toNat : Int) = 48) : ∀ k, k < s.size → 0 ≤ numUpto s (k + 1) ∧ (1 < s.size → 1 ≤ numUpto s (k + 1)) ∧ Lib.decDigits (numUpto s (k + 1)).toNat = s.data.toList.take (k + 1)
  | 0, hk => by
    have h0 := digit_bounds (allUpto_at hd 0 hk)
    have e : numUpto s (0 + 1) = ((s.data[0]!).toNat : Int) - 48 := by simp [numUpto]
    rw [e]
    refine ⟨by omega, fun h1 => by have := hz h1; omega, ?_⟩
    rw [vdec_one (by omega), vtake_snoc s 0 hk]
    have : (((s.data[0]!).toNat : Int) - 48).toNat = (s.data[0]!).toNat - 48 := by omega
    rw [this, u8_back _ (by omega)]
    rfl
  | k + 1, hk => by
    obtain ⟨h1, h2, h3⟩ := dec_back s hd hz k (by omega)
    have h2 := h2 (by omega)
    have hb := digit_bounds (allUpto_at hd (k + 1) hk)
    have e : numUpto s (k + 1 + 1) = numUpto s (k + 1) * 10 + (((s.data[k + 1]!).toNat : Int) - 48) := rfl
    rw [e]
    generalize numUpto s (k + 1) = m at *
    refine ⟨by omega, fun _ => by omega, ?_⟩
    rw [vdec_step (by omega), vtake_snoc s (k + 1) hk, ← h3]
    have e1 : (m * 10 + (((s.data[k + 1]!).toNat : Int) - 48)).toNat / 10 = m.toNat := by omega
    have e2 : (m * 10 + (((s.data[k + 1]!).toNat : Int) - 48)).toNat % 10 = (s.data[k + 1]!).toNat - 48 := by omega
    rw [e1, e2, u8_back _ (by omega)]

theorem num_str {t : ByteArray} {most : Int} (h : numGood t most = true) : numStr (numOut t most).toNat = t ∧ 0 ≤ numOut t most := by
  have h0 := h
  simp only [numGood, Bool.and_eq_true, Bool.not_eq_true'] at h
  obtain ⟨⟨⟨h1, h2⟩, h3⟩, h4⟩ := h
  have hs := in17 h1
  have hz : 1 < t.size → ¬ ((t.data[0]!).toNat : Int) = 48 := fun hl he => by
    rw [decide_eq_true hl, he] at h3
    simp at h3
  obtain ⟨p1, p2, p3⟩ := dec_back t h2 hz (t.size - 1) (by omega)
  rw [show t.size - 1 + 1 = t.size by omega] at p1 p3
  rw [numOut_good h0]
  refine ⟨?_, p1⟩
  apply vext
  show (Lib.decDigits (numUpto t t.size).toNat).toArray.toList = _
  rw [p3]
  simp
  exact List.take_of_length_le (by rw [vlen]; omega)
#print axioms num_str
end Go.Proofs.YtbolphjigjpmiabGreatDoor

/-! A text that the reader takes as a version is the text of that version; no condition. -/
namespace Go.Proofs.YtbolphjigjpmiabGreatDoor
open Go.RowKit
set_option linter.unusedSimpArgs false
set_option linter.unusedVariables false

theorem vempty_add (x : ByteArray) : (⟨#[]⟩ : ByteArray) ++ x = x := by
  apply vext
  simp
theorem vjoinUpto_cons (x : ByteArray) (xs : List ByteArray) (t : ByteArray) : ∀ k, joinUpto (x :: xs) t (k + 2) = x ++ t ++ joinUpto xs t (k + 1)
  | 0 => by
    simp [joinUpto, vempty_add]
  | k + 1 => by
    rw [joinUpto, if_neg (by omega), vjoinUpto_cons x xs t k]
    conv => rhs; rw [joinUpto, if_neg (by omega)]
    simp [List.getD_cons_succ, ByteArray.append_assoc]
theorem vjoinS_cons (x : ByteArray) (xs : List ByteArray) (t : ByteArray) (h : xs ≠ []) : joinS (x :: xs) t = x ++ t ++ joinS xs t := by
  obtain ⟨n, hn⟩ : ∃ n, xs.length = n + 1 := ⟨xs.length - 1, by have := List.length_pos_iff.2 h; omega⟩
  rw [joinS, joinS, List.length_cons, hn]
  exact vjoinUpto_cons x xs t n
theorem vjoinS_one (x t : ByteArray) : joinS [x] t = x := by simp [joinS, joinUpto, vempty_add]
theorem vsplitGo_ne (s : ByteArray) (c : Int) : ∀ n i b, splitGo s c n i b ≠ []
  | 0, i, b => by simp [splitGo]
  | n + 1, i, b => by
    rw [splitGo]
    split
    · simp
    · exact vsplitGo_ne s c n (i + 1) b
theorem vcut_back (s : ByteArray) (b i : Nat) (u : UInt8) (hb : b ≤ i) (hi : i < s.size) (hc : s.data[i]! = u) : s.extract b i ++ ⟨#[u]⟩ ++ s.extract (i + 1) s.size = s.extract b s.size := by
  apply vext
  have hlen := vlen s
  simp only [ByteArray.data_append, Array.toList_append, vextract]
  have h1 : s.data.toList.drop i = s.data[i]! :: s.data.toList.drop (i + 1) := by
    have h2 : i < s.data.toList.length := by omega
    rw [List.drop_eq_getElem_cons h2]
    congr 1
    rw [getElem!_pos s.data i hi]
    rfl
  have h3 : (s.data.toList.drop b).take (s.size - b) = s.data.toList.drop b := List.take_of_length_le (by simp)
  have h4 : (s.data.toList.drop (i + 1)).take (s.size - (i + 1)) = s.data.toList.drop (i + 1) := List.take_of_length_le (by simp)
  rw [h3, h4, List.append_assoc, List.singleton_append, ← hc, ← h1]
  have h5 : s.data.toList.drop i = (s.data.toList.drop b).drop (i - b) := by rw [List.drop_drop]; congr 1; omega
  rw [h5, List.take_append_drop]
theorem byte_of {x : UInt8} {n : Nat} (h : (x.toNat : Int) = (n : Int)) : x = UInt8.ofNat n := by
  have : x.toNat = n := by omega
  rw [← this]; simp
theorem vsplit_back (s : ByteArray) : ∀ (n i b : Nat), n = s.size - i → b ≤ i → i ≤ s.size → joinS (splitGo s 46 (s.size - i) i b) ⟨#[46]⟩ = s.extract b s.size
  | 0, i, b, hn, hb, hi => by
    obtain rfl : i = s.size := by omega
    rw [splitGo_end, vjoinS_one]
  | n + 1, i, b, hn, hb, hi => by
    have hlt : i < s.size := by omega
    by_cases h : ((s.data[i]!).toNat : Int) = 46
    · rw [splitGo_hit s 46 i b hlt h, vjoinS_cons _ _ _ (vsplitGo_ne _ _ _ _ _), vsplit_back s n (i + 1) (i + 1) (by omega) (Nat.le_refl _) (by omega)]
      exact vcut_back s b i 46 hb hlt (byte_of (n := 46) h)
    · rw [splitGo_miss s 46 i b hlt h]
      exact vsplit_back s n (i + 1) b (by omega) (by omega) (by omega)
theorem vwhole (s : ByteArray) : s.extract 0 s.size = s := by
  apply vext
  rw [vextract, List.drop_zero]
  exact List.take_of_length_le (by rw [vlen]; omega)
theorem vsplit_join (s : ByteArray) : joinS (splitS s 46) ⟨#[46]⟩ = s := by
  have := vsplit_back s s.size 0 0 rfl (Nat.le_refl _) (Nat.zero_le _)
  have e : splitS s 46 = splitGo s 46 (s.size - 0) 0 0 := rfl
  rw [e, this, vwhole]

/-- What is read, told anew, is the text. -/
theorem text_back (s : ByteArray) (k : Nat) (hk : k ≤ s.size) (hd : k < s.size → ((s.data[k]!).toNat : Int) = 45) (t0 t1 t2 : ByteArray) (P : List ByteArray) (hL : [t0, t1, t2] = splitS (s.extract 0 k) 46) (hP : P = if k < s.size then splitS (s.extract (k + 1) s.size) 46 else [])
    (g0 : numGood t0 9999 = true) (g1 : numGood t1 9999 = true) (g2 : numGood t2 9999 = true) (gp : P.all partB = true) (gl : P.length ≤ 3) : verT (numOut t0 9999) (numOut t1 9999) (numOut t2 9999) P = s := by
  have hv : verB (numOut t0 9999) (numOut t1 9999) (numOut t2 9999) P = true := by
    rw [verB, parts_all, gp, num_in g0, num_in g1, num_in g2, decide_eq_true gl]; rfl
  have hc : coreT (numOut t0 9999) (numOut t1 9999) (numOut t2 9999) = s.extract 0 k := by
    rw [coreT, (num_str g0).1, (num_str g1).1, (num_str g2).1, ← join_three, hL, vsplit_join]
  rw [verT, hv, if_pos rfl, hc]
  by_cases h : k < s.size
  · rw [if_pos h] at hP
    have hp : 0 < P.length := by rw [hP]; exact List.length_pos_iff.2 (vsplitGo_ne _ _ _ _ _)
    rw [if_pos hp, hP, vsplit_join, vcut_back s 0 k 45 (Nat.zero_le _) h (byte_of (n := 45) (hd h)), vwhole]
  · rw [if_neg h] at hP
    subst hP
    rw [if_neg (by simp), show k = s.size by omega, vwhole]

theorem res_back (s : ByteArray) (ns : List Int) (ps : List ByteArray) (h : resAll s = some (ns, ps)) : ∃ a b c, ns = [a, b, c] ∧ verT a b c ps = s := by
  obtain ⟨k, hk, hd, hn⟩ : ∃ k, k ≤ s.size ∧ (k < s.size → ((s.data[k]!).toNat : Int) = 45) ∧ ∀ j, j < k → ¬ ((s.data[j]!).toNat : Int) = 45 := by
    have : ∀ n, n ≤ s.size → (∃ k, k ≤ n ∧ (k < n → ((s.data[k]!).toNat : Int) = 45) ∧ ∀ j, j < k → ¬ ((s.data[j]!).toNat : Int) = 45) := by
      intro n
      induction n with
      | zero => exact fun _ => ⟨0, Nat.le_refl _, fun h => by omega, fun j h => by omega⟩
      | succ n ih =>
        intro hle
        obtain ⟨k, h1, h2, h3⟩ := ih (by omega)
        by_cases hkn : k < n
        · exact ⟨k, by omega, fun _ => h2 hkn, h3⟩
        · have : k = n := by omega
          subst this
          by_cases hc : ((s.data[k]!).toNat : Int) = 45
          · exact ⟨k, by omega, fun _ => hc, h3⟩
          · refine ⟨k + 1, Nat.le_refl _, fun h => by omega, fun j hj => ?_⟩
            by_cases e : j = k
            · subst e; exact hc
            · exact h3 j (by omega)
    exact this s.size (Nat.le_refl _)
  obtain ⟨L, hL⟩ : ∃ L, L = splitS (s.extract 0 k) 46 := ⟨_, rfl⟩
  obtain ⟨P, hP⟩ : ∃ P, P = if k < s.size then splitS (s.extract (k + 1) s.size) 46 else [] := ⟨_, rfl⟩
  rw [res_spec s k hk hd hn L P hL hP] at h
  split at h
  · rename_i hg
    simp only [Bool.and_eq_true, decide_eq_true_eq] at hg
    obtain ⟨⟨⟨g1, g2⟩, g3⟩, g4⟩ := hg
    obtain ⟨t0, t1, t2, h3⟩ := three_of g2
    subst h3
    simp only [List.all_cons, List.all_nil, Bool.and_true, Bool.and_eq_true] at g1
    injection h with h
    injection h with h1 h2
    subst h1 h2
    exact ⟨_, _, _, rfl, text_back s k hk hd t0 t1 t2 _ hL hP g1.1 g1.2.1 g1.2.2 g3 g4⟩
  · cases h
#print axioms res_back
end Go.Proofs.YtbolphjigjpmiabGreatDoor

/-! The text of a version is read as that version; no condition. -/
namespace Go.Proofs.YtbolphjigjpmiabGreatDoor
open Go.RowKit
set_option linter.unusedSimpArgs false
set_option linter.unusedVariables false

theorem vat_drop (s : ByteArray) (b i : Nat) (l : List UInt8) (h : s.data.toList.drop b = l) (hi : i < l.length) : s.data[b + i]! = l[i] := by
  subst h
  have h1 : b + i < s.data.toList.length := by rw [List.length_drop] at hi; omega
  have h2 : b + i < s.data.size := by rw [← Array.length_toList]; exact h1
  rw [getElem!_pos s.data (b + i) h2, List.getElem_drop, Array.getElem_toList]
theorem vsplit_hit (s : ByteArray) (c : Int) (b m : Nat) (hm : m < s.size) (hc : ((s.data[m]!).toNat : Int) = c) : ∀ n i, n = m - i → i ≤ m → (∀ j, i ≤ j → j < m → ¬ ((s.data[j]!).toNat : Int) = c) → splitGo s c (s.size - i) i b = s.extract b m :: splitGo s c (s.size - (m + 1)) (m + 1) (m + 1)
  | 0, i, hn, hi, hj => by
    obtain rfl : i = m := by omega
    exact splitGo_hit s c i b hm hc
  | n + 1, i, hn, hi, hj => by
    rw [splitGo_miss s c i b (by omega) (hj i (Nat.le_refl _) (by omega))]
    exact vsplit_hit s c b m hm hc n (i + 1) (by omega) (by omega) (fun j h1 h2 => hj j (by omega) h2)
theorem vsplit_end (s : ByteArray) (c : Int) (b : Nat) : ∀ n i, n = s.size - i → i ≤ s.size → (∀ j, i ≤ j → j < s.size → ¬ ((s.data[j]!).toNat : Int) = c) → splitGo s c (s.size - i) i b = [s.extract b s.size]
  | 0, i, hn, hi, hj => by
    obtain rfl : i = s.size := by omega
    exact splitGo_end s c b
  | n + 1, i, hn, hi, hj => by
    rw [splitGo_miss s c i b (by omega) (hj i (Nat.le_refl _) (by omega))]
    exact vsplit_end s c b n (i + 1) (by omega) (by omega) (fun j h1 h2 => hj j (by omega) h2)

/-- A text holds no such byte. -/
def noneB (c : Nat) (x : ByteArray) : Prop := ∀ u, u ∈ x.data.toList → u.toNat ≠ c

theorem vsplit_told (s : ByteArray) : ∀ (ps : List ByteArray) (b : Nat), ps ≠ [] → (∀ x, x ∈ ps → noneB 46 x) → b ≤ s.size → s.data.toList.drop b = (joinS ps ⟨#[46]⟩).data.toList → splitGo s 46 (s.size - b) b b = ps
  | [], b, h, _, _, _ => absurd rfl h
  | [x], b, _, hx, hb, hs => by
    rw [vjoinS_one] at hs
    have hl : s.size - b = x.size := by rw [← vlen s, ← vlen x, ← hs, List.length_drop]
    rw [vsplit_end s 46 b (s.size - b) b rfl hb]
    · congr 1
      apply vext
      rw [vextract, hs]
      exact List.take_of_length_le (by rw [vlen]; omega)
    · intro j h1 h2 h3
      have h4 : j - b < x.data.toList.length := by rw [vlen]; omega
      have := vat_drop s b (j - b) _ hs h4
      rw [show b + (j - b) = j by omega] at this
      rw [this] at h3
      exact hx x (by simp) _ (List.getElem_mem h4) (by omega)
  | x :: y :: xs, b, _, hx, hb, hs => by
    rw [vjoinS_cons _ _ _ (by simp)] at hs
    obtain ⟨r, hr⟩ : ∃ r, r = joinS (y :: xs) ⟨#[46]⟩ := ⟨_, rfl⟩
    rw [← hr] at hs
    simp only [ByteArray.data_append, Array.toList_append] at hs
    have hl : s.size - b = x.size + 1 + r.size := by
      have := congrArg List.length hs
      rw [List.length_drop, vlen, List.length_append, List.length_append, vlen, vlen] at this
      exact this
    have hm : ((s.data[b + x.size]!).toNat : Int) = 46 := by
      rw [vat_drop s b x.size _ hs (by rw [List.length_append, List.length_append, vlen]; simp; omega)]
      rw [List.getElem_append_left (by rw [List.length_append, vlen]; simp), List.getElem_append_right (by rw [vlen]; exact Nat.le_refl _)]
      simp [vlen]
    rw [vsplit_hit s 46 b (b + x.size) (by omega) hm x.size b (by omega) (by omega)]
    · congr 1
      · apply vext
        rw [vextract, hs, List.append_assoc, show b + x.size - b = x.data.toList.length by rw [vlen]; omega, List.take_left']
        rfl
      · refine vsplit_told s (y :: xs) (b + x.size + 1) (by simp) (fun z hz => hx z (by simp at hz ⊢; exact .inr hz)) (by omega) ?_
        rw [show b + x.size + 1 = b + (x.size + 1) by omega, ← List.drop_drop, hs, ← hr]
        exact List.drop_left' (by rw [List.length_append, vlen]; rfl)
    · intro j h1 h2 h3
      have h4 : j - b < x.data.toList.length := by rw [vlen]; omega
      have := vat_drop s b (j - b) _ hs (by rw [List.length_append, List.length_append]; omega)
      rw [show b + (j - b) = j by omega, List.getElem_append_left (by rw [List.length_append]; omega), List.getElem_append_left h4] at this
      rw [this] at h3
      exact hx x (by simp) _ (List.getElem_mem h4) (by omega)
theorem vsplit_of_join (ps : List ByteArray) (h : ps ≠ []) (hx : ∀ x, x ∈ ps → noneB 46 x) : splitS (joinS ps ⟨#[46]⟩) 46 = ps :=
  vsplit_told _ ps 0 h hx (Nat.zero_le _) (by simp)

theorem vdec_ne : ∀ n, 0 < (Lib.decDigits n).length := by
  intro n
  by_cases h : n < 10
  · rw [vdec_one h]; simp
  · rw [vdec_step h]; simp
theorem vdec_digit (n : Nat) : ∀ u, u ∈ Lib.decDigits n → 48 ≤ u.toNat ∧ u.toNat ≤ 57 := by
  induction n using Nat.strongRecOn with
  | ind n ih =>
    intro u hu
    by_cases h : n < 10
    · rw [vdec_one h, List.mem_singleton] at hu
      subst hu
      simp only [UInt8.toNat_ofNat']
      omega
    · rw [vdec_step h, List.mem_append, List.mem_singleton] at hu
      rcases hu with hu | hu
      · exact ih (n / 10) (by omega) u hu
      · subst hu
        simp only [UInt8.toNat_ofNat']
        omega
theorem vdec_head (n : Nat) (hn : 1 ≤ n) : ∀ u, (Lib.decDigits n)[0]? = some u → u.toNat ≠ 48 := by
  induction n using Nat.strongRecOn with
  | ind n ih =>
    intro u hu
    by_cases h : n < 10
    · rw [vdec_one h, List.getElem?_cons_zero] at hu
      injection hu with hu
      subst hu
      simp only [UInt8.toNat_ofNat']
      omega
    · rw [vdec_step h, List.getElem?_append_left (vdec_ne _)] at hu
      exact ih (n / 10) (by omega) (by omega) u hu
theorem vdec_num (s : ByteArray) : ∀ n k, s.data.toList.take k = Lib.decDigits n → k ≤ s.size → numUpto s k = (n : Int) := by
  intro n
  induction n using Nat.strongRecOn with
  | ind n ih =>
    intro k hk hs
    cases k with
    | zero => exact absurd (vdec_ne n) (by rw [← hk]; simp)
    | succ k =>
      rw [vtake_snoc s k (by omega)] at hk
      have e : numUpto s (k + 1) = numUpto s k * 10 + (((s.data[k]!).toNat : Int) - 48) := rfl
      rw [e]
      by_cases h : n < 10
      · rw [vdec_one h] at hk
        have h1 := List.append_inj' (s₁ := s.data.toList.take k) (s₂ := []) (t₁ := [s.data[k]!]) (t₂ := [UInt8.ofNat (48 + n)]) (by simpa using hk) rfl
        have h2 : k = 0 := by
          have := congrArg List.length h1.1
          rw [List.length_take, vlen, List.length_nil] at this
          omega
        subst h2
        have h3 : s.data[0]! = UInt8.ofNat (48 + n) := by simpa using h1.2
        rw [h3]
        simp only [UInt8.toNat_ofNat', numUpto]
        omega
      · rw [vdec_step h] at hk
        have h1 := List.append_inj' hk rfl
        have h3 : s.data[k]! = UInt8.ofNat (48 + n % 10) := by simpa using h1.2
        rw [ih (n / 10) (by omega) k h1.1 (by omega), h3]
        simp only [UInt8.toNat_ofNat']
        omega
theorem told_num (n : Nat) : numUpto (numStr n) (numStr n).size = (n : Int) :=
  vdec_num (numStr n) n _ (by
    show (Lib.decDigits n).toArray.toList.take _ = _
    rw [List.take_of_length_le]
    exact Nat.le_of_eq (vlen (numStr n))) (Nat.le_refl _)
theorem told_none (c n : Nat) (hc : c < 48) : noneB c (numStr n) := fun u hu he => by
  have := vdec_digit n u hu
  omega

theorem allUpto_of {p : Nat → Int → Bool} {s : ByteArray} : ∀ {n : Nat}, (∀ k, k < n → p k ((s.data[k]!).toNat : Int) = true) → allUpto p s n = true
  | 0, _ => rfl
  | n + 1, h => by
    rw [allUpto, allUpto_of (fun k hk => h k (by omega)), h n (by omega)]; rfl
theorem vat_mem (s : ByteArray) (k : Nat) (h : k < s.size) : s.data[k]! ∈ s.data.toList := by
  have h1 : k < s.data.toList.length := by rw [vlen]; exact h
  have := vat_drop s 0 k _ rfl (by simpa using h1)
  rw [Nat.zero_add] at this
  rw [this]
  simp
theorem told_good (n : Nat) (h : n ≤ 9999) : numGood (numStr n) 9999 = true := by
  have h1 : 1 ≤ (numStr n).size := by rw [← vlen]; exact vdec_ne n
  have h2 := numStr_four n h
  have h3 : allUpto okDigit (numStr n) (numStr n).size = true := allUpto_of (fun k hk => by
    have := vdec_digit n _ (vat_mem (numStr n) k hk)
    rw [okDigit, digitB, decide_eq_true (by omega), decide_eq_true (by omega)]; rfl)
  have h4 : (decide (1 < (numStr n).size) && (((numStr n).data[0]!).toNat : Int) == 48) = false := by
    by_cases hl : 1 < (numStr n).size
    · have hn : 1 ≤ n := by
        cases n with
        | zero =>
          rw [← vlen] at hl
          have e : (numStr 0).data.toList = Lib.decDigits 0 := rfl
          rw [e, vdec_one (by omega)] at hl
          simp at hl
        | succ n => omega
      have h5 : (Lib.decDigits n)[0]? = some ((numStr n).data[0]!) := by
        have := vat_drop (numStr n) 0 0 (Lib.decDigits n) rfl (vdec_ne n)
        rw [Nat.add_zero] at this
        rw [this]
        exact List.getElem?_eq_getElem (vdec_ne n)
      have h6 := vdec_head n hn _ h5
      have h7 : ¬ (((numStr n).data[0]!).toNat : Int) = 48 := by omega
      rw [beq_eq_false_iff_ne.2 h7, Bool.and_false]
    · rw [decide_eq_false hl]; rfl
  rw [numGood, h3, h4, told_num, inB, decide_eq_true (by omega), decide_eq_true (by omega), decide_eq_true (by omega)]; rfl
theorem told_out (n : Nat) (h : n ≤ 9999) : numOut (numStr n) 9999 = (n : Int) := by
  rw [numOut_good (told_good n h), told_num]
theorem part_none {x : ByteArray} (h : partB x = true) : noneB 46 x := by
  intro u hu he
  simp only [partB, Bool.and_eq_true] at h
  obtain ⟨k, hk, e⟩ := List.getElem_of_mem hu
  have h1 := allUpto_at h.1.1 k (by rw [← vlen]; exact hk)
  have h2 := vat_drop x 0 k _ rfl hk
  rw [Nat.zero_add] at h2
  rw [h2] at h1
  have h3 : (x.data.toList.drop 0)[k] = u := e
  rw [h3, okPre, preB, he] at h1
  exact absurd h1 (by decide)
theorem core_none (a b c : Int) : noneB 45 (coreT a b c) := by
  intro u hu
  simp only [coreT, ByteArray.data_append, Array.toList_append, List.mem_append, List.mem_singleton] at hu
  rcases hu with (((hu | hu) | hu) | hu) | hu
  · exact told_none 45 _ (by omega) u hu
  · subst hu; decide
  · exact told_none 45 _ (by omega) u hu
  · subst hu; decide
  · exact told_none 45 _ (by omega) u hu
theorem core_split (a b c : Int) : splitS (coreT a b c) 46 = [numStr a.toNat, numStr b.toNat, numStr c.toNat] := by
  have e : coreT a b c = joinS [numStr a.toNat, numStr b.toNat, numStr c.toNat] ⟨#[46]⟩ := by rw [join_three]; rfl
  rw [e]
  refine vsplit_of_join _ (by simp) (fun x hx => ?_)
  simp at hx
  rcases hx with rfl | rfl | rfl <;> exact told_none 46 _ (by omega)
theorem in_nat {a : Int} (h : inB a 0 9999 = true) : ((a.toNat : Nat) : Int) = a ∧ a.toNat ≤ 9999 := by
  simp only [inB, Bool.and_eq_true, decide_eq_true_eq] at h
  omega

/-- What is told is read. -/
theorem res_told (a b c : Int) (ps : List ByteArray) (h : verB a b c ps = true) : resAll (verT a b c ps) = some ([a, b, c], ps) := by
  have h0 := h
  simp only [verB, Bool.and_eq_true, decide_eq_true_eq, parts_all] at h
  obtain ⟨⟨⟨⟨gp, ga⟩, gb⟩, gc⟩, gl⟩ := h
  obtain ⟨ea, la⟩ := in_nat ga
  obtain ⟨eb, lb⟩ := in_nat gb
  obtain ⟨ec, lc⟩ := in_nat gc
  rw [verT, h0, if_pos rfl]
  have fin : ∀ (s : ByteArray) (k : Nat), k ≤ s.size → (k < s.size → ((s.data[k]!).toNat : Int) = 45) → (∀ j, j < k → ¬ ((s.data[j]!).toNat : Int) = 45) → s.extract 0 k = coreT a b c → (ps = if k < s.size then splitS (s.extract (k + 1) s.size) 46 else []) → resAll s = some ([a, b, c], ps) := by
    intro s k hk hd hn h1 h2
    rw [res_spec s k hk hd hn [numStr a.toNat, numStr b.toNat, numStr c.toNat] ps (by rw [h1, core_split]) h2]
    rw [gp, decide_eq_true gl]
    simp only [List.all_cons, List.all_nil, List.map_cons, List.map_nil, told_good _ la, told_good _ lb, told_good _ lc, told_out _ la, told_out _ lb, told_out _ lc, ea, eb, ec, List.length_cons, List.length_nil]
    rfl
  by_cases hp : 0 < ps.length
  · rw [if_pos hp]
    obtain ⟨r, hr⟩ : ∃ r, r = joinS ps ⟨#[46]⟩ := ⟨_, rfl⟩
    rw [← hr]
    have hd : (coreT a b c ++ ⟨#[45]⟩ ++ r).data.toList = (coreT a b c).data.toList ++ [45] ++ r.data.toList := by
      simp only [ByteArray.data_append, Array.toList_append]
    have hcn := core_none a b c
    generalize coreT a b c = K at *
    have hsz : (K ++ ⟨#[45]⟩ ++ r).size = K.size + 1 + r.size := by
      rw [← vlen, hd, List.length_append, List.length_append, vlen, vlen]; rfl
    generalize K ++ ⟨#[45]⟩ ++ r = s at *
    have hd0 : s.data.toList.drop 0 = K.data.toList ++ [45] ++ r.data.toList := by rw [List.drop_zero, hd]
    refine fin s K.size (by omega) (fun _ => ?_) (fun j hj he => ?_) ?_ ?_
    · have := vat_drop s 0 K.size _ hd0 (by rw [List.length_append, List.length_append, vlen]; simp; omega)
      rw [Nat.zero_add] at this
      rw [this, List.getElem_append_left (by rw [List.length_append, vlen]; simp), List.getElem_append_right (by rw [vlen]; exact Nat.le_refl _)]
      simp [vlen]
    · have h4 : j < K.data.toList.length := by rw [vlen]; exact hj
      have := vat_drop s 0 j _ hd0 (by rw [List.length_append, List.length_append]; omega)
      rw [Nat.zero_add, List.getElem_append_left (by rw [List.length_append]; omega), List.getElem_append_left h4] at this
      rw [this] at he
      exact hcn _ (List.getElem_mem h4) (by omega)
    · apply vext
      rw [vextract, hd0, List.append_assoc, Nat.sub_zero]
      exact List.take_left' (vlen K)
    · rw [if_pos (by omega)]
      have e : s.extract (K.size + 1) s.size = r := by
        apply vext
        rw [vextract, hd, List.drop_left' (by rw [List.length_append, vlen]; rfl)]
        exact List.take_of_length_le (by rw [vlen]; omega)
      rw [e, hr, vsplit_of_join ps (List.length_pos_iff.1 hp) (fun x hx => part_none (List.all_eq_true.1 gp x hx))]
  · rw [if_neg hp]
    have : ps = [] := List.length_eq_zero_iff.1 (by omega)
    refine fin _ (coreT a b c).size (Nat.le_refl _) (fun h => by omega) (fun j hj he => ?_) (vwhole _) (by rw [if_neg (by omega), this])
    exact core_none a b c _ (vat_mem _ j hj) (by omega)
#print axioms res_told
end Go.Proofs.YtbolphjigjpmiabGreatDoor

/-! What is read of a text as a version is a right one: plain facts. -/
namespace Go.Proofs.YtbolphjigjpmiabGreatDoor
open Go.RowKit
set_option linter.unusedSimpArgs false
set_option linter.unusedVariables false

theorem bk_back (t : ByteArray) (h : resOk t = true) : verT (resN t 0) (resN t 1) (resN t 2) (resP t) = t := by
  unfold resOk at h
  obtain ⟨⟨ns, ps⟩, hx⟩ := Option.isSome_iff_exists.1 h
  obtain ⟨a, b, c, rfl, hv⟩ := res_back t ns ps hx
  simp only [resN, resP, hx]
  exact hv
theorem bk_parts : ∀ ps : List ByteArray, (∀ x ∈ ps, x.size ≤ 8) → (ps.map ByteArray.size).sum ≤ 8 * ps.length
  | [], _ => by simp
  | x :: ps, h => by
    have := bk_parts ps (fun t ht => h t (List.mem_cons_of_mem _ ht))
    have := h x (List.mem_cons_self ..)
    simp only [List.map_cons, List.sum_cons, List.length_cons]
    omega
theorem bk_bulk {a b c : Int} {ps : List ByteArray} (h : verB a b c ps = true) : bulkS ps ≤ 27 := by
  have hp : partsUpto ps ps.length = true := by
    cases hh : partsUpto ps ps.length with
    | true => rfl
    | false => rw [verB_parts hh] at h; exact absurd h (by decide)
  have hl : ps.length ≤ 3 := by
    rw [verB_all hp] at h
    simp at h
    omega
  have hx : ∀ x ∈ ps, x.size ≤ 8 := fun x hm => by
    obtain ⟨k, hk, rfl⟩ := List.getElem_of_mem hm
    cases hb : partB ps[k] with
    | false => rw [parts_end hk hb] at hp; exact absurd hp (by decide)
    | true =>
      simp only [partB, Bool.and_eq_true] at hb
      have h2 := hb.1.2
      simp [inB] at h2
      omega
  have := bk_parts ps hx
  unfold bulkS
  omega
theorem bk_empty : resOk ⟨#[]⟩ = false := by decide +kernel
theorem bk_ver (t : ByteArray) (h : resOk t = true) : verB (resN t 0) (resN t 1) (resN t 2) (resP t) = true := by
  have hb := bk_back t h
  cases hv : verB (resN t 0) (resN t 1) (resN t 2) (resP t) with
  | true => rfl
  | false =>
    have e : verT (resN t 0) (resN t 1) (resN t 2) (resP t) = ⟨#[]⟩ := by simp [verT, hv]
    rw [e] at hb
    rw [← hb, bk_empty] at h
    exact absurd h (by decide)
theorem bk_num {t : ByteArray} (h : numGood t 9999 = true) : 0 ≤ numOut t 9999 ∧ numOut t 9999 ≤ 9999 := by
  refine ⟨(num_str h).2, ?_⟩
  rw [numOut_good h]
  simp only [numGood, Bool.and_eq_true, decide_eq_true_eq] at h
  exact h.2
end Go.Proofs.YtbolphjigjpmiabGreatDoor

/-! The Cmps that a word makes, the program's: a contract for the walks; conditions: the word has at most 2 to the 20 bytes, the table of signs holds what the text lays. -/
namespace Go.Proofs.YtbolphjigjpmiabGreatDoor
open Go.RowKit
set_option linter.unusedSimpArgs false
set_option linter.unusedVariables false

theorem part_nums {s : ByteArray} (h : partOk s = true) : numsOk (partA s) (partB' s) (partC s) ∧ (partT s = 1 ∨ partT s = 2 ∨ partT s = 3) ∧ bulkS (partP s) ≤ 27 := by
  cases hr : resOk s with
  | true =>
    have hv := bk_ver s hr
    obtain ⟨h1, h2, h3⟩ := verB_nums hv
    have hb := bk_bulk hv
    simp only [partA, partB', partC, partT, partP, partAll, hr, if_true, Option.getD_some]
    exact ⟨⟨in_range h1, in_range h2, in_range h3⟩, .inr (.inr (by simp)), hb⟩
  | false =>
    cases hp : partW (splitS s 46) with
    | none => simp [partOk, partAll, hr, hp] at h
    | some x =>
      obtain ⟨a, b, t⟩ := x
      have e : partAll s = some (a, b, 0, [], t) := by simp [partAll, hr, hp]
      simp only [partA, partB', partC, partT, partP, e, Option.getD_some]
      have hx : (0 ≤ a ∧ a ≤ 9999) ∧ (0 ≤ b ∧ b ≤ 9999) ∧ (t = 1 ∨ t = 2) := by
        unfold partW at hp
        split at hp
        · simp at hp
        split at hp
        · split at hp
          · rename_i hg
            simp at hp
            obtain ⟨rfl, rfl, rfl⟩ := hp
            exact ⟨bk_num hg, by omega, .inl rfl⟩
          · simp at hp
        · split at hp
          · rename_i hg
            simp at hp hg
            obtain ⟨rfl, rfl, rfl⟩ := hp
            exact ⟨bk_num hg.1, bk_num hg.2, .inr rfl⟩
          · simp at hp
      refine ⟨⟨hx.1, hx.2.1, by omega, by omega⟩, ?_, by simp [bulkS]⟩
      rcases hx.2.2 with h | h
      · exact .inl h
      · exact .inr (.inl h)

def starT : ByteArray := ⟨#[42]⟩
/-- The Cmps that a word makes, and whether it is one. -/
def wordD (s : ByteArray) : List CmpD :=
  if s = ⟨#[42]⟩ then [⟨4, 0, 0, 0, []⟩] else if partOk (signRest s) then makeC (signOf s) (partA (signRest s)) (partB' (signRest s)) (partC (signRest s)) (partP (signRest s)) (partT (signRest s)) else []
def wordOk (s : ByteArray) : Bool := decide (s = ⟨#[42]⟩) || (partOk (signRest s) && (wordD s).all goodD)

theorem signRest_size (s : ByteArray) : (signRest s).size ≤ s.size := by
  have h : ∀ n, (signGo s n).2.size ≤ s.size := fun n => by
    induction n with
    | zero => exact Nat.le_refl _
    | succ n ih =>
      rw [signGo]
      split
      · show (cutRest s _).size ≤ _
        unfold cutRest
        split <;> first | (rw [ByteArray.size_extract]; omega) | exact Nat.le_refl _
      · exact ih
  exact h 7

theorem make_bulk (sign a b c : Int) (ps : List ByteArray) (t : Int) (h : bulkS ps ≤ 27) : ∀ d ∈ makeC sign a b c ps t, bulkS d.ps ≤ 1048576 := by
  have hz : bulkS [zeroT] ≤ 1048576 := by decide
  have hn : bulkS ([] : List ByteArray) ≤ 1048576 := by decide
  have hp : bulkS ps ≤ 1048576 := by omega
  unfold makeC
  dsimp only
  intro d hd
  split at hd
  · simp at hd; rcases hd with rfl | rfl <;> assumption
  split at hd
  · simp at hd; rcases hd with rfl | rfl <;> assumption
  split at hd
  · simp at hd; subst hd; assumption
  split at hd
  · simp at hd; subst hd; assumption
  split at hd
  · simp at hd; subst hd; assumption
  · simp at hd; rcases hd with rfl | rfl <;> assumption
theorem make_len (sign a b c : Int) (ps : List ByteArray) (t : Int) : (makeC sign a b c ps t).length ≤ 2 := by
  unfold makeC
  dsimp only
  repeat (split; · simp)
  simp

theorem own_nilC (w : World) (lo : Nat) : CmpsOwn lo w (.slice none 0 0) [] :=
  ⟨[], fun _ => undef, ⟨rfl, .inl ⟨rfl, rfl⟩⟩, fun i h => by simp at h, fun i j h => by simp at h⟩

set_option maxHeartbeats 2000000 in
set_option maxRecDepth 100000 in
theorem cmpsOfWord_c (s : ByteArray) (hs : s.size ≤ 1048576) (w : World) (hsg : ∀ k (h : k < signsT.length), w.cell? ⟨0, k, none⟩ = some (.string signsT[k])) :
    Calls Tryz.prog 140 #[.string s] w fun e w' => ∃ v, e = .returned (.tuple #[v, .bool (wordOk s)]) ∧ CmpsOwn w.heap.size w' v (wordD s) ∧ Below w.heap.size w w' := by
  by_cases hst : s = ⟨#[42]⟩
  · have e1 : wordOk s = true := by simp [wordOk, hst]
    have e2 : wordD s = [⟨4, 0, 0, 0, []⟩] := by simp [wordD, hst]
    rw [e1, e2]
    subst hst
    clear e1 e2 hsg
    go_enter Tryz.func140, Tryz.ntmps140
    go_wp2_with fail
    go_ret2
    exact ⟨_, rfl, one_own ⟨4, 0, 0, 0, []⟩ rfl (Nat.le_refl _) (owns_nil _ _), (Below.refl _ _).alloc (Nat.le_refl _) _⟩
  have hsb : (s.toList == [42]) = false := by rw [beq_eq_false_iff_ne]; intro h; exact hst (bytes_eq_of_toList (by rw [h, ByteArray.toList_eq]))
  have HC := cutSign_c s hs w hsg
  have hrs : (signRest s).size ≤ 1048576 := Nat.le_trans (signRest_size s) hs
  have HP : Hid (∀ w1, Calls Tryz.prog 169 #[.string (signRest s)] w1 fun e w' => ∃ u, e = .returned (partOut (signRest s) u) ∧ w'.ownsRow w1.heap.size 9 1 u (partP (signRest s)).length (strsV (partP (signRest s))) ∧ Below w1.heap.size w1 w') := fun w1 => parsePart_c _ hrs w1
  have HW : Hid (wordD s = if partOk (signRest s) then makeC (signOf s) (partA (signRest s)) (partB' (signRest s)) (partC (signRest s)) (partP (signRest s)) (partT (signRest s)) else []) := by show _ = _; rw [wordD, if_neg hst]
  have HO : Hid (wordOk s = (partOk (signRest s) && (wordD s).all goodD)) := by show _ = _; rw [wordOk, decide_eq_false hst, Bool.false_or]
  have HQ : Hid (partOk (signRest s) = true → numsOk (partA (signRest s)) (partB' (signRest s)) (partC (signRest s)) ∧ (partT (signRest s) = 1 ∨ partT (signRest s) = 2 ∨ partT (signRest s) = 3) ∧ bulkS (partP (signRest s)) ≤ 27) := part_nums
  obtain ⟨D, hD⟩ : ∃ D, D = wordD s := ⟨_, rfl⟩
  obtain ⟨K, hK⟩ : ∃ K, K = wordOk s := ⟨_, rfl⟩
  rw [← hD, ← hK] at HO
  rw [← hD] at HW
  rw [← hD, ← hK]
  unfold partOut at HP
  obtain ⟨sg, hsg0⟩ : ∃ x, x = signOf s := ⟨_, rfl⟩
  obtain ⟨rs, hrs0⟩ : ∃ x, x = signRest s := ⟨_, rfl⟩
  rw [← hsg0, ← hrs0] at HC HW
  rw [← hrs0] at HP HO HQ
  obtain ⟨ok, hok⟩ : ∃ x, x = partOk rs := ⟨_, rfl⟩
  obtain ⟨pa, hpa⟩ : ∃ x, x = partA rs := ⟨_, rfl⟩
  obtain ⟨pb, hpb⟩ : ∃ x, x = partB' rs := ⟨_, rfl⟩
  obtain ⟨pc, hpc⟩ : ∃ x, x = partC rs := ⟨_, rfl⟩
  obtain ⟨pp, hpp⟩ : ∃ x, x = partP rs := ⟨_, rfl⟩
  obtain ⟨pt, hpt⟩ : ∃ x, x = partT rs := ⟨_, rfl⟩
  rw [← hok, ← hpa, ← hpb, ← hpc, ← hpp, ← hpt] at HP HQ HW
  rw [← hok] at HO
  clear hD hK hsg0 hrs0 hok hpa hpb hpc hpp hpt hst hsg hrs
  go_enter Tryz.func140, Tryz.ntmps140
  go_wp2_with fail
  go_at_call 168
  refine HC.mono ?_
  rintro e w0 ⟨rfl, rfl⟩
  go_wp2_with fail
  go_at_call 169
  refine (HP.out _).mono ?_
  rintro e w1 ⟨u, rfl, o1, b1⟩
  obtain ⟨q, n, cap, hu⟩ : ∃ q n c, u = .slice q n c := by rcases o1.2 with ⟨rfl, _⟩ | ⟨g, cap, cur, rfl, _⟩ <;> exact ⟨_, _, _, rfl⟩
  subst hu
  have tA : Below w1.heap.size w1 (w1.alloc (.cells #[.int .i64 pa, .int .i64 pb, .int .i64 pc, .slice q n cap, .int .i64 pt] 194)) := (Below.refl _ _).alloc (Nat.le_refl _) _
  have k2 := b1.trans (tA.mono b1.size)
  have o2 := owns_of_below o1 tA
  clear HC HP
  cases ok with
  | false =>
    have e1 : D = [] := HW.out
    have e2 : K = false := HO.out
    subst e1 e2
    clear HW HO HQ o1 o2
    go_wp2_with fail
    go_ret2
    exact ⟨_, rfl, own_nilC _ _, k2⟩
  | true =>
    obtain ⟨hnum, ht, hbk⟩ := HQ.out rfl
    have e1 : D = makeC sg pa pb pc pp pt := HW.out
    have e2 : K = D.all goodD := HO.out
    have HM : Hid (∀ W, Below w1.heap.size w1 W → Calls Tryz.prog 170 #[.agg #[.int .i64 pa, .int .i64 pb, .int .i64 pc, .slice q n cap, .int .i64 pt], .int .i64 sg] W fun e w' => ∃ v, e = .returned v ∧ CmpsOwn w.heap.size w' v D ∧ Below W.heap.size W w') := fun W h => by rw [e1]; exact cmps_c w.heap.size sg pa pb pc _ pp pt W (Nat.le_trans b1.size h.size) hnum ht (owns_of_below o1 h)
    have hDb : ∀ d ∈ D, bulkS d.ps ≤ 1048576 := by rw [e1]; exact make_bulk _ _ _ _ _ _ hbk
    have hDl : D.length ≤ 1048576 := by rw [e1]; have := make_len sg pa pb pc pp pt; omega
    have HK : Hid (K = D.all goodD) := e2
    clear HW HO HQ e1 e2 hnum ht hbk o1 o2
    go_wp2_with fail
    generalize (w1.alloc (.cells #[.int .i64 pa, .int .i64 pb, .int .i64 pc, .slice q n cap, .int .i64 pt] 194)) = W2 at tA k2 ⊢
    go_at_call 170
    refine (HM.out _ tA).mono ?_
    rintro e w3 ⟨v, rfl, hv, b3⟩
    have HB := containsBad_c w.heap.size v D w3 hv hDl hDb
    rw [← HK.out] at HB
    have k3 := k2.trans (b3.mono k2.size)
    obtain ⟨vq, vcap, us, hv2, _, _⟩ := hv.at
    subst hv2
    go_wp2_with (go_at_call 171; refine HB.mono ?_; rintro e w4 ⟨rfl, b4⟩)
    go_ret2
    exact ⟨_, by simp, hv.below b4, k3.trans (b4.mono k3.size)⟩
end Go.Proofs.YtbolphjigjpmiabGreatDoor

/-! Lists of Cmps that the call holds alone, put one behind the other: what an append leaves; and the Cmps of two versions with a dash between, the program's: contracts for the walks; conditions: the texts have at most 2 to the 20 bytes. -/
namespace Go.Proofs.YtbolphjigjpmiabGreatDoor
open Go.RowKit
set_option linter.unusedSimpArgs false
set_option linter.unusedVariables false

theorem rows5_apart {w : World} {base base' e e' : Nat} {v v' : Value} {n n' : Nat} {xs xs' : List Value} (h : w.ownsRow base e 5 v n xs) (h' : w.ownsRow base' e' 1 v' n' xs') (hne : e ≠ e') : v'.ownBlock = none ∨ v'.ownBlock ≠ v.ownBlock := by
  rcases h.2 with ⟨rfl, _⟩ | ⟨g, cap, cur, rfl, _, hg, _⟩
  · rcases h'.2 with ⟨rfl, _⟩ | ⟨g', cap', cur', rfl, _, hg', _⟩
    · exact .inl rfl
    · exact .inr (by simp [Value.ownBlock])
  · rcases h'.2 with ⟨rfl, _⟩ | ⟨g', cap', cur', rfl, _, hg', _⟩
    · exact .inl rfl
    · refine .inr fun e1 => hne ?_
      simp only [Value.ownBlock, Option.some.injEq] at e1
      subst e1
      rw [hg] at hg'
      simp only [Option.some.injEq, Obj.cells.injEq] at hg'
      exact hg'.2.1

theorem five_all {ys : List Value} {ds : List CmpD} {us : Nat → Value} (hl : ys.length = ds.length * 5) (hu : ∀ i, i < ds.length → (us i).oneCell' = true) (h : ∀ i (h : i < ds.length), FiveAt ys (i * 5) (.int .i64 ds[i].o) (.int .i64 ds[i].a) (.int .i64 ds[i].b) (.int .i64 ds[i].c) (us i)) : ∀ u ∈ ys, u.oneCell' = true := by
  intro u hm
  obtain ⟨j, hj, rfl⟩ := List.getElem_of_mem hm
  have hi : j / 5 < ds.length := by omega
  obtain ⟨f0, f1, f2, f3, f4⟩ := h (j / 5) hi
  have e : ys[j]? = some ys[j] := List.getElem?_eq_getElem hj
  rcases (show j = j / 5 * 5 ∨ j = j / 5 * 5 + 1 ∨ j = j / 5 * 5 + 2 ∨ j = j / 5 * 5 + 3 ∨ j = j / 5 * 5 + 4 by omega) with hh | hh | hh | hh | hh
  · rw [← hh, e] at f0; rw [Option.some.inj f0]; rfl
  · rw [← hh, e] at f1; rw [Option.some.inj f1]; rfl
  · rw [← hh, e] at f2; rw [Option.some.inj f2]; rfl
  · rw [← hh, e] at f3; rw [Option.some.inj f3]; rfl
  · rw [← hh, e] at f4; rw [Option.some.inj f4]; exact hu _ hi

/-- What an append of one list of Cmps to another leaves. -/
theorem CmpsOwn.app {lo : Nat} {wk w1 : World} {v v' : Value} {ds ds' : List CmpD} (h : CmpsOwn lo wk v ds) (hlo : lo ≤ wk.heap.size) (b : Below wk.heap.size wk w1) (h' : CmpsOwn wk.heap.size w1 v' ds') (hne : ds' ≠ []) :
    ∃ (ys ys' : List Value) (g cap : Nat), w1.ownsRow lo 158 5 v ds.length ys ∧ v' = .slice (some ⟨g, 0, none⟩) ds'.length cap ∧ ys'.length = ds'.length * 5 ∧ (∀ j u, ys'[j]? = some u → w1.cell? ((⟨g, 0, none⟩ : Addr).add j) = some u) ∧ (∀ u ∈ ys', u.oneCell' = true) ∧
      ∀ w2 v2, w2.ownsRow lo 158 5 v2 (ds.length + ds'.length) (ys ++ ys') → w1.grownBy w2 v.ownBlock → CmpsOwn lo w2 v2 (ds ++ ds') := by
  obtain ⟨ys, us, h1, h2, h3⟩ := h
  obtain ⟨ys', us', k1, k2, k3⟩ := h'
  have h1' := own_kept5 h1 b
  have hly : ys.length = ds.length * 5 := h1.1
  have hly' : ys'.length = ds'.length * 5 := k1.1
  obtain ⟨g, cap, hv⟩ : ∃ g cap, v' = .slice (some ⟨g, 0, none⟩) ds'.length cap := by
    rcases k1.2 with ⟨_, hn⟩ | ⟨g, cap, cur, rfl, _⟩
    · exact absurd (List.eq_nil_of_length_eq_zero hn) hne
    · exact ⟨g, cap, rfl⟩
  subst hv
  have hone : ∀ (u : Value) (n : Nat) (xs : List Value) base, w1.ownsRow base 9 1 u n xs → u.oneCell' = true := fun u n xs base hu => by
    rcases hu.2 with ⟨rfl, _⟩ | ⟨g, cap, cur, rfl, _⟩ <;> rfl
  refine ⟨ys, ys', g, cap, h1', rfl, hly', fun j u hj => ?_, five_all hly' (fun i hi => hone _ _ _ _ (k2 i hi).2) (fun i hi => (k2 i hi).1), fun w2 v2 o2 gr => ?_⟩
  · have hjl : j < ys'.length := (List.getElem?_eq_some_iff.1 hj).1
    have e : ((⟨g, 0, none⟩ : Addr).add j) = ⟨g, j, none⟩ := by unfold Addr.add; split <;> simp_all
    rw [e, k1.cellAt j (by omega)]
    exact hj
  · refine ⟨ys ++ ys', fun i => if i < ds.length then us i else us' (i - ds.length), by rw [List.length_append]; exact o2, fun i hi => ?_, fun i j hi hj hij he => ?_⟩
    · by_cases hl : i < ds.length
      · simp only [hl, if_true, List.getElem_append_left hl]
        obtain ⟨⟨f0, f1, f2, f3, f4⟩, fo⟩ := h2 i hl
        refine ⟨⟨?_, ?_, ?_, ?_, ?_⟩, ?_⟩
        · rw [List.getElem?_append_left (by omega)]; exact f0
        · rw [List.getElem?_append_left (by omega)]; exact f1
        · rw [List.getElem?_append_left (by omega)]; exact f2
        · rw [List.getElem?_append_left (by omega)]; exact f3
        · rw [List.getElem?_append_left (by omega)]; exact f4
        · have fo1 := owns_of_below fo b
          exact fo1.kept gr (rows5_apart h1' fo1 (by decide))
      · have hi' : i - ds.length < ds'.length := by rw [List.length_append] at hi; omega
        have eg : (ds ++ ds')[i] = ds'[i - ds.length] := List.getElem_append_right (by omega)
        simp only [hl, if_false, eg]
        obtain ⟨⟨f0, f1, f2, f3, f4⟩, fo⟩ := k2 (i - ds.length) hi'
        refine ⟨⟨?_, ?_, ?_, ?_, ?_⟩, ?_⟩
        · rw [List.getElem?_append_right (by omega), show i * 5 - ys.length = (i - ds.length) * 5 by omega]; exact f0
        · rw [List.getElem?_append_right (by omega), show i * 5 + 1 - ys.length = (i - ds.length) * 5 + 1 by omega]; exact f1
        · rw [List.getElem?_append_right (by omega), show i * 5 + 2 - ys.length = (i - ds.length) * 5 + 2 by omega]; exact f2
        · rw [List.getElem?_append_right (by omega), show i * 5 + 3 - ys.length = (i - ds.length) * 5 + 3 by omega]; exact f3
        · rw [List.getElem?_append_right (by omega), show i * 5 + 4 - ys.length = (i - ds.length) * 5 + 4 by omega]; exact f4
        · exact (owns_base fo hlo).kept gr (rows5_apart h1' fo (by decide))
    · rw [List.length_append] at hi hj
      have apart : ∀ i j, i < ds.length → ¬ j < ds.length → j - ds.length < ds'.length → (us i).ownBlock = (us' (j - ds.length)).ownBlock → (us i).ownBlock = none := fun i j hi hj hj' he => by
        cases hk : (us i).ownBlock with
        | none => rfl
        | some k =>
          have a1 := ((h2 i hi).2.lt k hk).2
          rw [hk] at he
          have a2 := ((k2 _ hj').2.lt k he.symm).1
          omega
      by_cases hi1 : i < ds.length
      · by_cases hj1 : j < ds.length
        · simp only [hi1, hj1, if_true] at he ⊢
          exact h3 i j hi1 hj1 hij he
        · simp only [hi1, hj1, if_true, if_false] at he ⊢
          exact apart i j hi1 hj1 (by omega) he
      · by_cases hj1 : j < ds.length
        · simp only [hi1, hj1, if_true, if_false] at he ⊢
          rw [he]
          exact apart j i hj1 hi1 (by omega) he.symm
        · simp only [hi1, hj1, if_false] at he ⊢
          exact k3 _ _ (by omega) (by omega) (by omega) he

/-- The Cmps of two versions with a dash between. -/
def betweenOk (x y : ByteArray) : Bool := resOk x && resOk y
def betweenD (x y : ByteArray) : List CmpD := if betweenOk x y then [⟨4, resN x 0, resN x 1, resN x 2, resP x⟩, ⟨2, resN y 0, resN y 1, resN y 2, resP y⟩] else []

set_option maxHeartbeats 2000000 in
set_option maxRecDepth 100000 in
theorem cmpsBetween_c (x y : ByteArray) (hx : x.size ≤ 1048576) (hy : y.size ≤ 1048576) (w : World) :
    Calls Tryz.prog 139 #[.string x, .string y] w fun e w' => ∃ v, e = .returned (.tuple #[v, .bool (betweenOk x y)]) ∧ CmpsOwn w.heap.size w' v (betweenD x y) ∧ Below w.heap.size w w' := by
  have HX : Hid (∀ w1, Calls Tryz.prog 167 #[.string x] w1 fun e w' => ∃ u, e = .returned (verOut x u) ∧ w'.ownsRow w1.heap.size 9 1 u (resP x).length (strsV (resP x)) ∧ Below w1.heap.size w1 w') := fun w1 => implParse_c x hx w1
  have HY : Hid (∀ w1, Calls Tryz.prog 167 #[.string y] w1 fun e w' => ∃ u, e = .returned (verOut y u) ∧ w'.ownsRow w1.heap.size 9 1 u (resP y).length (strsV (resP y)) ∧ Below w1.heap.size w1 w') := fun w1 => implParse_c y hy w1
  have HD : Hid (betweenD x y = if resOk x && resOk y then [⟨4, resN x 0, resN x 1, resN x 2, resP x⟩, ⟨2, resN y 0, resN y 1, resN y 2, resP y⟩] else []) := rfl
  have HO : Hid (betweenOk x y = (resOk x && resOk y)) := rfl
  unfold verOut at HX HY
  obtain ⟨D, hD⟩ : ∃ D, D = betweenD x y := ⟨_, rfl⟩
  obtain ⟨K, hK⟩ : ∃ K, K = betweenOk x y := ⟨_, rfl⟩
  rw [← hD] at HD
  rw [← hK] at HO
  rw [← hD, ← hK]
  obtain ⟨x1, hx1⟩ : ∃ z, z = resN x 0 := ⟨_, rfl⟩
  obtain ⟨x2, hx2⟩ : ∃ z, z = resN x 1 := ⟨_, rfl⟩
  obtain ⟨x3, hx3⟩ : ∃ z, z = resN x 2 := ⟨_, rfl⟩
  obtain ⟨px, hpx⟩ : ∃ z, z = resP x := ⟨_, rfl⟩
  obtain ⟨okx, hokx⟩ : ∃ z, z = resOk x := ⟨_, rfl⟩
  obtain ⟨y1, hy1⟩ : ∃ z, z = resN y 0 := ⟨_, rfl⟩
  obtain ⟨y2, hy2⟩ : ∃ z, z = resN y 1 := ⟨_, rfl⟩
  obtain ⟨y3, hy3⟩ : ∃ z, z = resN y 2 := ⟨_, rfl⟩
  obtain ⟨py, hpy⟩ : ∃ z, z = resP y := ⟨_, rfl⟩
  obtain ⟨oky, hoky⟩ : ∃ z, z = resOk y := ⟨_, rfl⟩
  rw [← hx1, ← hx2, ← hx3, ← hpx, ← hokx] at HX
  rw [← hy1, ← hy2, ← hy3, ← hpy, ← hoky] at HY
  rw [← hx1, ← hx2, ← hx3, ← hpx, ← hokx, ← hy1, ← hy2, ← hy3, ← hpy, ← hoky] at HD
  rw [← hokx, ← hoky] at HO
  clear hD hK hx1 hx2 hx3 hpx hokx hy1 hy2 hy3 hpy hoky
  go_enter Tryz.func139, Tryz.ntmps139
  go_wp2_with fail
  go_at_call 167
  refine (HX.out _).mono ?_
  rintro e w1 ⟨u1, rfl, o1, b1⟩
  obtain ⟨q1, n1, c1, hu⟩ : ∃ q n c, u1 = .slice q n c := by rcases o1.2 with ⟨rfl, _⟩ | ⟨g, cap, cur, rfl, _⟩ <;> exact ⟨_, _, _, rfl⟩
  subst hu
  have tA : Below w1.heap.size w1 (w1.alloc (.cells #[.int .i64 x1, .int .i64 x2, .int .i64 x3, .slice q1 n1 c1] 58)) := (Below.refl _ _).alloc (Nat.le_refl _) _
  have A1 := four_new w1 58 (.int .i64 x1) (.int .i64 x2) (.int .i64 x3) (.slice q1 n1 c1)
  have oA := owns_of_below o1 tA
  have kA := b1.trans (tA.mono b1.size)
  go_wp2_with fail
  obtain ⟨BA, hBA⟩ : ∃ B, B = w1.heap.size := ⟨_, rfl⟩
  generalize (w1.alloc (.cells #[.int .i64 x1, .int .i64 x2, .int .i64 x3, .slice q1 n1 c1] 58)) = W1 at tA A1 oA kA ⊢
  rw [← hBA] at A1 ⊢
  clear hBA tA o1 b1 HX
  go_at_call 167
  refine (HY.out _).mono ?_
  rintro e w2 ⟨u2, rfl, o2, b2⟩
  obtain ⟨q2, n2, c2, hu⟩ : ∃ q n c, u2 = .slice q n c := by rcases o2.2 with ⟨rfl, _⟩ | ⟨g, cap, cur, rfl, _⟩ <;> exact ⟨_, _, _, rfl⟩
  subst hu
  have tB : Below w2.heap.size w2 (w2.alloc (.cells #[.int .i64 y1, .int .i64 y2, .int .i64 y3, .slice q2 n2 c2] 58)) := (Below.refl _ _).alloc (Nat.le_refl _) _
  have A2 := (A1.keep b2).keep tB
  have oA2 := owns_of_below (owns_of_below oA b2) tB
  have oB2 := owns_of_below o2 tB
  have B2 := four_new w2 58 (.int .i64 y1) (.int .i64 y2) (.int .i64 y3) (.slice q2 n2 c2)
  have k2 := kA.trans (b2.mono kA.size)
  have k3 := k2.trans (tB.mono k2.size)
  have hap : Value.ownBlock (.slice q1 n1 c1) = Value.ownBlock (.slice q2 n2 c2) → Value.ownBlock (.slice q1 n1 c1) = none := fun he => by
    cases hk : Value.ownBlock (.slice q1 n1 c1) with
    | none => rfl
    | some k =>
      have a1 := (oA.lt k hk).2
      rw [hk] at he
      have a2 := (o2.lt k he.symm).1
      omega
  have lA := A2.lt
  have hAB := (A1.keep b2).lt
  obtain ⟨xa0, xa1, xa2, xa3⟩ := (A1.keep b2).cells
  have hWl := kA.size
  clear HY A1 oA b2 o2 kA
  cases okx with
  | false =>
    have e1 : D = [] := HD.out
    have e2 : K = false := HO.out
    subst e1 e2
    clear HD HO
    go_wp2_with fail
    go_ret2
    exact ⟨_, rfl, own_nilC _ _, k3⟩
  | true =>
    cases oky with
    | false =>
      have e1 : D = [] := HD.out
      have e2 : K = false := HO.out
      subst e1 e2
      clear HD HO
      go_wp2_with fail
      go_ret2
      exact ⟨_, rfl, own_nilC _ _, k3⟩
    | true =>
      have e1 : D = [⟨4, x1, x2, x3, px⟩, ⟨2, y1, y2, y3, py⟩] := HD.out
      have e2 : K = true := HO.out
      subst e1 e2
      clear HD HO
      go_wp2_with fail
      go_ret2
      exact ⟨_, rfl, two_own ⟨4, x1, x2, x3, px⟩ ⟨2, y1, y2, y3, py⟩ (by simp) k3.size oA2 (owns_base oB2 hWl) hap, k3.alloc k3.size _⟩
end Go.Proofs.YtbolphjigjpmiabGreatDoor

/-! What the law's helpers that mark a version's texts, and look whether the marks are held, answer: contracts for the walks; condition: the list lies in memory as told. -/
namespace Go.Proofs.YtbolphjigjpmiabGreatDoor
open Go.RowKit
set_option linter.unusedSimpArgs false
set_option linter.unusedVariables false

theorem Four.turned {w w' : World} {R : Nat} {t : TypeId} {c0 c1 c2 c3 : Value} {row : Option Nat} (h : Four w R t c0 c1 c2 c3) (hg : w.grownBy w' row) (hne : row ≠ some R) : Four w' R t c0 c1 c2 c3 :=
  (hg.block R h.lt (fun e => hne e.symm)).trans h
theorem below_turned {B : Nat} {w0 w w' : World} {row : Option Nat} (h : Below B w0 w) (hg : w.grownBy w' row) (hB : B ≤ w.heap.size) (hrow : ∀ k, row = some k → B ≤ k) : Below B w0 w' :=
  h.trans ⟨hg.os, hg.tape, hg.output, hg.size, fun k hk => hg.block k (by omega) (fun e => by have := hrow k e.symm; omega)⟩

end Go.Proofs.YtbolphjigjpmiabGreatDoor
