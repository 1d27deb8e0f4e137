/-
  Contracts for the walks, several texts in one: each part says what it proves, and under which conditions.
-/
import Derived.BigQuiet
import Derived.Deep.RegionHeld
import Derived.Shelf.Strings.Builder1
import Derived.Shelf.Small.Utf8
import Derived.Shelf.Small.Bits
import Derived.Shelf.Small.Strs
import Derived.Shelf.Small.Wraps
import Derived.Shelf.Strings.BuilderF
import Derived.Shelf.Utf8.RuneCount
import Derived.Shelf.Strconv.Itoa0
import Derived.Shelf.Strconv.Itoa1
import Derived.Shelf.LaysM
import Derived.Shelf.Strconv.Itoa2
import Derived.Shelf.Strconv.Itoa3
import Derived.Shelf.Strconv.Clone
import Derived.Shelf.Strings.Search1
import Derived.Shelf.Strings.Search2
import Derived.Shelf.Strings.Search3
import Derived.Shelf.Strings.Cut
import Derived.Shelf.Strings.Count
import Derived.Shelf.Strings.Shaped
import Derived.Shelf.Strings.Prefix
import Derived.Shelf.Strings.Split
import Derived.Shelf.Strings.SplitShaped
import Derived.Shelf.Unicode.Decode
import Derived.Shelf.Strings.Runes
import Derived.Shelf.Strings.RuneCount
import Derived.Shelf.Strings.AsciiSet
import Derived.Shelf.Strings.Explode
import Derived.Shelf.Unicode.DecodeSlow
import Derived.Shelf.Unicode.DecodeAny
import Derived.Shelf.Unicode.DecodeLast
import Derived.Shelf.Slices.Equal
import Derived.Shelf.Slices.CompactS
import Derived.Ground.Names2Prog
import Derived.Shelf.Slices.SearchI
import Derived.Shelf.Slices.Cells
import Derived.Test.YtlfmefojcmpfeaaGreatDoorProg
import Derived.Lib.IndexBytes
import Derived.Lib.SplitLaws
import Derived.Lib.CutLaws
import Derived.Test.YtlfmefojcmpfeaaGreatDoorQ8
import Derived.Test.YtlfmefojcmpfeaaGreatDoorQ7
import Derived.Test.YtlfmefojcmpfeaaGreatDoorQ1

/-! A version, or a part of one, read, the specification's: a contract for the walks; condition: the text has at most 2 to the 20 bytes. -/
namespace Go.Proofs.YtlfmefojcmpfeaaGreatDoor
open Go.RowKit
set_option linter.unusedSimpArgs false
set_option linter.unusedVariables false

theorem partOk_ver {s : ByteArray} (h : resOk s = true) : partOk s = true ∧ partA s = resN s 0 ∧ partB' s = resN s 1 ∧ partC s = resN s 2 ∧ partT s = 3 ∧ partP s = resP s := by
  simp [partOk, partA, partB', partC, partT, partP, partAll, h]
theorem partOk_none {s : ByteArray} (h : resOk s = false) (hp : partW (splitS s 46) = none) : partOk s = false := by
  simp [partOk, partAll, h, hp]
theorem partOk_some {s : ByteArray} (h : resOk s = false) {a b t : Int} (hp : partW (splitS s 46) = some (a, b, t)) : partOk s = true ∧ partA s = a ∧ partB' s = b ∧ partC s = 0 ∧ partT s = t ∧ partP s = [] := by
  simp [partOk, partA, partB', partC, partT, partP, partAll, h, hp]

/-- What l4Read answers: a part of a version, right where one is read. -/
def readPost (w : World) (s : ByteArray) (OK : Bool) (e : Ending) (w' : World) : Prop :=
  ∃ (a b c : Int) (u : Value) (t : Int) (ps : List ByteArray), e = .returned (.agg #[.int .i64 a, .int .i64 b, .int .i64 c, u, .int .i64 t, .bool OK]) ∧ (OK = true → a = partA s ∧ b = partB' s ∧ c = partC s ∧ t = partT s ∧ ps = partP s) ∧ w'.ownsRow w.heap.size 9 1 u ps.length (strsV ps) ∧ Below w.heap.size w w'

set_option maxHeartbeats 4000000 in
set_option maxRecDepth 100000 in
theorem l4Read_c (s : ByteArray) (hs : s.size ≤ 1048576) (w : World) :
    Calls Tryz.prog 283 #[.string s] w fun e w' => readPost w s (partOk s) e w' := by
  have hbx : Below w.heap.size w (w.alloc (.cells #[.int .i64 0, .int .i64 0, .int .i64 0, .slice none 0 0, .int .i64 0, .bool false] 324)) := (Below.refl _ _).alloc (Nat.le_refl _) _
  have R0 := six_new w 324 (.int .i64 0) (.int .i64 0) (.int .i64 0) (.slice none 0 0) (.int .i64 0) (.bool false)
  have HP := specParse_o s hs (w.alloc (.cells #[.int .i64 0, .int .i64 0, .int .i64 0, .slice none 0 0, .int .i64 0, .bool false] 324))
  have hs0 : (w.alloc (.cells #[.int .i64 0, .int .i64 0, .int .i64 0, .slice none 0 0, .int .i64 0, .bool false] 324)).heap.size = w.heap.size + 1 := by simp
  unfold verOut at HP
  rw [hs0] at HP
  obtain ⟨y1, hy1⟩ : ∃ y, y = resN s 0 := ⟨_, rfl⟩
  obtain ⟨y2, hy2⟩ : ∃ y, y = resN s 1 := ⟨_, rfl⟩
  obtain ⟨y3, hy3⟩ : ∃ y, y = resN s 2 := ⟨_, rfl⟩
  obtain ⟨py, hpy⟩ : ∃ y, y = resP s := ⟨_, rfl⟩
  obtain ⟨ok, hok⟩ : ∃ y, y = resOk s := ⟨_, rfl⟩
  rw [← hy1, ← hy2, ← hy3, ← hpy, ← hok] at HP
  have HV : Hid (ok = true → partOk s = true ∧ partA s = y1 ∧ partB' s = y2 ∧ partC s = y3 ∧ partT s = 3 ∧ partP s = py) := fun h => by rw [hy1, hy2, hy3, hpy]; exact partOk_ver (hok ▸ h)
  have HN : Hid (ok = false → partW (splitS s 46) = none → partOk s = false) := fun h h2 => partOk_none (hok ▸ h) h2
  have HM : Hid (ok = false → ∀ a b t, partW (splitS s 46) = some (a, b, t) → partOk s = true ∧ partA s = a ∧ partB' s = b ∧ partC s = 0 ∧ partT s = t ∧ partP s = []) := fun h a b t h2 => partOk_some (hok ▸ h) h2
  have HS : Hid (∀ w1, Calls Tryz.prog 127 #[.string s, .int .u8 46] w1 fun e w' => ∃ v, e = .returned v ∧ w'.ownsRow w1.heap.size 9 1 v (splitS s 46).length (strsV (splitS s 46)) ∧ Below w1.heap.size w1 w') := fun w1 => specSplit_c s 46 w1 hs
  have hL := splitS_len s 46
  have hL0 := splitS_pos s 46
  have hpc := splitS_piece s 46
  obtain ⟨ws, hws⟩ : ∃ ws, ws = splitS s 46 := ⟨_, rfl⟩
  rw [← hws] at HN HM HS hL hL0 hpc
  clear hy1 hy2 hy3 hpy hok hws
  obtain ⟨OK, hOK⟩ : ∃ y, y = partOk s := ⟨_, rfl⟩
  rw [← hOK] at HV HN HM
  rw [← hOK]
  clear hOK
  go_enter Tryz.func283, Tryz.ntmps283
  go_wp2_with fail
  go_at_call 128
  refine HP.mono ?_
  rintro e w1 ⟨uy, rfl, oy, b1⟩
  have R1 : Six w1 w.heap.size 324 (.int .i64 0) (.int .i64 0) (.int .i64 0) (.slice none 0 0) (.int .i64 0) (.bool false) := (b1.block _ (by omega)).trans R0
  have k1 := hbx.trans (b1.mono (by omega))
  obtain ⟨qy, ny, cy, hu⟩ : ∃ q n c, uy = .slice q n c := by rcases oy.2 with ⟨rfl, _⟩ | ⟨g, cap, cur, rfl, _⟩ <;> exact ⟨_, _, _, rfl⟩
  subst hu
  have tA : Below w1.heap.size w1 (w1.alloc (.cells #[.int .i64 y1, .int .i64 y2, .int .i64 y3, .slice qy ny cy] 30)) := (Below.refl _ _).alloc (Nat.le_refl _) _
  have R2 := R1.keep tA
  have k2 := k1.trans (tA.mono k1.size)
  have oy2 := owns_of_below oy tA
  have l1 := R1.lt
  clear HP R0 b1 hbx
  cases ok with
  | true =>
    obtain ⟨eO, eR⟩ := HV.out rfl
    have HO : Hid (OK = true) := eO
    have HR : Hid (partA s = y1 ∧ partB' s = y2 ∧ partC s = y3 ∧ partT s = 3 ∧ partP s = py) := eR
    obtain ⟨x0, x1, x2, x3, x4, x5⟩ := R1.cells
    have fx := vblk_frozen R1
    clear HV HN HM HS eO eR
    go_wp2_with fail
    refine bodyPost_ret (v := .agg #[.int .i64 y1, .int .i64 y2, .int .i64 y3, .slice qy ny cy, .int .i64 3, .bool true]) (by simp [results, Tryz.results283, go_sem, x0, x1, x2, x3, x4, x5, l1]) rfl ⟨y1, y2, y3, .slice qy ny cy, 3, py, by rw [HO.out], fun _ => ⟨HR.out.1.symm, HR.out.2.1.symm, HR.out.2.2.1.symm, HR.out.2.2.2.1.symm, HR.out.2.2.2.2.symm⟩, ?_, ?_⟩
    · refine owns_base (base := w.heap.size + 1) ?_ (by omega)
      refine World.ownsRow.alloc ?_ _
      repeat (refine owns_set ?_ (by simp) _)
      exact oy
    · refine Below.alloc ?_ (by simp; omega) _
      repeat (refine Below.setCell ?_ (by simp <;> omega) _)
      exact k1
  | false =>
  clear HV oy oy2 R1
  go_wp2_with fail
  generalize (w1.alloc (.cells #[.int .i64 y1, .int .i64 y2, .int .i64 y3, .slice qy ny cy] 30)) = W2 at R2 k2 tA ⊢
  go_at_call 127
  refine (HS.out _).mono ?_
  rintro e w3 ⟨v3, rfl, o3, b3⟩
  have R3 := R2.keep b3
  have k3 := k2.trans (b3.mono k2.size)
  have rw3 := reads_of_owns o3
  obtain ⟨qw, cw, hv, hcw, hc3⟩ := reads_strs rw3
  subst hv
  have l3 := R3.lt
  clear HS R2 b3 k2 tA k1 o3
  rcases hc3 with hw0 | ⟨bq, off, rfl, hbq, hcell⟩
  · rw [hw0] at hL0; simp at hL0
  have tB : Below w3.heap.size w3 ((w3.alloc (.cells #[.int .i64 0, .int .i64 0, .int .i64 0, .slice none 0 0, .int .i64 0, .bool false] 324)).alloc (.cells #[.int .i64 0, .int .i64 0, .int .i64 0] 3)) := ((Below.refl _ _).alloc (Nat.le_refl _) _).alloc (by simp) _
  have k4 := k3.trans (tB.mono k3.size)
  by_cases h3 : 3 < ws.length
  · have h3' : (3 : Int) < (ws.length : Int) := by omega
    have HO : Hid (OK = false) := HN.out (by first | rfl | exact True.intro) (by rw [partW, if_pos (.inl h3)])
    obtain ⟨x0, x1, x2, x3, x4, x5⟩ := R3.cells
    have fx := vblk_frozen R3
    clear hcell rw3 h3 HN HM
    go_wp2_with fail
    refine bodyPost_ret (v := .agg #[.int .i64 0, .int .i64 0, .int .i64 0, .slice none 0 0, .int .i64 0, .bool false]) (by simp [results, Tryz.results283, go_sem, x0, x1, x2, x3, x4, x5, l3]) rfl ⟨0, 0, 0, .slice none 0 0, 0, [], by rw [HO.out], fun h => (by rw [HO.out] at h; exact Bool.noConfusion h), ⟨rfl, .inl ⟨rfl, rfl⟩⟩, ?_⟩
    refine Below.alloc ?_ (by simp <;> omega) _
    refine Below.alloc ?_ (by simp <;> omega) _
    iterate 6 (refine Below.setCell ?_ (by simp <;> omega) _)
    exact k3
  have h3' : ¬ (3 : Int) < (ws.length : Int) := by omega
  obtain ⟨W4, hW4⟩ : ∃ x, x = (w3.alloc (.cells #[.int .i64 0, .int .i64 0, .int .i64 0, .slice none 0 0, .int .i64 0, .bool false] 324)).alloc (.cells #[.int .i64 0, .int .i64 0, .int .i64 0] 3) := ⟨_, rfl⟩
  have P0 : Six ((w3.alloc (.cells #[.int .i64 0, .int .i64 0, .int .i64 0, .slice none 0 0, .int .i64 0, .bool false] 324)).alloc (.cells #[.int .i64 0, .int .i64 0, .int .i64 0] 3)) w3.heap.size 324 (.int .i64 0) (.int .i64 0) (.int .i64 0) (.slice none 0 0) (.int .i64 0) (.bool false) := (six_new w3 324 (.int .i64 0) (.int .i64 0) (.int .i64 0) (.slice none 0 0) (.int .i64 0) (.bool false)).keep ((Below.refl _ _).alloc (Nat.le_refl _) _)
  have T0 : Three ((w3.alloc (.cells #[.int .i64 0, .int .i64 0, .int .i64 0, .slice none 0 0, .int .i64 0, .bool false] 324)).alloc (.cells #[.int .i64 0, .int .i64 0, .int .i64 0] 3)) (w3.heap.size + 1) 3 (.int .i64 0) (.int .i64 0) (.int .i64 0) := by
    have h := three_new (w3.alloc (.cells #[.int .i64 0, .int .i64 0, .int .i64 0, .slice none 0 0, .int .i64 0, .bool false] 324)) 3 (.int .i64 0) (.int .i64 0) (.int .i64 0)
    rw [show (w3.alloc (.cells #[.int .i64 0, .int .i64 0, .int .i64 0, .slice none 0 0, .int .i64 0, .bool false] 324)).heap.size = w3.heap.size + 1 by simp] at h
    exact h
  go_wp2_with fail
  rw [← hW4] at tB k4 P0 T0
  rw [← hW4]
  clear hW4
  go_loopw [8, 9] (fun v8 v9 wr => ∃ (k : Nat) (m0 m1 m2 : Int), k ≤ ws.length ∧ Six wr w3.heap.size 324 (.int .i64 0) (.int .i64 0) (.int .i64 0) (.slice none 0 0) (.int .i64 (k : Int)) (.bool false) ∧ Three wr (w3.heap.size + 1) 3 (.int .i64 m0) (.int .i64 m1) (.int .i64 m2) ∧ Hid ((∀ j, j < k → numGood (ws.getD j ⟨#[]⟩) 9999 = true) ∧ (0 < k → m0 = numOut (ws.getD 0 ⟨#[]⟩) 9999) ∧ (1 < k → m1 = numOut (ws.getD 1 ⟨#[]⟩) 9999) ∧ (k ≤ 1 → m1 = 0) ∧ (k ≤ 2 → m2 = 0)) ∧ Below w3.heap.size w3 wr) (fun _ _ wr => match wr.cell? ⟨w3.heap.size, 4, none⟩ with | some v => ws.length - (intOf v).toNat | none => 0)
  case atStart => exact ⟨0, 0, 0, 0, Nat.zero_le _, P0, T0, ⟨fun j h => absurd h (by omega), fun h => absurd h (by omega), fun h => absurd h (by omega), fun _ => rfl, fun _ => rfl⟩, tB⟩
  case round =>
    obtain ⟨k, m0, m1, m2, hk, hP, hT, hh, hb3⟩ := hrel
    clear P0 T0 tB k4
    have kr := k3.trans (hb3.mono k3.size)
    obtain ⟨x0, x1, x2, x3, x4, x5⟩ := (R3.keep hb3).cells
    have fx := vblk_frozen (R3.keep hb3)
    obtain ⟨p0, p1, p2, p3, p4, p5⟩ := hP.cells
    have fp := vblk_frozen hP
    obtain ⟨n0, n1, n2⟩ := hT.cells
    have fn := vblk_frozen hT
    by_cases hlt : k < ws.length
    · have hcx := (hb3.cell (by simpa using hbq)).trans (hcell k hlt)
      have hgk : ws.getD k ⟨#[]⟩ = ws[k] := by simp [List.getD_eq_getElem?_getD, hlt]
      have hxz := hpc _ (List.getElem_mem hlt)
      obtain ⟨x, hx⟩ : ∃ y, y = ws[k] := ⟨_, rfl⟩
      rw [← hx] at hcx hgk hxz
      have hkl' : (k : Int) < (ws.length : Int) := by omega
      by_cases hxx : x = ⟨#[120]⟩
      · have hst : Hid (k < ws.length → ws.getD k ⟨#[]⟩ = xT) := fun _ => by rw [hgk]; exact hxx
        subst hxx
        clear hgk hx
        go_wp2_with fail
        go_loop [10] (fun vi => ∃ i : Nat, k ≤ i ∧ i ≤ ws.length ∧ vi = .int .i64 (i : Int) ∧ Hid (∀ j, k ≤ j → j < i → ws.getD j ⟨#[]⟩ = xT)) (fun vi => ws.length - (intOf vi).toNat)
        case atStart => exact ⟨k, Nat.le_refl _, hk, rfl, fun j h1 h2 => absurd h2 (by omega)⟩
        case round =>
          obtain ⟨i, hki, hil, rfl, hix⟩ := hrel
          by_cases hlt2 : i < ws.length
          · have hcy := (hb3.cell (by simpa using hbq)).trans (hcell i hlt2)
            have hgi : ws.getD i ⟨#[]⟩ = ws[i] := by simp [List.getD_eq_getElem?_getD, hlt2]
            obtain ⟨y, hy⟩ : ∃ y, y = ws[i] := ⟨_, rfl⟩
            rw [← hy] at hcy hgi
            have hil' : (i : Int) < (ws.length : Int) := by omega
            by_cases hyx : y = ⟨#[120]⟩
            · have HX2 : Hid (∀ j, k ≤ j → j < i + 1 → ws.getD j ⟨#[]⟩ = xT) := fun j h1 h2 => by
                by_cases e : j = i
                · subst e; rw [hgi]; exact hyx
                · exact hix.out j h1 (by omega)
              subst hyx
              clear hgi hy hix hcell
              go_wp2_with fail
              go_round
              case rel => exact ⟨i + 1, by omega, by omega, by go_num, HX2⟩
              case measure => simp [intOf]; omega
            · have HO : Hid (OK = false) := HN.out (by first | rfl | exact True.intro) (part_mixed ws (by omega) k i (hst.out (by omega)) (by
                have : i ≠ k := fun e => hyx (by rw [← hgi, e]; exact hst.out (by omega))
                omega) hlt2 (by rw [hgi]; exact hyx))
              have hyb : (y.toList == [120]) = false := by rw [beq_eq_false_iff_ne]; intro h; exact hyx (bytes_eq_of_toList (by rw [h, ByteArray.toList_eq]))
              clear hgi hy hix hcell HN HM hyx
              go_wp2_with fail
              refine bodyPost_ret (v := .agg #[.int .i64 0, .int .i64 0, .int .i64 0, .slice none 0 0, .int .i64 0, .bool false]) (by simp [results, Tryz.results283, go_sem, x0, x1, x2, x3, x4, x5]) rfl ⟨0, 0, 0, .slice none 0 0, 0, [], by rw [HO.out], fun h => (by rw [HO.out] at h; exact Bool.noConfusion h), ⟨rfl, .inl ⟨rfl, rfl⟩⟩, ?_⟩
              iterate 6 (refine Below.setCell ?_ (by simp <;> omega) _)
              exact kr
          · have hie : i = ws.length := by omega
            subst hie
            have hil' : ¬ (ws.length : Int) < (ws.length : Int) := by omega
            have HPE := part_end ws hL0 (by omega) k hk hh.out.1 (fun j h1 h2 => hix.out j h1 h2)
            have HE : Hid (OK = inB (k : Int) 1 2 ∧ (OK = true → m0 = partA s ∧ m1 = partB' s ∧ m2 = partC s ∧ (k : Int) = partT s ∧ [] = partP s)) := by
              obtain ⟨_, g0, g1, g2, g3⟩ := hh.out
              by_cases e1 : k = 1
              · rw [if_pos e1] at HPE
                obtain ⟨f0, f1, f2, f3, f4, f5⟩ := HM.out (by first | rfl | exact True.intro) _ _ _ HPE
                refine ⟨by rw [f0, e1]; rfl, fun _ => ⟨by rw [f1]; exact g0 (by omega), by rw [f2]; exact g2 (by omega), by rw [f3]; exact g3 (by omega), by rw [f4, e1]; rfl, f5.symm⟩⟩
              by_cases e2 : k = 2
              · rw [if_neg e1, if_pos e2] at HPE
                obtain ⟨f0, f1, f2, f3, f4, f5⟩ := HM.out (by first | rfl | exact True.intro) _ _ _ HPE
                refine ⟨by rw [f0, e2]; rfl, fun _ => ⟨by rw [f1]; exact g0 (by omega), by rw [f2]; exact g1 (by omega), by rw [f3]; exact g3 (by omega), by rw [f4, e2]; rfl, f5.symm⟩⟩
              rw [if_neg e1, if_neg e2] at HPE
              have f0 := HN.out (by first | rfl | exact True.intro) HPE
              refine ⟨?_, fun h => by rw [f0] at h; exact Bool.noConfusion h⟩
              rw [f0]
              have : k = 0 ∨ k = 3 := by omega
              rcases this with rfl | rfl <;> rfl
            clear HPE HN HM hix hcell hh hst
            go_wp2_with fail
            go_region
            go_wp2_with (go_at_call 111; refine (in_c _ _ _ _).mono ?_; rintro e w' ⟨rfl, rfl⟩)
            refine bodyPost_ret (v := .agg #[.int .i64 m0, .int .i64 m1, .int .i64 m2, .slice none 0 0, .int .i64 (k : Int), .bool (inB (k : Int) 1 2)]) (by simp [results, Tryz.results283, go_sem, x0, x1, x2, x3, x4, x5, p0, p1, p2, p3, p4, p5]) rfl ⟨m0, m1, m2, .slice none 0 0, (k : Int), [], by rw [HE.out.1], HE.out.2, ⟨rfl, .inl ⟨rfl, rfl⟩⟩, ?_⟩
            refine Below.drew ?_
            repeat (refine Below.setCell ?_ (by simp <;> omega) _)
            exact kr
      · have hxb : (x.toList == [120]) = false := by rw [beq_eq_false_iff_ne]; intro h; exact hxx (bytes_eq_of_toList (by rw [h, ByteArray.toList_eq]))
        have HNum : Hid (Calls Tryz.prog 200 #[.string x, .int .i64 9999] wr fun e w' => e = .returned (.tuple #[.int .i64 (numOut x 9999), .bool (numGood x 9999)]) ∧ wr = w') := specNum_c x 9999 (by unfold maxLen; omega) wr
        obtain ⟨m, hm⟩ : ∃ m, m = numOut x 9999 := ⟨_, rfl⟩
        obtain ⟨gd, hgd⟩ : ∃ m, m = numGood x 9999 := ⟨_, rfl⟩
        rw [← hm, ← hgd] at HNum
        cases gd with
        | false =>
          have HO : Hid (OK = false) := HN.out (by first | rfl | exact True.intro) (part_bad ws (by omega) k hlt (by rw [hgk]; exact hxx) (by rw [hgk]; exact hgd.symm))
          clear HN HM hgk hx hxx hcell hm hgd hh
          go_wp2_with (go_at_call 200; refine HNum.out.mono ?_; rintro e w' ⟨rfl, rfl⟩)
          refine bodyPost_ret (v := .agg #[.int .i64 0, .int .i64 0, .int .i64 0, .slice none 0 0, .int .i64 0, .bool false]) (by simp [results, Tryz.results283, go_sem, x0, x1, x2, x3, x4, x5]) rfl ⟨0, 0, 0, .slice none 0 0, 0, [], by rw [HO.out], fun h => (by rw [HO.out] at h; exact Bool.noConfusion h), ⟨rfl, .inl ⟨rfl, rfl⟩⟩, ?_⟩
          iterate 6 (refine Below.setCell ?_ (by simp <;> omega) _)
          exact kr
        | true =>
          have hg' : ∀ j, j < k + 1 → numGood (ws.getD j ⟨#[]⟩) 9999 = true := fun j hj => by
            by_cases e : j = k
            · subst e; rw [hgk]; exact hgd.symm
            · exact hh.out.1 j (by omega)
          obtain ⟨_, g0, g1, g2, g3⟩ := hh.out
          have hmk : m = numOut (ws.getD k ⟨#[]⟩) 9999 := by rw [hgk]; exact hm
          have hk3 : k = 0 ∨ k = 1 ∨ k = 2 := by omega
          rcases hk3 with rfl | rfl | rfl
          · have hcx' : wr.cell? ⟨bq, off, none⟩ = some (.string x) := hcx
            have p4' : wr.cell? ⟨w3.heap.size, 4, none⟩ = some (.int .i64 0) := p4
            have hkl'' : (0 : Int) < (ws.length : Int) := hkl'
            have HH : Hid ((∀ j, j < 1 → numGood (ws.getD j ⟨#[]⟩) 9999 = true) ∧ (0 < 1 → m = numOut (ws.getD 0 ⟨#[]⟩) 9999) ∧ (1 < 1 → m1 = numOut (ws.getD 1 ⟨#[]⟩) 9999) ∧ (1 ≤ 1 → m1 = 0) ∧ (1 ≤ 2 → m2 = 0)) := ⟨hg', fun _ => hmk, fun h => absurd h (by omega), fun _ => g2 (by omega), fun _ => g3 (by omega)⟩
            clear hh hg' g0 g1 g2 g3 hmk hm hgd hgk hx hxx hcell HN HM
            go_wp2_with (go_at_call 200; refine HNum.out.mono ?_; rintro e w' ⟨rfl, rfl⟩)
            have P2 := (hP.far (N := w3.heap.size + 1) (j := 0) (by omega) (.int .i64 m)).set4 (.int .i64 1)
            have T2 := ((hT.set (.int .i64 m)).1).far (N := w3.heap.size) (j := 4) (by omega) (.int .i64 1)
            go_roundw
            case rel => exact ⟨1, m, m1, m2, by omega, P2, T2, HH, (hb3.setCell (by simp) _).setCell (by simp) _⟩
            case measure => have q4 := P2.cells.2.2.2.2.1; simp [q4, p4, intOf]; omega
          · have HH : Hid ((∀ j, j < 2 → numGood (ws.getD j ⟨#[]⟩) 9999 = true) ∧ (0 < 2 → m0 = numOut (ws.getD 0 ⟨#[]⟩) 9999) ∧ (1 < 2 → m = numOut (ws.getD 1 ⟨#[]⟩) 9999) ∧ (2 ≤ 1 → m = 0) ∧ (2 ≤ 2 → m2 = 0)) := ⟨hg', fun _ => g0 (by omega), fun _ => hmk, fun h => absurd h (by omega), fun _ => g3 (by omega)⟩
            clear hh hg' g0 g1 g2 g3 hmk hm hgd hgk hx hxx hcell HN HM
            go_wp2_with (go_at_call 200; refine HNum.out.mono ?_; rintro e w' ⟨rfl, rfl⟩)
            have P2 := (hP.far (N := w3.heap.size + 1) (j := 1) (by omega) (.int .i64 m)).set4 (.int .i64 2)
            have T2 := ((hT.set (.int .i64 m)).2).far (N := w3.heap.size) (j := 4) (by omega) (.int .i64 2)
            go_roundw
            case rel => exact ⟨2, m0, m, m2, by omega, P2, T2, HH, (hb3.setCell (by simp) _).setCell (by simp) _⟩
            case measure => have q4 := P2.cells.2.2.2.2.1; simp [q4, p4, intOf]; omega
          · have HH : Hid ((∀ j, j < 3 → numGood (ws.getD j ⟨#[]⟩) 9999 = true) ∧ (0 < 3 → m0 = numOut (ws.getD 0 ⟨#[]⟩) 9999) ∧ (1 < 3 → m1 = numOut (ws.getD 1 ⟨#[]⟩) 9999) ∧ (3 ≤ 1 → m1 = 0) ∧ (3 ≤ 2 → m = 0)) := ⟨hg', fun _ => g0 (by omega), fun _ => g1 (by omega), fun h => absurd h (by omega), fun h => absurd h (by omega)⟩
            clear hh hg' g0 g1 g2 g3 hmk hm hgd hgk hx hxx hcell HN HM
            go_wp2_with (go_at_call 200; refine HNum.out.mono ?_; rintro e w' ⟨rfl, rfl⟩)
            have P2 := (hP.far (N := w3.heap.size + 1) (j := 2) (by omega) (.int .i64 m)).set4 (.int .i64 3)
            have T2 := (hT.set2 (.int .i64 m)).far (N := w3.heap.size) (j := 4) (by omega) (.int .i64 3)
            go_roundw
            case rel => exact ⟨3, m0, m1, m, by omega, P2, T2, HH, (hb3.setCell (by simp) _).setCell (by simp) _⟩
            case measure => have q4 := P2.cells.2.2.2.2.1; simp [q4, p4, intOf]; omega
    · have hkl' : ¬ (k : Int) < (ws.length : Int) := by omega
      have hst : Hid (k < ws.length → ws.getD k ⟨#[]⟩ = xT) := fun h => absurd h (by omega)
      go_wp2_with fail
      go_loop [10] (fun vi => ∃ i : Nat, k ≤ i ∧ i ≤ ws.length ∧ vi = .int .i64 (i : Int) ∧ Hid (∀ j, k ≤ j → j < i → ws.getD j ⟨#[]⟩ = xT)) (fun vi => ws.length - (intOf vi).toNat)
      case atStart => exact ⟨k, Nat.le_refl _, hk, rfl, fun j h1 h2 => absurd h2 (by omega)⟩
      case round =>
        obtain ⟨i, hki, hil, rfl, hix⟩ := hrel
        by_cases hlt2 : i < ws.length
        · exact absurd hlt2 (by omega)
        · have hie : i = ws.length := by omega
          subst hie
          have hil' : ¬ (ws.length : Int) < (ws.length : Int) := by omega
          have HPE := part_end ws hL0 (by omega) k hk hh.out.1 (fun j h1 h2 => hix.out j h1 h2)
          have HE : Hid (OK = inB (k : Int) 1 2 ∧ (OK = true → m0 = partA s ∧ m1 = partB' s ∧ m2 = partC s ∧ (k : Int) = partT s ∧ [] = partP s)) := by
            obtain ⟨_, g0, g1, g2, g3⟩ := hh.out
            by_cases e1 : k = 1
            · rw [if_pos e1] at HPE
              obtain ⟨f0, f1, f2, f3, f4, f5⟩ := HM.out (by first | rfl | exact True.intro) _ _ _ HPE
              refine ⟨by rw [f0, e1]; rfl, fun _ => ⟨by rw [f1]; exact g0 (by omega), by rw [f2]; exact g2 (by omega), by rw [f3]; exact g3 (by omega), by rw [f4, e1]; rfl, f5.symm⟩⟩
            by_cases e2 : k = 2
            · rw [if_neg e1, if_pos e2] at HPE
              obtain ⟨f0, f1, f2, f3, f4, f5⟩ := HM.out (by first | rfl | exact True.intro) _ _ _ HPE
              refine ⟨by rw [f0, e2]; rfl, fun _ => ⟨by rw [f1]; exact g0 (by omega), by rw [f2]; exact g1 (by omega), by rw [f3]; exact g3 (by omega), by rw [f4, e2]; rfl, f5.symm⟩⟩
            rw [if_neg e1, if_neg e2] at HPE
            have f0 := HN.out (by first | rfl | exact True.intro) HPE
            refine ⟨?_, fun h => by rw [f0] at h; exact Bool.noConfusion h⟩
            rw [f0]
            have : k = 0 ∨ k = 3 := by omega
            rcases this with rfl | rfl <;> rfl
          clear HPE HN HM hix hcell hh hst
          go_wp2_with fail
          go_region
          go_wp2_with (go_at_call 111; refine (in_c _ _ _ _).mono ?_; rintro e w' ⟨rfl, rfl⟩)
          refine bodyPost_ret (v := .agg #[.int .i64 m0, .int .i64 m1, .int .i64 m2, .slice none 0 0, .int .i64 (k : Int), .bool (inB (k : Int) 1 2)]) (by simp [results, Tryz.results283, go_sem, x0, x1, x2, x3, x4, x5, p0, p1, p2, p3, p4, p5]) rfl ⟨m0, m1, m2, .slice none 0 0, (k : Int), [], by rw [HE.out.1], HE.out.2, ⟨rfl, .inl ⟨rfl, rfl⟩⟩, ?_⟩
          refine Below.drew ?_
          repeat (refine Below.setCell ?_ (by simp <;> omega) _)
          exact kr
end Go.Proofs.YtlfmefojcmpfeaaGreatDoor

/-! What a word makes, the specification's: a contract for the walks; condition: the text has at most 2 to the 20 bytes. -/
namespace Go.Proofs.YtlfmefojcmpfeaaGreatDoor
open Go.RowKit
set_option linter.unusedSimpArgs false
set_option linter.unusedVariables false

theorem sign_step (s : ByteArray) (k : Nat) (hk : k < 7) : signGo s (7 - k) = if headB s (signsS.getD k ⟨#[]⟩) then (numsS.getD k 0, cutRest s (signsS.getD k ⟨#[]⟩)) else signGo s (7 - (k + 1)) := by
  have h : k = 0 ∨ k = 1 ∨ k = 2 ∨ k = 3 ∨ k = 4 ∨ k = 5 ∨ k = 6 := by omega
  rcases h with rfl | rfl | rfl | rfl | rfl | rfl | rfl <;> rfl
theorem sign_hit (s : ByteArray) (k : Nat) (hk : k < 8) (h : headB s (signsS.getD k ⟨#[]⟩) = true) : signGo s (7 - k) = (numsS.getD k 0, s.extract (signsS.getD k ⟨#[]⟩).size s.size) := by
  by_cases h7 : k = 7
  · subst h7
    show ((0 : Int), s) = (0, s.extract 0 s.size)
    simp
  · rw [sign_step s k (by omega), if_pos h, cutRest, if_pos h]
theorem sign_none (s : ByteArray) : headB s (signsS.getD 7 ⟨#[]⟩) = true := by
  have h : (s.extract 0 0).toList = [] := by rw [ByteArray.toList_eq]; simp
  have h2 : (⟨#[]⟩ : ByteArray).toList = [] := by rw [ByteArray.toList_eq]
  show (decide (0 ≤ s.size) && ((s.extract 0 0).toList == (⟨#[]⟩ : ByteArray).toList)) = true
  rw [h, h2]; simp
theorem signsS_small : ∀ k, k < 8 → (signsS.getD k ⟨#[]⟩).size ≤ 2 := by decide +kernel

/-- Is the word one, whatever its version's numbers? -/
def wordS (s : ByteArray) : Bool := decide (s = ⟨#[42]⟩) || partOk (signRest s)

theorem own_empty (w : World) (lo : Nat) (h : lo ≤ w.heap.size) : CmpsOwn lo (w.alloc (.cells #[] 214)) (.slice (some ⟨w.heap.size, 0, none⟩) 0 0) [] :=
  ⟨[], fun _ => .slice none 0 0, World.ownsRow_lit w #[] 0 (base := lo) (e := 214) (size := 5) h (by unfold maxLen; omega) rfl, fun i h => absurd h (by simp), fun i j h => absurd h (by simp)⟩

theorem signs_row (w : World) : ∀ k, k < 8 → (w.alloc (.cells #[.string ⟨#[94]⟩, .string ⟨#[126]⟩, .string ⟨#[62, 61]⟩, .string ⟨#[62]⟩, .string ⟨#[60, 61]⟩, .string ⟨#[60]⟩, .string ⟨#[61]⟩, .string ⟨#[]⟩] 9)).cell? ⟨w.heap.size, k, none⟩ = some (.string (signsS.getD k ⟨#[]⟩)) := fun k hk => by
  have hh := vblk_cell (vheap_new w (.cells #[.string ⟨#[94]⟩, .string ⟨#[126]⟩, .string ⟨#[62, 61]⟩, .string ⟨#[62]⟩, .string ⟨#[60, 61]⟩, .string ⟨#[60]⟩, .string ⟨#[61]⟩, .string ⟨#[]⟩] 9)) k
  rw [hh]
  have h : k = 0 ∨ k = 1 ∨ k = 2 ∨ k = 3 ∨ k = 4 ∨ k = 5 ∨ k = 6 ∨ k = 7 := by omega
  rcases h with rfl | rfl | rfl | rfl | rfl | rfl | rfl | rfl <;> rfl

set_option maxHeartbeats 4000000 in
set_option maxRecDepth 100000 in
theorem l4Word_c (s : ByteArray) (hs : s.size ≤ 1048576) (w : World) :
    Calls Tryz.prog 236 #[.string s] w fun e w' => ∃ v, e = .returned (.tuple #[v, .bool (wordS s)]) ∧ CmpsOwn w.heap.size w' v (wordD s) ∧ Below w.heap.size w w' := by
  by_cases hst : s = ⟨#[42]⟩
  · subst hst
    have e1 : wordS ⟨#[42]⟩ = true := by rfl
    have e2 : wordD ⟨#[42]⟩ = [⟨4, 0, 0, 0, []⟩] := by simp [wordD]
    rw [e1, e2]
    clear e1 e2
    go_enter Tryz.func236, Tryz.ntmps236
    go_wp2_with fail
    go_ret2
    exact ⟨_, rfl, one_own ⟨4, 0, 0, 0, []⟩ rfl (Nat.le_refl _) (owns_nil _ _), (Below.refl _ _).alloc (Nat.le_refl _) _⟩
  have hsb : (s.toList == [42]) = false := by rw [beq_eq_false_iff_ne]; intro h; exact hst (bytes_eq_of_toList (by rw [h, ByteArray.toList_eq]))
  have HW : Hid (wordS s = partOk (signGo s 7).2 ∧ wordD s = if partOk (signGo s 7).2 then makeC (signGo s 7).1 (partA (signGo s 7).2) (partB' (signGo s 7).2) (partC (signGo s 7).2) (partP (signGo s 7).2) (partT (signGo s 7).2) else []) := ⟨by simp [wordS, hst, signRest], by rw [wordD, if_neg hst]; rfl⟩
  obtain ⟨OK, hOK⟩ : ∃ y, y = wordS s := ⟨_, rfl⟩
  obtain ⟨DS, hDS⟩ : ∃ y, y = wordD s := ⟨_, rfl⟩
  rw [← hOK, ← hDS] at HW
  rw [← hOK, ← hDS]
  have hrow := signs_row w
  have hW1 : Below w.heap.size w (w.alloc (.cells #[.string ⟨#[94]⟩, .string ⟨#[126]⟩, .string ⟨#[62, 61]⟩, .string ⟨#[62]⟩, .string ⟨#[60, 61]⟩, .string ⟨#[60]⟩, .string ⟨#[61]⟩, .string ⟨#[]⟩] 9)) := (Below.refl _ _).alloc (Nat.le_refl _) _
  have hl1 : w.heap.size < (w.alloc (.cells #[.string ⟨#[94]⟩, .string ⟨#[126]⟩, .string ⟨#[62, 61]⟩, .string ⟨#[62]⟩, .string ⟨#[60, 61]⟩, .string ⟨#[60]⟩, .string ⟨#[61]⟩, .string ⟨#[]⟩] 9)).heap.size := by simp
  obtain ⟨W1, hW1d⟩ : ∃ x, x = w.alloc (.cells #[.string ⟨#[94]⟩, .string ⟨#[126]⟩, .string ⟨#[62, 61]⟩, .string ⟨#[62]⟩, .string ⟨#[60, 61]⟩, .string ⟨#[60]⟩, .string ⟨#[61]⟩, .string ⟨#[]⟩] 9) := ⟨_, rfl⟩
  rw [← hW1d] at hrow hW1 hl1
  clear hst hOK hDS
  go_enter Tryz.func236, Tryz.ntmps236
  go_wp2_with fail
  rw [← hW1d]
  clear hW1d
  go_loopw [5, 6] (fun vi vn wr => ∃ k : Nat, k ≤ 7 ∧ vi = .int .i64 (k : Int) ∧ Hid (signGo s 7 = signGo s (7 - k)) ∧ Below W1.heap.size W1 wr) (fun vi _ _ => 8 - (intOf vi).toNat)
  case atStart => exact ⟨0, by omega, rfl, rfl, Below.refl _ _⟩
  case round =>
    obtain ⟨k, hk, rfl, hh, hbr⟩ := hrel
    have hk8 : (k : Int) < 8 := by omega
    have hck := (hbr.cell (by simpa using hl1)).trans (hrow k (by omega))
    have kr := hW1.trans (hbr.mono hW1.size)
    have hgz := signsS_small k (by omega)
    have HHIT : Hid (headB s (signsS.getD k ⟨#[]⟩) = true → signGo s 7 = (numsS.getD k 0, s.extract (signsS.getD k ⟨#[]⟩).size s.size)) := fun h => by rw [hh.out]; exact sign_hit s k (by omega) h
    have HMISS : Hid (headB s (signsS.getD k ⟨#[]⟩) = false → k + 1 ≤ 7 ∧ signGo s 7 = signGo s (7 - (k + 1))) := fun h => by
      have h7 : k ≠ 7 := fun e => by subst e; rw [sign_none] at h; exact Bool.noConfusion h
      exact ⟨by omega, by rw [hh.out, sign_step s k (by omega), if_neg (by rw [h]; simp)]⟩
    have HMK : Hid (∀ (lo : Nat) (a b c : Int) (u : Value) (ps : List ByteArray) (t : Int) (w : World), lo ≤ w.heap.size → numsOk a b c → (t = 1 ∨ t = 2 ∨ t = 3) → w.ownsRow lo 9 1 u ps.length (strsV ps) → Calls Tryz.prog 284 #[.string (signsS.getD k ⟨#[]⟩), .agg #[.int .i64 a, .int .i64 b, .int .i64 c, u, .int .i64 t, .bool true]] w fun e w' => ∃ v, e = .returned v ∧ CmpsOwn lo w' v (makeC (numsS.getD k 0) a b c ps t) ∧ Below w.heap.size w w') := fun lo a b c u ps t w h1 h2 h3 h4 => l4Make_c k (by omega) lo a b c u ps t true w h1 h2 h3 h4
    have hhe : headB s (signsS.getD k ⟨#[]⟩) = (decide ((signsS.getD k ⟨#[]⟩).size ≤ s.size) && (s.extract 0 (signsS.getD k ⟨#[]⟩).size).toList == (signsS.getD k ⟨#[]⟩).toList) := rfl
    obtain ⟨sn, hsn⟩ : ∃ x, x = numsS.getD k 0 := ⟨_, rfl⟩
    obtain ⟨g, hg⟩ : ∃ x, x = signsS.getD k ⟨#[]⟩ := ⟨_, rfl⟩
    rw [← hg] at hck hgz HHIT HMISS hhe
    rw [← hg, ← hsn] at HMK
    rw [← hsn] at HHIT
    clear hg hsn hh hrow
    by_cases hle : g.size ≤ s.size
    · have hle' : (g.size : Int) ≤ (s.size : Int) := by omega
      cases hq : ((s.extract 0 g.size).toList == g.toList) with
      | false =>
        obtain ⟨h7, hn⟩ := HMISS.out (by rw [hhe, hq]; simp)
        have HN : Hid (signGo s 7 = signGo s (7 - (k + 1))) := hn
        clear HMISS HHIT HMK hhe hn HW
        go_wp2_with fail
        go_quiet (fail)
        go_wp2_with fail
        go_roundw
        case rel => exact ⟨k + 1, h7, by go_num, HN, below_drewN' hbr _⟩
        case measure => simp [intOf]; omega
      | true =>
        have hsg := HHIT.out (by rw [hhe, hq]; simp [hle])
        have hrz : (s.extract g.size s.size).size ≤ 1048576 := by rw [ByteArray.size_extract]; omega
        have HRD := l4Read_c (s.extract g.size s.size) hrz
        have HNM := @part_nums (s.extract g.size s.size)
        rw [hsg] at HW
        obtain ⟨r, hr⟩ : ∃ x, x = s.extract g.size s.size := ⟨_, rfl⟩
        rw [← hr] at HRD HNM HW
        have HRD2 : Hid (∀ w1, Calls Tryz.prog 283 #[.string (s.extract g.size s.size)] w1 fun e w' => readPost w1 r (partOk r) e w') := by rw [← hr]; exact HRD
        clear HMISS HHIT hhe hsg hrz HRD hr
        go_wp2_with fail
        go_quiet (fail)
        have kq := below_drewN' kr nq
        have hcq : (wr.drewN nq).cell? ⟨w.heap.size, k, none⟩ = some (.string g) := hck
        have hlq : w.heap.size < (wr.drewN nq).heap.size := Nat.lt_of_lt_of_le hl1 hbr.size
        generalize wr.drewN nq = WQ at kq hcq hlq ⊢
        clear hck kr
        cases hok : partOk r with
        | false =>
          rw [hok] at HRD2 HW
          have HE : Hid (OK = false ∧ DS = []) := by show _ ∧ _; simpa using HW.out
          clear HW HNM HMK hok
          go_wp2_with fail
          go_at_call 283
          refine (HRD2.out _).mono ?_
          rintro e w2 ⟨a, b, c, u, t, ps, rfl, _, ou, b2⟩
          obtain ⟨uq, un, uc, hu⟩ : ∃ q n c, u = .slice q n c := by rcases ou.2 with ⟨rfl, _⟩ | ⟨g, cap, cur, rfl, _⟩ <;> exact ⟨_, _, _, rfl⟩
          subst hu
          have k2 := kq.trans (b2.mono kq.size)
          go_wp2_with fail
          go_ret2
          refine ⟨_, by rw [HE.out.1]; rfl, ?_, ?_⟩
          · rw [HE.out.2]
            have hz : ∀ o, (w2.alloc o).heap.size = w2.heap.size + 1 := fun o => by simp
            have h := fun o => own_empty (w2.alloc o) w.heap.size (by rw [hz]; have := k2.size; omega)
            simp only [hz] at h
            exact h _
          · exact (k2.alloc k2.size _).alloc (by rw [show ∀ o, (w2.alloc o).heap.size = w2.heap.size + 1 from fun o => by simp]; have := k2.size; omega) _
        | true =>
          rw [hok] at HRD2 HW
          have HE : Hid (OK = true ∧ DS = makeC sn (partA r) (partB' r) (partC r) (partP r) (partT r)) := by show _ ∧ _; simpa using HW.out
          obtain ⟨hn1, hn2, _⟩ := HNM hok
          clear HW HNM hok
          go_wp2_with fail
          go_at_call 283
          refine (HRD2.out _).mono ?_
          rintro e w2 ⟨a, b, c, u, t, ps, rfl, hi, ou, b2⟩
          obtain ⟨ha, hb, hc, ht, hp⟩ := hi rfl
          obtain ⟨uq, un, uc, hu⟩ : ∃ q n c, u = .slice q n c := by rcases ou.2 with ⟨rfl, _⟩ | ⟨g, cap, cur, rfl, _⟩ <;> exact ⟨_, _, _, rfl⟩
          subst hu
          have k2 := kq.trans (b2.mono kq.size)
          have hc2 := (b2.cell (by simpa using hlq)).trans hcq
          rw [← ha, ← hb, ← hc] at hn1
          rw [← ht] at hn2
          rw [← ha, ← hb, ← hc, ← ht, ← hp] at HE
          have HM2 : Hid (∀ w1, Below w2.heap.size w2 w1 → Calls Tryz.prog 284 #[.string g, .agg #[.int .i64 a, .int .i64 b, .int .i64 c, .slice uq un uc, .int .i64 t, .bool true]] w1 fun e w' => ∃ v, e = .returned v ∧ CmpsOwn w.heap.size w' v (makeC sn a b c ps t) ∧ Below w.heap.size w w') := fun w1 h1 => (HMK.out w.heap.size a b c _ ps t w1 (Nat.le_trans k2.size h1.size) hn1 hn2 (owns_base (owns_of_below ou h1) kq.size)).mono (fun e w' ⟨v, h2, h3, h4⟩ => ⟨v, h2, h3, (k2.trans (h1.mono k2.size)).trans (h4.mono (Nat.le_trans k2.size h1.size))⟩)
          have hA : ∀ o n, Below w2.heap.size w2 ((w2.alloc o).drewN n) := fun o n => below_drewN' ((Below.refl _ _).alloc (Nat.le_refl _) _) n
          have hA1 : ∀ o, Below w2.heap.size w2 ((w2.alloc o).drew) := fun o => ((Below.refl _ _).alloc (Nat.le_refl _) _).drew
          have hl2 : w.heap.size < w2.heap.size := Nat.lt_of_lt_of_le hlq b2.size
          have hc3 : ∀ o, (w2.alloc o).cell? ⟨w.heap.size, k, none⟩ = some (.string g) := fun o => ((((Below.refl w2.heap.size w2).alloc (Nat.le_refl _) o).cell (by simpa using hl2))).trans hc2
          have hc3' : ∀ o, (w2.alloc o).drew.cell? ⟨w.heap.size, k, none⟩ = some (.string g) := fun o => hc3 o
          clear HMK ha hb hc ht hp hi hn1 hn2 hcq
          go_wp2_with fail
          go_region_with (go_at_call 284; refine (HM2.out _ (hA1 _)).mono ?_; rintro e w4 ⟨v4, rfl, o4, k4⟩; obtain ⟨q4, c4, us4, hq4, _, _⟩ := o4.at; subst hq4)
          all_goals go_wp2_with fail
          all_goals go_ret2
          all_goals exact ⟨_, by rw [HE.out.1]; rfl, by rw [HE.out.2]; exact o4, k4⟩
    · have hle' : ¬ (g.size : Int) ≤ (s.size : Int) := by omega
      have hled : decide ((g.size : Int) ≤ (s.size : Int)) = false := by simpa using hle
      obtain ⟨h7, hn⟩ := HMISS.out (by rw [hhe]; simp [hle])
      have HN : Hid (signGo s 7 = signGo s (7 - (k + 1))) := hn
      clear HMISS HHIT HMK hhe hn HW
      go_wp2_with fail
      go_quiet (fail)
      go_wp2_with fail
      go_roundw
      case rel => exact ⟨k + 1, h7, by go_num, HN, below_drewN' hbr _⟩
      case measure => simp [intOf]; omega
end Go.Proofs.YtlfmefojcmpfeaaGreatDoor

/-! What a list of words makes, one behind the other, the specification's: a contract for the walks; conditions: at most 2 to the 20 words and one, each of at most 2 to the 20 bytes; not three with a hyphen between. -/
namespace Go.Proofs.YtlfmefojcmpfeaaGreatDoor
open Go.RowKit
set_option linter.unusedSimpArgs false
set_option linter.unusedVariables false

/-- The Cmps that words make, and whether all are words and the Cmps at most four. -/
def foldS : List ByteArray → List CmpD → Bool × List CmpD
  | [], acc => (decide (acc.length ≤ 4), acc)
  | x :: ws, acc => if wordS x = true then foldS ws (acc ++ wordD x) else (false, acc)

theorem wordS_ne {x : ByteArray} (h : wordS x = true) : wordD x ≠ [] := by
  unfold wordD
  split
  · simp
  · rename_i hs
    split
    · exact makeC_ne _ _ _ _ _ _
    · rename_i hp
      simp [wordS, hs, hp] at h

set_option maxHeartbeats 4000000 in
set_option maxRecDepth 100000 in
theorem l4ListF_c (ws : List ByteArray) (hL : ws.length ≤ 1048577) (hsz : ∀ x ∈ ws, x.size ≤ 1048576) (hb : ¬ (ws.length = 3 ∧ ws.getD 1 ⟨#[]⟩ = ⟨#[45]⟩)) (hL0 : 0 < ws.length) (v : Value) (w : World) (hv : Reads w v (strsV ws)) :
    Calls Tryz.prog 166 #[v] w fun e w' => ∃ v', e = .returned (.tuple #[v', .bool (foldS ws []).1]) ∧ CmpsOwn w.heap.size w' v' (foldS ws []).2 ∧ Below w.heap.size w w' := by
  obtain ⟨i0, hi, hz0, hz1, hz2⟩ := info_parts infoCmp
  obtain ⟨qw, cw, rfl, hcw, hc3⟩ := reads_strs hv
  rcases hc3 with hw0 | ⟨bq, off, rfl, hbq, hcell⟩
  · rw [hw0] at hL0; simp at hL0
  have hgd : ∀ k (h : k < ws.length), ws.getD k ⟨#[]⟩ = ws[k] := fun k h => by simp [List.getD_eq_getElem?_getD, h]
  have O1 : CmpsOwn w.heap.size (w.alloc (.cells #[] 214)) (.slice (some ⟨w.heap.size, 0, none⟩) 0 0) [] := own_empty w w.heap.size (Nat.le_refl _)
  have hW1 : Below w.heap.size w (w.alloc (.cells #[] 214)) := (Below.refl _ _).alloc (Nat.le_refl _) _
  obtain ⟨W1, hW1d⟩ : ∃ x, x = w.alloc (.cells #[] 214) := ⟨_, rfl⟩
  obtain ⟨R, hR⟩ : ∃ x, x = foldS ws [] := ⟨_, rfl⟩
  have HR : Hid (foldS (ws.drop 0) [] = R) := hR.symm
  rw [← hR]
  by_cases h3 : ws.length = 3
  · have hd : ¬ ws[1] = ⟨#[45]⟩ := fun h => hb ⟨h3, by rw [hgd 1 (by omega)]; exact h⟩
    have c1 := hcell 1 (by omega)
    obtain ⟨x1, hx1⟩ : ∃ x, x = ws[1] := ⟨_, rfl⟩
    rw [← hx1] at c1 hd
    have hd' : (x1.toList == [45]) = false := by rw [beq_eq_false_iff_ne]; intro h; exact hd (bytes_eq_of_toList (by rw [h, ByteArray.toList_eq]))
    have c1' : W1.cell? ⟨bq, off + 1, none⟩ = some (.string x1) := by rw [hW1d]; exact (hW1.cell (p := ⟨bq, off + 1, none⟩) hbq).trans c1
    rw [hW1d] at c1'
    have h3' : ((ws.length : Int) == 3) = true := by simp [h3]
    have hi1 : (1 : Int) < (ws.length : Int) := by omega
    clear hb hd hx1 hgd h3 hR hv
    rw [← hW1d] at O1 hW1
    go_enter Tryz.func166, Tryz.ntmps166
    go_wp2_with fail
    rw [← hW1d]
    clear hW1d
    go_loopw [4, 9, 10, 11] (fun v4 vi v10 v11 wr => ∃ (k : Nat) (acc : List CmpD), k ≤ ws.length ∧ vi = .int .i64 (k : Int) ∧ CmpsOwn w.heap.size wr v4 acc ∧ acc.length ≤ 2 * k ∧ Hid (foldS (ws.drop k) acc = R) ∧ Below w.heap.size w wr) (fun _ vi _ _ _ => ws.length - (intOf vi).toNat)
    case atStart => exact ⟨0, [], Nat.zero_le _, rfl, O1, by simp, HR, hW1⟩
    case round =>
      obtain ⟨k, acc, hk, rfl, hacc, hal, hf, hbr⟩ := hrel
      clear O1 hW1 HR
      obtain ⟨qv, cv, us, hv5, _, _⟩ := hacc.at
      subst hv5
      by_cases hlt : k < ws.length
      · have hcx : wr.cell? ⟨bq, off + k, none⟩ = some (.string ws[k]) := (hbr.cell (p := ⟨bq, off + k, none⟩) hbq).trans (hcell k hlt)
        have hsk := hsz ws[k] (List.getElem_mem hlt)
        have hdr : ws.drop k = ws[k] :: ws.drop (k + 1) := List.drop_eq_getElem_cons hlt
        rw [hdr, foldS] at hf
        obtain ⟨x, hx⟩ : ∃ x, x = ws[k] := ⟨_, rfl⟩
        rw [← hx] at hcx hsk hf
        have HC := l4Word_c x hsk wr
        have hne := @wordS_ne x
        have hDl := wordD_len x
        obtain ⟨D, hD⟩ : ∃ D, D = wordD x := ⟨_, rfl⟩
        obtain ⟨K, hK⟩ : ∃ K, K = wordS x := ⟨_, rfl⟩
        rw [← hD, ← hK] at HC hf hne
        rw [← hD] at hDl
        have HC' : Hid (Calls Tryz.prog 236 #[.string x] wr fun e w' => ∃ v, e = .returned (.tuple #[v, .bool K]) ∧ CmpsOwn wr.heap.size w' v D ∧ Below wr.heap.size wr w') := HC
        have hki : (k : Int) < (ws.length : Int) := by omega
        clear HC hD hK hx hdr hcell hsz
        cases K with
        | false =>
          have HN : Hid (R = (false, acc)) := by show _ = _; rw [← hf.out]; simp
          clear hf
          go_wp2_with (go_at_call 236; refine HC'.out.mono ?_; rintro e w4 ⟨v4, rfl, hv4, b4⟩; obtain ⟨q4, c4, us4, hq4, _, _⟩ := hv4.at; subst hq4)
          go_ret2
          exact ⟨_, by rw [HN.out]; rfl, by rw [HN.out]; exact hacc.below b4, hbr.trans (b4.mono hbr.size)⟩
        | true =>
          have hDne := hne rfl
          have HN : Hid (foldS (ws.drop (k + 1)) (acc ++ D) = R) := by show _ = _; rw [← hf.out, if_pos rfl]
          have hlo : w.heap.size ≤ wr.heap.size := hbr.size
          have hrow : ∀ j, Value.ownBlock (.slice qv acc.length cv) = some j → w.heap.size ≤ j := fun j hj => by
            obtain ⟨ys, us, h1, _, _⟩ := hacc
            rcases h1.2 with ⟨h, _⟩ | ⟨g, cap, cur, h, hg, _⟩
            · rw [h] at hj; simp [Value.ownBlock] at hj
            · rw [h] at hj; simp [Value.ownBlock] at hj; omega
          have HAP : Hid (∀ w4 v4, Below wr.heap.size wr w4 → CmpsOwn wr.heap.size w4 v4 D → ∃ (ys ys' : List Value) (g cap : Nat), w4.ownsRow w.heap.size 214 5 (.slice qv acc.length cv) acc.length ys ∧ v4 = .slice (some ⟨g, 0, none⟩) D.length cap ∧ ys'.length = D.length * 5 ∧ (∀ j u, ys'[j]? = some u → w4.cell? ((⟨g, 0, none⟩ : Addr).add j) = some u) ∧ (∀ u ∈ ys', u.oneCell' = true) ∧ ∀ w2 v2, w2.ownsRow w.heap.size 214 5 v2 (acc.length + D.length) (ys ++ ys') → w4.grownBy w2 (Value.ownBlock (.slice qv acc.length cv)) → CmpsOwn w.heap.size w2 v2 (acc ++ D)) := fun w4 v4 b4 h4 => hacc.app hlo b4 h4 hDne
          have HRW : Hid (∀ j, Value.ownBlock (.slice qv acc.length cv) = some j → w.heap.size ≤ j) := hrow
          clear hf hne hrow hacc
          go_wp2_with (first | (go_at_call 236; refine HC'.out.mono ?_; rintro e w4 ⟨v4, rfl, hv4, b4⟩; obtain ⟨ys, ys', g, cap, o4, hv, hly, hnw, hon, happ⟩ := HAP.out w4 v4 b4 hv4; subst hv; have HNW : Hid (∀ j u, ys'[j]? = some u → w4.cell? ((⟨g, 0, none⟩ : Addr).add j) = some u) := hnw; have HON : Hid (∀ u ∈ ys', u.oneCell' = true) := hon; have HAPP : Hid (∀ w2 v2, w2.ownsRow w.heap.size 214 5 v2 (acc.length + D.length) (ys ++ ys') → w4.grownBy w2 (Value.ownBlock (.slice qv acc.length cv)) → CmpsOwn w.heap.size w2 v2 (acc ++ D)) := happ; clear hnw hon happ hv4) | (at_builtin; refine wpList_append_own _ rfl _ _ 203 rfl w.heap.size 214 i0 _ 5 56 Tryz.underlying203 hi hz0 hz1 hz2 rfl (by decide) (.slice qv acc.length cv) acc.length ys rfl o4 ⟨g, 0, none⟩ D.length cap ys' rfl hly HNW.out HON.out (by unfold maxLen; omega) (by omega) (Nat.le_trans hlo b4.size) ?_))
          intro v2 w2 o2 gr2 _
          have kx := hbr.trans (b4.mono hlo)
          have k2 := below_turned kx gr2 kx.size HRW.out
          have hown := HAPP.out w2 v2 o2 gr2
          clear HAPP HNW HON HAP o4 o2 gr2
          go_wp2_with fail
          go_roundw
          case rel => exact ⟨k + 1, acc ++ D, by omega, by go_num, hown, by rw [List.length_append]; omega, HN, k2⟩
          case measure => simp [intOf]; omega
      · have he : k = ws.length := by omega
        subst he
        have HN : Hid (R = (decide (acc.length ≤ 4), acc)) := by show _ = _; rw [← hf.out, List.drop_length, foldS]
        have hdc : decide ((acc.length : Int) ≤ 4) = decide (acc.length ≤ 4) := by by_cases h : acc.length ≤ 4 <;> simp [h] <;> omega
        clear hf hcell hsz
        go_wp2_with fail
        go_ret2
        exact ⟨_, by rw [HN.out]; simp [hdc]; rfl, by rw [HN.out]; exact hacc, hbr⟩
  · have h3' : ((ws.length : Int) == 3) = false := by rw [beq_eq_false_iff_ne]; omega
    clear hb hgd h3 hR hv
    rw [← hW1d] at O1 hW1
    go_enter Tryz.func166, Tryz.ntmps166
    go_wp2_with fail
    rw [← hW1d]
    clear hW1d
    go_loopw [4, 9, 10, 11] (fun v4 vi v10 v11 wr => ∃ (k : Nat) (acc : List CmpD), k ≤ ws.length ∧ vi = .int .i64 (k : Int) ∧ CmpsOwn w.heap.size wr v4 acc ∧ acc.length ≤ 2 * k ∧ Hid (foldS (ws.drop k) acc = R) ∧ Below w.heap.size w wr) (fun _ vi _ _ _ => ws.length - (intOf vi).toNat)
    case atStart => exact ⟨0, [], Nat.zero_le _, rfl, O1, by simp, HR, hW1⟩
    case round =>
      obtain ⟨k, acc, hk, rfl, hacc, hal, hf, hbr⟩ := hrel
      clear O1 hW1 HR
      obtain ⟨qv, cv, us, hv5, _, _⟩ := hacc.at
      subst hv5
      by_cases hlt : k < ws.length
      · have hcx : wr.cell? ⟨bq, off + k, none⟩ = some (.string ws[k]) := (hbr.cell (p := ⟨bq, off + k, none⟩) hbq).trans (hcell k hlt)
        have hsk := hsz ws[k] (List.getElem_mem hlt)
        have hdr : ws.drop k = ws[k] :: ws.drop (k + 1) := List.drop_eq_getElem_cons hlt
        rw [hdr, foldS] at hf
        obtain ⟨x, hx⟩ : ∃ x, x = ws[k] := ⟨_, rfl⟩
        rw [← hx] at hcx hsk hf
        have HC := l4Word_c x hsk wr
        have hne := @wordS_ne x
        have hDl := wordD_len x
        obtain ⟨D, hD⟩ : ∃ D, D = wordD x := ⟨_, rfl⟩
        obtain ⟨K, hK⟩ : ∃ K, K = wordS x := ⟨_, rfl⟩
        rw [← hD, ← hK] at HC hf hne
        rw [← hD] at hDl
        have HC' : Hid (Calls Tryz.prog 236 #[.string x] wr fun e w' => ∃ v, e = .returned (.tuple #[v, .bool K]) ∧ CmpsOwn wr.heap.size w' v D ∧ Below wr.heap.size wr w') := HC
        have hki : (k : Int) < (ws.length : Int) := by omega
        clear HC hD hK hx hdr hcell hsz
        cases K with
        | false =>
          have HN : Hid (R = (false, acc)) := by show _ = _; rw [← hf.out]; simp
          clear hf
          go_wp2_with (go_at_call 236; refine HC'.out.mono ?_; rintro e w4 ⟨v4, rfl, hv4, b4⟩; obtain ⟨q4, c4, us4, hq4, _, _⟩ := hv4.at; subst hq4)
          go_ret2
          exact ⟨_, by rw [HN.out]; rfl, by rw [HN.out]; exact hacc.below b4, hbr.trans (b4.mono hbr.size)⟩
        | true =>
          have hDne := hne rfl
          have HN : Hid (foldS (ws.drop (k + 1)) (acc ++ D) = R) := by show _ = _; rw [← hf.out, if_pos rfl]
          have hlo : w.heap.size ≤ wr.heap.size := hbr.size
          have hrow : ∀ j, Value.ownBlock (.slice qv acc.length cv) = some j → w.heap.size ≤ j := fun j hj => by
            obtain ⟨ys, us, h1, _, _⟩ := hacc
            rcases h1.2 with ⟨h, _⟩ | ⟨g, cap, cur, h, hg, _⟩
            · rw [h] at hj; simp [Value.ownBlock] at hj
            · rw [h] at hj; simp [Value.ownBlock] at hj; omega
          have HAP : Hid (∀ w4 v4, Below wr.heap.size wr w4 → CmpsOwn wr.heap.size w4 v4 D → ∃ (ys ys' : List Value) (g cap : Nat), w4.ownsRow w.heap.size 214 5 (.slice qv acc.length cv) acc.length ys ∧ v4 = .slice (some ⟨g, 0, none⟩) D.length cap ∧ ys'.length = D.length * 5 ∧ (∀ j u, ys'[j]? = some u → w4.cell? ((⟨g, 0, none⟩ : Addr).add j) = some u) ∧ (∀ u ∈ ys', u.oneCell' = true) ∧ ∀ w2 v2, w2.ownsRow w.heap.size 214 5 v2 (acc.length + D.length) (ys ++ ys') → w4.grownBy w2 (Value.ownBlock (.slice qv acc.length cv)) → CmpsOwn w.heap.size w2 v2 (acc ++ D)) := fun w4 v4 b4 h4 => hacc.app hlo b4 h4 hDne
          have HRW : Hid (∀ j, Value.ownBlock (.slice qv acc.length cv) = some j → w.heap.size ≤ j) := hrow
          clear hf hne hrow hacc
          go_wp2_with (first | (go_at_call 236; refine HC'.out.mono ?_; rintro e w4 ⟨v4, rfl, hv4, b4⟩; obtain ⟨ys, ys', g, cap, o4, hv, hly, hnw, hon, happ⟩ := HAP.out w4 v4 b4 hv4; subst hv; have HNW : Hid (∀ j u, ys'[j]? = some u → w4.cell? ((⟨g, 0, none⟩ : Addr).add j) = some u) := hnw; have HON : Hid (∀ u ∈ ys', u.oneCell' = true) := hon; have HAPP : Hid (∀ w2 v2, w2.ownsRow w.heap.size 214 5 v2 (acc.length + D.length) (ys ++ ys') → w4.grownBy w2 (Value.ownBlock (.slice qv acc.length cv)) → CmpsOwn w.heap.size w2 v2 (acc ++ D)) := happ; clear hnw hon happ hv4) | (at_builtin; refine wpList_append_own _ rfl _ _ 203 rfl w.heap.size 214 i0 _ 5 56 Tryz.underlying203 hi hz0 hz1 hz2 rfl (by decide) (.slice qv acc.length cv) acc.length ys rfl o4 ⟨g, 0, none⟩ D.length cap ys' rfl hly HNW.out HON.out (by unfold maxLen; omega) (by omega) (Nat.le_trans hlo b4.size) ?_))
          intro v2 w2 o2 gr2 _
          have kx := hbr.trans (b4.mono hlo)
          have k2 := below_turned kx gr2 kx.size HRW.out
          have hown := HAPP.out w2 v2 o2 gr2
          clear HAPP HNW HON HAP o4 o2 gr2
          go_wp2_with fail
          go_roundw
          case rel => exact ⟨k + 1, acc ++ D, by omega, by go_num, hown, by rw [List.length_append]; omega, HN, k2⟩
          case measure => simp [intOf]; omega
      · have he : k = ws.length := by omega
        subst he
        have HN : Hid (R = (decide (acc.length ≤ 4), acc)) := by show _ = _; rw [← hf.out, List.drop_length, foldS]
        have hdc : decide ((acc.length : Int) ≤ 4) = decide (acc.length ≤ 4) := by by_cases h : acc.length ≤ 4 <;> simp [h] <;> omega
        clear hf hcell hsz
        go_wp2_with fail
        go_ret2
        exact ⟨_, by rw [HN.out]; simp [hdc]; rfl, by rw [HN.out]; exact hacc, hbr⟩
end Go.Proofs.YtlfmefojcmpfeaaGreatDoor

/-! What a list of words makes, the specification's, all of it; and with right versions it is what the program's list is: conditions: as its parts'. -/
namespace Go.Proofs.YtlfmefojcmpfeaaGreatDoor
open Go.RowKit
set_option linter.unusedSimpArgs false
set_option linter.unusedVariables false

def bothD (x y : ByteArray) : List CmpD := [⟨4, resN x 0, resN x 1, resN x 2, resP x⟩, ⟨2, resN y 0, resN y 1, resN y 2, resP y⟩]
def listS (ws : List ByteArray) : Bool × List CmpD :=
  if ws.length = 3 ∧ ws.getD 1 ⟨#[]⟩ = ⟨#[45]⟩ then (betweenOk (ws.getD 0 ⟨#[]⟩) (ws.getD 2 ⟨#[]⟩), bothD (ws.getD 0 ⟨#[]⟩) (ws.getD 2 ⟨#[]⟩)) else foldS ws []

theorem foldS_more : ∀ (ws : List ByteArray) (acc : List CmpD), ∃ more, (foldS ws acc).2 = acc ++ more
  | [], acc => ⟨[], by simp [foldS]⟩
  | x :: ws, acc => by
    rw [foldS]
    split
    · obtain ⟨m, h⟩ := foldS_more ws (acc ++ wordD x)
      exact ⟨wordD x ++ m, by rw [h, List.append_assoc]⟩
    · exact ⟨[], by simp⟩
theorem foldS_four : ∀ (ws : List ByteArray) (acc : List CmpD), (foldS ws acc).1 = true → (foldS ws acc).2.length ≤ 4
  | [], acc => fun h => by simpa [foldS] using h
  | x :: ws, acc => fun h => by
    rw [foldS] at h ⊢
    split
    · rename_i hw
      rw [if_pos hw] at h
      exact foldS_four ws _ h
    · rename_i hw
      rw [if_neg hw] at h
      simp at h
theorem word_both (x : ByteArray) : wordOk x = (wordS x && (wordD x).all goodD) := by
  unfold wordOk wordS
  by_cases h : x = ⟨#[42]⟩
  · subst h
    have e : wordD ⟨#[42]⟩ = [⟨4, 0, 0, 0, []⟩] := by simp [wordD]
    rw [e]
    decide +kernel
  · simp [h]
theorem fold_same : ∀ (ws : List ByteArray) (acc : List CmpD), acc.length ≤ 4 → acc.all goodD = true → foldW ws acc = if (foldS ws acc).1 && (foldS ws acc).2.all goodD then some (foldS ws acc).2 else none
  | [], acc => fun h1 h2 => by
    have e : foldS [] acc = (true, acc) := by rw [foldS, decide_eq_true h1]
    rw [foldW, e, h2]; rfl
  | x :: ws, acc => fun h1 h2 => by
    rw [foldW, word_both]
    cases hs : wordS x with
    | false =>
      have e : foldS (x :: ws) acc = (false, acc) := by rw [foldS, hs]; rfl
      rw [e]; simp
    | true =>
      have e : foldS (x :: ws) acc = foldS ws (acc ++ wordD x) := by rw [foldS, if_pos hs]
      rw [e]
      cases hg : (wordD x).all goodD with
      | false =>
        obtain ⟨m, hm⟩ := foldS_more ws (acc ++ wordD x)
        have : (foldS ws (acc ++ wordD x)).2.all goodD = false := by rw [hm, List.all_append, List.all_append, hg]; simp
        rw [this]; simp
      | true =>
        by_cases h4 : acc.length + (wordD x).length ≤ 4
        · rw [if_pos ⟨rfl, h4⟩]
          exact fold_same ws _ (by rw [List.length_append]; exact h4) (by rw [List.all_append, h2, hg]; rfl)
        · rw [if_neg (fun h => h4 h.2)]
          cases hf : (foldS ws (acc ++ wordD x)).1 with
          | false => rfl
          | true =>
            obtain ⟨m, hm⟩ := foldS_more ws (acc ++ wordD x)
            have := foldS_four ws _ hf
            rw [hm] at this
            simp at this
            omega
theorem list_same (ws : List ByteArray) : listC ws = if (listS ws).1 && (listS ws).2.all goodD then some (listS ws).2 else none := by
  unfold listC listS
  by_cases h : ws.length = 3 ∧ ws.getD 1 ⟨#[]⟩ = ⟨#[45]⟩
  · rw [if_pos h, if_pos h]
    generalize ws.getD 0 ⟨#[]⟩ = x
    generalize ws.getD 2 ⟨#[]⟩ = y
    dsimp only
    cases hb : betweenOk x y with
    | false => simp
    | true =>
      have hb' : resOk x = true ∧ resOk y = true := by simpa [betweenOk] using hb
      have hall : (bothD x y).all goodD = true := by simp [bothD, goodD, bk_ver x hb'.1, bk_ver y hb'.2]
      rw [hall]
      simp [betweenD, hb, bothD]
  · rw [if_neg h, if_neg h]
    exact fold_same ws [] (by simp) rfl

set_option maxHeartbeats 4000000 in
set_option maxRecDepth 100000 in
theorem l4ListB_c (ws : List ByteArray) (hsz : ∀ x ∈ ws, x.size ≤ 1048576) (h3 : ws.length = 3) (hd : ws.getD 1 ⟨#[]⟩ = ⟨#[45]⟩) (v : Value) (w : World) (hv : Reads w v (strsV ws)) :
    Calls Tryz.prog 166 #[v] w fun e w' => ∃ v', e = .returned (.tuple #[v', .bool (betweenOk (ws.getD 0 ⟨#[]⟩) (ws.getD 2 ⟨#[]⟩))]) ∧ CmpsOwn w.heap.size w' v' (bothD (ws.getD 0 ⟨#[]⟩) (ws.getD 2 ⟨#[]⟩)) ∧ Below w.heap.size w w' := by
  have hgd : ∀ k (h : k < ws.length), ws.getD k ⟨#[]⟩ = ws[k] := fun k h => by simp [List.getD_eq_getElem?_getD, h]
  obtain ⟨qw, cw, rfl, hcw, hc3⟩ := reads_strs hv
  rcases hc3 with hw0 | ⟨bq, off, rfl, hbq, hcell⟩
  · rw [hw0] at h3; simp at h3
  have c0 : w.cell? ⟨bq, off, none⟩ = some (.string ws[0]) := hcell 0 (by omega)
  have c1 := hcell 1 (by omega)
  have c2 := hcell 2 (by omega)
  rw [hgd 1 (by omega)] at hd
  rw [hd] at c1
  rw [hgd 0 (by omega), hgd 2 (by omega)]
  have z0 := hsz ws[0] (List.getElem_mem _)
  have z2 := hsz ws[2] (List.getElem_mem _)
  obtain ⟨x0, hx0⟩ : ∃ x, x = ws[0] := ⟨_, rfl⟩
  obtain ⟨x2, hx2⟩ : ∃ x, x = ws[2] := ⟨_, rfl⟩
  rw [← hx0] at c0 z0
  rw [← hx2] at c2 z2
  rw [← hx0, ← hx2]
  have h3' : ((ws.length : Int) == 3) = true := by simp [h3]
  have hi0 : (0 : Int) < (ws.length : Int) := by omega
  have hi1 : (1 : Int) < (ws.length : Int) := by omega
  have hi2 : (2 : Int) < (ws.length : Int) := by omega
  have HP0 := specParse_o x0 z0
  have HP2 := specParse_o x2 z2
  unfold verOut at HP0 HP2
  unfold betweenOk bothD
  obtain ⟨a0, ha0⟩ : ∃ y, y = resN x0 0 := ⟨_, rfl⟩
  obtain ⟨b0, hb0⟩ : ∃ y, y = resN x0 1 := ⟨_, rfl⟩
  obtain ⟨e0, he0⟩ : ∃ y, y = resN x0 2 := ⟨_, rfl⟩
  obtain ⟨p0, hp0⟩ : ∃ y, y = resP x0 := ⟨_, rfl⟩
  obtain ⟨k0, hk0⟩ : ∃ y, y = resOk x0 := ⟨_, rfl⟩
  obtain ⟨a2, ha2⟩ : ∃ y, y = resN x2 0 := ⟨_, rfl⟩
  obtain ⟨b2, hb2⟩ : ∃ y, y = resN x2 1 := ⟨_, rfl⟩
  obtain ⟨e2, he2⟩ : ∃ y, y = resN x2 2 := ⟨_, rfl⟩
  obtain ⟨p2, hp2⟩ : ∃ y, y = resP x2 := ⟨_, rfl⟩
  obtain ⟨k2, hk2⟩ : ∃ y, y = resOk x2 := ⟨_, rfl⟩
  rw [← ha0, ← hb0, ← he0, ← hp0, ← hk0] at HP0
  rw [← ha2, ← hb2, ← he2, ← hp2, ← hk2] at HP2
  rw [← ha0, ← hb0, ← he0, ← hp0, ← hk0, ← ha2, ← hb2, ← he2, ← hp2, ← hk2]
  clear ha0 hb0 he0 hp0 hk0 ha2 hb2 he2 hp2 hk2 hsz hgd hd hx0 hx2 hcell hv z0 z2 h3
  have hA : ∀ o, Below w.heap.size w (w.alloc o) := fun o => (Below.refl _ _).alloc (Nat.le_refl _) _
  have c0' : (w.alloc (.cells #[] 214)).cell? ⟨bq, off, none⟩ = some (.string x0) := ((hA _).cell (p := ⟨bq, off, none⟩) hbq).trans c0
  have c1' : (w.alloc (.cells #[] 214)).cell? ⟨bq, off + 1, none⟩ = some (.string ⟨#[45]⟩) := ((hA _).cell (p := ⟨bq, off + 1, none⟩) hbq).trans c1
  have H0 : Hid (∀ w1, Calls Tryz.prog 128 #[.string x0] w1 fun e w' => ∃ u, e = .returned (.tuple #[.agg #[.int .i64 a0, .int .i64 b0, .int .i64 e0, u], .bool k0]) ∧ w'.ownsRow w1.heap.size 9 1 u p0.length (strsV p0) ∧ Below w1.heap.size w1 w') := HP0
  have H2 : Hid (∀ w1, Calls Tryz.prog 128 #[.string x2] w1 fun e w' => ∃ u, e = .returned (.tuple #[.agg #[.int .i64 a2, .int .i64 b2, .int .i64 e2, u], .bool k2]) ∧ w'.ownsRow w1.heap.size 9 1 u p2.length (strsV p2) ∧ Below w1.heap.size w1 w') := HP2
  clear HP0 HP2
  go_enter Tryz.func166, Tryz.ntmps166
  go_wp2_with fail
  go_at_call 128
  refine (H0.out _).mono ?_
  rintro e w1 ⟨u0, rfl, ou0, b1⟩
  obtain ⟨q0, n0, d0, hu0⟩ : ∃ q n c, u0 = .slice q n c := by rcases ou0.2 with ⟨rfl, _⟩ | ⟨g, cap, cur, rfl, _⟩ <;> exact ⟨_, _, _, rfl⟩
  subst hu0
  have k1 := (hA (.cells #[] 214)).trans (b1.mono (hA (.cells #[] 214)).size)
  have F1 := four_new w1 30 (.int .i64 a0) (.int .i64 b0) (.int .i64 e0) (.slice q0 n0 d0)
  have hB : Below w1.heap.size w1 (w1.alloc (.cells #[.int .i64 a0, .int .i64 b0, .int .i64 e0, .slice q0 n0 d0] 30)) := (Below.refl _ _).alloc (Nat.le_refl _) _
  have kB := k1.trans (hB.mono k1.size)
  have c2' := (kB.cell (p := ⟨bq, off + 2, none⟩) hbq).trans c2
  have ou1 := owns_of_below ou0 hB
  go_wp2_with fail
  generalize (w1.alloc (.cells #[.int .i64 a0, .int .i64 b0, .int .i64 e0, .slice q0 n0 d0] 30)) = W2 at F1 hB kB c2' ou1 ⊢
  go_at_call 128
  refine (H2.out _).mono ?_
  rintro e w3 ⟨u2, rfl, ou2, b3⟩
  obtain ⟨q2, n2, d2, hu2⟩ : ∃ q n c, u2 = .slice q n c := by rcases ou2.2 with ⟨rfl, _⟩ | ⟨g, cap, cur, rfl, _⟩ <;> exact ⟨_, _, _, rfl⟩
  subst hu2
  have F3 := F1.keep b3
  have hC : Below w3.heap.size w3 (w3.alloc (.cells #[.int .i64 a2, .int .i64 b2, .int .i64 e2, .slice q2 n2 d2] 30)) := (Below.refl _ _).alloc (Nat.le_refl _) _
  have k3 := kB.trans (b3.mono kB.size)
  have k4 := k3.trans (hC.mono k3.size)
  have ouA := owns_of_below (owns_of_below ou1 b3) hC
  have ouB := owns_of_below ou2 hC
  have hs0 : w.heap.size ≤ (w.alloc (.cells #[] 214)).heap.size := (hA _).size
  have hne : Value.ownBlock (.slice q0 n0 d0) = Value.ownBlock (.slice q2 n2 d2) → Value.ownBlock (.slice q0 n0 d0) = none := fun he => by
    cases hk : Value.ownBlock (.slice q0 n0 d0) with
    | none => rfl
    | some j =>
      have h1 := (ou1.lt j hk).2
      rw [he] at hk
      have h2 := (ou2.lt j hk).1
      omega
  obtain ⟨y0, y1, y2, y3⟩ := (F3.keep hC).cells
  obtain ⟨z0, z1, z2, z3⟩ := F3.cells
  have HT : Hid (CmpsOwn w.heap.size ((w3.alloc (.cells #[.int .i64 a2, .int .i64 b2, .int .i64 e2, .slice q2 n2 d2] 30)).alloc (.cells #[.int .i64 4, .int .i64 a0, .int .i64 b0, .int .i64 e0, .slice q0 n0 d0, .int .i64 2, .int .i64 a2, .int .i64 b2, .int .i64 e2, .slice q2 n2 d2] 214)) (.slice (some ⟨w3.heap.size + 1, 0, none⟩) 2 2) [⟨4, a0, b0, e0, p0⟩, ⟨2, a2, b2, e2, p2⟩]) := two_own ⟨4, a0, b0, e0, p0⟩ ⟨2, a2, b2, e2, p2⟩ (by simp) k4.size (owns_base ouA hs0) (owns_base ouB kB.size) hne
  have HB : Hid (∀ o, Below w.heap.size w ((w3.alloc (.cells #[.int .i64 a2, .int .i64 b2, .int .i64 e2, .slice q2 n2 d2] 30)).alloc o)) := fun o => k4.alloc k4.size _
  clear hne ouA ouB ou0 ou1 ou2 F1 F3 hB hC kB k3 b1 b3
  cases k0 with
  | true =>
    go_wp2_with fail
    go_ret2
    exact ⟨_, rfl, HT.out, HB.out _⟩
  | false =>
    go_wp2_with fail
    go_ret2
    exact ⟨_, rfl, HT.out, HB.out _⟩

theorem l4List_c (ws : List ByteArray) (hL : ws.length ≤ 1048577) (hsz : ∀ x ∈ ws, x.size ≤ 1048576) (hL0 : 0 < ws.length) (v : Value) (w : World) (hv : Reads w v (strsV ws)) :
    Calls Tryz.prog 166 #[v] w fun e w' => ∃ v', e = .returned (.tuple #[v', .bool (listS ws).1]) ∧ CmpsOwn w.heap.size w' v' (listS ws).2 ∧ Below w.heap.size w w' := by
  by_cases hb : ws.length = 3 ∧ ws.getD 1 ⟨#[]⟩ = ⟨#[45]⟩
  · have e : listS ws = (betweenOk (ws.getD 0 ⟨#[]⟩) (ws.getD 2 ⟨#[]⟩), bothD (ws.getD 0 ⟨#[]⟩) (ws.getD 2 ⟨#[]⟩)) := if_pos hb
    rw [e]
    exact l4ListB_c ws hsz hb.1 hb.2 v w hv
  · have e : listS ws = foldS ws [] := if_neg hb
    rw [e]
    exact l4ListF_c ws hL hsz hb hL0 v w hv
end Go.Proofs.YtlfmefojcmpfeaaGreatDoor

/-! Blanks left out at both ends, the library's: contracts for the walks; condition: the text has at most 2 to the 40 bytes. -/
namespace Go.Proofs.YtlfmefojcmpfeaaGreatDoor
open Go.RowKit
set_option linter.unusedSimpArgs false
set_option linter.unusedVariables false

/-- Blanks at one end left out. -/
def trimLGo : Nat → ByteArray → ByteArray
  | 0, t => t
  | f + 1, t => if h : 0 < t.size then (if ((t[0]'(by omega)).toNat : Int) = 32 then trimLGo f (t.extract 1 t.size) else t) else t
def trimLS (s : ByteArray) : ByteArray := trimLGo s.size s
theorem trimL_step {t : ByteArray} (h : 0 < t.size) (hb : ((t[0]'(by omega)).toNat : Int) = 32) : trimLS t = trimLS (t.extract 1 t.size) := by
  have hs : (t.extract 1 t.size).size = t.size - 1 := by rw [ByteArray.size_extract]; omega
  obtain ⟨f, hf⟩ : ∃ f, t.size = f + 1 := ⟨t.size - 1, by omega⟩
  rw [trimLS, trimLS, hs, show t.size - 1 = f by omega]
  conv => lhs; rw [hf]
  rw [trimLGo, dif_pos h, if_pos hb]
theorem trimL_stop {t : ByteArray} (h : ∀ h : 0 < t.size, ¬ ((t[0]'(by omega)).toNat : Int) = 32) : trimLS t = t := by
  rw [trimLS]
  cases hf : t.size with
  | zero => rfl
  | succ f => rw [trimLGo, dif_pos (by omega), if_neg (h (by omega))]

set_option maxHeartbeats 1000000 in
set_option maxRecDepth 100000 in
theorem trimL_c (s : ByteArray) (hs : s.size ≤ 1099511627776) (w : World) :
    Calls Tryz.prog 224 #[.string s, .int .u8 32] w fun e w' => e = .returned (.string (trimLS s)) ∧ w = w' := by
  go_enter Tryz.func224, Tryz.ntmps224
  go_wp2_with fail
  go_loop [0] (fun v0 => ∃ t : ByteArray, v0 = .string t ∧ t.size ≤ 1099511627776 ∧ Hid (trimLS t = trimLS s)) (fun v0 => match v0 with | .string t => t.size | _ => 0)
  case atStart => exact ⟨s, rfl, hs, rfl⟩
  case round =>
    obtain ⟨t, rfl, ht, hh⟩ := hrel
    by_cases h0 : 0 < t.size
    · have h0' : (0 : Int) < (t.size : Int) := by omega
      by_cases hb : ((t[0]'(by omega)).toNat : Int) = 32
      · have HN : Hid (trimLS (t.extract 1 t.size) = trimLS s) := by show _ = _; rw [← hh.out, trimL_step h0 hb]
        have hb' : (((t[0]'(by omega)).toNat : Int) == 32) = true := by simpa using hb
        clear hh hb
        go_wp2_with fail
        go_round
        case rel => exact ⟨_, rfl, by rw [ByteArray.size_extract]; omega, HN⟩
        case measure => simp; omega
      · have HN : Hid (trimLS s = t) := by show _ = _; rw [← hh.out]; exact trimL_stop (fun _ => hb)
        have hb' : (((t[0]'(by omega)).toNat : Int) == 32) = false := by simpa using hb
        clear hh hb
        go_wp2_with fail
        go_ret
        exact ⟨by rw [HN.out]; rfl, rfl⟩
    · have h0' : ¬ (0 : Int) < (t.size : Int) := by omega
      have HN : Hid (trimLS s = t) := by show _ = _; rw [← hh.out]; exact trimL_stop (fun h => absurd h h0)
      clear hh
      go_wp2_with fail
      go_ret
      exact ⟨by rw [HN.out]; rfl, rfl⟩

/-- Blanks at one end left out. -/
def trimRGo : Nat → ByteArray → ByteArray
  | 0, t => t
  | f + 1, t => if h : 0 < t.size then (if ((t[t.size - 1]'(by omega)).toNat : Int) = 32 then trimRGo f (t.extract 0 (t.size - 1)) else t) else t
def trimRS (s : ByteArray) : ByteArray := trimRGo s.size s
theorem trimR_step {t : ByteArray} (h : 0 < t.size) (hb : ((t[t.size - 1]'(by omega)).toNat : Int) = 32) : trimRS t = trimRS (t.extract 0 (t.size - 1)) := by
  have hs : (t.extract 0 (t.size - 1)).size = t.size - 1 := by rw [ByteArray.size_extract]; omega
  obtain ⟨f, hf⟩ : ∃ f, t.size = f + 1 := ⟨t.size - 1, by omega⟩
  rw [trimRS, trimRS, hs, show t.size - 1 = f by omega]
  conv => lhs; rw [hf]
  rw [trimRGo, dif_pos h, if_pos hb]
  rw [show t.size - 1 = f by omega]
theorem trimR_stop {t : ByteArray} (h : ∀ h : 0 < t.size, ¬ ((t[t.size - 1]'(by omega)).toNat : Int) = 32) : trimRS t = t := by
  rw [trimRS]
  cases hf : t.size with
  | zero => rfl
  | succ f => rw [trimRGo, dif_pos (by omega), if_neg (h (by omega))]

set_option maxHeartbeats 1000000 in
set_option maxRecDepth 100000 in
theorem trimR_c (s : ByteArray) (hs : s.size ≤ 1099511627776) (w : World) :
    Calls Tryz.prog 225 #[.string s, .int .u8 32] w fun e w' => e = .returned (.string (trimRS s)) ∧ w = w' := by
  go_enter Tryz.func225, Tryz.ntmps225
  go_wp2_with fail
  go_loop [0] (fun v0 => ∃ t : ByteArray, v0 = .string t ∧ t.size ≤ 1099511627776 ∧ Hid (trimRS t = trimRS s)) (fun v0 => match v0 with | .string t => t.size | _ => 0)
  case atStart => exact ⟨s, rfl, hs, rfl⟩
  case round =>
    obtain ⟨t, rfl, ht, hh⟩ := hrel
    by_cases h0 : 0 < t.size
    · have h0' : (0 : Int) < (t.size : Int) := by omega
      by_cases hb : ((t[t.size - 1]'(by omega)).toNat : Int) = 32
      · have HN : Hid (trimRS (t.extract 0 (t.size - 1)) = trimRS s) := by show _ = _; rw [← hh.out, trimR_step h0 hb]
        have hb' : (((t[t.size - 1]'(by omega)).toNat : Int) == 32) = true := by simpa using hb
        have hm1 : (t.size : Int) - 1 = ((t.size - 1 : Nat) : Int) := by omega
        have hm2 : ((t.size - 1 : Nat) : Int) < (t.size : Int) := by omega
        clear hh hb
        go_wp2_with fail
        go_round
        case rel => exact ⟨_, rfl, by rw [ByteArray.size_extract]; omega, HN⟩
        case measure => simp; omega
      · have HN : Hid (trimRS s = t) := by show _ = _; rw [← hh.out]; exact trimR_stop (fun _ => hb)
        have hb' : (((t[t.size - 1]'(by omega)).toNat : Int) == 32) = false := by simpa using hb
        have hm1 : (t.size : Int) - 1 = ((t.size - 1 : Nat) : Int) := by omega
        have hm2 : ((t.size - 1 : Nat) : Int) < (t.size : Int) := by omega
        clear hh hb
        go_wp2_with fail
        go_ret
        exact ⟨by rw [HN.out]; rfl, rfl⟩
    · have h0' : ¬ (0 : Int) < (t.size : Int) := by omega
      have HN : Hid (trimRS s = t) := by show _ = _; rw [← hh.out]; exact trimR_stop (fun h => absurd h h0)
      clear hh
      go_wp2_with fail
      go_ret
      exact ⟨by rw [HN.out]; rfl, rfl⟩

theorem trimR_size (s : ByteArray) : (trimRS s).size ≤ s.size := by
  have h : ∀ f t, (trimRGo f t).size ≤ t.size := fun f => by
    induction f with
    | zero => intro t; exact Nat.le_refl _
    | succ f ih =>
      intro t
      rw [trimRGo]
      split
      · split
        · refine Nat.le_trans (ih _) ?_
          rw [ByteArray.size_extract]; omega
        · exact Nat.le_refl _
      · exact Nat.le_refl _
  exact h _ _
theorem trimL_size (s : ByteArray) : (trimLS s).size ≤ s.size := by
  have h : ∀ f t, (trimLGo f t).size ≤ t.size := fun f => by
    induction f with
    | zero => intro t; exact Nat.le_refl _
    | succ f ih =>
      intro t
      rw [trimLGo]
      split
      · split
        · refine Nat.le_trans (ih _) ?_
          rw [ByteArray.size_extract]; omega
        · exact Nat.le_refl _
      · exact Nat.le_refl _
  exact h _ _
def trimS (s : ByteArray) : ByteArray := trimLS (trimRS s)
theorem trimS_size (s : ByteArray) : (trimS s).size ≤ s.size := Nat.le_trans (trimL_size _) (trimR_size _)

set_option maxHeartbeats 1000000 in
set_option maxRecDepth 100000 in
theorem trim_c (s : ByteArray) (hs : s.size ≤ 1099511627776) (w : World) :
    Calls Tryz.prog 160 #[.string s, .string ⟨#[32]⟩] w fun e w' => e = .returned (.string (trimS s)) ∧ Below w.heap.size w w' := by
  by_cases h0 : s = ⟨#[]⟩
  · subst h0
    have e : trimS ⟨#[]⟩ = ⟨#[]⟩ := rfl
    rw [e]
    clear e
    go_enter Tryz.func160, Tryz.ntmps160
    go_wp2_with fail
    go_ret
    exact ⟨rfl, Below.refl _ _⟩
  · have hsb : (s.toList == []) = false := by rw [beq_eq_false_iff_ne]; intro h; exact h0 (bytes_eq_of_toList (by rw [h, ByteArray.toList_eq]))
    have HR : Hid (∀ w1, Calls Tryz.prog 225 #[.string s, .int .u8 32] w1 fun e w' => e = .returned (.string (trimRS s)) ∧ w1 = w') := fun w1 => trimR_c s hs w1
    have HL : Hid (∀ w1, Calls Tryz.prog 224 #[.string (trimRS s), .int .u8 32] w1 fun e w' => e = .returned (.string (trimS s)) ∧ w1 = w') := fun w1 => trimL_c _ (Nat.le_trans (trimR_size s) hs) w1
    clear h0
    go_enter Tryz.func160, Tryz.ntmps160
    go_wp2_with fail
    refine wp_region_held_drew (S := (fun _ => True)) (by kernel_rfl) ?SR10 (fun hHeld => ?_)
    case SR10 => (first | done | exact True.intro)
    refine wpAnyH_take (i := 0) (oi := _) (v := ?vR10) rfl (by kernel_rfl) (by kernel_rfl) (by kernel_rfl) (fun _ _ _ h => h) (Or.inl ⟨by rfl, ?yR10⟩) hHeld ?_
    case yR10 => (intro w hSw; (try dsimp only at hSw); go_simp <;> with_reducible rfl)
    try simp only [Act.put, List.getElem_toArray, List.getElem_cons_zero, List.getElem_cons_succ, List.setIfInBounds_toArray, List.set_cons_zero, List.set_cons_succ]
    refine wpAnyH_take (i := 1) (oi := _) (v := ?vR11) rfl (by kernel_rfl) (by kernel_rfl) (by kernel_rfl) (fun _ _ _ h => h) (Or.inl ⟨by rfl, ?yR11⟩) hHeld ?_
    case yR11 => (intro w hSw; (try dsimp only at hSw); go_simp <;> with_reducible rfl)
    try simp only [Act.put, List.getElem_toArray, List.getElem_cons_zero, List.getElem_cons_succ, List.setIfInBounds_toArray, List.set_cons_zero, List.set_cons_succ]
    refine wpAnyH_take (i := 2) (oi := _) (v := ?vR12) rfl (by kernel_rfl) (by kernel_rfl) (by kernel_rfl) (fun _ _ _ h => h) (Or.inl ⟨by rfl, ?yR12⟩) hHeld ?_
    case yR12 => (intro w hSw; (try dsimp only at hSw); go_simp <;> with_reducible rfl)
    try simp only [Act.put, List.getElem_toArray, List.getElem_cons_zero, List.getElem_cons_succ, List.setIfInBounds_toArray, List.set_cons_zero, List.set_cons_succ]
    refine wpAnyH_take (i := 4) (oi := _) (v := ?vR13) rfl (by kernel_rfl) (by kernel_rfl) (by kernel_rfl) (fun _ _ _ h => h) (Or.inl ⟨by rfl, ?yR13⟩) hHeld ?_
    case yR13 => (intro w hSw; (try dsimp only at hSw); go_simp <;> with_reducible rfl)
    try simp only [Act.put, List.getElem_toArray, List.getElem_cons_zero, List.getElem_cons_succ, List.setIfInBounds_toArray, List.set_cons_zero, List.set_cons_succ]
    refine wpAnyH_take (i := 5) (oi := _) (v := ?vR14) rfl (by kernel_rfl) (by kernel_rfl) (by kernel_rfl) (fun _ _ _ h => h) (Or.inl ⟨by rfl, ?yR14⟩) hHeld ?_
    case yR14 => (intro w hSw; (try dsimp only at hSw); go_simp <;> with_reducible rfl)
    try simp only [Act.put, List.getElem_toArray, List.getElem_cons_zero, List.getElem_cons_succ, List.setIfInBounds_toArray, List.set_cons_zero, List.set_cons_succ]
    refine wpAnyH_ready (rs := [3]) (by kernel_rfl) (by simp) ?_
    refine AllReadyH.cons rfl (fun K hK => ?_) AllReadyH.nil
    go_simp
    go_wp2_with (go_at_call 225; refine (HR.out _).mono ?_; rintro e w1 ⟨rfl, rfl⟩)
    clear hHeld
    refine hK.out _ _ ?SR16 (fun hHeld => ?_)
    case SR16 => ((try dsimp only); first | done | exact True.intro)
    clear hK K
    refine wpAnyH_ready (rs := [6]) (by kernel_rfl) (by simp) ?_
    refine AllReadyH.cons rfl (fun K hK => ?_) AllReadyH.nil
    go_simp
    go_wp2_with (go_at_call 224; refine (HL.out _).mono ?_; rintro e w2 ⟨rfl, rfl⟩)
    clear hHeld
    refine hK.out _ _ ?SR17 (fun hHeld => ?_)
    case SR17 => ((try dsimp only); first | done | exact True.intro)
    clear hK K
    refine wpAnyH_take (i := 7) (oi := _) (v := ?vR17) rfl (by kernel_rfl) (by kernel_rfl) (by kernel_rfl) (fun _ _ _ h => h) (Or.inl ⟨by rfl, ?yR17⟩) hHeld ?_
    case yR17 => (intro w hSw; (try dsimp only at hSw); go_simp <;> with_reducible rfl)
    try simp only [Act.put, List.getElem_toArray, List.getElem_cons_zero, List.getElem_cons_succ, List.setIfInBounds_toArray, List.set_cons_zero, List.set_cons_succ]
    refine wpAnyH_done (by kernel_rfl) ?_ _
    go_wp2_with fail
    go_ret
    exact ⟨rfl, (Below.refl _ _).drew⟩
end Go.Proofs.YtlfmefojcmpfeaaGreatDoor

/-! The contract of the library for cutting a text at each place where another stands, taken over from the library of contracts at the numbers of this program; conditions as it says. -/
namespace Go.Proofs
open Go.Shelf
def Tryz.lays146_ren : Go.Shelf.Ren := ⟨fun | 146 => 158 | 221 => 220 | 268 => 269 | 138 => 270 | 143 => 271 | 195 => 297 | 197 => 279 | 218 => 298 | 219 => 291 | 260 => 306 | 217 => 299 | 225 => 315 | 224 => 316 | 267 => 317 | 266 => 323 | 314 => 326 | n => n, fun | 9 => 9 | 31 => 28 | 3 => 3 | 4 => 4 | 0 => 0 | 105 => 319 | 21 => 21 | 5 => 5 | 46 => 226 | 119 => 360 | 139 => 363 | 138 => 362 | 146 => 364 | 51 => 282 | n => n, fun | 1 => 2 | 3 => 3 | 4 => 4 | n => n⟩
theorem Tryz.lays146 : Go.Proofs.Lays.n146 Tryz.prog Tryz.lays146_ren := {
  mixed := by kernel_rfl
  f138 := Tryz.func270.trans (congrArg some (by kernel_rfl))
  f143 := Tryz.func271.trans (congrArg some (by kernel_rfl))
  f146 := Tryz.func158.trans (congrArg some (by kernel_rfl))
  f195 := Tryz.func297.trans (congrArg some (by kernel_rfl))
  f197 := Tryz.func279.trans (congrArg some (by kernel_rfl))
  f217 := Tryz.func299.trans (congrArg some (by kernel_rfl))
  f218 := Tryz.func298.trans (congrArg some (by kernel_rfl))
  f219 := Tryz.func291.trans (congrArg some (by kernel_rfl))
  f221 := Tryz.func220.trans (congrArg some (by kernel_rfl))
  f224 := Tryz.func316.trans (congrArg some (by kernel_rfl))
  f225 := Tryz.func315.trans (congrArg some (by kernel_rfl))
  f260 := Tryz.func306.trans (congrArg some (by kernel_rfl))
  f266 := Tryz.func323.trans (congrArg some (by kernel_rfl))
  f267 := Tryz.func317.trans (congrArg some (by kernel_rfl))
  f268 := Tryz.func269.trans (congrArg some (by kernel_rfl))
  f314 := Tryz.func326.trans (congrArg some (by kernel_rfl))
  t0 := Tryz.underlying0
  a0 := Tryz.isAgg0
  z0 := Tryz.sizeOf0
  v0 := Tryz.zeroValue0
  t3 := Tryz.underlying3
  a3 := Tryz.isAgg3
  z3 := Tryz.sizeOf3
  v3 := Tryz.zeroValue3
  t4 := Tryz.underlying4
  a4 := Tryz.isAgg4
  z4 := Tryz.sizeOf4
  v4 := Tryz.zeroValue4
  t5 := Tryz.underlying5
  a5 := Tryz.isAgg5
  z5 := Tryz.sizeOf5
  v5 := Tryz.zeroValue5
  t9 := Tryz.underlying9
  a9 := Tryz.isAgg9
  z9 := Tryz.sizeOf9
  v9 := Tryz.zeroValue9
  t21 := Tryz.underlying21
  a21 := Tryz.isAgg21
  z21 := Tryz.sizeOf21
  v21 := Tryz.zeroValue21
  t31 := Tryz.underlying28
  a31 := Tryz.isAgg28
  z31 := Tryz.sizeOf28
  v31 := Tryz.zeroValue28
  t46 := Tryz.underlying226
  a46 := Tryz.isAgg226
  z46 := Tryz.sizeOf226
  v46 := Tryz.zeroValue226
  t51 := Tryz.underlying282
  a51 := Tryz.isAgg282
  z51 := Tryz.sizeOf282
  v51 := Tryz.zeroValue282
  t105 := Tryz.underlying319
  a105 := Tryz.isAgg319
  z105 := Tryz.sizeOf319
  v105 := Tryz.zeroValue319
  t119 := Tryz.underlying360
  a119 := Tryz.isAgg360
  z119 := Tryz.sizeOf360
  t138 := Tryz.underlying362
  a138 := Tryz.isAgg362
  z138 := Tryz.sizeOf362
  v138 := Tryz.zeroValue362
  t139 := Tryz.underlying363
  a139 := Tryz.isAgg363
  z139 := Tryz.sizeOf363
  v139 := Tryz.zeroValue363
  t146 := Tryz.underlying364
  a146 := Tryz.isAgg364
  z146 := Tryz.sizeOf364
  v146 := Tryz.zeroValue364
  g1 := by kernel_rfl
  g3 := by kernel_rfl
  g4 := by kernel_rfl }
open Go.RowKit Go.Lib in
theorem Tryz.strings_Split (s sep : ByteArray) (m : Int) (w : World) (hs : s.size < 4294967281) (hm : w.cell? ⟨2, 0, none⟩ = some (.int .i64 m)) (h1 : 1 ≤ sep.size) :
    Calls Tryz.prog 158 #[.string s, .string sep] w fun e w' =>
      e = .returned (.slice (some ⟨w.heap.size, 0, none⟩) (Lib.countB s sep + 1) (Lib.countB s sep + 1)) ∧ w' = w.alloc (.cells ((Lib.splitB sep 0 (Lib.countB s sep) s).map Value.string).toArray 9) := Any.strings_Split Tryz.lays146 (by kernel_rfl) s sep m w hs hm h1
end Go.Proofs

/-! What ParseRange reads, the program's: a contract for the walks; conditions: the text has at most 2 to the 20 bytes, the table of signs holds what the text lays, the library's MaxLen is a number. -/
namespace Go.Proofs.YtlfmefojcmpfeaaGreatDoor
open Go.RowKit
set_option linter.unusedSimpArgs false
set_option linter.unusedVariables false

theorem rowsG_apart {w : World} {base base' e e' sz sz' : Nat} {v v' : Value} {n n' : Nat} {xs xs' : List Value} (h : w.ownsRow base e sz v n xs) (h' : w.ownsRow base' e' sz' v' n' xs') (hne : e ≠ e') : v'.ownBlock = none ∨ v'.ownBlock ≠ v.ownBlock := by
  rcases h.2 with ⟨rfl, _⟩ | ⟨g, cap, cur, rfl, _, hg, _⟩
  · rcases h'.2 with ⟨rfl, _⟩ | ⟨g', cap', cur', rfl, _, hg', _⟩
    · exact .inl rfl
    · exact .inr (by simp [Value.ownBlock])
  · rcases h'.2 with ⟨rfl, _⟩ | ⟨g', cap', cur', rfl, _, hg', _⟩
    · exact .inl rfl
    · refine .inr fun e1 => hne ?_
      simp only [Value.ownBlock, Option.some.injEq] at e1
      subst e1
      rw [hg] at hg'
      simp only [Option.some.injEq, Obj.cells.injEq] at hg'
      exact hg'.2.1

/-- A list of Cmps of the call's own, all of it in blocks from lo on, below hi. -/
def CmpsSeg (lo hi : Nat) (w : World) (v : Value) (ds : List CmpD) : Prop :=
  ∃ (ys : List Value) (us : Nat → Value), w.ownsRow lo 214 5 v ds.length ys ∧
    (∀ i (h : i < ds.length), FiveAt ys (i * 5) (.int .i64 ds[i].o) (.int .i64 ds[i].a) (.int .i64 ds[i].b) (.int .i64 ds[i].c) (us i) ∧ w.ownsRow lo 9 1 (us i) ds[i].ps.length (strsV ds[i].ps)) ∧
    (∀ i j, i < ds.length → j < ds.length → i ≠ j → (us i).ownBlock = (us j).ownBlock → (us i).ownBlock = none) ∧
    (∀ k, v.ownBlock = some k → k < hi) ∧ ∀ i, i < ds.length → ∀ k, (us i).ownBlock = some k → k < hi
theorem CmpsOwn.seg {lo : Nat} {w : World} {v : Value} {ds : List CmpD} (h : CmpsOwn lo w v ds) : CmpsSeg lo w.heap.size w v ds := by
  obtain ⟨ys, us, h1, h2, h3⟩ := h
  refine ⟨ys, us, h1, h2, h3, fun k hk => ?_, fun i hi k hk => ((h2 i hi).2.lt k hk).2⟩
  rcases h1.2 with ⟨rfl, _⟩ | ⟨g, cap, cur, rfl, _, hg, _⟩
  · simp [Value.ownBlock] at hk
  · simp only [Value.ownBlock, Option.some.injEq] at hk
    subst hk
    exact (Array.getElem?_eq_some_iff.1 hg).1
theorem CmpsSeg.below {lo hi : Nat} {w w' : World} {v : Value} {ds : List CmpD} (h : CmpsSeg lo hi w v ds) (b : Below w.heap.size w w') : CmpsSeg lo hi w' v ds := by
  obtain ⟨ys, us, h1, h2, h3⟩ := h
  exact ⟨ys, us, own_kept5 h1 b, fun i hi => ⟨(h2 i hi).1, owns_of_below (h2 i hi).2 b⟩, h3⟩
theorem CmpsSeg.grown {lo hi base n : Nat} {w w' : World} {v r : Value} {ds : List CmpD} {xs : List Value} (h : CmpsSeg lo hi w v ds) (hr : w.ownsRow base 203 1 r n xs) (g : w.grownBy w' r.ownBlock) : CmpsSeg lo hi w' v ds := by
  obtain ⟨ys, us, h1, h2, h3⟩ := h
  exact ⟨ys, us, h1.kept g (rowsG_apart hr h1 (by decide)), fun i hi => ⟨(h2 i hi).1, (h2 i hi).2.kept g (rowsG_apart hr (h2 i hi).2 (by decide))⟩, h3⟩

/-- A list of lists of Cmps of the call's own: its row, and each list in blocks of its own. -/
def RangeOwn (lo : Nat) (w : World) (v : Value) (dss : List (List CmpD)) : Prop :=
  ∃ (vs : List Value) (ls hs : Nat → Nat), w.ownsRow lo 203 1 v dss.length vs ∧
    (∀ i (h : i < dss.length), ∃ u, vs[i]? = some u ∧ lo ≤ ls i ∧ hs i ≤ w.heap.size ∧ CmpsSeg (ls i) (hs i) w u dss[i]) ∧ ∀ i j, i < j → j < dss.length → hs i ≤ ls j
theorem rangeOwn_nil (w : World) (lo : Nat) : RangeOwn lo w (.slice none 0 0) [] :=
  ⟨[], fun _ => 0, fun _ => 0, ⟨rfl, .inl ⟨rfl, rfl⟩⟩, fun i h => by simp at h, fun i j _ h => by simp at h⟩
theorem RangeOwn.below {lo : Nat} {w w' : World} {v : Value} {dss : List (List CmpD)} (h : RangeOwn lo w v dss) (b : Below w.heap.size w w') : RangeOwn lo w' v dss := by
  obtain ⟨vs, ls, hs, h1, h2, h3⟩ := h
  refine ⟨vs, ls, hs, owns_of_below h1 b, fun i hi => ?_, h3⟩
  obtain ⟨u, e, a1, a2, a3⟩ := h2 i hi
  exact ⟨u, e, a1, Nat.le_trans a2 b.size, a3.below b⟩
theorem RangeOwn.lower {lo lo' : Nat} {w : World} {v : Value} {dss : List (List CmpD)} (h : RangeOwn lo w v dss) (hl : lo' ≤ lo) : RangeOwn lo' w v dss := by
  obtain ⟨vs, ls, hs, h1, h2, h3⟩ := h
  refine ⟨vs, ls, hs, owns_base h1 hl, fun i hi => ?_, h3⟩
  obtain ⟨u, e, a1, a2, a3⟩ := h2 i hi
  exact ⟨u, e, Nat.le_trans hl a1, a2, a3⟩

/-- What an append of one more list leaves. -/
theorem RangeOwn.snoc {lo : Nat} {wk w4 : World} {v v4 : Value} {dss : List (List CmpD)} {ds : List CmpD} (h : RangeOwn lo wk v dss) (hlo : lo ≤ wk.heap.size) (b : Below wk.heap.size wk w4) (h4 : CmpsOwn wk.heap.size w4 v4 ds) :
    ∃ vs, w4.ownsRow lo 203 1 v dss.length vs ∧ ∀ o w6 v6, w6.ownsRow lo 203 1 v6 (dss.length + 1) (vs ++ [v4]) → (w4.alloc o).grownBy w6 v.ownBlock → RangeOwn lo w6 v6 (dss ++ [ds]) := by
  obtain ⟨vs, ls, hs, h1, h2, h3⟩ := h
  have h1' := owns_of_below h1 b
  refine ⟨vs, h1', fun o w6 v6 o6 gr => ?_⟩
  have tA : Below w4.heap.size w4 (w4.alloc o) := (Below.refl _ _).alloc (Nat.le_refl _) _
  have h1a := owns_of_below h1' tA
  have hsz : w4.heap.size ≤ w6.heap.size := Nat.le_trans tA.size gr.size
  have hvl : vs.length = dss.length := by have := h1.1; omega
  refine ⟨vs ++ [v4], fun i => if i < dss.length then ls i else wk.heap.size, fun i => if i < dss.length then hs i else w4.heap.size, by rw [List.length_append]; exact o6, fun i hi => ?_, fun i j hij hj => ?_⟩
  · by_cases hl : i < dss.length
    · obtain ⟨u, e, a1, a2, a3⟩ := h2 i hl
      refine ⟨u, by rw [List.getElem?_append_left (by omega)]; exact e, ?_, ?_, ?_⟩
      · simp only [hl, if_true]; exact a1
      · simp only [hl, if_true]; exact Nat.le_trans a2 (Nat.le_trans b.size hsz)
      · simp only [hl, if_true, List.getElem_append_left hl]
        exact ((a3.below b).below tA).grown h1a gr
    · have hi' : i = dss.length := by simp at hi; omega
      subst hi'
      refine ⟨v4, by rw [List.getElem?_append_right (by omega), hvl]; simp, ?_, ?_, ?_⟩
      · simp only [hl, if_false]; exact hlo
      · simp only [hl, if_false]; exact hsz
      · have eg : (dss ++ [ds])[dss.length] = ds := by simp
        simp only [hl, if_false, eg]
        exact (h4.seg.below tA).grown h1a gr
  · rw [List.length_append] at hj
    simp at hj
    by_cases hj1 : j < dss.length
    · have hi1 : i < dss.length := by omega
      simp only [hi1, hj1, if_true]
      exact h3 i j hij hj1
    · have hi1 : i < dss.length := by omega
      obtain ⟨u, e, a1, a2, a3⟩ := h2 i hi1
      simp only [hi1, hj1, if_true, if_false]
      exact a2

def orT : ByteArray := ⟨#[124, 124]⟩
def sidesI (s : ByteArray) : List ByteArray := Lib.splitB orT 0 (Lib.countB s orT) s
def foldR : List ByteArray → List (List CmpD) → Option (List (List CmpD))
  | [], acc => some acc
  | t :: ts, acc => match listC (splitS (trimS t) 32) with | some ds => foldR ts (acc ++ [ds]) | none => none
/-- What a text tells as a range. -/
def rangeI (s : ByteArray) : Option (List (List CmpD)) := if 4 < (sidesI s).length then none else foldR (sidesI s) []

theorem splitB_piece (sep : ByteArray) (save : Nat) (hsv : save = 0) : ∀ (k : Nat) (s : ByteArray), ∀ x ∈ Lib.splitB sep save k s, x.size ≤ s.size
  | 0, s => fun x hx => by simp [Lib.splitB] at hx; subst hx; exact Nat.le_refl _
  | k + 1, s => fun x hx => by
    rw [Lib.splitB] at hx
    split at hx
    · simp at hx; subst hx; exact Nat.le_refl _
    · rcases List.mem_cons.1 hx with rfl | hx
      · rw [ByteArray.size_extract]; omega
      · refine Nat.le_trans (splitB_piece sep save hsv k _ x hx) ?_
        rw [ByteArray.size_extract]; omega

theorem lit_row (w : World) (xs : List ByteArray) (t : TypeId) : ∀ k (h : k < xs.length), (w.alloc (.cells (xs.map Value.string).toArray t)).cell? ⟨w.heap.size, k, none⟩ = some (.string xs[k]) := fun k h => by
  have e : (w.alloc (.cells (xs.map Value.string).toArray t)).cell? ⟨w.heap.size, k, none⟩ = ((xs.map Value.string).toArray)[k]? := vblk_cell (vheap_new _ _) k
  rw [e]
  simp [h]
theorem cell_one_c (w : World) (v : Value) (t : TypeId) : ∀ j u, ([v] : List Value)[j]? = some u → (w.alloc (.cells #[v] t)).cell? ((⟨w.heap.size, 0, none⟩ : Addr).add j) = some u := fun j u hj => by
  have hj0 : j = 0 := by have := (List.getElem?_eq_some_iff.1 hj).1; simp at this; omega
  subst hj0
  simp at hj
  subst hj
  have e : ((⟨w.heap.size, 0, none⟩ : Addr).add 0) = ⟨w.heap.size, 0, none⟩ := by unfold Addr.add; split <;> simp_all
  rw [e]
  exact vblk_cell (vheap_new _ _) 0

set_option maxHeartbeats 4000000 in
set_option maxRecDepth 100000 in
theorem implRange_c (s : ByteArray) (hs : s.size ≤ 1048576) (m : Int) (w : World) (hm : w.cell? ⟨2, 0, none⟩ = some (.int .i64 m)) (hsg : ∀ k (h : k < signsT.length), w.cell? ⟨1, k, none⟩ = some (.string signsT[k])) :
    Calls Tryz.prog 87 #[.string s] w fun e w' => ∃ v, e = .returned (.tuple #[v, .bool (rangeI s).isSome]) ∧ RangeOwn w.heap.size w' v ((rangeI s).getD []) ∧ Below w.heap.size w w' := by
  have HS : Calls Tryz.prog 158 #[.string s, .string orT] w fun e w' => e = .returned (.slice (some ⟨w.heap.size, 0, none⟩) (sidesI s).length (sidesI s).length) ∧ w' = w.alloc (.cells ((sidesI s).map Value.string).toArray 9) := by
    have h := Tryz.strings_Split s orT m w (by omega) hm (by decide)
    have hl : (sidesI s).length = Lib.countB s orT + 1 := Lib.splitB_all orT (by decide) 0 _ s rfl
    rw [hl]
    exact h
  have hpc : ∀ x ∈ sidesI s, x.size ≤ s.size := splitB_piece orT 0 rfl _ s
  have hll : (sidesI s).length ≤ 1048577 := by
    have hl : (sidesI s).length = Lib.countB s orT + 1 := Lib.splitB_all orT (by decide) 0 _ s rfl
    have := Lib.countB_le orT (by decide) s.size s (Nat.le_refl _)
    omega
  have hgl : 1 < w.heap.size := World.block_lt_of_cell? w _ (hsg 0 (by decide))
  have HG : Hid (∀ w1, Below w.heap.size w w1 → ∀ k (h : k < signsT.length), w1.cell? ⟨1, k, none⟩ = some (.string signsT[k])) := fun w1 b k h => (b.cell (p := ⟨1, k, none⟩) hgl).trans (hsg k h)
  have HR : Hid (rangeI s = if 4 < (sidesI s).length then none else foldR (sidesI s) []) := rfl
  obtain ⟨ts, hts⟩ : ∃ ts, ts = sidesI s := ⟨_, rfl⟩
  obtain ⟨R, hR⟩ : ∃ R, R = rangeI s := ⟨_, rfl⟩
  rw [← hts] at HS hpc HR hll
  rw [← hR] at HR
  rw [← hR]
  clear hts hR hsg hgl hm
  have b3 : Below w.heap.size w (w.alloc (.cells (ts.map Value.string).toArray 9)) := (Below.refl _ _).alloc (Nat.le_refl _) _
  have hcell := lit_row w ts 9
  have hs3 : (w.alloc (.cells (ts.map Value.string).toArray 9)).heap.size = w.heap.size + 1 := by simp
  obtain ⟨i0, hi, hz0, hz1, hz2⟩ := info_parts infoCmps
  go_enter Tryz.func87, Tryz.ntmps87
  go_wp2_with fail
  go_at_call 158
  refine HS.mono ?_
  rintro e w' ⟨rfl, rfl⟩
  generalize (w.alloc (.cells (ts.map Value.string).toArray 9)) = w3 at b3 hcell hs3 ⊢
  have hbq : w.heap.size < w3.heap.size := by omega
  clear HS hs3
  by_cases h4 : 4 < ts.length
  · have e : R = none := by rw [HR.out, if_pos h4]
    have h4' : (4 : Int) < (ts.length : Int) := by omega
    subst e
    clear HR hcell
    go_wp2_with fail
    go_ret2
    exact ⟨_, rfl, rangeOwn_nil _ _, b3⟩
  have HF : Hid (R = foldR ts []) := by show _ = _; rw [HR.out, if_neg h4]
  have h4' : ¬ (4 : Int) < (ts.length : Int) := by omega
  have hl4 : ts.length ≤ 4 := by omega
  have HP : Hid (∀ x : ByteArray, x.size ≤ 1048576 → ∀ w1, Below w.heap.size w w1 → Calls Tryz.prog 159 #[.string x] w1 fun e w' => ∃ v, e = .returned (.tuple #[v, .bool (listC (splitS x 32)).isSome]) ∧ CmpsOwn w1.heap.size w' v ((listC (splitS x 32)).getD []) ∧ Below w1.heap.size w1 w') := fun x hx w1 b => parseCmps_c x hx w1 (HG.out w1 b)
  clear HR h4 HG
  go_wp2_with fail
  go_loopw [5, 17] (fun v5 vi wr => ∃ (k : Nat) (acc : List (List CmpD)), k ≤ ts.length ∧ vi = .int .i64 (k : Int) ∧ RangeOwn w3.heap.size wr v5 acc ∧ acc.length = k ∧ Hid (foldR (ts.drop k) acc = foldR ts []) ∧ Below w3.heap.size w3 wr) (fun _ vi _ => ts.length - (intOf vi).toNat)
  case atStart => exact ⟨0, [], Nat.zero_le _, rfl, rangeOwn_nil _ _, rfl, rfl, Below.refl _ _⟩
  case round =>
    obtain ⟨k, acc, hk, rfl, hacc, hal, hf, hbr⟩ := hrel
    have hmr := b3.trans (hbr.mono b3.size)
    obtain ⟨qv, nv, cv, hv5⟩ : ∃ q n c, u5 = .slice q n c := by
      obtain ⟨vs, ls, hs, h1, _⟩ := hacc
      rcases h1.2 with ⟨h, _⟩ | ⟨g, cap, cur, h, _⟩
      · exact ⟨_, _, _, h⟩
      · exact ⟨_, _, _, h⟩
    subst hv5
    by_cases hlt : k < ts.length
    · have hcx : wr.cell? ⟨w.heap.size, k, none⟩ = some (.string ts[k]) := (hbr.cell (p := ⟨w.heap.size, k, none⟩) hbq).trans (hcell k hlt)
      have hsk : ts[k].size ≤ 1048576 := by have := hpc ts[k] (List.getElem_mem _); omega
      have hdr : ts.drop k = ts[k] :: ts.drop (k + 1) := List.drop_eq_getElem_cons hlt
      rw [hdr, foldR] at hf
      obtain ⟨x, hx⟩ : ∃ x, x = ts[k] := ⟨_, rfl⟩
      rw [← hx] at hcx hsk hf
      have HT : Hid (∀ w1, Calls Tryz.prog 160 #[.string x, .string ⟨#[32]⟩] w1 fun e w' => e = .returned (.string (trimS x)) ∧ Below w1.heap.size w1 w') := fun w1 => trim_c x (by omega) w1
      have htz : (trimS x).size ≤ 1048576 := Nat.le_trans (trimS_size x) hsk
      obtain ⟨y, hy⟩ : ∃ y, y = trimS x := ⟨_, rfl⟩
      rw [← hy] at HT htz hf
      have HC := HP.out y htz
      obtain ⟨L, hL⟩ : ∃ L, L = listC (splitS y 32) := ⟨_, rfl⟩
      rw [← hL] at HC hf
      have HC' : Hid (∀ w1, Below w.heap.size w w1 → Calls Tryz.prog 159 #[.string y] w1 fun e w' => ∃ v, e = .returned (.tuple #[v, .bool L.isSome]) ∧ CmpsOwn w1.heap.size w' v (L.getD []) ∧ Below w1.heap.size w1 w') := HC
      have hki : (k : Int) < (ts.length : Int) := by omega
      clear HC hx hy hL hdr hcell HP
      cases L with
      | none =>
        have e : R = none := by rw [HF.out, ← hf.out]
        subst e
        clear hf HF
        go_wp2_with (first
          | (go_at_call 160; refine (HT.out _).mono ?_; rintro e w4 ⟨rfl, b4⟩; have hm4 := hmr.trans (b4.mono hmr.size))
          | (go_at_call 159; refine (HC'.out _ hm4).mono ?_; rintro e w5 ⟨v5, rfl, hv5, b5⟩; obtain ⟨q5, c5, us5, hq5, _, _⟩ := hv5.at; subst hq5))
        go_ret2
        exact ⟨_, rfl, rangeOwn_nil _ _, hm4.trans (b5.mono hm4.size)⟩
      | some ds =>
        have HN : Hid (foldR (ts.drop (k + 1)) (acc ++ [ds]) = foldR ts []) := hf
        have hlo : w3.heap.size ≤ wr.heap.size := hbr.size
        have hrow : ∀ j, Value.ownBlock (.slice qv nv cv) = some j → w3.heap.size ≤ j := fun j hj => by
          obtain ⟨vs, ls, hs, h1, _⟩ := hacc
          exact (h1.lt j hj).1
        have HSN : Hid (∀ w4 w5 v4, Below wr.heap.size wr w4 → CmpsOwn w4.heap.size w5 v4 ds → Below w4.heap.size w4 w5 → ∃ vs, w5.ownsRow w3.heap.size 203 1 (.slice qv nv cv) acc.length vs ∧ ∀ o w6 v6, w6.ownsRow w3.heap.size 203 1 v6 (acc.length + 1) (vs ++ [v4]) → (w5.alloc o).grownBy w6 (Value.ownBlock (.slice qv nv cv)) → RangeOwn w3.heap.size w6 v6 (acc ++ [ds])) := fun w4 w5 v4 b4 h4 b5 => (hacc.below b4).snoc (Nat.le_trans hlo b4.size) b5 h4
        have HRW : Hid (∀ j, Value.ownBlock (.slice qv nv cv) = some j → w3.heap.size ≤ j) := hrow
        clear hf hrow hacc
        go_wp2_with (first
          | (go_at_call 160; refine (HT.out _).mono ?_; rintro e w4 ⟨rfl, b4⟩; have hm4 := hmr.trans (b4.mono hmr.size))
          | (go_at_call 159; refine (HC'.out _ hm4).mono ?_; rintro e w5 ⟨v5, rfl, hv5, b5⟩; obtain ⟨q5, c5, us5, hq5, _, _⟩ := hv5.at; subst hq5; obtain ⟨vs, o5, hsn⟩ := HSN.out w4 w5 _ b4 hv5 b5; have HSN2 := hsn (.cells #[.slice q5 ((some ds).getD []).length c5] 203); have HSN3 : Hid (∀ w6 v6, w6.ownsRow w3.heap.size 203 1 v6 (acc.length + 1) (vs ++ [.slice q5 ((some ds).getD []).length c5]) → (w5.alloc (.cells #[.slice q5 ((some ds).getD []).length c5] 203)).grownBy w6 (Value.ownBlock (.slice qv nv cv)) → RangeOwn w3.heap.size w6 v6 (acc ++ [ds])) := HSN2; clear hsn HSN2 hv5)
          | (at_builtin; refine wpList_append_own _ rfl _ _ 116 rfl w3.heap.size 203 i0 (.slice none 0 0) 1 24 Tryz.underlying116 hi hz0 hz1 hz2 rfl (by decide) (.slice qv nv cv) acc.length vs rfl (o5.alloc _) ⟨w5.heap.size, 0, none⟩ 1 1 [.slice q5 ((some ds).getD []).length c5] rfl rfl (cell_one_c _ _ _) (fun u hu => by simp at hu; subst hu; rfl) (by unfold maxLen; omega) (by omega) (by have h1 := hlo; have h2 := b4.size; have h3 := b5.size; simp; omega) ?_))
        intro v6 w6 o6 gr6 _
        have kx := (hbr.trans (b4.mono hlo)).trans (b5.mono (Nat.le_trans hlo b4.size))
        have k6 := below_turned (kx.alloc kx.size _) gr6 (by have := kx.size; simp; omega) HRW.out
        have hown := HSN3.out w6 v6 (by rw [hal]; exact o6) gr6
        clear HSN3 HSN o5 o6 gr6
        go_wp2_with fail
        go_roundw
        case rel => exact ⟨k + 1, acc ++ [ds], by omega, by go_num, hown, by simp [hal], HN, k6⟩
        case measure => simp [intOf]; omega
    · have he : k = ts.length := by omega
      subst he
      have e : R = some acc := by rw [HF.out, ← hf.out, List.drop_length, foldR]
      subst e
      clear hf HF hcell HP
      go_wp2_with fail
      go_ret2
      exact ⟨_, rfl, hacc.lower b3.size, hmr⟩
end Go.Proofs.YtlfmefojcmpfeaaGreatDoor

/-! What stands between signs of or, the specification's: a contract for the walks: it is what the library's Split gives; condition: the text has at most 2 to the 20 bytes. -/
namespace Go.Proofs.YtlfmefojcmpfeaaGreatDoor
open Go.RowKit
set_option linter.unusedSimpArgs false
set_option linter.unusedVariables false

theorem piece2 (t : ByteArray) (i : Nat) (h : i + 2 ≤ t.size) : ((t.extract i (i + 2)).toList == orT.toList) = ((((t[i]'(by omega)).toNat : Int) == 124) && (((t[i + 1]'(by omega)).toNat : Int) == 124)) := by
  have e : (t.extract i (i + 2)).toList = [t[i]'(by omega), t[i + 1]'(by omega)] := by
    have hz : (t.extract i (i + 2)).size = 2 := by rw [ByteArray.size_extract]; omega
    rw [ByteArray.toList_eq]
    apply List.ext_getElem
    · rw [Array.length_toList]; exact hz
    · intro n h1 h2
      have hn : n = 0 ∨ n = 1 := by simp at h2; omega
      have hg : ∀ k (hk : k < (t.extract i (i + 2)).size), (t.extract i (i + 2))[k] = t[i + k]'(by omega) := fun k hk => ByteArray.getElem_extract ..
      rcases hn with rfl | rfl
      · exact hg 0 (by omega)
      · exact hg 1 (by omega)
  have hu : ∀ x : UInt8, (x == 124) = (((x.toNat : Int)) == 124) := fun x => by
    rw [Bool.eq_iff_iff]
    simp only [beq_iff_eq]
    constructor
    · rintro rfl; rfl
    · intro h; apply UInt8.toNat_inj.1; simp; omega
  rw [e, show orT.toList = [124, 124] by decide +kernel, ← hu, ← hu]
  simp [List.cons_beq_cons]

theorem sides_hit (t : ByteArray) (k : Nat) (hno : Lib.NoOccB t orT k) (hk : k + 2 ≤ t.size) (h1 : (((t[k]'(by omega)).toNat : Int) == 124) = true) (h2 : (((t[k + 1]'(by omega)).toNat : Int) == 124) = true) : sidesI t = t.extract 0 k :: sidesI (t.extract (k + 2) t.size) := by
  have hi : Lib.indexB t orT = k := Lib.hit t orT k hno hk (by
    have h := piece2 t k hk
    rw [h1, h2] at h
    exact h)
  rw [sidesI, Lib.countB_hit t orT k (by decide) hi, Nat.add_comm, Lib.splitB_hit orT 0 _ t k hi]
  rfl
theorem sides_end (t : ByteArray) (k : Nat) (hno : Lib.NoOccB t orT k) (h : t.size < k + 2) : sidesI t = [t] := by
  rw [sidesI, Lib.splitB_miss orT 0 _ t (Lib.past t orT k hno (by decide) h)]
theorem sides_miss (t : ByteArray) (k : Nat) (hno : Lib.NoOccB t orT k) (hk : k + 2 ≤ t.size) (h : ((((t[k]'(by omega)).toNat : Int) == 124) && (((t[k + 1]'(by omega)).toNat : Int) == 124)) = false) : Lib.NoOccB t orT (k + 1) :=
  Lib.miss_piece t orT k hno hk ((piece2 t k hk).trans h)

theorem at_rest (s : ByteArray) (b i : Nat) (hb : b ≤ i) (hi : i < s.size) : ((s.extract b s.size)[i - b]'(by rw [ByteArray.size_extract]; omega)) = s[i] := by
  rw [ByteArray.getElem_extract]
  congr 1
  omega
theorem rest_cut (s : ByteArray) (b k : Nat) (hb : b ≤ s.size) : (s.extract b s.size).extract k (s.extract b s.size).size = s.extract (b + k) s.size := by
  rw [ByteArray.size_extract, ByteArray.extract_extract]
  congr 1
  omega
theorem rest_front (s : ByteArray) (b i : Nat) (hb : b ≤ i) (hi : i ≤ s.size) : (s.extract b s.size).extract 0 (i - b) = s.extract b i := by
  rw [ByteArray.extract_extract]
  congr 1 <;> omega

set_option maxHeartbeats 2000000 in
set_option maxRecDepth 100000 in
theorem l4Sides_c (s : ByteArray) (hs : s.size ≤ 1048576) (w : World) :
    Calls Tryz.prog 165 #[.string s] w fun e w' => ∃ v, e = .returned v ∧ w'.ownsRow w.heap.size 9 1 v (sidesI s).length (strsV (sidesI s)) ∧ Below w.heap.size w w' := by
  obtain ⟨i0, hi, hz0, hz1, hz2⟩ := info_parts infoS
  have ho : (w.alloc (.cells #[] 9)).ownsRow w.heap.size 9 1 (.slice (some ⟨w.heap.size, 0, none⟩) 0 0) 0 [] := World.ownsRow_lit w #[] 0 (Nat.le_refl _) (by unfold maxLen; omega) rfl
  have h00 : s.extract 0 s.size = s := by simp
  go_enter Tryz.func165, Tryz.ntmps165
  go_wp2_with fail
  go_loopw [3, 4, 5] (fun vo vb vi wr => ∃ (i b : Nat) (xs : List ByteArray), vi = .int .i64 (i : Int) ∧ vb = .int .i64 (b : Int) ∧ i ≤ s.size ∧ b ≤ i ∧ xs.length ≤ i ∧ wr.ownsRow w.heap.size 9 1 vo xs.length (strsV xs) ∧ Hid (xs ++ sidesI (s.extract b s.size) = sidesI s ∧ Lib.NoOccB (s.extract b s.size) orT (i - b)) ∧ Below w.heap.size w wr) (fun _ _ vi _ => s.size - (intOf vi).toNat)
  case atStart => exact ⟨0, 0, [], rfl, rfl, by omega, by omega, by simp, ho, ⟨by rw [h00]; rfl, fun j h => absurd h (by omega)⟩, (Below.refl _ _).alloc (Nat.le_refl _) _⟩
  case round =>
    obtain ⟨i, b, xs, rfl, rfl, hi1, hbi, hxl, hown, hh, hbr⟩ := hrel
    clear ho h00
    have hrz : (s.extract b s.size).size = s.size - b := by rw [ByteArray.size_extract]; omega
    by_cases hlt : i + 1 < s.size
    · have hlt' : (i : Int) + 1 < (s.size : Int) := by omega
      have hbt := at_rest s b i hbi (by omega)
      have hbt2 := at_rest s b (i + 1) (by omega) hlt
      have hcc : (s.extract b s.size)[i - b + 1]'(by omega) = s[i + 1] := by rw [← hbt2]; congr 1; omega
      have HMISS : Hid ((((s[i]'(by omega)).toNat : Int) == 124 && (((s[i + 1]'hlt).toNat : Int) == 124)) = false → Lib.NoOccB (s.extract b s.size) orT (i + 1 - b)) := fun h => by
        rw [show i + 1 - b = i - b + 1 by omega]
        exact sides_miss _ _ hh.out.2 (by omega) (by rw [hbt, hcc]; exact h)
      have HHIT : Hid ((((s[i]'(by omega)).toNat : Int) == 124) = true → (((s[i + 1]'hlt).toNat : Int) == 124) = true → (xs ++ [s.extract b i]) ++ sidesI (s.extract (i + 2) s.size) = sidesI s) := fun h1 h2 => by
        rw [← hh.out.1, sides_hit _ _ hh.out.2 (by omega) (by rw [hbt]; exact h1) (by rw [hcc]; exact h2), rest_front s b i hbi hi1, rest_cut s b (i - b + 2) (by omega), show b + (i - b + 2) = i + 2 by omega]
        simp
      have HS : Hid (xs ++ sidesI (s.extract b s.size) = sidesI s) := hh.out.1
      clear hh hbt hbt2 hcc hrz
      cases hc1 : (((s[i]'(by omega)).toNat : Int) == 124) with
      | true =>
        cases hc2 : (((s[i + 1]'hlt).toNat : Int) == 124) with
        | true =>
          have HT : Hid ((xs ++ [s.extract b i]) ++ sidesI (s.extract (i + 2) s.size) = sidesI s) := HHIT.out hc1 hc2
          clear HHIT HMISS HS
          go_wp2_with (at_builtin; refine wpList_append_own _ rfl _ _ 28 rfl w.heap.size 9 i0 (.string ⟨#[]⟩) 1 16 Tryz.underlying28 hi hz0 hz1 hz2 rfl (by decide) _ xs.length (strsV xs) rfl (hown.alloc _) ⟨wr.heap.size, 0, none⟩ 1 1 (strsV [s.extract b i]) rfl rfl (cell_one_new _ _ _) (fun u hu => by simp [strsV] at hu; subst hu; rfl) (by unfold maxLen; omega) (by omega) (by have := hbr.size; simp; omega) ?_)
          intro v2 w2 o2 gr2 _
          rw [strs_append] at o2
          have hb2 : Below w.heap.size w w2 := Below.grown (hbr.alloc hbr.size _) gr2 (by have := hbr.size; simp; omega) (fun j hj => (hown.lt _ hj).1)
          have hl2 : (xs ++ [s.extract b i]).length = xs.length + 1 := by simp
          rw [← hl2] at o2
          clear gr2 hown hbr hl2
          go_wp2_with fail
          go_roundw
          case rel => exact ⟨i + 2, i + 2, _, by go_num, by go_num, by omega, by omega, (by simp; omega), o2, ⟨HT.out, fun j h => absurd h (by omega)⟩, hb2⟩
          case measure => simp [intOf]; omega
        | false =>
          have HT : Hid (Lib.NoOccB (s.extract b s.size) orT (i + 1 - b)) := HMISS.out (by rw [hc1, hc2]; rfl)
          clear HHIT HMISS
          go_wp2_with fail
          go_roundw
          case rel => exact ⟨i + 1, b, xs, by go_num, rfl, by omega, by omega, by omega, hown, ⟨HS.out, HT.out⟩, hbr⟩
          case measure => simp [intOf]; omega
      | false =>
        have HT : Hid (Lib.NoOccB (s.extract b s.size) orT (i + 1 - b)) := HMISS.out (by rw [hc1]; rfl)
        clear HHIT HMISS
        go_wp2_with fail
        go_roundw
        case rel => exact ⟨i + 1, b, xs, by go_num, rfl, by omega, by omega, by omega, hown, ⟨HS.out, HT.out⟩, hbr⟩
        case measure => simp [intOf]; omega
    · have hlt' : ¬ (i : Int) + 1 < (s.size : Int) := by omega
      have HT : Hid (xs ++ [s.extract b s.size] = sidesI s) := by
        show _ = _
        rw [← hh.out.1, sides_end _ _ hh.out.2 (by omega)]
      clear hh
      go_wp2_with (at_builtin; refine wpList_append_own _ rfl _ _ 28 rfl w.heap.size 9 i0 (.string ⟨#[]⟩) 1 16 Tryz.underlying28 hi hz0 hz1 hz2 rfl (by decide) _ xs.length (strsV xs) rfl (hown.alloc _) ⟨wr.heap.size, 0, none⟩ 1 1 (strsV [s.extract b s.size]) rfl rfl (cell_one_new _ _ _) (fun u hu => by simp [strsV] at hu; subst hu; rfl) (by unfold maxLen; omega) (by omega) (by have := hbr.size; simp; omega) ?_)
      intro v2 w2 o2 gr2 _
      rw [strs_append] at o2
      have hb2 : Below w.heap.size w w2 := Below.grown (hbr.alloc hbr.size _) gr2 (by have := hbr.size; simp; omega) (fun j hj => (hown.lt _ hj).1)
      have hl2 : (xs ++ [s.extract b s.size]).length = xs.length + 1 := by simp
      rw [← hl2, HT.out] at o2
      clear gr2 hown hbr hl2
      go_wp2_with fail
      go_ret
      exact ⟨_, rfl, o2, hb2⟩
end Go.Proofs.YtlfmefojcmpfeaaGreatDoor

/-! Blanks left out at both ends, the specification's: a contract for the walks, and it is what the library leaves; condition: the text has at most 2 to the 40 bytes. -/
namespace Go.Proofs.YtlfmefojcmpfeaaGreatDoor
open Go.RowKit
set_option linter.unusedSimpArgs false
set_option linter.unusedVariables false

def bl (t : ByteArray) (i : Nat) : Prop := ∃ h : i < t.size, ((t[i]'h).toNat : Int) = 32
theorem trimR_step' {t : ByteArray} (h : bl t (t.size - 1)) : trimRS t = trimRS (t.extract 0 (t.size - 1)) := trimR_step (by have := h.1; omega) h.2
theorem trimR_stop' {t : ByteArray} (h : ¬ bl t (t.size - 1)) : trimRS t = t := trimR_stop (fun h0 e => h ⟨by omega, e⟩)
theorem trimL_step' {t : ByteArray} (h : bl t 0) : trimLS t = trimLS (t.extract 1 t.size) := trimL_step h.1 h.2
theorem trimL_stop' {t : ByteArray} (h : ¬ bl t 0) : trimLS t = t := trimL_stop (fun h0 e => h ⟨h0, e⟩)
theorem bl_ex {t : ByteArray} {i j k : Nat} (hj : j ≤ t.size) (hk : i + k < j) : bl (t.extract i j) k ↔ bl t (i + k) := by
  have hsz : (t.extract i j).size = j - i := by rw [ByteArray.size_extract]; omega
  constructor
  · rintro ⟨h, e⟩; exact ⟨by omega, by rw [ByteArray.getElem_extract] at e; exact e⟩
  · rintro ⟨h, e⟩; exact ⟨by omega, by rw [ByteArray.getElem_extract]; exact e⟩
theorem size0_eq {a b : ByteArray} (ha : a.size = 0) (hb : b.size = 0) : a = b := by
  have h1 : a.data = #[] := Array.eq_empty_of_size_eq_zero ha
  have h2 : b.data = #[] := Array.eq_empty_of_size_eq_zero hb
  cases a; cases b
  simp at h1 h2
  rw [h1, h2]

theorem trimRL : ∀ (n : Nat) (t : ByteArray), t.size = n → bl t 0 →
    ((trimRS t).size = 0 ∧ (trimRS (t.extract 1 t.size)).size = 0) ∨ (bl (trimRS t) 0 ∧ (trimRS t).extract 1 (trimRS t).size = trimRS (t.extract 1 t.size)) := by
  intro n
  induction n with
  | zero => intro t hn hb; have := hb.1; omega
  | succ n ih =>
    intro t hn hb
    have h1z : (t.extract 1 t.size).size = n := by rw [ByteArray.size_extract]; omega
    by_cases hl : bl t (t.size - 1)
    · rw [trimR_step' hl]
      have h2z : (t.extract 0 (t.size - 1)).size = n := by rw [ByteArray.size_extract]; omega
      by_cases h1 : n = 0
      · left
        have e1 : trimRS (t.extract 0 (t.size - 1)) = t.extract 0 (t.size - 1) := trimR_stop' (fun h => by have := h.1; omega)
        have e2 : trimRS (t.extract 1 t.size) = t.extract 1 t.size := trimR_stop' (fun h => by have := h.1; omega)
        rw [e1, e2]
        omega
      · have hb2 : bl (t.extract 0 (t.size - 1)) 0 := (bl_ex (by omega) (by omega)).2 (by simpa using hb)
        have hl2 : bl (t.extract 1 t.size) ((t.extract 1 t.size).size - 1) := (bl_ex (by omega) (by omega)).2 (by rw [h1z, show 1 + (n - 1) = t.size - 1 by omega]; exact hl)
        have e : (t.extract 0 (t.size - 1)).extract 1 (t.extract 0 (t.size - 1)).size = (t.extract 1 t.size).extract 0 ((t.extract 1 t.size).size - 1) := by
          rw [h1z, h2z, ByteArray.extract_extract, ByteArray.extract_extract]
          congr 1 <;> omega
        have := ih _ h2z hb2
        rw [e, ← trimR_step' hl2] at this
        exact this
    · have h1 : n ≠ 0 := fun h => hl (by rw [show t.size - 1 = 0 by omega]; exact hb)
      have hl2 : ¬ bl (t.extract 1 t.size) ((t.extract 1 t.size).size - 1) := fun h => hl (by
        have := (bl_ex (Nat.le_refl _) (by omega)).1 h
        rw [h1z, show 1 + (n - 1) = t.size - 1 by omega] at this
        exact this)
      rw [trimR_stop' hl, trimR_stop' hl2]
      exact .inr ⟨hb, rfl⟩

theorem trimR_front : ∀ (n : Nat) (t : ByteArray), t.size = n → bl (trimRS t) 0 → bl t 0 := by
  intro n
  induction n with
  | zero => intro t hn h; rw [trimR_stop' (fun h => by have := h.1; omega)] at h; exact h
  | succ n ih =>
    intro t hn h
    by_cases hl : bl t (t.size - 1)
    · rw [trimR_step' hl] at h
      have h2 := ih _ (by rw [ByteArray.size_extract]; omega) h
      have h0 := h2.1
      rw [ByteArray.size_extract] at h0
      simpa using (bl_ex (by omega) (by omega)).1 h2
    · rw [trimR_stop' hl] at h; exact h

theorem trim_turn : ∀ (n : Nat) (t : ByteArray), t.size = n → trimRS (trimLS t) = trimLS (trimRS t) := by
  intro n
  induction n with
  | zero =>
    intro t hn
    have h1 : ¬ bl t 0 := fun h => by have := h.1; omega
    have h2 : ¬ bl t (t.size - 1) := fun h => by have := h.1; omega
    rw [trimL_stop' h1, trimR_stop' h2, trimL_stop' h1]
  | succ n ih =>
    intro t hn
    by_cases hb : bl t 0
    · have hz : (t.extract 1 t.size).size = n := by rw [ByteArray.size_extract]; omega
      rw [trimL_step' hb, ih _ hz]
      rcases trimRL _ t rfl hb with ⟨h1, h2⟩ | ⟨h1, h2⟩
      · rw [size0_eq h1 h2]
      · rw [trimL_step' h1, h2]
    · rw [trimL_stop' hb, trimL_stop' (fun h => hb (trimR_front _ t rfl h))]

theorem trimS_turn (s : ByteArray) : trimRS (trimLS s) = trimS s := trim_turn _ s rfl

set_option maxHeartbeats 1000000 in
set_option maxRecDepth 100000 in
theorem l4Trim_c (s : ByteArray) (hs : s.size ≤ 1099511627776) (w : World) :
    Calls Tryz.prog 167 #[.string s] w fun e w' => e = .returned (.string (trimS s)) ∧ w = w' := by
  go_enter Tryz.func167, Tryz.ntmps167
  go_wp2_with fail
  go_loop [0] (fun v0 => ∃ t : ByteArray, v0 = .string t ∧ t.size ≤ 1099511627776 ∧ Hid (trimLS t = trimLS s)) (fun v0 => match v0 with | .string t => t.size | _ => 0)
  case atStart => exact ⟨s, rfl, hs, rfl⟩
  case round =>
    obtain ⟨t, rfl, ht, hh⟩ := hrel
    by_cases h0 : 0 < t.size
    · have h0' : (0 : Int) < (t.size : Int) := by omega
      by_cases hb : ((t[0]'(by omega)).toNat : Int) = 32
      · have HN : Hid (trimLS (t.extract 1 t.size) = trimLS s) := by show _ = _; rw [← hh.out, trimL_step h0 hb]
        have hb' : (((t[0]'(by omega)).toNat : Int) == 32) = true := by simpa using hb
        clear hh hb
        go_wp2_with fail
        go_round
        case rel => exact ⟨_, rfl, by rw [ByteArray.size_extract]; omega, HN⟩
        case measure => simp; omega
      · have HN : Hid (trimRS t = trimS s) := by show _ = _; rw [← trimS_turn, ← hh.out, trimL_stop (fun _ => hb)]
        have hb' : (((t[0]'(by omega)).toNat : Int) == 32) = false := by simpa using hb
        clear hh hb
        go_wp2_with fail
        go_loop [0] (fun v0 => ∃ r : ByteArray, v0 = .string r ∧ r.size ≤ 1099511627776 ∧ Hid (trimRS r = trimS s)) (fun v0 => match v0 with | .string r => r.size | _ => 0)
        case atStart => exact ⟨t, rfl, ht, HN⟩
        case round =>
          obtain ⟨r, rfl, hr, hh2⟩ := hrel
          clear HN
          by_cases h02 : 0 < r.size
          · have h02' : (0 : Int) < (r.size : Int) := by omega
            have hm1 : (r.size : Int) - 1 = ((r.size - 1 : Nat) : Int) := by omega
            have hm2 : ((r.size - 1 : Nat) : Int) < (r.size : Int) := by omega
            by_cases hb2 : ((r[r.size - 1]'(by omega)).toNat : Int) = 32
            · have HN2 : Hid (trimRS (r.extract 0 (r.size - 1)) = trimS s) := by show _ = _; rw [← hh2.out, trimR_step h02 hb2]
              have hb2' : (((r[r.size - 1]'(by omega)).toNat : Int) == 32) = true := by simpa using hb2
              clear hh2 hb2
              go_wp2_with fail
              go_round
              case rel => exact ⟨_, rfl, by rw [ByteArray.size_extract]; omega, HN2⟩
              case measure => simp; omega
            · have HN2 : Hid (trimS s = r) := by show _ = _; rw [← hh2.out]; exact trimR_stop (fun _ => hb2)
              have hb2' : (((r[r.size - 1]'(by omega)).toNat : Int) == 32) = false := by simpa using hb2
              clear hh2 hb2
              go_wp2_with fail
              go_ret
              exact ⟨by rw [HN2.out]; rfl, rfl⟩
          · have h02' : ¬ (0 : Int) < (r.size : Int) := by omega
            have HN2 : Hid (trimS s = r) := by show _ = _; rw [← hh2.out]; exact trimR_stop (fun h => absurd h h02)
            clear hh2
            go_wp2_with fail
            go_ret
            exact ⟨by rw [HN2.out]; rfl, rfl⟩
    · have h0' : ¬ (0 : Int) < (t.size : Int) := by omega
      have HN : Hid (trimRS t = trimS s) := by show _ = _; rw [← trimS_turn, ← hh.out, trimL_stop (fun h => absurd h h0)]
      clear hh
      go_wp2_with fail
      go_loop [0] (fun v0 => ∃ r : ByteArray, v0 = .string r ∧ r.size ≤ 1099511627776 ∧ Hid (trimRS r = trimS s)) (fun v0 => match v0 with | .string r => r.size | _ => 0)
      case atStart => exact ⟨t, rfl, ht, HN⟩
      case round =>
        obtain ⟨r, rfl, hr, hh2⟩ := hrel
        clear HN
        by_cases h02 : 0 < r.size
        · have h02' : (0 : Int) < (r.size : Int) := by omega
          have hm1 : (r.size : Int) - 1 = ((r.size - 1 : Nat) : Int) := by omega
          have hm2 : ((r.size - 1 : Nat) : Int) < (r.size : Int) := by omega
          by_cases hb2 : ((r[r.size - 1]'(by omega)).toNat : Int) = 32
          · have HN2 : Hid (trimRS (r.extract 0 (r.size - 1)) = trimS s) := by show _ = _; rw [← hh2.out, trimR_step h02 hb2]
            have hb2' : (((r[r.size - 1]'(by omega)).toNat : Int) == 32) = true := by simpa using hb2
            clear hh2 hb2
            go_wp2_with fail
            go_round
            case rel => exact ⟨_, rfl, by rw [ByteArray.size_extract]; omega, HN2⟩
            case measure => simp; omega
          · have HN2 : Hid (trimS s = r) := by show _ = _; rw [← hh2.out]; exact trimR_stop (fun _ => hb2)
            have hb2' : (((r[r.size - 1]'(by omega)).toNat : Int) == 32) = false := by simpa using hb2
            clear hh2 hb2
            go_wp2_with fail
            go_ret
            exact ⟨by rw [HN2.out]; rfl, rfl⟩
        · have h02' : ¬ (0 : Int) < (r.size : Int) := by omega
          have HN2 : Hid (trimS s = r) := by show _ = _; rw [← hh2.out]; exact trimR_stop (fun h => absurd h h02)
          clear hh2
          go_wp2_with fail
          go_ret
          exact ⟨by rw [HN2.out]; rfl, rfl⟩
end Go.Proofs.YtlfmefojcmpfeaaGreatDoor
