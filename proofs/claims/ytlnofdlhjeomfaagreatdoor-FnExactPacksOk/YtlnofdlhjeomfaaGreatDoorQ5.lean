/-
  Contracts for the walks, several texts in one: each part says what it proves, and under which conditions.
-/
import Derived.Deep.RegionHeld
import Derived.Shelf.Small.Utf8
import Derived.Shelf.Small.Bits
import Derived.Shelf.Small.Strs
import Derived.Shelf.Utf8.RuneCount
import Derived.Shelf.Strconv.Itoa0
import Derived.Shelf.Strconv.Itoa1
import Derived.Shelf.LaysM
import Derived.Shelf.Strconv.Itoa2
import Derived.Shelf.Strconv.Itoa3
import Derived.Shelf.Strconv.Clone
import Derived.Shelf.Strings.Search1
import Derived.Shelf.Strings.Search2
import Derived.Shelf.Strings.Search3
import Derived.Shelf.Strings.Count
import Derived.Shelf.Strings.Shaped
import Derived.Shelf.Strings.Split
import Derived.Shelf.Strings.SplitShaped
import Derived.Shelf.Unicode.Decode
import Derived.Shelf.Strings.Runes
import Derived.Shelf.Strings.RuneCount
import Derived.Shelf.Strings.AsciiSet
import Derived.Shelf.Strings.Explode
import Derived.Shelf.Unicode.DecodeSlow
import Derived.Shelf.Unicode.DecodeAny
import Derived.Shelf.Unicode.DecodeLast
import Derived.Test.YtlnofdlhjeomfaaGreatDoorProg
import Derived.Test.YtlnofdlhjeomfaaGreatDoorQ1
import Derived.Test.YtlnofdlhjeomfaaGreatDoorQ4
import Derived.Test.YtlnofdlhjeomfaaGreatDoorQ2

/-! Blanks left out at both ends, the library's: contracts for the walks; condition: the text has at most 2 to the 40 bytes. -/
namespace Go.Proofs.YtlnofdlhjeomfaaGreatDoor
open Go.RowKit
set_option linter.unusedSimpArgs false
set_option linter.unusedVariables false

/-- Blanks at one end left out. -/
def trimLGo : Nat → ByteArray → ByteArray
  | 0, t => t
  | f + 1, t => if h : 0 < t.size then (if ((t[0]'(by omega)).toNat : Int) = 32 then trimLGo f (t.extract 1 t.size) else t) else t
def trimLS (s : ByteArray) : ByteArray := trimLGo s.size s
theorem trimL_step {t : ByteArray} (h : 0 < t.size) (hb : ((t[0]'(by omega)).toNat : Int) = 32) : trimLS t = trimLS (t.extract 1 t.size) := by
  have hs : (t.extract 1 t.size).size = t.size - 1 := by rw [ByteArray.size_extract]; omega
  obtain ⟨f, hf⟩ : ∃ f, t.size = f + 1 := ⟨t.size - 1, by omega⟩
  rw [trimLS, trimLS, hs, show t.size - 1 = f by omega]
  conv => lhs; rw [hf]
  rw [trimLGo, dif_pos h, if_pos hb]
theorem trimL_stop {t : ByteArray} (h : ∀ h : 0 < t.size, ¬ ((t[0]'(by omega)).toNat : Int) = 32) : trimLS t = t := by
  rw [trimLS]
  cases hf : t.size with
  | zero => rfl
  | succ f => rw [trimLGo, dif_pos (by omega), if_neg (h (by omega))]

set_option maxHeartbeats 1000000 in
set_option maxRecDepth 100000 in
theorem trimL_c (s : ByteArray) (hs : s.size ≤ 1099511627776) (w : World) :
    Calls Tryz.prog 193 #[.string s, .int .u8 32] w fun e w' => e = .returned (.string (trimLS s)) ∧ w = w' := by
  go_enter Tryz.func193, Tryz.ntmps193
  go_wp2_with fail
  go_loop [0] (fun v0 => ∃ t : ByteArray, v0 = .string t ∧ t.size ≤ 1099511627776 ∧ Hid (trimLS t = trimLS s)) (fun v0 => match v0 with | .string t => t.size | _ => 0)
  case atStart => exact ⟨s, rfl, hs, rfl⟩
  case round =>
    obtain ⟨t, rfl, ht, hh⟩ := hrel
    by_cases h0 : 0 < t.size
    · have h0' : (0 : Int) < (t.size : Int) := by omega
      by_cases hb : ((t[0]'(by omega)).toNat : Int) = 32
      · have HN : Hid (trimLS (t.extract 1 t.size) = trimLS s) := by show _ = _; rw [← hh.out, trimL_step h0 hb]
        have hb' : (((t[0]'(by omega)).toNat : Int) == 32) = true := by simpa using hb
        clear hh hb
        go_wp2_with fail
        go_round
        case rel => exact ⟨_, rfl, by rw [ByteArray.size_extract]; omega, HN⟩
        case measure => simp; omega
      · have HN : Hid (trimLS s = t) := by show _ = _; rw [← hh.out]; exact trimL_stop (fun _ => hb)
        have hb' : (((t[0]'(by omega)).toNat : Int) == 32) = false := by simpa using hb
        clear hh hb
        go_wp2_with fail
        go_ret
        exact ⟨by rw [HN.out]; rfl, rfl⟩
    · have h0' : ¬ (0 : Int) < (t.size : Int) := by omega
      have HN : Hid (trimLS s = t) := by show _ = _; rw [← hh.out]; exact trimL_stop (fun h => absurd h h0)
      clear hh
      go_wp2_with fail
      go_ret
      exact ⟨by rw [HN.out]; rfl, rfl⟩

/-- Blanks at one end left out. -/
def trimRGo : Nat → ByteArray → ByteArray
  | 0, t => t
  | f + 1, t => if h : 0 < t.size then (if ((t[t.size - 1]'(by omega)).toNat : Int) = 32 then trimRGo f (t.extract 0 (t.size - 1)) else t) else t
def trimRS (s : ByteArray) : ByteArray := trimRGo s.size s
theorem trimR_step {t : ByteArray} (h : 0 < t.size) (hb : ((t[t.size - 1]'(by omega)).toNat : Int) = 32) : trimRS t = trimRS (t.extract 0 (t.size - 1)) := by
  have hs : (t.extract 0 (t.size - 1)).size = t.size - 1 := by rw [ByteArray.size_extract]; omega
  obtain ⟨f, hf⟩ : ∃ f, t.size = f + 1 := ⟨t.size - 1, by omega⟩
  rw [trimRS, trimRS, hs, show t.size - 1 = f by omega]
  conv => lhs; rw [hf]
  rw [trimRGo, dif_pos h, if_pos hb]
  rw [show t.size - 1 = f by omega]
theorem trimR_stop {t : ByteArray} (h : ∀ h : 0 < t.size, ¬ ((t[t.size - 1]'(by omega)).toNat : Int) = 32) : trimRS t = t := by
  rw [trimRS]
  cases hf : t.size with
  | zero => rfl
  | succ f => rw [trimRGo, dif_pos (by omega), if_neg (h (by omega))]

set_option maxHeartbeats 1000000 in
set_option maxRecDepth 100000 in
theorem trimR_c (s : ByteArray) (hs : s.size ≤ 1099511627776) (w : World) :
    Calls Tryz.prog 194 #[.string s, .int .u8 32] w fun e w' => e = .returned (.string (trimRS s)) ∧ w = w' := by
  go_enter Tryz.func194, Tryz.ntmps194
  go_wp2_with fail
  go_loop [0] (fun v0 => ∃ t : ByteArray, v0 = .string t ∧ t.size ≤ 1099511627776 ∧ Hid (trimRS t = trimRS s)) (fun v0 => match v0 with | .string t => t.size | _ => 0)
  case atStart => exact ⟨s, rfl, hs, rfl⟩
  case round =>
    obtain ⟨t, rfl, ht, hh⟩ := hrel
    by_cases h0 : 0 < t.size
    · have h0' : (0 : Int) < (t.size : Int) := by omega
      by_cases hb : ((t[t.size - 1]'(by omega)).toNat : Int) = 32
      · have HN : Hid (trimRS (t.extract 0 (t.size - 1)) = trimRS s) := by show _ = _; rw [← hh.out, trimR_step h0 hb]
        have hb' : (((t[t.size - 1]'(by omega)).toNat : Int) == 32) = true := by simpa using hb
        have hm1 : (t.size : Int) - 1 = ((t.size - 1 : Nat) : Int) := by omega
        have hm2 : ((t.size - 1 : Nat) : Int) < (t.size : Int) := by omega
        clear hh hb
        go_wp2_with fail
        go_round
        case rel => exact ⟨_, rfl, by rw [ByteArray.size_extract]; omega, HN⟩
        case measure => simp; omega
      · have HN : Hid (trimRS s = t) := by show _ = _; rw [← hh.out]; exact trimR_stop (fun _ => hb)
        have hb' : (((t[t.size - 1]'(by omega)).toNat : Int) == 32) = false := by simpa using hb
        have hm1 : (t.size : Int) - 1 = ((t.size - 1 : Nat) : Int) := by omega
        have hm2 : ((t.size - 1 : Nat) : Int) < (t.size : Int) := by omega
        clear hh hb
        go_wp2_with fail
        go_ret
        exact ⟨by rw [HN.out]; rfl, rfl⟩
    · have h0' : ¬ (0 : Int) < (t.size : Int) := by omega
      have HN : Hid (trimRS s = t) := by show _ = _; rw [← hh.out]; exact trimR_stop (fun h => absurd h h0)
      clear hh
      go_wp2_with fail
      go_ret
      exact ⟨by rw [HN.out]; rfl, rfl⟩

theorem trimR_size (s : ByteArray) : (trimRS s).size ≤ s.size := by
  have h : ∀ f t, (trimRGo f t).size ≤ t.size := fun f => by
    induction f with
    | zero => intro t; exact Nat.le_refl _
    | succ f ih =>
      intro t
      rw [trimRGo]
      split
      · split
        · refine Nat.le_trans (ih _) ?_
          rw [ByteArray.size_extract]; omega
        · exact Nat.le_refl _
      · exact Nat.le_refl _
  exact h _ _
theorem trimL_size (s : ByteArray) : (trimLS s).size ≤ s.size := by
  have h : ∀ f t, (trimLGo f t).size ≤ t.size := fun f => by
    induction f with
    | zero => intro t; exact Nat.le_refl _
    | succ f ih =>
      intro t
      rw [trimLGo]
      split
      · split
        · refine Nat.le_trans (ih _) ?_
          rw [ByteArray.size_extract]; omega
        · exact Nat.le_refl _
      · exact Nat.le_refl _
  exact h _ _
def trimS (s : ByteArray) : ByteArray := trimLS (trimRS s)
theorem trimS_size (s : ByteArray) : (trimS s).size ≤ s.size := Nat.le_trans (trimL_size _) (trimR_size _)

set_option maxHeartbeats 1000000 in
set_option maxRecDepth 100000 in
theorem trim_c (s : ByteArray) (hs : s.size ≤ 1099511627776) (w : World) :
    Calls Tryz.prog 171 #[.string s, .string ⟨#[32]⟩] w fun e w' => e = .returned (.string (trimS s)) ∧ Below w.heap.size w w' := by
  by_cases h0 : s = ⟨#[]⟩
  · subst h0
    have e : trimS ⟨#[]⟩ = ⟨#[]⟩ := rfl
    rw [e]
    clear e
    go_enter Tryz.func171, Tryz.ntmps171
    go_wp2_with fail
    go_ret
    exact ⟨rfl, Below.refl _ _⟩
  · have hsb : (s.toList == []) = false := by rw [beq_eq_false_iff_ne]; intro h; exact h0 (bytes_eq_of_toList (by rw [h, ByteArray.toList_eq]))
    have HR : Hid (∀ w1, Calls Tryz.prog 194 #[.string s, .int .u8 32] w1 fun e w' => e = .returned (.string (trimRS s)) ∧ w1 = w') := fun w1 => trimR_c s hs w1
    have HL : Hid (∀ w1, Calls Tryz.prog 193 #[.string (trimRS s), .int .u8 32] w1 fun e w' => e = .returned (.string (trimS s)) ∧ w1 = w') := fun w1 => trimL_c _ (Nat.le_trans (trimR_size s) hs) w1
    clear h0
    go_enter Tryz.func171, Tryz.ntmps171
    go_wp2_with fail
    refine wp_region_held_drew (S := (fun _ => True)) (by kernel_rfl) ?SR10 (fun hHeld => ?_)
    case SR10 => (first | done | exact True.intro)
    refine wpAnyH_take (i := 0) (oi := _) (v := ?vR10) rfl (by kernel_rfl) (by kernel_rfl) (by kernel_rfl) (fun _ _ _ h => h) (Or.inl ⟨by rfl, ?yR10⟩) hHeld ?_
    case yR10 => (intro w hSw; (try dsimp only at hSw); go_simp <;> with_reducible rfl)
    try simp only [Act.put, List.getElem_toArray, List.getElem_cons_zero, List.getElem_cons_succ, List.setIfInBounds_toArray, List.set_cons_zero, List.set_cons_succ]
    refine wpAnyH_take (i := 1) (oi := _) (v := ?vR11) rfl (by kernel_rfl) (by kernel_rfl) (by kernel_rfl) (fun _ _ _ h => h) (Or.inl ⟨by rfl, ?yR11⟩) hHeld ?_
    case yR11 => (intro w hSw; (try dsimp only at hSw); go_simp <;> with_reducible rfl)
    try simp only [Act.put, List.getElem_toArray, List.getElem_cons_zero, List.getElem_cons_succ, List.setIfInBounds_toArray, List.set_cons_zero, List.set_cons_succ]
    refine wpAnyH_take (i := 2) (oi := _) (v := ?vR12) rfl (by kernel_rfl) (by kernel_rfl) (by kernel_rfl) (fun _ _ _ h => h) (Or.inl ⟨by rfl, ?yR12⟩) hHeld ?_
    case yR12 => (intro w hSw; (try dsimp only at hSw); go_simp <;> with_reducible rfl)
    try simp only [Act.put, List.getElem_toArray, List.getElem_cons_zero, List.getElem_cons_succ, List.setIfInBounds_toArray, List.set_cons_zero, List.set_cons_succ]
    refine wpAnyH_take (i := 4) (oi := _) (v := ?vR13) rfl (by kernel_rfl) (by kernel_rfl) (by kernel_rfl) (fun _ _ _ h => h) (Or.inl ⟨by rfl, ?yR13⟩) hHeld ?_
    case yR13 => (intro w hSw; (try dsimp only at hSw); go_simp <;> with_reducible rfl)
    try simp only [Act.put, List.getElem_toArray, List.getElem_cons_zero, List.getElem_cons_succ, List.setIfInBounds_toArray, List.set_cons_zero, List.set_cons_succ]
    refine wpAnyH_take (i := 5) (oi := _) (v := ?vR14) rfl (by kernel_rfl) (by kernel_rfl) (by kernel_rfl) (fun _ _ _ h => h) (Or.inl ⟨by rfl, ?yR14⟩) hHeld ?_
    case yR14 => (intro w hSw; (try dsimp only at hSw); go_simp <;> with_reducible rfl)
    try simp only [Act.put, List.getElem_toArray, List.getElem_cons_zero, List.getElem_cons_succ, List.setIfInBounds_toArray, List.set_cons_zero, List.set_cons_succ]
    refine wpAnyH_ready (rs := [3]) (by kernel_rfl) (by simp) ?_
    refine AllReadyH.cons rfl (fun K hK => ?_) AllReadyH.nil
    go_simp
    go_wp2_with (go_at_call 194; refine (HR.out _).mono ?_; rintro e w1 ⟨rfl, rfl⟩)
    clear hHeld
    refine hK.out _ _ ?SR16 (fun hHeld => ?_)
    case SR16 => ((try dsimp only); first | done | exact True.intro)
    clear hK K
    refine wpAnyH_ready (rs := [6]) (by kernel_rfl) (by simp) ?_
    refine AllReadyH.cons rfl (fun K hK => ?_) AllReadyH.nil
    go_simp
    go_wp2_with (go_at_call 193; refine (HL.out _).mono ?_; rintro e w2 ⟨rfl, rfl⟩)
    clear hHeld
    refine hK.out _ _ ?SR17 (fun hHeld => ?_)
    case SR17 => ((try dsimp only); first | done | exact True.intro)
    clear hK K
    refine wpAnyH_take (i := 7) (oi := _) (v := ?vR17) rfl (by kernel_rfl) (by kernel_rfl) (by kernel_rfl) (fun _ _ _ h => h) (Or.inl ⟨by rfl, ?yR17⟩) hHeld ?_
    case yR17 => (intro w hSw; (try dsimp only at hSw); go_simp <;> with_reducible rfl)
    try simp only [Act.put, List.getElem_toArray, List.getElem_cons_zero, List.getElem_cons_succ, List.setIfInBounds_toArray, List.set_cons_zero, List.set_cons_succ]
    refine wpAnyH_done (by kernel_rfl) ?_ _
    go_wp2_with fail
    go_ret
    exact ⟨rfl, (Below.refl _ _).drew⟩
end Go.Proofs.YtlnofdlhjeomfaaGreatDoor

/-! The contract of the library for cutting a text at each place where another stands, taken over from the library of contracts at the numbers of this program; conditions as it says. -/
namespace Go.Proofs
open Go.Shelf
def Tryz.lays146_ren : Go.Shelf.Ren := ⟨fun | 146 => 169 | 221 => 189 | 268 => 214 | 138 => 215 | 143 => 216 | 195 => 237 | 197 => 225 | 218 => 238 | 219 => 239 | 260 => 249 | 217 => 106 | 225 => 253 | 224 => 254 | 267 => 255 | 266 => 143 | 314 => 261 | n => n, fun | 9 => 9 | 31 => 23 | 3 => 3 | 4 => 4 | 0 => 0 | 105 => 260 | 21 => 21 | 5 => 5 | 46 => 196 | 119 => 290 | 139 => 293 | 138 => 292 | 146 => 295 | 51 => 216 | n => n, fun | 1 => 1 | 3 => 5 | 4 => 6 | n => n⟩
theorem Tryz.lays146 : Go.Proofs.Lays.n146 Tryz.prog Tryz.lays146_ren := {
  mixed := by kernel_rfl
  f138 := Tryz.func215.trans (congrArg some (by kernel_rfl))
  f143 := Tryz.func216.trans (congrArg some (by kernel_rfl))
  f146 := Tryz.func169.trans (congrArg some (by kernel_rfl))
  f195 := Tryz.func237.trans (congrArg some (by kernel_rfl))
  f197 := Tryz.func225.trans (congrArg some (by kernel_rfl))
  f217 := Tryz.func106.trans (congrArg some (by kernel_rfl))
  f218 := Tryz.func238.trans (congrArg some (by kernel_rfl))
  f219 := Tryz.func239.trans (congrArg some (by kernel_rfl))
  f221 := Tryz.func189.trans (congrArg some (by kernel_rfl))
  f224 := Tryz.func254.trans (congrArg some (by kernel_rfl))
  f225 := Tryz.func253.trans (congrArg some (by kernel_rfl))
  f260 := Tryz.func249.trans (congrArg some (by kernel_rfl))
  f266 := Tryz.func143.trans (congrArg some (by kernel_rfl))
  f267 := Tryz.func255.trans (congrArg some (by kernel_rfl))
  f268 := Tryz.func214.trans (congrArg some (by kernel_rfl))
  f314 := Tryz.func261.trans (congrArg some (by kernel_rfl))
  t0 := Tryz.underlying0
  a0 := Tryz.isAgg0
  z0 := Tryz.sizeOf0
  v0 := Tryz.zeroValue0
  t3 := Tryz.underlying3
  a3 := Tryz.isAgg3
  z3 := Tryz.sizeOf3
  v3 := Tryz.zeroValue3
  t4 := Tryz.underlying4
  a4 := Tryz.isAgg4
  z4 := Tryz.sizeOf4
  v4 := Tryz.zeroValue4
  t5 := Tryz.underlying5
  a5 := Tryz.isAgg5
  z5 := Tryz.sizeOf5
  v5 := Tryz.zeroValue5
  t9 := Tryz.underlying9
  a9 := Tryz.isAgg9
  z9 := Tryz.sizeOf9
  v9 := Tryz.zeroValue9
  t21 := Tryz.underlying21
  a21 := Tryz.isAgg21
  z21 := Tryz.sizeOf21
  v21 := Tryz.zeroValue21
  t31 := Tryz.underlying23
  a31 := Tryz.isAgg23
  z31 := Tryz.sizeOf23
  v31 := Tryz.zeroValue23
  t46 := Tryz.underlying196
  a46 := Tryz.isAgg196
  z46 := Tryz.sizeOf196
  v46 := Tryz.zeroValue196
  t51 := Tryz.underlying216
  a51 := Tryz.isAgg216
  z51 := Tryz.sizeOf216
  v51 := Tryz.zeroValue216
  t105 := Tryz.underlying260
  a105 := Tryz.isAgg260
  z105 := Tryz.sizeOf260
  v105 := Tryz.zeroValue260
  t119 := Tryz.underlying290
  a119 := Tryz.isAgg290
  z119 := Tryz.sizeOf290
  t138 := Tryz.underlying292
  a138 := Tryz.isAgg292
  z138 := Tryz.sizeOf292
  v138 := Tryz.zeroValue292
  t139 := Tryz.underlying293
  a139 := Tryz.isAgg293
  z139 := Tryz.sizeOf293
  v139 := Tryz.zeroValue293
  t146 := Tryz.underlying295
  a146 := Tryz.isAgg295
  z146 := Tryz.sizeOf295
  v146 := Tryz.zeroValue295
  g1 := by kernel_rfl
  g3 := by kernel_rfl
  g4 := by kernel_rfl }
open Go.RowKit Go.Lib in
theorem Tryz.strings_Split (s sep : ByteArray) (m : Int) (w : World) (hs : s.size < 4294967281) (hm : w.cell? ⟨1, 0, none⟩ = some (.int .i64 m)) (h1 : 1 ≤ sep.size) :
    Calls Tryz.prog 169 #[.string s, .string sep] w fun e w' =>
      e = .returned (.slice (some ⟨w.heap.size, 0, none⟩) (Lib.countB s sep + 1) (Lib.countB s sep + 1)) ∧ w' = w.alloc (.cells ((Lib.splitB sep 0 (Lib.countB s sep) s).map Value.string).toArray 9) := Any.strings_Split Tryz.lays146 (by kernel_rfl) s sep m w hs hm h1
end Go.Proofs

/-! What ParseRange reads, the program's: a contract for the walks; conditions: the text has at most 2 to the 20 bytes, the table of signs holds what the text lays, the library's MaxLen is a number. -/
namespace Go.Proofs.YtlnofdlhjeomfaaGreatDoor
open Go.RowKit
set_option linter.unusedSimpArgs false
set_option linter.unusedVariables false

theorem rowsG_apart {w : World} {base base' e e' sz sz' : Nat} {v v' : Value} {n n' : Nat} {xs xs' : List Value} (h : w.ownsRow base e sz v n xs) (h' : w.ownsRow base' e' sz' v' n' xs') (hne : e ≠ e') : v'.ownBlock = none ∨ v'.ownBlock ≠ v.ownBlock := by
  rcases h.2 with ⟨rfl, _⟩ | ⟨g, cap, cur, rfl, _, hg, _⟩
  · rcases h'.2 with ⟨rfl, _⟩ | ⟨g', cap', cur', rfl, _, hg', _⟩
    · exact .inl rfl
    · exact .inr (by simp [Value.ownBlock])
  · rcases h'.2 with ⟨rfl, _⟩ | ⟨g', cap', cur', rfl, _, hg', _⟩
    · exact .inl rfl
    · refine .inr fun e1 => hne ?_
      simp only [Value.ownBlock, Option.some.injEq] at e1
      subst e1
      rw [hg] at hg'
      simp only [Option.some.injEq, Obj.cells.injEq] at hg'
      exact hg'.2.1

/-- A list of Cmps of the call's own, all of it in blocks from lo on, below hi. -/
def CmpsSeg (lo hi : Nat) (w : World) (v : Value) (ds : List CmpD) : Prop :=
  ∃ (ys : List Value) (us : Nat → Value), w.ownsRow lo 223 5 v ds.length ys ∧
    (∀ i (h : i < ds.length), FiveAt ys (i * 5) (.int .i64 ds[i].o) (.int .i64 ds[i].a) (.int .i64 ds[i].b) (.int .i64 ds[i].c) (us i) ∧ w.ownsRow lo 9 1 (us i) ds[i].ps.length (strsV ds[i].ps)) ∧
    (∀ i j, i < ds.length → j < ds.length → i ≠ j → (us i).ownBlock = (us j).ownBlock → (us i).ownBlock = none) ∧
    (∀ k, v.ownBlock = some k → k < hi) ∧ ∀ i, i < ds.length → ∀ k, (us i).ownBlock = some k → k < hi
theorem CmpsOwn.seg {lo : Nat} {w : World} {v : Value} {ds : List CmpD} (h : CmpsOwn lo w v ds) : CmpsSeg lo w.heap.size w v ds := by
  obtain ⟨ys, us, h1, h2, h3⟩ := h
  refine ⟨ys, us, h1, h2, h3, fun k hk => ?_, fun i hi k hk => ((h2 i hi).2.lt k hk).2⟩
  rcases h1.2 with ⟨rfl, _⟩ | ⟨g, cap, cur, rfl, _, hg, _⟩
  · simp [Value.ownBlock] at hk
  · simp only [Value.ownBlock, Option.some.injEq] at hk
    subst hk
    exact (Array.getElem?_eq_some_iff.1 hg).1
theorem CmpsSeg.below {lo hi : Nat} {w w' : World} {v : Value} {ds : List CmpD} (h : CmpsSeg lo hi w v ds) (b : Below w.heap.size w w') : CmpsSeg lo hi w' v ds := by
  obtain ⟨ys, us, h1, h2, h3⟩ := h
  exact ⟨ys, us, own_kept5 h1 b, fun i hi => ⟨(h2 i hi).1, owns_of_below (h2 i hi).2 b⟩, h3⟩
theorem CmpsSeg.grown {lo hi base n : Nat} {w w' : World} {v r : Value} {ds : List CmpD} {xs : List Value} (h : CmpsSeg lo hi w v ds) (hr : w.ownsRow base 198 1 r n xs) (g : w.grownBy w' r.ownBlock) : CmpsSeg lo hi w' v ds := by
  obtain ⟨ys, us, h1, h2, h3⟩ := h
  exact ⟨ys, us, h1.kept g (rowsG_apart hr h1 (by decide)), fun i hi => ⟨(h2 i hi).1, (h2 i hi).2.kept g (rowsG_apart hr (h2 i hi).2 (by decide))⟩, h3⟩

/-- A list of lists of Cmps of the call's own: its row, and each list in blocks of its own. -/
def RangeOwn (lo : Nat) (w : World) (v : Value) (dss : List (List CmpD)) : Prop :=
  ∃ (vs : List Value) (ls hs : Nat → Nat), w.ownsRow lo 198 1 v dss.length vs ∧
    (∀ i (h : i < dss.length), ∃ u, vs[i]? = some u ∧ lo ≤ ls i ∧ hs i ≤ w.heap.size ∧ CmpsSeg (ls i) (hs i) w u dss[i]) ∧ ∀ i j, i < j → j < dss.length → hs i ≤ ls j
theorem rangeOwn_nil (w : World) (lo : Nat) : RangeOwn lo w (.slice none 0 0) [] :=
  ⟨[], fun _ => 0, fun _ => 0, ⟨rfl, .inl ⟨rfl, rfl⟩⟩, fun i h => by simp at h, fun i j _ h => by simp at h⟩
theorem RangeOwn.below {lo : Nat} {w w' : World} {v : Value} {dss : List (List CmpD)} (h : RangeOwn lo w v dss) (b : Below w.heap.size w w') : RangeOwn lo w' v dss := by
  obtain ⟨vs, ls, hs, h1, h2, h3⟩ := h
  refine ⟨vs, ls, hs, owns_of_below h1 b, fun i hi => ?_, h3⟩
  obtain ⟨u, e, a1, a2, a3⟩ := h2 i hi
  exact ⟨u, e, a1, Nat.le_trans a2 b.size, a3.below b⟩
theorem RangeOwn.lower {lo lo' : Nat} {w : World} {v : Value} {dss : List (List CmpD)} (h : RangeOwn lo w v dss) (hl : lo' ≤ lo) : RangeOwn lo' w v dss := by
  obtain ⟨vs, ls, hs, h1, h2, h3⟩ := h
  refine ⟨vs, ls, hs, owns_base h1 hl, fun i hi => ?_, h3⟩
  obtain ⟨u, e, a1, a2, a3⟩ := h2 i hi
  exact ⟨u, e, Nat.le_trans hl a1, a2, a3⟩

/-- What an append of one more list leaves. -/
theorem RangeOwn.snoc {lo : Nat} {wk w4 : World} {v v4 : Value} {dss : List (List CmpD)} {ds : List CmpD} (h : RangeOwn lo wk v dss) (hlo : lo ≤ wk.heap.size) (b : Below wk.heap.size wk w4) (h4 : CmpsOwn wk.heap.size w4 v4 ds) :
    ∃ vs, w4.ownsRow lo 198 1 v dss.length vs ∧ ∀ o w6 v6, w6.ownsRow lo 198 1 v6 (dss.length + 1) (vs ++ [v4]) → (w4.alloc o).grownBy w6 v.ownBlock → RangeOwn lo w6 v6 (dss ++ [ds]) := by
  obtain ⟨vs, ls, hs, h1, h2, h3⟩ := h
  have h1' := owns_of_below h1 b
  refine ⟨vs, h1', fun o w6 v6 o6 gr => ?_⟩
  have tA : Below w4.heap.size w4 (w4.alloc o) := (Below.refl _ _).alloc (Nat.le_refl _) _
  have h1a := owns_of_below h1' tA
  have hsz : w4.heap.size ≤ w6.heap.size := Nat.le_trans tA.size gr.size
  have hvl : vs.length = dss.length := by have := h1.1; omega
  refine ⟨vs ++ [v4], fun i => if i < dss.length then ls i else wk.heap.size, fun i => if i < dss.length then hs i else w4.heap.size, by rw [List.length_append]; exact o6, fun i hi => ?_, fun i j hij hj => ?_⟩
  · by_cases hl : i < dss.length
    · obtain ⟨u, e, a1, a2, a3⟩ := h2 i hl
      refine ⟨u, by rw [List.getElem?_append_left (by omega)]; exact e, ?_, ?_, ?_⟩
      · simp only [hl, if_true]; exact a1
      · simp only [hl, if_true]; exact Nat.le_trans a2 (Nat.le_trans b.size hsz)
      · simp only [hl, if_true, List.getElem_append_left hl]
        exact ((a3.below b).below tA).grown h1a gr
    · have hi' : i = dss.length := by simp at hi; omega
      subst hi'
      refine ⟨v4, by rw [List.getElem?_append_right (by omega), hvl]; simp, ?_, ?_, ?_⟩
      · simp only [hl, if_false]; exact hlo
      · simp only [hl, if_false]; exact hsz
      · have eg : (dss ++ [ds])[dss.length] = ds := by simp
        simp only [hl, if_false, eg]
        exact (h4.seg.below tA).grown h1a gr
  · rw [List.length_append] at hj
    simp at hj
    by_cases hj1 : j < dss.length
    · have hi1 : i < dss.length := by omega
      simp only [hi1, hj1, if_true]
      exact h3 i j hij hj1
    · have hi1 : i < dss.length := by omega
      obtain ⟨u, e, a1, a2, a3⟩ := h2 i hi1
      simp only [hi1, hj1, if_true, if_false]
      exact a2

def orT : ByteArray := ⟨#[124, 124]⟩
def sidesI (s : ByteArray) : List ByteArray := Lib.splitB orT 0 (Lib.countB s orT) s
def foldR : List ByteArray → List (List CmpD) → Option (List (List CmpD))
  | [], acc => some acc
  | t :: ts, acc => match listC (splitS (trimS t) 32) with | some ds => foldR ts (acc ++ [ds]) | none => none
/-- What a text tells as a range. -/
def rangeI (s : ByteArray) : Option (List (List CmpD)) := if 4 < (sidesI s).length then none else foldR (sidesI s) []

theorem splitB_piece (sep : ByteArray) (save : Nat) (hsv : save = 0) : ∀ (k : Nat) (s : ByteArray), ∀ x ∈ Lib.splitB sep save k s, x.size ≤ s.size
  | 0, s => fun x hx => by simp [Lib.splitB] at hx; subst hx; exact Nat.le_refl _
  | k + 1, s => fun x hx => by
    rw [Lib.splitB] at hx
    split at hx
    · simp at hx; subst hx; exact Nat.le_refl _
    · rcases List.mem_cons.1 hx with rfl | hx
      · rw [ByteArray.size_extract]; omega
      · refine Nat.le_trans (splitB_piece sep save hsv k _ x hx) ?_
        rw [ByteArray.size_extract]; omega

theorem lit_row (w : World) (xs : List ByteArray) (t : TypeId) : ∀ k (h : k < xs.length), (w.alloc (.cells (xs.map Value.string).toArray t)).cell? ⟨w.heap.size, k, none⟩ = some (.string xs[k]) := fun k h => by
  have e : (w.alloc (.cells (xs.map Value.string).toArray t)).cell? ⟨w.heap.size, k, none⟩ = ((xs.map Value.string).toArray)[k]? := vblk_cell (vheap_new _ _) k
  rw [e]
  simp [h]
theorem cell_one_c (w : World) (v : Value) (t : TypeId) : ∀ j u, ([v] : List Value)[j]? = some u → (w.alloc (.cells #[v] t)).cell? ((⟨w.heap.size, 0, none⟩ : Addr).add j) = some u := fun j u hj => by
  have hj0 : j = 0 := by have := (List.getElem?_eq_some_iff.1 hj).1; simp at this; omega
  subst hj0
  simp at hj
  subst hj
  have e : ((⟨w.heap.size, 0, none⟩ : Addr).add 0) = ⟨w.heap.size, 0, none⟩ := by unfold Addr.add; split <;> simp_all
  rw [e]
  exact vblk_cell (vheap_new _ _) 0

set_option maxHeartbeats 4000000 in
set_option maxRecDepth 100000 in
theorem implRange_c (s : ByteArray) (hs : s.size ≤ 1048576) (m : Int) (w : World) (hm : w.cell? ⟨1, 0, none⟩ = some (.int .i64 m)) (hsg : ∀ k (h : k < signsT.length), w.cell? ⟨4, k, none⟩ = some (.string signsT[k])) :
    Calls Tryz.prog 149 #[.string s] w fun e w' => ∃ v, e = .returned (.tuple #[v, .bool (rangeI s).isSome]) ∧ RangeOwn w.heap.size w' v ((rangeI s).getD []) ∧ Below w.heap.size w w' := by
  have HS : Calls Tryz.prog 169 #[.string s, .string orT] w fun e w' => e = .returned (.slice (some ⟨w.heap.size, 0, none⟩) (sidesI s).length (sidesI s).length) ∧ w' = w.alloc (.cells ((sidesI s).map Value.string).toArray 9) := by
    have h := Tryz.strings_Split s orT m w (by omega) hm (by decide)
    have hl : (sidesI s).length = Lib.countB s orT + 1 := Lib.splitB_all orT (by decide) 0 _ s rfl
    rw [hl]
    exact h
  have hpc : ∀ x ∈ sidesI s, x.size ≤ s.size := splitB_piece orT 0 rfl _ s
  have hll : (sidesI s).length ≤ 1048577 := by
    have hl : (sidesI s).length = Lib.countB s orT + 1 := Lib.splitB_all orT (by decide) 0 _ s rfl
    have := Lib.countB_le orT (by decide) s.size s (Nat.le_refl _)
    omega
  have hgl : 4 < w.heap.size := World.block_lt_of_cell? w _ (hsg 0 (by decide))
  have HG : Hid (∀ w1, Below w.heap.size w w1 → ∀ k (h : k < signsT.length), w1.cell? ⟨4, k, none⟩ = some (.string signsT[k])) := fun w1 b k h => (b.cell (p := ⟨4, k, none⟩) hgl).trans (hsg k h)
  have HR : Hid (rangeI s = if 4 < (sidesI s).length then none else foldR (sidesI s) []) := rfl
  obtain ⟨ts, hts⟩ : ∃ ts, ts = sidesI s := ⟨_, rfl⟩
  obtain ⟨R, hR⟩ : ∃ R, R = rangeI s := ⟨_, rfl⟩
  rw [← hts] at HS hpc HR hll
  rw [← hR] at HR
  rw [← hR]
  clear hts hR hsg hgl hm
  have b3 : Below w.heap.size w (w.alloc (.cells (ts.map Value.string).toArray 9)) := (Below.refl _ _).alloc (Nat.le_refl _) _
  have hcell := lit_row w ts 9
  have hs3 : (w.alloc (.cells (ts.map Value.string).toArray 9)).heap.size = w.heap.size + 1 := by simp
  obtain ⟨i0, hi, hz0, hz1, hz2⟩ := info_parts infoCmps
  go_enter Tryz.func149, Tryz.ntmps149
  go_wp2_with fail
  go_at_call 169
  refine HS.mono ?_
  rintro e w' ⟨rfl, rfl⟩
  generalize (w.alloc (.cells (ts.map Value.string).toArray 9)) = w3 at b3 hcell hs3 ⊢
  have hbq : w.heap.size < w3.heap.size := by omega
  clear HS hs3
  by_cases h4 : 4 < ts.length
  · have e : R = none := by rw [HR.out, if_pos h4]
    have h4' : (4 : Int) < (ts.length : Int) := by omega
    subst e
    clear HR hcell
    go_wp2_with fail
    go_ret2
    exact ⟨_, rfl, rangeOwn_nil _ _, b3⟩
  have HF : Hid (R = foldR ts []) := by show _ = _; rw [HR.out, if_neg h4]
  have h4' : ¬ (4 : Int) < (ts.length : Int) := by omega
  have hl4 : ts.length ≤ 4 := by omega
  have HP : Hid (∀ x : ByteArray, x.size ≤ 1048576 → ∀ w1, Below w.heap.size w w1 → Calls Tryz.prog 170 #[.string x] w1 fun e w' => ∃ v, e = .returned (.tuple #[v, .bool (listC (splitS x 32)).isSome]) ∧ CmpsOwn w1.heap.size w' v ((listC (splitS x 32)).getD []) ∧ Below w1.heap.size w1 w') := fun x hx w1 b => parseCmps_c x hx w1 (HG.out w1 b)
  clear HR h4 HG
  go_wp2_with fail
  go_loopw [5, 17] (fun v5 vi wr => ∃ (k : Nat) (acc : List (List CmpD)), k ≤ ts.length ∧ vi = .int .i64 (k : Int) ∧ RangeOwn w3.heap.size wr v5 acc ∧ acc.length = k ∧ Hid (foldR (ts.drop k) acc = foldR ts []) ∧ Below w3.heap.size w3 wr) (fun _ vi _ => ts.length - (intOf vi).toNat)
  case atStart => exact ⟨0, [], Nat.zero_le _, rfl, rangeOwn_nil _ _, rfl, rfl, Below.refl _ _⟩
  case round =>
    obtain ⟨k, acc, hk, rfl, hacc, hal, hf, hbr⟩ := hrel
    have hmr := b3.trans (hbr.mono b3.size)
    obtain ⟨qv, nv, cv, hv5⟩ : ∃ q n c, u5 = .slice q n c := by
      obtain ⟨vs, ls, hs, h1, _⟩ := hacc
      rcases h1.2 with ⟨h, _⟩ | ⟨g, cap, cur, h, _⟩
      · exact ⟨_, _, _, h⟩
      · exact ⟨_, _, _, h⟩
    subst hv5
    by_cases hlt : k < ts.length
    · have hcx : wr.cell? ⟨w.heap.size, k, none⟩ = some (.string ts[k]) := (hbr.cell (p := ⟨w.heap.size, k, none⟩) hbq).trans (hcell k hlt)
      have hsk : ts[k].size ≤ 1048576 := by have := hpc ts[k] (List.getElem_mem _); omega
      have hdr : ts.drop k = ts[k] :: ts.drop (k + 1) := List.drop_eq_getElem_cons hlt
      rw [hdr, foldR] at hf
      obtain ⟨x, hx⟩ : ∃ x, x = ts[k] := ⟨_, rfl⟩
      rw [← hx] at hcx hsk hf
      have HT : Hid (∀ w1, Calls Tryz.prog 171 #[.string x, .string ⟨#[32]⟩] w1 fun e w' => e = .returned (.string (trimS x)) ∧ Below w1.heap.size w1 w') := fun w1 => trim_c x (by omega) w1
      have htz : (trimS x).size ≤ 1048576 := Nat.le_trans (trimS_size x) hsk
      obtain ⟨y, hy⟩ : ∃ y, y = trimS x := ⟨_, rfl⟩
      rw [← hy] at HT htz hf
      have HC := HP.out y htz
      obtain ⟨L, hL⟩ : ∃ L, L = listC (splitS y 32) := ⟨_, rfl⟩
      rw [← hL] at HC hf
      have HC' : Hid (∀ w1, Below w.heap.size w w1 → Calls Tryz.prog 170 #[.string y] w1 fun e w' => ∃ v, e = .returned (.tuple #[v, .bool L.isSome]) ∧ CmpsOwn w1.heap.size w' v (L.getD []) ∧ Below w1.heap.size w1 w') := HC
      have hki : (k : Int) < (ts.length : Int) := by omega
      clear HC hx hy hL hdr hcell HP
      cases L with
      | none =>
        have e : R = none := by rw [HF.out, ← hf.out]
        subst e
        clear hf HF
        go_wp2_with (first
          | (go_at_call 171; refine (HT.out _).mono ?_; rintro e w4 ⟨rfl, b4⟩; have hm4 := hmr.trans (b4.mono hmr.size))
          | (go_at_call 170; refine (HC'.out _ hm4).mono ?_; rintro e w5 ⟨v5, rfl, hv5, b5⟩; obtain ⟨q5, c5, us5, hq5, _, _⟩ := hv5.at; subst hq5))
        go_ret2
        exact ⟨_, rfl, rangeOwn_nil _ _, hm4.trans (b5.mono hm4.size)⟩
      | some ds =>
        have HN : Hid (foldR (ts.drop (k + 1)) (acc ++ [ds]) = foldR ts []) := hf
        have hlo : w3.heap.size ≤ wr.heap.size := hbr.size
        have hrow : ∀ j, Value.ownBlock (.slice qv nv cv) = some j → w3.heap.size ≤ j := fun j hj => by
          obtain ⟨vs, ls, hs, h1, _⟩ := hacc
          exact (h1.lt j hj).1
        have HSN : Hid (∀ w4 w5 v4, Below wr.heap.size wr w4 → CmpsOwn w4.heap.size w5 v4 ds → Below w4.heap.size w4 w5 → ∃ vs, w5.ownsRow w3.heap.size 198 1 (.slice qv nv cv) acc.length vs ∧ ∀ o w6 v6, w6.ownsRow w3.heap.size 198 1 v6 (acc.length + 1) (vs ++ [v4]) → (w5.alloc o).grownBy w6 (Value.ownBlock (.slice qv nv cv)) → RangeOwn w3.heap.size w6 v6 (acc ++ [ds])) := fun w4 w5 v4 b4 h4 b5 => (hacc.below b4).snoc (Nat.le_trans hlo b4.size) b5 h4
        have HRW : Hid (∀ j, Value.ownBlock (.slice qv nv cv) = some j → w3.heap.size ≤ j) := hrow
        clear hf hrow hacc
        go_wp2_with (first
          | (go_at_call 171; refine (HT.out _).mono ?_; rintro e w4 ⟨rfl, b4⟩; have hm4 := hmr.trans (b4.mono hmr.size))
          | (go_at_call 170; refine (HC'.out _ hm4).mono ?_; rintro e w5 ⟨v5, rfl, hv5, b5⟩; obtain ⟨q5, c5, us5, hq5, _, _⟩ := hv5.at; subst hq5; obtain ⟨vs, o5, hsn⟩ := HSN.out w4 w5 _ b4 hv5 b5; have HSN2 := hsn (.cells #[.slice q5 ((some ds).getD []).length c5] 198); have HSN3 : Hid (∀ w6 v6, w6.ownsRow w3.heap.size 198 1 v6 (acc.length + 1) (vs ++ [.slice q5 ((some ds).getD []).length c5]) → (w5.alloc (.cells #[.slice q5 ((some ds).getD []).length c5] 198)).grownBy w6 (Value.ownBlock (.slice qv nv cv)) → RangeOwn w3.heap.size w6 v6 (acc ++ [ds])) := HSN2; clear hsn HSN2 hv5)
          | (at_builtin; refine wpList_append_own _ rfl _ _ 180 rfl w3.heap.size 198 i0 (.slice none 0 0) 1 24 Tryz.underlying180 hi hz0 hz1 hz2 rfl (by decide) (.slice qv nv cv) acc.length vs rfl (o5.alloc _) ⟨w5.heap.size, 0, none⟩ 1 1 [.slice q5 ((some ds).getD []).length c5] rfl rfl (cell_one_c _ _ _) (fun u hu => by simp at hu; subst hu; rfl) (by unfold maxLen; omega) (by omega) (by have h1 := hlo; have h2 := b4.size; have h3 := b5.size; simp; omega) ?_))
        intro v6 w6 o6 gr6 _
        have kx := (hbr.trans (b4.mono hlo)).trans (b5.mono (Nat.le_trans hlo b4.size))
        have k6 := below_turned (kx.alloc kx.size _) gr6 (by have := kx.size; simp; omega) HRW.out
        have hown := HSN3.out w6 v6 (by rw [hal]; exact o6) gr6
        clear HSN3 HSN o5 o6 gr6
        go_wp2_with fail
        go_roundw
        case rel => exact ⟨k + 1, acc ++ [ds], by omega, by go_num, hown, by simp [hal], HN, k6⟩
        case measure => simp [intOf]; omega
    · have he : k = ts.length := by omega
      subst he
      have e : R = some acc := by rw [HF.out, ← hf.out, List.drop_length, foldR]
      subst e
      clear hf HF hcell HP
      go_wp2_with fail
      go_ret2
      exact ⟨_, rfl, hacc.lower b3.size, hmr⟩
end Go.Proofs.YtlnofdlhjeomfaaGreatDoor

/-! The place of the pack of a name, the program's and the specification's: contracts for the walks; conditions: the row of packs lies in memory. -/
namespace Go.Proofs.YtlnofdlhjeomfaaGreatDoor
open Go.RowKit
set_option linter.unusedSimpArgs false
set_option linter.unusedVariables false

/-- The place of the first pack of this name, or -1. -/
def findP (xs : List PackD) (s : ByteArray) : Int := if xs.findIdx (fun d => decide (d.name = s)) < xs.length then (xs.findIdx (fun d => decide (d.name = s)) : Int) else -1
theorem findP_here {xs : List PackD} {s : ByteArray} {k : Nat} (h : k < xs.length) (hy : xs[k].name = s) (hn : ∀ j (hj : j < xs.length), j < k → ¬ xs[j].name = s) : findP xs s = (k : Int) := by
  have e : xs.findIdx (fun d => decide (d.name = s)) = k := by
    rw [List.findIdx_eq h]
    exact ⟨by simpa using hy, fun j hj => by simpa using hn j (by omega) hj⟩
  unfold findP
  rw [e, if_pos h]
theorem findP_none {xs : List PackD} {s : ByteArray} (hn : ∀ j (hj : j < xs.length), ¬ xs[j].name = s) : findP xs s = -1 := by
  have e : xs.findIdx (fun d => decide (d.name = s)) = xs.length := by
    rw [List.findIdx_eq_length]
    intro x hx
    obtain ⟨j, hj, rfl⟩ := List.mem_iff_getElem.1 hx
    simpa using hn j hj
  unfold findP
  rw [e, if_neg (by omega)]
theorem name_alike (a b : ByteArray) : (a.toList == b.toList) = decide (a = b) := by
  by_cases h : a = b
  · subst h; simp
  · rw [decide_eq_false h]
    cases hh : (a.toList == b.toList) with
    | false => rfl
    | true => exact absurd (bytes_eq_of_toList (by simpa using hh)) h

set_option maxHeartbeats 2000000 in
set_option maxRecDepth 100000 in
theorem specFind_c (S : Nat → Prop) (v : Value) (xs : List PackD) (s : ByteArray) (w : World) (hv : RowIn shPack S w v xs) (hB : ∀ b, S b → b < w.heap.size) :
    Calls Tryz.prog 50 #[v, .string s] w fun e w' => e = .returned (.int .i64 (findP xs s)) ∧ Below w.heap.size w w' := by
  obtain ⟨a, cap, rfl, hl, hc, ha⟩ := hv
  unfold maxLen at hl
  obtain ⟨R, hR⟩ : ∃ R, R = findP xs s := ⟨_, rfl⟩
  rw [← hR]
  have HR : Hid (R = findP xs s) := hR
  clear hR
  go_enter Tryz.func50, Tryz.ntmps50
  go_wp2_with fail
  go_loopw [5] (fun vi wr => ∃ k : Nat, k ≤ xs.length ∧ vi = .int .i64 (k : Int) ∧ Hid (∀ j (hj : j < xs.length), j < k → ¬ xs[j].name = s) ∧ Below w.heap.size w wr) (fun vi _ => xs.length - (intOf vi).toNat)
  case atStart => exact ⟨0, Nat.zero_le _, rfl, (fun j hj h => by omega), Below.refl _ _⟩
  case round =>
    obtain ⟨k, hk, rfl, hno, hbr⟩ := hrel
    by_cases hlt' : k < xs.length
    · rcases ha with rfl | ⟨b, off, rfl, hlt, ha⟩
      · simp at hlt'
      obtain ⟨cs, hL, hcell⟩ := ha k hlt'
      have hcell2 := hcell.keep (.of hbr hB) hlt
      have HT : Hid (xs[k].name = s → R = (k : Int)) := fun h => HR.out.trans (findP_here hlt' h hno.out)
      have HN : Hid (¬ xs[k].name = s → ∀ j (hj : j < xs.length), j < k + 1 → ¬ xs[j].name = s) := fun h j hj hjk => by
        by_cases e : j = k
        · subst e; exact h
        · exact hno.out j hj (by omega)
      obtain ⟨d, hd⟩ : ∃ d, d = xs[k] := ⟨_, rfl⟩
      rw [← hd] at hL HT HN
      obtain ⟨u0, u1, u2, rfl, _⟩ := hL
      have e0 : wr.cell? ⟨b, off + k * 4, none⟩ = some (.string d.name) := hcell2 0 (by simp)
      have hki : (k : Int) < (xs.length : Int) := by omega
      obtain ⟨t, ht⟩ : ∃ t, t = d.name := ⟨_, rfl⟩
      rw [← ht] at e0 HT HN
      have hal := name_alike t s
      clear ha hd ht hcell hcell2 hno HR
      by_cases hts : t = s
      · have hq : (t.toList == s.toList) = true := by rw [hal]; simpa using hts
        have HT2 := hidden (HT.out hts)
        clear HT HN hts hal
        go_wp2_with fail
        try (go_quiet (fail); go_wp2_with fail)
        go_ret
        exact ⟨by rw [HT2.out]; rfl, by first | exact hbr | exact hbr.drew | exact below_drewN' hbr _⟩
      · have hq : (t.toList == s.toList) = false := by rw [hal]; simpa using hts
        have HN2 := hidden (HN.out hts)
        clear HT HN hts hal
        go_wp2_with fail
        try (go_quiet (fail); go_wp2_with fail)
        go_roundw
        case rel => exact ⟨k + 1, by omega, by go_num, HN2.out, by first | exact hbr | exact hbr.drew | exact below_drewN' hbr _⟩
        case measure => simp [intOf]; omega
    · have he : k = xs.length := by omega
      subst he
      have HE : Hid (R = -1) := HR.out.trans (findP_none (fun j hj => hno.out j hj hj))
      clear ha hno HR
      go_wp2_with fail
      go_ret
      exact ⟨by rw [HE.out]; rfl, hbr⟩

set_option maxHeartbeats 1000000 in
set_option maxRecDepth 100000 in
theorem findFn_c (S : Nat → Prop) (d : PackD) (cs : List Value) (s : ByteArray) (B : Nat) (w : World) (hd : shPack.lies S w cs d) (hF : w.heap[B]? = some (.cells #[.string s] 9 (0, 0))) :
    Calls Tryz.prog 133 #[.agg cs.toArray, .pointer (some ⟨B, 0, none⟩)] w fun e w' => e = .returned (.bool (decide (d.name = s))) ∧ Below w.heap.size w w' := by
  obtain ⟨u0, u1, u2, rfl, _, r0, _, r1, r2⟩ := hd
  obtain ⟨a0, c0, rfl, _⟩ := id r0
  obtain ⟨a1, c1, rfl, _⟩ := id r1
  obtain ⟨a2, c2, rfl, _⟩ := id r2
  clear r0 r1 r2
  have hBl := (Array.getElem?_eq_some_iff.1 hF).1
  have y0 : ∀ o, (w.alloc o).cell? ⟨B, 0, none⟩ = some (.string s) := fun o => by
    have : w.cell? ⟨B, 0, none⟩ = some (.string s) := by rw [vblk_cell hF]; rfl
    rw [← this]
    exact ((Below.refl w.heap.size w).alloc (Nat.le_refl _) _).cell (by simpa using hBl)
  have kb : ∀ o, Below w.heap.size w (w.alloc o) := fun o => (Below.refl w.heap.size w).alloc (Nat.le_refl _) o
  have HG := hidden (name_alike d.name s)
  have hy := hidden y0
  clear hF y0
  rw [length_strsV]
  have y1 := hy.out (.cells #[.string d.name, .slice a0 d.uses.length c0, .slice a1 d.needs.length c1, .slice a2 d.cmds.length c2] 38)
  go_enter Tryz.func133, Tryz.ntmps133
  go_wp2_with fail
  go_ret
  exact ⟨by rw [← HG.out]; rfl, kb _⟩

set_option maxHeartbeats 2000000 in
set_option maxRecDepth 100000 in
theorem findAt_c (S : Nat → Prop) (v : Value) (xs : List PackD) (s : ByteArray) (B : Nat) (w : World) (hv : RowIn shPack S w v xs) (hB : ∀ b, S b → b < w.heap.size) (hF : w.heap[B]? = some (.cells #[.string s] 9 (0, 0))) :
    Calls Tryz.prog 132 #[v, .func (.func 133) #[] #[.pointer (some ⟨B, 0, none⟩)]] w fun e w' => e = .returned (.int .i64 (findP xs s)) ∧ Below w.heap.size w w' := by
  obtain ⟨a, cap, rfl, hl, hc, ha⟩ := hv
  unfold maxLen at hl
  have hBlt := (Array.getElem?_eq_some_iff.1 hF).1
  obtain ⟨R, hR⟩ : ∃ R, R = findP xs s := ⟨_, rfl⟩
  rw [← hR]
  have HR : Hid (R = findP xs s) := hR
  clear hR
  go_enter Tryz.func132, Tryz.ntmps132
  go_wp2_with fail
  go_loopw [8] (fun vi wr => ∃ k : Nat, k ≤ xs.length ∧ vi = .int .i64 (k : Int) ∧ Hid (∀ j (hj : j < xs.length), j < k → ¬ xs[j].name = s) ∧ Below w.heap.size w wr) (fun vi _ => xs.length - (intOf vi).toNat)
  case atStart => exact ⟨0, Nat.zero_le _, rfl, (fun j hj h => by omega), Below.refl _ _⟩
  case round =>
    obtain ⟨k, hk, rfl, hno, hbr⟩ := hrel
    by_cases hlt' : k < xs.length
    · rcases ha with rfl | ⟨b, off, rfl, hlt, ha⟩
      · simp at hlt'
      obtain ⟨cs, hL, hcell⟩ := ha k hlt'
      have hL2 := shPack.keep (.of hbr hB) hL
      have hcell2 := hcell.keep (.of hbr hB) hlt
      have HT : Hid (xs[k].name = s → R = (k : Int)) := fun h => HR.out.trans (findP_here hlt' h hno.out)
      have HN : Hid (¬ xs[k].name = s → ∀ j (hj : j < xs.length), j < k + 1 → ¬ xs[j].name = s) := fun h j hj hjk => by
        by_cases e : j = k
        · subst e; exact h
        · exact hno.out j hj (by omega)
      obtain ⟨d, hd⟩ : ∃ d, d = xs[k] := ⟨_, rfl⟩
      rw [← hd] at hL2 HT HN
      have HC := findFn_c S d cs s B wr hL2 ((hbr.block B hBlt).trans hF)
      obtain ⟨u0, u1, u2, rfl, _, r0, _, r1, r2⟩ := hL2
      obtain ⟨a0, c0, eu0, _⟩ := id r0
      rw [length_strsV] at eu0
      subst eu0
      obtain ⟨a1, c1, rfl, _⟩ := id r1
      obtain ⟨a2, c2, rfl, _⟩ := id r2
      clear r0 r1 r2
      have e0 : wr.cell? ⟨b, off + k * 4, none⟩ = some (.string d.name) := hcell2 0 (by simp)
      have e1 : wr.cell? ⟨b, off + k * 4 + 1, none⟩ = some (.slice a0 d.uses.length c0) := hcell2 1 (by simp)
      have e2 : wr.cell? ⟨b, off + k * 4 + 2, none⟩ = some (.slice a1 d.needs.length c1) := hcell2 2 (by simp)
      have e3 : wr.cell? ⟨b, off + k * 4 + 3, none⟩ = some (.slice a2 d.cmds.length c2) := hcell2 3 (by simp)
      have hki : (k : Int) < (xs.length : Int) := by omega
      obtain ⟨r, hr⟩ : ∃ r, r = decide (d.name = s) := ⟨_, rfl⟩
      rw [← hr] at HC
      have HC2 := hidden HC
      clear ha hd hcell hcell2 hno HR HC hF hL
      by_cases hts : d.name = s
      · have hr2 : r = true := by rw [hr]; simpa using hts
        subst hr2
        have HT2 := hidden (HT.out hts)
        clear HT HN hts hr
        go_wp2_with (go_at_call 133; refine HC2.out.mono ?_; rintro e w1 ⟨rfl, b1⟩)
        go_ret
        exact ⟨by rw [HT2.out]; rfl, hbr.trans (b1.mono hbr.size)⟩
      · have hr2 : r = false := by rw [hr]; simpa using hts
        subst hr2
        have HN2 := hidden (HN.out hts)
        clear HT HN hts hr
        go_wp2_with (go_at_call 133; refine HC2.out.mono ?_; rintro e w1 ⟨rfl, b1⟩)
        go_roundw
        case rel => exact ⟨k + 1, by omega, by go_num, HN2.out, hbr.trans (b1.mono hbr.size)⟩
        case measure => simp [intOf]; omega
    · have he : k = xs.length := by omega
      subst he
      have HE : Hid (R = -1) := HR.out.trans (findP_none (fun j hj => hno.out j hj hj))
      clear ha hno HR hF
      go_wp2_with fail
      go_ret
      exact ⟨by rw [HE.out]; rfl, hbr⟩

set_option maxHeartbeats 1000000 in
set_option maxRecDepth 100000 in
theorem implFind_c (S : Nat → Prop) (v : Value) (xs : List PackD) (s : ByteArray) (w : World) (hv : RowIn shPack S w v xs) (hB : ∀ b, S b → b < w.heap.size) :
    Calls Tryz.prog 91 #[v, .string s] w fun e w' => e = .returned (.int .i64 (findP xs s)) ∧ Below w.heap.size w w' := by
  have kb : ∀ o, Below w.heap.size w (w.alloc o) := fun o => (Below.refl w.heap.size w).alloc (Nat.le_refl _) o
  have HF := hidden (findAt_c S v xs s w.heap.size (w.alloc (.cells #[.string s] 9)) (hv.keep (.of (kb _) hB)) (fun b h => Nat.lt_of_lt_of_le (hB b h) (kb (.cells #[.string s] 9)).size) (vheap_new _ _))
  obtain ⟨a, cap, rfl, _⟩ := hv
  go_enter Tryz.func91, Tryz.ntmps91
  go_wp2_with (go_at_call 132; refine HF.out.mono ?_; rintro e w1 ⟨rfl, b1⟩)
  go_ret
  exact ⟨rfl, (kb _).trans (b1.mono (kb _).size)⟩
end Go.Proofs.YtlnofdlhjeomfaaGreatDoor

/-! When needs, commands and packs are right, and rows of them, as the program and as the specification ask it: the same; pure facts, no condition. -/
namespace Go.Proofs.YtlnofdlhjeomfaaGreatDoor
open Go.RowKit
set_option linter.unusedSimpArgs false
set_option linter.unusedVariables false

def needB (d : NeedD) : Bool := nameB d.n && (decide (d.r.size ≤ 20) && (rangeI d.r).isSome)
def needsB (l : List NeedD) : Bool := rowB needB NeedD.n l && decide (l.length ≤ 4)
def cmdB (c : CmdD) : Bool := nameB c.t && (decide (1 ≤ c.acts.length ∧ c.acts.length ≤ 5) && c.acts.all fun a => plainAll a 40)
def cmdsB (l : List CmdD) : Bool := rowB cmdB CmdD.t l && decide (l.length ≤ 4)
def packB (p : PackD) : Bool := nameB p.name && (decide (p.uses.length ≤ 4) && (p.uses.all nameB && (ascB p.uses && (needsB p.needs && cmdsB p.cmds))))
def usesIn (l : List PackD) (p : PackD) : Bool := p.uses.all fun u => decide (0 ≤ findP l u) && !decide (u = p.name)
def packsB (l : List PackD) : Bool := rowB (fun p => packB p && usesIn l p) PackD.name l && decide (l.length ≤ 6)
def ownUse (p : PackD) : Bool := p.uses.any fun u => decide (p.name = u)
def usesI (p : PackD) : Bool := !(decide (4 < p.uses.length) || ownUse p) && (!(p.uses.any fun u => !nameB u) && ascB p.uses)
def needsI (l : List NeedD) : Bool := !(decide (4 < l.length) || l.any fun d => !needB d) && ascB (l.map NeedD.n)
def cmdsI (l : List CmdD) : Bool := !(decide (4 < l.length) || l.any fun d => !cmdB d) && ascB (l.map CmdD.t)
def packI (p : PackD) : Bool := nameB p.name && (usesI p && (needsI p.needs && cmdsI p.cmds))
def thereB (l : List PackD) (p : PackD) : Bool := p.uses.all fun u => decide (0 ≤ findP l u)
def packsI (l : List PackD) : Bool := !(decide (6 < l.length) || !ascB (l.map PackD.name)) && l.all fun p => packI p && thereB l p
theorem not_any_not {α : Type} (p : α → Bool) (xs : List α) : (!(xs.any fun x => !p x)) = xs.all p := by
  induction xs with
  | nil => rfl
  | cons x xs ih => simp only [List.any_cons, List.all_cons, Bool.not_or, Bool.not_not, ih]
theorem not_more (a b : Nat) : (!decide (a < b)) = decide (b ≤ a) := by
  by_cases h : a < b
  · rw [decide_eq_true h, decide_eq_false (by omega)]; rfl
  · rw [decide_eq_false h, decide_eq_true (by omega)]; rfl
theorem needs_alike (l : List NeedD) : needsI l = needsB l := by
  unfold needsI needsB
  rw [rowB_split, Bool.not_or, not_any_not, not_more]
  cases decide (l.length ≤ 4) <;> cases l.all needB <;> cases ascB (l.map NeedD.n) <;> rfl
theorem cmds_alike (l : List CmdD) : cmdsI l = cmdsB l := by
  unfold cmdsI cmdsB
  rw [rowB_split, Bool.not_or, not_any_not, not_more]
  cases decide (l.length ≤ 4) <;> cases l.all cmdB <;> cases ascB (l.map CmdD.t) <;> rfl
theorem pack_alike (p : PackD) : packI p = (packB p && !ownUse p) := by
  unfold packI usesI packB
  rw [needs_alike, cmds_alike, Bool.not_or, not_any_not, not_more]
  cases nameB p.name <;> cases decide (p.uses.length ≤ 4) <;> cases p.uses.all nameB <;> cases ascB p.uses <;> cases needsB p.needs <;> cases cmdsB p.cmds <;> cases ownUse p <;> rfl
theorem uses_alike (l : List PackD) (p : PackD) : (!ownUse p && thereB l p) = usesIn l p := by
  unfold ownUse thereB usesIn
  induction p.uses with
  | nil => rfl
  | cons u us ih =>
    simp only [List.any_cons, List.all_cons, Bool.not_or] at ih ⊢
    rw [← ih]
    have e : decide (u = p.name) = decide (p.name = u) := by
      by_cases h : u = p.name
      · rw [decide_eq_true h, decide_eq_true h.symm]
      · rw [decide_eq_false h, decide_eq_false (fun k => h k.symm)]
    rw [e]
    cases decide (p.name = u) <;> cases decide (0 ≤ findP l u) <;> cases (us.any fun u => decide (p.name = u)) <;> cases (us.all fun u => decide (0 ≤ findP l u)) <;> rfl
theorem packs_alike (l : List PackD) : packsI l = packsB l := by
  have e : (fun p => packI p && thereB l p) = fun p => packB p && usesIn l p := funext fun p => by
    rw [pack_alike, ← uses_alike l p]
    cases packB p <;> cases ownUse p <;> cases thereB l p <;> rfl
  unfold packsI packsB
  rw [rowB_split, e, Bool.not_or, not_more, Bool.not_not]
  cases decide (l.length ≤ 6) <;> cases ascB (l.map PackD.name) <;> cases (l.all fun p => packB p && usesIn l p) <;> rfl
end Go.Proofs.YtlnofdlhjeomfaaGreatDoor

/-! Rows of needs, commands and packs that ascend by a text of each, as the program asks it: contracts for the walks; conditions: the rows lie in memory. -/
namespace Go.Proofs.YtlnofdlhjeomfaaGreatDoor
open Go.RowKit
set_option linter.unusedSimpArgs false
set_option linter.unusedVariables false

set_option maxHeartbeats 1000000 in
set_option maxRecDepth 100000 in
theorem txtNeed_c (S : Nat → Prop) (d : NeedD) (cs : List Value) (w : World) (hd : shNeed.lies S w cs d) :
    Calls Tryz.prog 127 #[.agg cs.toArray] w fun e w' => e = .returned (.string d.n) ∧ Below w.heap.size w w' := by
  obtain ⟨rfl, s_n, s_r⟩ := hd
  have kb : ∀ o, Below w.heap.size w (w.alloc o) := fun o => (Below.refl w.heap.size w).alloc (Nat.le_refl _) o
  clear s_n
  go_enter Tryz.func127, Tryz.ntmps127
  go_wp2_with fail
  go_ret
  exact ⟨rfl, kb _⟩

set_option maxHeartbeats 8000000 in
set_option maxRecDepth 100000 in
theorem ascNeed_c (S : Nat → Prop) (v : Value) (xs : List NeedD) (w : World) (hv : RowIn shNeed S w v xs) (hB : ∀ b, S b → b < w.heap.size) :
    Calls Tryz.prog 126 #[v, .func (.func 127) #[] #[]] w fun e w' => e = .returned (.bool (ascB (xs.map NeedD.n))) ∧ Below w.heap.size w w' := by
  obtain ⟨a, cap, rfl, hl, hc, ha⟩ := hv
  unfold maxLen at hl
  obtain ⟨R, hR⟩ : ∃ R, R = ascB (xs.map NeedD.n) := ⟨_, rfl⟩
  rw [← hR]
  have HR := hidden hR
  clear hR
  go_enter Tryz.func126, Tryz.ntmps126
  go_wp2_with fail
  go_loopw [5] (fun vi wr => ∃ k : Nat, 1 ≤ k ∧ (k ≤ xs.length ∨ k = 1) ∧ vi = .int .i64 (k : Int) ∧ Hid (rowUpto (fun _ => true) id (xs.map NeedD.n) k = true) ∧ Below w.heap.size w wr) (fun vi _ => xs.length - (intOf vi).toNat)
  case atStart => exact ⟨1, Nat.le_refl _, .inr rfl, rfl, asc_one _, Below.refl _ _⟩
  case round =>
    obtain ⟨k, hk1, hk, rfl, hh, hbr⟩ := hrel
    by_cases hlt' : k < xs.length
    · rcases ha with rfl | ⟨b, off, rfl, hlt, ha⟩
      · simp at hlt'
      obtain ⟨j, rfl⟩ : ∃ j, k = j + 1 := ⟨k - 1, by omega⟩
      have hj' : j < xs.length := by omega
      obtain ⟨ycs, yL, hcelly⟩ := ha j hj'
      obtain ⟨xcs, xL, hcellx⟩ := ha (j + 1) hlt'
      have hbb : b < wr.heap.size := Nat.lt_of_lt_of_le (hB b hlt) hbr.size
      replace hcelly := hcelly.keep (.of hbr hB) hlt
      replace hcellx := hcellx.keep (.of hbr hB) hlt
      have HC1 : Hid (∀ w1, Below wr.heap.size wr w1 → Calls Tryz.prog 127 #[.agg ycs.toArray] w1 fun e w' => e = .returned (.string xs[j].n) ∧ Below w1.heap.size w1 w') := fun w1 h => txtNeed_c S xs[j] ycs w1 (shNeed.keep (.of (hbr.trans (h.mono hbr.size)) hB) yL)
      have HC2 : Hid (∀ w1, Below wr.heap.size wr w1 → Calls Tryz.prog 127 #[.agg xcs.toArray] w1 fun e w' => e = .returned (.string xs[j + 1].n) ∧ Below w1.heap.size w1 w') := fun w1 h => txtNeed_c S xs[j + 1] xcs w1 (shNeed.keep (.of (hbr.trans (h.mono hbr.size)) hB) xL)
      have hpre : preX (xs.map NeedD.n) (j + 1) = some xs[j].n := by simp [preX, hj']
      have hat : (xs.map NeedD.n)[j + 1]'(by simpa using hlt') = xs[j + 1].n := by simp
      have HBD : Hid (Op.bytesLess xs[j].n.toList xs[j + 1].n.toList = false → R = false) := fun h => HR.out.trans (rowUpto_bad (by simpa using hlt') (by rw [hpre, hat]; exact rowOk_less h) _ (by simpa using hlt'))
      have HGD : Hid (Op.bytesLess xs[j].n.toList xs[j + 1].n.toList = true → rowUpto (fun _ => true) id (xs.map NeedD.n) (j + 1 + 1) = true) := fun h => rowUpto_step (by simpa using hlt') hh.out (by rw [hpre, hat, rowOk_some rfl]; exact h)
      obtain ⟨c, hc0⟩ : ∃ c, c = xs[j] := ⟨_, rfl⟩
      obtain ⟨d, hd0'⟩ : ∃ d, d = xs[j + 1] := ⟨_, rfl⟩
      rw [← hc0] at yL HC1 HBD HGD
      rw [← hd0'] at xL HC2 HBD HGD
      clear ha hpre hat hc0 hd0' hh
      obtain ⟨rfl, ys_n, ys_r⟩ := yL
      obtain ⟨rfl, xs_n, xs_r⟩ := xL
      have yv0 : wr.cell? ⟨b, off + j * 2, none⟩ = some (.string c.n) := hcelly 0 (by simp)
      have yv1 : wr.cell? ⟨b, off + j * 2 + 1, none⟩ = some (.string c.r) := hcelly 1 (by simp)
      have xv0 : wr.cell? ⟨b, off + (j + 1) * 2, none⟩ = some (.string d.n) := hcellx 0 (by simp)
      have xv1 : wr.cell? ⟨b, off + (j + 1) * 2 + 1, none⟩ = some (.string d.r) := hcellx 1 (by simp)
      have hj0 : (0 : Int) ≤ (j : Int) + 1 := by omega
      have hj2 : (j : Int) + 1 < (xs.length : Int) := by omega
      have hj3 : (j : Int) < (xs.length : Int) := by omega
      have hjw : IntKind.i64.wrap (j : Int) = (j : Int) := IntWalk.i64_in _ ⟨by omega, by omega⟩
      have hd0 : Below wr.heap.size wr wr.drew := (Below.refl _ _).drew
      have KEEP : Hid (∀ w1, Below wr.heap.size wr w1 → w1.cell? ⟨b, off + j * 2, none⟩ = some (.string c.n) ∧ w1.cell? ⟨b, off + j * 2 + 1, none⟩ = some (.string c.r) ∧ w1.cell? ⟨b, off + (j + 1) * 2, none⟩ = some (.string d.n) ∧ w1.cell? ⟨b, off + (j + 1) * 2 + 1, none⟩ = some (.string d.r)) := fun w1 h => ⟨(h.cell (by simpa using hbb)).trans yv0, (h.cell (by simpa using hbb)).trans yv1, (h.cell (by simpa using hbb)).trans xv0, (h.cell (by simpa using hbb)).trans xv1⟩
      clear hcelly hcellx yv0 yv1 xv0 xv1
      go_wp2_with fail
      refine wp_region_held_drew (S := (fun w' => w'.cell? ⟨b, off + j * 2, none⟩ = some (.string c.n) ∧ w'.cell? ⟨b, off + j * 2 + 1, none⟩ = some (.string c.r) ∧ w'.cell? ⟨b, off + (j + 1) * 2, none⟩ = some (.string d.n) ∧ w'.cell? ⟨b, off + (j + 1) * 2 + 1, none⟩ = some (.string d.r))) (by kernel_rfl) ?SR10 (fun hHeld => ?_)
      case SR10 => (first | (with_reducible exact KEEP.out _ hd2) | (with_reducible exact KEEP.out _ hd1) | (with_reducible exact KEEP.out _ hd0))
      refine wpAnyH_take (i := 0) (oi := _) (v := ?vR10) rfl (by kernel_rfl) (by kernel_rfl) (by kernel_rfl) (fun _ _ _ h => h) (Or.inl ⟨by rfl, ?yR10⟩) hHeld ?_
      case yR10 => (intro w hSw; (try dsimp only at hSw); go_simp <;> with_reducible rfl)
      try simp only [Act.put, List.getElem_toArray, List.getElem_cons_zero, List.getElem_cons_succ, List.setIfInBounds_toArray, List.set_cons_zero, List.set_cons_succ]
      refine wpAnyH_take (i := 1) (oi := _) (v := ?vR11) rfl (by kernel_rfl) (by kernel_rfl) (by kernel_rfl) (fun _ _ _ h => h) (Or.inl ⟨by rfl, ?yR11⟩) hHeld ?_
      case yR11 => (intro w hSw; (try dsimp only at hSw); go_simp <;> with_reducible rfl)
      try simp only [Act.put, List.getElem_toArray, List.getElem_cons_zero, List.getElem_cons_succ, List.setIfInBounds_toArray, List.set_cons_zero, List.set_cons_succ]
      refine wpAnyH_take (i := 2) (oi := _) (v := ?vR12) rfl (by kernel_rfl) (by kernel_rfl) (by kernel_rfl) (fun _ _ _ h => h) (Or.inl ⟨by rfl, ?yR12⟩) hHeld ?_
      case yR12 => (intro w hSw; (try dsimp only at hSw); go_simp <;> with_reducible rfl)
      try simp only [Act.put, List.getElem_toArray, List.getElem_cons_zero, List.getElem_cons_succ, List.setIfInBounds_toArray, List.set_cons_zero, List.set_cons_succ]
      refine wpAnyH_take (i := 3) (oi := _) (v := ?vR13) rfl (by kernel_rfl) (by kernel_rfl) (by kernel_rfl) (fun _ _ _ h => h) (Or.inl ⟨by rfl, ?yR13⟩) hHeld ?_
      case yR13 => (intro w hSw; (try dsimp only at hSw); go_simp <;> with_reducible rfl)
      try simp only [Act.put, List.getElem_toArray, List.getElem_cons_zero, List.getElem_cons_succ, List.setIfInBounds_toArray, List.set_cons_zero, List.set_cons_succ]
      refine wpAnyH_take (i := 4) (oi := _) (v := ?vR14) rfl (by kernel_rfl) (by kernel_rfl) (by kernel_rfl) (fun _ _ _ h => h) (Or.inl ⟨by rfl, ?yR14⟩) hHeld ?_
      case yR14 => (intro w hSw; (try dsimp only at hSw); go_simp <;> with_reducible rfl)
      try simp only [Act.put, List.getElem_toArray, List.getElem_cons_zero, List.getElem_cons_succ, List.setIfInBounds_toArray, List.set_cons_zero, List.set_cons_succ]
      refine wpAnyH_take (i := 5) (oi := _) (v := ?vR15) rfl (by kernel_rfl) (by kernel_rfl) (by kernel_rfl) (fun _ _ _ h => h) (Or.inl ⟨by rfl, ?yR15⟩) hHeld ?_
      case yR15 => (intro w hSw; (try dsimp only at hSw); go_simp <;> with_reducible rfl)
      try simp only [Act.put, List.getElem_toArray, List.getElem_cons_zero, List.getElem_cons_succ, List.setIfInBounds_toArray, List.set_cons_zero, List.set_cons_succ]
      refine wpAnyH_take (i := 7) (oi := _) (v := ?vR16) rfl (by kernel_rfl) (by kernel_rfl) (by kernel_rfl) (fun _ _ _ h => h) (Or.inl ⟨by rfl, ?yR16⟩) hHeld ?_
      case yR16 => (intro w hSw; (try dsimp only at hSw); go_simp <;> with_reducible rfl)
      try simp only [Act.put, List.getElem_toArray, List.getElem_cons_zero, List.getElem_cons_succ, List.setIfInBounds_toArray, List.set_cons_zero, List.set_cons_succ]
      refine wpAnyH_take (i := 8) (oi := _) (v := ?vR17) rfl (by kernel_rfl) (by kernel_rfl) (by kernel_rfl) (fun _ _ _ h => h) (Or.inl ⟨by rfl, ?yR17⟩) hHeld ?_
      case yR17 => (intro w hSw; (try dsimp only at hSw); go_simp <;> with_reducible rfl)
      try simp only [Act.put, List.getElem_toArray, List.getElem_cons_zero, List.getElem_cons_succ, List.setIfInBounds_toArray, List.set_cons_zero, List.set_cons_succ]
      refine wpAnyH_take (i := 9) (oi := _) (v := ?vR18) rfl (by kernel_rfl) (by kernel_rfl) (by kernel_rfl) (fun _ _ _ h => h) (Or.inl ⟨by rfl, ?yR18⟩) hHeld ?_
      case yR18 => (intro w hSw; (try dsimp only at hSw); go_simp <;> with_reducible rfl)
      try simp only [Act.put, List.getElem_toArray, List.getElem_cons_zero, List.getElem_cons_succ, List.setIfInBounds_toArray, List.set_cons_zero, List.set_cons_succ]
      refine wpAnyH_take (i := 10) (oi := _) (v := ?vR19) rfl (by kernel_rfl) (by kernel_rfl) (by kernel_rfl) (fun _ _ _ h => h) (Or.inl ⟨by rfl, ?yR19⟩) hHeld ?_
      case yR19 => (intro w hSw; (try dsimp only at hSw); go_simp <;> with_reducible rfl)
      try simp only [Act.put, List.getElem_toArray, List.getElem_cons_zero, List.getElem_cons_succ, List.setIfInBounds_toArray, List.set_cons_zero, List.set_cons_succ]
      refine wpAnyH_take (i := 11) (oi := _) (v := ?vR110) rfl (by kernel_rfl) (by kernel_rfl) (by kernel_rfl) (fun _ _ _ h => h) (Or.inl ⟨by rfl, ?yR110⟩) hHeld ?_
      case yR110 => (intro w hSw; (try dsimp only at hSw); go_simp <;> with_reducible rfl)
      try simp only [Act.put, List.getElem_toArray, List.getElem_cons_zero, List.getElem_cons_succ, List.setIfInBounds_toArray, List.set_cons_zero, List.set_cons_succ]
      refine wpAnyH_ready (rs := [6]) (by kernel_rfl) (by simp) ?_
      refine AllReadyH.cons rfl (fun K hK => ?_) AllReadyH.nil
      go_simp
      go_wp2_with (go_at_call 127; refine (HC1.out _ (by first | exact hd0 | exact hd1)).mono ?_; rintro e w1 ⟨rfl, b1⟩; have hd1 : Below wr.heap.size wr w1 := hd0.trans (b1.mono hd0.size))
      clear hHeld
      refine hK.out _ _ ?SR112 (fun hHeld => ?_)
      case SR112 => ((try dsimp only); first | (with_reducible exact KEEP.out _ hd2) | (with_reducible exact KEEP.out _ hd1) | (with_reducible exact KEEP.out _ hd0))
      clear hK K
      refine wpAnyH_ready (rs := [12]) (by kernel_rfl) (by simp) ?_
      refine AllReadyH.cons rfl (fun K hK => ?_) AllReadyH.nil
      go_simp
      go_wp2_with (go_at_call 127; refine (HC2.out _ hd1).mono ?_; rintro e w2 ⟨rfl, b2⟩; have hd2 : Below wr.heap.size wr w2 := hd1.trans (b2.mono hd1.size))
      clear hHeld
      refine hK.out _ _ ?SR113 (fun hHeld => ?_)
      case SR113 => ((try dsimp only); first | (with_reducible exact KEEP.out _ hd2) | (with_reducible exact KEEP.out _ hd1) | (with_reducible exact KEEP.out _ hd0))
      clear hK K
      refine wpAnyH_take (i := 13) (oi := _) (v := ?vR113) rfl (by kernel_rfl) (by kernel_rfl) (by kernel_rfl) (fun _ _ _ h => h) (Or.inl ⟨by rfl, ?yR113⟩) hHeld ?_
      case yR113 => (intro w hSw; (try dsimp only at hSw); go_simp <;> with_reducible rfl)
      try simp only [Act.put, List.getElem_toArray, List.getElem_cons_zero, List.getElem_cons_succ, List.setIfInBounds_toArray, List.set_cons_zero, List.set_cons_succ]
      refine wpAnyH_done (by kernel_rfl) ?_ _
      go_wp2_with fail
      · have hlx : (!Op.bytesLess c.n.toList d.n.toList) = true := by assumption
        go_ret
        exact ⟨by rw [HBD.out (by simpa using hlx)]; rfl, hbr.trans (hd2.mono hbr.size)⟩
      · have hlx : (!Op.bytesLess c.n.toList d.n.toList) = false := by assumption
        go_roundw
        case rel => exact ⟨j + 1 + 1, by omega, .inl (by omega), by go_num, HGD.out (by simpa using hlx), hbr.trans (hd2.mono hbr.size)⟩
        case measure => simp [intOf]; omega
    · have HE : Hid (R = true) := HR.out.trans (asc_end hk1 (by simpa using hlt') (by simpa using hk) hh.out)
      clear ha hh
      go_wp2_with fail
      go_ret
      exact ⟨by rw [HE.out]; rfl, hbr⟩

set_option maxHeartbeats 1000000 in
set_option maxRecDepth 100000 in
theorem txtCmd_c (S : Nat → Prop) (d : CmdD) (cs : List Value) (w : World) (hd : shCmd.lies S w cs d) :
    Calls Tryz.prog 131 #[.agg cs.toArray] w fun e w' => e = .returned (.string d.t) ∧ Below w.heap.size w w' := by
  obtain ⟨u0, rfl, s_t, r0, p0⟩ := hd
  obtain ⟨a0, c0, e0, _⟩ := id r0
  rw [length_strsV] at e0
  subst e0
  have kb : ∀ o, Below w.heap.size w (w.alloc o) := fun o => (Below.refl w.heap.size w).alloc (Nat.le_refl _) o
  clear r0
  go_enter Tryz.func131, Tryz.ntmps131
  go_wp2_with fail
  go_ret
  exact ⟨rfl, kb _⟩

set_option maxHeartbeats 8000000 in
set_option maxRecDepth 100000 in
theorem ascCmd_c (S : Nat → Prop) (v : Value) (xs : List CmdD) (w : World) (hv : RowIn shCmd S w v xs) (hB : ∀ b, S b → b < w.heap.size) :
    Calls Tryz.prog 130 #[v, .func (.func 131) #[] #[]] w fun e w' => e = .returned (.bool (ascB (xs.map CmdD.t))) ∧ Below w.heap.size w w' := by
  obtain ⟨a, cap, rfl, hl, hc, ha⟩ := hv
  unfold maxLen at hl
  obtain ⟨R, hR⟩ : ∃ R, R = ascB (xs.map CmdD.t) := ⟨_, rfl⟩
  rw [← hR]
  have HR := hidden hR
  clear hR
  go_enter Tryz.func130, Tryz.ntmps130
  go_wp2_with fail
  go_loopw [5] (fun vi wr => ∃ k : Nat, 1 ≤ k ∧ (k ≤ xs.length ∨ k = 1) ∧ vi = .int .i64 (k : Int) ∧ Hid (rowUpto (fun _ => true) id (xs.map CmdD.t) k = true) ∧ Below w.heap.size w wr) (fun vi _ => xs.length - (intOf vi).toNat)
  case atStart => exact ⟨1, Nat.le_refl _, .inr rfl, rfl, asc_one _, Below.refl _ _⟩
  case round =>
    obtain ⟨k, hk1, hk, rfl, hh, hbr⟩ := hrel
    by_cases hlt' : k < xs.length
    · rcases ha with rfl | ⟨b, off, rfl, hlt, ha⟩
      · simp at hlt'
      obtain ⟨j, rfl⟩ : ∃ j, k = j + 1 := ⟨k - 1, by omega⟩
      have hj' : j < xs.length := by omega
      obtain ⟨ycs, yL, hcelly⟩ := ha j hj'
      obtain ⟨xcs, xL, hcellx⟩ := ha (j + 1) hlt'
      have hbb : b < wr.heap.size := Nat.lt_of_lt_of_le (hB b hlt) hbr.size
      replace hcelly := hcelly.keep (.of hbr hB) hlt
      replace hcellx := hcellx.keep (.of hbr hB) hlt
      have HC1 : Hid (∀ w1, Below wr.heap.size wr w1 → Calls Tryz.prog 131 #[.agg ycs.toArray] w1 fun e w' => e = .returned (.string xs[j].t) ∧ Below w1.heap.size w1 w') := fun w1 h => txtCmd_c S xs[j] ycs w1 (shCmd.keep (.of (hbr.trans (h.mono hbr.size)) hB) yL)
      have HC2 : Hid (∀ w1, Below wr.heap.size wr w1 → Calls Tryz.prog 131 #[.agg xcs.toArray] w1 fun e w' => e = .returned (.string xs[j + 1].t) ∧ Below w1.heap.size w1 w') := fun w1 h => txtCmd_c S xs[j + 1] xcs w1 (shCmd.keep (.of (hbr.trans (h.mono hbr.size)) hB) xL)
      have hpre : preX (xs.map CmdD.t) (j + 1) = some xs[j].t := by simp [preX, hj']
      have hat : (xs.map CmdD.t)[j + 1]'(by simpa using hlt') = xs[j + 1].t := by simp
      have HBD : Hid (Op.bytesLess xs[j].t.toList xs[j + 1].t.toList = false → R = false) := fun h => HR.out.trans (rowUpto_bad (by simpa using hlt') (by rw [hpre, hat]; exact rowOk_less h) _ (by simpa using hlt'))
      have HGD : Hid (Op.bytesLess xs[j].t.toList xs[j + 1].t.toList = true → rowUpto (fun _ => true) id (xs.map CmdD.t) (j + 1 + 1) = true) := fun h => rowUpto_step (by simpa using hlt') hh.out (by rw [hpre, hat, rowOk_some rfl]; exact h)
      obtain ⟨c, hc0⟩ : ∃ c, c = xs[j] := ⟨_, rfl⟩
      obtain ⟨d, hd0'⟩ : ∃ d, d = xs[j + 1] := ⟨_, rfl⟩
      rw [← hc0] at yL HC1 HBD HGD
      rw [← hd0'] at xL HC2 HBD HGD
      clear ha hpre hat hc0 hd0' hh
      obtain ⟨yu0, rfl, ys_t, yr0, yp0⟩ := yL
      obtain ⟨ya0, yc0, ye0, _⟩ := id yr0
      rw [length_strsV] at ye0
      subst ye0
      obtain ⟨xu0, rfl, xs_t, xr0, xp0⟩ := xL
      obtain ⟨xa0, xc0, xe0, _⟩ := id xr0
      rw [length_strsV] at xe0
      subst xe0
      have yv0 : wr.cell? ⟨b, off + j * 2, none⟩ = some (.string c.t) := hcelly 0 (by simp)
      have yv1 : wr.cell? ⟨b, off + j * 2 + 1, none⟩ = some (.slice ya0 c.acts.length yc0) := hcelly 1 (by simp)
      have xv0 : wr.cell? ⟨b, off + (j + 1) * 2, none⟩ = some (.string d.t) := hcellx 0 (by simp)
      have xv1 : wr.cell? ⟨b, off + (j + 1) * 2 + 1, none⟩ = some (.slice xa0 d.acts.length xc0) := hcellx 1 (by simp)
      have hj0 : (0 : Int) ≤ (j : Int) + 1 := by omega
      have hj2 : (j : Int) + 1 < (xs.length : Int) := by omega
      have hj3 : (j : Int) < (xs.length : Int) := by omega
      have hjw : IntKind.i64.wrap (j : Int) = (j : Int) := IntWalk.i64_in _ ⟨by omega, by omega⟩
      have hd0 : Below wr.heap.size wr wr.drew := (Below.refl _ _).drew
      have KEEP : Hid (∀ w1, Below wr.heap.size wr w1 → w1.cell? ⟨b, off + j * 2, none⟩ = some (.string c.t) ∧ w1.cell? ⟨b, off + j * 2 + 1, none⟩ = some (.slice ya0 c.acts.length yc0) ∧ w1.cell? ⟨b, off + (j + 1) * 2, none⟩ = some (.string d.t) ∧ w1.cell? ⟨b, off + (j + 1) * 2 + 1, none⟩ = some (.slice xa0 d.acts.length xc0)) := fun w1 h => ⟨(h.cell (by simpa using hbb)).trans yv0, (h.cell (by simpa using hbb)).trans yv1, (h.cell (by simpa using hbb)).trans xv0, (h.cell (by simpa using hbb)).trans xv1⟩
      clear hcelly hcellx yv0 yv1 xv0 xv1 yr0 xr0
      go_wp2_with fail
      refine wp_region_held_drew (S := (fun w' => w'.cell? ⟨b, off + j * 2, none⟩ = some (.string c.t) ∧ w'.cell? ⟨b, off + j * 2 + 1, none⟩ = some (.slice ya0 c.acts.length yc0) ∧ w'.cell? ⟨b, off + (j + 1) * 2, none⟩ = some (.string d.t) ∧ w'.cell? ⟨b, off + (j + 1) * 2 + 1, none⟩ = some (.slice xa0 d.acts.length xc0))) (by kernel_rfl) ?SR20 (fun hHeld => ?_)
      case SR20 => (first | (with_reducible exact KEEP.out _ hd2) | (with_reducible exact KEEP.out _ hd1) | (with_reducible exact KEEP.out _ hd0))
      refine wpAnyH_take (i := 0) (oi := _) (v := ?vR20) rfl (by kernel_rfl) (by kernel_rfl) (by kernel_rfl) (fun _ _ _ h => h) (Or.inl ⟨by rfl, ?yR20⟩) hHeld ?_
      case yR20 => (intro w hSw; (try dsimp only at hSw); go_simp <;> with_reducible rfl)
      try simp only [Act.put, List.getElem_toArray, List.getElem_cons_zero, List.getElem_cons_succ, List.setIfInBounds_toArray, List.set_cons_zero, List.set_cons_succ]
      refine wpAnyH_take (i := 1) (oi := _) (v := ?vR21) rfl (by kernel_rfl) (by kernel_rfl) (by kernel_rfl) (fun _ _ _ h => h) (Or.inl ⟨by rfl, ?yR21⟩) hHeld ?_
      case yR21 => (intro w hSw; (try dsimp only at hSw); go_simp <;> with_reducible rfl)
      try simp only [Act.put, List.getElem_toArray, List.getElem_cons_zero, List.getElem_cons_succ, List.setIfInBounds_toArray, List.set_cons_zero, List.set_cons_succ]
      refine wpAnyH_take (i := 2) (oi := _) (v := ?vR22) rfl (by kernel_rfl) (by kernel_rfl) (by kernel_rfl) (fun _ _ _ h => h) (Or.inl ⟨by rfl, ?yR22⟩) hHeld ?_
      case yR22 => (intro w hSw; (try dsimp only at hSw); go_simp <;> with_reducible rfl)
      try simp only [Act.put, List.getElem_toArray, List.getElem_cons_zero, List.getElem_cons_succ, List.setIfInBounds_toArray, List.set_cons_zero, List.set_cons_succ]
      refine wpAnyH_take (i := 3) (oi := _) (v := ?vR23) rfl (by kernel_rfl) (by kernel_rfl) (by kernel_rfl) (fun _ _ _ h => h) (Or.inl ⟨by rfl, ?yR23⟩) hHeld ?_
      case yR23 => (intro w hSw; (try dsimp only at hSw); go_simp <;> with_reducible rfl)
      try simp only [Act.put, List.getElem_toArray, List.getElem_cons_zero, List.getElem_cons_succ, List.setIfInBounds_toArray, List.set_cons_zero, List.set_cons_succ]
      refine wpAnyH_take (i := 4) (oi := _) (v := ?vR24) rfl (by kernel_rfl) (by kernel_rfl) (by kernel_rfl) (fun _ _ _ h => h) (Or.inl ⟨by rfl, ?yR24⟩) hHeld ?_
      case yR24 => (intro w hSw; (try dsimp only at hSw); go_simp <;> with_reducible rfl)
      try simp only [Act.put, List.getElem_toArray, List.getElem_cons_zero, List.getElem_cons_succ, List.setIfInBounds_toArray, List.set_cons_zero, List.set_cons_succ]
      refine wpAnyH_take (i := 5) (oi := _) (v := ?vR25) rfl (by kernel_rfl) (by kernel_rfl) (by kernel_rfl) (fun _ _ _ h => h) (Or.inl ⟨by rfl, ?yR25⟩) hHeld ?_
      case yR25 => (intro w hSw; (try dsimp only at hSw); go_simp <;> with_reducible rfl)
      try simp only [Act.put, List.getElem_toArray, List.getElem_cons_zero, List.getElem_cons_succ, List.setIfInBounds_toArray, List.set_cons_zero, List.set_cons_succ]
      refine wpAnyH_take (i := 7) (oi := _) (v := ?vR26) rfl (by kernel_rfl) (by kernel_rfl) (by kernel_rfl) (fun _ _ _ h => h) (Or.inl ⟨by rfl, ?yR26⟩) hHeld ?_
      case yR26 => (intro w hSw; (try dsimp only at hSw); go_simp <;> with_reducible rfl)
      try simp only [Act.put, List.getElem_toArray, List.getElem_cons_zero, List.getElem_cons_succ, List.setIfInBounds_toArray, List.set_cons_zero, List.set_cons_succ]
      refine wpAnyH_take (i := 8) (oi := _) (v := ?vR27) rfl (by kernel_rfl) (by kernel_rfl) (by kernel_rfl) (fun _ _ _ h => h) (Or.inl ⟨by rfl, ?yR27⟩) hHeld ?_
      case yR27 => (intro w hSw; (try dsimp only at hSw); go_simp <;> with_reducible rfl)
      try simp only [Act.put, List.getElem_toArray, List.getElem_cons_zero, List.getElem_cons_succ, List.setIfInBounds_toArray, List.set_cons_zero, List.set_cons_succ]
      refine wpAnyH_take (i := 9) (oi := _) (v := ?vR28) rfl (by kernel_rfl) (by kernel_rfl) (by kernel_rfl) (fun _ _ _ h => h) (Or.inl ⟨by rfl, ?yR28⟩) hHeld ?_
      case yR28 => (intro w hSw; (try dsimp only at hSw); go_simp <;> with_reducible rfl)
      try simp only [Act.put, List.getElem_toArray, List.getElem_cons_zero, List.getElem_cons_succ, List.setIfInBounds_toArray, List.set_cons_zero, List.set_cons_succ]
      refine wpAnyH_take (i := 10) (oi := _) (v := ?vR29) rfl (by kernel_rfl) (by kernel_rfl) (by kernel_rfl) (fun _ _ _ h => h) (Or.inl ⟨by rfl, ?yR29⟩) hHeld ?_
      case yR29 => (intro w hSw; (try dsimp only at hSw); go_simp <;> with_reducible rfl)
      try simp only [Act.put, List.getElem_toArray, List.getElem_cons_zero, List.getElem_cons_succ, List.setIfInBounds_toArray, List.set_cons_zero, List.set_cons_succ]
      refine wpAnyH_take (i := 11) (oi := _) (v := ?vR210) rfl (by kernel_rfl) (by kernel_rfl) (by kernel_rfl) (fun _ _ _ h => h) (Or.inl ⟨by rfl, ?yR210⟩) hHeld ?_
      case yR210 => (intro w hSw; (try dsimp only at hSw); go_simp <;> with_reducible rfl)
      try simp only [Act.put, List.getElem_toArray, List.getElem_cons_zero, List.getElem_cons_succ, List.setIfInBounds_toArray, List.set_cons_zero, List.set_cons_succ]
      refine wpAnyH_ready (rs := [6]) (by kernel_rfl) (by simp) ?_
      refine AllReadyH.cons rfl (fun K hK => ?_) AllReadyH.nil
      go_simp
      go_wp2_with (go_at_call 131; refine (HC1.out _ (by first | exact hd0 | exact hd1)).mono ?_; rintro e w1 ⟨rfl, b1⟩; have hd1 : Below wr.heap.size wr w1 := hd0.trans (b1.mono hd0.size))
      clear hHeld
      refine hK.out _ _ ?SR212 (fun hHeld => ?_)
      case SR212 => ((try dsimp only); first | (with_reducible exact KEEP.out _ hd2) | (with_reducible exact KEEP.out _ hd1) | (with_reducible exact KEEP.out _ hd0))
      clear hK K
      refine wpAnyH_ready (rs := [12]) (by kernel_rfl) (by simp) ?_
      refine AllReadyH.cons rfl (fun K hK => ?_) AllReadyH.nil
      go_simp
      go_wp2_with (go_at_call 131; refine (HC2.out _ hd1).mono ?_; rintro e w2 ⟨rfl, b2⟩; have hd2 : Below wr.heap.size wr w2 := hd1.trans (b2.mono hd1.size))
      clear hHeld
      refine hK.out _ _ ?SR213 (fun hHeld => ?_)
      case SR213 => ((try dsimp only); first | (with_reducible exact KEEP.out _ hd2) | (with_reducible exact KEEP.out _ hd1) | (with_reducible exact KEEP.out _ hd0))
      clear hK K
      refine wpAnyH_take (i := 13) (oi := _) (v := ?vR213) rfl (by kernel_rfl) (by kernel_rfl) (by kernel_rfl) (fun _ _ _ h => h) (Or.inl ⟨by rfl, ?yR213⟩) hHeld ?_
      case yR213 => (intro w hSw; (try dsimp only at hSw); go_simp <;> with_reducible rfl)
      try simp only [Act.put, List.getElem_toArray, List.getElem_cons_zero, List.getElem_cons_succ, List.setIfInBounds_toArray, List.set_cons_zero, List.set_cons_succ]
      refine wpAnyH_done (by kernel_rfl) ?_ _
      go_wp2_with fail
      · have hlx : (!Op.bytesLess c.t.toList d.t.toList) = true := by assumption
        go_ret
        exact ⟨by rw [HBD.out (by simpa using hlx)]; rfl, hbr.trans (hd2.mono hbr.size)⟩
      · have hlx : (!Op.bytesLess c.t.toList d.t.toList) = false := by assumption
        go_roundw
        case rel => exact ⟨j + 1 + 1, by omega, .inl (by omega), by go_num, HGD.out (by simpa using hlx), hbr.trans (hd2.mono hbr.size)⟩
        case measure => simp [intOf]; omega
    · have HE : Hid (R = true) := HR.out.trans (asc_end hk1 (by simpa using hlt') (by simpa using hk) hh.out)
      clear ha hh
      go_wp2_with fail
      go_ret
      exact ⟨by rw [HE.out]; rfl, hbr⟩

set_option maxHeartbeats 1000000 in
set_option maxRecDepth 100000 in
theorem txtPack_c (S : Nat → Prop) (d : PackD) (cs : List Value) (w : World) (hd : shPack.lies S w cs d) :
    Calls Tryz.prog 53 #[.agg cs.toArray] w fun e w' => e = .returned (.string d.name) ∧ Below w.heap.size w w' := by
  obtain ⟨u0, u1, u2, rfl, s_name, r0, p0, r1, r2⟩ := hd
  obtain ⟨a0, c0, e0, _⟩ := id r0
  rw [length_strsV] at e0
  subst e0
  obtain ⟨a1, c1, e1, _⟩ := id r1
  subst e1
  obtain ⟨a2, c2, e2, _⟩ := id r2
  subst e2
  have kb : ∀ o, Below w.heap.size w (w.alloc o) := fun o => (Below.refl w.heap.size w).alloc (Nat.le_refl _) o
  clear r0 r1 r2
  go_enter Tryz.func53, Tryz.ntmps53
  go_wp2_with fail
  go_ret
  exact ⟨rfl, kb _⟩

set_option maxHeartbeats 8000000 in
set_option maxRecDepth 100000 in
theorem ascPack_c (S : Nat → Prop) (v : Value) (xs : List PackD) (w : World) (hv : RowIn shPack S w v xs) (hB : ∀ b, S b → b < w.heap.size) :
    Calls Tryz.prog 52 #[v, .func (.func 53) #[] #[]] w fun e w' => e = .returned (.bool (ascB (xs.map PackD.name))) ∧ Below w.heap.size w w' := by
  obtain ⟨a, cap, rfl, hl, hc, ha⟩ := hv
  unfold maxLen at hl
  obtain ⟨R, hR⟩ : ∃ R, R = ascB (xs.map PackD.name) := ⟨_, rfl⟩
  rw [← hR]
  have HR := hidden hR
  clear hR
  go_enter Tryz.func52, Tryz.ntmps52
  go_wp2_with fail
  go_loopw [5] (fun vi wr => ∃ k : Nat, 1 ≤ k ∧ (k ≤ xs.length ∨ k = 1) ∧ vi = .int .i64 (k : Int) ∧ Hid (rowUpto (fun _ => true) id (xs.map PackD.name) k = true) ∧ Below w.heap.size w wr) (fun vi _ => xs.length - (intOf vi).toNat)
  case atStart => exact ⟨1, Nat.le_refl _, .inr rfl, rfl, asc_one _, Below.refl _ _⟩
  case round =>
    obtain ⟨k, hk1, hk, rfl, hh, hbr⟩ := hrel
    by_cases hlt' : k < xs.length
    · rcases ha with rfl | ⟨b, off, rfl, hlt, ha⟩
      · simp at hlt'
      obtain ⟨j, rfl⟩ : ∃ j, k = j + 1 := ⟨k - 1, by omega⟩
      have hj' : j < xs.length := by omega
      obtain ⟨ycs, yL, hcelly⟩ := ha j hj'
      obtain ⟨xcs, xL, hcellx⟩ := ha (j + 1) hlt'
      have hbb : b < wr.heap.size := Nat.lt_of_lt_of_le (hB b hlt) hbr.size
      replace hcelly := hcelly.keep (.of hbr hB) hlt
      replace hcellx := hcellx.keep (.of hbr hB) hlt
      have HC1 : Hid (∀ w1, Below wr.heap.size wr w1 → Calls Tryz.prog 53 #[.agg ycs.toArray] w1 fun e w' => e = .returned (.string xs[j].name) ∧ Below w1.heap.size w1 w') := fun w1 h => txtPack_c S xs[j] ycs w1 (shPack.keep (.of (hbr.trans (h.mono hbr.size)) hB) yL)
      have HC2 : Hid (∀ w1, Below wr.heap.size wr w1 → Calls Tryz.prog 53 #[.agg xcs.toArray] w1 fun e w' => e = .returned (.string xs[j + 1].name) ∧ Below w1.heap.size w1 w') := fun w1 h => txtPack_c S xs[j + 1] xcs w1 (shPack.keep (.of (hbr.trans (h.mono hbr.size)) hB) xL)
      have hpre : preX (xs.map PackD.name) (j + 1) = some xs[j].name := by simp [preX, hj']
      have hat : (xs.map PackD.name)[j + 1]'(by simpa using hlt') = xs[j + 1].name := by simp
      have HBD : Hid (Op.bytesLess xs[j].name.toList xs[j + 1].name.toList = false → R = false) := fun h => HR.out.trans (rowUpto_bad (by simpa using hlt') (by rw [hpre, hat]; exact rowOk_less h) _ (by simpa using hlt'))
      have HGD : Hid (Op.bytesLess xs[j].name.toList xs[j + 1].name.toList = true → rowUpto (fun _ => true) id (xs.map PackD.name) (j + 1 + 1) = true) := fun h => rowUpto_step (by simpa using hlt') hh.out (by rw [hpre, hat, rowOk_some rfl]; exact h)
      obtain ⟨c, hc0⟩ : ∃ c, c = xs[j] := ⟨_, rfl⟩
      obtain ⟨d, hd0'⟩ : ∃ d, d = xs[j + 1] := ⟨_, rfl⟩
      rw [← hc0] at yL HC1 HBD HGD
      rw [← hd0'] at xL HC2 HBD HGD
      clear ha hpre hat hc0 hd0' hh
      obtain ⟨yu0, yu1, yu2, rfl, ys_name, yr0, yp0, yr1, yr2⟩ := yL
      obtain ⟨ya0, yc0, ye0, _⟩ := id yr0
      rw [length_strsV] at ye0
      subst ye0
      obtain ⟨ya1, yc1, ye1, _⟩ := id yr1
      subst ye1
      obtain ⟨ya2, yc2, ye2, _⟩ := id yr2
      subst ye2
      obtain ⟨xu0, xu1, xu2, rfl, xs_name, xr0, xp0, xr1, xr2⟩ := xL
      obtain ⟨xa0, xc0, xe0, _⟩ := id xr0
      rw [length_strsV] at xe0
      subst xe0
      obtain ⟨xa1, xc1, xe1, _⟩ := id xr1
      subst xe1
      obtain ⟨xa2, xc2, xe2, _⟩ := id xr2
      subst xe2
      have yv0 : wr.cell? ⟨b, off + j * 4, none⟩ = some (.string c.name) := hcelly 0 (by simp)
      have yv1 : wr.cell? ⟨b, off + j * 4 + 1, none⟩ = some (.slice ya0 c.uses.length yc0) := hcelly 1 (by simp)
      have yv2 : wr.cell? ⟨b, off + j * 4 + 2, none⟩ = some (.slice ya1 c.needs.length yc1) := hcelly 2 (by simp)
      have yv3 : wr.cell? ⟨b, off + j * 4 + 3, none⟩ = some (.slice ya2 c.cmds.length yc2) := hcelly 3 (by simp)
      have xv0 : wr.cell? ⟨b, off + (j + 1) * 4, none⟩ = some (.string d.name) := hcellx 0 (by simp)
      have xv1 : wr.cell? ⟨b, off + (j + 1) * 4 + 1, none⟩ = some (.slice xa0 d.uses.length xc0) := hcellx 1 (by simp)
      have xv2 : wr.cell? ⟨b, off + (j + 1) * 4 + 2, none⟩ = some (.slice xa1 d.needs.length xc1) := hcellx 2 (by simp)
      have xv3 : wr.cell? ⟨b, off + (j + 1) * 4 + 3, none⟩ = some (.slice xa2 d.cmds.length xc2) := hcellx 3 (by simp)
      have hj0 : (0 : Int) ≤ (j : Int) + 1 := by omega
      have hj2 : (j : Int) + 1 < (xs.length : Int) := by omega
      have hj3 : (j : Int) < (xs.length : Int) := by omega
      have hjw : IntKind.i64.wrap (j : Int) = (j : Int) := IntWalk.i64_in _ ⟨by omega, by omega⟩
      have hd0 : Below wr.heap.size wr wr.drew := (Below.refl _ _).drew
      have KEEP : Hid (∀ w1, Below wr.heap.size wr w1 → w1.cell? ⟨b, off + j * 4, none⟩ = some (.string c.name) ∧ w1.cell? ⟨b, off + j * 4 + 1, none⟩ = some (.slice ya0 c.uses.length yc0) ∧ w1.cell? ⟨b, off + j * 4 + 2, none⟩ = some (.slice ya1 c.needs.length yc1) ∧ w1.cell? ⟨b, off + j * 4 + 3, none⟩ = some (.slice ya2 c.cmds.length yc2) ∧ w1.cell? ⟨b, off + (j + 1) * 4, none⟩ = some (.string d.name) ∧ w1.cell? ⟨b, off + (j + 1) * 4 + 1, none⟩ = some (.slice xa0 d.uses.length xc0) ∧ w1.cell? ⟨b, off + (j + 1) * 4 + 2, none⟩ = some (.slice xa1 d.needs.length xc1) ∧ w1.cell? ⟨b, off + (j + 1) * 4 + 3, none⟩ = some (.slice xa2 d.cmds.length xc2)) := fun w1 h => ⟨(h.cell (by simpa using hbb)).trans yv0, (h.cell (by simpa using hbb)).trans yv1, (h.cell (by simpa using hbb)).trans yv2, (h.cell (by simpa using hbb)).trans yv3, (h.cell (by simpa using hbb)).trans xv0, (h.cell (by simpa using hbb)).trans xv1, (h.cell (by simpa using hbb)).trans xv2, (h.cell (by simpa using hbb)).trans xv3⟩
      clear hcelly hcellx yv0 yv1 yv2 yv3 xv0 xv1 xv2 xv3 yr0 yr1 yr2 xr0 xr1 xr2
      go_wp2_with fail
      refine wp_region_held_drew (S := (fun w' => w'.cell? ⟨b, off + j * 4, none⟩ = some (.string c.name) ∧ w'.cell? ⟨b, off + j * 4 + 1, none⟩ = some (.slice ya0 c.uses.length yc0) ∧ w'.cell? ⟨b, off + j * 4 + 2, none⟩ = some (.slice ya1 c.needs.length yc1) ∧ w'.cell? ⟨b, off + j * 4 + 3, none⟩ = some (.slice ya2 c.cmds.length yc2) ∧ w'.cell? ⟨b, off + (j + 1) * 4, none⟩ = some (.string d.name) ∧ w'.cell? ⟨b, off + (j + 1) * 4 + 1, none⟩ = some (.slice xa0 d.uses.length xc0) ∧ w'.cell? ⟨b, off + (j + 1) * 4 + 2, none⟩ = some (.slice xa1 d.needs.length xc1) ∧ w'.cell? ⟨b, off + (j + 1) * 4 + 3, none⟩ = some (.slice xa2 d.cmds.length xc2))) (by kernel_rfl) ?SR30 (fun hHeld => ?_)
      case SR30 => (first | (with_reducible exact KEEP.out _ hd2) | (with_reducible exact KEEP.out _ hd1) | (with_reducible exact KEEP.out _ hd0))
      refine wpAnyH_take (i := 0) (oi := _) (v := ?vR30) rfl (by kernel_rfl) (by kernel_rfl) (by kernel_rfl) (fun _ _ _ h => h) (Or.inl ⟨by rfl, ?yR30⟩) hHeld ?_
      case yR30 => (intro w hSw; (try dsimp only at hSw); go_simp <;> with_reducible rfl)
      try simp only [Act.put, List.getElem_toArray, List.getElem_cons_zero, List.getElem_cons_succ, List.setIfInBounds_toArray, List.set_cons_zero, List.set_cons_succ]
      refine wpAnyH_take (i := 1) (oi := _) (v := ?vR31) rfl (by kernel_rfl) (by kernel_rfl) (by kernel_rfl) (fun _ _ _ h => h) (Or.inl ⟨by rfl, ?yR31⟩) hHeld ?_
      case yR31 => (intro w hSw; (try dsimp only at hSw); go_simp <;> with_reducible rfl)
      try simp only [Act.put, List.getElem_toArray, List.getElem_cons_zero, List.getElem_cons_succ, List.setIfInBounds_toArray, List.set_cons_zero, List.set_cons_succ]
      refine wpAnyH_take (i := 2) (oi := _) (v := ?vR32) rfl (by kernel_rfl) (by kernel_rfl) (by kernel_rfl) (fun _ _ _ h => h) (Or.inl ⟨by rfl, ?yR32⟩) hHeld ?_
      case yR32 => (intro w hSw; (try dsimp only at hSw); go_simp <;> with_reducible rfl)
      try simp only [Act.put, List.getElem_toArray, List.getElem_cons_zero, List.getElem_cons_succ, List.setIfInBounds_toArray, List.set_cons_zero, List.set_cons_succ]
      refine wpAnyH_take (i := 3) (oi := _) (v := ?vR33) rfl (by kernel_rfl) (by kernel_rfl) (by kernel_rfl) (fun _ _ _ h => h) (Or.inl ⟨by rfl, ?yR33⟩) hHeld ?_
      case yR33 => (intro w hSw; (try dsimp only at hSw); go_simp <;> with_reducible rfl)
      try simp only [Act.put, List.getElem_toArray, List.getElem_cons_zero, List.getElem_cons_succ, List.setIfInBounds_toArray, List.set_cons_zero, List.set_cons_succ]
      refine wpAnyH_take (i := 4) (oi := _) (v := ?vR34) rfl (by kernel_rfl) (by kernel_rfl) (by kernel_rfl) (fun _ _ _ h => h) (Or.inl ⟨by rfl, ?yR34⟩) hHeld ?_
      case yR34 => (intro w hSw; (try dsimp only at hSw); go_simp <;> with_reducible rfl)
      try simp only [Act.put, List.getElem_toArray, List.getElem_cons_zero, List.getElem_cons_succ, List.setIfInBounds_toArray, List.set_cons_zero, List.set_cons_succ]
      refine wpAnyH_take (i := 5) (oi := _) (v := ?vR35) rfl (by kernel_rfl) (by kernel_rfl) (by kernel_rfl) (fun _ _ _ h => h) (Or.inl ⟨by rfl, ?yR35⟩) hHeld ?_
      case yR35 => (intro w hSw; (try dsimp only at hSw); go_simp <;> with_reducible rfl)
      try simp only [Act.put, List.getElem_toArray, List.getElem_cons_zero, List.getElem_cons_succ, List.setIfInBounds_toArray, List.set_cons_zero, List.set_cons_succ]
      refine wpAnyH_take (i := 7) (oi := _) (v := ?vR36) rfl (by kernel_rfl) (by kernel_rfl) (by kernel_rfl) (fun _ _ _ h => h) (Or.inl ⟨by rfl, ?yR36⟩) hHeld ?_
      case yR36 => (intro w hSw; (try dsimp only at hSw); go_simp <;> with_reducible rfl)
      try simp only [Act.put, List.getElem_toArray, List.getElem_cons_zero, List.getElem_cons_succ, List.setIfInBounds_toArray, List.set_cons_zero, List.set_cons_succ]
      refine wpAnyH_take (i := 8) (oi := _) (v := ?vR37) rfl (by kernel_rfl) (by kernel_rfl) (by kernel_rfl) (fun _ _ _ h => h) (Or.inl ⟨by rfl, ?yR37⟩) hHeld ?_
      case yR37 => (intro w hSw; (try dsimp only at hSw); go_simp <;> with_reducible rfl)
      try simp only [Act.put, List.getElem_toArray, List.getElem_cons_zero, List.getElem_cons_succ, List.setIfInBounds_toArray, List.set_cons_zero, List.set_cons_succ]
      refine wpAnyH_take (i := 9) (oi := _) (v := ?vR38) rfl (by kernel_rfl) (by kernel_rfl) (by kernel_rfl) (fun _ _ _ h => h) (Or.inl ⟨by rfl, ?yR38⟩) hHeld ?_
      case yR38 => (intro w hSw; (try dsimp only at hSw); go_simp <;> with_reducible rfl)
      try simp only [Act.put, List.getElem_toArray, List.getElem_cons_zero, List.getElem_cons_succ, List.setIfInBounds_toArray, List.set_cons_zero, List.set_cons_succ]
      refine wpAnyH_take (i := 10) (oi := _) (v := ?vR39) rfl (by kernel_rfl) (by kernel_rfl) (by kernel_rfl) (fun _ _ _ h => h) (Or.inl ⟨by rfl, ?yR39⟩) hHeld ?_
      case yR39 => (intro w hSw; (try dsimp only at hSw); go_simp <;> with_reducible rfl)
      try simp only [Act.put, List.getElem_toArray, List.getElem_cons_zero, List.getElem_cons_succ, List.setIfInBounds_toArray, List.set_cons_zero, List.set_cons_succ]
      refine wpAnyH_take (i := 11) (oi := _) (v := ?vR310) rfl (by kernel_rfl) (by kernel_rfl) (by kernel_rfl) (fun _ _ _ h => h) (Or.inl ⟨by rfl, ?yR310⟩) hHeld ?_
      case yR310 => (intro w hSw; (try dsimp only at hSw); go_simp <;> with_reducible rfl)
      try simp only [Act.put, List.getElem_toArray, List.getElem_cons_zero, List.getElem_cons_succ, List.setIfInBounds_toArray, List.set_cons_zero, List.set_cons_succ]
      refine wpAnyH_ready (rs := [6]) (by kernel_rfl) (by simp) ?_
      refine AllReadyH.cons rfl (fun K hK => ?_) AllReadyH.nil
      go_simp
      go_wp2_with (go_at_call 53; refine (HC1.out _ (by first | exact hd0 | exact hd1)).mono ?_; rintro e w1 ⟨rfl, b1⟩; have hd1 : Below wr.heap.size wr w1 := hd0.trans (b1.mono hd0.size))
      clear hHeld
      refine hK.out _ _ ?SR312 (fun hHeld => ?_)
      case SR312 => ((try dsimp only); first | (with_reducible exact KEEP.out _ hd2) | (with_reducible exact KEEP.out _ hd1) | (with_reducible exact KEEP.out _ hd0))
      clear hK K
      refine wpAnyH_ready (rs := [12]) (by kernel_rfl) (by simp) ?_
      refine AllReadyH.cons rfl (fun K hK => ?_) AllReadyH.nil
      go_simp
      go_wp2_with (go_at_call 53; refine (HC2.out _ hd1).mono ?_; rintro e w2 ⟨rfl, b2⟩; have hd2 : Below wr.heap.size wr w2 := hd1.trans (b2.mono hd1.size))
      clear hHeld
      refine hK.out _ _ ?SR313 (fun hHeld => ?_)
      case SR313 => ((try dsimp only); first | (with_reducible exact KEEP.out _ hd2) | (with_reducible exact KEEP.out _ hd1) | (with_reducible exact KEEP.out _ hd0))
      clear hK K
      refine wpAnyH_take (i := 13) (oi := _) (v := ?vR313) rfl (by kernel_rfl) (by kernel_rfl) (by kernel_rfl) (fun _ _ _ h => h) (Or.inl ⟨by rfl, ?yR313⟩) hHeld ?_
      case yR313 => (intro w hSw; (try dsimp only at hSw); go_simp <;> with_reducible rfl)
      try simp only [Act.put, List.getElem_toArray, List.getElem_cons_zero, List.getElem_cons_succ, List.setIfInBounds_toArray, List.set_cons_zero, List.set_cons_succ]
      refine wpAnyH_done (by kernel_rfl) ?_ _
      go_wp2_with fail
      · have hlx : (!Op.bytesLess c.name.toList d.name.toList) = true := by assumption
        go_ret
        exact ⟨by rw [HBD.out (by simpa using hlx)]; rfl, hbr.trans (hd2.mono hbr.size)⟩
      · have hlx : (!Op.bytesLess c.name.toList d.name.toList) = false := by assumption
        go_roundw
        case rel => exact ⟨j + 1 + 1, by omega, .inl (by omega), by go_num, HGD.out (by simpa using hlx), hbr.trans (hd2.mono hbr.size)⟩
        case measure => simp [intOf]; omega
    · have HE : Hid (R = true) := HR.out.trans (asc_end hk1 (by simpa using hlt') (by simpa using hk) hh.out)
      clear ha hh
      go_wp2_with fail
      go_ret
      exact ⟨by rw [HE.out]; rfl, hbr⟩

end Go.Proofs.YtlnofdlhjeomfaaGreatDoor

/-! Rows of texts: whether they ascend, whether one is among them, whether one is no name or not plain, as the program asks it: contracts for the walks; conditions: the rows lie in memory. -/
namespace Go.Proofs.YtlnofdlhjeomfaaGreatDoor
open Go.RowKit
set_option linter.unusedSimpArgs false
set_option linter.unusedVariables false

theorem text_alike (a b : ByteArray) : (a.toList == b.toList) = decide (a = b) := by
  by_cases h : a = b
  · subst h; simp
  · rw [decide_eq_false h]
    cases hh : (a.toList == b.toList) with
    | false => rfl
    | true => exact absurd (bytes_eq_of_toList (by simpa using hh)) h
theorem notName_c (s : ByteArray) (hs : s.size ≤ maxLen) (w : World) : Calls Tryz.prog 121 #[.string s] w fun e w' => e = .returned (.bool (!nameB s)) ∧ Below w.heap.size w w' := by
  have H := hidden (implName_c s hs w)
  go_enter Tryz.func121, Tryz.ntmps121
  go_wp2_with (go_at_call 87; refine H.out.mono ?_; rintro e w1 ⟨rfl, rfl⟩)
  go_ret
  exact ⟨rfl, Below.refl _ _⟩
theorem notPlain_c (s : ByteArray) (hs : s.size ≤ maxLen) (w : World) : Calls Tryz.prog 151 #[.string s] w fun e w' => e = .returned (.bool (!plainAll s 40)) ∧ Below w.heap.size w w' := by
  have H := hidden (implPlain_c s 40 hs w)
  go_enter Tryz.func151, Tryz.ntmps151
  go_wp2_with (go_at_call 152; refine H.out.mono ?_; rintro e w1 ⟨rfl, rfl⟩)
  go_ret
  exact ⟨rfl, Below.refl _ _⟩
theorem txtStr_c (s : ByteArray) (w : World) : Calls Tryz.prog 123 #[.string s] w fun e w' => e = .returned (.string s) ∧ Below w.heap.size w w' := by
  go_enter Tryz.func123, Tryz.ntmps123
  go_wp2_with fail
  go_ret
  exact ⟨rfl, Below.refl _ _⟩

set_option maxHeartbeats 2000000 in
set_option maxRecDepth 100000 in
theorem idxNotName_c (v : Value) (ss : List ByteArray) (w : World) (hv : Reads w v (strsV ss)) (hs : saneP ss) :
    Calls Tryz.prog 147 #[v, .func (.func 121) #[] #[]] w fun e w' => e = .returned (.int .i64 (firstI (fun s => !nameB s) ss)) ∧ Below w.heap.size w w' := by
  obtain ⟨a, cap, rfl, _, ha⟩ := reads_strs hv
  obtain ⟨hl, hsz⟩ := hs
  clear hv
  have hl' := hl
  unfold maxLen at hl
  obtain ⟨R, hR⟩ : ∃ R, R = firstI (fun s => !nameB s) ss := ⟨_, rfl⟩
  rw [← hR]
  have HR := hidden hR
  clear hR
  go_enter Tryz.func147, Tryz.ntmps147
  go_wp2_with fail
  go_loopw [8] (fun vi wr => ∃ k : Nat, k ≤ ss.length ∧ vi = .int .i64 (k : Int) ∧ Hid (∀ j (hj : j < ss.length), j < k → (fun s => !nameB s) ss[j] = false) ∧ Below w.heap.size w wr) (fun vi _ => ss.length - (intOf vi).toNat)
  case atStart => exact ⟨0, Nat.zero_le _, rfl, (fun j hj h => by omega), Below.refl _ _⟩
  case round =>
    obtain ⟨k, hk, rfl, hno, hbr⟩ := hrel
    by_cases hlt' : k < ss.length
    · rcases ha with rfl | ⟨b, off, rfl, hlt, ha⟩
      · simp at hlt'
      have e0 : wr.cell? ⟨b, off + k, none⟩ = some (.string ss[k]) := (hbr.cell (by simpa using hlt)).trans (ha k hlt')
      have hsk := hsz ss[k] (List.getElem_mem hlt')
      have HT : Hid ((fun s => !nameB s) ss[k] = true → R = (k : Int)) := fun h => HR.out.trans (firstI_here hlt' h hno.out)
      have HN : Hid ((fun s => !nameB s) ss[k] = false → ∀ j (hj : j < ss.length), j < k + 1 → (fun s => !nameB s) ss[j] = false) := fun h j hj hjk => by
        by_cases e : j = k
        · subst e; exact h
        · exact hno.out j hj (by omega)
      obtain ⟨t, ht⟩ : ∃ t, t = ss[k] := ⟨_, rfl⟩
      rw [← ht] at e0 hsk HT HN
      have HC : Calls Tryz.prog 121 #[.string t] wr fun e w' => e = .returned (.bool ((fun s => !nameB s) t)) ∧ Below wr.heap.size wr w' := notName_c t hsk wr
      obtain ⟨r, hr⟩ : ∃ r, r = (fun s => !nameB s) t := ⟨_, rfl⟩
      rw [← hr] at HC HT HN
      have HC2 := hidden HC
      have hki : (k : Int) < (ss.length : Int) := by omega
      clear ha ht hno HC hr hsz hsk
      cases r with
      | true =>
        have HT2 := hidden (HT.out rfl)
        clear HT HN
        go_wp2_with (go_at_call 121; refine HC2.out.mono ?_; rintro e w1 ⟨rfl, b1⟩)
        go_ret
        exact ⟨by rw [HT2.out]; rfl, hbr.trans (b1.mono hbr.size)⟩
      | false =>
        have HN2 := hidden (HN.out rfl)
        clear HT HN
        go_wp2_with (go_at_call 121; refine HC2.out.mono ?_; rintro e w1 ⟨rfl, b1⟩)
        go_roundw
        case rel => exact ⟨k + 1, by omega, by go_num, HN2.out, hbr.trans (b1.mono hbr.size)⟩
        case measure => simp [intOf]; omega
    · have he : k = ss.length := by omega
      subst he
      have HE : Hid (R = -1) := HR.out.trans (firstI_none (fun j hj => hno.out j hj hj))
      clear ha hno HR hsz
      go_wp2_with fail
      go_ret
      exact ⟨by rw [HE.out]; rfl, hbr⟩
set_option maxHeartbeats 1000000 in
theorem anyNotName_c (v : Value) (ss : List ByteArray) (w : World) (hv : Reads w v (strsV ss)) (hs : saneP ss) :
    Calls Tryz.prog 120 #[v, .func (.func 121) #[] #[]] w fun e w' => e = .returned (.bool (ss.any (fun s => !nameB s))) ∧ Below w.heap.size w w' := by
  have HF := idxNotName_c v ss w hv hs
  have hA := firstI_any (fun s => !nameB s) ss
  obtain ⟨R, hR⟩ : ∃ R, R = firstI (fun s => !nameB s) ss := ⟨_, rfl⟩
  rw [← hR] at HF hA
  rw [← hA]
  have HF2 := hidden HF
  obtain ⟨a, cap, rfl, _, _⟩ := reads_strs hv
  clear hv hR hA HF
  by_cases h0 : 0 ≤ R
  · rw [decide_eq_true h0]
    have h1 : decide (0 ≤ R) = true := decide_eq_true h0
    go_enter Tryz.func120, Tryz.ntmps120
    go_wp2_with (go_at_call 147; refine HF2.out.mono ?_; rintro e w1 ⟨rfl, b1⟩)
    go_ret
    exact ⟨by first | rfl | simp [h0] | (simp; omega), b1⟩
  · rw [decide_eq_false h0]
    have h1 : decide (0 ≤ R) = false := decide_eq_false h0
    go_enter Tryz.func120, Tryz.ntmps120
    go_wp2_with (go_at_call 147; refine HF2.out.mono ?_; rintro e w1 ⟨rfl, b1⟩)
    go_ret
    exact ⟨by first | rfl | simp [h0] | (simp; omega), b1⟩

set_option maxHeartbeats 2000000 in
set_option maxRecDepth 100000 in
theorem idxNotPlain_c (v : Value) (ss : List ByteArray) (w : World) (hv : Reads w v (strsV ss)) (hs : saneP ss) :
    Calls Tryz.prog 147 #[v, .func (.func 151) #[] #[]] w fun e w' => e = .returned (.int .i64 (firstI (fun s => !plainAll s 40) ss)) ∧ Below w.heap.size w w' := by
  obtain ⟨a, cap, rfl, _, ha⟩ := reads_strs hv
  obtain ⟨hl, hsz⟩ := hs
  clear hv
  have hl' := hl
  unfold maxLen at hl
  obtain ⟨R, hR⟩ : ∃ R, R = firstI (fun s => !plainAll s 40) ss := ⟨_, rfl⟩
  rw [← hR]
  have HR := hidden hR
  clear hR
  go_enter Tryz.func147, Tryz.ntmps147
  go_wp2_with fail
  go_loopw [8] (fun vi wr => ∃ k : Nat, k ≤ ss.length ∧ vi = .int .i64 (k : Int) ∧ Hid (∀ j (hj : j < ss.length), j < k → (fun s => !plainAll s 40) ss[j] = false) ∧ Below w.heap.size w wr) (fun vi _ => ss.length - (intOf vi).toNat)
  case atStart => exact ⟨0, Nat.zero_le _, rfl, (fun j hj h => by omega), Below.refl _ _⟩
  case round =>
    obtain ⟨k, hk, rfl, hno, hbr⟩ := hrel
    by_cases hlt' : k < ss.length
    · rcases ha with rfl | ⟨b, off, rfl, hlt, ha⟩
      · simp at hlt'
      have e0 : wr.cell? ⟨b, off + k, none⟩ = some (.string ss[k]) := (hbr.cell (by simpa using hlt)).trans (ha k hlt')
      have hsk := hsz ss[k] (List.getElem_mem hlt')
      have HT : Hid ((fun s => !plainAll s 40) ss[k] = true → R = (k : Int)) := fun h => HR.out.trans (firstI_here hlt' h hno.out)
      have HN : Hid ((fun s => !plainAll s 40) ss[k] = false → ∀ j (hj : j < ss.length), j < k + 1 → (fun s => !plainAll s 40) ss[j] = false) := fun h j hj hjk => by
        by_cases e : j = k
        · subst e; exact h
        · exact hno.out j hj (by omega)
      obtain ⟨t, ht⟩ : ∃ t, t = ss[k] := ⟨_, rfl⟩
      rw [← ht] at e0 hsk HT HN
      have HC : Calls Tryz.prog 151 #[.string t] wr fun e w' => e = .returned (.bool ((fun s => !plainAll s 40) t)) ∧ Below wr.heap.size wr w' := notPlain_c t hsk wr
      obtain ⟨r, hr⟩ : ∃ r, r = (fun s => !plainAll s 40) t := ⟨_, rfl⟩
      rw [← hr] at HC HT HN
      have HC2 := hidden HC
      have hki : (k : Int) < (ss.length : Int) := by omega
      clear ha ht hno HC hr hsz hsk
      cases r with
      | true =>
        have HT2 := hidden (HT.out rfl)
        clear HT HN
        go_wp2_with (go_at_call 151; refine HC2.out.mono ?_; rintro e w1 ⟨rfl, b1⟩)
        go_ret
        exact ⟨by rw [HT2.out]; rfl, hbr.trans (b1.mono hbr.size)⟩
      | false =>
        have HN2 := hidden (HN.out rfl)
        clear HT HN
        go_wp2_with (go_at_call 151; refine HC2.out.mono ?_; rintro e w1 ⟨rfl, b1⟩)
        go_roundw
        case rel => exact ⟨k + 1, by omega, by go_num, HN2.out, hbr.trans (b1.mono hbr.size)⟩
        case measure => simp [intOf]; omega
    · have he : k = ss.length := by omega
      subst he
      have HE : Hid (R = -1) := HR.out.trans (firstI_none (fun j hj => hno.out j hj hj))
      clear ha hno HR hsz
      go_wp2_with fail
      go_ret
      exact ⟨by rw [HE.out]; rfl, hbr⟩
set_option maxHeartbeats 1000000 in
theorem anyNotPlain_c (v : Value) (ss : List ByteArray) (w : World) (hv : Reads w v (strsV ss)) (hs : saneP ss) :
    Calls Tryz.prog 120 #[v, .func (.func 151) #[] #[]] w fun e w' => e = .returned (.bool (ss.any (fun s => !plainAll s 40))) ∧ Below w.heap.size w w' := by
  have HF := idxNotPlain_c v ss w hv hs
  have hA := firstI_any (fun s => !plainAll s 40) ss
  obtain ⟨R, hR⟩ : ∃ R, R = firstI (fun s => !plainAll s 40) ss := ⟨_, rfl⟩
  rw [← hR] at HF hA
  rw [← hA]
  have HF2 := hidden HF
  obtain ⟨a, cap, rfl, _, _⟩ := reads_strs hv
  clear hv hR hA HF
  by_cases h0 : 0 ≤ R
  · rw [decide_eq_true h0]
    have h1 : decide (0 ≤ R) = true := decide_eq_true h0
    go_enter Tryz.func120, Tryz.ntmps120
    go_wp2_with (go_at_call 147; refine HF2.out.mono ?_; rintro e w1 ⟨rfl, b1⟩)
    go_ret
    exact ⟨by first | rfl | simp [h0] | (simp; omega), b1⟩
  · rw [decide_eq_false h0]
    have h1 : decide (0 ≤ R) = false := decide_eq_false h0
    go_enter Tryz.func120, Tryz.ntmps120
    go_wp2_with (go_at_call 147; refine HF2.out.mono ?_; rintro e w1 ⟨rfl, b1⟩)
    go_ret
    exact ⟨by first | rfl | simp [h0] | (simp; omega), b1⟩

set_option maxHeartbeats 2000000 in
set_option maxRecDepth 100000 in
theorem indexStr_c (v : Value) (ss : List ByteArray) (n : ByteArray) (w : World) (hv : Reads w v (strsV ss)) (hs : saneP ss) :
    Calls Tryz.prog 146 #[v, .string n] w fun e w' => e = .returned (.int .i64 (firstI (fun u => decide (n = u)) ss)) ∧ Below w.heap.size w w' := by
  obtain ⟨a, cap, rfl, _, ha⟩ := reads_strs hv
  obtain ⟨hl, hsz⟩ := hs
  clear hv
  unfold maxLen at hl
  obtain ⟨R, hR⟩ : ∃ R, R = firstI (fun u => decide (n = u)) ss := ⟨_, rfl⟩
  rw [← hR]
  have HR := hidden hR
  clear hR
  go_enter Tryz.func146, Tryz.ntmps146
  go_wp2_with fail
  go_loopw [8] (fun vi wr => ∃ k : Nat, k ≤ ss.length ∧ vi = .int .i64 (k : Int) ∧ Hid (∀ j (hj : j < ss.length), j < k → (fun u => decide (n = u)) ss[j] = false) ∧ Below w.heap.size w wr) (fun vi _ => ss.length - (intOf vi).toNat)
  case atStart => exact ⟨0, Nat.zero_le _, rfl, (fun j hj h => by omega), Below.refl _ _⟩
  case round =>
    obtain ⟨k, hk, rfl, hno, hbr⟩ := hrel
    by_cases hlt' : k < ss.length
    · rcases ha with rfl | ⟨b, off, rfl, hlt, ha⟩
      · simp at hlt'
      have e0 : wr.cell? ⟨b, off + k, none⟩ = some (.string ss[k]) := (hbr.cell (by simpa using hlt)).trans (ha k hlt')
      have HT : Hid ((fun u => decide (n = u)) ss[k] = true → R = (k : Int)) := fun h => HR.out.trans (firstI_here hlt' h hno.out)
      have HN : Hid ((fun u => decide (n = u)) ss[k] = false → ∀ j (hj : j < ss.length), j < k + 1 → (fun u => decide (n = u)) ss[j] = false) := fun h j hj hjk => by
        by_cases e : j = k
        · subst e; exact h
        · exact hno.out j hj (by omega)
      obtain ⟨t, ht⟩ : ∃ t, t = ss[k] := ⟨_, rfl⟩
      rw [← ht] at e0 HT HN
      have hal := text_alike n t
      have hki : (k : Int) < (ss.length : Int) := by omega
      clear ha ht hno hsz
      by_cases hts : n = t
      · have hq : (n.toList == t.toList) = true := by rw [hal]; simpa using hts
        have HT2 := hidden (HT.out (by simpa using hts))
        clear HT HN hts hal
        go_wp2_with fail
        go_ret
        exact ⟨by rw [HT2.out]; rfl, hbr⟩
      · have hq : (n.toList == t.toList) = false := by rw [hal]; simpa using hts
        have HN2 := hidden (HN.out (by simpa using hts))
        clear HT HN hts hal
        go_wp2_with fail
        go_roundw
        case rel => exact ⟨k + 1, by omega, by go_num, HN2.out, hbr⟩
        case measure => simp [intOf]; omega
    · have he : k = ss.length := by omega
      subst he
      have HE : Hid (R = -1) := HR.out.trans (firstI_none (fun j hj => hno.out j hj hj))
      clear ha hno HR hsz
      go_wp2_with fail
      go_ret
      exact ⟨by rw [HE.out]; rfl, hbr⟩
set_option maxHeartbeats 1000000 in
theorem hasStr_c (v : Value) (ss : List ByteArray) (n : ByteArray) (w : World) (hv : Reads w v (strsV ss)) (hs : saneP ss) :
    Calls Tryz.prog 119 #[v, .string n] w fun e w' => e = .returned (.bool (ss.any fun u => decide (n = u))) ∧ Below w.heap.size w w' := by
  have HF := indexStr_c v ss n w hv hs
  have hA := firstI_any (fun u => decide (n = u)) ss
  obtain ⟨R, hR⟩ : ∃ R, R = firstI (fun u => decide (n = u)) ss := ⟨_, rfl⟩
  rw [← hR] at HF hA
  rw [← hA]
  have HF2 := hidden HF
  obtain ⟨a, cap, rfl, _, _⟩ := reads_strs hv
  clear hv hR hA HF
  by_cases h0 : 0 ≤ R
  · rw [decide_eq_true h0]
    go_enter Tryz.func119, Tryz.ntmps119
    go_wp2_with (go_at_call 146; refine HF2.out.mono ?_; rintro e w1 ⟨rfl, b1⟩)
    go_ret
    exact ⟨by first | rfl | simp [h0] | (simp; omega), b1⟩
  · rw [decide_eq_false h0]
    go_enter Tryz.func119, Tryz.ntmps119
    go_wp2_with (go_at_call 146; refine HF2.out.mono ?_; rintro e w1 ⟨rfl, b1⟩)
    go_ret
    exact ⟨by first | rfl | simp [h0] | (simp; omega), b1⟩

set_option maxHeartbeats 8000000 in
set_option maxRecDepth 100000 in
theorem ascStr_c (v : Value) (ss : List ByteArray) (w : World) (hv : Reads w v (strsV ss)) (hs : saneP ss) :
    Calls Tryz.prog 122 #[v, .func (.func 123) #[] #[]] w fun e w' => e = .returned (.bool (ascB ss)) ∧ Below w.heap.size w w' := by
  obtain ⟨a, cap, rfl, _, ha⟩ := reads_strs hv
  obtain ⟨hl, hsz⟩ := hs
  clear hv hsz
  unfold maxLen at hl
  obtain ⟨R, hR⟩ : ∃ R, R = ascB ss := ⟨_, rfl⟩
  rw [← hR]
  have HR := hidden hR
  clear hR
  go_enter Tryz.func122, Tryz.ntmps122
  go_wp2_with fail
  go_loopw [5] (fun vi wr => ∃ k : Nat, 1 ≤ k ∧ (k ≤ ss.length ∨ k = 1) ∧ vi = .int .i64 (k : Int) ∧ Hid (rowUpto (fun _ => true) id ss k = true) ∧ Below w.heap.size w wr) (fun vi _ => ss.length - (intOf vi).toNat)
  case atStart => exact ⟨1, Nat.le_refl _, .inr rfl, rfl, asc_one _, Below.refl _ _⟩
  case round =>
    obtain ⟨k, hk1, hk, rfl, hh, hbr⟩ := hrel
    by_cases hlt' : k < ss.length
    · rcases ha with rfl | ⟨b, off, rfl, hlt, ha⟩
      · simp at hlt'
      obtain ⟨j, rfl⟩ : ∃ j, k = j + 1 := ⟨k - 1, by omega⟩
      have hj' : j < ss.length := by omega
      have hbb : b < wr.heap.size := Nat.lt_of_lt_of_le hlt hbr.size
      have yv : wr.cell? ⟨b, off + j, none⟩ = some (.string ss[j]) := (hbr.cell (by simpa using hlt)).trans (ha j hj')
      have xv : wr.cell? ⟨b, off + (j + 1), none⟩ = some (.string ss[j + 1]) := (hbr.cell (by simpa using hlt)).trans (ha (j + 1) hlt')
      have hpre : preX ss (j + 1) = some ss[j] := by simp [preX, hj']
      have HBD : Hid (Op.bytesLess ss[j].toList ss[j + 1].toList = false → R = false) := fun h => HR.out.trans (rowUpto_bad hlt' (by rw [hpre]; exact rowOk_less h) _ hlt')
      have HGD : Hid (Op.bytesLess ss[j].toList ss[j + 1].toList = true → rowUpto (fun _ => true) id ss (j + 1 + 1) = true) := fun h => rowUpto_step hlt' hh.out (by rw [hpre, rowOk_some rfl]; exact h)
      obtain ⟨c, hc0⟩ : ∃ c, c = ss[j] := ⟨_, rfl⟩
      obtain ⟨d, hd0'⟩ : ∃ d, d = ss[j + 1] := ⟨_, rfl⟩
      rw [← hc0] at yv HBD HGD
      rw [← hd0'] at xv HBD HGD
      clear ha hpre hc0 hd0' hh
      have hj0 : (0 : Int) ≤ (j : Int) + 1 := by omega
      have hj2 : (j : Int) + 1 < (ss.length : Int) := by omega
      have hj3 : (j : Int) < (ss.length : Int) := by omega
      have hjw : IntKind.i64.wrap (j : Int) = (j : Int) := IntWalk.i64_in _ ⟨by omega, by omega⟩
      have hd0 : Below wr.heap.size wr wr.drew := (Below.refl _ _).drew
      have KEEP : Hid (∀ w1, Below wr.heap.size wr w1 → w1.cell? ⟨b, off + j, none⟩ = some (.string c) ∧ w1.cell? ⟨b, off + (j + 1), none⟩ = some (.string d)) := fun w1 h => ⟨(h.cell (by simpa using hbb)).trans yv, (h.cell (by simpa using hbb)).trans xv⟩
      clear yv xv
      go_wp2_with fail
      refine wp_region_held_drew (S := (fun w' => w'.cell? ⟨b, off + j, none⟩ = some (.string c) ∧ w'.cell? ⟨b, off + (j + 1), none⟩ = some (.string d))) (by kernel_rfl) ?SR10 (fun hHeld => ?_)
      case SR10 => (first | (with_reducible exact KEEP.out _ hd2) | (with_reducible exact KEEP.out _ hd1) | (with_reducible exact KEEP.out _ hd0))
      refine wpAnyH_take (i := 0) (oi := _) (v := ?vR10) rfl (by kernel_rfl) (by kernel_rfl) (by kernel_rfl) (fun _ _ _ h => h) (Or.inl ⟨by rfl, ?yR10⟩) hHeld ?_
      case yR10 => (intro w hSw; (try dsimp only at hSw); go_simp <;> with_reducible rfl)
      try simp only [Act.put, List.getElem_toArray, List.getElem_cons_zero, List.getElem_cons_succ, List.setIfInBounds_toArray, List.set_cons_zero, List.set_cons_succ]
      refine wpAnyH_take (i := 1) (oi := _) (v := ?vR11) rfl (by kernel_rfl) (by kernel_rfl) (by kernel_rfl) (fun _ _ _ h => h) (Or.inl ⟨by rfl, ?yR11⟩) hHeld ?_
      case yR11 => (intro w hSw; (try dsimp only at hSw); go_simp <;> with_reducible rfl)
      try simp only [Act.put, List.getElem_toArray, List.getElem_cons_zero, List.getElem_cons_succ, List.setIfInBounds_toArray, List.set_cons_zero, List.set_cons_succ]
      refine wpAnyH_take (i := 2) (oi := _) (v := ?vR12) rfl (by kernel_rfl) (by kernel_rfl) (by kernel_rfl) (fun _ _ _ h => h) (Or.inl ⟨by rfl, ?yR12⟩) hHeld ?_
      case yR12 => (intro w hSw; (try dsimp only at hSw); go_simp <;> with_reducible rfl)
      try simp only [Act.put, List.getElem_toArray, List.getElem_cons_zero, List.getElem_cons_succ, List.setIfInBounds_toArray, List.set_cons_zero, List.set_cons_succ]
      refine wpAnyH_take (i := 3) (oi := _) (v := ?vR13) rfl (by kernel_rfl) (by kernel_rfl) (by kernel_rfl) (fun _ _ _ h => h) (Or.inl ⟨by rfl, ?yR13⟩) hHeld ?_
      case yR13 => (intro w hSw; (try dsimp only at hSw); go_simp <;> with_reducible rfl)
      try simp only [Act.put, List.getElem_toArray, List.getElem_cons_zero, List.getElem_cons_succ, List.setIfInBounds_toArray, List.set_cons_zero, List.set_cons_succ]
      refine wpAnyH_take (i := 4) (oi := _) (v := ?vR14) rfl (by kernel_rfl) (by kernel_rfl) (by kernel_rfl) (fun _ _ _ h => h) (Or.inl ⟨by rfl, ?yR14⟩) hHeld ?_
      case yR14 => (intro w hSw; (try dsimp only at hSw); go_simp <;> with_reducible rfl)
      try simp only [Act.put, List.getElem_toArray, List.getElem_cons_zero, List.getElem_cons_succ, List.setIfInBounds_toArray, List.set_cons_zero, List.set_cons_succ]
      refine wpAnyH_take (i := 5) (oi := _) (v := ?vR15) rfl (by kernel_rfl) (by kernel_rfl) (by kernel_rfl) (fun _ _ _ h => h) (Or.inl ⟨by rfl, ?yR15⟩) hHeld ?_
      case yR15 => (intro w hSw; (try dsimp only at hSw); go_simp <;> with_reducible rfl)
      try simp only [Act.put, List.getElem_toArray, List.getElem_cons_zero, List.getElem_cons_succ, List.setIfInBounds_toArray, List.set_cons_zero, List.set_cons_succ]
      refine wpAnyH_take (i := 7) (oi := _) (v := ?vR16) rfl (by kernel_rfl) (by kernel_rfl) (by kernel_rfl) (fun _ _ _ h => h) (Or.inl ⟨by rfl, ?yR16⟩) hHeld ?_
      case yR16 => (intro w hSw; (try dsimp only at hSw); go_simp <;> with_reducible rfl)
      try simp only [Act.put, List.getElem_toArray, List.getElem_cons_zero, List.getElem_cons_succ, List.setIfInBounds_toArray, List.set_cons_zero, List.set_cons_succ]
      refine wpAnyH_take (i := 8) (oi := _) (v := ?vR17) rfl (by kernel_rfl) (by kernel_rfl) (by kernel_rfl) (fun _ _ _ h => h) (Or.inl ⟨by rfl, ?yR17⟩) hHeld ?_
      case yR17 => (intro w hSw; (try dsimp only at hSw); go_simp <;> with_reducible rfl)
      try simp only [Act.put, List.getElem_toArray, List.getElem_cons_zero, List.getElem_cons_succ, List.setIfInBounds_toArray, List.set_cons_zero, List.set_cons_succ]
      refine wpAnyH_take (i := 9) (oi := _) (v := ?vR18) rfl (by kernel_rfl) (by kernel_rfl) (by kernel_rfl) (fun _ _ _ h => h) (Or.inl ⟨by rfl, ?yR18⟩) hHeld ?_
      case yR18 => (intro w hSw; (try dsimp only at hSw); go_simp <;> with_reducible rfl)
      try simp only [Act.put, List.getElem_toArray, List.getElem_cons_zero, List.getElem_cons_succ, List.setIfInBounds_toArray, List.set_cons_zero, List.set_cons_succ]
      refine wpAnyH_take (i := 10) (oi := _) (v := ?vR19) rfl (by kernel_rfl) (by kernel_rfl) (by kernel_rfl) (fun _ _ _ h => h) (Or.inl ⟨by rfl, ?yR19⟩) hHeld ?_
      case yR19 => (intro w hSw; (try dsimp only at hSw); go_simp <;> with_reducible rfl)
      try simp only [Act.put, List.getElem_toArray, List.getElem_cons_zero, List.getElem_cons_succ, List.setIfInBounds_toArray, List.set_cons_zero, List.set_cons_succ]
      refine wpAnyH_take (i := 11) (oi := _) (v := ?vR110) rfl (by kernel_rfl) (by kernel_rfl) (by kernel_rfl) (fun _ _ _ h => h) (Or.inl ⟨by rfl, ?yR110⟩) hHeld ?_
      case yR110 => (intro w hSw; (try dsimp only at hSw); go_simp <;> with_reducible rfl)
      try simp only [Act.put, List.getElem_toArray, List.getElem_cons_zero, List.getElem_cons_succ, List.setIfInBounds_toArray, List.set_cons_zero, List.set_cons_succ]
      refine wpAnyH_ready (rs := [6]) (by kernel_rfl) (by simp) ?_
      refine AllReadyH.cons rfl (fun K hK => ?_) AllReadyH.nil
      go_simp
      go_wp2_with (go_at_call 123; refine (txtStr_c c _).mono ?_; rintro e w1 ⟨rfl, b1⟩; have hd1 : Below wr.heap.size wr w1 := hd0.trans (b1.mono hd0.size))
      clear hHeld
      refine hK.out _ _ ?SR112 (fun hHeld => ?_)
      case SR112 => ((try dsimp only); first | (with_reducible exact KEEP.out _ hd2) | (with_reducible exact KEEP.out _ hd1) | (with_reducible exact KEEP.out _ hd0))
      clear hK K
      refine wpAnyH_ready (rs := [12]) (by kernel_rfl) (by simp) ?_
      refine AllReadyH.cons rfl (fun K hK => ?_) AllReadyH.nil
      go_simp
      go_wp2_with (go_at_call 123; refine (txtStr_c d _).mono ?_; rintro e w2 ⟨rfl, b2⟩; have hd2 : Below wr.heap.size wr w2 := hd1.trans (b2.mono hd1.size))
      clear hHeld
      refine hK.out _ _ ?SR113 (fun hHeld => ?_)
      case SR113 => ((try dsimp only); first | (with_reducible exact KEEP.out _ hd2) | (with_reducible exact KEEP.out _ hd1) | (with_reducible exact KEEP.out _ hd0))
      clear hK K
      refine wpAnyH_take (i := 13) (oi := _) (v := ?vR113) rfl (by kernel_rfl) (by kernel_rfl) (by kernel_rfl) (fun _ _ _ h => h) (Or.inl ⟨by rfl, ?yR113⟩) hHeld ?_
      case yR113 => (intro w hSw; (try dsimp only at hSw); go_simp <;> with_reducible rfl)
      try simp only [Act.put, List.getElem_toArray, List.getElem_cons_zero, List.getElem_cons_succ, List.setIfInBounds_toArray, List.set_cons_zero, List.set_cons_succ]
      refine wpAnyH_done (by kernel_rfl) ?_ _
      go_wp2_with fail
      · have hlx : (!Op.bytesLess c.toList d.toList) = true := by assumption
        go_ret
        exact ⟨by rw [HBD.out (by simpa using hlx)]; rfl, hbr.trans (hd2.mono hbr.size)⟩
      · have hlx : (!Op.bytesLess c.toList d.toList) = false := by assumption
        go_roundw
        case rel => exact ⟨j + 1 + 1, by omega, .inl (by omega), by go_num, HGD.out (by simpa using hlx), hbr.trans (hd2.mono hbr.size)⟩
        case measure => simp [intOf]; omega
    · have HE : Hid (R = true) := HR.out.trans (asc_end hk1 hlt' hk hh.out)
      clear ha hh
      go_wp2_with fail
      go_ret
      exact ⟨by rw [HE.out]; rfl, hbr⟩

set_option maxHeartbeats 8000000 in
set_option maxRecDepth 100000 in
theorem l7Asc_c (v : Value) (ss : List ByteArray) (w : World) (hv : Reads w v (strsV ss)) (hs : saneP ss) :
    Calls Tryz.prog 73 #[v] w fun e w' => e = .returned (.bool (ascB ss)) ∧ Below w.heap.size w w' := by
  obtain ⟨a, cap, rfl, _, ha⟩ := reads_strs hv
  obtain ⟨hl, hsz⟩ := hs
  clear hv hsz
  unfold maxLen at hl
  obtain ⟨R, hR⟩ : ∃ R, R = ascB ss := ⟨_, rfl⟩
  rw [← hR]
  have HR := hidden hR
  clear hR
  go_enter Tryz.func73, Tryz.ntmps73
  go_wp2_with fail
  go_loopw [3] (fun vi wr => ∃ k : Nat, 1 ≤ k ∧ (k ≤ ss.length ∨ k = 1) ∧ vi = .int .i64 (k : Int) ∧ Hid (rowUpto (fun _ => true) id ss k = true) ∧ Below w.heap.size w wr) (fun vi _ => ss.length - (intOf vi).toNat)
  case atStart => exact ⟨1, Nat.le_refl _, .inr rfl, rfl, asc_one _, Below.refl _ _⟩
  case round =>
    obtain ⟨k, hk1, hk, rfl, hh, hbr⟩ := hrel
    by_cases hlt' : k < ss.length
    · rcases ha with rfl | ⟨b, off, rfl, hlt, ha⟩
      · simp at hlt'
      obtain ⟨j, rfl⟩ : ∃ j, k = j + 1 := ⟨k - 1, by omega⟩
      have hj' : j < ss.length := by omega
      have hbb : b < wr.heap.size := Nat.lt_of_lt_of_le hlt hbr.size
      have yv : wr.cell? ⟨b, off + j, none⟩ = some (.string ss[j]) := (hbr.cell (by simpa using hlt)).trans (ha j hj')
      have xv : wr.cell? ⟨b, off + (j + 1), none⟩ = some (.string ss[j + 1]) := (hbr.cell (by simpa using hlt)).trans (ha (j + 1) hlt')
      have hpre : preX ss (j + 1) = some ss[j] := by simp [preX, hj']
      have HBD : Hid (Op.bytesLess ss[j].toList ss[j + 1].toList = false → R = false) := fun h => HR.out.trans (rowUpto_bad hlt' (by rw [hpre]; exact rowOk_less h) _ hlt')
      have HGD : Hid (Op.bytesLess ss[j].toList ss[j + 1].toList = true → rowUpto (fun _ => true) id ss (j + 1 + 1) = true) := fun h => rowUpto_step hlt' hh.out (by rw [hpre, rowOk_some rfl]; exact h)
      obtain ⟨c, hc0⟩ : ∃ c, c = ss[j] := ⟨_, rfl⟩
      obtain ⟨d, hd0'⟩ : ∃ d, d = ss[j + 1] := ⟨_, rfl⟩
      rw [← hc0] at yv HBD HGD
      rw [← hd0'] at xv HBD HGD
      clear ha hpre hc0 hd0' hh
      have hj0 : (0 : Int) ≤ (j : Int) + 1 := by omega
      have hj2 : (j : Int) + 1 < (ss.length : Int) := by omega
      have hj3 : (j : Int) < (ss.length : Int) := by omega
      have hjw : IntKind.i64.wrap (j : Int) = (j : Int) := IntWalk.i64_in _ ⟨by omega, by omega⟩
      have hd0 : Below wr.heap.size wr wr.drew := (Below.refl _ _).drew
      have KEEP : Hid (∀ w1, Below wr.heap.size wr w1 → w1.cell? ⟨b, off + j, none⟩ = some (.string c) ∧ w1.cell? ⟨b, off + (j + 1), none⟩ = some (.string d)) := fun w1 h => ⟨(h.cell (by simpa using hbb)).trans yv, (h.cell (by simpa using hbb)).trans xv⟩
      clear yv xv
      go_wp2_with fail
      refine wp_region_held_drew (S := (fun w' => w'.cell? ⟨b, off + j, none⟩ = some (.string c) ∧ w'.cell? ⟨b, off + (j + 1), none⟩ = some (.string d))) (by kernel_rfl) ?SR20 (fun hHeld => ?_)
      case SR20 => (with_reducible exact KEEP.out _ hd0)
      refine wpAnyH_take (i := 0) (oi := _) (v := ?vR20) rfl (by kernel_rfl) (by kernel_rfl) (by kernel_rfl) (fun _ _ _ h => h) (Or.inl ⟨by rfl, ?yR20⟩) hHeld ?_
      case yR20 => (intro w hSw; (try dsimp only at hSw); go_simp <;> with_reducible rfl)
      try simp only [Act.put, List.getElem_toArray, List.getElem_cons_zero, List.getElem_cons_succ, List.setIfInBounds_toArray, List.set_cons_zero, List.set_cons_succ]
      refine wpAnyH_take (i := 1) (oi := _) (v := ?vR21) rfl (by kernel_rfl) (by kernel_rfl) (by kernel_rfl) (fun _ _ _ h => h) (Or.inl ⟨by rfl, ?yR21⟩) hHeld ?_
      case yR21 => (intro w hSw; (try dsimp only at hSw); go_simp <;> with_reducible rfl)
      try simp only [Act.put, List.getElem_toArray, List.getElem_cons_zero, List.getElem_cons_succ, List.setIfInBounds_toArray, List.set_cons_zero, List.set_cons_succ]
      refine wpAnyH_take (i := 2) (oi := _) (v := ?vR22) rfl (by kernel_rfl) (by kernel_rfl) (by kernel_rfl) (fun _ _ _ h => h) (Or.inl ⟨by rfl, ?yR22⟩) hHeld ?_
      case yR22 => (intro w hSw; (try dsimp only at hSw); go_simp <;> with_reducible rfl)
      try simp only [Act.put, List.getElem_toArray, List.getElem_cons_zero, List.getElem_cons_succ, List.setIfInBounds_toArray, List.set_cons_zero, List.set_cons_succ]
      refine wpAnyH_take (i := 3) (oi := _) (v := ?vR23) rfl (by kernel_rfl) (by kernel_rfl) (by kernel_rfl) (fun _ _ _ h => h) (Or.inl ⟨by rfl, ?yR23⟩) hHeld ?_
      case yR23 => (intro w hSw; (try dsimp only at hSw); go_simp <;> with_reducible rfl)
      try simp only [Act.put, List.getElem_toArray, List.getElem_cons_zero, List.getElem_cons_succ, List.setIfInBounds_toArray, List.set_cons_zero, List.set_cons_succ]
      refine wpAnyH_take (i := 4) (oi := _) (v := ?vR24) rfl (by kernel_rfl) (by kernel_rfl) (by kernel_rfl) (fun _ _ _ h => h) (Or.inl ⟨by rfl, ?yR24⟩) hHeld ?_
      case yR24 => (intro w hSw; (try dsimp only at hSw); go_simp <;> with_reducible rfl)
      try simp only [Act.put, List.getElem_toArray, List.getElem_cons_zero, List.getElem_cons_succ, List.setIfInBounds_toArray, List.set_cons_zero, List.set_cons_succ]
      refine wpAnyH_take (i := 5) (oi := _) (v := ?vR25) rfl (by kernel_rfl) (by kernel_rfl) (by kernel_rfl) (fun _ _ _ h => h) (Or.inl ⟨by rfl, ?yR25⟩) hHeld ?_
      case yR25 => (intro w hSw; (try dsimp only at hSw); go_simp <;> with_reducible rfl)
      try simp only [Act.put, List.getElem_toArray, List.getElem_cons_zero, List.getElem_cons_succ, List.setIfInBounds_toArray, List.set_cons_zero, List.set_cons_succ]
      refine wpAnyH_take (i := 6) (oi := _) (v := ?vR26) rfl (by kernel_rfl) (by kernel_rfl) (by kernel_rfl) (fun _ _ _ h => h) (Or.inl ⟨by rfl, ?yR26⟩) hHeld ?_
      case yR26 => (intro w hSw; (try dsimp only at hSw); go_simp <;> with_reducible rfl)
      try simp only [Act.put, List.getElem_toArray, List.getElem_cons_zero, List.getElem_cons_succ, List.setIfInBounds_toArray, List.set_cons_zero, List.set_cons_succ]
      refine wpAnyH_take (i := 7) (oi := _) (v := ?vR27) rfl (by kernel_rfl) (by kernel_rfl) (by kernel_rfl) (fun _ _ _ h => h) (Or.inl ⟨by rfl, ?yR27⟩) hHeld ?_
      case yR27 => (intro w hSw; (try dsimp only at hSw); go_simp <;> with_reducible rfl)
      try simp only [Act.put, List.getElem_toArray, List.getElem_cons_zero, List.getElem_cons_succ, List.setIfInBounds_toArray, List.set_cons_zero, List.set_cons_succ]
      refine wpAnyH_take (i := 8) (oi := _) (v := ?vR28) rfl (by kernel_rfl) (by kernel_rfl) (by kernel_rfl) (fun _ _ _ h => h) (Or.inl ⟨by rfl, ?yR28⟩) hHeld ?_
      case yR28 => (intro w hSw; (try dsimp only at hSw); go_simp <;> with_reducible rfl)
      try simp only [Act.put, List.getElem_toArray, List.getElem_cons_zero, List.getElem_cons_succ, List.setIfInBounds_toArray, List.set_cons_zero, List.set_cons_succ]
      refine wpAnyH_take (i := 9) (oi := _) (v := ?vR29) rfl (by kernel_rfl) (by kernel_rfl) (by kernel_rfl) (fun _ _ _ h => h) (Or.inl ⟨by rfl, ?yR29⟩) hHeld ?_
      case yR29 => (intro w hSw; (try dsimp only at hSw); go_simp <;> with_reducible rfl)
      try simp only [Act.put, List.getElem_toArray, List.getElem_cons_zero, List.getElem_cons_succ, List.setIfInBounds_toArray, List.set_cons_zero, List.set_cons_succ]
      refine wpAnyH_done (by kernel_rfl) ?_ _
      go_wp2_with fail
      · have hlx : (!Op.bytesLess c.toList d.toList) = true := by assumption
        go_ret
        exact ⟨by rw [HBD.out (by simpa using hlx)]; rfl, hbr.trans (hd0.mono hbr.size)⟩
      · have hlx : (!Op.bytesLess c.toList d.toList) = false := by assumption
        go_roundw
        case rel => exact ⟨j + 1 + 1, by omega, .inl (by omega), by go_num, HGD.out (by simpa using hlx), hbr.trans (hd0.mono hbr.size)⟩
        case measure => simp [intOf]; omega
    · have HE : Hid (R = true) := HR.out.trans (asc_end hk1 hlt' hk hh.out)
      clear ha hh
      go_wp2_with fail
      go_ret
      exact ⟨by rw [HE.out]; rfl, hbr⟩

set_option maxHeartbeats 2000000 in
set_option maxRecDepth 100000 in
theorem l7Names_c (v : Value) (ss : List ByteArray) (w : World) (hv : Reads w v (strsV ss)) (hs : saneP ss) :
    Calls Tryz.prog 72 #[v] w fun e w' => e = .returned (.bool (ss.all nameB)) ∧ Below w.heap.size w w' := by
  obtain ⟨a, cap, rfl, _, ha⟩ := reads_strs hv
  obtain ⟨hl, hsz⟩ := hs
  clear hv
  unfold maxLen at hl
  obtain ⟨R, hR⟩ : ∃ R, R = ss.all nameB := ⟨_, rfl⟩
  rw [← hR]
  have HR := hidden hR
  clear hR
  go_enter Tryz.func72, Tryz.ntmps72
  go_wp2_with fail
  go_loopw [3] (fun vi wr => ∃ k : Nat, k ≤ ss.length ∧ vi = .int .i64 (k : Int) ∧ Hid (∀ j (hj : j < ss.length), j < k → nameB ss[j] = true) ∧ Below w.heap.size w wr) (fun vi _ => ss.length - (intOf vi).toNat)
  case atStart => exact ⟨0, Nat.zero_le _, rfl, (fun j hj h => by omega), Below.refl _ _⟩
  case round =>
    obtain ⟨k, hk, rfl, hno, hbr⟩ := hrel
    by_cases hlt' : k < ss.length
    · rcases ha with rfl | ⟨b, off, rfl, hlt, ha⟩
      · simp at hlt'
      have e0 : wr.cell? ⟨b, off + k, none⟩ = some (.string ss[k]) := (hbr.cell (by simpa using hlt)).trans (ha k hlt')
      have hsk := hsz ss[k] (List.getElem_mem hlt')
      have HT : Hid (nameB ss[k] = false → R = false) := fun h => HR.out.trans (by rw [List.all_eq_false]; exact ⟨_, List.getElem_mem hlt', by simp [h]⟩)
      have HN : Hid (nameB ss[k] = true → ∀ j (hj : j < ss.length), j < k + 1 → nameB ss[j] = true) := fun h j hj hjk => by
        by_cases e : j = k
        · subst e; exact h
        · exact hno.out j hj (by omega)
      obtain ⟨t, ht⟩ : ∃ t, t = ss[k] := ⟨_, rfl⟩
      rw [← ht] at e0 hsk HT HN
      have HC := specName_c t hsk wr
      obtain ⟨r, hr⟩ : ∃ r, r = nameB t := ⟨_, rfl⟩
      rw [← hr] at HC HT HN
      have HC2 := hidden HC
      have hki : (k : Int) < (ss.length : Int) := by omega
      clear ha ht hno HC hr hsz hsk
      cases r with
      | false =>
        have HT2 := hidden (HT.out rfl)
        clear HT HN
        go_wp2_with (go_at_call 71; refine HC2.out.mono ?_; rintro e w1 ⟨rfl, rfl⟩)
        go_ret
        exact ⟨by rw [HT2.out]; rfl, hbr⟩
      | true =>
        have HN2 := hidden (HN.out rfl)
        clear HT HN
        go_wp2_with (go_at_call 71; refine HC2.out.mono ?_; rintro e w1 ⟨rfl, rfl⟩)
        go_roundw
        case rel => exact ⟨k + 1, by omega, by go_num, HN2.out, hbr⟩
        case measure => simp [intOf]; omega
    · have he : k = ss.length := by omega
      subst he
      have HE : Hid (R = true) := HR.out.trans (List.all_eq_true.2 (fun x hx => by obtain ⟨j, hj, rfl⟩ := List.mem_iff_getElem.1 hx; exact hno.out j hj hj))
      clear ha hno HR hsz
      go_wp2_with fail
      go_ret
      exact ⟨by rw [HE.out]; rfl, hbr⟩
end Go.Proofs.YtlnofdlhjeomfaaGreatDoor
