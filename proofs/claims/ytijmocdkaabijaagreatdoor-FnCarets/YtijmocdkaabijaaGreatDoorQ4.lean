/-
  Contracts for the walks, several texts in one: each part says what it proves, and under which conditions.
-/
import Derived.Shelf.Strings.Builder1
import Derived.Shelf.Small.Utf8
import Derived.Shelf.Small.Bits
import Derived.Shelf.Small.Strs
import Derived.Shelf.Strings.BuilderF
import Derived.Shelf.Utf8.RuneCount
import Derived.Shelf.Strconv.Itoa0
import Derived.Shelf.Strconv.Itoa1
import Derived.Shelf.LaysM
import Derived.Shelf.Strconv.Itoa2
import Derived.Shelf.Strconv.Itoa3
import Derived.Shelf.Strconv.Clone
import Derived.Shelf.Strings.Search1
import Derived.Shelf.Strings.Search2
import Derived.Shelf.Strings.Search3
import Derived.Shelf.Strings.Count
import Derived.Shelf.Strings.Shaped
import Derived.Shelf.Strings.Split
import Derived.Shelf.Strings.SplitShaped
import Derived.Shelf.Unicode.Decode
import Derived.Shelf.Strings.Runes
import Derived.Shelf.Strings.RuneCount
import Derived.Shelf.Strings.AsciiSet
import Derived.Shelf.Strings.Explode
import Derived.Shelf.Unicode.DecodeSlow
import Derived.Shelf.Unicode.DecodeAny
import Derived.Shelf.Unicode.DecodeLast
import Derived.Ground.Names2Prog
import Derived.Shelf.Slices.SearchI
import Derived.Test.YtijmocdkaabijaaGreatDoorProg
import Derived.Lib.Builder
import Derived.Lib.AppendStr
import Derived.Lib.UnsafeStr
import Derived.Laws.Externs
import Derived.Laws.BytesArg
import Derived.Sort.Grow
import Derived.Lib.AppendIntMem
import Derived.Test.YtijmocdkaabijaaGreatDoorQ1
import Derived.Test.YtijmocdkaabijaaGreatDoorQ3
import Derived.Test.YtijmocdkaabijaaGreatDoorQ2

/-! What is read as a version, or as a part of one, the program's: a contract for the walks; condition: the text has at most 2 to the 20 bytes. -/
namespace Go.Proofs.YtijmocdkaabijaaGreatDoor
open Go.RowKit
set_option linter.unusedSimpArgs false
set_option linter.unusedVariables false

def xT : ByteArray := ⟨#[120]⟩
/-- How many words are told: those at the end that are x are not, but for the first. -/
def stripK (ws : List ByteArray) : Nat → Nat
  | 0 => 0
  | n + 1 => if 1 < n + 1 ∧ ws.getD n ⟨#[]⟩ = xT then stripK ws n else n + 1
def toldW (ws : List ByteArray) : Nat := stripK ws ws.length
def partW (ws : List ByteArray) : Option (Int × Int × Int) :=
  if 3 < ws.length ∨ toldW ws = 3 then none
  else if toldW ws = 1 then (if numGood (ws.getD 0 ⟨#[]⟩) 9999 then some (numOut (ws.getD 0 ⟨#[]⟩) 9999, 0, 1) else none)
  else (if numGood (ws.getD 0 ⟨#[]⟩) 9999 && numGood (ws.getD 1 ⟨#[]⟩) 9999 then some (numOut (ws.getD 0 ⟨#[]⟩) 9999, numOut (ws.getD 1 ⟨#[]⟩) 9999, 2) else none)
/-- What is read as a version, or a part of one: three numbers, a Pre, how many are told. -/
def partAll (s : ByteArray) : Option (Int × Int × Int × List ByteArray × Int) :=
  if resOk s then some (resN s 0, resN s 1, resN s 2, resP s, 3) else (partW (splitS s 46)).map fun x => (x.1, x.2.1, 0, [], x.2.2)
def partOk (s : ByteArray) : Bool := (partAll s).isSome
def partA (s : ByteArray) : Int := ((partAll s).getD (0, 0, 0, [], 0)).1
def partB' (s : ByteArray) : Int := ((partAll s).getD (0, 0, 0, [], 0)).2.1
def partC (s : ByteArray) : Int := ((partAll s).getD (0, 0, 0, [], 0)).2.2.1
def partP (s : ByteArray) : List ByteArray := ((partAll s).getD (0, 0, 0, [], 0)).2.2.2.1
def partT (s : ByteArray) : Int := ((partAll s).getD (0, 0, 0, [], 0)).2.2.2.2
def partOut (s : ByteArray) (u : Value) : Value := .tuple #[.agg #[.int .i64 (partA s), .int .i64 (partB' s), .int .i64 (partC s), u, .int .i64 (partT s)], .bool (partOk s)]
theorem partOut_ver {s : ByteArray} (h : resOk s = true) (u : Value) : partOut s u = .tuple #[.agg #[.int .i64 (resN s 0), .int .i64 (resN s 1), .int .i64 (resN s 2), u, .int .i64 3], .bool true] ∧ partP s = resP s := by
  simp [partOut, partA, partB', partC, partP, partT, partOk, partAll, h]
theorem partOut_none {s : ByteArray} (h : resOk s = false) (hp : partW (splitS s 46) = none) : partOut s (.slice none 0 0) = .tuple #[.agg #[.int .i64 0, .int .i64 0, .int .i64 0, .slice none 0 0, .int .i64 0], .bool false] ∧ partP s = [] := by
  simp [partOut, partA, partB', partC, partP, partT, partOk, partAll, h, hp]
theorem partOut_some {s : ByteArray} (h : resOk s = false) {a b t : Int} (hp : partW (splitS s 46) = some (a, b, t)) : partOut s (.slice none 0 0) = .tuple #[.agg #[.int .i64 a, .int .i64 b, .int .i64 0, .slice none 0 0, .int .i64 t], .bool true] ∧ partP s = [] := by
  simp [partOut, partA, partB', partC, partP, partT, partOk, partAll, h, hp]

theorem stripK_le (ws : List ByteArray) : ∀ n, stripK ws n ≤ n
  | 0 => Nat.le_refl _
  | n + 1 => by
    rw [stripK]
    split
    · have := stripK_le ws n; omega
    · omega
theorem stripK_pos (ws : List ByteArray) : ∀ n, 0 < n → 0 < stripK ws n
  | 0, h => by omega
  | n + 1, _ => by
    rw [stripK]
    split
    · exact stripK_pos ws n (by omega)
    · omega

/-- The block N holds these three cells. -/
def Three (w : World) (N : Nat) (t : TypeId) (c0 c1 c2 : Value) : Prop := w.heap[N]? = some (.cells #[c0, c1, c2] t (0, 0))
theorem Three.lt {w : World} {N : Nat} {t : TypeId} {c0 c1 c2 : Value} (h : Three w N t c0 c1 c2) : N < w.heap.size := (Array.getElem?_eq_some_iff.1 h).1
theorem Three.cells {w : World} {N : Nat} {t : TypeId} {c0 c1 c2 : Value} (h : Three w N t c0 c1 c2) : w.cell? ⟨N, 0, none⟩ = some c0 ∧ w.cell? ⟨N, 1, none⟩ = some c1 ∧ w.cell? ⟨N, 2, none⟩ = some c2 := ⟨vblk_cell h 0, vblk_cell h 1, vblk_cell h 2⟩
theorem Three.set {w : World} {N : Nat} {t : TypeId} {c0 c1 c2 : Value} (h : Three w N t c0 c1 c2) (v : Value) : Three (w.setCell ⟨N, 0, none⟩ v) N t v c1 c2 ∧ Three (w.setCell ⟨N, 1, none⟩ v) N t c0 v c2 :=
  ⟨heap_setCell_same w N 0 _ t v h, heap_setCell_same w N 1 _ t v h⟩
theorem three_new (w : World) (t : TypeId) (c0 c1 c2 : Value) : Three (w.alloc (.cells #[c0, c1, c2] t)) w.heap.size t c0 c1 c2 := vheap_new _ _
theorem Five.far {w : World} {R N j : Nat} {t : TypeId} {c0 c1 c2 c3 c4 : Value} (h : Five w R t c0 c1 c2 c3 c4) (hn : R ≠ N) (v : Value) : Five (w.setCell ⟨N, j, none⟩ v) R t c0 c1 c2 c3 c4 := (Below.heap_setCell w ⟨N, j, none⟩ v R hn).trans h
end Go.Proofs.YtijmocdkaabijaaGreatDoor

/-! What is read as a version, or as a part of one, the program's: the contract; condition: the text has at most 2 to the 20 bytes. -/
namespace Go.Proofs.YtijmocdkaabijaaGreatDoor
open Go.RowKit
set_option linter.unusedSimpArgs false
set_option linter.unusedVariables false

theorem stripK_step {ws : List ByteArray} {k : Nat} (hk : 1 < k) (hl : k ≤ ws.length) (h : ws.getD (k - 1) ⟨#[]⟩ = xT) : stripK ws k = stripK ws (k - 1) := by
  obtain ⟨m, rfl⟩ : ∃ m, k = m + 1 := ⟨k - 1, by omega⟩
  rw [stripK, if_pos ⟨hk, by simpa using h⟩]
  rfl
theorem stripK_stop {ws : List ByteArray} {k : Nat} (hk : 0 < k) (h : ¬ (1 < k ∧ ws.getD (k - 1) ⟨#[]⟩ = xT)) : stripK ws k = k := by
  obtain ⟨m, rfl⟩ : ∃ m, k = m + 1 := ⟨k - 1, by omega⟩
  rw [stripK, if_neg (by simpa using h)]

set_option maxHeartbeats 2000000 in
set_option maxRecDepth 100000 in
theorem parsePart_c (s : ByteArray) (hs : s.size ≤ 1048576) (w : World) :
    Calls Tryz.prog 87 #[.string s] w fun e w' => ∃ u, e = .returned (partOut s u) ∧ w'.ownsRow w.heap.size 9 1 u (partP s).length (strsV (partP s)) ∧ Below w.heap.size w w' := by
  have hbx : Below w.heap.size w (w.alloc (.cells #[.int .i64 0, .int .i64 0, .int .i64 0, .slice none 0 0, .int .i64 0] 137)) := (Below.refl _ _).alloc (Nat.le_refl _) _
  have R0 := five_new w 137 (.int .i64 0) (.int .i64 0) (.int .i64 0) (.slice none 0 0) (.int .i64 0)
  have HP := implParse_c s hs (w.alloc (.cells #[.int .i64 0, .int .i64 0, .int .i64 0, .slice none 0 0, .int .i64 0] 137))
  have hs0 : (w.alloc (.cells #[.int .i64 0, .int .i64 0, .int .i64 0, .slice none 0 0, .int .i64 0] 137)).heap.size = w.heap.size + 1 := by simp
  unfold verOut at HP
  rw [hs0] at HP
  obtain ⟨y1, hy1⟩ : ∃ y, y = resN s 0 := ⟨_, rfl⟩
  obtain ⟨y2, hy2⟩ : ∃ y, y = resN s 1 := ⟨_, rfl⟩
  obtain ⟨y3, hy3⟩ : ∃ y, y = resN s 2 := ⟨_, rfl⟩
  obtain ⟨py, hpy⟩ : ∃ y, y = resP s := ⟨_, rfl⟩
  obtain ⟨ok, hok⟩ : ∃ y, y = resOk s := ⟨_, rfl⟩
  rw [← hy1, ← hy2, ← hy3, ← hpy, ← hok] at HP
  have HV : Hid (ok = true → ∀ u, partOut s u = .tuple #[.agg #[.int .i64 y1, .int .i64 y2, .int .i64 y3, u, .int .i64 3], .bool true] ∧ partP s = py) := fun h u => by rw [hy1, hy2, hy3, hpy]; exact partOut_ver (hok ▸ h) u
  have HN : Hid (ok = false → partW (splitS s 46) = none → partOut s (.slice none 0 0) = .tuple #[.agg #[.int .i64 0, .int .i64 0, .int .i64 0, .slice none 0 0, .int .i64 0], .bool false] ∧ partP s = []) := fun h h2 => partOut_none (hok ▸ h) h2
  have HM : Hid (ok = false → ∀ a b t, partW (splitS s 46) = some (a, b, t) → partOut s (.slice none 0 0) = .tuple #[.agg #[.int .i64 a, .int .i64 b, .int .i64 0, .slice none 0 0, .int .i64 t], .bool true] ∧ partP s = []) := fun h a b t h2 => partOut_some (hok ▸ h) h2
  have HS : Hid (∀ w1, Calls Tryz.prog 44 #[.string s, .int .u8 46] w1 fun e w' => ∃ v, e = .returned v ∧ w'.ownsRow w1.heap.size 9 1 v (splitS s 46).length (strsV (splitS s 46)) ∧ Below w1.heap.size w1 w') := fun w1 => implSplit_c s 46 w1 hs (by omega) (by omega)
  have hL := splitS_len s 46
  have hL0 := splitS_pos s 46
  have hpc := splitS_piece s 46
  obtain ⟨ws, hws⟩ : ∃ ws, ws = splitS s 46 := ⟨_, rfl⟩
  rw [← hws] at HN HM HS hL hL0 hpc
  clear hy1 hy2 hy3 hpy hok hws
  go_enter Tryz.func87, Tryz.ntmps87
  go_wp2_with fail
  go_at_call 85
  refine HP.mono ?_
  rintro e w1 ⟨uy, rfl, oy, b1⟩
  have R1 : Five w1 w.heap.size 137 (.int .i64 0) (.int .i64 0) (.int .i64 0) (.slice none 0 0) (.int .i64 0) := (b1.block _ (by omega)).trans R0
  have k1 := hbx.trans (b1.mono (by omega))
  obtain ⟨qy, ny, cy, hu⟩ : ∃ q n c, uy = .slice q n c := by rcases oy.2 with ⟨rfl, _⟩ | ⟨g, cap, cur, rfl, _⟩ <;> exact ⟨_, _, _, rfl⟩
  subst hu
  have tA : Below w1.heap.size w1 (w1.alloc (.cells #[.int .i64 y1, .int .i64 y2, .int .i64 y3, .slice qy ny cy] 26)) := (Below.refl _ _).alloc (Nat.le_refl _) _
  have R2 := R1.keep tA
  have k2 := k1.trans (tA.mono k1.size)
  have oy2 := owns_of_below oy tA
  have l1 := R1.lt
  clear HP R0 b1 hbx
  cases ok with
  | true =>
    obtain ⟨eO, eP⟩ := HV.out rfl (.slice qy ny cy)
    obtain ⟨x0, x1, x2, x3, x4⟩ := R1.cells
    have fx := vblk_frozen R1
    have HP2 : Hid (partP s = py) := eP
    have HO : Hid (partOut s (.slice qy ny cy) = .tuple #[.agg #[.int .i64 y1, .int .i64 y2, .int .i64 y3, .slice qy ny cy, .int .i64 3], .bool true]) := eO
    clear HV HN HM HS eO eP
    go_wp2_with fail
    refine bodyPost_ret (v := .tuple #[.agg #[.int .i64 y1, .int .i64 y2, .int .i64 y3, .slice qy ny cy, .int .i64 3], .bool true]) (by simp [results, Tryz.results87, go_sem, x0, x1, x2, x3, x4, l1]) rfl ⟨.slice qy ny cy, by rw [HO.out], ?_, ?_⟩
    · rw [HP2.out]
      refine owns_base (base := w.heap.size + 1) ?_ (by omega)
      refine World.ownsRow.alloc ?_ _
      repeat (refine owns_set ?_ (by simp) _)
      exact oy
    · refine Below.alloc ?_ (by simp; omega) _
      repeat (refine Below.setCell ?_ (by simp <;> omega) _)
      exact k1
  | false =>
  clear HV oy oy2 R1
  go_wp2_with fail
  generalize (w1.alloc (.cells #[.int .i64 y1, .int .i64 y2, .int .i64 y3, .slice qy ny cy] 26)) = W2 at R2 k2 tA ⊢
  go_at_call 44
  refine (HS.out _).mono ?_
  rintro e w3 ⟨v3, rfl, o3, b3⟩
  have R3 := R2.keep b3
  have k3 := k2.trans (b3.mono k2.size)
  have rw3 := reads_of_owns o3
  obtain ⟨qw, cw, hv, hcw, hc3⟩ := reads_strs rw3
  subst hv
  have l3 := R3.lt
  clear HS R2 b3 k2 tA k1 o3
  rcases hc3 with hw0 | ⟨bq, off, rfl, hbq, hcell⟩
  · rw [hw0] at hL0; simp at hL0
  go_wp2_with fail
  go_loop [7] (fun vk => ∃ k : Nat, 1 ≤ k ∧ k ≤ ws.length ∧ vk = .int .i64 (k : Int) ∧ Hid (stripK ws k = toldW ws)) (fun vk => (intOf vk).toNat)
  case atStart => exact ⟨ws.length, by omega, Nat.le_refl _, rfl, rfl⟩
  case round =>
    obtain ⟨k, hk1, hkL, rfl, hst⟩ := hrel
    by_cases h1 : 1 < k
    · have hcx := hcell (k - 1) (by omega)
      have hgd : ws.getD (k - 1) ⟨#[]⟩ = ws[k - 1] := by simp [List.getD_eq_getElem?_getD, show k - 1 < ws.length by omega]
      have h1' : (1 : Int) < (k : Int) := by omega
      have hkm : (k : Int) - 1 = ((k - 1 : Nat) : Int) := by omega
      obtain ⟨x, hx⟩ : ∃ x, x = ws[k - 1] := ⟨_, rfl⟩
      rw [← hx] at hcx hgd
      by_cases hxx : x = ⟨#[120]⟩
      · have HS2 : Hid (stripK ws (k - 1) = toldW ws) := by show _ = _; rw [← hst.out, stripK_step h1 hkL (hgd.trans hxx)]
        subst hxx
        have hkn : ((k - 1 : Nat) : Int) < (ws.length : Int) := by omega
        clear hcell rw3 hgd hx hst
        go_wp2_with fail
        go_round
        case rel => exact ⟨k - 1, by omega, by omega, by go_num, HS2⟩
        case measure => simp [intOf]; omega
      · have HK : Hid (toldW ws = k) := by show _ = _; rw [← hst.out]; exact stripK_stop (by omega) (fun h => hxx (hgd.symm.trans h.2))
        have hxb : (x.toList == [120]) = false := by rw [beq_eq_false_iff_ne]; intro h; exact hxx (bytes_eq_of_toList (by rw [h, ByteArray.toList_eq]))
        have hkn : ((k - 1 : Nat) : Int) < (ws.length : Int) := by omega
        clear hst hx hgd
        by_cases h3 : 3 < ws.length
        · have HPW : Hid (partW ws = none) := by show _ = _; rw [partW, if_pos (.inl h3)]
          have h3' : (3 : Int) < (ws.length : Int) := by omega
          obtain ⟨x0, x1, x2, x3, x4⟩ := R3.cells
          have fx := vblk_frozen R3
          clear hcell rw3 h3
          obtain ⟨eO, eP⟩ := HN.out (by first | rfl | exact True.intro) HPW.out
          have HO : Hid (partOut s (.slice none 0 0) = .tuple #[.agg #[.int .i64 0, .int .i64 0, .int .i64 0, .slice none 0 0, .int .i64 0], .bool false]) := eO
          have HP2 : Hid (partP s = []) := eP
          clear HN HM eO eP
          go_wp2_with fail
          refine bodyPost_ret (v := .tuple #[.agg #[.int .i64 0, .int .i64 0, .int .i64 0, .slice none 0 0, .int .i64 0], .bool false]) (by simp [results, Tryz.results87, go_sem, x0, x1, x2, x3, x4]) rfl ⟨.slice none 0 0, by rw [HO.out], (by rw [HP2.out]; exact ⟨rfl, .inl ⟨rfl, rfl⟩⟩), ?_⟩
          repeat (refine Below.setCell ?_ (by simp <;> omega) _)
          exact k3
        by_cases he3 : k = 3
        · have HPW : Hid (partW ws = none) := by show _ = _; rw [partW, if_pos (.inr (HK.out.trans he3))]
          subst he3
          have h3' : ¬ (3 : Int) < (ws.length : Int) := by omega
          obtain ⟨x0, x1, x2, x3, x4⟩ := R3.cells
          have fx := vblk_frozen R3
          clear hcell rw3 h3
          obtain ⟨eO, eP⟩ := HN.out (by first | rfl | exact True.intro) HPW.out
          have HO : Hid (partOut s (.slice none 0 0) = .tuple #[.agg #[.int .i64 0, .int .i64 0, .int .i64 0, .slice none 0 0, .int .i64 0], .bool false]) := eO
          have HP2 : Hid (partP s = []) := eP
          clear HN HM eO eP
          go_wp2_with fail
          refine bodyPost_ret (v := .tuple #[.agg #[.int .i64 0, .int .i64 0, .int .i64 0, .slice none 0 0, .int .i64 0], .bool false]) (by simp [results, Tryz.results87, go_sem, x0, x1, x2, x3, x4]) rfl ⟨.slice none 0 0, by rw [HO.out], (by rw [HP2.out]; exact ⟨rfl, .inl ⟨rfl, rfl⟩⟩), ?_⟩
          repeat (refine Below.setCell ?_ (by simp <;> omega) _)
          exact k3
        have hk2 : k ≤ 2 := by omega
        have h3' : ¬ (3 : Int) < (ws.length : Int) := by omega
        have he3' : ((k : Int) == 3) = false := by rw [beq_eq_false_iff_ne]; omega
        have hkc : (k : Int) ≤ (cw : Int) := by omega
        have tB : Below w3.heap.size w3 (w3.alloc (.cells #[.int .i64 0, .int .i64 0, .int .i64 0] 169)) := (Below.refl _ _).alloc (Nat.le_refl _) _
        have T0 := three_new w3 169 (.int .i64 0) (.int .i64 0) (.int .i64 0)
        have h3n := h3
        clear h3 he3
        go_wp2_with fail
        go_loopw [49] (fun vi wr => ∃ (i : Nat) (c0 c1 : Int), i ≤ k ∧ vi = .int .i64 (i : Int) ∧ Hid ((∀ j, j < i → numGood (ws.getD j ⟨#[]⟩) 9999 = true) ∧ (0 < i → c0 = numOut (ws.getD 0 ⟨#[]⟩) 9999) ∧ (1 < i → c1 = numOut (ws.getD 1 ⟨#[]⟩) 9999) ∧ (i ≤ 1 → c1 = 0)) ∧ Three wr w3.heap.size 169 (.int .i64 c0) (.int .i64 c1) (.int .i64 0) ∧ Below w3.heap.size w3 wr) (fun vi _ => k - (intOf vi).toNat)
        case atStart => exact ⟨0, 0, 0, Nat.zero_le _, rfl, ⟨fun j hj => by omega, fun h => by omega, fun h => by omega, fun _ => rfl⟩, T0, tB⟩
        case round =>
          obtain ⟨i, c0, c1, hik, rfl, hh, hT, hbr⟩ := hrel
          have hR := (hbr.block _ l3).trans R3
          have hRf : Five wr w.heap.size 137 (.int .i64 0) (.int .i64 0) (.int .i64 0) (.slice none 0 0) (.int .i64 0) := hR
          have hm := k3.trans (hbr.mono k3.size)
          clear T0 tB hR
          by_cases hlt : i < k
          · have hcx := hcell i (by omega)
            rw [← hbr.cell (p := ⟨bq, off + i, none⟩) hbq] at hcx
            have hsz : ws[i].size ≤ 1048576 := by have := hpc ws[i] (List.getElem_mem _); omega
            have hgd : ws.getD i ⟨#[]⟩ = ws[i] := by simp [List.getD_eq_getElem?_getD, show i < ws.length by omega]
            obtain ⟨x, hx⟩ : ∃ x, x = ws[i] := ⟨_, rfl⟩
            rw [← hx] at hcx hsz hgd
            have HG : Hid (ws.getD i ⟨#[]⟩ = x) := hgd
            obtain ⟨m, hm0⟩ : ∃ m, m = numOut x 9999 := ⟨_, rfl⟩
            obtain ⟨g, hg0⟩ : ∃ g, g = numGood x 9999 := ⟨_, rfl⟩
            have HC : Hid (∀ w1, Calls Tryz.prog 115 #[.string x, .int .i64 9999] w1 fun e w' => e = .returned (.tuple #[.int .i64 m, .bool g]) ∧ w1 = w') := fun w1 => by rw [hm0, hg0]; exact implNum_c x 9999 (by unfold maxLen; omega) w1
            have HMG : Hid (m = numOut x 9999 ∧ g = numGood x 9999) := ⟨hm0, hg0⟩
            have hki : (i : Int) < (k : Int) := by omega
            obtain ⟨z0, z1, z2⟩ := hT.cells
            have fz := vblk_frozen hT
            clear hcell rw3 hgd hx hm0 hg0
            cases g with
            | false =>
              have HPW : Hid (partW ws = none) := by
                show _ = _
                have hb : numGood (ws.getD i ⟨#[]⟩) 9999 = false := by rw [HG.out]; exact HMG.out.2.symm
                rw [partW, if_neg (by rw [HK.out]; omega)]
                rcases (show k = 1 ∨ k = 2 by omega) with h1 | h2
                · rw [if_pos (HK.out.trans h1)]
                  have : i = 0 := by omega
                  subst this
                  rw [hb]; rfl
                · rw [if_neg (by rw [HK.out]; omega)]
                  rcases (show i = 0 ∨ i = 1 by omega) with h0 | h0
                  · subst h0; rw [hb]; rfl
                  · subst h0; rw [hb, Bool.and_false]; rfl
              obtain ⟨x0, x1, x2, x3, x4⟩ := hRf.cells
              have fx := vblk_frozen hRf
              obtain ⟨eO, eP⟩ := HN.out (by first | rfl | exact True.intro) HPW.out
              have HO : Hid (partOut s (.slice none 0 0) = .tuple #[.agg #[.int .i64 0, .int .i64 0, .int .i64 0, .slice none 0 0, .int .i64 0], .bool false]) := eO
              have HP2 : Hid (partP s = []) := eP
              clear HN HM eO eP
              go_wp2_with (go_at_call 115; refine (HC.out _).mono ?_; rintro e w9 ⟨rfl, rfl⟩)
              refine bodyPost_ret (v := .tuple #[.agg #[.int .i64 0, .int .i64 0, .int .i64 0, .slice none 0 0, .int .i64 0], .bool false]) (by simp [results, Tryz.results87, go_sem, x0, x1, x2, x3, x4]) rfl ⟨.slice none 0 0, by rw [HO.out], (by rw [HP2.out]; exact ⟨rfl, .inl ⟨rfl, rfl⟩⟩), ?_⟩
              repeat (refine Below.setCell ?_ (by simp <;> omega) _)
              exact hm
            | true =>
              rcases (show i = 0 ∨ i = 1 by omega) with h0 | h0
              · subst h0
                try rw [Nat.add_zero] at hcx
                go_wp2_with (go_at_call 115; refine (HC.out _).mono ?_; rintro e w9 ⟨rfl, rfl⟩)
                go_roundw
                case rel => exact ⟨1, m, c1, by omega, by go_num, ⟨fun j hj => (by have : j = 0 := (by omega); subst this; rw [HG.out]; exact HMG.out.2.symm), fun _ => (by rw [HG.out]; exact HMG.out.1), fun h => by omega, fun _ => hh.out.2.2.2 (by omega)⟩, (hT.set _).1, hbr.setCell (Nat.le_refl _) _⟩
                case measure => simp [intOf]; omega
              · subst h0
                go_wp2_with (go_at_call 115; refine (HC.out _).mono ?_; rintro e w9 ⟨rfl, rfl⟩)
                go_roundw
                case rel => exact ⟨2, c0, m, by omega, by go_num, ⟨fun j hj => (by (by_cases e : j = 1); (· subst e; rw [HG.out]; exact HMG.out.2.symm); (· exact hh.out.1 j (by omega))), fun _ => hh.out.2.1 (by omega), fun _ => (by rw [HG.out]; exact HMG.out.1), fun h => by omega⟩, (hT.set _).2, hbr.setCell (Nat.le_refl _) _⟩
                case measure => simp [intOf]; omega
          · have he : i = k := by omega
            subst he
            have HPW : Hid (partW ws = some (c0, c1, (i : Int))) := by
              show _ = _
              obtain ⟨g1, g2, g3, g4⟩ := hh.out
              rw [partW, if_neg (by rw [HK.out]; omega)]
              rcases (show i = 1 ∨ i = 2 by omega) with h1 | h2
              · have e1 : (i : Int) = 1 := by omega
                rw [if_pos (HK.out.trans h1), if_pos (g1 0 (by omega)), g2 (by omega), g4 (by omega), e1]
              · have e1 : (i : Int) = 2 := by omega
                rw [if_neg (by rw [HK.out]; omega), g1 0 (by omega), g1 1 (by omega), g2 (by omega), g3 (by omega), e1]
                rfl
            obtain ⟨eO, eP⟩ := HM.out (by first | rfl | exact True.intro) _ _ _ HPW.out
            have HO : Hid (partOut s (.slice none 0 0) = .tuple #[.agg #[.int .i64 c0, .int .i64 c1, .int .i64 0, .slice none 0 0, .int .i64 (i : Int)], .bool true]) := eO
            have HP2 : Hid (partP s = []) := eP
            obtain ⟨z0, z1, z2⟩ := hT.cells
            obtain ⟨x0, x1, x2, x3, x4⟩ := hRf.cells
            have fx := vblk_frozen hRf
            clear HN HM eO eP hcell rw3
            go_wp2_with fail
            refine bodyPost_ret (v := .tuple #[.agg #[.int .i64 c0, .int .i64 c1, .int .i64 0, .slice none 0 0, .int .i64 (i : Int)], .bool true]) (by simp [results, Tryz.results87, go_sem, x0, x1, x2, x3, x4]) rfl ⟨.slice none 0 0, by rw [HO.out], (by rw [HP2.out]; exact ⟨rfl, .inl ⟨rfl, rfl⟩⟩), ?_⟩
            repeat (refine Below.setCell ?_ (by simp <;> omega) _)
            exact hm
    · have hk : k = 1 := by omega
      have HK : Hid (toldW ws = k) := by show _ = _; rw [← hst.out]; exact stripK_stop (by omega) (fun h => h1 h.1)
      have h1' : ¬ (1 : Int) < (k : Int) := by omega
      clear hst hk
      by_cases h3 : 3 < ws.length
      · have HPW : Hid (partW ws = none) := by show _ = _; rw [partW, if_pos (.inl h3)]
        have h3' : (3 : Int) < (ws.length : Int) := by omega
        obtain ⟨x0, x1, x2, x3, x4⟩ := R3.cells
        have fx := vblk_frozen R3
        clear hcell rw3 h3
        obtain ⟨eO, eP⟩ := HN.out (by first | rfl | exact True.intro) HPW.out
        have HO : Hid (partOut s (.slice none 0 0) = .tuple #[.agg #[.int .i64 0, .int .i64 0, .int .i64 0, .slice none 0 0, .int .i64 0], .bool false]) := eO
        have HP2 : Hid (partP s = []) := eP
        clear HN HM eO eP
        go_wp2_with fail
        refine bodyPost_ret (v := .tuple #[.agg #[.int .i64 0, .int .i64 0, .int .i64 0, .slice none 0 0, .int .i64 0], .bool false]) (by simp [results, Tryz.results87, go_sem, x0, x1, x2, x3, x4]) rfl ⟨.slice none 0 0, by rw [HO.out], (by rw [HP2.out]; exact ⟨rfl, .inl ⟨rfl, rfl⟩⟩), ?_⟩
        repeat (refine Below.setCell ?_ (by simp <;> omega) _)
        exact k3
      by_cases he3 : k = 3
      · omega
      have hk2 : k ≤ 2 := by omega
      have h3' : ¬ (3 : Int) < (ws.length : Int) := by omega
      have he3' : ((k : Int) == 3) = false := by rw [beq_eq_false_iff_ne]; omega
      have hkc : (k : Int) ≤ (cw : Int) := by omega
      have tB : Below w3.heap.size w3 (w3.alloc (.cells #[.int .i64 0, .int .i64 0, .int .i64 0] 169)) := (Below.refl _ _).alloc (Nat.le_refl _) _
      have T0 := three_new w3 169 (.int .i64 0) (.int .i64 0) (.int .i64 0)
      have h3n := h3
      clear h3 he3
      go_wp2_with fail
      go_loopw [49] (fun vi wr => ∃ (i : Nat) (c0 c1 : Int), i ≤ k ∧ vi = .int .i64 (i : Int) ∧ Hid ((∀ j, j < i → numGood (ws.getD j ⟨#[]⟩) 9999 = true) ∧ (0 < i → c0 = numOut (ws.getD 0 ⟨#[]⟩) 9999) ∧ (1 < i → c1 = numOut (ws.getD 1 ⟨#[]⟩) 9999) ∧ (i ≤ 1 → c1 = 0)) ∧ Three wr w3.heap.size 169 (.int .i64 c0) (.int .i64 c1) (.int .i64 0) ∧ Below w3.heap.size w3 wr) (fun vi _ => k - (intOf vi).toNat)
      case atStart => exact ⟨0, 0, 0, Nat.zero_le _, rfl, ⟨fun j hj => by omega, fun h => by omega, fun h => by omega, fun _ => rfl⟩, T0, tB⟩
      case round =>
        obtain ⟨i, c0, c1, hik, rfl, hh, hT, hbr⟩ := hrel
        have hR := (hbr.block _ l3).trans R3
        have hRf : Five wr w.heap.size 137 (.int .i64 0) (.int .i64 0) (.int .i64 0) (.slice none 0 0) (.int .i64 0) := hR
        have hm := k3.trans (hbr.mono k3.size)
        clear T0 tB hR
        by_cases hlt : i < k
        · have hcx := hcell i (by omega)
          rw [← hbr.cell (p := ⟨bq, off + i, none⟩) hbq] at hcx
          have hsz : ws[i].size ≤ 1048576 := by have := hpc ws[i] (List.getElem_mem _); omega
          have hgd : ws.getD i ⟨#[]⟩ = ws[i] := by simp [List.getD_eq_getElem?_getD, show i < ws.length by omega]
          obtain ⟨x, hx⟩ : ∃ x, x = ws[i] := ⟨_, rfl⟩
          rw [← hx] at hcx hsz hgd
          have HG : Hid (ws.getD i ⟨#[]⟩ = x) := hgd
          obtain ⟨m, hm0⟩ : ∃ m, m = numOut x 9999 := ⟨_, rfl⟩
          obtain ⟨g, hg0⟩ : ∃ g, g = numGood x 9999 := ⟨_, rfl⟩
          have HC : Hid (∀ w1, Calls Tryz.prog 115 #[.string x, .int .i64 9999] w1 fun e w' => e = .returned (.tuple #[.int .i64 m, .bool g]) ∧ w1 = w') := fun w1 => by rw [hm0, hg0]; exact implNum_c x 9999 (by unfold maxLen; omega) w1
          have HMG : Hid (m = numOut x 9999 ∧ g = numGood x 9999) := ⟨hm0, hg0⟩
          have hki : (i : Int) < (k : Int) := by omega
          obtain ⟨z0, z1, z2⟩ := hT.cells
          have fz := vblk_frozen hT
          clear hcell rw3 hgd hx hm0 hg0
          cases g with
          | false =>
            have HPW : Hid (partW ws = none) := by
              show _ = _
              have hb : numGood (ws.getD i ⟨#[]⟩) 9999 = false := by rw [HG.out]; exact HMG.out.2.symm
              rw [partW, if_neg (by rw [HK.out]; omega)]
              rcases (show k = 1 ∨ k = 2 by omega) with h1 | h2
              · rw [if_pos (HK.out.trans h1)]
                have : i = 0 := by omega
                subst this
                rw [hb]; rfl
              · rw [if_neg (by rw [HK.out]; omega)]
                rcases (show i = 0 ∨ i = 1 by omega) with h0 | h0
                · subst h0; rw [hb]; rfl
                · subst h0; rw [hb, Bool.and_false]; rfl
            obtain ⟨x0, x1, x2, x3, x4⟩ := hRf.cells
            have fx := vblk_frozen hRf
            obtain ⟨eO, eP⟩ := HN.out (by first | rfl | exact True.intro) HPW.out
            have HO : Hid (partOut s (.slice none 0 0) = .tuple #[.agg #[.int .i64 0, .int .i64 0, .int .i64 0, .slice none 0 0, .int .i64 0], .bool false]) := eO
            have HP2 : Hid (partP s = []) := eP
            clear HN HM eO eP
            go_wp2_with (go_at_call 115; refine (HC.out _).mono ?_; rintro e w9 ⟨rfl, rfl⟩)
            refine bodyPost_ret (v := .tuple #[.agg #[.int .i64 0, .int .i64 0, .int .i64 0, .slice none 0 0, .int .i64 0], .bool false]) (by simp [results, Tryz.results87, go_sem, x0, x1, x2, x3, x4]) rfl ⟨.slice none 0 0, by rw [HO.out], (by rw [HP2.out]; exact ⟨rfl, .inl ⟨rfl, rfl⟩⟩), ?_⟩
            repeat (refine Below.setCell ?_ (by simp <;> omega) _)
            exact hm
          | true =>
            rcases (show i = 0 ∨ i = 1 by omega) with h0 | h0
            · subst h0
              try rw [Nat.add_zero] at hcx
              go_wp2_with (go_at_call 115; refine (HC.out _).mono ?_; rintro e w9 ⟨rfl, rfl⟩)
              go_roundw
              case rel => exact ⟨1, m, c1, by omega, by go_num, ⟨fun j hj => (by have : j = 0 := (by omega); subst this; rw [HG.out]; exact HMG.out.2.symm), fun _ => (by rw [HG.out]; exact HMG.out.1), fun h => by omega, fun _ => hh.out.2.2.2 (by omega)⟩, (hT.set _).1, hbr.setCell (Nat.le_refl _) _⟩
              case measure => simp [intOf]; omega
            · omega
        · have he : i = k := by omega
          subst he
          have HPW : Hid (partW ws = some (c0, c1, (i : Int))) := by
            show _ = _
            obtain ⟨g1, g2, g3, g4⟩ := hh.out
            rw [partW, if_neg (by rw [HK.out]; omega)]
            rcases (show i = 1 ∨ i = 2 by omega) with h1 | h2
            · have e1 : (i : Int) = 1 := by omega
              rw [if_pos (HK.out.trans h1), if_pos (g1 0 (by omega)), g2 (by omega), g4 (by omega), e1]
            · have e1 : (i : Int) = 2 := by omega
              rw [if_neg (by rw [HK.out]; omega), g1 0 (by omega), g1 1 (by omega), g2 (by omega), g3 (by omega), e1]
              rfl
          obtain ⟨eO, eP⟩ := HM.out (by first | rfl | exact True.intro) _ _ _ HPW.out
          have HO : Hid (partOut s (.slice none 0 0) = .tuple #[.agg #[.int .i64 c0, .int .i64 c1, .int .i64 0, .slice none 0 0, .int .i64 (i : Int)], .bool true]) := eO
          have HP2 : Hid (partP s = []) := eP
          obtain ⟨z0, z1, z2⟩ := hT.cells
          obtain ⟨x0, x1, x2, x3, x4⟩ := hRf.cells
          have fx := vblk_frozen hRf
          clear HN HM eO eP hcell rw3
          go_wp2_with fail
          refine bodyPost_ret (v := .tuple #[.agg #[.int .i64 c0, .int .i64 c1, .int .i64 0, .slice none 0 0, .int .i64 (i : Int)], .bool true]) (by simp [results, Tryz.results87, go_sem, x0, x1, x2, x3, x4]) rfl ⟨.slice none 0 0, by rw [HO.out], (by rw [HP2.out]; exact ⟨rfl, .inl ⟨rfl, rfl⟩⟩), ?_⟩
          repeat (refine Below.setCell ?_ (by simp <;> omega) _)
          exact hm
end Go.Proofs.YtijmocdkaabijaaGreatDoor

/-! Whether a Cmp of a list has a version that is not right, the program's look: contracts for the walks; conditions: the list lies in memory as told, and holds no more than 2 to the 20. -/
namespace Go.Proofs.YtijmocdkaabijaaGreatDoor
open Go.RowKit
set_option linter.unusedSimpArgs false
set_option linter.unusedVariables false

def goodD (d : CmpD) : Bool := verB d.a d.b d.c d.ps

/-- What the call holds alone, read: each Cmp lies in its row. -/
theorem CmpsOwn.at {lo : Nat} {w : World} {v : Value} {ds : List CmpD} (h : CmpsOwn lo w v ds) : ∃ (q : Option Addr) (cap : Nat) (us : Nat → Value), v = .slice q ds.length cap ∧ (ds = [] ∨ ∃ g, q = some ⟨g, 0, none⟩ ∧ lo ≤ g ∧ g < w.heap.size ∧ ∀ i (h : i < ds.length), w.cell? ⟨g, i * 5, none⟩ = some (.int .i64 ds[i].o) ∧ w.cell? ⟨g, i * 5 + 1, none⟩ = some (.int .i64 ds[i].a) ∧ w.cell? ⟨g, i * 5 + 2, none⟩ = some (.int .i64 ds[i].b) ∧ w.cell? ⟨g, i * 5 + 3, none⟩ = some (.int .i64 ds[i].c) ∧ w.cell? ⟨g, i * 5 + 4, none⟩ = some (us i)) ∧ ∀ i (h : i < ds.length), Reads w (us i) (strsV ds[i].ps) := by
  obtain ⟨ys, us, h1, h2, h3⟩ := h
  have hr : ∀ i (h : i < ds.length), Reads w (us i) (strsV ds[i].ps) := fun i hi => reads_of_owns (h2 i hi).2
  have hlen := h1.1
  rcases h1.2 with ⟨rfl, hn⟩ | ⟨g, cap, cur, rfl, hg, hh, hx⟩
  · exact ⟨none, 0, us, by rw [hn], .inl (List.eq_nil_of_length_eq_zero hn), hr⟩
  · have hl := (Array.getElem?_eq_some_iff.1 hh).1
    refine ⟨_, cap, us, rfl, .inr ⟨g, rfl, hg, hl, fun i hi => ?_⟩, hr⟩
    obtain ⟨f0, f1, f2, f3, f4⟩ := (h2 i hi).1
    refine ⟨?_, ?_, ?_, ?_, ?_⟩ <;> rw [h1.cellAt _ (by omega)] <;> assumption

set_option maxHeartbeats 1000000 in
set_option maxRecDepth 100000 in
theorem badCmp_c (d : CmpD) (u : Value) (w : World) (hu : Reads w u (strsV d.ps)) (hb : bulkS d.ps ≤ 1048576) :
    Calls Tryz.prog 90 #[.agg #[.int .i64 d.o, .int .i64 d.a, .int .i64 d.b, .int .i64 d.c, u]] w fun e w' => e = .returned (.bool (!goodD d)) ∧ Below w.heap.size w w' := by
  have hbx : ∀ o, Below w.heap.size w (w.alloc o) := fun o => (Below.refl _ _).alloc (Nat.le_refl _) _
  have HV : Hid (∀ o, Calls Tryz.prog 21 #[.agg #[.int .i64 d.a, .int .i64 d.b, .int .i64 d.c, u]] (w.alloc o) fun e w' => e = .returned (.bool (goodD d)) ∧ Below (w.alloc o).heap.size (w.alloc o) w') := fun o => implVerOk_c _ _ _ _ d.ps _ (hu.below (hbx o)) hb
  obtain ⟨q, cap, rfl, _, _⟩ := reads_strs hu
  clear hu
  go_enter Tryz.func90, Tryz.ntmps90
  go_wp2_with (go_at_call 21; refine (HV.out _).mono ?_; rintro e w1 ⟨rfl, b1⟩)
  go_ret
  exact ⟨rfl, (hbx _).trans (b1.mono (by simp))⟩

set_option maxHeartbeats 1000000 in
set_option maxRecDepth 100000 in
theorem indexBad_c (lo : Nat) (v : Value) (ds : List CmpD) (w : World) (hv : CmpsOwn lo w v ds) (hl : ds.length ≤ 1048576) (hb : ∀ d ∈ ds, bulkS d.ps ≤ 1048576) :
    Calls Tryz.prog 127 #[v, .func (.func 90) #[] #[]] w fun e w' => ∃ r : Int, e = .returned (.int .i64 r) ∧ decide (r ≥ 0) = (!ds.all goodD) ∧ Below w.heap.size w w' := by
  obtain ⟨q, cap, us, rfl, ha, hr⟩ := hv.at
  clear hv
  go_enter Tryz.func127, Tryz.ntmps127
  go_wp2_with fail
  go_loopw [8] (fun vi wr => ∃ k : Nat, k ≤ ds.length ∧ vi = .int .i64 (k : Int) ∧ Hid ((ds.take k).all goodD = true) ∧ Below w.heap.size w wr) (fun vi _ => ds.length - (intOf vi).toNat)
  case atStart => exact ⟨0, Nat.zero_le _, rfl, (by show _ = _; simp), Below.refl _ _⟩
  case round =>
    obtain ⟨k, hk, rfl, hall, hbr⟩ := hrel
    by_cases hlt : k < ds.length
    · rcases ha with rfl | ⟨g, rfl, _, hg, ha⟩
      · simp at hlt
      obtain ⟨e0, e1, e2, e3, e4⟩ := ha k hlt
      rw [← hbr.cell (by simpa using hg)] at e0 e1 e2 e3 e4
      have hu := (hr k hlt).below hbr
      have hbk := hb _ (List.getElem_mem hlt)
      have HT : Hid (goodD ds[k] = true → (ds.take (k + 1)).all goodD = true) := fun h => by rw [List.take_succ_eq_append_getElem hlt, List.all_append, hall.out]; simp [h]
      have HF : Hid (goodD ds[k] = false → ds.all goodD = false) := fun h => by rw [List.all_eq_false]; exact ⟨_, List.getElem_mem hlt, by simp [h]⟩
      obtain ⟨d, hd⟩ : ∃ d, d = ds[k] := ⟨_, rfl⟩
      rw [← hd] at e0 e1 e2 e3 hu hbk HT HF
      obtain ⟨u, hu0⟩ : ∃ u, u = us k := ⟨_, rfl⟩
      rw [← hu0] at e4 hu
      obtain ⟨r, hr0⟩ : ∃ r, r = goodD d := ⟨_, rfl⟩
      have HC : Hid (Calls Tryz.prog 90 #[.agg #[.int .i64 d.o, .int .i64 d.a, .int .i64 d.b, .int .i64 d.c, u]] wr fun e w' => e = .returned (.bool (!r)) ∧ Below wr.heap.size wr w') := by rw [hr0]; exact badCmp_c d u wr hu hbk
      rw [← hr0] at HT HF
      obtain ⟨uq, ucap, hu2, _, _⟩ := reads_strs hu
      subst hu2
      have hki : (k : Int) < (ds.length : Int) := by omega
      clear ha hr hd hu0 hr0 hu hbk hb
      cases r with
      | false =>
        have HF2 : Hid (ds.all goodD = false) := HF.out rfl
        clear HT HF
        go_wp2_with (go_at_call 90; refine HC.out.mono ?_; rintro e w1 ⟨rfl, b1⟩)
        go_ret
        exact ⟨(k : Int), rfl, by rw [HF2.out]; exact decide_eq_true (by omega), hbr.trans (b1.mono hbr.size)⟩
      | true =>
        have HT2 : Hid ((ds.take (k + 1)).all goodD = true) := HT.out rfl
        clear HT HF
        go_wp2_with (go_at_call 90; refine HC.out.mono ?_; rintro e w1 ⟨rfl, b1⟩)
        go_roundw
        case rel => exact ⟨k + 1, by omega, by go_num, HT2, hbr.trans (b1.mono hbr.size)⟩
        case measure => simp [intOf]; omega
    · have he : k = ds.length := by omega
      subst he
      have HE : Hid (ds.all goodD = true) := by have := hall.out; rw [List.take_length] at this; exact this
      clear ha hr hall
      go_wp2_with fail
      go_ret
      exact ⟨-1, rfl, by rw [HE.out]; rfl, hbr⟩

set_option maxHeartbeats 1000000 in
set_option maxRecDepth 100000 in
theorem containsBad_c (lo : Nat) (v : Value) (ds : List CmpD) (w : World) (hv : CmpsOwn lo w v ds) (hl : ds.length ≤ 1048576) (hb : ∀ d ∈ ds, bulkS d.ps ≤ 1048576) :
    Calls Tryz.prog 89 #[v, .func (.func 90) #[] #[]] w fun e w' => e = .returned (.bool (!ds.all goodD)) ∧ Below w.heap.size w w' := by
  have HA := indexBad_c lo v ds w hv hl hb
  obtain ⟨q, cap, us, rfl, _, _⟩ := hv.at
  obtain ⟨R, hR⟩ : ∃ R, R = (!ds.all goodD) := ⟨_, rfl⟩
  rw [← hR] at HA
  rw [← hR]
  have HA' : Hid (Calls Tryz.prog 127 #[.slice q ds.length cap, .func (.func 90) #[] #[]] w fun e w' => ∃ r : Int, e = .returned (.int .i64 r) ∧ decide (r ≥ 0) = R ∧ Below w.heap.size w w') := HA
  clear HA hR hv
  go_enter Tryz.func89, Tryz.ntmps89
  go_wp2_with (go_at_call 127; refine HA'.out.mono ?_; rintro e w1 ⟨r, rfl, hr, b1⟩; have HR : Hid (decide (r ≥ 0) = R) := hr; clear hr)
  go_ret
  exact ⟨by rw [← HR.out]; rfl, b1⟩
end Go.Proofs.YtijmocdkaabijaaGreatDoor

/-! The contract of the library for the text that a Builder holds, taken over from the library of contracts at the numbers of this program; conditions as it says. -/
namespace Go.Proofs
open Go.Shelf
def Tryz.lays169_ren : Go.Shelf.Ren := ⟨fun | 169 => 57 | n => n, fun | 70 => 93 | 9 => 9 | 0 => 0 | 72 => 95 | 37 => 22 | 127 => 148 | 3 => 3 | 5 => 5 | n => n, fun | n => n⟩
theorem Tryz.lays169 : Go.Proofs.Lays.n169 Tryz.prog Tryz.lays169_ren := {
  mixed := by kernel_rfl
  f169 := Tryz.func57.trans (congrArg some (by kernel_rfl))
  t0 := Tryz.underlying0
  a0 := Tryz.isAgg0
  z0 := Tryz.sizeOf0
  v0 := Tryz.zeroValue0
  t3 := Tryz.underlying3
  a3 := Tryz.isAgg3
  z3 := Tryz.sizeOf3
  v3 := Tryz.zeroValue3
  t9 := Tryz.underlying9
  a9 := Tryz.isAgg9
  z9 := Tryz.sizeOf9
  v9 := Tryz.zeroValue9
  t37 := Tryz.underlying22
  a37 := Tryz.isAgg22
  z37 := Tryz.sizeOf22
  v37 := Tryz.zeroValue22
  t70 := Tryz.underlying93
  a70 := Tryz.isAgg93
  z70 := Tryz.sizeOf93
  v70 := Tryz.zeroValue93
  t72 := Tryz.underlying95
  a72 := Tryz.isAgg95
  z72 := Tryz.sizeOf95
  v72 := Tryz.zeroValue95
  t127 := Tryz.underlying148
  a127 := Tryz.isAgg148
  z127 := Tryz.sizeOf148
  v127 := Tryz.zeroValue148 }
theorem Tryz.Builder_Extra_169 : Builder.Extra Tryz.prog Tryz.lays169_ren := {
  sizeBuilder := by kernel_rfl
  liesBuilder := by kernel_rfl
  t5 := Tryz.underlying5
  a5 := Tryz.isAgg5
  z5 := Tryz.sizeOf5
  v5 := Tryz.zeroValue5
  infoByte := by kernel_rfl
  cellsByte := by kernel_rfl
  sizeByte := by kernel_rfl
  neB5 := by decide }
open Go.RowKit in
theorem Tryz.Builder_String (B b : Nat) (l : List UInt8) (w : World) (h : Lib.IsBuilder 95 5 B b (Lib.byteCells l) w) (h0 : l ≠ []) :
    Calls Tryz.prog 57 #[.pointer (some ⟨b, 0, none⟩)] w fun e w' => e = .returned (.string ⟨l.toArray⟩) ∧ Below B w w' := Any.Builder_String Tryz.lays169 Tryz.Builder_Extra_169 B b l w h h0
open Go.RowKit in
theorem Tryz.Builder_String_empty (B b : Nat) (w : World) (h : Lib.IsBuilder 95 5 B b [] w) (hBw : B ≤ w.heap.size) :
    Calls Tryz.prog 57 #[.pointer (some ⟨b, 0, none⟩)] w fun e w' => e = .returned (.string ⟨#[]⟩) ∧ Below B w w' := Any.Builder_String_empty Tryz.lays169 Tryz.Builder_Extra_169 B b w h hBw
open Go.RowKit in
theorem Tryz.Builder_String_any (B b : Nat) (l : List UInt8) (w : World) (h : Lib.IsBuilder 95 5 B b (Lib.byteCells l) w) (hBw : B ≤ w.heap.size) :
    Calls Tryz.prog 57 #[.pointer (some ⟨b, 0, none⟩)] w fun e w' => e = .returned (.string ⟨l.toArray⟩) ∧ Below B w w' := Any.Builder_String_any Tryz.lays169 Tryz.Builder_Extra_169 B b l w h hBw
end Go.Proofs

/-! What writing a text into a Builder of the call's own does, walked at this program's own copy of the library's text: the Builder holds the bytes behind those that it held; condition: together at most 2 to the 47. -/
namespace Go.Proofs.YtijmocdkaabijaaGreatDoor
open Go.RowKit
set_option linter.unusedSimpArgs false
set_option linter.unusedVariables false

theorem sizeBuilder : (Tryz.prog.info? 95).map (·.size) = some 2 := by kernel_rfl

set_option maxHeartbeats 1000000 in
set_option maxRecDepth 100000 in
theorem check_used (b : Nat) (w : World) (h0 : w.cell? ⟨b, 0, none⟩ = some (.pointer (some ⟨b, 0, none⟩))) :
    Calls Tryz.prog 97 #[.pointer (some ⟨b, 0, none⟩)] w fun e w' => e = .returned (.tuple #[]) ∧ w = w' := by
  obtain ⟨j, hj, _⟩ := Option.map_eq_some_iff.1 sizeBuilder
  have hne := Lib.run_neq_ptr_same w (⟨b, 0, none⟩ : Addr) Tryz.underlying93 hj
  go_enter Tryz.func97, Tryz.ntmps97
  go_wp2
  go_end0
  exact ⟨rfl, rfl⟩

set_option maxHeartbeats 1000000 in
set_option maxRecDepth 100000 in
theorem check_fresh (b : Nat) (w : World) (h0 : w.cell? ⟨b, 0, none⟩ = some (.pointer none)) (hsh : w.shape? b = some (95, 2)) (hfz : w.frozen? ⟨b, 0, none⟩ = false) :
    Calls Tryz.prog 97 #[.pointer (some ⟨b, 0, none⟩)] w fun e w' => e = .returned (.tuple #[]) ∧ w.setCell ⟨b, 0, none⟩ (.pointer (some ⟨b, 0, none⟩)) = w' := by
  obtain ⟨j, hj, hjs⟩ := Option.map_eq_some_iff.1 sizeBuilder
  have u1 := Lib.run_to_unsafe w ⟨b, 0, none⟩ Tryz.underlying93 Tryz.underlying174 hj (by rw [hjs]; decide) hsh (Nat.zero_lt_succ 1)
  have u2 := Lib.run_from_unsafe w ⟨b, 0, none⟩ Tryz.underlying174 Tryz.underlying93 hj hsh (by kernel_rfl)
  have u3 : ∀ v w, (callFunc 131 #[v]).run Tryz.prog w = .ok (.value v) w := fun v w => by
    rw [run_callFunc_extern Tryz.func131 (by kernel_rfl) (by kernel_rfl) (by kernel_rfl) (e := Extern.AbiNoEscape.same) (by kernel_rfl), Lib.run_noEscape]
    rfl
  go_enter Tryz.func97, Tryz.ntmps97
  go_wp2
  go_end0
  exact ⟨rfl, rfl⟩

theorem check_c (B b : Nat) (bs : List Value) (w : World) (h : Lib.IsBuilder 95 5 B b bs w) :
    Calls Tryz.prog 97 #[.pointer (some ⟨b, 0, none⟩)] w fun e w' => e = .returned (.tuple #[]) ∧ (Lib.BuilderAt 95 5 B b (.pointer (some ⟨b, 0, none⟩)) bs w' ∧ Below B w w') := by
  rcases h with h | h
  · exact (check_fresh b w h.cell0 h.shape h.frozen0).mono fun e w' ⟨h1, h2⟩ => by
      subst h2
      exact ⟨h1, h.used _, (Below.refl B w).setCell (p := ⟨b, 0, none⟩) h.1 _⟩
  · exact (check_used b w h.cell0).mono fun e w' ⟨h1, h2⟩ => by
      subst h2
      exact ⟨h1, h, Below.refl B _⟩

set_option maxHeartbeats 2000000 in
set_option maxRecDepth 100000 in
theorem write_c (B b : Nat) (bs : List Value) (s : ByteArray) (w : World) (h : Lib.IsBuilder 95 5 B b bs w) (hlen : bs.length + s.size ≤ 140737488355328) (hBw : B ≤ w.heap.size) :
    Calls Tryz.prog 56 #[.pointer (some ⟨b, 0, none⟩), .string s] w fun e w' => e = .returned (.tuple #[.int .i64 s.size, .nilIface]) ∧ (Lib.BuilderAt 95 5 B b (.pointer (some ⟨b, 0, none⟩)) (bs ++ Lib.strCells s) w' ∧ Below B w w') := by
  obtain ⟨i0, hi, hz0, hz1, hz2⟩ := info_parts info5
  go_enter Tryz.func56, Tryz.ntmps56
  go_wp2_with (first
    | (go_at_call 97
       refine (check_c B b bs _ h).mono ?_
       rintro e w1 ⟨rfl, h1, hb1⟩
       obtain ⟨hB, v, hbk, hown, hne⟩ := h1
       have c0 : w1.cell? ⟨b, 0, none⟩ = some (.pointer (some ⟨b, 0, none⟩)) := by rw [Lib.cell_of_heap hbk]; rfl
       have c1 : w1.cell? ⟨b, 1, none⟩ = some v := by rw [Lib.cell_of_heap hbk]; rfl)
    | (at_builtin; refine Lib.wpList_append_own_string _ rfl _ _ 22 9 rfl B 5 i0 Tryz.underlying22 Tryz.underlying9 hi hz0 hz1 hz2 _ bs.length bs rfl hown s rfl (by unfold maxLen; omega) hlen (Nat.le_trans hBw hb1.size) ?_))
  intro v' w2 hown' hgrow hnil
  have hlt : b < w1.heap.size := (Array.getElem?_eq_some_iff.1 hbk).1
  have hb2 : w2.heap[b]? = some (.cells #[.pointer (some ⟨b, 0, none⟩), v] 95 (0, 0)) := by
    rw [hgrow.block b hlt (fun e => hne e.symm)]
    exact hbk
  have d0 : w2.cell? ⟨b, 0, none⟩ = some (.pointer (some ⟨b, 0, none⟩)) := by rw [Lib.cell_of_heap hb2]; rfl
  have d1 : w2.cell? ⟨b, 1, none⟩ = some v := by rw [Lib.cell_of_heap hb2]; rfl
  have f1 : w2.frozen? ⟨b, 1, none⟩ = false := Lib.frozen_of_heap hb2 1
  have hex : ∃ ao cap, v' = .slice ao (bs.length + s.size) cap := by
    rcases hown'.2 with ⟨hv, h0⟩ | ⟨g, cap, cur, hv, _⟩
    · exact ⟨none, 0, by rw [hv, h0]⟩
    · exact ⟨_, cap, hv⟩
  have hbel : Below B w (w2.setCell ⟨b, 1, none⟩ v') := (hb1.grown hgrow (Nat.le_trans hBw hb1.size) (fun k hk => (hown.lt k hk).1)).setCell (p := ⟨b, 1, none⟩) hB _
  have hput : Lib.BuilderAt 95 5 B b (.pointer (some ⟨b, 0, none⟩)) (bs ++ Lib.strCells s) (w2.setCell ⟨b, 1, none⟩ v') :=
    Lib.BuilderAt.put hB hb2 (bs' := bs ++ Lib.strCells s) (by rw [List.length_append, Lib.strCells_length]; exact hown') (by decide)
  obtain ⟨ao, cap, hv⟩ := hex
  subst hv
  clear hnil
  go_wp2
  go_ret2
  exact ⟨rfl, hput, hbel⟩
end Go.Proofs.YtijmocdkaabijaaGreatDoor

/-! What all texts of a list make with another text between them, and what the two functions Join (the program's, by a Builder, and the specification's) answer: just that text; conditions: at most 2 to the 20 texts and letters in the list, and as many in the text between. -/
namespace Go.Proofs.YtijmocdkaabijaaGreatDoor
open Go.RowKit
set_option linter.unusedSimpArgs false
set_option linter.unusedVariables false

def joinUpto (ss : List ByteArray) (t : ByteArray) : Nat → ByteArray
  | 0 => ⟨#[]⟩
  | k + 1 => (if k = 0 then joinUpto ss t k else joinUpto ss t k ++ t) ++ ss.getD k ⟨#[]⟩
def joinS (ss : List ByteArray) (t : ByteArray) : ByteArray := joinUpto ss t ss.length

theorem joinUpto_size (ss : List ByteArray) (t : ByteArray) : ∀ k, k ≤ ss.length → (joinUpto ss t k).size ≤ k * t.size + ((ss.take k).map ByteArray.size).sum
  | 0, _ => by simp [joinUpto]; rfl
  | k + 1, h => by
    have ih := joinUpto_size ss t k (by omega)
    have hs := sum_take_succ ss k (by omega)
    have hg : ss.getD k ⟨#[]⟩ = ss[k] := by simp [List.getD_eq_getElem?_getD, show k < ss.length by omega]
    rw [joinUpto, ByteArray.size_append, hg, hs, Nat.succ_mul]
    split
    · omega
    · rw [ByteArray.size_append]; omega
theorem joinUpto_succ0 (ss : List ByteArray) (t : ByteArray) (h : 0 < ss.length) : joinUpto ss t 1 = joinUpto ss t 0 ++ ss[0] := by
  simp [joinUpto, List.getD_eq_getElem?_getD, h]
theorem joinUpto_succ (ss : List ByteArray) (t : ByteArray) (k : Nat) (hk : ¬ k = 0) (h : k < ss.length) : joinUpto ss t (k + 1) = joinUpto ss t k ++ t ++ ss[k] := by
  rw [joinUpto, if_neg hk]
  simp [List.getD_eq_getElem?_getD, h]

theorem join_bound (ss : List ByteArray) (t : ByteArray) (k : Nat) (hk : k ≤ ss.length) (hb : bulkS ss ≤ 1048576) (ht : t.size ≤ 1048576) : (joinUpto ss t k).size ≤ 1099512676352 := by
  have h1 := joinUpto_size ss t k hk
  have h2 := sum_take_le ss k
  have h3 : k * t.size ≤ 1048576 * 1048576 := Nat.mul_le_mul (by unfold bulkS at hb; omega) ht
  unfold bulkS at hb
  omega

theorem strCells_append (a b : ByteArray) : Lib.strCells (a ++ b) = Lib.strCells a ++ Lib.strCells b := by
  simp [Lib.strCells, ByteArray.data_append]

theorem fresh_builder (w : World) : Lib.IsBuilder 95 5 w.heap.size w.heap.size [] (w.alloc (.cells #[.pointer none, .slice none 0 0] 95)) :=
  .inl ⟨Nat.le_refl _, .slice none 0 0, heap_alloc_new w _, World.ownsRow_nil _ _ _ _, by simp [Value.ownBlock]⟩

set_option maxHeartbeats 1000000 in
set_option maxRecDepth 100000 in
theorem implJoin_c (v : Value) (ss : List ByteArray) (t : ByteArray) (w : World) (hv : Reads w v (strsV ss)) (hb : bulkS ss ≤ 1048576) (ht : t.size ≤ 1048576) :
    Calls Tryz.prog 22 #[v, .string t] w fun e w' => e = .returned (.string (joinS ss t)) ∧ Below w.heap.size w w' := by
  obtain ⟨a, cap, rfl, _, hc⟩ := reads_strs hv
  clear hv
  have hn : ss.length ≤ 1048576 := by unfold bulkS at hb; omega
  have hfb := fresh_builder w
  rcases hc with rfl | ⟨b, off, rfl, hlt, hc⟩
  · go_enter Tryz.func22, Tryz.ntmps22
    go_wp2
    go_loopw [10] (fun vi wr => vi = .int .i64 0 ∧ wr = w.alloc (.cells #[.pointer none, .slice none 0 0] 95)) (fun _ _ => 0)
    case atStart => exact ⟨rfl, rfl⟩
    case round =>
      obtain ⟨rfl, hwr⟩ := hrel
      subst hwr
      go_wp2_with (go_at_call 57; refine (Tryz.Builder_String_any w.heap.size w.heap.size [] _ hfb (by simp)).mono ?_; rintro e w1 ⟨rfl, b1⟩)
      go_ret
      exact ⟨rfl, ((Below.refl _ _).alloc (Nat.le_refl _) _).trans b1⟩
  · go_enter Tryz.func22, Tryz.ntmps22
    go_wp2
    go_loopw [10] (fun vi wr => ∃ (k : Nat) (s : ByteArray), k ≤ ss.length ∧ vi = .int .i64 (k : Int) ∧ s.size ≤ 1099512676352 ∧ Hid (s = joinUpto ss t k) ∧ Lib.IsBuilder 95 5 w.heap.size w.heap.size (Lib.strCells s) wr ∧ Below w.heap.size w wr) (fun vi _ => ss.length - (intOf vi).toNat)
    case atStart => exact ⟨0, ⟨#[]⟩, Nat.zero_le _, rfl, by decide, rfl, hfb, (Below.refl _ _).alloc (Nat.le_refl _) _⟩
    case round =>
      obtain ⟨k, s, hk, rfl, hsz, hs, hB, hbr⟩ := hrel
      clear hfb
      by_cases hlt' : k < ss.length
      · have hcx : wr.cell? ⟨b, off + k, none⟩ = some (.string ss[k]) := (hbr.cell (p := ⟨b, off + k, none⟩) hlt).trans (hc k hlt')
        have hbk := join_bound ss t (k + 1) (by omega) hb ht
        have hki : (k : Int) < (ss.length : Int) := by omega
        have hu : ss[k].size ≤ 1048576 := by
          have h1 := sum_take_succ ss k hlt'; have h2 := sum_take_le ss (k + 1); unfold bulkS at hb; omega
        obtain ⟨u, hu'⟩ : ∃ u, u = ss[k] := ⟨_, rfl⟩
        by_cases hk0 : k = 0
        · have e : joinUpto ss t (k + 1) = joinUpto ss t k ++ ss[k] := by subst hk0; exact joinUpto_succ0 ss t hlt'
          rw [← hu'] at hcx hu e
          have HE : Hid (joinUpto ss t (k + 1) = joinUpto ss t k ++ u) := e
          have HK : Hid (k = 0) := hk0
          clear hc e hu' hk0
          go_wp2_with fail
          · exfalso; have := HK.out; omega
          go_at_call 56
          refine (write_c w.heap.size w.heap.size _ u _ hB (by rw [Lib.strCells_length]; omega) hbr.size).mono ?_
          rintro e w1 ⟨rfl, hB1, b1⟩
          go_wp2
          go_roundw
          case rel => exact ⟨k + 1, s ++ u, by omega, by go_num, (by rw [hs.out, ← HE.out]; exact hbk), (by show _ = _; rw [HE.out, ← hs.out]), .inr (by rw [strCells_append]; exact hB1), hbr.trans b1⟩
          case measure => simp [intOf]; omega
        · have e := joinUpto_succ ss t k hk0 hlt'
          rw [← hu'] at hcx hu e
          have HE : Hid (joinUpto ss t (k + 1) = joinUpto ss t k ++ t ++ u) := e
          have hkp : (0 : Int) < (k : Int) := by omega
          have hst : (s ++ t).size = s.size + t.size := ByteArray.size_append
          clear hc e hu'
          go_wp2_with fail
          go_at_call 56
          refine (write_c w.heap.size w.heap.size _ t _ hB (by rw [Lib.strCells_length]; omega) hbr.size).mono ?_
          rintro e w1 ⟨rfl, hB1, b1⟩
          rw [← strCells_append] at hB1
          have b2 := hbr.trans b1
          have hcx1 : w1.cell? ⟨b, off + k, none⟩ = some (.string u) := (b1.cell (p := ⟨b, off + k, none⟩) hlt).trans hcx
          clear hB hcx
          go_wp2_with fail
          go_at_call 56
          refine (write_c w.heap.size w.heap.size _ u _ (.inr hB1) (by rw [Lib.strCells_length]; omega) b2.size).mono ?_
          rintro e w2 ⟨rfl, hB2, b3⟩
          rw [← strCells_append] at hB2
          go_wp2
          go_roundw
          case rel => exact ⟨k + 1, s ++ t ++ u, by omega, by go_num, (by rw [hs.out, ← HE.out]; exact hbk), (by show _ = _; rw [HE.out, ← hs.out]), .inr hB2, b2.trans b3⟩
          case measure => simp [intOf]; omega
      · have he : k = ss.length := by omega
        subst he
        clear hc
        go_wp2_with (go_at_call 57; refine (Tryz.Builder_String_any w.heap.size w.heap.size s.data.toList _ hB hbr.size).mono ?_; rintro e w1 ⟨rfl, b1⟩)
        go_ret
        exact ⟨by rw [joinS, ← hs.out]; rfl, hbr.trans b1⟩
end Go.Proofs.YtijmocdkaabijaaGreatDoor

/-! The contract of the library for the digits of a number, taken over from the library of contracts at the numbers of this program; conditions as it says. -/
namespace Go.Proofs
open Go.Shelf
def Tryz.laysM171_ren : Go.Shelf.Ren := ⟨fun | 171 => 58 | 243 => 98 | 246 => 132 | 283 => 150 | 284 => 151 | 285 => 152 | 286 => 153 | 129 => 162 | 317 => 161 | 318 => 163 | 319 => 164 | 320 => 165 | 337 => 178 | 338 => 179 | n => n, fun | 3 => 3 | 9 => 9 | 2 => 2 | 4 => 4 | 171 => 189 | 0 => 0 | 53 => 190 | 37 => 22 | 5 => 5 | 173 => 193 | 212 => 203 | 51 => 199 | 20 => 20 | 213 => 204 | 46 => 162 | 232 => 225 | 233 => 226 | n => n, fun | 17 => 4 | 18 => 5 | 19 => 6 | n => n⟩
theorem Tryz.laysM171 : Go.Proofs.LaysM.n171 Tryz.prog Tryz.laysM171_ren := {
  mixed := by kernel_rfl
  f129 := Tryz.func162.trans (congrArg some (by kernel_rfl))
  f171 := Tryz.func58.trans (congrArg some (by kernel_rfl))
  f243 := Tryz.func98.trans (congrArg some (by kernel_rfl))
  f246 := Tryz.func132.trans (congrArg some (by kernel_rfl))
  f283 := Tryz.func150.trans (congrArg some (by kernel_rfl))
  f284 := Tryz.func151.trans (congrArg some (by kernel_rfl))
  f285 := Tryz.func152.trans (congrArg some (by kernel_rfl))
  f286 := Tryz.func153.trans (congrArg some (by kernel_rfl))
  f317 := Tryz.func161.trans (congrArg some (by kernel_rfl))
  f318 := Tryz.func163.trans (congrArg some (by kernel_rfl))
  f319 := Tryz.func164.trans (congrArg some (by kernel_rfl))
  f320 := Tryz.func165.trans (congrArg some (by kernel_rfl))
  f337 := Tryz.func178.trans (congrArg some (by kernel_rfl))
  f338 := Tryz.func179.trans (congrArg some (by kernel_rfl))
  t0 := Tryz.underlying0
  a0 := Tryz.isAgg0
  z0 := Tryz.sizeOf0
  v0 := Tryz.zeroValue0
  t2 := Tryz.underlying2
  a2 := Tryz.isAgg2
  z2 := Tryz.sizeOf2
  v2 := Tryz.zeroValue2
  t3 := Tryz.underlying3
  a3 := Tryz.isAgg3
  z3 := Tryz.sizeOf3
  v3 := Tryz.zeroValue3
  t4 := Tryz.underlying4
  a4 := Tryz.isAgg4
  z4 := Tryz.sizeOf4
  v4 := Tryz.zeroValue4
  t5 := Tryz.underlying5
  a5 := Tryz.isAgg5
  z5 := Tryz.sizeOf5
  v5 := Tryz.zeroValue5
  t9 := Tryz.underlying9
  a9 := Tryz.isAgg9
  z9 := Tryz.sizeOf9
  v9 := Tryz.zeroValue9
  t20 := Tryz.underlying20
  a20 := Tryz.isAgg20
  z20 := Tryz.sizeOf20
  v20 := Tryz.zeroValue20
  t37 := Tryz.underlying22
  a37 := Tryz.isAgg22
  z37 := Tryz.sizeOf22
  v37 := Tryz.zeroValue22
  t46 := Tryz.underlying162
  a46 := Tryz.isAgg162
  z46 := Tryz.sizeOf162
  v46 := Tryz.zeroValue162
  t51 := Tryz.underlying199
  a51 := Tryz.isAgg199
  z51 := Tryz.sizeOf199
  v51 := Tryz.zeroValue199
  t53 := Tryz.underlying190
  a53 := Tryz.isAgg190
  z53 := Tryz.sizeOf190
  v53 := Tryz.zeroValue190
  t171 := Tryz.underlying189
  a171 := Tryz.isAgg189
  z171 := Tryz.sizeOf189
  v171 := Tryz.zeroValue189
  t173 := Tryz.underlying193
  a173 := Tryz.isAgg193
  z173 := Tryz.sizeOf193
  v173 := Tryz.zeroValue193
  t212 := Tryz.underlying203
  a212 := Tryz.isAgg203
  z212 := Tryz.sizeOf203
  v212 := Tryz.zeroValue203
  t213 := Tryz.underlying204
  a213 := Tryz.isAgg204
  z213 := Tryz.sizeOf204
  t232 := Tryz.underlying225
  a232 := Tryz.isAgg225
  z232 := Tryz.sizeOf225
  v232 := Tryz.zeroValue225
  t233 := Tryz.underlying226
  a233 := Tryz.isAgg226
  z233 := Tryz.sizeOf226
  v233 := Tryz.zeroValue226
  g17 := by kernel_rfl
  g18 := by kernel_rfl
  g19 := by kernel_rfl
  i0 := by kernel_rfl
  i2 := by kernel_rfl
  i3 := by kernel_rfl
  i4 := by kernel_rfl
  i5 := by kernel_rfl
  i9 := by kernel_rfl
  i20 := by kernel_rfl
  i37 := by kernel_rfl
  i46 := by kernel_rfl
  i51 := by kernel_rfl
  i53 := by kernel_rfl
  i171 := by kernel_rfl
  i173 := by kernel_rfl
  i212 := by kernel_rfl
  i232 := by kernel_rfl
  i233 := by kernel_rfl
  m17 := by kernel_rfl
  m18 := by kernel_rfl
  m19 := by kernel_rfl }
open Go.RowKit Go.Sort Go.Lib in
theorem Tryz.strconv_Itoa (n : Int) (h0 : -9223372036854775808 ≤ n) (h1 : n ≤ 9223372036854775807) (w : World) (htab : Lib.TabIs Tryz.prog w "internal/strconv.uint64pow10" .u64 Lib.pow10Tab) :
    Calls Tryz.prog 58 #[.int .i64 n] w fun e w' => e = .returned (.string ⟨(Lib.itoa n).toArray⟩) ∧ ∃ k os, w' = grow (w.drewN k) os := Any.strconv_Itoa Tryz.laysM171 n h0 h1 w htab
end Go.Proofs

/-! What the two functions NumText (the program's, by the library's Itoa, and the specification's) answer: the digits of the number, of 0 where it is below 0; condition: the library's table of powers of ten lies in memory as its initialiser lays it. -/
namespace Go.Proofs.YtijmocdkaabijaaGreatDoor
open Go.RowKit
set_option linter.unusedSimpArgs false
set_option linter.unusedVariables false

def numStr (n : Nat) : ByteArray := ⟨(Lib.decDigits n).toArray⟩

theorem conv_digit {w : World} (x : Int) : (convert 22 9 (.slice (some ⟨w.heap.size, 0, none⟩) 1 1)).run Tryz.prog (w.alloc (.cells #[.int .u8 x] 5)) = .ok (.string (strOfNums [x])) (w.alloc (.cells #[.int .u8 x] 5)) := by
  refine run_convert_bytes_arg _ 22 5 Tryz.underlying22 Tryz.underlying5 _ 0 1 1 [x] rfl (fun i hi => ?_) 9 Tryz.underlying9
  have : i = 0 := by omega
  subst this
  simp

/-- What is told already, and what is left. -/
def DigitsLeft (N m : Nat) (s : ByteArray) : Prop := Lib.decDigits N = (if m < 10 then [] else Lib.decDigits (m / 10)) ++ s.data.toList

theorem digit_list (m : Nat) : (strOfNums [48 + (m : Int) % 10]).data.toList = [UInt8.ofNat (48 + m % 10)] := by
  rw [strOfNums_data]
  show [UInt8.ofNat (48 + (m : Int) % 10).toNat] = _
  have e : (48 + (m : Int) % 10).toNat = 48 + m % 10 := by omega
  rw [e]
theorem digits_start (N : Nat) : DigitsLeft N N (strOfNums [48 + (N : Int) % 10]) := by
  unfold DigitsLeft
  rw [digit_list]
  by_cases h : N < 10
  · rw [if_pos h, Lib.decDigits, dif_pos h, Nat.mod_eq_of_lt h]; rfl
  · rw [if_neg h, Lib.decDigits, dif_neg h]
theorem digits_step {N m : Nat} {s : ByteArray} (hm : ¬ m < 10) (h : DigitsLeft N m s) : DigitsLeft N (m / 10) (strOfNums [48 + ((m / 10 : Nat) : Int) % 10] ++ s) := by
  unfold DigitsLeft at *
  rw [h, if_neg hm, ByteArray.data_append, Array.toList_append, digit_list, ← List.append_assoc]
  congr 1
  by_cases h2 : m / 10 < 10
  · rw [if_pos h2, Lib.decDigits, dif_pos h2, Nat.mod_eq_of_lt h2]; rfl
  · rw [if_neg h2]
    conv => lhs; rw [Lib.decDigits, dif_neg h2]
theorem digits_end {N m : Nat} {s : ByteArray} (hm : m < 10) (h : DigitsLeft N m s) : s = numStr N := by
  unfold DigitsLeft at h
  rw [if_pos hm, List.nil_append] at h
  apply ByteArray.ext
  apply Array.toList_inj.1
  rw [← h, numStr]

theorem tabIs_below {w w' : World} {n : String} {k : IntKind} {zs : List Int} (b : Below w.heap.size w w') (h : Lib.TabIs Tryz.prog w n k zs) : Lib.TabIs Tryz.prog w' n k zs := Lib.tabBelow_of_tabIs h w' b

theorem below_grow (w : World) (k : Nat) (os : Array Obj) : Below w.heap.size w (Sort.grow (w.drewN k) os) :=
  ⟨rfl, rfl, rfl, by rw [Sort.size_grow]; exact Nat.le_add_right _ _, fun j hj => Sort.heap_grow_old _ _ hj⟩

set_option maxHeartbeats 1000000 in
set_option maxRecDepth 100000 in
theorem implNumText_c (n : Int) (w : World) (h0 : -9223372036854775808 ≤ n) (h1 : n ≤ 9223372036854775807) (htab : Lib.TabIs Tryz.prog w "internal/strconv.uint64pow10" .u64 Lib.pow10Tab) :
    Calls Tryz.prog 23 #[.int .i64 n] w fun e w' => e = .returned (.string (numStr n.toNat)) ∧ Below w.heap.size w w' := by
  have hc := Tryz.strconv_Itoa (max n 0) (by omega) (by omega) w htab
  have e : Lib.itoa (max n 0) = Lib.decDigits n.toNat := by
    rw [Lib.itoa, if_neg (by omega), show (max n 0).toNat = n.toNat by omega]
  rw [e] at hc
  clear htab e
  go_enter Tryz.func23, Tryz.ntmps23
  go_wp2_with (go_at_call 58; refine hc.mono ?_; rintro e w1 ⟨rfl, k, os, rfl⟩)
  go_ret
  exact ⟨rfl, below_grow w k os⟩
end Go.Proofs.YtijmocdkaabijaaGreatDoor

/-! What VerText answers, the program's and the specification's: the same text; conditions: the list of texts lies in memory as told, and holds no more than 2 to the 20; the library's table of powers of ten lies in memory as its initialiser lays it. -/
namespace Go.Proofs.YtijmocdkaabijaaGreatDoor
open Go.RowKit
set_option linter.unusedSimpArgs false
set_option linter.unusedVariables false

theorem numStr_four (n : Nat) (h : n ≤ 9999) : (numStr n).size ≤ 4 := by
  have e : (numStr n).size = (Lib.decDigits n).length := by simp [numStr, ByteArray.size]
  rw [e]
  have hl : ∀ m, ¬ m < 10 → (Lib.decDigits m).length = (Lib.decDigits (m / 10)).length + 1 := fun m hm => by rw [Lib.decDigits, dif_neg hm]; simp
  have h0 : ∀ m, m < 10 → (Lib.decDigits m).length = 1 := fun m hm => by rw [Lib.decDigits, dif_pos hm]; simp
  by_cases h1 : n < 10
  · rw [h0 n h1]; omega
  · rw [hl n h1]
    by_cases h2 : n / 10 < 10
    · rw [h0 _ h2]; omega
    · rw [hl _ h2]
      by_cases h3 : n / 10 / 10 < 10
      · rw [h0 _ h3]; omega
      · rw [hl _ h3, h0 _ (by omega)]; omega

def coreT (a b c : Int) : ByteArray := numStr a.toNat ++ ⟨#[46]⟩ ++ numStr b.toNat ++ ⟨#[46]⟩ ++ numStr c.toNat
def verT (a b c : Int) (ps : List ByteArray) : ByteArray := if verB a b c ps then (if 0 < ps.length then coreT a b c ++ ⟨#[45]⟩ ++ joinS ps ⟨#[46]⟩ else coreT a b c) else ⟨#[]⟩

theorem join_three (x y z t : ByteArray) : joinS [x, y, z] t = x ++ t ++ y ++ t ++ z := by
  have e : joinS [x, y, z] t = ((⟨#[]⟩ ++ x) ++ t ++ y) ++ t ++ z := rfl
  rw [e]
  congr 4

theorem reads_three {w w1 : World} (x y z : ByteArray) (hw : ∀ b, b < (w.alloc (.cells #[.string x, .string y, .string z] 9)).heap.size → w1.heap[b]? = (w.alloc (.cells #[.string x, .string y, .string z] 9)).heap[b]?) (hs : (w.alloc (.cells #[.string x, .string y, .string z] 9)).heap.size ≤ w1.heap.size) : Reads w1 (.slice (some ⟨w.heap.size, 0, none⟩) 3 3) (strsV [x, y, z]) := by
  refine ⟨some ⟨w.heap.size, 0, none⟩, 3, rfl, Nat.le_refl _, .inr ⟨w.heap.size, 0, rfl, Nat.lt_of_lt_of_le (by simp) hs, fun k hk => ?_⟩⟩
  have e : w1.heap[w.heap.size]? = some (.cells #[.string x, .string y, .string z] 9 (0, 0)) := (hw _ (by simp)).trans (vheap_new _ _)
  rw [vblk_cell e]
  match k, hk with
  | 0, _ => rfl
  | 1, _ => rfl
  | 2, _ => rfl

theorem in_range {a : Int} (h : inB a 0 9999 = true) : 0 ≤ a ∧ a ≤ 9999 := by simpa [inB] using h
theorem verB_nums {a b c : Int} {ps : List ByteArray} (h : verB a b c ps = true) : inB a 0 9999 = true ∧ inB b 0 9999 = true ∧ inB c 0 9999 = true := by
  simp only [verB, Bool.and_eq_true] at h
  exact ⟨h.1.1.1.2, h.1.1.2, h.1.2⟩

set_option maxHeartbeats 2000000 in
set_option maxRecDepth 100000 in
theorem implVerText_c (a b c : Int) (u : Value) (ps : List ByteArray) (w : World) (hu : Reads w u (strsV ps)) (hb : bulkS ps ≤ 1048576) (htab : Lib.TabIs Tryz.prog w "internal/strconv.uint64pow10" .u64 Lib.pow10Tab) :
    Calls Tryz.prog 8 #[.agg #[.int .i64 a, .int .i64 b, .int .i64 c, u]] w fun e w' => e = .returned (.string (verT a b c ps)) ∧ Below w.heap.size w w' := by
  have hbx : ∀ o, Below w.heap.size w (w.alloc o) := fun o => (Below.refl _ _).alloc (Nat.le_refl _) _
  have HV : Hid (∀ o, Calls Tryz.prog 21 #[.agg #[.int .i64 a, .int .i64 b, .int .i64 c, u]] (w.alloc o) fun e w' => e = .returned (.bool (verB a b c ps)) ∧ Below (w.alloc o).heap.size (w.alloc o) w') := fun o => implVerOk_c a b c u ps _ (hu.below (hbx o)) hb
  have hn : ps.length ≤ 1048576 := by unfold bulkS at hb; omega
  have HJ : Hid (∀ w1, Below w.heap.size w w1 → Calls Tryz.prog 22 #[u, .string ⟨#[46]⟩] w1 fun e w' => e = .returned (.string (joinS ps ⟨#[46]⟩)) ∧ Below w1.heap.size w1 w') := fun w1 h => implJoin_c u ps ⟨#[46]⟩ w1 (hu.below h) hb (by decide)
  obtain ⟨q, cap, hq, _, _⟩ := reads_strs hu
  subst hq
  clear hu
  cases hv : verB a b c ps with
  | false =>
    have e : verT a b c ps = ⟨#[]⟩ := by rw [verT, hv]; rfl
    rw [e]
    rw [hv] at HV
    go_enter Tryz.func8, Tryz.ntmps8
    go_wp2_with (go_at_call 21; refine (HV.out _).mono ?_; rintro e w1 ⟨rfl, b1⟩)
    go_ret
    exact ⟨rfl, (hbx _).trans (b1.mono (by simp))⟩
  | true =>
    rw [hv] at HV
    obtain ⟨ha, hb', hc⟩ := verB_nums hv
    obtain ⟨ha0, ha1⟩ := in_range ha
    obtain ⟨hb0, hb1⟩ := in_range hb'
    obtain ⟨hc0, hc1⟩ := in_range hc
    have HT : Hid (verT a b c ps = if 0 < ps.length then coreT a b c ++ ⟨#[45]⟩ ++ joinS ps ⟨#[46]⟩ else coreT a b c) := by show _ = _; rw [verT, hv]; rfl
    obtain ⟨x, hx⟩ : ∃ x, x = numStr a.toNat := ⟨_, rfl⟩
    obtain ⟨y, hy⟩ : ∃ y, y = numStr b.toNat := ⟨_, rfl⟩
    obtain ⟨z, hz⟩ : ∃ z, z = numStr c.toNat := ⟨_, rfl⟩
    have hxs : x.size ≤ 4 := by rw [hx]; exact numStr_four _ (by omega)
    have hys : y.size ≤ 4 := by rw [hy]; exact numStr_four _ (by omega)
    have hzs : z.size ≤ 4 := by rw [hz]; exact numStr_four _ (by omega)
    have NA : Hid (∀ w1, Below w.heap.size w w1 → Calls Tryz.prog 23 #[.int .i64 a] w1 fun e w' => e = .returned (.string x) ∧ Below w1.heap.size w1 w') := fun w1 h => by rw [hx]; exact implNumText_c a w1 (by omega) (by omega) (tabIs_below h htab)
    have NB : Hid (∀ w1, Below w.heap.size w w1 → Calls Tryz.prog 23 #[.int .i64 b] w1 fun e w' => e = .returned (.string y) ∧ Below w1.heap.size w1 w') := fun w1 h => by rw [hy]; exact implNumText_c b w1 (by omega) (by omega) (tabIs_below h htab)
    have NC : Hid (∀ w1, Below w.heap.size w w1 → Calls Tryz.prog 23 #[.int .i64 c] w1 fun e w' => e = .returned (.string z) ∧ Below w1.heap.size w1 w') := fun w1 h => by rw [hz]; exact implNumText_c c w1 (by omega) (by omega) (tabIs_below h htab)
    obtain ⟨cT, hcT⟩ : ∃ cT, cT = coreT a b c := ⟨_, rfl⟩
    have hcs : cT.size ≤ 14 := by rw [hcT, coreT, ← hx, ← hy, ← hz]; simp only [ByteArray.size_append]; have : (⟨#[46]⟩ : ByteArray).size = 1 := rfl; omega
    have HJ3 : Hid (∀ (w1 w2 : World), (∀ b, b < (w1.alloc (.cells #[.string x, .string y, .string z] 9)).heap.size → w2.heap[b]? = (w1.alloc (.cells #[.string x, .string y, .string z] 9)).heap[b]?) → (w1.alloc (.cells #[.string x, .string y, .string z] 9)).heap.size ≤ w2.heap.size → Calls Tryz.prog 22 #[.slice (some ⟨w1.heap.size, 0, none⟩) 3 3, .string ⟨#[46]⟩] w2 fun e w' => e = .returned (.string cT) ∧ Below w2.heap.size w2 w') := fun w1 w2 h1 h2 => by
      have := implJoin_c (.slice (some ⟨w1.heap.size, 0, none⟩) 3 3) [x, y, z] ⟨#[46]⟩ w2 (reads_three x y z h1 h2) (by simp [bulkS]; omega) (by decide)
      rw [join_three] at this
      rw [hcT, coreT, ← hx, ← hy, ← hz]
      exact this
    rw [← hcT] at HT
    have hJs : (joinS ps ⟨#[46]⟩).size ≤ 1099512676352 := join_bound ps ⟨#[46]⟩ ps.length (Nat.le_refl _) hb (by decide)
    obtain ⟨J, hJ⟩ : ∃ J, J = joinS ps ⟨#[46]⟩ := ⟨_, rfl⟩
    rw [← hJ] at HT HJ hJs
    clear hx hy hz hcT hJ ha hb' hc htab hv
    go_enter Tryz.func8, Tryz.ntmps8
    go_wp2_with fail
    go_at_call 21
    refine (HV.out _).mono ?_
    rintro e w1 ⟨rfl, b1⟩
    obtain ⟨x0, x1, x2, x3⟩ := box4 b1
    have F1 := (four_new w 26 (.int .i64 a) (.int .i64 b) (.int .i64 c) (.slice q ps.length cap)).keep b1
    have hw1 := (hbx _).trans (b1.mono (by simp))
    have NA' := NA.out w1.drew hw1.drew
    clear HV b1
    go_wp2_with fail
    go_region_held (fun w' => w'.cell? ⟨w.heap.size, 0, none⟩ = some (.int .i64 a) ∧ w'.cell? ⟨w.heap.size, 1, none⟩ = some (.int .i64 b) ∧ w'.cell? ⟨w.heap.size, 2, none⟩ = some (.int .i64 c) ∧ w'.cell? ⟨w.heap.size, 3, none⟩ = some (.slice q ps.length cap)) (go_keep) (first
      | (go_at_call 23
         refine NA'.mono ?_
         rintro e w2 ⟨rfl, b2⟩
         have F2 := F1.drew.keep b2
         have hw2 := hw1.drew.trans (b2.mono hw1.size)
         have NB' := NB.out w2 hw2
         obtain ⟨xx0, xx1, xx2, xx3⟩ := F2.cells
         clear NA' b2 F1)
      | (go_at_call 23
         refine NB'.mono ?_
         rintro e w3 ⟨rfl, b3⟩
         have F3 := F2.keep b3
         have hw3 := hw2.trans (b3.mono hw2.size)
         have NC' := NC.out w3 hw3
         obtain ⟨xy0, xy1, xy2, xy3⟩ := F3.cells
         clear NB' b3 F2)
      | (go_at_call 23
         refine NC'.mono ?_
         rintro e w4 ⟨rfl, b4⟩
         have F4 := F3.keep b4
         have hw4 := hw3.trans (b4.mono hw3.size)
         have la4 := F4.lt
         obtain ⟨xz0, xz1, xz2, xz3⟩ := F4.cells
         clear NC' b4 F3)
      | (go_at_call 22
         refine (HJ3.out w4 _ (fun _ _ => rfl) (Nat.le_refl _)).mono ?_
         rintro e w5 ⟨rfl, b5⟩
         have F5 := (four_old F4 (.cells #[.string x, .string y, .string z] 9)).keep b5
         have hw5 := (hw4.alloc hw4.size (.cells #[.string x, .string y, .string z] 9)).trans (b5.mono (hw4.alloc hw4.size _).size)
         obtain ⟨xw0, xw1, xw2, xw3⟩ := F5.cells
         clear b5 F4))
    by_cases hp : 0 < ps.length
    · have hp' : (0 : Int) < (ps.length : Int) := by omega
      go_wp2_with (go_at_call 22; refine (HJ.out _ hw5).mono ?_; rintro e w6 ⟨rfl, b6⟩)
      go_ret
      refine ⟨?_, hw5.trans (b6.mono hw5.size)⟩
      rw [HT.out, if_pos hp, ByteArray.append_assoc]
      rfl
    · have hp' : ¬ (0 : Int) < (ps.length : Int) := by omega
      go_wp2_with fail
      go_ret
      exact ⟨by rw [HT.out, if_neg hp]; rfl, hw5⟩
end Go.Proofs.YtijmocdkaabijaaGreatDoor

/-! Digits that tell a number are the number's digits; what a text's pieces make with dots between is the text; no condition. -/
namespace Go.Proofs.YtijmocdkaabijaaGreatDoor
open Go.RowKit
set_option linter.unusedSimpArgs false
set_option linter.unusedVariables false

theorem vdec_step {n : Nat} (h : ¬ n < 10) : Lib.decDigits n = Lib.decDigits (n / 10) ++ [UInt8.ofNat (48 + n % 10)] := by
  conv => lhs; rw [Lib.decDigits, dif_neg h]
theorem vdec_one {n : Nat} (h : n < 10) : Lib.decDigits n = [UInt8.ofNat (48 + n)] := by
  rw [Lib.decDigits, dif_pos h]
theorem allUpto_at {p : Nat → Int → Bool} {s : ByteArray} : ∀ {n : Nat}, allUpto p s n = true → ∀ k, k < n → p k ((s.data[k]!).toNat : Int) = true
  | 0, _, k, hk => by omega
  | n + 1, h, k, hk => by
    rw [allUpto, Bool.and_eq_true] at h
    by_cases e : k = n
    · subst e; exact h.2
    · exact allUpto_at h.1 k (by omega)
theorem vtake_snoc (s : ByteArray) (k : Nat) (h : k < s.size) : s.data.toList.take (k + 1) = s.data.toList.take k ++ [s.data[k]!] := by
  rw [List.take_succ_eq_append_getElem (by rw [vlen]; exact h)]
  congr 2
  rw [getElem!_pos s.data k h]
  rfl
theorem u8_back (u : UInt8) (h : 48 ≤ u.toNat) : UInt8.ofNat (48 + (u.toNat - 48)) = u := by
  rw [show 48 + (u.toNat - 48) = u.toNat by omega]
  simp

/-- The digits of what the first k bytes tell are these bytes. -/
theorem dec_back (s : ByteArray) (hd : allUpto okDigit s s.size = true) (hz : 1 < s.size → ¬ ((s.data[0]!).toNat : Int) = 48) : ∀ k, k < s.size → 0 ≤ numUpto s (k + 1) ∧ (1 < s.size → 1 ≤ numUpto s (k + 1)) ∧ Lib.decDigits (numUpto s (k + 1)).toNat = s.data.toList.take (k + 1)
  | 0, hk => by
    have h0 := digit_bounds (allUpto_at hd 0 hk)
    have e : numUpto s (0 + 1) = ((s.data[0]!).toNat : Int) - 48 := by simp [numUpto]
    rw [e]
    refine ⟨by omega, fun h1 => by have := hz h1; omega, ?_⟩
    rw [vdec_one (by omega), vtake_snoc s 0 hk]
    have : (((s.data[0]!).toNat : Int) - 48).toNat = (s.data[0]!).toNat - 48 := by omega
    rw [this, u8_back _ (by omega)]
    rfl
  | k + 1, hk => by
    obtain ⟨h1, h2, h3⟩ := dec_back s hd hz k (by omega)
    have h2 := h2 (by omega)
    have hb := digit_bounds (allUpto_at hd (k + 1) hk)
    have e : numUpto s (k + 1 + 1) = numUpto s (k + 1) * 10 + (((s.data[k + 1]!).toNat : Int) - 48) := rfl
    rw [e]
    generalize numUpto s (k + 1) = m at *
    refine ⟨by omega, fun _ => by omega, ?_⟩
    rw [vdec_step (by omega), vtake_snoc s (k + 1) hk, ← h3]
    have e1 : (m * 10 + (((s.data[k + 1]!).toNat : Int) - 48)).toNat / 10 = m.toNat := by omega
    have e2 : (m * 10 + (((s.data[k + 1]!).toNat : Int) - 48)).toNat % 10 = (s.data[k + 1]!).toNat - 48 := by omega
    rw [e1, e2, u8_back _ (by omega)]

theorem num_str {t : ByteArray} {most : Int} (h : numGood t most = true) : numStr (numOut t most).toNat = t ∧ 0 ≤ numOut t most := by
  have h0 := h
  simp only [numGood, Bool.and_eq_true, Bool.not_eq_true'] at h
  obtain ⟨⟨⟨h1, h2⟩, h3⟩, h4⟩ := h
  have hs := in17 h1
  have hz : 1 < t.size → ¬ ((t.data[0]!).toNat : Int) = 48 := fun hl he => by
    rw [decide_eq_true hl, he] at h3
    simp at h3
  obtain ⟨p1, p2, p3⟩ := dec_back t h2 hz (t.size - 1) (by omega)
  rw [show t.size - 1 + 1 = t.size by omega] at p1 p3
  rw [numOut_good h0]
  refine ⟨?_, p1⟩
  apply vext
  show (Lib.decDigits (numUpto t t.size).toNat).toArray.toList = _
  rw [p3]
  simp
  exact List.take_of_length_le (by rw [vlen]; omega)
#print axioms num_str
end Go.Proofs.YtijmocdkaabijaaGreatDoor

/-! A text that the reader takes as a version is the text of that version; no condition. -/
namespace Go.Proofs.YtijmocdkaabijaaGreatDoor
open Go.RowKit
set_option linter.unusedSimpArgs false
set_option linter.unusedVariables false

theorem vempty_add (x : ByteArray) : (⟨#[]⟩ : ByteArray) ++ x = x := by
  apply vext
  simp
theorem vjoinUpto_cons (x : ByteArray) (xs : List ByteArray) (t : ByteArray) : ∀ k, joinUpto (x :: xs) t (k + 2) = x ++ t ++ joinUpto xs t (k + 1)
  | 0 => by
    simp [joinUpto, vempty_add]
  | k + 1 => by
    rw [joinUpto, if_neg (by omega), vjoinUpto_cons x xs t k]
    conv => rhs; rw [joinUpto, if_neg (by omega)]
    simp [List.getD_cons_succ, ByteArray.append_assoc]
theorem vjoinS_cons (x : ByteArray) (xs : List ByteArray) (t : ByteArray) (h : xs ≠ []) : joinS (x :: xs) t = x ++ t ++ joinS xs t := by
  obtain ⟨n, hn⟩ : ∃ n, xs.length = n + 1 := ⟨xs.length - 1, by have := List.length_pos_iff.2 h; omega⟩
  rw [joinS, joinS, List.length_cons, hn]
  exact vjoinUpto_cons x xs t n
theorem vjoinS_one (x t : ByteArray) : joinS [x] t = x := by simp [joinS, joinUpto, vempty_add]
theorem vsplitGo_ne (s : ByteArray) (c : Int) : ∀ n i b, splitGo s c n i b ≠ []
  | 0, i, b => by simp [splitGo]
  | n + 1, i, b => by
    rw [splitGo]
    split
    · simp
    · exact vsplitGo_ne s c n (i + 1) b
theorem vcut_back (s : ByteArray) (b i : Nat) (u : UInt8) (hb : b ≤ i) (hi : i < s.size) (hc : s.data[i]! = u) : s.extract b i ++ ⟨#[u]⟩ ++ s.extract (i + 1) s.size = s.extract b s.size := by
  apply vext
  have hlen := vlen s
  simp only [ByteArray.data_append, Array.toList_append, vextract]
  have h1 : s.data.toList.drop i = s.data[i]! :: s.data.toList.drop (i + 1) := by
    have h2 : i < s.data.toList.length := by omega
    rw [List.drop_eq_getElem_cons h2]
    congr 1
    rw [getElem!_pos s.data i hi]
    rfl
  have h3 : (s.data.toList.drop b).take (s.size - b) = s.data.toList.drop b := List.take_of_length_le (by simp)
  have h4 : (s.data.toList.drop (i + 1)).take (s.size - (i + 1)) = s.data.toList.drop (i + 1) := List.take_of_length_le (by simp)
  rw [h3, h4, List.append_assoc, List.singleton_append, ← hc, ← h1]
  have h5 : s.data.toList.drop i = (s.data.toList.drop b).drop (i - b) := by rw [List.drop_drop]; congr 1; omega
  rw [h5, List.take_append_drop]
theorem byte_of {x : UInt8} {n : Nat} (h : (x.toNat : Int) = (n : Int)) : x = UInt8.ofNat n := by
  have : x.toNat = n := by omega
  rw [← this]; simp
theorem vsplit_back (s : ByteArray) : ∀ (n i b : Nat), n = s.size - i → b ≤ i → i ≤ s.size → joinS (splitGo s 46 (s.size - i) i b) ⟨#[46]⟩ = s.extract b s.size
  | 0, i, b, hn, hb, hi => by
    obtain rfl : i = s.size := by omega
    rw [splitGo_end, vjoinS_one]
  | n + 1, i, b, hn, hb, hi => by
    have hlt : i < s.size := by omega
    by_cases h : ((s.data[i]!).toNat : Int) = 46
    · rw [splitGo_hit s 46 i b hlt h, vjoinS_cons _ _ _ (vsplitGo_ne _ _ _ _ _), vsplit_back s n (i + 1) (i + 1) (by omega) (Nat.le_refl _) (by omega)]
      exact vcut_back s b i 46 hb hlt (byte_of (n := 46) h)
    · rw [splitGo_miss s 46 i b hlt h]
      exact vsplit_back s n (i + 1) b (by omega) (by omega) (by omega)
theorem vwhole (s : ByteArray) : s.extract 0 s.size = s := by
  apply vext
  rw [vextract, List.drop_zero]
  exact List.take_of_length_le (by rw [vlen]; omega)
theorem vsplit_join (s : ByteArray) : joinS (splitS s 46) ⟨#[46]⟩ = s := by
  have := vsplit_back s s.size 0 0 rfl (Nat.le_refl _) (Nat.zero_le _)
  have e : splitS s 46 = splitGo s 46 (s.size - 0) 0 0 := rfl
  rw [e, this, vwhole]

/-- What is read, told anew, is the text. -/
theorem text_back (s : ByteArray) (k : Nat) (hk : k ≤ s.size) (hd : k < s.size → ((s.data[k]!).toNat : Int) = 45) (t0 t1 t2 : ByteArray) (P : List ByteArray) (hL : [t0, t1, t2] = splitS (s.extract 0 k) 46) (hP : P = if k < s.size then splitS (s.extract (k + 1) s.size) 46 else [])
    (g0 : numGood t0 9999 = true) (g1 : numGood t1 9999 = true) (g2 : numGood t2 9999 = true) (gp : P.all partB = true) (gl : P.length ≤ 3) : verT (numOut t0 9999) (numOut t1 9999) (numOut t2 9999) P = s := by
  have hv : verB (numOut t0 9999) (numOut t1 9999) (numOut t2 9999) P = true := by
    rw [verB, parts_all, gp, num_in g0, num_in g1, num_in g2, decide_eq_true gl]; rfl
  have hc : coreT (numOut t0 9999) (numOut t1 9999) (numOut t2 9999) = s.extract 0 k := by
    rw [coreT, (num_str g0).1, (num_str g1).1, (num_str g2).1, ← join_three, hL, vsplit_join]
  rw [verT, hv, if_pos rfl, hc]
  by_cases h : k < s.size
  · rw [if_pos h] at hP
    have hp : 0 < P.length := by rw [hP]; exact List.length_pos_iff.2 (vsplitGo_ne _ _ _ _ _)
    rw [if_pos hp, hP, vsplit_join, vcut_back s 0 k 45 (Nat.zero_le _) h (byte_of (n := 45) (hd h)), vwhole]
  · rw [if_neg h] at hP
    subst hP
    rw [if_neg (by simp), show k = s.size by omega, vwhole]

theorem res_back (s : ByteArray) (ns : List Int) (ps : List ByteArray) (h : resAll s = some (ns, ps)) : ∃ a b c, ns = [a, b, c] ∧ verT a b c ps = s := by
  obtain ⟨k, hk, hd, hn⟩ : ∃ k, k ≤ s.size ∧ (k < s.size → ((s.data[k]!).toNat : Int) = 45) ∧ ∀ j, j < k → ¬ ((s.data[j]!).toNat : Int) = 45 := by
    have : ∀ n, n ≤ s.size → (∃ k, k ≤ n ∧ (k < n → ((s.data[k]!).toNat : Int) = 45) ∧ ∀ j, j < k → ¬ ((s.data[j]!).toNat : Int) = 45) := by
      intro n
      induction n with
      | zero => exact fun _ => ⟨0, Nat.le_refl _, fun h => by omega, fun j h => by omega⟩
      | succ n ih =>
        intro hle
        obtain ⟨k, h1, h2, h3⟩ := ih (by omega)
        by_cases hkn : k < n
        · exact ⟨k, by omega, fun _ => h2 hkn, h3⟩
        · have : k = n := by omega
          subst this
          by_cases hc : ((s.data[k]!).toNat : Int) = 45
          · exact ⟨k, by omega, fun _ => hc, h3⟩
          · refine ⟨k + 1, Nat.le_refl _, fun h => by omega, fun j hj => ?_⟩
            by_cases e : j = k
            · subst e; exact hc
            · exact h3 j (by omega)
    exact this s.size (Nat.le_refl _)
  obtain ⟨L, hL⟩ : ∃ L, L = splitS (s.extract 0 k) 46 := ⟨_, rfl⟩
  obtain ⟨P, hP⟩ : ∃ P, P = if k < s.size then splitS (s.extract (k + 1) s.size) 46 else [] := ⟨_, rfl⟩
  rw [res_spec s k hk hd hn L P hL hP] at h
  split at h
  · rename_i hg
    simp only [Bool.and_eq_true, decide_eq_true_eq] at hg
    obtain ⟨⟨⟨g1, g2⟩, g3⟩, g4⟩ := hg
    obtain ⟨t0, t1, t2, h3⟩ := three_of g2
    subst h3
    simp only [List.all_cons, List.all_nil, Bool.and_true, Bool.and_eq_true] at g1
    injection h with h
    injection h with h1 h2
    subst h1 h2
    exact ⟨_, _, _, rfl, text_back s k hk hd t0 t1 t2 _ hL hP g1.1 g1.2.1 g1.2.2 g3 g4⟩
  · cases h
#print axioms res_back
end Go.Proofs.YtijmocdkaabijaaGreatDoor
