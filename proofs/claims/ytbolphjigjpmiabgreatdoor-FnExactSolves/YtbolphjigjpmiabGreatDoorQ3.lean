/-
  Contracts for the walks, several texts in one: each part says what it proves, and under which conditions.
-/
import Derived.Maps.AppendAt
import Derived.Shelf.Strings.Builder1
import Derived.Shelf.Small.Utf8
import Derived.Shelf.Small.Strs
import Derived.Shelf.Small.Wraps
import Derived.Shelf.Strings.BuilderF
import Derived.Shelf.Strconv.Itoa0
import Derived.Shelf.Strconv.Itoa1
import Derived.Shelf.LaysM
import Derived.Shelf.Strconv.Itoa2
import Derived.Shelf.Strconv.Itoa3
import Derived.Shelf.Strconv.Clone
import Derived.Shelf.Strings.Search1
import Derived.Shelf.Strings.Search2
import Derived.Shelf.Strings.Search3
import Derived.Shelf.Strings.Count
import Derived.Shelf.Strings.Shaped
import Derived.Shelf.Strings.Prefix
import Derived.Shelf.Strings.Split
import Derived.Shelf.Strings.SplitShaped
import Derived.Shelf.Strings.Runes
import Derived.Shelf.Strings.AsciiSet
import Derived.Shelf.Unicode.DecodeSlow
import Derived.Shelf.Slices.Equal
import Derived.Test.YtbolphjigjpmiabGreatDoorProg
import Derived.Test.YtbolphjigjpmiabGreatDoorQ2
import Derived.Test.YtbolphjigjpmiabGreatDoorQ1

/-! What the program's reader of versions does at the end of a word, and at a sign: contracts for the walks; condition: what it holds lies in memory as told. -/
namespace Go.Proofs.YtbolphjigjpmiabGreatDoor
open Go.RowKit
set_option linter.unusedSimpArgs false
set_option linter.unusedVariables false

def intsV (zs : List Int) : List Value := zs.map (Value.int .i64)
@[simp] theorem length_intsV (zs : List Int) : (intsV zs).length = zs.length := by simp [intsV]
@[simp] theorem length_bytesV' (zs : List Int) : (bytesV zs).length = zs.length := by simp [bytesV]
theorem infoI : (Tryz.prog.info? 3).map (fun i => (i.zero, i.size, i.bytes)) = some (some (.int .i64 0), 1, 8) := by kernel_rfl

/-- Of the blocks below base nothing has turned but block R. -/
structure Only (R base : Nat) (w w' : World) : Prop where
  os : w'.os = w.os
  tape : w'.tape = w.tape
  output : w'.output = w.output
  size : w.heap.size ≤ w'.heap.size
  block : ∀ k, k < base → k ≠ R → w'.heap[k]? = w.heap[k]?
theorem Only.refl (R base : Nat) (w : World) : Only R base w w := ⟨rfl, rfl, rfl, Nat.le_refl _, fun _ _ _ => rfl⟩
theorem Only.trans {R base : Nat} {a b c : World} (h : Only R base a b) (k : Only R base b c) : Only R base a c :=
  ⟨k.os.trans h.os, k.tape.trans h.tape, k.output.trans h.output, Nat.le_trans h.size k.size, fun i h1 h2 => (k.block i h1 h2).trans (h.block i h1 h2)⟩
theorem Only.set {R base : Nat} (w : World) (j : Nat) (v : Value) : Only R base w (w.setCell ⟨R, j, none⟩ v) :=
  ⟨rfl, rfl, rfl, by simp [World.setCell], fun k _ hk => Below.heap_setCell w ⟨R, j, none⟩ v k hk⟩
theorem Only.grown {R base : Nat} {w w' : World} {row : Option Nat} (h : w.grownBy w' row) (hb : base ≤ w.heap.size) (hrow : ∀ k, row = some k → base ≤ k) : Only R base w w' :=
  ⟨h.os, h.tape, h.output, h.size, fun k h1 _ => h.block k (by omega) (fun e => by have := hrow k e.symm; omega)⟩
theorem Only.below {R base : Nat} {w w' : World} (h : Below w.heap.size w w') (hb : base ≤ w.heap.size) : Only R base w w' :=
  ⟨h.os, h.tape, h.output, h.size, fun k h1 _ => h.block k (by omega)⟩
theorem Only.alloc {R base : Nat} {w : World} (o : Obj) (hb : base ≤ w.heap.size) : Only R base w (w.alloc o) := Only.below ((Below.refl _ _).alloc (Nat.le_refl _) _) hb

theorem four_set {w : World} {R : Nat} {t : TypeId} {c0 c1 c2 c3 : Value} (h : Four w R t c0 c1 c2 c3) (v : Value) :
    Four (w.setCell ⟨R, 0, none⟩ v) R t v c1 c2 c3 ∧ Four (w.setCell ⟨R, 1, none⟩ v) R t c0 v c2 c3 ∧ Four (w.setCell ⟨R, 2, none⟩ v) R t c0 c1 v c3 ∧ Four (w.setCell ⟨R, 3, none⟩ v) R t c0 c1 c2 v := by
  refine ⟨?_, ?_, ?_, ?_⟩ <;> (unfold Four at *; rw [heap_setCell_same w R _ _ t v h]; rfl)
theorem Four.grown {w w' : World} {R base : Nat} {t : TypeId} {c0 c1 c2 c3 : Value} {row : Option Nat} (h : Four w R t c0 c1 c2 c3) (hg : w.grownBy w' row) (hR : R < base) (hrow : ∀ k, row = some k → base ≤ k) : Four w' R t c0 c1 c2 c3 :=
  (hg.block R h.lt (fun e => by have := hrow R e.symm; omega)).trans h
theorem Four.frozen {w : World} {N : Nat} {t : TypeId} {c0 c1 c2 c3 : Value} (h : Four w N t c0 c1 c2 c3) (j : Nat) : w.frozen? ⟨N, j, none⟩ = false := vblk_frozen h j

/-- Two rows of two types are two blocks. -/
theorem rows_apart {w : World} {base e e' : Nat} {v v' : Value} {n n' : Nat} {xs xs' : List Value} (h : w.ownsRow base e 1 v n xs) (h' : w.ownsRow base e' 1 v' n' xs') (hne : e ≠ e') : v'.ownBlock = none ∨ v'.ownBlock ≠ v.ownBlock := by
  rcases h.2 with ⟨rfl, _⟩ | ⟨g, cap, cur, rfl, _, hg, _⟩
  · rcases h'.2 with ⟨rfl, _⟩ | ⟨g', cap', cur', rfl, _, hg', _⟩
    · exact .inl rfl
    · exact .inr (by simp [Value.ownBlock])
  · rcases h'.2 with ⟨rfl, _⟩ | ⟨g', cap', cur', rfl, _, hg', _⟩
    · exact .inl rfl
    · refine .inr fun e1 => hne ?_
      simp only [Value.ownBlock, Option.some.injEq] at e1
      subst e1
      rw [hg] at hg'
      simp only [Option.some.injEq, Obj.cells.injEq] at hg'
      exact hg'.2.1

/-- The reader at block R. -/
def Rd (w : World) (R base : Nat) (ws ns : List Int) (ps : List ByteArray) (inP : Bool) : Prop :=
  ∃ vw vn vp, Four w R 225 vw vn vp (.bool inP) ∧ w.ownsRow base 5 1 vw ws.length (bytesV ws) ∧ w.ownsRow base 3 1 vn ns.length (intsV ns) ∧ w.ownsRow base 9 1 vp ps.length (strsV ps)

theorem row_empty {w : World} {base : Nat} {e : TypeId} {g n cap : Nat} {xs : List Value} (h : w.ownsRow base e 1 (.slice (some ⟨g, 0, none⟩) n cap) n xs) : w.ownsRow base e 1 (.slice (some ⟨g, 0, none⟩) 0 cap) 0 [] := by
  rcases h.2 with ⟨h, _⟩ | ⟨g', cap', cur, hv, hb, hg, hn, hc, hs, ht⟩
  · cases h
  · cases hv
    exact ⟨rfl, .inr ⟨g, cap, cur, rfl, hb, hg, Nat.zero_le _, hc, hs, rfl⟩⟩

theorem conv_word {w : World} {base : Nat} {vw : Value} {ws : List Int} (h : w.ownsRow base 5 1 vw ws.length (bytesV ws)) : (convert 131 9 vw).run Tryz.prog w = .ok (.string (strOfNums ws)) w := by
  rcases h.2 with ⟨rfl, h0⟩ | ⟨g, cap, cur, rfl, hb, hg, hn, hc, hs, ht⟩
  · have : ws = [] := List.eq_nil_of_length_eq_zero h0
    subst this
    exact run_convert_bytes_nil w 131 5 Tryz.underlying131 Tryz.underlying5 0 0 9 Tryz.underlying9
  · refine run_convert_bytes_arg _ 131 5 Tryz.underlying131 Tryz.underlying5 _ 0 ws.length cap ws rfl (fun i hi => ?_) 9 Tryz.underlying9
    rw [Nat.zero_add, h.cellAt i (by simpa using hi)]
    simp [bytesV, List.getD_eq_getElem?_getD, hi]

theorem cell_str (w : World) (t : ByteArray) : ∀ j u, [Value.string t][j]? = some u → (w.alloc (.cells #[.string t] 9)).cell? ((⟨w.heap.size, 0, none⟩ : Addr).add j) = some u := cell_one_new _ _ _

set_option maxHeartbeats 2000000 in
set_option maxRecDepth 100000 in
theorem ends_in (R base : Nat) (ws ns : List Int) (ps : List ByteArray) (w : World) (h : Rd w R base ws ns ps true) (hR : R < base) (hbw : base ≤ w.heap.size) (hw : ws.length ≤ 1048576) (hps : ps.length ≤ 1048576) :
    Calls Tryz.prog 203 #[.pointer (some ⟨R, 0, none⟩)] w fun e w' => e = .returned (.bool (endOk ns ps true (strOfNums ws))) ∧ Rd w' R base [] (endNs ns true (strOfNums ws)) (endPs ps true (strOfNums ws)) true ∧ Only R base w w' := by
  obtain ⟨i0, hi, hz0, hz1, hz2⟩ := info_parts infoS
  obtain ⟨vw, vn, vp, hF, hWr, hNr, hPr⟩ := h
  have hcv := conv_word hWr
  have htz : (strOfNums ws).size ≤ maxLen := by rw [strOfNums_size]; unfold maxLen; omega
  obtain ⟨t, ht⟩ : ∃ t, t = strOfNums ws := ⟨_, rfl⟩
  rw [← ht] at hcv htz ⊢
  clear ht
  obtain ⟨v0, hv0, hW0⟩ : ∃ v0, (vw = .slice none 0 0 ∧ v0 = .slice none 0 0 ∨ ∃ g n cap, vw = .slice (some ⟨g, 0, none⟩) n cap ∧ v0 = .slice (some ⟨g, 0, none⟩) 0 cap ∧ n ≤ cap) ∧ w.ownsRow base 5 1 v0 0 [] := by
    rcases hWr.2 with ⟨rfl, _⟩ | ⟨g, cap, cur, rfl, _, _, hn, _⟩
    · exact ⟨_, .inl ⟨rfl, rfl⟩, World.ownsRow_nil _ _ _ _⟩
    · exact ⟨_, .inr ⟨g, ws.length, cap, rfl, rfl, hn⟩, row_empty hWr⟩
  have F1 := (four_set hF v0).1
  have hW1 := owns_set hW0 (p := ⟨R, 0, none⟩) hR v0
  have hN1 := owns_set hNr (p := ⟨R, 0, none⟩) hR v0
  have hP1 := owns_set hPr (p := ⟨R, 0, none⟩) hR v0
  have O1 : Only R base w (w.setCell ⟨R, 0, none⟩ v0) := Only.set w 0 v0
  have hb1 : base ≤ (w.setCell ⟨R, 0, none⟩ v0).heap.size := Nat.le_trans hbw O1.size
  obtain ⟨c0, c1, c2, c3⟩ := hF.cells
  have f0 := hF.frozen 0
  obtain ⟨d0, d1, d2, d3⟩ := F1.cells
  have g2 := F1.frozen 2
  have hlR := F1.lt
  have hsz : (w.setCell ⟨R, 0, none⟩ v0).heap.size = w.heap.size := by simp [World.setCell]
  have hcs := cell_str (w.setCell ⟨R, 0, none⟩ v0) t
  rw [hsz] at hcs
  have HC : Hid (∀ j u, (strsV [t])[j]? = some u → ((w.setCell ⟨R, 0, none⟩ v0).alloc (.cells #[.string t] 9)).cell? ((⟨w.heap.size, 0, none⟩ : Addr).add j) = some u) := hcs
  have hPA := hP1.alloc (.cells #[.string t] 9)
  have hNA := hN1.alloc (.cells #[.string t] 9)
  have hWA := hW1.alloc (.cells #[.string t] 9)
  have FA := four_old F1 (.cells #[.string t] 9)
  have OA : Only R base w ((w.setCell ⟨R, 0, none⟩ v0).alloc (.cells #[.string t] 9)) := O1.trans (Only.alloc _ hb1)
  have hbA : base ≤ ((w.setCell ⟨R, 0, none⟩ v0).alloc (.cells #[.string t] 9)).heap.size := Nat.le_trans hbw OA.size
  have HP : Hid (((w.setCell ⟨R, 0, none⟩ v0).alloc (.cells #[.string t] 9)).ownsRow base 9 1 vp ps.length (strsV ps)) := hPA
  obtain ⟨vpa, vpn, vpc, rfl⟩ : ∃ a n cap, vp = .slice a n cap := by rcases hPr.2 with ⟨rfl, _⟩ | ⟨g, cap, cur, rfl, _⟩ <;> exact ⟨_, _, _, rfl⟩
  clear hWr hNr hPr hF hcs hP1 hN1 hW1 hPA hsz
  rcases hv0 with ⟨rfl, rfl⟩ | ⟨gb, n, cap, rfl, rfl, hn⟩
  all_goals (
    go_enter Tryz.func203, Tryz.ntmps203
    go_wp2_with (at_builtin; refine wpList_append_own _ rfl _ _ 46 rfl base 9 i0 (.string ⟨#[]⟩) 1 16 Tryz.underlying46 hi hz0 hz1 hz2 rfl (by decide) _ ps.length (strsV ps) rfl HP.out ⟨w.heap.size, 0, none⟩ 1 1 (strsV [t]) rfl rfl HC.out (fun u hu => by simp [strsV] at hu; subst hu; rfl) (by unfold maxLen; omega) (by omega) hbA ?_)
    intro v2 w2 o2 gr2 _
    rw [show strsV ps ++ strsV [t] = strsV (ps ++ [t]) by simp [strsV]] at o2
    have hrow : ∀ k, Value.ownBlock (.slice vpa vpn vpc) = some k → base ≤ k := fun k hk => (HP.out.lt k hk).1
    have F2 := FA.grown gr2 hR hrow
    have hN2 := hNA.kept gr2 (rows_apart HP.out hNA (by decide))
    have hW2 := hWA.kept gr2 (rows_apart HP.out hWA (by decide))
    have O2 := OA.trans (Only.grown gr2 hbA hrow)
    have hb2 := Nat.le_trans hbw O2.size
    clear gr2 HP hNA hWA FA OA hbA HC F1 O1
    obtain ⟨e0, e1, e2, e3⟩ := F2.cells
    have h2 := F2.frozen 2
    have F3 := (four_set F2 v2).2.2.1
    have hN3 := owns_set hN2 (p := ⟨R, 2, none⟩) hR v2
    have hW3 := owns_set hW2 (p := ⟨R, 2, none⟩) hR v2
    have hP3 := owns_set o2 (p := ⟨R, 2, none⟩) hR v2
    have O3 := O2.trans (Only.set w2 2 v2)
    have hb3 := Nat.le_trans hbw O3.size
    obtain ⟨k0, k1, k2, k3⟩ := F3.cells
    obtain ⟨q2, cap2, hv2⟩ : ∃ q cap, v2 = .slice q (ps.length + 1) cap := by
      rcases o2.2 with ⟨_, h⟩ | ⟨g, cap, cur, rfl, _⟩
      · omega
      · exact ⟨_, _, rfl⟩
    subst hv2
    clear o2 hN2 hW2 F2 O2 hb2 d0 d1 d2 d3 c0 c1 c2 c3
    have hRd : Rd (w2.setCell ⟨R, 2, none⟩ (.slice q2 (ps.length + 1) cap2)) R base [] ns (ps ++ [t]) true := ⟨_, _, _, F3, hW3, hN3, by simpa using hP3⟩
    clear F3 hN3 hW3 hP3
    by_cases hl : ps.length + 1 ≤ 3
    · have hl' : (ps.length : Int) + 1 ≤ 3 := by omega
      go_wp2_with (go_at_call 117; refine (implPart_c t htz _).mono ?_; rintro e w4 ⟨rfl, b4⟩)
      go_ret
      refine ⟨ret_bool (by simp [endOk, hl]), ?_, O3.trans (Only.below b4 hb3)⟩
      obtain ⟨x1, x2, x3, y1, y2, y3, y4⟩ := hRd
      exact ⟨x1, x2, x3, y1.keep b4, owns_of_below y2 b4, owns_of_below y3 b4, owns_of_below y4 b4⟩
    · have hl' : ¬ (ps.length : Int) + 1 ≤ 3 := by omega
      go_wp2
      go_ret
      exact ⟨ret_bool (by simp [endOk, hl]), hRd, O3⟩)
end Go.Proofs.YtbolphjigjpmiabGreatDoor

/-! What the program's reader of versions does at the end of a word of digits, and at each sign: contracts for the walks; condition: what it holds lies in memory as told. -/
namespace Go.Proofs.YtbolphjigjpmiabGreatDoor
open Go.RowKit
set_option linter.unusedSimpArgs false
set_option linter.unusedVariables false

theorem cell_int (w : World) (n : Int) : ∀ j u, [Value.int .i64 n][j]? = some u → (w.alloc (.cells #[.int .i64 n] 3)).cell? ((⟨w.heap.size, 0, none⟩ : Addr).add j) = some u := cell_one_new _ _ _
theorem cell_byte (w : World) (n : Int) : ∀ j u, [Value.int .u8 n][j]? = some u → (w.alloc (.cells #[.int .u8 n] 5)).cell? ((⟨w.heap.size, 0, none⟩ : Addr).add j) = some u := cell_one_new _ _ _
theorem Rd.keep {w w' : World} {R base : Nat} {ws ns : List Int} {ps : List ByteArray} {inP : Bool} (h : Rd w R base ws ns ps inP) (b : Below w.heap.size w w') : Rd w' R base ws ns ps inP := by
  obtain ⟨x1, x2, x3, y1, y2, y3, y4⟩ := h
  exact ⟨x1, x2, x3, y1.keep b, owns_of_below y2 b, owns_of_below y3 b, owns_of_below y4 b⟩

set_option maxHeartbeats 2000000 in
set_option maxRecDepth 100000 in
theorem ends_out (R base : Nat) (ws ns : List Int) (ps : List ByteArray) (w : World) (h : Rd w R base ws ns ps false) (hR : R < base) (hbw : base ≤ w.heap.size) (hw : ws.length ≤ 1048576) (hns : ns.length ≤ 1048576) :
    Calls Tryz.prog 203 #[.pointer (some ⟨R, 0, none⟩)] w fun e w' => e = .returned (.bool (endOk ns ps false (strOfNums ws))) ∧ Rd w' R base [] (endNs ns false (strOfNums ws)) (endPs ps false (strOfNums ws)) false ∧ Only R base w w' := by
  obtain ⟨i0, hi, hz0, hz1, hz2⟩ := info_parts infoI
  obtain ⟨vw, vn, vp, hF, hWr, hNr, hPr⟩ := h
  have hcv := conv_word hWr
  have htz : (strOfNums ws).size ≤ maxLen := by rw [strOfNums_size]; unfold maxLen; omega
  obtain ⟨t, ht⟩ : ∃ t, t = strOfNums ws := ⟨_, rfl⟩
  rw [← ht] at hcv htz ⊢
  clear ht
  obtain ⟨v0, hv0, hW0⟩ : ∃ v0, (vw = .slice none 0 0 ∧ v0 = .slice none 0 0 ∨ ∃ g n cap, vw = .slice (some ⟨g, 0, none⟩) n cap ∧ v0 = .slice (some ⟨g, 0, none⟩) 0 cap ∧ n ≤ cap) ∧ w.ownsRow base 5 1 v0 0 [] := by
    rcases hWr.2 with ⟨rfl, _⟩ | ⟨g, cap, cur, rfl, _, _, hn, _⟩
    · exact ⟨_, .inl ⟨rfl, rfl⟩, World.ownsRow_nil _ _ _ _⟩
    · exact ⟨_, .inr ⟨g, ws.length, cap, rfl, rfl, hn⟩, row_empty hWr⟩
  have F1 := (four_set hF v0).1
  have hW1 := owns_set hW0 (p := ⟨R, 0, none⟩) hR v0
  have hN1 := owns_set hNr (p := ⟨R, 0, none⟩) hR v0
  have hP1 := owns_set hPr (p := ⟨R, 0, none⟩) hR v0
  have O1 : Only R base w (w.setCell ⟨R, 0, none⟩ v0) := Only.set w 0 v0
  have hb1 : base ≤ (w.setCell ⟨R, 0, none⟩ v0).heap.size := Nat.le_trans hbw O1.size
  obtain ⟨c0, c1, c2, c3⟩ := hF.cells
  have f0 := hF.frozen 0
  obtain ⟨d0, d1, d2, d3⟩ := F1.cells
  have g2 := F1.frozen 1
  have hlR := F1.lt
  obtain ⟨m, hm⟩ : ∃ m, m = numOut t 9999 := ⟨_, rfl⟩
  have HNum : Hid (∀ w1, Calls Tryz.prog 205 #[.string t, .int .i64 9999] w1 fun e w' => e = .returned (.tuple #[.int .i64 m, .bool (numGood t 9999)]) ∧ w1 = w') := fun w1 => by rw [hm]; exact implNum_c t 9999 htz w1
  have HM : Hid (m = numOut t 9999) := hm
  clear hm
  have hsz : (w.setCell ⟨R, 0, none⟩ v0).heap.size = w.heap.size := by simp [World.setCell]
  have hcs := cell_int (w.setCell ⟨R, 0, none⟩ v0) m
  rw [hsz] at hcs
  have HC : Hid (∀ j u, (intsV [m])[j]? = some u → ((w.setCell ⟨R, 0, none⟩ v0).alloc (.cells #[.int .i64 m] 3)).cell? ((⟨w.heap.size, 0, none⟩ : Addr).add j) = some u) := hcs
  have hPA := hP1.alloc (.cells #[.int .i64 m] 3)
  have hNA := hN1.alloc (.cells #[.int .i64 m] 3)
  have hWA := hW1.alloc (.cells #[.int .i64 m] 3)
  have FA := four_old F1 (.cells #[.int .i64 m] 3)
  have OA : Only R base w ((w.setCell ⟨R, 0, none⟩ v0).alloc (.cells #[.int .i64 m] 3)) := O1.trans (Only.alloc _ hb1)
  have hbA : base ≤ ((w.setCell ⟨R, 0, none⟩ v0).alloc (.cells #[.int .i64 m] 3)).heap.size := Nat.le_trans hbw OA.size
  have HP : Hid (((w.setCell ⟨R, 0, none⟩ v0).alloc (.cells #[.int .i64 m] 3)).ownsRow base 3 1 vn ns.length (intsV ns)) := hNA
  obtain ⟨vna, vnn, vnc, rfl⟩ : ∃ a n cap, vn = .slice a n cap := by rcases hNr.2 with ⟨rfl, _⟩ | ⟨g, cap, cur, rfl, _⟩ <;> exact ⟨_, _, _, rfl⟩
  clear hWr hNr hPr hF hcs hP1 hN1 hW1 hNA hsz
  rcases hv0 with ⟨rfl, rfl⟩ | ⟨gb, n, cap, rfl, rfl, hn⟩
  all_goals (
    go_enter Tryz.func203, Tryz.ntmps203
    go_wp2_with (first
      | (go_at_call 205; refine (HNum.out _).mono ?_; rintro e w1 ⟨rfl, rfl⟩)
      | (at_builtin; refine wpList_append_own _ rfl _ _ 178 rfl base 3 i0 (.int .i64 0) 1 8 Tryz.underlying178 hi hz0 hz1 hz2 rfl (by decide) _ ns.length (intsV ns) rfl HP.out ⟨w.heap.size, 0, none⟩ 1 1 (intsV [m]) rfl rfl HC.out (fun u hu => by simp [intsV] at hu; subst hu; rfl) (by unfold maxLen; omega) (by omega) hbA ?_))
    intro v2 w2 o2 gr2 _
    rw [show intsV ns ++ intsV [m] = intsV (ns ++ [m]) by simp [intsV]] at o2
    have hrow : ∀ k, Value.ownBlock (.slice vna vnn vnc) = some k → base ≤ k := fun k hk => (HP.out.lt k hk).1
    have F2 := FA.grown gr2 hR hrow
    have hP2 := hPA.kept gr2 (rows_apart HP.out hPA (by decide))
    have hW2 := hWA.kept gr2 (rows_apart HP.out hWA (by decide))
    have O2 := OA.trans (Only.grown gr2 hbA hrow)
    have hb2 := Nat.le_trans hbw O2.size
    clear gr2 HP hPA hWA FA OA hbA HC F1 O1
    obtain ⟨e0, e1, e2, e3⟩ := F2.cells
    have h2 := F2.frozen 1
    have F3 := (four_set F2 v2).2.1
    have hN3 := owns_set o2 (p := ⟨R, 1, none⟩) hR v2
    have hW3 := owns_set hW2 (p := ⟨R, 1, none⟩) hR v2
    have hP3 := owns_set hP2 (p := ⟨R, 1, none⟩) hR v2
    have O3 := O2.trans (Only.set w2 1 v2)
    have hb3 := Nat.le_trans hbw O3.size
    obtain ⟨k0, k1, k2, k3⟩ := F3.cells
    obtain ⟨q2, cap2, hv2⟩ : ∃ q cap, v2 = .slice q (ns.length + 1) cap := by
      rcases o2.2 with ⟨_, h⟩ | ⟨g, cap, cur, rfl, _⟩
      · omega
      · exact ⟨_, _, rfl⟩
    subst hv2
    clear o2 hP2 hW2 F2 O2 hb2 d0 d1 d2 d3 c0 c1 c2 c3
    have hRd : Rd (w2.setCell ⟨R, 1, none⟩ (.slice q2 (ns.length + 1) cap2)) R base [] (ns ++ [m]) ps false := ⟨_, _, _, F3, hW3, by simpa using hN3, hP3⟩
    rw [HM.out] at hRd
    clear F3 hN3 hW3 hP3
    cases hg : numGood t 9999 with
    | true =>
      go_wp2
      go_ret
      refine ⟨ret_bool ?_, hRd, O3⟩
      rw [endOk, if_neg (by simp), hg, Bool.eq_iff_iff]
      simp; try omega
    | false =>
      go_wp2
      go_ret
      exact ⟨ret_bool (by rw [endOk, if_neg (by simp), hg]; rfl), hRd, O3⟩)

theorem ends_c (R base : Nat) (ws ns : List Int) (ps : List ByteArray) (inP : Bool) (w : World) (h : Rd w R base ws ns ps inP) (hR : R < base) (hbw : base ≤ w.heap.size) (hw : ws.length ≤ 1048576) (hns : ns.length ≤ 1048576) (hps : ps.length ≤ 1048576) :
    Calls Tryz.prog 203 #[.pointer (some ⟨R, 0, none⟩)] w fun e w' => e = .returned (.bool (endOk ns ps inP (strOfNums ws))) ∧ Rd w' R base [] (endNs ns inP (strOfNums ws)) (endPs ps inP (strOfNums ws)) inP ∧ Only R base w w' := by
  cases inP
  · exact ends_out R base ws ns ps w h hR hbw hw hns
  · exact ends_in R base ws ns ps w h hR hbw hw hps
end Go.Proofs.YtbolphjigjpmiabGreatDoor

/-! What the program's reader of versions does at each sign: contracts for the walks; condition: what it holds lies in memory as told. -/
namespace Go.Proofs.YtbolphjigjpmiabGreatDoor
open Go.RowKit
set_option linter.unusedSimpArgs false
set_option linter.unusedVariables false

set_option maxHeartbeats 2000000 in
set_option maxRecDepth 100000 in
theorem takes_dot (R base : Nat) (ws ns : List Int) (ps : List ByteArray) (inP : Bool) (w : World) (h : Rd w R base ws ns ps inP) (hR : R < base) (hbw : base ≤ w.heap.size) (hw : ws.length ≤ 1048576) (hns : ns.length ≤ 1048576) (hps : ps.length ≤ 1048576) :
    Calls Tryz.prog 202 #[.pointer (some ⟨R, 0, none⟩), .int .i32 46] w fun e w' => e = .returned (.bool (endOk ns ps inP (strOfNums ws))) ∧ Rd w' R base [] (endNs ns inP (strOfNums ws)) (endPs ps inP (strOfNums ws)) inP ∧ Only R base w w' := by
  have HE := ends_c R base ws ns ps inP w h hR hbw hw hns hps
  clear h
  go_enter Tryz.func202, Tryz.ntmps202
  go_wp2_with (go_at_call 203; refine HE.mono ?_; rintro e w1 ⟨rfl, h1, o1⟩)
  go_ret
  exact ⟨rfl, h1, o1⟩

set_option maxHeartbeats 2000000 in
set_option maxRecDepth 100000 in
theorem takes_dash (R base : Nat) (ws ns : List Int) (ps : List ByteArray) (w : World) (h : Rd w R base ws ns ps false) (hR : R < base) (hbw : base ≤ w.heap.size) (hw : ws.length ≤ 1048576) (hns : ns.length ≤ 1048576) (hps : ps.length ≤ 1048576) :
    Calls Tryz.prog 202 #[.pointer (some ⟨R, 0, none⟩), .int .i32 45] w fun e w' => e = .returned (.bool (endOk ns ps false (strOfNums ws))) ∧ Rd w' R base [] (endNs ns false (strOfNums ws)) (endPs ps false (strOfNums ws)) true ∧ Only R base w w' := by
  have HE := ends_c R base ws ns ps false w h hR hbw hw hns hps
  obtain ⟨vw, vn, vp, hF, hWr, hNr, hPr⟩ := h
  obtain ⟨c0, c1, c2, c3⟩ := hF.cells
  clear hWr hNr hPr hF
  go_enter Tryz.func202, Tryz.ntmps202
  go_wp2_with fail
  go_at_call 203
  refine HE.mono ?_
  rintro e w1 ⟨rfl, ⟨vw', vn', vp', F1, hW1, hN1, hP1⟩, o1⟩
  obtain ⟨d0, d1, d2, d3⟩ := F1.cells
  have g3 := F1.frozen 3
  go_wp2_with fail
  go_ret
  exact ⟨rfl, ⟨_, _, _, (four_set F1 (.bool true)).2.2.2, owns_set hW1 (p := ⟨R, 3, none⟩) hR _, owns_set hN1 (p := ⟨R, 3, none⟩) hR _, owns_set hP1 (p := ⟨R, 3, none⟩) hR _⟩, o1.trans (Only.set w1 3 _)⟩

theorem pre_range {c : Int} (h : preB c = true) : 45 ≤ c ∧ c ≤ 122 := by
  simp [preB, smallB, inB, digitB] at h; omega

set_option maxHeartbeats 2000000 in
set_option maxRecDepth 100000 in
theorem takes_sign (R base : Nat) (ws ns : List Int) (ps : List ByteArray) (inP : Bool) (c : Int) (w : World) (h : Rd w R base ws ns ps inP) (hR : R < base) (hbw : base ≤ w.heap.size) (hw : ws.length ≤ 1048576) (hc1 : ¬ c = 46) (hc2 : ¬ (c = 45 ∧ inP = false)) (hp : preB c = true) :
    Calls Tryz.prog 202 #[.pointer (some ⟨R, 0, none⟩), .int .i32 c] w fun e w' => e = .returned (.bool true) ∧ Rd w' R base (ws ++ [c]) ns ps inP ∧ Only R base w w' := by
  obtain ⟨i0, hi, hz0, hz1, hz2⟩ := info_parts info5
  have hcr := pre_range hp
  obtain ⟨hcl, hch⟩ := hcr
  obtain ⟨vw, vn, vp, hF, hWr, hNr, hPr⟩ := h
  obtain ⟨c0, c1, c2, c3⟩ := hF.cells
  have f0 := hF.frozen 0
  have hlR := hF.lt
  have e1 : (c == 46) = false := by simpa using hc1
  have HC : Hid (∀ j u, (bytesV [c])[j]? = some u → (w.alloc (.cells #[.int .u8 c] 5)).cell? ((⟨w.heap.size, 0, none⟩ : Addr).add j) = some u) := cell_byte w c
  have hPA := hPr.alloc (.cells #[.int .u8 c] 5)
  have hNA := hNr.alloc (.cells #[.int .u8 c] 5)
  have hWA := hWr.alloc (.cells #[.int .u8 c] 5)
  have FA := four_old hF (.cells #[.int .u8 c] 5)
  have OA : Only R base w (w.alloc (.cells #[.int .u8 c] 5)) := Only.alloc _ hbw
  have hbA : base ≤ (w.alloc (.cells #[.int .u8 c] 5)).heap.size := Nat.le_trans hbw OA.size
  have HP : Hid ((w.alloc (.cells #[.int .u8 c] 5)).ownsRow base 5 1 vw ws.length (bytesV ws)) := hWA
  obtain ⟨vna, vnn, vnc, rfl⟩ : ∃ a n cap, vw = .slice a n cap := by rcases hWr.2 with ⟨rfl, _⟩ | ⟨g, cap, cur, rfl, _⟩ <;> exact ⟨_, _, _, rfl⟩
  have hwu : IntKind.u8.wrap c = c := by simp [IntKind.wrap, IntKind.signed, IntKind.bits]; omega
  clear hWr hNr hPr hF hWA
  have hfin : ∀ v2 w2, w2.ownsRow base 5 1 v2 (ws.length + 1) (bytesV ws ++ bytesV [c]) → (w.alloc (.cells #[.int .u8 c] 5)).grownBy w2 (Value.ownBlock (.slice vna vnn vnc)) → Four w2 R 225 (.slice vna vnn vnc) vn vp (.bool inP) ∧ Rd (w2.setCell ⟨R, 0, none⟩ v2) R base (ws ++ [c]) ns ps inP ∧ Only R base w (w2.setCell ⟨R, 0, none⟩ v2) := fun v2 w2 o2 gr2 => by
    have hrow : ∀ k, Value.ownBlock (.slice vna vnn vnc) = some k → base ≤ k := fun k hk => (HP.out.lt k hk).1
    have F2 := FA.grown gr2 hR hrow
    have hP2 := hPA.kept gr2 (rows_apart HP.out hPA (by decide))
    have hN2 := hNA.kept gr2 (rows_apart HP.out hNA (by decide))
    rw [show bytesV ws ++ bytesV [c] = bytesV (ws ++ [c]) by simp [bytesV]] at o2
    refine ⟨F2, ⟨_, _, _, (four_set F2 v2).1, by simpa using owns_set o2 (p := ⟨R, 0, none⟩) hR v2, owns_set hN2 (p := ⟨R, 0, none⟩) hR v2, owns_set hP2 (p := ⟨R, 0, none⟩) hR v2⟩, (OA.trans (Only.grown gr2 hbA hrow)).trans (Only.set w2 0 v2)⟩
  have HF : Hid (∀ v2 w2, w2.ownsRow base 5 1 v2 (ws.length + 1) (bytesV ws ++ bytesV [c]) → (w.alloc (.cells #[.int .u8 c] 5)).grownBy w2 (Value.ownBlock (.slice vna vnn vnc)) → Four w2 R 225 (.slice vna vnn vnc) vn vp (.bool inP) ∧ Rd (w2.setCell ⟨R, 0, none⟩ v2) R base (ws ++ [c]) ns ps inP ∧ Only R base w (w2.setCell ⟨R, 0, none⟩ v2)) := hfin
  clear hfin hPA hNA FA OA
  by_cases hd : c = 45
  · have hin : inP = true := by cases inP with | true => rfl | false => exact absurd ⟨hd, rfl⟩ hc2
    subst hin
    have e2 : (c == 45) = true := by simpa using hd
    clear hd hc2 hc1
    go_enter Tryz.func202, Tryz.ntmps202
    go_wp2_with (first
      | (go_at_call 153; refine (isPreSign_c _ _).mono ?_; rintro e w1 ⟨rfl, rfl⟩)
      | (at_builtin; refine wpList_append_own _ rfl _ _ 131 rfl base 5 i0 (.int .u8 0) 1 1 Tryz.underlying131 hi hz0 hz1 hz2 rfl (by decide) _ ws.length (bytesV ws) rfl HP.out ⟨w.heap.size, 0, none⟩ 1 1 (bytesV [c]) rfl rfl HC.out (fun u hu => by simp [bytesV] at hu; subst hu; rfl) (by unfold maxLen; omega) (by omega) hbA ?_))
    intro v2 w2 o2 gr2 _
    obtain ⟨F2, hRd, O2⟩ := HF.out v2 w2 o2 gr2
    obtain ⟨d0, d1, d2, d3⟩ := F2.cells
    have g0 := F2.frozen 0
    obtain ⟨q2, cap2, hv2⟩ : ∃ q cap, v2 = .slice q (ws.length + 1) cap := by
      rcases o2.2 with ⟨_, h⟩ | ⟨g, cap, cur, rfl, _⟩
      · omega
      · exact ⟨_, _, rfl⟩
    subst hv2
    clear o2 gr2 HF HP HC
    go_wp2_with fail
    go_ret
    exact ⟨rfl, hRd, O2⟩
  · have e2 : (c == 45) = false := by simpa using hd
    clear hd hc2 hc1
    go_enter Tryz.func202, Tryz.ntmps202
    go_wp2_with (first
      | (go_at_call 153; refine (isPreSign_c _ _).mono ?_; rintro e w1 ⟨rfl, rfl⟩)
      | (at_builtin; refine wpList_append_own _ rfl _ _ 131 rfl base 5 i0 (.int .u8 0) 1 1 Tryz.underlying131 hi hz0 hz1 hz2 rfl (by decide) _ ws.length (bytesV ws) rfl HP.out ⟨w.heap.size, 0, none⟩ 1 1 (bytesV [c]) rfl rfl HC.out (fun u hu => by simp [bytesV] at hu; subst hu; rfl) (by unfold maxLen; omega) (by omega) hbA ?_))
    intro v2 w2 o2 gr2 _
    obtain ⟨F2, hRd, O2⟩ := HF.out v2 w2 o2 gr2
    obtain ⟨d0, d1, d2, d3⟩ := F2.cells
    have g0 := F2.frozen 0
    obtain ⟨q2, cap2, hv2⟩ : ∃ q cap, v2 = .slice q (ws.length + 1) cap := by
      rcases o2.2 with ⟨_, h⟩ | ⟨g, cap, cur, rfl, _⟩
      · omega
      · exact ⟨_, _, rfl⟩
    subst hv2
    clear o2 gr2 HF HP HC
    go_wp2_with fail
    go_ret
    exact ⟨rfl, hRd, O2⟩

set_option maxHeartbeats 2000000 in
set_option maxRecDepth 100000 in
theorem takes_bad (R base : Nat) (ws ns : List Int) (ps : List ByteArray) (inP : Bool) (c : Int) (w : World) (h : Rd w R base ws ns ps inP) (hc1 : ¬ c = 46) (hc2 : ¬ c = 45) (hp : preB c = false) :
    Calls Tryz.prog 202 #[.pointer (some ⟨R, 0, none⟩), .int .i32 c] w fun e w' => e = .returned (.bool false) ∧ w = w' := by
  have e1 : (c == 46) = false := by simpa using hc1
  have e2 : (c == 45) = false := by simpa using hc2
  clear hc1 hc2 h
  go_enter Tryz.func202, Tryz.ntmps202
  go_wp2_with (go_at_call 153; refine (isPreSign_c _ _).mono ?_; rintro e w1 ⟨rfl, rfl⟩)
  go_ret
  exact ⟨rfl, rfl⟩
end Go.Proofs.YtbolphjigjpmiabGreatDoor

/-! What the program's ParseVer answers: what its reader tells of the text's bytes: a contract for the walks; condition: the text has at most 2 to the 20 bytes. -/
namespace Go.Proofs.YtbolphjigjpmiabGreatDoor
open Go.RowKit
set_option linter.unusedSimpArgs false
set_option linter.unusedVariables false

def wordL (s : ByteArray) (b i : Nat) : List Int := (s.extract b i).data.toList.map fun u => (u.toNat : Int)
theorem word_str (s : ByteArray) (b i : Nat) : strOfNums (wordL s b i) = s.extract b i := by
  apply vext
  rw [strOfNums_data, wordL, List.map_map]
  conv => rhs; rw [← List.map_id (s.extract b i).data.toList]
  apply List.map_congr_left
  intro u _
  simp
theorem word_nil (s : ByteArray) (b : Nat) : wordL s b b = [] := by rw [wordL, vextract, Nat.sub_self]; rfl
theorem word_snoc (s : ByteArray) (b i : Nat) (hb : b ≤ i) (hi : i < s.size) : wordL s b (i + 1) = wordL s b i ++ [((s.data[i]!).toNat : Int)] := by
  rw [wordL, wordL, vextract, vextract, show i + 1 - b = (i - b) + 1 by omega, List.take_succ_eq_append_getElem (by rw [List.length_drop, vlen]; omega), List.map_append, List.getElem_drop]
  have e : s.data.toList[b + (i - b)]'(by rw [vlen]; omega) = s.data[i]! := by
    rw [getElem!_pos s.data i hi]
    simp [show b + (i - b) = i by omega]
  rw [e]; rfl
theorem word_len (s : ByteArray) (b i : Nat) (hb : b ≤ i) (hi : i ≤ s.size) : (wordL s b i).length = i - b := by
  rw [wordL, List.length_map, vlen, vsize s b i hb hi]

/-- What a sign does. -/
def endsB (c : Int) (inP : Bool) : Bool := c == 46 || (c == 45 && !inP)
def takeOk (c : Int) (ns : List Int) (ps : List ByteArray) (inP : Bool) (t : ByteArray) : Bool := if endsB c inP then endOk ns ps inP t else preB c
def takeNs (c : Int) (ns : List Int) (inP : Bool) (t : ByteArray) : List Int := if endsB c inP then endNs ns inP t else ns
def takePs (c : Int) (ps : List ByteArray) (inP : Bool) (t : ByteArray) : List ByteArray := if endsB c inP then endPs ps inP t else ps
def takeIn (c : Int) (inP : Bool) : Bool := inP || c == 45
def takeWs (c : Int) (ws : List Int) (inP : Bool) : List Int := if endsB c inP then [] else ws ++ [c]

theorem takes_c (R base : Nat) (ws ns : List Int) (ps : List ByteArray) (inP : Bool) (c : Int) (w : World) (h : Rd w R base ws ns ps inP) (hR : R < base) (hbw : base ≤ w.heap.size) (hw : ws.length ≤ 1048576) (hns : ns.length ≤ 1048576) (hps : ps.length ≤ 1048576) :
    Calls Tryz.prog 202 #[.pointer (some ⟨R, 0, none⟩), .int .i32 c] w fun e w' => e = .returned (.bool (takeOk c ns ps inP (strOfNums ws))) ∧ (takeOk c ns ps inP (strOfNums ws) = true → Rd w' R base (takeWs c ws inP) (takeNs c ns inP (strOfNums ws)) (takePs c ps inP (strOfNums ws)) (takeIn c inP)) ∧ Only R base w w' := by
  by_cases h1 : c = 46
  · subst h1
    refine (takes_dot R base ws ns ps inP w h hR hbw hw hns hps).mono ?_
    rintro e w' ⟨rfl, h1, o1⟩
    have e : endsB 46 inP = true := by simp [endsB]
    have e2 : takeIn 46 inP = inP := by simp [takeIn]
    rw [takeOk, takeWs, takeNs, takePs, e, e2]
    exact ⟨rfl, fun _ => h1, o1⟩
  · by_cases h2 : c = 45 ∧ inP = false
    · obtain ⟨rfl, rfl⟩ := h2
      refine (takes_dash R base ws ns ps w h hR hbw hw hns hps).mono ?_
      rintro e w' ⟨rfl, h1, o1⟩
      exact ⟨rfl, fun _ => h1, o1⟩
    · have e : endsB c inP = false := by
        cases inP
        · have : ¬ c = 45 := fun h => h2 ⟨h, rfl⟩
          simp [endsB, h1, this]
        · simp [endsB, h1]
      rw [takeOk, takeWs, takeNs, takePs, e]
      cases hp : preB c with
      | true =>
        refine (takes_sign R base ws ns ps inP c w h hR hbw hw h1 h2 hp).mono ?_
        rintro e w' ⟨rfl, h1, o1⟩
        have e2 : takeIn c inP = inP := by
          cases inP
          · have : ¬ c = 45 := fun h => h2 ⟨h, rfl⟩
            simp [takeIn, this]
          · simp [takeIn]
        rw [e2]
        exact ⟨rfl, fun _ => h1, o1⟩
      | false =>
        have h3 : ¬ c = 45 := fun h => by subst h; exact absurd hp (by decide)
        refine (takes_bad R base ws ns ps inP c w h h1 h3 hp).mono ?_
        rintro e w' ⟨rfl, rfl⟩
        exact ⟨rfl, fun h => by simp at h, Only.refl _ _ _⟩

theorem reads_step (s : ByteArray) (i b : Nat) (ns : List Int) (ps : List ByteArray) (inP : Bool) (hi : i < s.size) (c : Int) (hc : c = ((s.data[i]!).toNat : Int)) :
    reads s (s.size - i) i b ns ps inP = if takeOk c ns ps inP (s.extract b i) then reads s (s.size - (i + 1)) (i + 1) (if endsB c inP then i + 1 else b) (takeNs c ns inP (s.extract b i)) (takePs c ps inP (s.extract b i)) (takeIn c inP) else none := by
  subst hc
  rw [show s.size - i = (s.size - (i + 1)) + 1 by omega, reads]
  generalize ((s.data[i]!).toNat : Int) = c
  by_cases h1 : c = 46
  · subst h1
    simp [takeOk, takeNs, takePs, takeIn, endsB]
  · rw [if_neg h1]
    by_cases h2 : c = 45 ∧ inP = false
    · obtain ⟨rfl, rfl⟩ := h2
      simp [takeOk, takeNs, takePs, takeIn, endsB]
    · rw [if_neg h2]
      have e : endsB c inP = false := by
        cases inP
        · have : ¬ c = 45 := fun h => h2 ⟨h, rfl⟩
          simp [endsB, h1, this]
        · simp [endsB, h1]
      have e2 : takeIn c inP = inP := by
        cases inP
        · have : ¬ c = 45 := fun h => h2 ⟨h, rfl⟩
          simp [takeIn, this]
        · simp [takeIn]
      rw [takeOk, takeNs, takePs, e, e2]
      simp

theorem take_len {c : Int} {ns : List Int} {ps : List ByteArray} {inP : Bool} {t : ByteArray} (h : takeOk c ns ps inP t = true) (hn : ns.length ≤ 3) (hp : ps.length ≤ 3) : (takeNs c ns inP t).length ≤ 3 ∧ (takePs c ps inP t).length ≤ 3 := by
  unfold takeOk takeNs takePs at *
  cases he : endsB c inP
  · simp [he, hn, hp]
  · rw [he] at h
    cases inP
    · simp [endOk, endNs, endPs] at *; omega
    · simp [endOk, endNs, endPs] at *; omega

theorem iter_four {w : World} {R k : Nat} {t : TypeId} {c0 c1 c2 c3 : Value} (h : Four w R t c0 c1 c2 c3) (hk : R ≠ k) (s : ByteArray) (p : Nat) : Four (w.iterAt k s p) R t c0 c1 c2 c3 := (Lib.iterAt_other w k R s p hk).trans h
theorem iter_owns {w : World} {base : Nat} {e : TypeId} {v : Value} {n : Nat} {xs : List Value} (h : w.ownsRow base e 1 v n xs) {k : Nat} (hk : k < base) (s : ByteArray) (p : Nat) : (w.iterAt k s p).ownsRow base e 1 v n xs := by
  obtain ⟨h1, h2⟩ := h
  refine ⟨h1, ?_⟩
  rcases h2 with h2 | ⟨g, cap, cur, a, b, c, d⟩
  · exact .inl h2
  · exact .inr ⟨g, cap, cur, a, b, by rw [Lib.iterAt_other _ _ _ _ _ (by omega)]; exact c, d⟩
theorem Rd.iter {w : World} {R base : Nat} {ws ns : List Int} {ps : List ByteArray} {inP : Bool} (h : Rd w R base ws ns ps inP) {k : Nat} (hk : k < base) (hR : R ≠ k) (s : ByteArray) (p : Nat) : Rd (w.iterAt k s p) R base ws ns ps inP := by
  obtain ⟨x1, x2, x3, y1, y2, y3, y4⟩ := h
  exact ⟨x1, x2, x3, iter_four y1 hR s p, iter_owns y2 hk s p, iter_owns y3 hk s p, iter_owns y4 hk s p⟩

def resAll (s : ByteArray) : Option (List Int × List ByteArray) := reads s s.size 0 0 [] [] false
def resOk (s : ByteArray) : Bool := (resAll s).isSome
def resN (s : ByteArray) (j : Nat) : Int := match resAll s with | some (ns, _) => ns.getD j 0 | none => 0
def resP (s : ByteArray) : List ByteArray := match resAll s with | some (_, ps) => ps | none => []
end Go.Proofs.YtbolphjigjpmiabGreatDoor

/-! What the program's ParseVer answers: what its reader tells of the text's bytes: a contract for the walks; condition: the text has at most 2 to the 20 bytes. -/
namespace Go.Proofs.YtbolphjigjpmiabGreatDoor
open Go.RowKit
set_option linter.unusedSimpArgs false
set_option linter.unusedVariables false

def zeroVer : Value := .agg #[.int .i64 0, .int .i64 0, .int .i64 0, .slice none 0 0]
def verOut (s : ByteArray) (u : Value) : Value := .tuple #[.agg #[.int .i64 (resN s 0), .int .i64 (resN s 1), .int .i64 (resN s 2), u], .bool (resOk s)]
theorem out_none {s : ByteArray} (h : resAll s = none) : verOut s (.slice none 0 0) = .tuple #[.agg #[.int .i64 0, .int .i64 0, .int .i64 0, .slice none 0 0], .bool false] ∧ resP s = [] := by
  simp [verOut, resN, resOk, resP, h]
theorem out_some {s : ByteArray} {ns : List Int} {ps : List ByteArray} (h : resAll s = some (ns, ps)) (u : Value) : verOut s u = .tuple #[.agg #[.int .i64 (ns.getD 0 0), .int .i64 (ns.getD 1 0), .int .i64 (ns.getD 2 0), u], .bool true] ∧ resP s = ps := by
  simp [verOut, resN, resOk, resP, h]
theorem Only.four {R base N : Nat} {w w' : World} {t : TypeId} {c0 c1 c2 c3 : Value} (h : Only R base w w') (hF : Four w N t c0 c1 c2 c3) (hN : N < base) (hR : N ≠ R) : Four w' N t c0 c1 c2 c3 := (h.block N hN hR).trans hF
theorem Only.belowW {R base B : Nat} {w0 w w' : World} (h : Only R base w w') (hb : Below B w0 w) (hB : B ≤ base) (hR : B ≤ R) : Below B w0 w' :=
  hb.trans ⟨h.os, h.tape, h.output, h.size, fun k hk => h.block k (by omega) (by omega)⟩

theorem far4 {w : World} {N g j : Nat} {v0 v1 v2 v3 : Value} (h : g ≠ N) : ((((w.setCell ⟨N, 0, none⟩ v0).setCell ⟨N, 1, none⟩ v1).setCell ⟨N, 2, none⟩ v2).setCell ⟨N, 3, none⟩ v3).drew.cell? ⟨g, j, none⟩ = w.cell? ⟨g, j, none⟩ := by
  have hh : ∀ (a : World) (i : Nat) (x : Value), (a.setCell ⟨N, i, none⟩ x).cell? ⟨g, j, none⟩ = a.cell? ⟨g, j, none⟩ := fun a i x => World.cell?_setCell_other _ _ _ _ (by intro e; injection e; omega)
  show ((((w.setCell ⟨N, 0, none⟩ v0).setCell ⟨N, 1, none⟩ v1).setCell ⟨N, 2, none⟩ v2).setCell ⟨N, 3, none⟩ v3).cell? ⟨g, j, none⟩ = _
  rw [hh, hh, hh, hh]
theorem owns_lower {w : World} {base base' : Nat} {e : TypeId} {v : Value} {n : Nat} {xs : List Value} (h : w.ownsRow base e 1 v n xs) (hb : base' ≤ base) : w.ownsRow base' e 1 v n xs := by
  obtain ⟨h1, h2⟩ := h
  refine ⟨h1, ?_⟩
  rcases h2 with h2 | ⟨g, cap, cur, a, b, c⟩
  · exact .inl h2
  · exact .inr ⟨g, cap, cur, a, Nat.le_trans hb b, c⟩
theorem endNs_len {ns : List Int} {inP : Bool} {t : ByteArray} (h : ns.length ≤ 3) : (endNs ns inP t).length ≤ 4 := by
  cases inP <;> simp [endNs] <;> omega
theorem two_new {w : World} (o o' : Obj) : Below w.heap.size w ((w.alloc o).alloc o') := ((Below.refl _ _).alloc (Nat.le_refl _) _).alloc (by simp) _

set_option maxHeartbeats 4000000 in
set_option maxRecDepth 100000 in
theorem implParse_c (s : ByteArray) (hs : s.size ≤ 1048576) (w : World) :
    Calls Tryz.prog 167 #[.string s] w fun e w' => ∃ u, e = .returned (verOut s u) ∧ w'.ownsRow w.heap.size 9 1 u (resP s).length (strsV (resP s)) ∧ Below w.heap.size w w' := by
  obtain ⟨A0, B0⟩ := four_two w 58 225 (.int .i64 0) (.int .i64 0) (.int .i64 0) (.slice none 0 0) (.slice none 0 0) (.slice none 0 0) (.slice none 0 0) (.bool false)
  have hbW := two_new (w := w) (.cells #[.int .i64 0, .int .i64 0, .int .i64 0, .slice none 0 0] 58) (.cells #[.slice none 0 0, .slice none 0 0, .slice none 0 0, .bool false] 225)
  have hsW : ((w.alloc (.cells #[.int .i64 0, .int .i64 0, .int .i64 0, .slice none 0 0] 58)).alloc (.cells #[.slice none 0 0, .slice none 0 0, .slice none 0 0, .bool false] 225)).heap.size = w.heap.size + 1 + 1 := by simp
  go_enter Tryz.func167, Tryz.ntmps167
  go_wp2
  go_loopw [6] (fun _ wr => ∃ (pos b : Nat) (ns : List Int) (ps : List ByteArray) (inP : Bool), pos ≤ s.size ∧ b ≤ pos ∧ ns.length ≤ 3 ∧ ps.length ≤ 3 ∧ wr.heap[w.heap.size + 1 + 1]? = some (.stringIter s pos) ∧ Rd wr (w.heap.size + 1) (w.heap.size + 1 + 1 + 1) (wordL s b pos) ns ps inP ∧ Hid (reads s (s.size - pos) pos b ns ps inP = resAll s) ∧ Below w.heap.size w wr ∧ Four wr w.heap.size 58 (.int .i64 0) (.int .i64 0) (.int .i64 0) (.slice none 0 0) ∧ w.heap.size + 1 + 1 + 1 ≤ wr.heap.size) (fun _ wr => s.size - wr.iterPos (w.heap.size + 1 + 1))
  case atStart =>
    refine ⟨0, 0, [], [], false, Nat.zero_le _, Nat.le_refl _, by simp, by simp, ?_, ⟨_, _, _, four_old B0 _, ?_, ?_, ?_⟩, rfl, hbW.alloc hbW.size _, four_old A0 _, by simp [World.iter]⟩
    · have := World.iter_heap ((w.alloc (.cells #[.int .i64 0, .int .i64 0, .int .i64 0, .slice none 0 0] 58)).alloc (.cells #[.slice none 0 0, .slice none 0 0, .slice none 0 0, .bool false] 225)) s 0
      rw [hsW] at this
      exact this
    · rw [word_nil]; exact World.ownsRow_nil _ _ _ _
    · exact World.ownsRow_nil _ _ _ _
    · exact World.ownsRow_nil _ _ _ _
  case round =>
    obtain ⟨pos, b, ns, ps, inP, hk, hbp, hns, hps, hit, hRd, hh, hbw, hA, hsz⟩ := hrel
    have hpos0 := iterPos_of hit
    clear A0 B0 hbW hsW
    by_cases hp : pos < s.size
    · obtain ⟨c, d, hd, hc⟩ : ∃ (c : Int) (d : Nat), (∀ ty, (Instr.next (.pointer (some ⟨w.heap.size + 1 + 1, 0, none⟩)) true ty).run Tryz.prog wr = .ok (.tuple #[.bool true, .int .i64 pos, .int .i32 c]) (wr.iterAt (w.heap.size + 1 + 1) s (pos + d))) ∧ ((c = ((s.data[pos]!).toNat : Int) ∧ d = 1) ∨ (128 ≤ c ∧ 128 ≤ ((s.data[pos]!).toNat : Int))) := by
        by_cases ha : (s[pos]).toNat < 128
        · exact ⟨_, 1, fun ty => Lib.run_next_ascii_at wr _ s pos ty hit hp ha, .inl ⟨by rw [byteBang s pos hp], rfl⟩⟩
        · exact ⟨_, _, fun ty => Lib.run_next_any_at wr _ s pos ty hit hp, .inr ⟨by have := (decode_high s pos hp (by omega)).1; omega, by rw [byteBang s pos hp]; omega⟩⟩
      have hit2 := Lib.iterAt_heap wr (w.heap.size + 1 + 1) s pos (pos + d) hit
      have hbw2 := Lib.below_iterAt hbw (k := w.heap.size + 1 + 1) (by omega) s (pos + d)
      have hRd2 := hRd.iter (k := w.heap.size + 1 + 1) (by omega) (by omega) s (pos + d)
      have hA2 := iter_four hA (k := w.heap.size + 1 + 1) (by omega) s (pos + d)
      have hsz2 : w.heap.size + 1 + 1 + 1 ≤ (wr.iterAt (w.heap.size + 1 + 1) s (pos + d)).heap.size := by
        have := (Array.getElem?_eq_some_iff.1 hit2).1; omega
      obtain ⟨W1, hW1⟩ : ∃ W1, W1 = wr.iterAt (w.heap.size + 1 + 1) s (pos + d) := ⟨_, rfl⟩
      rw [← hW1] at hd hit2 hbw2 hRd2 hA2 hsz2
      clear hW1 hit hbw hRd hA hsz
      have HT := takes_c (w.heap.size + 1) (w.heap.size + 1 + 1 + 1) (wordL s b pos) ns ps inP c W1 hRd2 (by omega) hsz2 (by rw [word_len s b pos hbp (by omega)]; omega) (by omega) (by omega)
      rw [word_str] at HT
      have HH : Hid (takeOk c ns ps inP (s.extract b pos) = false → resAll s = none) := fun h => by
        rw [← hh.out]
        rcases hc with ⟨hc, _⟩ | ⟨h1, h2⟩
        · rw [reads_step s pos b ns ps inP hp c hc, if_neg (by rw [h]; simp)]
        · rw [reads_step s pos b ns ps inP hp _ rfl]
          have e : takeOk ((s.data[pos]!).toNat : Int) ns ps inP (s.extract b pos) = false := by
            have e1 : endsB ((s.data[pos]!).toNat : Int) inP = false := by simp [endsB]; omega
            rw [takeOk, e1, if_neg (by simp), pre_high h2]
          rw [if_neg (by rw [e]; simp)]
      have HG : Hid (takeOk c ns ps inP (s.extract b pos) = true → d = 1 ∧ c = ((s.data[pos]!).toNat : Int)) := fun h => by
        rcases hc with ⟨hc, hd⟩ | ⟨h1, h2⟩
        · exact ⟨hd, hc⟩
        · have e1 : endsB c inP = false := by simp [endsB]; omega
          rw [takeOk, e1, if_neg (by simp), pre_high h1] at h
          cases h
      clear hc hRd2
      obtain ⟨ok, hok⟩ : ∃ ok, ok = takeOk c ns ps inP (s.extract b pos) := ⟨_, rfl⟩
      rw [← hok] at HT HH HG
      have HOK : Hid (ok = takeOk c ns ps inP (s.extract b pos)) := hok
      clear hok
      cases ok with
      | false =>
        go_wp2_with fail
        go_at_call 202
        refine HT.mono ?_
        rintro e w2 ⟨rfl, _, o2⟩
        have hA3 := o2.four hA2 (by omega) (by omega)
        obtain ⟨x0, x1, x2, x3⟩ := hA3.cells
        have f0 := hA3.frozen
        have hb3 := o2.belowW hbw2 (by omega) (by omega)
        have hnone := HH.out (by trivial)
        go_wp2_with fail
        obtain ⟨ho1, ho2⟩ := out_none hnone
        refine bodyPost_ret (v := .tuple #[.agg #[.int .i64 0, .int .i64 0, .int .i64 0, .slice none 0 0], .bool false]) (by simp [results, Tryz.results167, go_sem, x0, x1, x2, x3]) rfl ⟨.slice none 0 0, by rw [ho1], ?_, ?_⟩
        · rw [ho2]; exact World.ownsRow_nil _ _ _ _
        · exact (((hb3.setCell (by simp) _).setCell (by simp) _).setCell (by simp) _).setCell (by simp) _
      | true =>
        go_wp2_with fail
        go_at_call 202
        refine HT.mono ?_
        rintro e w2 ⟨rfl, hR3, o2⟩
        go_wp2_with fail
        obtain ⟨hd1, hc1⟩ := HG.out (by trivial)
        have hA3 := o2.four hA2 (by omega) (by omega)
        have hl := take_len HOK.out.symm hns hps
        have hit3 := (o2.block (w.heap.size + 1 + 1) (by omega) (by omega)).trans hit2
        subst hd1
        go_roundw
        case rel =>
          refine ⟨pos + 1, if endsB c inP then pos + 1 else b, takeNs c ns inP (s.extract b pos), takePs c ps inP (s.extract b pos), takeIn c inP, by omega, by split <;> omega, hl.1, hl.2, hit3, ?_, ?_, o2.belowW hbw2 (by omega) (by omega), hA3, Nat.le_trans hsz2 o2.size⟩
          · have e : wordL s (if endsB c inP then pos + 1 else b) (pos + 1) = takeWs c (wordL s b pos) inP := by
              unfold takeWs
              split
              · rw [word_nil]
              · rw [word_snoc s b pos hbp hp, ← hc1]
            rw [e]; exact hR3 (by trivial)
          · show _ = _
            rw [← hh.out, reads_step s pos b ns ps inP hp c hc1, if_pos HOK.out.symm]
        case measure => rw [iterPos_of hit3, hpos0]; omega
    · have hnx : ∀ ty, (Instr.next (.pointer (some ⟨w.heap.size + 1 + 1, 0, none⟩)) true ty).run Tryz.prog wr = _ := fun ty => Lib.run_next_end_at wr (w.heap.size + 1 + 1) s pos ty hit hp
      have he : pos = s.size := by omega
      subst he
      have HE := ends_c (w.heap.size + 1) (w.heap.size + 1 + 1 + 1) (wordL s b s.size) ns ps inP wr hRd (by omega) hsz (by rw [word_len s b s.size hbp (by omega)]; omega) (by omega) (by omega)
      rw [word_str] at HE
      have HR : Hid (resAll s = if endOk ns ps inP (s.extract b s.size) && decide (3 ≤ (endNs ns inP (s.extract b s.size)).length) then some (endNs ns inP (s.extract b s.size), endPs ps inP (s.extract b s.size)) else none) := by
        show _ = _
        rw [← hh.out, Nat.sub_self, reads]
      obtain ⟨ok, hok⟩ : ∃ ok, ok = endOk ns ps inP (s.extract b s.size) := ⟨_, rfl⟩
      obtain ⟨ns2, hns2⟩ : ∃ x, x = endNs ns inP (s.extract b s.size) := ⟨_, rfl⟩
      obtain ⟨ps2, hps2⟩ : ∃ x, x = endPs ps inP (s.extract b s.size) := ⟨_, rfl⟩
      have hl2 : ns2.length ≤ 4 := by rw [hns2]; exact endNs_len hns
      rw [← hok, ← hns2, ← hps2] at HE HR
      clear hok hns2 hps2 hRd hh hit
      go_wp2_with fail
      go_at_call 203
      refine HE.mono ?_
      rintro e w2 ⟨rfl, ⟨vw, vn, vp, hF, hWr, hNr, hPr⟩, o2⟩
      have hA3 := o2.four hA (by omega) (by omega)
      obtain ⟨x0, x1, x2, x3⟩ := hA3.cells
      have f0 := hA3.frozen
      have hb3 := o2.belowW hbw (by omega) (by omega)
      have hsz3 := Nat.le_trans hsz o2.size
      obtain ⟨k0, k1, k2, k3⟩ := hF.cells
      have hNN : vn = .slice none 0 0 ∧ ns2 = [] ∨ ∃ g cap, vn = .slice (some ⟨g, 0, none⟩) ns2.length cap ∧ ∀ j (h : j < ns2.length), w2.cell? ⟨g, j, none⟩ = some (.int .i64 ns2[j]) := by
        rcases hNr.2 with ⟨rfl, h0⟩ | ⟨g, cap, cur, rfl, _⟩
        · exact .inl ⟨rfl, List.eq_nil_of_length_eq_zero h0⟩
        · exact .inr ⟨g, cap, rfl, fun j h => by rw [hNr.cellAt j (by simpa using h)]; simp [intsV, h]⟩
      clear hA hbw hWr HE hF
      cases ok with
      | false =>
        have hnone : resAll s = none := by rw [HR.out]; rfl
        obtain ⟨ho1, ho2⟩ := out_none hnone
        go_wp2_with fail
        refine bodyPost_ret (v := .tuple #[.agg #[.int .i64 0, .int .i64 0, .int .i64 0, .slice none 0 0], .bool false]) (by simp [results, Tryz.results167, go_sem, x0, x1, x2, x3]) rfl ⟨.slice none 0 0, by rw [ho1], ?_, ?_⟩
        · rw [ho2]; exact World.ownsRow_nil _ _ _ _
        · exact (((hb3.setCell (by simp) _).setCell (by simp) _).setCell (by simp) _).setCell (by simp) _
      | true =>
        rcases hNN with ⟨rfl, rfl⟩ | ⟨gn, cap, rfl, hcn⟩
        · have hnone : resAll s = none := by rw [HR.out]; rfl
          obtain ⟨ho1, ho2⟩ := out_none hnone
          go_wp2_with fail
          refine bodyPost_ret (v := .tuple #[.agg #[.int .i64 0, .int .i64 0, .int .i64 0, .slice none 0 0], .bool false]) (by simp [results, Tryz.results167, go_sem, x0, x1, x2, x3]) rfl ⟨.slice none 0 0, by rw [ho1], ?_, ?_⟩
          · rw [ho2]; exact World.ownsRow_nil _ _ _ _
          · exact (((hb3.setCell (by simp) _).setCell (by simp) _).setCell (by simp) _).setCell (by simp) _
        · by_cases h3 : ns2.length < 3
          · have h3' : (ns2.length : Int) < 3 := by omega
            have hnone : resAll s = none := by rw [HR.out, if_neg (by simp; omega)]
            clear hcn
            obtain ⟨ho1, ho2⟩ := out_none hnone
            go_wp2_with fail
            refine bodyPost_ret (v := .tuple #[.agg #[.int .i64 0, .int .i64 0, .int .i64 0, .slice none 0 0], .bool false]) (by simp [results, Tryz.results167, go_sem, x0, x1, x2, x3]) rfl ⟨.slice none 0 0, by rw [ho1], ?_, ?_⟩
            · rw [ho2]; exact World.ownsRow_nil _ _ _ _
            · exact (((hb3.setCell (by simp) _).setCell (by simp) _).setCell (by simp) _).setCell (by simp) _
          · have h3' : ¬ (ns2.length : Int) < 3 := by omega
            have hsome : resAll s = some (ns2, ps2) := by rw [HR.out, if_pos (by simp; omega)]
            have y0 := hcn 0 (by omega)
            have y1 := hcn 1 (by omega)
            have y2 := hcn 2 (by omega)
            obtain ⟨m0, hm0⟩ : ∃ m, m = ns2[0] := ⟨_, rfl⟩
            obtain ⟨m1, hm1⟩ : ∃ m, m = ns2[1] := ⟨_, rfl⟩
            obtain ⟨m2, hm2⟩ : ∃ m, m = ns2[2] := ⟨_, rfl⟩
            rw [← hm0] at y0
            rw [← hm1] at y1
            rw [← hm2] at y2
            have M0 : Hid (ns2.getD 0 0 = m0) := by show _ = _; rw [hm0]; simp [List.getD_eq_getElem?_getD, show 0 < ns2.length by omega]
            have M1 : Hid (ns2.getD 1 0 = m1) := by show _ = _; rw [hm1]; simp [List.getD_eq_getElem?_getD, show 1 < ns2.length by omega]
            have M2 : Hid (ns2.getD 2 0 = m2) := by show _ = _; rw [hm2]; simp [List.getD_eq_getElem?_getD, show 2 < ns2.length by omega]
            have i1 : (0 : Int) < (ns2.length : Int) := by omega
            have i2 : (1 : Int) < (ns2.length : Int) := by omega
            have i3 : (2 : Int) < (ns2.length : Int) := by omega
            clear hcn hm0 hm1 hm2 HR
            obtain ⟨pa, pn, pc, rfl⟩ : ∃ a n cap, vp = .slice a n cap := by rcases hPr.2 with ⟨rfl, _⟩ | ⟨g, cap, cur, rfl, _⟩ <;> exact ⟨_, _, _, rfl⟩
            have hgN : gn ≠ w.heap.size := by have := (hNr.lt gn rfl).1; omega
            have KEEP : Hid (∀ v0 v1 v2 v3, ((((w2.setCell ⟨w.heap.size, 0, none⟩ v0).setCell ⟨w.heap.size, 1, none⟩ v1).setCell ⟨w.heap.size, 2, none⟩ v2).setCell ⟨w.heap.size, 3, none⟩ v3).drew.cell? ⟨w.heap.size + 1, 1, none⟩ = some (.slice (some ⟨gn, 0, none⟩) ns2.length cap) ∧ ((((w2.setCell ⟨w.heap.size, 0, none⟩ v0).setCell ⟨w.heap.size, 1, none⟩ v1).setCell ⟨w.heap.size, 2, none⟩ v2).setCell ⟨w.heap.size, 3, none⟩ v3).drew.cell? ⟨w.heap.size + 1, 2, none⟩ = some (.slice pa pn pc) ∧ ((((w2.setCell ⟨w.heap.size, 0, none⟩ v0).setCell ⟨w.heap.size, 1, none⟩ v1).setCell ⟨w.heap.size, 2, none⟩ v2).setCell ⟨w.heap.size, 3, none⟩ v3).drew.cell? ⟨gn, 0, none⟩ = some (.int .i64 m0) ∧ ((((w2.setCell ⟨w.heap.size, 0, none⟩ v0).setCell ⟨w.heap.size, 1, none⟩ v1).setCell ⟨w.heap.size, 2, none⟩ v2).setCell ⟨w.heap.size, 3, none⟩ v3).drew.cell? ⟨gn, 1, none⟩ = some (.int .i64 m1) ∧ ((((w2.setCell ⟨w.heap.size, 0, none⟩ v0).setCell ⟨w.heap.size, 1, none⟩ v1).setCell ⟨w.heap.size, 2, none⟩ v2).setCell ⟨w.heap.size, 3, none⟩ v3).drew.cell? ⟨gn, 2, none⟩ = some (.int .i64 m2)) := fun v0 v1 v2 v3 => ⟨(far4 (Nat.succ_ne_self _)).trans k1, (far4 (Nat.succ_ne_self _)).trans k2, (far4 hgN).trans y0, (far4 hgN).trans y1, (far4 hgN).trans y2⟩
            go_wp2_with fail
            go_region_held (fun w' => w'.cell? ⟨w.heap.size + 1, 1, none⟩ = some (.slice (some ⟨gn, 0, none⟩) ns2.length cap) ∧ w'.cell? ⟨w.heap.size + 1, 2, none⟩ = some (.slice pa pn pc) ∧ w'.cell? ⟨gn, 0, none⟩ = some (.int .i64 m0) ∧ w'.cell? ⟨gn, 1, none⟩ = some (.int .i64 m1) ∧ w'.cell? ⟨gn, 2, none⟩ = some (.int .i64 m2)) (first | (with_reducible exact KEEP.out _ _ _ _) | go_keep) (fail)
            obtain ⟨ho1, ho2⟩ := out_some hsome (.slice pa pn pc)
            go_wp2_with fail
            refine bodyPost_ret (v := .tuple #[.agg #[.int .i64 m0, .int .i64 m1, .int .i64 m2, .slice pa pn pc], .bool true]) (by simp [results, Tryz.results167, go_sem, x0, x1, x2, x3]) rfl ⟨.slice pa pn pc, by rw [ho1, M0.out, M1.out, M2.out], ?_, ?_⟩
            · rw [ho2]
              have h4 := owns_set (owns_set (owns_set (owns_set hPr (p := ⟨w.heap.size, 0, none⟩) (by simp; omega) (.int .i64 m0)) (p := ⟨w.heap.size, 1, none⟩) (by simp; omega) (.int .i64 m1)) (p := ⟨w.heap.size, 2, none⟩) (by simp; omega) (.int .i64 m2)) (p := ⟨w.heap.size, 3, none⟩) (by simp; omega) (.slice pa pn pc)
              exact owns_lower h4 (by omega)
            · exact ((((hb3.setCell (by simp) _).setCell (by simp) _).setCell (by simp) _).setCell (by simp) _).drew
end Go.Proofs.YtbolphjigjpmiabGreatDoor

/-! What the specification's ParseVer answers: the same as the program's reader tells: a contract for the walks; condition: the text has at most 2 to the 20 bytes. -/
namespace Go.Proofs.YtbolphjigjpmiabGreatDoor
open Go.RowKit
set_option linter.unusedSimpArgs false
set_option linter.unusedVariables false

theorem vsplit_bulk (s : ByteArray) (c : Int) : ∀ (n i b : Nat), n = s.size - i → b ≤ i → i ≤ s.size → bulkS (splitGo s c (s.size - i) i b) = s.size - b + 1
  | 0, i, b, hn, hb, hi => by
    obtain rfl : i = s.size := by omega
    rw [splitGo_end, bulkS]
    simp [vsize s b s.size hb (Nat.le_refl _)]; omega
  | n + 1, i, b, hn, hb, hi => by
    have hlt : i < s.size := by omega
    by_cases h : ((s.data[i]!).toNat : Int) = c
    · have ih := vsplit_bulk s c n (i + 1) (i + 1) (by omega) (Nat.le_refl _) (by omega)
      rw [splitGo_hit s c i b hlt h]
      unfold bulkS at ih ⊢
      simp only [List.length_cons, List.map_cons, List.sum_cons]
      rw [vsize s b i hb (by omega)]
      omega
    · rw [splitGo_miss s c i b hlt h]
      exact vsplit_bulk s c n (i + 1) b (by omega) (by omega) (by omega)
theorem vsplitS_bulk (s : ByteArray) (c : Int) : bulkS (splitS s c) = s.size + 1 := vsplit_bulk s c s.size 0 0 rfl (Nat.le_refl _) (Nat.zero_le _)

theorem parts_take (ps : List ByteArray) : ∀ n, n ≤ ps.length → partsUpto ps n = (ps.take n).all partB
  | 0, _ => by simp [partsUpto]
  | n + 1, h => by
    rw [partsUpto, parts_take ps n (by omega), List.take_succ_eq_append_getElem h, List.all_append]
    simp [List.getD_eq_getElem?_getD, show n < ps.length by omega]
theorem parts_all (ps : List ByteArray) : partsUpto ps ps.length = ps.all partB := by rw [parts_take ps ps.length (Nat.le_refl _), List.take_length]

theorem num_in {t : ByteArray} (h : numGood t 9999 = true) : inB (numOut t 9999) 0 9999 = true := by
  rw [numOut_good h]
  have h0 := h
  simp only [numGood, Bool.and_eq_true, decide_eq_true_eq] at h
  have h1 : allUpto okDigit t t.size = true := by
    cases hq : allUpto okDigit t t.size
    · rw [good_of_piece hq] at h0; cases h0
    · rfl
  have hb := numUpto_bounds t t.size h1
  have hm : numUpto t t.size ≤ 9999 := by
    by_cases hq : numUpto t t.size ≤ 9999
    · exact hq
    · rw [bad_most (by omega)] at h0; cases h0
  simp only [inB, Bool.and_eq_true, decide_eq_true_eq]
  omega

/-- What the specification makes of the pieces. -/
theorem res_spec (s : ByteArray) (k : Nat) (hk : k ≤ s.size) (hd : k < s.size → ((s.data[k]!).toNat : Int) = 45) (hn : ∀ j, j < k → ¬ ((s.data[j]!).toNat : Int) = 45) (L P : List ByteArray) (hL : L = splitS (s.extract 0 k) 46) (hP : P = if k < s.size then splitS (s.extract (k + 1) s.size) 46 else []) :
    resAll s = if L.all (fun t => numGood t 9999) && decide (L.length = 3) && P.all partB && decide (P.length ≤ 3) then some (L.map (fun t => numOut t 9999), P) else none := by
  have e1 : L = numsAt s k := by rw [hL, split_pieces s 0 k (Nat.zero_le _) hk, numsAt, Nat.sub_zero]
  have e2 : P = presAt s k := by
    rw [hP, presAt]
    by_cases h : k < s.size
    · rw [if_pos h, if_pos h, split_pieces s (k + 1) s.size (by omega) (Nat.le_refl _)]
    · rw [if_neg h, if_neg h]
  rw [resAll, reads_all s k hk hd hn, e1, e2]
  rfl

theorem reads_set3 {w : World} {N : Nat} {u : Value} {xs : List Value} (h : Reads w u xs) (hb : ∀ bl, u.ownBlock = some bl → N < bl) (v0 v1 v2 : Value) : Reads (((w.setCell ⟨N, 0, none⟩ v0).setCell ⟨N, 1, none⟩ v1).setCell ⟨N, 2, none⟩ v2) u xs := by
  obtain ⟨a, cap, rfl, hc, hx⟩ := h
  refine ⟨a, cap, rfl, hc, ?_⟩
  rcases hx with hx | ⟨b, off, rfl, hlt, hx⟩
  · exact .inl hx
  · have hN : N < b := hb b rfl
    refine .inr ⟨b, off, rfl, by simpa [World.setCell] using hlt, fun k hk => ?_⟩
    have hh : ∀ (a : World) (i : Nat) (x : Value), (a.setCell ⟨N, i, none⟩ x).cell? ⟨b, off + k, none⟩ = a.cell? ⟨b, off + k, none⟩ := fun a i x => World.cell?_setCell_other _ _ _ _ (by intro e; injection e; omega)
    rw [hh, hh, hh]; exact hx k hk

theorem reads_set4 {w : World} {N : Nat} {u : Value} {xs : List Value} (h : Reads w u xs) (hb : ∀ bl, u.ownBlock = some bl → N < bl) (v0 v1 v2 v3 : Value) : Reads ((((w.setCell ⟨N, 0, none⟩ v0).setCell ⟨N, 1, none⟩ v1).setCell ⟨N, 2, none⟩ v2).setCell ⟨N, 3, none⟩ v3) u xs := by
  obtain ⟨a, cap, rfl, hc, hx⟩ := h
  refine ⟨a, cap, rfl, hc, ?_⟩
  rcases hx with hx | ⟨b, off, rfl, hlt, hx⟩
  · exact .inl hx
  · have hN : N < b := hb b rfl
    refine .inr ⟨b, off, rfl, by simpa [World.setCell] using hlt, fun k hk => ?_⟩
    have hh : ∀ (a : World) (i : Nat) (x : Value), (a.setCell ⟨N, i, none⟩ x).cell? ⟨b, off + k, none⟩ = a.cell? ⟨b, off + k, none⟩ := fun a i x => World.cell?_setCell_other _ _ _ _ (by intro e; injection e; omega)
    rw [hh, hh, hh, hh]; exact hx k hk

theorem three_of {L : List ByteArray} (h : L.length = 3) : ∃ t0 t1 t2, L = [t0, t1, t2] := by
  match L, h with
  | [t0, t1, t2], _ => exact ⟨t0, t1, t2, rfl⟩

theorem reads_len (s : ByteArray) : ∀ (f i b : Nat) (ns : List Int) (ps : List ByteArray) (inP : Bool) (r : List Int × List ByteArray), reads s f i b ns ps inP = some r → ps.length ≤ 3 → r.2.length ≤ 3
  | 0, i, b, ns, ps, inP, r, h, hp => by
    rw [reads] at h
    split at h
    · rename_i hc
      injection h with h
      subst h
      cases inP
      · simpa [endPs] using hp
      · simp [endOk] at hc
        simp [endPs]; omega
    · cases h
  | f + 1, i, b, ns, ps, inP, r, h, hp => by
    rw [reads] at h
    have hq : endOk ns ps inP (s.extract b i) = true → (endPs ps inP (s.extract b i)).length ≤ 3 := fun hk => by
      cases inP
      · simpa [endPs] using hp
      · simp [endOk] at hk
        simp [endPs]; omega
    split at h
    · split at h
      · exact reads_len s f _ _ _ _ _ r h (hq ‹_›)
      · cases h
    · split at h
      · split at h
        · exact reads_len s f _ _ _ _ _ r h (hq ‹_›)
        · cases h
      · split at h
        · exact reads_len s f _ _ _ _ _ r h hp
        · cases h
theorem resP_len (s : ByteArray) : (resP s).length ≤ 3 := by
  unfold resP
  cases h : resAll s with
  | none => simp
  | some r => exact reads_len s _ _ _ _ _ _ r h (by simp)

set_option maxHeartbeats 4000000 in
set_option maxRecDepth 100000 in
theorem specParse_c (s : ByteArray) (hs : s.size ≤ 1048576) (w : World) :
    Calls Tryz.prog 158 #[.string s] w fun e w' => ∃ u, e = .returned (verOut s u) ∧ Reads w' u (strsV (resP s)) ∧ Below w.heap.size w w' := by
  obtain ⟨A0, B0⟩ := four_two w 58 58 (.int .i64 0) (.int .i64 0) (.int .i64 0) (.slice none 0 0) (.int .i64 0) (.int .i64 0) (.int .i64 0) (.slice none 0 0)
  have hbW := two_new (w := w) (.cells #[.int .i64 0, .int .i64 0, .int .i64 0, .slice none 0 0] 58) (.cells #[.int .i64 0, .int .i64 0, .int .i64 0, .slice none 0 0] 58)
  go_enter Tryz.func158, Tryz.ntmps158
  go_wp2
  go_loop [5] (fun vi => ∃ k : Nat, k ≤ s.size ∧ vi = .int .i64 (k : Int) ∧ Hid (∀ j, j < k → ¬ ((s.data[j]!).toNat : Int) = 45)) (fun vi => s.size - (intOf vi).toNat)
  case atStart => exact ⟨0, Nat.zero_le _, rfl, fun j hj => by omega⟩
  case round =>
    obtain ⟨k, hk, rfl, hh⟩ := hrel
    by_cases hlt : k < s.size
    · have hki : (k : Int) < (s.size : Int) := by omega
      by_cases h45 : ((s[k]).toNat : Int) = 45
      · have e45 : (((s[k]).toNat : Int) != 45) = false := by simpa using h45
        have HD : Hid (k < s.size → ((s.data[k]!).toNat : Int) = 45) := fun _ => by rw [byteBang s k hlt]; exact h45
        have hz : (s.extract (k + 1) s.size).size = s.size - (k + 1) := vsize s (k + 1) s.size (by omega) (Nat.le_refl _)
        obtain ⟨P, hP⟩ : ∃ P, P = splitS (s.extract (k + 1) s.size) 46 := ⟨_, rfl⟩
        have HP : Hid (P = if k < s.size then splitS (s.extract (k + 1) s.size) 46 else []) := by show _ = _; rw [hP, if_pos hlt]
        have HB : Hid (bulkS P ≤ 1048576) := by show _ ≤ _; rw [hP, vsplitS_bulk, hz]; omega
        have HSp : Hid (∀ w1, Calls Tryz.prog 127 #[.string (s.extract (k + 1) s.size), .int .u8 46] w1 fun e w' => ∃ v, e = .returned v ∧ w'.ownsRow w1.heap.size 9 1 v P.length (strsV P) ∧ Below w1.heap.size w1 w') := fun w1 => by rw [hP]; exact specSplit_c _ 46 w1 (by omega)
        clear h45 hz hP
        obtain ⟨L, hL⟩ : ∃ L, L = splitS (s.extract 0 k) 46 := ⟨_, rfl⟩
        have HL : Hid (L = splitS (s.extract 0 k) 46) := hL
        have hLz : (s.extract 0 k).size = k := by rw [vsize s 0 k (Nat.zero_le _) (by omega)]; omega
        have HLB : Hid (bulkS L ≤ 1048577) := by show _ ≤ _; rw [hL, vsplitS_bulk, hLz]; omega
        have HSL : Hid (∀ w1, Calls Tryz.prog 127 #[.string (s.extract 0 k), .int .u8 46] w1 fun e w' => ∃ v, e = .returned v ∧ w'.ownsRow w1.heap.size 9 1 v L.length (strsV L) ∧ Below w1.heap.size w1 w') := fun w1 => by rw [hL]; exact specSplit_c (s.extract 0 k) 46 w1 (by rw [hLz]; omega)
        clear hL hLz
        have hsW : ((w.alloc (.cells #[.int .i64 0, .int .i64 0, .int .i64 0, .slice none 0 0] 58)).alloc (.cells #[.int .i64 0, .int .i64 0, .int .i64 0, .slice none 0 0] 58)).heap.size = w.heap.size + 1 + 1 := by simp
        generalize ((w.alloc (.cells #[.int .i64 0, .int .i64 0, .int .i64 0, .slice none 0 0] 58)).alloc (.cells #[.int .i64 0, .int .i64 0, .int .i64 0, .slice none 0 0] 58)) = W0 at A0 B0 hbW hsW ⊢
        go_wp2_with fail
        go_at_call 127
        refine (HSp.out _).mono ?_
        rintro e w1 ⟨uP, rfl, o1, b1⟩
        obtain ⟨uq, uc, huP⟩ : ∃ q c, uP = .slice q P.length c := by obtain ⟨q, c, h, _⟩ := reads_of_owns o1; exact ⟨q, c, by simpa using h⟩
        rw [hsW] at o1
        have A1' := A0.keep b1
        have B1' := B0.keep b1
        obtain ⟨y0, y1, y2, y3⟩ := B1'.cells
        have fy := B1'.frozen 3
        have A1 := (Only.set (R := w.heap.size + 1) (base := w.heap.size + 1) w1 3 uP).four A1' (by omega) (by omega)
        have B1 := (four_set B1' uP).2.2.2
        have o1s := owns_set o1 (p := ⟨w.heap.size + 1, 3, none⟩) (by simp) uP
        have RP := reads_of_owns o1s
        have HPB : Hid (∀ bl, uP.ownBlock = some bl → w.heap.size + 1 < bl) := fun bl h => by have := (o1.lt bl h).1; omega
        have hB1 : Below w.heap.size w (w1.setCell ⟨w.heap.size + 1, 3, none⟩ uP) := (hbW.trans (b1.mono hbW.size)).setCell (by simp) _
        subst huP
        clear o1 o1s HSp hbW A0 B0 b1 A1'
        go_wp2_with fail
        clear y0 y1 y2 y3 fy B1'
        generalize w1.setCell ⟨w.heap.size + 1, 3, none⟩ (.slice uq P.length uc) = W1 at A1 B1 RP hB1 ⊢
        generalize (Value.slice uq P.length uc) = uP at B1 RP HPB ⊢
        obtain ⟨x0, x1, x2, x3⟩ := A1.cells
        have f1 := A1.frozen
        go_at_call 127
        refine (HSL.out W1).mono ?_
        rintro e w2 ⟨vl, rfl, o2, b2⟩
        have A2 := A1.keep b2
        have B2 := B1.keep b2
        have RP2 := RP.below b2
        have hw2 := hB1.trans (b2.mono hB1.size)
        obtain ⟨z0, z1, z2, z3⟩ := A2.cells
        have fz := A2.frozen
        obtain ⟨y0, y1, y2, y3⟩ := B2.cells
        have fy := B2.frozen
        clear A1 B1 RP x0 x1 x2 x3 f1 HSL b2
        by_cases h3 : L.length = 3
        · obtain ⟨t0, t1, t2, hL3⟩ := three_of h3
          have hlz : ∀ t ∈ L, t.size ≤ maxLen := fun t ht => by have := size_of_bulk ht; have := HLB.out; unfold maxLen; omega
          have hall : resAll s = if L.all (fun t => numGood t 9999) && decide (L.length = 3) && P.all partB && decide (P.length ≤ 3) then some (L.map (fun t => numOut t 9999), P) else none := res_spec s k hk HD.out hh.out L P HL.out HP.out
          subst hL3
          have hz0 := hlz t0 (by simp)
          have hz1 := hlz t1 (by simp)
          have hz2 := hlz t2 (by simp)
          obtain ⟨gl, cl, hvl⟩ : ∃ g cap, vl = .slice (some ⟨g, 0, none⟩) 3 cap := by
            rcases o2.2 with ⟨_, h⟩ | ⟨g, cap, cur, hv, _⟩
            · simp at h
            · exact ⟨g, cap, hv⟩
          subst hvl
          have l0 : w2.cell? ⟨gl, 0, none⟩ = some (.string t0) := by rw [o2.cellAt 0 (by simp)]; rfl
          have l1 : w2.cell? ⟨gl, 1, none⟩ = some (.string t1) := by rw [o2.cellAt 1 (by simp)]; rfl
          have l2 : w2.cell? ⟨gl, 2, none⟩ = some (.string t2) := by rw [o2.cellAt 2 (by simp)]; rfl
          have hall2 : resAll s = if numGood t0 9999 && (numGood t1 9999 && numGood t2 9999) && P.all partB && decide (P.length ≤ 3) then some ([numOut t0 9999, numOut t1 9999, numOut t2 9999], P) else none := by rw [hall]; simp
          have HALL : Hid (resAll s = if numGood t0 9999 && (numGood t1 9999 && numGood t2 9999) && P.all partB && decide (P.length ≤ 3) then some ([numOut t0 9999, numOut t1 9999, numOut t2 9999], P) else none) := hall2
          obtain ⟨m0, hm0⟩ : ∃ m, m = numOut t0 9999 := ⟨_, rfl⟩
          obtain ⟨m1, hm1⟩ : ∃ m, m = numOut t1 9999 := ⟨_, rfl⟩
          obtain ⟨m2, hm2⟩ : ∃ m, m = numOut t2 9999 := ⟨_, rfl⟩
          have N0 : Hid (∀ w1, Calls Tryz.prog 191 #[.string t0, .int .i64 9999] w1 fun e w' => e = .returned (.tuple #[.int .i64 m0, .bool (numGood t0 9999)]) ∧ w1 = w') := fun w1 => by rw [hm0]; exact specNum_c t0 9999 hz0 w1
          have N1 : Hid (∀ w1, Calls Tryz.prog 191 #[.string t1, .int .i64 9999] w1 fun e w' => e = .returned (.tuple #[.int .i64 m1, .bool (numGood t1 9999)]) ∧ w1 = w') := fun w1 => by rw [hm1]; exact specNum_c t1 9999 hz1 w1
          have N2 : Hid (∀ w1, Calls Tryz.prog 191 #[.string t2, .int .i64 9999] w1 fun e w' => e = .returned (.tuple #[.int .i64 m2, .bool (numGood t2 9999)]) ∧ w1 = w') := fun w1 => by rw [hm2]; exact specNum_c t2 9999 hz2 w1
          have I0 : Hid (numGood t0 9999 = true → inB m0 0 9999 = true) := fun h => by rw [hm0]; exact num_in h
          have I1 : Hid (numGood t1 9999 = true → inB m1 0 9999 = true) := fun h => by rw [hm1]; exact num_in h
          have I2 : Hid (numGood t2 9999 = true → inB m2 0 9999 = true) := fun h => by rw [hm2]; exact num_in h
          rw [← hm0, ← hm1, ← hm2] at HALL
          have B3 := (four_set ((four_set ((four_set B2 (.int .i64 m0)).1) (.int .i64 m1)).2.1) (.int .i64 m2)).2.2.1
          have A3 : Four (((w2.setCell ⟨w.heap.size + 1, 0, none⟩ (.int .i64 m0)).setCell ⟨w.heap.size + 1, 1, none⟩ (.int .i64 m1)).setCell ⟨w.heap.size + 1, 2, none⟩ (.int .i64 m2)) w.heap.size 58 (.int .i64 0) (.int .i64 0) (.int .i64 0) (.slice none 0 0) :=
            ((Only.set (R := w.heap.size + 1) (base := w.heap.size + 1) w2 0 (.int .i64 m0)).trans ((Only.set _ 1 (.int .i64 m1)).trans (Only.set _ 2 (.int .i64 m2)))).four A2 (by omega) (by omega)
          have hw3 : Below w.heap.size w (((w2.setCell ⟨w.heap.size + 1, 0, none⟩ (.int .i64 m0)).setCell ⟨w.heap.size + 1, 1, none⟩ (.int .i64 m1)).setCell ⟨w.heap.size + 1, 2, none⟩ (.int .i64 m2)) := ((hw2.setCell (by simp) _).setCell (by simp) _).setCell (by simp) _
          have RP3 := reads_set3 RP2 HPB.out (.int .i64 m0) (.int .i64 m1) (.int .i64 m2)
          obtain ⟨uq, un, uc, hup⟩ : ∃ q n c, uP = .slice q n c := by obtain ⟨q, c, h, _⟩ := RP2; exact ⟨_, _, _, h⟩
          subst hup
          clear hall hall2 hm0 hm1 hm2 hlz o2 HL HP RP2 HD hh
          go_wp2_with fail
          go_at_call 191
          refine (N0.out _).mono ?_
          rintro e w' ⟨rfl, rfl⟩
          go_wp2_with fail
          go_at_call 191
          refine (N1.out _).mono ?_
          rintro e w' ⟨rfl, rfl⟩
          go_wp2_with fail
          go_at_call 191
          refine (N2.out _).mono ?_
          rintro e w' ⟨rfl, rfl⟩
          clear N0 N1 N2
          obtain ⟨a0, a1, a2, a3⟩ := A3.cells
          have fa := A3.frozen
          obtain ⟨b0, b1, b2, b3⟩ := B3.cells
          clear l0 l1 l2
          cases hg0 : numGood t0 9999 with
          | false =>
            have hnone : resAll s = none := by rw [HALL.out, hg0]; rfl
            obtain ⟨ho1, ho2⟩ := out_none hnone
            go_wp2_with fail
            refine bodyPost_ret (v := .tuple #[.agg #[.int .i64 0, .int .i64 0, .int .i64 0, .slice none 0 0], .bool false]) (by simp [results, Tryz.results158, go_sem, a0, a1, a2, a3]) rfl ⟨.slice none 0 0, by rw [ho1], ?_, ?_⟩
            · rw [ho2]; exact ⟨none, 0, rfl, Nat.le_refl _, .inl rfl⟩
            · exact (((hw3.setCell (by simp) _).setCell (by simp) _).setCell (by simp) _).setCell (by simp) _
          | true =>
          cases hg1 : numGood t1 9999 with
          | false =>
            have hnone : resAll s = none := by rw [HALL.out, hg0, hg1]; rfl
            obtain ⟨ho1, ho2⟩ := out_none hnone
            go_wp2_with fail
            refine bodyPost_ret (v := .tuple #[.agg #[.int .i64 0, .int .i64 0, .int .i64 0, .slice none 0 0], .bool false]) (by simp [results, Tryz.results158, go_sem, a0, a1, a2, a3]) rfl ⟨.slice none 0 0, by rw [ho1], ?_, ?_⟩
            · rw [ho2]; exact ⟨none, 0, rfl, Nat.le_refl _, .inl rfl⟩
            · exact (((hw3.setCell (by simp) _).setCell (by simp) _).setCell (by simp) _).setCell (by simp) _
          | true =>
          cases hg2 : numGood t2 9999 with
          | false =>
            have hnone : resAll s = none := by rw [HALL.out, hg0, hg1, hg2]; rfl
            obtain ⟨ho1, ho2⟩ := out_none hnone
            go_wp2_with fail
            refine bodyPost_ret (v := .tuple #[.agg #[.int .i64 0, .int .i64 0, .int .i64 0, .slice none 0 0], .bool false]) (by simp [results, Tryz.results158, go_sem, a0, a1, a2, a3]) rfl ⟨.slice none 0 0, by rw [ho1], ?_, ?_⟩
            · rw [ho2]; exact ⟨none, 0, rfl, Nat.le_refl _, .inl rfl⟩
            · exact (((hw3.setCell (by simp) _).setCell (by simp) _).setCell (by simp) _).setCell (by simp) _
          | true =>
            have HV : Hid (resAll s = if verB m0 m1 m2 P then some ([m0, m1, m2], P) else none) := by
              show _ = _
              rw [HALL.out, hg0, hg1, hg2, verB, parts_all, I0.out hg0, I1.out hg1, I2.out hg2]
              simp
            go_wp2_with fail
            go_at_call 62
            refine (specVerOk_c m0 m1 m2 _ P _ RP3 HB.out).mono ?_
            rintro e w4 ⟨rfl, b4⟩
            have A4 := A3.keep b4
            have B4 := B3.keep b4
            have RP4 := RP3.below b4
            have hw4 := hw3.trans (b4.mono hw3.size)
            obtain ⟨p0, p1, p2, p3⟩ := A4.cells
            have fp := A4.frozen
            obtain ⟨q0, q1, q2, q3⟩ := B4.cells
            clear a0 a1 a2 a3 fa b0 b1 b2 b3 A3 B3 RP3 hw3 HALL b4 I0 I1 I2
            cases hv : verB m0 m1 m2 P with
            | false =>
              have hnone : resAll s = none := by rw [HV.out, hv]; rfl
              obtain ⟨ho1, ho2⟩ := out_none hnone
              go_wp2_with fail
              refine bodyPost_ret (v := .tuple #[.agg #[.int .i64 0, .int .i64 0, .int .i64 0, .slice none 0 0], .bool false]) (by simp [results, Tryz.results158, go_sem, p0, p1, p2, p3]) rfl ⟨.slice none 0 0, by rw [ho1], ?_, ?_⟩
              · rw [ho2]; exact ⟨none, 0, rfl, Nat.le_refl _, .inl rfl⟩
              · exact (((hw4.setCell (by simp) _).setCell (by simp) _).setCell (by simp) _).setCell (by simp) _
            | true =>
              have hsome : resAll s = some ([m0, m1, m2], P) := by rw [HV.out, hv]; rfl
              obtain ⟨ho1, ho2⟩ := out_some hsome (.slice uq un uc)
              go_wp2_with fail
              refine bodyPost_ret (v := .tuple #[.agg #[.int .i64 m0, .int .i64 m1, .int .i64 m2, .slice uq un uc], .bool true]) (by simp [results, Tryz.results158, go_sem, p0, p1, p2, p3]) rfl ⟨.slice uq un uc, by rw [ho1]; rfl, ?_, ?_⟩
              · rw [ho2]
                exact reads_set4 RP4 (fun bl h => by have := HPB.out bl h; omega) _ _ _ _
              · exact (((hw4.setCell (by simp) _).setCell (by simp) _).setCell (by simp) _).setCell (by simp) _
        · have hnone : resAll s = none := by rw [res_spec s k hk HD.out hh.out L P HL.out HP.out, if_neg (by simp [h3])]
          have h3' : ((L.length : Int) != 3) = true := by simp; omega
          obtain ⟨vq, vc, hvl⟩ : ∃ q c, vl = .slice q L.length c := by obtain ⟨q, c, h, _⟩ := reads_of_owns o2; exact ⟨q, c, by simpa using h⟩
          subst hvl
          clear o2 y0 y1 y2 y3 fy
          obtain ⟨ho1, ho2⟩ := out_none hnone
          go_wp2_with fail
          refine bodyPost_ret (v := .tuple #[.agg #[.int .i64 0, .int .i64 0, .int .i64 0, .slice none 0 0], .bool false]) (by simp [results, Tryz.results158, go_sem, z0, z1, z2, z3]) rfl ⟨.slice none 0 0, by rw [ho1], ?_, ?_⟩
          · rw [ho2]; exact ⟨none, 0, rfl, Nat.le_refl _, .inl rfl⟩
          · exact (((hw2.setCell (by simp) _).setCell (by simp) _).setCell (by simp) _).setCell (by simp) _
      · have e45 : (((s[k]).toNat : Int) != 45) = true := by simpa using h45
        go_wp2
        go_round
        case rel => exact ⟨k + 1, by omega, by go_num, fun j hj => (by
          by_cases e : j = k
          · subst e; rw [byteBang s j hlt]; exact h45
          · exact hh.out j (by omega))⟩
        case measure => simp [intOf]; omega
    · have hki : ¬ (k : Int) < (s.size : Int) := by omega
      have HD : Hid (k < s.size → ((s.data[k]!).toNat : Int) = 45) := fun h => absurd h hlt
      obtain ⟨P, hP⟩ : ∃ P : List ByteArray, P = [] := ⟨_, rfl⟩
      have HP : Hid (P = if k < s.size then splitS (s.extract (k + 1) s.size) 46 else []) := by show _ = _; rw [hP, if_neg hlt]
      have HB : Hid (bulkS P ≤ 1048576) := by show _ ≤ _; rw [hP]; simp [bulkS]
      obtain ⟨L, hL⟩ : ∃ L, L = splitS (s.extract 0 k) 46 := ⟨_, rfl⟩
      have HL : Hid (L = splitS (s.extract 0 k) 46) := hL
      have hLz : (s.extract 0 k).size = k := by rw [vsize s 0 k (Nat.zero_le _) (by omega)]; omega
      have HLB : Hid (bulkS L ≤ 1048577) := by show _ ≤ _; rw [hL, vsplitS_bulk, hLz]; omega
      have HSL : Hid (∀ w1, Calls Tryz.prog 127 #[.string (s.extract 0 k), .int .u8 46] w1 fun e w' => ∃ v, e = .returned v ∧ w'.ownsRow w1.heap.size 9 1 v L.length (strsV L) ∧ Below w1.heap.size w1 w') := fun w1 => by rw [hL]; exact specSplit_c (s.extract 0 k) 46 w1 (by rw [hLz]; omega)
      clear hL hLz
      have A1 := A0
      have B1 := B0
      have hB1 := hbW
      generalize ((w.alloc (.cells #[.int .i64 0, .int .i64 0, .int .i64 0, .slice none 0 0] 58)).alloc (.cells #[.int .i64 0, .int .i64 0, .int .i64 0, .slice none 0 0] 58)) = W1 at A1 B1 hB1 ⊢
      have RP : Reads W1 (.slice none 0 0) (strsV P) := by rw [hP]; exact ⟨none, 0, rfl, Nat.le_refl _, .inl rfl⟩
      have HPB : Hid (∀ bl, (Value.slice none 0 0).ownBlock = some bl → w.heap.size + 1 < bl) := fun bl h => by simp [Value.ownBlock] at h
      clear A0 B0 hbW hP
      go_wp2_with fail
      generalize (Value.slice none 0 0) = uP at B1 RP HPB
      obtain ⟨x0, x1, x2, x3⟩ := A1.cells
      have f1 := A1.frozen
      go_at_call 127
      refine (HSL.out W1).mono ?_
      rintro e w2 ⟨vl, rfl, o2, b2⟩
      have A2 := A1.keep b2
      have B2 := B1.keep b2
      have RP2 := RP.below b2
      have hw2 := hB1.trans (b2.mono hB1.size)
      obtain ⟨z0, z1, z2, z3⟩ := A2.cells
      have fz := A2.frozen
      obtain ⟨y0, y1, y2, y3⟩ := B2.cells
      have fy := B2.frozen
      clear A1 B1 RP x0 x1 x2 x3 f1 HSL b2
      by_cases h3 : L.length = 3
      · obtain ⟨t0, t1, t2, hL3⟩ := three_of h3
        have hlz : ∀ t ∈ L, t.size ≤ maxLen := fun t ht => by have := size_of_bulk ht; have := HLB.out; unfold maxLen; omega
        have hall : resAll s = if L.all (fun t => numGood t 9999) && decide (L.length = 3) && P.all partB && decide (P.length ≤ 3) then some (L.map (fun t => numOut t 9999), P) else none := res_spec s k hk HD.out hh.out L P HL.out HP.out
        subst hL3
        have hz0 := hlz t0 (by simp)
        have hz1 := hlz t1 (by simp)
        have hz2 := hlz t2 (by simp)
        obtain ⟨gl, cl, hvl⟩ : ∃ g cap, vl = .slice (some ⟨g, 0, none⟩) 3 cap := by
          rcases o2.2 with ⟨_, h⟩ | ⟨g, cap, cur, hv, _⟩
          · simp at h
          · exact ⟨g, cap, hv⟩
        subst hvl
        have l0 : w2.cell? ⟨gl, 0, none⟩ = some (.string t0) := by rw [o2.cellAt 0 (by simp)]; rfl
        have l1 : w2.cell? ⟨gl, 1, none⟩ = some (.string t1) := by rw [o2.cellAt 1 (by simp)]; rfl
        have l2 : w2.cell? ⟨gl, 2, none⟩ = some (.string t2) := by rw [o2.cellAt 2 (by simp)]; rfl
        have hall2 : resAll s = if numGood t0 9999 && (numGood t1 9999 && numGood t2 9999) && P.all partB && decide (P.length ≤ 3) then some ([numOut t0 9999, numOut t1 9999, numOut t2 9999], P) else none := by rw [hall]; simp
        have HALL : Hid (resAll s = if numGood t0 9999 && (numGood t1 9999 && numGood t2 9999) && P.all partB && decide (P.length ≤ 3) then some ([numOut t0 9999, numOut t1 9999, numOut t2 9999], P) else none) := hall2
        obtain ⟨m0, hm0⟩ : ∃ m, m = numOut t0 9999 := ⟨_, rfl⟩
        obtain ⟨m1, hm1⟩ : ∃ m, m = numOut t1 9999 := ⟨_, rfl⟩
        obtain ⟨m2, hm2⟩ : ∃ m, m = numOut t2 9999 := ⟨_, rfl⟩
        have N0 : Hid (∀ w1, Calls Tryz.prog 191 #[.string t0, .int .i64 9999] w1 fun e w' => e = .returned (.tuple #[.int .i64 m0, .bool (numGood t0 9999)]) ∧ w1 = w') := fun w1 => by rw [hm0]; exact specNum_c t0 9999 hz0 w1
        have N1 : Hid (∀ w1, Calls Tryz.prog 191 #[.string t1, .int .i64 9999] w1 fun e w' => e = .returned (.tuple #[.int .i64 m1, .bool (numGood t1 9999)]) ∧ w1 = w') := fun w1 => by rw [hm1]; exact specNum_c t1 9999 hz1 w1
        have N2 : Hid (∀ w1, Calls Tryz.prog 191 #[.string t2, .int .i64 9999] w1 fun e w' => e = .returned (.tuple #[.int .i64 m2, .bool (numGood t2 9999)]) ∧ w1 = w') := fun w1 => by rw [hm2]; exact specNum_c t2 9999 hz2 w1
        have I0 : Hid (numGood t0 9999 = true → inB m0 0 9999 = true) := fun h => by rw [hm0]; exact num_in h
        have I1 : Hid (numGood t1 9999 = true → inB m1 0 9999 = true) := fun h => by rw [hm1]; exact num_in h
        have I2 : Hid (numGood t2 9999 = true → inB m2 0 9999 = true) := fun h => by rw [hm2]; exact num_in h
        rw [← hm0, ← hm1, ← hm2] at HALL
        have B3 := (four_set ((four_set ((four_set B2 (.int .i64 m0)).1) (.int .i64 m1)).2.1) (.int .i64 m2)).2.2.1
        have A3 : Four (((w2.setCell ⟨w.heap.size + 1, 0, none⟩ (.int .i64 m0)).setCell ⟨w.heap.size + 1, 1, none⟩ (.int .i64 m1)).setCell ⟨w.heap.size + 1, 2, none⟩ (.int .i64 m2)) w.heap.size 58 (.int .i64 0) (.int .i64 0) (.int .i64 0) (.slice none 0 0) :=
          ((Only.set (R := w.heap.size + 1) (base := w.heap.size + 1) w2 0 (.int .i64 m0)).trans ((Only.set _ 1 (.int .i64 m1)).trans (Only.set _ 2 (.int .i64 m2)))).four A2 (by omega) (by omega)
        have hw3 : Below w.heap.size w (((w2.setCell ⟨w.heap.size + 1, 0, none⟩ (.int .i64 m0)).setCell ⟨w.heap.size + 1, 1, none⟩ (.int .i64 m1)).setCell ⟨w.heap.size + 1, 2, none⟩ (.int .i64 m2)) := ((hw2.setCell (by simp) _).setCell (by simp) _).setCell (by simp) _
        have RP3 := reads_set3 RP2 HPB.out (.int .i64 m0) (.int .i64 m1) (.int .i64 m2)
        obtain ⟨uq, un, uc, hup⟩ : ∃ q n c, uP = .slice q n c := by obtain ⟨q, c, h, _⟩ := RP2; exact ⟨_, _, _, h⟩
        subst hup
        clear hall hall2 hm0 hm1 hm2 hlz o2 HL HP RP2 HD hh
        go_wp2_with fail
        go_at_call 191
        refine (N0.out _).mono ?_
        rintro e w' ⟨rfl, rfl⟩
        go_wp2_with fail
        go_at_call 191
        refine (N1.out _).mono ?_
        rintro e w' ⟨rfl, rfl⟩
        go_wp2_with fail
        go_at_call 191
        refine (N2.out _).mono ?_
        rintro e w' ⟨rfl, rfl⟩
        clear N0 N1 N2
        obtain ⟨a0, a1, a2, a3⟩ := A3.cells
        have fa := A3.frozen
        obtain ⟨b0, b1, b2, b3⟩ := B3.cells
        clear l0 l1 l2
        cases hg0 : numGood t0 9999 with
        | false =>
          have hnone : resAll s = none := by rw [HALL.out, hg0]; rfl
          obtain ⟨ho1, ho2⟩ := out_none hnone
          go_wp2_with fail
          refine bodyPost_ret (v := .tuple #[.agg #[.int .i64 0, .int .i64 0, .int .i64 0, .slice none 0 0], .bool false]) (by simp [results, Tryz.results158, go_sem, a0, a1, a2, a3]) rfl ⟨.slice none 0 0, by rw [ho1], ?_, ?_⟩
          · rw [ho2]; exact ⟨none, 0, rfl, Nat.le_refl _, .inl rfl⟩
          · exact (((hw3.setCell (by simp) _).setCell (by simp) _).setCell (by simp) _).setCell (by simp) _
        | true =>
        cases hg1 : numGood t1 9999 with
        | false =>
          have hnone : resAll s = none := by rw [HALL.out, hg0, hg1]; rfl
          obtain ⟨ho1, ho2⟩ := out_none hnone
          go_wp2_with fail
          refine bodyPost_ret (v := .tuple #[.agg #[.int .i64 0, .int .i64 0, .int .i64 0, .slice none 0 0], .bool false]) (by simp [results, Tryz.results158, go_sem, a0, a1, a2, a3]) rfl ⟨.slice none 0 0, by rw [ho1], ?_, ?_⟩
          · rw [ho2]; exact ⟨none, 0, rfl, Nat.le_refl _, .inl rfl⟩
          · exact (((hw3.setCell (by simp) _).setCell (by simp) _).setCell (by simp) _).setCell (by simp) _
        | true =>
        cases hg2 : numGood t2 9999 with
        | false =>
          have hnone : resAll s = none := by rw [HALL.out, hg0, hg1, hg2]; rfl
          obtain ⟨ho1, ho2⟩ := out_none hnone
          go_wp2_with fail
          refine bodyPost_ret (v := .tuple #[.agg #[.int .i64 0, .int .i64 0, .int .i64 0, .slice none 0 0], .bool false]) (by simp [results, Tryz.results158, go_sem, a0, a1, a2, a3]) rfl ⟨.slice none 0 0, by rw [ho1], ?_, ?_⟩
          · rw [ho2]; exact ⟨none, 0, rfl, Nat.le_refl _, .inl rfl⟩
          · exact (((hw3.setCell (by simp) _).setCell (by simp) _).setCell (by simp) _).setCell (by simp) _
        | true =>
          have HV : Hid (resAll s = if verB m0 m1 m2 P then some ([m0, m1, m2], P) else none) := by
            show _ = _
            rw [HALL.out, hg0, hg1, hg2, verB, parts_all, I0.out hg0, I1.out hg1, I2.out hg2]
            simp
          go_wp2_with fail
          go_at_call 62
          refine (specVerOk_c m0 m1 m2 _ P _ RP3 HB.out).mono ?_
          rintro e w4 ⟨rfl, b4⟩
          have A4 := A3.keep b4
          have B4 := B3.keep b4
          have RP4 := RP3.below b4
          have hw4 := hw3.trans (b4.mono hw3.size)
          obtain ⟨p0, p1, p2, p3⟩ := A4.cells
          have fp := A4.frozen
          obtain ⟨q0, q1, q2, q3⟩ := B4.cells
          clear a0 a1 a2 a3 fa b0 b1 b2 b3 A3 B3 RP3 hw3 HALL b4 I0 I1 I2
          cases hv : verB m0 m1 m2 P with
          | false =>
            have hnone : resAll s = none := by rw [HV.out, hv]; rfl
            obtain ⟨ho1, ho2⟩ := out_none hnone
            go_wp2_with fail
            refine bodyPost_ret (v := .tuple #[.agg #[.int .i64 0, .int .i64 0, .int .i64 0, .slice none 0 0], .bool false]) (by simp [results, Tryz.results158, go_sem, p0, p1, p2, p3]) rfl ⟨.slice none 0 0, by rw [ho1], ?_, ?_⟩
            · rw [ho2]; exact ⟨none, 0, rfl, Nat.le_refl _, .inl rfl⟩
            · exact (((hw4.setCell (by simp) _).setCell (by simp) _).setCell (by simp) _).setCell (by simp) _
          | true =>
            have hsome : resAll s = some ([m0, m1, m2], P) := by rw [HV.out, hv]; rfl
            obtain ⟨ho1, ho2⟩ := out_some hsome (.slice uq un uc)
            go_wp2_with fail
            refine bodyPost_ret (v := .tuple #[.agg #[.int .i64 m0, .int .i64 m1, .int .i64 m2, .slice uq un uc], .bool true]) (by simp [results, Tryz.results158, go_sem, p0, p1, p2, p3]) rfl ⟨.slice uq un uc, by rw [ho1]; rfl, ?_, ?_⟩
            · rw [ho2]
              exact reads_set4 RP4 (fun bl h => by have := HPB.out bl h; omega) _ _ _ _
            · exact (((hw4.setCell (by simp) _).setCell (by simp) _).setCell (by simp) _).setCell (by simp) _
      · have hnone : resAll s = none := by rw [res_spec s k hk HD.out hh.out L P HL.out HP.out, if_neg (by simp [h3])]
        have h3' : ((L.length : Int) != 3) = true := by simp; omega
        obtain ⟨vq, vc, hvl⟩ : ∃ q c, vl = .slice q L.length c := by obtain ⟨q, c, h, _⟩ := reads_of_owns o2; exact ⟨q, c, by simpa using h⟩
        subst hvl
        clear o2 y0 y1 y2 y3 fy
        obtain ⟨ho1, ho2⟩ := out_none hnone
        go_wp2_with fail
        refine bodyPost_ret (v := .tuple #[.agg #[.int .i64 0, .int .i64 0, .int .i64 0, .slice none 0 0], .bool false]) (by simp [results, Tryz.results158, go_sem, z0, z1, z2, z3]) rfl ⟨.slice none 0 0, by rw [ho1], ?_, ?_⟩
        · rw [ho2]; exact ⟨none, 0, rfl, Nat.le_refl _, .inl rfl⟩
        · exact (((hw2.setCell (by simp) _).setCell (by simp) _).setCell (by simp) _).setCell (by simp) _
end Go.Proofs.YtbolphjigjpmiabGreatDoor

/-! Contracts of two functions of the library (the first place of a byte in a text; a copy of a text), taken over from the library of contracts at the numbers of this program; conditions as each says. -/
namespace Go.Proofs
open Go.Shelf
def Tryz.lays137_ren : Go.Shelf.Ren := ⟨fun | 137 => 166 | 217 => 201 | 266 => 231 | n => n, fun | 9 => 9 | 5 => 5 | 3 => 3 | n => n, fun | n => n⟩
theorem Tryz.lays137 : Go.Proofs.Lays.n137 Tryz.prog Tryz.lays137_ren := {
  mixed := by kernel_rfl
  f137 := Tryz.func166.trans (congrArg some (by kernel_rfl))
  f217 := Tryz.func201.trans (congrArg some (by kernel_rfl))
  f266 := Tryz.func231.trans (congrArg some (by kernel_rfl))
  t3 := Tryz.underlying3
  a3 := Tryz.isAgg3
  z3 := Tryz.sizeOf3
  v3 := Tryz.zeroValue3
  t5 := Tryz.underlying5
  a5 := Tryz.isAgg5
  z5 := Tryz.sizeOf5
  v5 := Tryz.zeroValue5
  t9 := Tryz.underlying9
  a9 := Tryz.isAgg9
  z9 := Tryz.sizeOf9
  v9 := Tryz.zeroValue9 }
open Go.RowKit in
theorem Tryz.strings_IndexByte (s : ByteArray) (c : Int) (w : World) :
    Calls Tryz.prog 166 #[.string s, .int .u8 c] w fun e w' => e = .returned (.int .i64 (Lib.indexByte s.data.toList c.toNat.toUInt8)) ∧ w' = w := Any.strings_IndexByte Tryz.lays137 s c w
def Tryz.laysM316_ren : Go.Shelf.Ren := ⟨fun | 316 => 124 | n => n, fun | 9 => 9 | 3 => 3 | 4 => 4 | 37 => 131 | 0 => 0 | 127 => 164 | 5 => 5 | n => n, fun | n => n⟩
theorem Tryz.laysM316 : Go.Proofs.LaysM.n316 Tryz.prog Tryz.laysM316_ren := {
  mixed := by kernel_rfl
  f316 := Tryz.func124.trans (congrArg some (by kernel_rfl))
  t0 := Tryz.underlying0
  a0 := Tryz.isAgg0
  z0 := Tryz.sizeOf0
  v0 := Tryz.zeroValue0
  t3 := Tryz.underlying3
  a3 := Tryz.isAgg3
  z3 := Tryz.sizeOf3
  v3 := Tryz.zeroValue3
  t4 := Tryz.underlying4
  a4 := Tryz.isAgg4
  z4 := Tryz.sizeOf4
  v4 := Tryz.zeroValue4
  t9 := Tryz.underlying9
  a9 := Tryz.isAgg9
  z9 := Tryz.sizeOf9
  v9 := Tryz.zeroValue9
  t37 := Tryz.underlying131
  a37 := Tryz.isAgg131
  z37 := Tryz.sizeOf131
  v37 := Tryz.zeroValue131
  t127 := Tryz.underlying164
  a127 := Tryz.isAgg164
  z127 := Tryz.sizeOf164
  v127 := Tryz.zeroValue164
  t5 := Tryz.underlying5
  a5 := Tryz.isAgg5
  z5 := Tryz.sizeOf5
  v5 := Tryz.zeroValue5
  i0 := by kernel_rfl
  i3 := by kernel_rfl
  i4 := by kernel_rfl
  i5 := by kernel_rfl
  i9 := by kernel_rfl
  i37 := by kernel_rfl
  i127 := by kernel_rfl }
open Go.RowKit in
theorem Tryz.stringslite_Clone (s : ByteArray) (w : World) (hlim : s.size ≤ 281474976710656) :
    Calls Tryz.prog 124 #[.string s] w fun e w' => e = .returned (.string s) ∧ Below w.heap.size w w' := Any.stringslite_Clone Tryz.laysM316 s w hlim
end Go.Proofs

/-! What the program's Split answers: the same list as the specification's, in memory of its own; condition: the text has at most 2 to the 20 bytes. -/
namespace Go.Proofs.YtbolphjigjpmiabGreatDoor
open Go.RowKit
set_option linter.unusedSimpArgs false
set_option linter.unusedVariables false

theorem split_none (s : ByteArray) (c : Int) (b : Nat) : ∀ (n i : Nat), n = s.size - i → i ≤ s.size → (∀ j, i ≤ j → j < s.size → ¬ ((s.data[j]!).toNat : Int) = c) → splitGo s c (s.size - i) i b = [s.extract b s.size]
  | 0, i, hn, hi, h => by
    have : i = s.size := by omega
    subst this
    exact splitGo_end s c b
  | n + 1, i, hn, hi, h => by
    rw [splitGo_miss s c i b (by omega) (h i (Nat.le_refl _) (by omega))]
    exact split_none s c b n (i + 1) (by omega) (by omega) (fun j h1 h2 => h j (by omega) h2)
theorem split_some (s : ByteArray) (c : Int) (b j : Nat) (hj : j < s.size) (hc : ((s.data[j]!).toNat : Int) = c) : ∀ (n i : Nat), n = j - i → i ≤ j → (∀ k, i ≤ k → k < j → ¬ ((s.data[k]!).toNat : Int) = c) → splitGo s c (s.size - i) i b = s.extract b j :: splitGo s c (s.size - (j + 1)) (j + 1) (j + 1)
  | 0, i, hn, hi, h => by
    have : i = j := by omega
    subst this
    exact splitGo_hit s c i b hj hc
  | n + 1, i, hn, hi, h => by
    rw [splitGo_miss s c i b (by omega) (h i (Nat.le_refl _) (by omega))]
    exact split_some s c b j hj hc n (i + 1) (by omega) (by omega) (fun k h1 h2 => h k (by omega) h2)

def strSize : Value → Nat | .string s => s.size | _ => 0

theorem ext_list {a b : ByteArray} (h : a.data.toList = b.data.toList) : a = b := ByteArray.ext (Array.toList_inj.1 h)
theorem extract_list (s : ByteArray) (a b : Nat) : (s.extract a b).data.toList = (s.data.toList.drop a).take (b - a) := Lib.extract_data s a b
theorem len_list (s : ByteArray) : s.data.toList.length = s.size := by rw [Array.length_toList]; rfl
theorem size_tail (s : ByteArray) (b : Nat) (h : b ≤ s.size) : (s.extract b s.size).size = s.size - b := by
  rw [← len_list, extract_list, List.length_take, List.length_drop, len_list]; omega
theorem tail_list (s : ByteArray) (b : Nat) : (s.extract b s.size).data.toList = s.data.toList.drop b := by
  rw [extract_list, List.take_of_length_le (by rw [List.length_drop, len_list]; omega)]
theorem tail_head (s : ByteArray) (b k : Nat) : (s.extract b s.size).extract 0 k = s.extract b (b + k) := by
  apply ext_list
  rw [extract_list, tail_list, extract_list]
  simp
theorem tail_tail (s : ByteArray) (b k : Nat) : (s.extract b s.size).extract k (s.extract b s.size).size = s.extract (b + k) s.size := by
  apply ext_list
  rw [tail_list, tail_list, tail_list, List.drop_drop]

theorem bang_list (s : ByteArray) (j : Nat) (h : j < s.size) : s.data.toList[j]? = some (s.data[j]!) := by
  rw [byteBang s j h, List.getElem?_eq_getElem (by rw [len_list]; exact h)]
  rfl

/-- What the search for the byte says of the text behind place b. -/
theorem search (s : ByteArray) (c : Int) (b : Nat) (hb : b ≤ s.size) (h0 : 0 ≤ c) (h1 : c ≤ 255) :
    (Lib.indexByte (s.extract b s.size).data.toList c.toNat.toUInt8 = -1 ∧ splitGo s c (s.size - b) b b = [s.extract b s.size]) ∨
    ∃ k : Nat, Lib.indexByte (s.extract b s.size).data.toList c.toNat.toUInt8 = (k : Int) ∧ b + k < s.size ∧ splitGo s c (s.size - b) b b = s.extract b (b + k) :: splitGo s c (s.size - (b + k + 1)) (b + k + 1) (b + k + 1) := by
  have hcn : ∀ u : UInt8, (u.toNat : Int) = c ↔ u = c.toNat.toUInt8 := fun u => by
    have hu := u.toNat_lt
    constructor
    · intro e
      have : u.toNat = c.toNat := by omega
      rw [← this]; simp
    · intro e
      subst e
      simp [UInt8.toNat_ofNat']
      omega
  rw [tail_list]
  have hge := Lib.indexByte_ge (s.data.toList.drop b) c.toNat.toUInt8
  by_cases hm : Lib.indexByte (s.data.toList.drop b) c.toNat.toUInt8 = -1
  · refine .inl ⟨hm, split_none s c b _ b rfl hb (fun j h1 h2 e => ?_)⟩
    have := Lib.indexByte_none hm (j - b)
    rw [List.getElem?_drop, show b + (j - b) = j by omega, bang_list s j h2] at this
    exact this (by rw [(hcn _).1 e])
  · obtain ⟨k, hk⟩ := Int.eq_ofNat_of_zero_le (show 0 ≤ Lib.indexByte (s.data.toList.drop b) c.toNat.toUInt8 by omega)
    obtain ⟨hh, hbef⟩ := Lib.indexByte_some hk
    rw [List.getElem?_drop] at hh
    have hlt : b + k < s.size := by
      rw [← len_list]
      exact (List.getElem?_eq_some_iff.1 hh).1
    refine .inr ⟨k, hk, hlt, split_some s c b (b + k) hlt ?_ _ b rfl (by omega) (fun j h1 h2 e => ?_)⟩
    · rw [bang_list s _ hlt] at hh
      exact (hcn _).2 (by simpa using hh)
    · have := hbef (j - b) (by omega)
      rw [List.getElem?_drop, show b + (j - b) = j by omega, bang_list s j (by omega)] at this
      exact this (by rw [(hcn _).1 e])

set_option maxHeartbeats 1000000 in
theorem clone_c (s : ByteArray) (w : World) (h : s.size ≤ 1048576) : Calls Tryz.prog 84 #[.string s] w fun e w' => e = .returned (.string s) ∧ Below w.heap.size w w' := by
  go_enter Tryz.func84, Tryz.ntmps84
  go_wp2_with (go_at_call 124; refine (Tryz.stringslite_Clone s _ (by omega)).mono ?_; rintro e w1 ⟨rfl, b1⟩)
  go_ret
  exact ⟨rfl, b1⟩

set_option maxHeartbeats 2000000 in
set_option maxRecDepth 100000 in
theorem implSplit_c (s : ByteArray) (c : Int) (w : World) (hs : s.size ≤ 1048576) (h0 : 0 ≤ c) (h1 : c ≤ 255) :
    Calls Tryz.prog 138 #[.string s, .int .u8 c] w fun e w' => ∃ v, e = .returned v ∧ w'.ownsRow w.heap.size 9 1 v (splitS s c).length (strsV (splitS s c)) ∧ Below w.heap.size w w' := by
  obtain ⟨i0, hi, hz0, hz1, hz2⟩ := info_parts infoS
  go_enter Tryz.func138, Tryz.ntmps138
  go_wp2
  go_loopw [0, 5] (fun vs vo wr => ∃ (b : Nat) (r : ByteArray) (xs : List ByteArray), vs = .string r ∧ b ≤ s.size ∧ xs.length ≤ b ∧ Hid (r = s.extract b s.size) ∧ wr.ownsRow w.heap.size 9 1 vo xs.length (strsV xs) ∧ Hid (xs ++ splitGo s c (s.size - b) b b = splitS s c) ∧ Below w.heap.size w wr) (fun vs _ _ => strSize vs)
  case atStart => exact ⟨0, s, [], rfl, by omega, by simp, (by show _ = _; simp), World.ownsRow_nil _ _ _ _, rfl, Below.refl _ _⟩
  case round =>
    obtain ⟨b, r, xs, rfl, hb, hxl, hr, hown, hh, hbr⟩ := hrel
    have hsr : r.size = s.size - b := by rw [hr.out]; exact size_tail s b hb
    have hs2 := search s c b hb h0 h1
    rw [← hr.out] at hs2
    rcases hs2 with ⟨hidx, hsp⟩ | ⟨k, hidx, hkl, hsp⟩
    · have HT : Hid (xs ++ [r] = splitS s c) := by have := hh.out; rw [hsp] at this; exact this
      have hr20 : r.size ≤ 1048576 := by omega
      clear hsp hh hsr
      go_wp2_with (first
        | (go_at_call 166; refine (Tryz.strings_IndexByte r c _).mono ?_; rintro e w1 ⟨rfl, rfl⟩)
        | (go_at_call 84; refine (clone_c r _ hr20).mono ?_; rintro e w2 ⟨rfl, b2⟩
           have hown2 := owns_of_below hown b2)
        | (at_builtin; refine wpList_append_own _ rfl _ _ 46 rfl w.heap.size 9 i0 (.string ⟨#[]⟩) 1 16 Tryz.underlying46 hi hz0 hz1 hz2 rfl (by decide) _ xs.length (strsV xs) rfl (hown2.alloc _) ⟨w2.heap.size, 0, none⟩ 1 1 (strsV [r]) rfl rfl (cell_one_new _ _ _) (fun u hu => by simp [strsV] at hu; subst hu; rfl) (by unfold maxLen; omega) (by omega) (by have h1 := hbr.size; have h2 := b2.size; simp; omega) ?_))
      intro v3 w3 o3 gr3 _
      rw [strs_append] at o3
      have hb2 := hbr.trans (b2.mono hbr.size)
      have hb3 : Below w.heap.size w w3 := Below.grown (hb2.alloc hb2.size _) gr3 (by have := hb2.size; simp; omega) (fun j hj => (hown2.lt _ hj).1)
      have hl3 : (xs ++ [r]).length = xs.length + 1 := by simp
      rw [← hl3, HT.out] at o3
      go_wp2
      go_ret
      exact ⟨_, rfl, o3, hb3⟩
    · have hkr : k < r.size := by omega
      have HT : Hid ((xs ++ [r.extract 0 k]) ++ splitGo s c (s.size - (b + k + 1)) (b + k + 1) (b + k + 1) = splitS s c) := by
        have := hh.out
        rw [hsp, ← tail_head, ← hr.out] at this
        show _ = _
        rw [List.append_assoc]; exact this
      have HR : Hid (r.extract (k + 1) r.size = s.extract (b + k + 1) s.size) := by
        show _ = _
        rw [hr.out, tail_tail, Nat.add_assoc]
      have hz : (r.extract 0 k).size = k := by
        rw [← len_list, extract_list]; simp [len_list]; omega
      have hz2' : (r.extract (k + 1) r.size).size = r.size - (k + 1) := size_tail r (k + 1) (by omega)
      have hk20 : (r.extract 0 k).size ≤ 1048576 := by omega
      have hkI : (k : Int) < (r.size : Int) := by omega
      have hkn : ¬ ((k : Int) < 0) := by omega
      have hkm : k ≤ 1048576 := by omega
      have hsr2 : Hid (r.size = s.size - b) := hsr
      clear hsp hh hz hsr
      go_wp2_with (first
        | (go_at_call 166; refine (Tryz.strings_IndexByte r c _).mono ?_; rintro e w1 ⟨rfl, rfl⟩)
        | (go_at_call 84; refine (clone_c (r.extract 0 k) _ hk20).mono ?_; rintro e w2 ⟨rfl, b2⟩
           have hown2 := owns_of_below hown b2)
        | (at_builtin; refine wpList_append_own _ rfl _ _ 46 rfl w.heap.size 9 i0 (.string ⟨#[]⟩) 1 16 Tryz.underlying46 hi hz0 hz1 hz2 rfl (by decide) _ xs.length (strsV xs) rfl (hown2.alloc _) ⟨w2.heap.size, 0, none⟩ 1 1 (strsV [r.extract 0 k]) rfl rfl (cell_one_new _ _ _) (fun u hu => by simp [strsV] at hu; subst hu; rfl) (by unfold maxLen; omega) (by omega) (by have h1 := hbr.size; have h2 := b2.size; simp; omega) ?_))
      intro v3 w3 o3 gr3 _
      rw [strs_append] at o3
      have hb2 := hbr.trans (b2.mono hbr.size)
      have hb3 : Below w.heap.size w w3 := Below.grown (hb2.alloc hb2.size _) gr3 (by have := hb2.size; simp; omega) (fun j hj => (hown2.lt _ hj).1)
      have hl3 : (xs ++ [r.extract 0 k]).length = xs.length + 1 := by simp
      rw [← hl3] at o3
      clear gr3 hown2 hown hbr hb2 b2 hl3
      go_wp2
      go_roundw
      case rel => exact ⟨b + k + 1, _, _, rfl, by omega, (by simp; omega), HR, o3, HT, hb3⟩
      case measure => simp only [strSize]; omega
end Go.Proofs.YtbolphjigjpmiabGreatDoor

/-! How many pieces a text falls into, and how long they are: no condition. -/
namespace Go.Proofs.YtbolphjigjpmiabGreatDoor
open Go.RowKit
set_option linter.unusedSimpArgs false
set_option linter.unusedVariables false

theorem splitS_pos (s : ByteArray) (c : Int) : 0 < (splitS s c).length := by
  have h : ∀ n i b, 0 < (splitGo s c n i b).length := fun n => by
    induction n with
    | zero => intro i b; simp [splitGo]
    | succ n ih => intro i b; rw [splitGo]; split <;> simp [ih]
  exact h _ _ _
theorem splitS_piece (s : ByteArray) (c : Int) : ∀ x ∈ splitS s c, x.size ≤ s.size := by
  have h : ∀ n i b, ∀ x ∈ splitGo s c n i b, x.size ≤ s.size := fun n => by
    induction n with
    | zero => intro i b x hx; simp [splitGo] at hx; subst hx; rw [ByteArray.size_extract]; omega
    | succ n ih =>
      intro i b x hx
      rw [splitGo] at hx
      split at hx
      · rcases List.mem_cons.1 hx with rfl | hx
        · rw [ByteArray.size_extract]; omega
        · exact ih _ _ x hx
      · exact ih _ _ x hx
  exact h _ _ _
theorem splitS_len (s : ByteArray) (c : Int) : (splitS s c).length ≤ s.size + 1 := by
  have h : ∀ n i b, (splitGo s c n i b).length ≤ n + 1 := fun n => by
    induction n with
    | zero => intro i b; simp [splitGo]
    | succ n ih =>
      intro i b
      rw [splitGo]
      split
      · simp only [List.length_cons]; have := ih (i + 1) (i + 1); omega
      · have := ih (i + 1) b; omega
  exact h _ _ _

end Go.Proofs.YtbolphjigjpmiabGreatDoor

/-! What is read as a version, or as a part of one, the program's: a contract for the walks; condition: the text has at most 2 to the 20 bytes. -/
namespace Go.Proofs.YtbolphjigjpmiabGreatDoor
open Go.RowKit
set_option linter.unusedSimpArgs false
set_option linter.unusedVariables false

def xT : ByteArray := ⟨#[120]⟩
/-- How many words are told: those at the end that are x are not, but for the first. -/
def stripK (ws : List ByteArray) : Nat → Nat
  | 0 => 0
  | n + 1 => if 1 < n + 1 ∧ ws.getD n ⟨#[]⟩ = xT then stripK ws n else n + 1
def toldW (ws : List ByteArray) : Nat := stripK ws ws.length
def partW (ws : List ByteArray) : Option (Int × Int × Int) :=
  if 3 < ws.length ∨ toldW ws = 3 then none
  else if toldW ws = 1 then (if numGood (ws.getD 0 ⟨#[]⟩) 9999 then some (numOut (ws.getD 0 ⟨#[]⟩) 9999, 0, 1) else none)
  else (if numGood (ws.getD 0 ⟨#[]⟩) 9999 && numGood (ws.getD 1 ⟨#[]⟩) 9999 then some (numOut (ws.getD 0 ⟨#[]⟩) 9999, numOut (ws.getD 1 ⟨#[]⟩) 9999, 2) else none)
/-- What is read as a version, or a part of one: three numbers, a Pre, how many are told. -/
def partAll (s : ByteArray) : Option (Int × Int × Int × List ByteArray × Int) :=
  if resOk s then some (resN s 0, resN s 1, resN s 2, resP s, 3) else (partW (splitS s 46)).map fun x => (x.1, x.2.1, 0, [], x.2.2)
def partOk (s : ByteArray) : Bool := (partAll s).isSome
def partA (s : ByteArray) : Int := ((partAll s).getD (0, 0, 0, [], 0)).1
def partB' (s : ByteArray) : Int := ((partAll s).getD (0, 0, 0, [], 0)).2.1
def partC (s : ByteArray) : Int := ((partAll s).getD (0, 0, 0, [], 0)).2.2.1
def partP (s : ByteArray) : List ByteArray := ((partAll s).getD (0, 0, 0, [], 0)).2.2.2.1
def partT (s : ByteArray) : Int := ((partAll s).getD (0, 0, 0, [], 0)).2.2.2.2
def partOut (s : ByteArray) (u : Value) : Value := .tuple #[.agg #[.int .i64 (partA s), .int .i64 (partB' s), .int .i64 (partC s), u, .int .i64 (partT s)], .bool (partOk s)]
theorem partOut_ver {s : ByteArray} (h : resOk s = true) (u : Value) : partOut s u = .tuple #[.agg #[.int .i64 (resN s 0), .int .i64 (resN s 1), .int .i64 (resN s 2), u, .int .i64 3], .bool true] ∧ partP s = resP s := by
  simp [partOut, partA, partB', partC, partP, partT, partOk, partAll, h]
theorem partOut_none {s : ByteArray} (h : resOk s = false) (hp : partW (splitS s 46) = none) : partOut s (.slice none 0 0) = .tuple #[.agg #[.int .i64 0, .int .i64 0, .int .i64 0, .slice none 0 0, .int .i64 0], .bool false] ∧ partP s = [] := by
  simp [partOut, partA, partB', partC, partP, partT, partOk, partAll, h, hp]
theorem partOut_some {s : ByteArray} (h : resOk s = false) {a b t : Int} (hp : partW (splitS s 46) = some (a, b, t)) : partOut s (.slice none 0 0) = .tuple #[.agg #[.int .i64 a, .int .i64 b, .int .i64 0, .slice none 0 0, .int .i64 t], .bool true] ∧ partP s = [] := by
  simp [partOut, partA, partB', partC, partP, partT, partOk, partAll, h, hp]

theorem stripK_le (ws : List ByteArray) : ∀ n, stripK ws n ≤ n
  | 0 => Nat.le_refl _
  | n + 1 => by
    rw [stripK]
    split
    · have := stripK_le ws n; omega
    · omega
theorem stripK_pos (ws : List ByteArray) : ∀ n, 0 < n → 0 < stripK ws n
  | 0, h => by omega
  | n + 1, _ => by
    rw [stripK]
    split
    · exact stripK_pos ws n (by omega)
    · omega

/-- The block N holds these three cells. -/
def Three (w : World) (N : Nat) (t : TypeId) (c0 c1 c2 : Value) : Prop := w.heap[N]? = some (.cells #[c0, c1, c2] t (0, 0))
theorem Three.lt {w : World} {N : Nat} {t : TypeId} {c0 c1 c2 : Value} (h : Three w N t c0 c1 c2) : N < w.heap.size := (Array.getElem?_eq_some_iff.1 h).1
theorem Three.cells {w : World} {N : Nat} {t : TypeId} {c0 c1 c2 : Value} (h : Three w N t c0 c1 c2) : w.cell? ⟨N, 0, none⟩ = some c0 ∧ w.cell? ⟨N, 1, none⟩ = some c1 ∧ w.cell? ⟨N, 2, none⟩ = some c2 := ⟨vblk_cell h 0, vblk_cell h 1, vblk_cell h 2⟩
theorem Three.set {w : World} {N : Nat} {t : TypeId} {c0 c1 c2 : Value} (h : Three w N t c0 c1 c2) (v : Value) : Three (w.setCell ⟨N, 0, none⟩ v) N t v c1 c2 ∧ Three (w.setCell ⟨N, 1, none⟩ v) N t c0 v c2 :=
  ⟨heap_setCell_same w N 0 _ t v h, heap_setCell_same w N 1 _ t v h⟩
theorem three_new (w : World) (t : TypeId) (c0 c1 c2 : Value) : Three (w.alloc (.cells #[c0, c1, c2] t)) w.heap.size t c0 c1 c2 := vheap_new _ _
theorem Five.far {w : World} {R N j : Nat} {t : TypeId} {c0 c1 c2 c3 c4 : Value} (h : Five w R t c0 c1 c2 c3 c4) (hn : R ≠ N) (v : Value) : Five (w.setCell ⟨N, j, none⟩ v) R t c0 c1 c2 c3 c4 := (Below.heap_setCell w ⟨N, j, none⟩ v R hn).trans h
end Go.Proofs.YtbolphjigjpmiabGreatDoor
