/-
  What the program's reader of versions does at the end of a word, and at a sign: contracts for the walks; condition: what it holds lies in memory as told.
-/
import Derived.Test.YtdnpfkknnaepoaaDoorVerK
import Derived.Test.YtdnpfkknnaepoaaDoorVerF
import Derived.Maps.AppendAt
namespace Go.Proofs.YtdnpfkknnaepoaaDoor
open Go.RowKit
set_option linter.unusedSimpArgs false
set_option linter.unusedVariables false

def intsV (zs : List Int) : List Value := zs.map (Value.int .i64)
@[simp] theorem length_intsV (zs : List Int) : (intsV zs).length = zs.length := by simp [intsV]
@[simp] theorem length_bytesV' (zs : List Int) : (bytesV zs).length = zs.length := by simp [bytesV]
theorem infoI : (Tryd.prog.info? 3).map (fun i => (i.zero, i.size, i.bytes)) = some (some (.int .i64 0), 1, 8) := by kernel_rfl

/-- Of the blocks below base nothing has turned but block R. -/
structure Only (R base : Nat) (w w' : World) : Prop where
  os : w'.os = w.os
  tape : w'.tape = w.tape
  output : w'.output = w.output
  size : w.heap.size ≤ w'.heap.size
  block : ∀ k, k < base → k ≠ R → w'.heap[k]? = w.heap[k]?
theorem Only.refl (R base : Nat) (w : World) : Only R base w w := ⟨rfl, rfl, rfl, Nat.le_refl _, fun _ _ _ => rfl⟩
theorem Only.trans {R base : Nat} {a b c : World} (h : Only R base a b) (k : Only R base b c) : Only R base a c :=
  ⟨k.os.trans h.os, k.tape.trans h.tape, k.output.trans h.output, Nat.le_trans h.size k.size, fun i h1 h2 => (k.block i h1 h2).trans (h.block i h1 h2)⟩
theorem Only.set {R base : Nat} (w : World) (j : Nat) (v : Value) : Only R base w (w.setCell ⟨R, j, none⟩ v) :=
  ⟨rfl, rfl, rfl, by simp [World.setCell], fun k _ hk => Below.heap_setCell w ⟨R, j, none⟩ v k hk⟩
theorem Only.grown {R base : Nat} {w w' : World} {row : Option Nat} (h : w.grownBy w' row) (hb : base ≤ w.heap.size) (hrow : ∀ k, row = some k → base ≤ k) : Only R base w w' :=
  ⟨h.os, h.tape, h.output, h.size, fun k h1 _ => h.block k (by omega) (fun e => by have := hrow k e.symm; omega)⟩
theorem Only.below {R base : Nat} {w w' : World} (h : Below w.heap.size w w') (hb : base ≤ w.heap.size) : Only R base w w' :=
  ⟨h.os, h.tape, h.output, h.size, fun k h1 _ => h.block k (by omega)⟩
theorem Only.alloc {R base : Nat} {w : World} (o : Obj) (hb : base ≤ w.heap.size) : Only R base w (w.alloc o) := Only.below ((Below.refl _ _).alloc (Nat.le_refl _) _) hb

theorem four_set {w : World} {R : Nat} {t : TypeId} {c0 c1 c2 c3 : Value} (h : Four w R t c0 c1 c2 c3) (v : Value) :
    Four (w.setCell ⟨R, 0, none⟩ v) R t v c1 c2 c3 ∧ Four (w.setCell ⟨R, 1, none⟩ v) R t c0 v c2 c3 ∧ Four (w.setCell ⟨R, 2, none⟩ v) R t c0 c1 v c3 ∧ Four (w.setCell ⟨R, 3, none⟩ v) R t c0 c1 c2 v := by
  refine ⟨?_, ?_, ?_, ?_⟩ <;> (unfold Four at *; rw [heap_setCell_same w R _ _ t v h]; rfl)
theorem Four.grown {w w' : World} {R base : Nat} {t : TypeId} {c0 c1 c2 c3 : Value} {row : Option Nat} (h : Four w R t c0 c1 c2 c3) (hg : w.grownBy w' row) (hR : R < base) (hrow : ∀ k, row = some k → base ≤ k) : Four w' R t c0 c1 c2 c3 :=
  (hg.block R h.lt (fun e => by have := hrow R e.symm; omega)).trans h
theorem Four.frozen {w : World} {N : Nat} {t : TypeId} {c0 c1 c2 c3 : Value} (h : Four w N t c0 c1 c2 c3) (j : Nat) : w.frozen? ⟨N, j, none⟩ = false := vblk_frozen h j

/-- Two rows of two types are two blocks. -/
theorem rows_apart {w : World} {base e e' : Nat} {v v' : Value} {n n' : Nat} {xs xs' : List Value} (h : w.ownsRow base e 1 v n xs) (h' : w.ownsRow base e' 1 v' n' xs') (hne : e ≠ e') : v'.ownBlock = none ∨ v'.ownBlock ≠ v.ownBlock := by
  rcases h.2 with ⟨rfl, _⟩ | ⟨g, cap, cur, rfl, _, hg, _⟩
  · rcases h'.2 with ⟨rfl, _⟩ | ⟨g', cap', cur', rfl, _, hg', _⟩
    · exact .inl rfl
    · exact .inr (by simp [Value.ownBlock])
  · rcases h'.2 with ⟨rfl, _⟩ | ⟨g', cap', cur', rfl, _, hg', _⟩
    · exact .inl rfl
    · refine .inr fun e1 => hne ?_
      simp only [Value.ownBlock, Option.some.injEq] at e1
      subst e1
      rw [hg] at hg'
      simp only [Option.some.injEq, Obj.cells.injEq] at hg'
      exact hg'.2.1

/-- The reader at block R. -/
def Rd (w : World) (R base : Nat) (ws ns : List Int) (ps : List ByteArray) (inP : Bool) : Prop :=
  ∃ vw vn vp, Four w R 62 vw vn vp (.bool inP) ∧ w.ownsRow base 5 1 vw ws.length (bytesV ws) ∧ w.ownsRow base 3 1 vn ns.length (intsV ns) ∧ w.ownsRow base 9 1 vp ps.length (strsV ps)

theorem row_empty {w : World} {base : Nat} {e : TypeId} {g n cap : Nat} {xs : List Value} (h : w.ownsRow base e 1 (.slice (some ⟨g, 0, none⟩) n cap) n xs) : w.ownsRow base e 1 (.slice (some ⟨g, 0, none⟩) 0 cap) 0 [] := by
  rcases h.2 with ⟨h, _⟩ | ⟨g', cap', cur, hv, hb, hg, hn, hc, hs, ht⟩
  · cases h
  · cases hv
    exact ⟨rfl, .inr ⟨g, cap, cur, rfl, hb, hg, Nat.zero_le _, hc, hs, rfl⟩⟩

theorem conv_word {w : World} {base : Nat} {vw : Value} {ws : List Int} (h : w.ownsRow base 5 1 vw ws.length (bytesV ws)) : (convert 22 9 vw).run Tryd.prog w = .ok (.string (strOfNums ws)) w := by
  rcases h.2 with ⟨rfl, h0⟩ | ⟨g, cap, cur, rfl, hb, hg, hn, hc, hs, ht⟩
  · have : ws = [] := List.eq_nil_of_length_eq_zero h0
    subst this
    exact run_convert_bytes_nil w 22 5 Tryd.underlying22 Tryd.underlying5 0 0 9 Tryd.underlying9
  · refine run_convert_bytes_arg _ 22 5 Tryd.underlying22 Tryd.underlying5 _ 0 ws.length cap ws rfl (fun i hi => ?_) 9 Tryd.underlying9
    rw [Nat.zero_add, h.cellAt i (by simpa using hi)]
    simp [bytesV, List.getD_eq_getElem?_getD, hi]

theorem cell_str (w : World) (t : ByteArray) : ∀ j u, [Value.string t][j]? = some u → (w.alloc (.cells #[.string t] 9)).cell? ((⟨w.heap.size, 0, none⟩ : Addr).add j) = some u := cell_one_new _ _ _

set_option maxHeartbeats 2000000 in
set_option maxRecDepth 100000 in
theorem ends_in (R base : Nat) (ws ns : List Int) (ps : List ByteArray) (w : World) (h : Rd w R base ws ns ps true) (hR : R < base) (hbw : base ≤ w.heap.size) (hw : ws.length ≤ 1048576) (hps : ps.length ≤ 1048576) :
    Calls Tryd.prog 37 #[.pointer (some ⟨R, 0, none⟩)] w fun e w' => e = .returned (.bool (endOk ns ps true (strOfNums ws))) ∧ Rd w' R base [] (endNs ns true (strOfNums ws)) (endPs ps true (strOfNums ws)) true ∧ Only R base w w' := by
  obtain ⟨i0, hi, hz0, hz1, hz2⟩ := info_parts infoS
  obtain ⟨vw, vn, vp, hF, hWr, hNr, hPr⟩ := h
  have hcv := conv_word hWr
  have htz : (strOfNums ws).size ≤ maxLen := by rw [strOfNums_size]; unfold maxLen; omega
  obtain ⟨t, ht⟩ : ∃ t, t = strOfNums ws := ⟨_, rfl⟩
  rw [← ht] at hcv htz ⊢
  clear ht
  obtain ⟨v0, hv0, hW0⟩ : ∃ v0, (vw = .slice none 0 0 ∧ v0 = .slice none 0 0 ∨ ∃ g n cap, vw = .slice (some ⟨g, 0, none⟩) n cap ∧ v0 = .slice (some ⟨g, 0, none⟩) 0 cap ∧ n ≤ cap) ∧ w.ownsRow base 5 1 v0 0 [] := by
    rcases hWr.2 with ⟨rfl, _⟩ | ⟨g, cap, cur, rfl, _, _, hn, _⟩
    · exact ⟨_, .inl ⟨rfl, rfl⟩, World.ownsRow_nil _ _ _ _⟩
    · exact ⟨_, .inr ⟨g, ws.length, cap, rfl, rfl, hn⟩, row_empty hWr⟩
  have F1 := (four_set hF v0).1
  have hW1 := owns_set hW0 (p := ⟨R, 0, none⟩) hR v0
  have hN1 := owns_set hNr (p := ⟨R, 0, none⟩) hR v0
  have hP1 := owns_set hPr (p := ⟨R, 0, none⟩) hR v0
  have O1 : Only R base w (w.setCell ⟨R, 0, none⟩ v0) := Only.set w 0 v0
  have hb1 : base ≤ (w.setCell ⟨R, 0, none⟩ v0).heap.size := Nat.le_trans hbw O1.size
  obtain ⟨c0, c1, c2, c3⟩ := hF.cells
  have f0 := hF.frozen 0
  obtain ⟨d0, d1, d2, d3⟩ := F1.cells
  have g2 := F1.frozen 2
  have hlR := F1.lt
  have hsz : (w.setCell ⟨R, 0, none⟩ v0).heap.size = w.heap.size := by simp [World.setCell]
  have hcs := cell_str (w.setCell ⟨R, 0, none⟩ v0) t
  rw [hsz] at hcs
  have HC : Hid (∀ j u, (strsV [t])[j]? = some u → ((w.setCell ⟨R, 0, none⟩ v0).alloc (.cells #[.string t] 9)).cell? ((⟨w.heap.size, 0, none⟩ : Addr).add j) = some u) := hcs
  have hPA := hP1.alloc (.cells #[.string t] 9)
  have hNA := hN1.alloc (.cells #[.string t] 9)
  have hWA := hW1.alloc (.cells #[.string t] 9)
  have FA := four_old F1 (.cells #[.string t] 9)
  have OA : Only R base w ((w.setCell ⟨R, 0, none⟩ v0).alloc (.cells #[.string t] 9)) := O1.trans (Only.alloc _ hb1)
  have hbA : base ≤ ((w.setCell ⟨R, 0, none⟩ v0).alloc (.cells #[.string t] 9)).heap.size := Nat.le_trans hbw OA.size
  have HP : Hid (((w.setCell ⟨R, 0, none⟩ v0).alloc (.cells #[.string t] 9)).ownsRow base 9 1 vp ps.length (strsV ps)) := hPA
  obtain ⟨vpa, vpn, vpc, rfl⟩ : ∃ a n cap, vp = .slice a n cap := by rcases hPr.2 with ⟨rfl, _⟩ | ⟨g, cap, cur, rfl, _⟩ <;> exact ⟨_, _, _, rfl⟩
  clear hWr hNr hPr hF hcs hP1 hN1 hW1 hPA hsz
  rcases hv0 with ⟨rfl, rfl⟩ | ⟨gb, n, cap, rfl, rfl, hn⟩
  all_goals (
    go_enter Tryd.func37, Tryd.ntmps37
    go_wp2_with (at_builtin; refine wpList_append_own _ rfl _ _ 24 rfl base 9 i0 (.string ⟨#[]⟩) 1 16 Tryd.underlying24 hi hz0 hz1 hz2 rfl (by decide) _ ps.length (strsV ps) rfl HP.out ⟨w.heap.size, 0, none⟩ 1 1 (strsV [t]) rfl rfl HC.out (fun u hu => by simp [strsV] at hu; subst hu; rfl) (by unfold maxLen; omega) (by omega) hbA ?_)
    intro v2 w2 o2 gr2 _
    rw [show strsV ps ++ strsV [t] = strsV (ps ++ [t]) by simp [strsV]] at o2
    have hrow : ∀ k, Value.ownBlock (.slice vpa vpn vpc) = some k → base ≤ k := fun k hk => (HP.out.lt k hk).1
    have F2 := FA.grown gr2 hR hrow
    have hN2 := hNA.kept gr2 (rows_apart HP.out hNA (by decide))
    have hW2 := hWA.kept gr2 (rows_apart HP.out hWA (by decide))
    have O2 := OA.trans (Only.grown gr2 hbA hrow)
    have hb2 := Nat.le_trans hbw O2.size
    clear gr2 HP hNA hWA FA OA hbA HC F1 O1
    obtain ⟨e0, e1, e2, e3⟩ := F2.cells
    have h2 := F2.frozen 2
    have F3 := (four_set F2 v2).2.2.1
    have hN3 := owns_set hN2 (p := ⟨R, 2, none⟩) hR v2
    have hW3 := owns_set hW2 (p := ⟨R, 2, none⟩) hR v2
    have hP3 := owns_set o2 (p := ⟨R, 2, none⟩) hR v2
    have O3 := O2.trans (Only.set w2 2 v2)
    have hb3 := Nat.le_trans hbw O3.size
    obtain ⟨k0, k1, k2, k3⟩ := F3.cells
    obtain ⟨q2, cap2, hv2⟩ : ∃ q cap, v2 = .slice q (ps.length + 1) cap := by
      rcases o2.2 with ⟨_, h⟩ | ⟨g, cap, cur, rfl, _⟩
      · omega
      · exact ⟨_, _, rfl⟩
    subst hv2
    clear o2 hN2 hW2 F2 O2 hb2 d0 d1 d2 d3 c0 c1 c2 c3
    have hRd : Rd (w2.setCell ⟨R, 2, none⟩ (.slice q2 (ps.length + 1) cap2)) R base [] ns (ps ++ [t]) true := ⟨_, _, _, F3, hW3, hN3, by simpa using hP3⟩
    clear F3 hN3 hW3 hP3
    by_cases hl : ps.length + 1 ≤ 3
    · have hl' : (ps.length : Int) + 1 ≤ 3 := by omega
      go_wp2_with (go_at_call 43; refine (implPart_c t htz _).mono ?_; rintro e w4 ⟨rfl, b4⟩)
      go_ret
      refine ⟨ret_bool (by simp [endOk, hl]), ?_, O3.trans (Only.below b4 hb3)⟩
      obtain ⟨x1, x2, x3, y1, y2, y3, y4⟩ := hRd
      exact ⟨x1, x2, x3, y1.keep b4, owns_of_below y2 b4, owns_of_below y3 b4, owns_of_below y4 b4⟩
    · have hl' : ¬ (ps.length : Int) + 1 ≤ 3 := by omega
      go_wp2
      go_ret
      exact ⟨ret_bool (by simp [endOk, hl]), hRd, O3⟩)
end Go.Proofs.YtdnpfkknnaepoaaDoor
