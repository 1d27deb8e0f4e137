/-
  What the program's ParseVer answers: what its reader tells of the text's bytes: a contract for the walks; condition: the text has at most 2 to the 20 bytes.
-/
import Derived.Test.YtdnpfkknnaepoaaDoorVerO
namespace Go.Proofs.YtdnpfkknnaepoaaDoor
open Go.RowKit
set_option linter.unusedSimpArgs false
set_option linter.unusedVariables false

def zeroVer : Value := .agg #[.int .i64 0, .int .i64 0, .int .i64 0, .slice none 0 0]
def verOut (s : ByteArray) (u : Value) : Value := .tuple #[.agg #[.int .i64 (resN s 0), .int .i64 (resN s 1), .int .i64 (resN s 2), u], .bool (resOk s)]
theorem out_none {s : ByteArray} (h : resAll s = none) : verOut s (.slice none 0 0) = .tuple #[.agg #[.int .i64 0, .int .i64 0, .int .i64 0, .slice none 0 0], .bool false] ∧ resP s = [] := by
  simp [verOut, resN, resOk, resP, h]
theorem out_some {s : ByteArray} {ns : List Int} {ps : List ByteArray} (h : resAll s = some (ns, ps)) (u : Value) : verOut s u = .tuple #[.agg #[.int .i64 (ns.getD 0 0), .int .i64 (ns.getD 1 0), .int .i64 (ns.getD 2 0), u], .bool true] ∧ resP s = ps := by
  simp [verOut, resN, resOk, resP, h]
theorem Only.four {R base N : Nat} {w w' : World} {t : TypeId} {c0 c1 c2 c3 : Value} (h : Only R base w w') (hF : Four w N t c0 c1 c2 c3) (hN : N < base) (hR : N ≠ R) : Four w' N t c0 c1 c2 c3 := (h.block N hN hR).trans hF
theorem Only.belowW {R base B : Nat} {w0 w w' : World} (h : Only R base w w') (hb : Below B w0 w) (hB : B ≤ base) (hR : B ≤ R) : Below B w0 w' :=
  hb.trans ⟨h.os, h.tape, h.output, h.size, fun k hk => h.block k (by omega) (by omega)⟩

theorem far4 {w : World} {N g j : Nat} {v0 v1 v2 v3 : Value} (h : g ≠ N) : ((((w.setCell ⟨N, 0, none⟩ v0).setCell ⟨N, 1, none⟩ v1).setCell ⟨N, 2, none⟩ v2).setCell ⟨N, 3, none⟩ v3).drew.cell? ⟨g, j, none⟩ = w.cell? ⟨g, j, none⟩ := by
  have hh : ∀ (a : World) (i : Nat) (x : Value), (a.setCell ⟨N, i, none⟩ x).cell? ⟨g, j, none⟩ = a.cell? ⟨g, j, none⟩ := fun a i x => World.cell?_setCell_other _ _ _ _ (by intro e; injection e; omega)
  show ((((w.setCell ⟨N, 0, none⟩ v0).setCell ⟨N, 1, none⟩ v1).setCell ⟨N, 2, none⟩ v2).setCell ⟨N, 3, none⟩ v3).cell? ⟨g, j, none⟩ = _
  rw [hh, hh, hh, hh]
theorem owns_lower {w : World} {base base' : Nat} {e : TypeId} {v : Value} {n : Nat} {xs : List Value} (h : w.ownsRow base e 1 v n xs) (hb : base' ≤ base) : w.ownsRow base' e 1 v n xs := by
  obtain ⟨h1, h2⟩ := h
  refine ⟨h1, ?_⟩
  rcases h2 with h2 | ⟨g, cap, cur, a, b, c⟩
  · exact .inl h2
  · exact .inr ⟨g, cap, cur, a, Nat.le_trans hb b, c⟩
theorem endNs_len {ns : List Int} {inP : Bool} {t : ByteArray} (h : ns.length ≤ 3) : (endNs ns inP t).length ≤ 4 := by
  cases inP <;> simp [endNs] <;> omega
theorem two_new {w : World} (o o' : Obj) : Below w.heap.size w ((w.alloc o).alloc o') := ((Below.refl _ _).alloc (Nat.le_refl _) _).alloc (by simp) _

set_option maxHeartbeats 4000000 in
set_option maxRecDepth 100000 in
theorem implParse_c (s : ByteArray) (hs : s.size ≤ 1048576) (w : World) :
    Calls Tryd.prog 10 #[.string s] w fun e w' => ∃ u, e = .returned (verOut s u) ∧ w'.ownsRow w.heap.size 9 1 u (resP s).length (strsV (resP s)) ∧ Below w.heap.size w w' := by
  obtain ⟨A0, B0⟩ := four_two w 26 62 (.int .i64 0) (.int .i64 0) (.int .i64 0) (.slice none 0 0) (.slice none 0 0) (.slice none 0 0) (.slice none 0 0) (.bool false)
  have hbW := two_new (w := w) (.cells #[.int .i64 0, .int .i64 0, .int .i64 0, .slice none 0 0] 26) (.cells #[.slice none 0 0, .slice none 0 0, .slice none 0 0, .bool false] 62)
  have hsW : ((w.alloc (.cells #[.int .i64 0, .int .i64 0, .int .i64 0, .slice none 0 0] 26)).alloc (.cells #[.slice none 0 0, .slice none 0 0, .slice none 0 0, .bool false] 62)).heap.size = w.heap.size + 1 + 1 := by simp
  go_enter Tryd.func10, Tryd.ntmps10
  go_wp2
  go_loopw [6] (fun _ wr => ∃ (pos b : Nat) (ns : List Int) (ps : List ByteArray) (inP : Bool), pos ≤ s.size ∧ b ≤ pos ∧ ns.length ≤ 3 ∧ ps.length ≤ 3 ∧ wr.heap[w.heap.size + 1 + 1]? = some (.stringIter s pos) ∧ Rd wr (w.heap.size + 1) (w.heap.size + 1 + 1 + 1) (wordL s b pos) ns ps inP ∧ Hid (reads s (s.size - pos) pos b ns ps inP = resAll s) ∧ Below w.heap.size w wr ∧ Four wr w.heap.size 26 (.int .i64 0) (.int .i64 0) (.int .i64 0) (.slice none 0 0) ∧ w.heap.size + 1 + 1 + 1 ≤ wr.heap.size) (fun _ wr => s.size - wr.iterPos (w.heap.size + 1 + 1))
  case atStart =>
    refine ⟨0, 0, [], [], false, Nat.zero_le _, Nat.le_refl _, by simp, by simp, ?_, ⟨_, _, _, four_old B0 _, ?_, ?_, ?_⟩, rfl, hbW.alloc hbW.size _, four_old A0 _, by simp [World.iter]⟩
    · have := World.iter_heap ((w.alloc (.cells #[.int .i64 0, .int .i64 0, .int .i64 0, .slice none 0 0] 26)).alloc (.cells #[.slice none 0 0, .slice none 0 0, .slice none 0 0, .bool false] 62)) s 0
      rw [hsW] at this
      exact this
    · rw [word_nil]; exact World.ownsRow_nil _ _ _ _
    · exact World.ownsRow_nil _ _ _ _
    · exact World.ownsRow_nil _ _ _ _
  case round =>
    obtain ⟨pos, b, ns, ps, inP, hk, hbp, hns, hps, hit, hRd, hh, hbw, hA, hsz⟩ := hrel
    have hpos0 := iterPos_of hit
    clear A0 B0 hbW hsW
    by_cases hp : pos < s.size
    · obtain ⟨c, d, hd, hc⟩ : ∃ (c : Int) (d : Nat), (∀ ty, (Instr.next (.pointer (some ⟨w.heap.size + 1 + 1, 0, none⟩)) true ty).run Tryd.prog wr = .ok (.tuple #[.bool true, .int .i64 pos, .int .i32 c]) (wr.iterAt (w.heap.size + 1 + 1) s (pos + d))) ∧ ((c = ((s.data[pos]!).toNat : Int) ∧ d = 1) ∨ (128 ≤ c ∧ 128 ≤ ((s.data[pos]!).toNat : Int))) := by
        by_cases ha : (s[pos]).toNat < 128
        · exact ⟨_, 1, fun ty => Lib.run_next_ascii_at wr _ s pos ty hit hp ha, .inl ⟨by rw [byteBang s pos hp], rfl⟩⟩
        · exact ⟨_, _, fun ty => Lib.run_next_any_at wr _ s pos ty hit hp, .inr ⟨by have := (decode_high s pos hp (by omega)).1; omega, by rw [byteBang s pos hp]; omega⟩⟩
      have hit2 := Lib.iterAt_heap wr (w.heap.size + 1 + 1) s pos (pos + d) hit
      have hbw2 := Lib.below_iterAt hbw (k := w.heap.size + 1 + 1) (by omega) s (pos + d)
      have hRd2 := hRd.iter (k := w.heap.size + 1 + 1) (by omega) (by omega) s (pos + d)
      have hA2 := iter_four hA (k := w.heap.size + 1 + 1) (by omega) s (pos + d)
      have hsz2 : w.heap.size + 1 + 1 + 1 ≤ (wr.iterAt (w.heap.size + 1 + 1) s (pos + d)).heap.size := by
        have := (Array.getElem?_eq_some_iff.1 hit2).1; omega
      obtain ⟨W1, hW1⟩ : ∃ W1, W1 = wr.iterAt (w.heap.size + 1 + 1) s (pos + d) := ⟨_, rfl⟩
      rw [← hW1] at hd hit2 hbw2 hRd2 hA2 hsz2
      clear hW1 hit hbw hRd hA hsz
      have HT := takes_c (w.heap.size + 1) (w.heap.size + 1 + 1 + 1) (wordL s b pos) ns ps inP c W1 hRd2 (by omega) hsz2 (by rw [word_len s b pos hbp (by omega)]; omega) (by omega) (by omega)
      rw [word_str] at HT
      have HH : Hid (takeOk c ns ps inP (s.extract b pos) = false → resAll s = none) := fun h => by
        rw [← hh.out]
        rcases hc with ⟨hc, _⟩ | ⟨h1, h2⟩
        · rw [reads_step s pos b ns ps inP hp c hc, if_neg (by rw [h]; simp)]
        · rw [reads_step s pos b ns ps inP hp _ rfl]
          have e : takeOk ((s.data[pos]!).toNat : Int) ns ps inP (s.extract b pos) = false := by
            have e1 : endsB ((s.data[pos]!).toNat : Int) inP = false := by simp [endsB]; omega
            rw [takeOk, e1, if_neg (by simp), pre_high h2]
          rw [if_neg (by rw [e]; simp)]
      have HG : Hid (takeOk c ns ps inP (s.extract b pos) = true → d = 1 ∧ c = ((s.data[pos]!).toNat : Int)) := fun h => by
        rcases hc with ⟨hc, hd⟩ | ⟨h1, h2⟩
        · exact ⟨hd, hc⟩
        · have e1 : endsB c inP = false := by simp [endsB]; omega
          rw [takeOk, e1, if_neg (by simp), pre_high h1] at h
          cases h
      clear hc hRd2
      obtain ⟨ok, hok⟩ : ∃ ok, ok = takeOk c ns ps inP (s.extract b pos) := ⟨_, rfl⟩
      rw [← hok] at HT HH HG
      have HOK : Hid (ok = takeOk c ns ps inP (s.extract b pos)) := hok
      clear hok
      cases ok with
      | false =>
        go_wp2_with fail
        go_at_call 36
        refine HT.mono ?_
        rintro e w2 ⟨rfl, _, o2⟩
        have hA3 := o2.four hA2 (by omega) (by omega)
        obtain ⟨x0, x1, x2, x3⟩ := hA3.cells
        have f0 := hA3.frozen
        have hb3 := o2.belowW hbw2 (by omega) (by omega)
        have hnone := HH.out (by trivial)
        go_wp2_with fail
        obtain ⟨ho1, ho2⟩ := out_none hnone
        refine bodyPost_ret (v := .tuple #[.agg #[.int .i64 0, .int .i64 0, .int .i64 0, .slice none 0 0], .bool false]) (by simp [results, Tryd.results10, go_sem, x0, x1, x2, x3]) rfl ⟨.slice none 0 0, by rw [ho1], ?_, ?_⟩
        · rw [ho2]; exact World.ownsRow_nil _ _ _ _
        · exact (((hb3.setCell (by simp) _).setCell (by simp) _).setCell (by simp) _).setCell (by simp) _
      | true =>
        go_wp2_with fail
        go_at_call 36
        refine HT.mono ?_
        rintro e w2 ⟨rfl, hR3, o2⟩
        go_wp2_with fail
        obtain ⟨hd1, hc1⟩ := HG.out (by trivial)
        have hA3 := o2.four hA2 (by omega) (by omega)
        have hl := take_len HOK.out.symm hns hps
        have hit3 := (o2.block (w.heap.size + 1 + 1) (by omega) (by omega)).trans hit2
        subst hd1
        go_roundw
        case rel =>
          refine ⟨pos + 1, if endsB c inP then pos + 1 else b, takeNs c ns inP (s.extract b pos), takePs c ps inP (s.extract b pos), takeIn c inP, by omega, by split <;> omega, hl.1, hl.2, hit3, ?_, ?_, o2.belowW hbw2 (by omega) (by omega), hA3, Nat.le_trans hsz2 o2.size⟩
          · have e : wordL s (if endsB c inP then pos + 1 else b) (pos + 1) = takeWs c (wordL s b pos) inP := by
              unfold takeWs
              split
              · rw [word_nil]
              · rw [word_snoc s b pos hbp hp, ← hc1]
            rw [e]; exact hR3 (by trivial)
          · show _ = _
            rw [← hh.out, reads_step s pos b ns ps inP hp c hc1, if_pos HOK.out.symm]
        case measure => rw [iterPos_of hit3, hpos0]; omega
    · have hnx : ∀ ty, (Instr.next (.pointer (some ⟨w.heap.size + 1 + 1, 0, none⟩)) true ty).run Tryd.prog wr = _ := fun ty => Lib.run_next_end_at wr (w.heap.size + 1 + 1) s pos ty hit hp
      have he : pos = s.size := by omega
      subst he
      have HE := ends_c (w.heap.size + 1) (w.heap.size + 1 + 1 + 1) (wordL s b s.size) ns ps inP wr hRd (by omega) hsz (by rw [word_len s b s.size hbp (by omega)]; omega) (by omega) (by omega)
      rw [word_str] at HE
      have HR : Hid (resAll s = if endOk ns ps inP (s.extract b s.size) && decide (3 ≤ (endNs ns inP (s.extract b s.size)).length) then some (endNs ns inP (s.extract b s.size), endPs ps inP (s.extract b s.size)) else none) := by
        show _ = _
        rw [← hh.out, Nat.sub_self, reads]
      obtain ⟨ok, hok⟩ : ∃ ok, ok = endOk ns ps inP (s.extract b s.size) := ⟨_, rfl⟩
      obtain ⟨ns2, hns2⟩ : ∃ x, x = endNs ns inP (s.extract b s.size) := ⟨_, rfl⟩
      obtain ⟨ps2, hps2⟩ : ∃ x, x = endPs ps inP (s.extract b s.size) := ⟨_, rfl⟩
      have hl2 : ns2.length ≤ 4 := by rw [hns2]; exact endNs_len hns
      rw [← hok, ← hns2, ← hps2] at HE HR
      clear hok hns2 hps2 hRd hh hit
      go_wp2_with fail
      go_at_call 37
      refine HE.mono ?_
      rintro e w2 ⟨rfl, ⟨vw, vn, vp, hF, hWr, hNr, hPr⟩, o2⟩
      have hA3 := o2.four hA (by omega) (by omega)
      obtain ⟨x0, x1, x2, x3⟩ := hA3.cells
      have f0 := hA3.frozen
      have hb3 := o2.belowW hbw (by omega) (by omega)
      have hsz3 := Nat.le_trans hsz o2.size
      obtain ⟨k0, k1, k2, k3⟩ := hF.cells
      have hNN : vn = .slice none 0 0 ∧ ns2 = [] ∨ ∃ g cap, vn = .slice (some ⟨g, 0, none⟩) ns2.length cap ∧ ∀ j (h : j < ns2.length), w2.cell? ⟨g, j, none⟩ = some (.int .i64 ns2[j]) := by
        rcases hNr.2 with ⟨rfl, h0⟩ | ⟨g, cap, cur, rfl, _⟩
        · exact .inl ⟨rfl, List.eq_nil_of_length_eq_zero h0⟩
        · exact .inr ⟨g, cap, rfl, fun j h => by rw [hNr.cellAt j (by simpa using h)]; simp [intsV, h]⟩
      clear hA hbw hWr HE hF
      cases ok with
      | false =>
        have hnone : resAll s = none := by rw [HR.out]; rfl
        obtain ⟨ho1, ho2⟩ := out_none hnone
        go_wp2_with fail
        refine bodyPost_ret (v := .tuple #[.agg #[.int .i64 0, .int .i64 0, .int .i64 0, .slice none 0 0], .bool false]) (by simp [results, Tryd.results10, go_sem, x0, x1, x2, x3]) rfl ⟨.slice none 0 0, by rw [ho1], ?_, ?_⟩
        · rw [ho2]; exact World.ownsRow_nil _ _ _ _
        · exact (((hb3.setCell (by simp) _).setCell (by simp) _).setCell (by simp) _).setCell (by simp) _
      | true =>
        rcases hNN with ⟨rfl, rfl⟩ | ⟨gn, cap, rfl, hcn⟩
        · have hnone : resAll s = none := by rw [HR.out]; rfl
          obtain ⟨ho1, ho2⟩ := out_none hnone
          go_wp2_with fail
          refine bodyPost_ret (v := .tuple #[.agg #[.int .i64 0, .int .i64 0, .int .i64 0, .slice none 0 0], .bool false]) (by simp [results, Tryd.results10, go_sem, x0, x1, x2, x3]) rfl ⟨.slice none 0 0, by rw [ho1], ?_, ?_⟩
          · rw [ho2]; exact World.ownsRow_nil _ _ _ _
          · exact (((hb3.setCell (by simp) _).setCell (by simp) _).setCell (by simp) _).setCell (by simp) _
        · by_cases h3 : ns2.length < 3
          · have h3' : (ns2.length : Int) < 3 := by omega
            have hnone : resAll s = none := by rw [HR.out, if_neg (by simp; omega)]
            clear hcn
            obtain ⟨ho1, ho2⟩ := out_none hnone
            go_wp2_with fail
            refine bodyPost_ret (v := .tuple #[.agg #[.int .i64 0, .int .i64 0, .int .i64 0, .slice none 0 0], .bool false]) (by simp [results, Tryd.results10, go_sem, x0, x1, x2, x3]) rfl ⟨.slice none 0 0, by rw [ho1], ?_, ?_⟩
            · rw [ho2]; exact World.ownsRow_nil _ _ _ _
            · exact (((hb3.setCell (by simp) _).setCell (by simp) _).setCell (by simp) _).setCell (by simp) _
          · have h3' : ¬ (ns2.length : Int) < 3 := by omega
            have hsome : resAll s = some (ns2, ps2) := by rw [HR.out, if_pos (by simp; omega)]
            have y0 := hcn 0 (by omega)
            have y1 := hcn 1 (by omega)
            have y2 := hcn 2 (by omega)
            obtain ⟨m0, hm0⟩ : ∃ m, m = ns2[0] := ⟨_, rfl⟩
            obtain ⟨m1, hm1⟩ : ∃ m, m = ns2[1] := ⟨_, rfl⟩
            obtain ⟨m2, hm2⟩ : ∃ m, m = ns2[2] := ⟨_, rfl⟩
            rw [← hm0] at y0
            rw [← hm1] at y1
            rw [← hm2] at y2
            have M0 : Hid (ns2.getD 0 0 = m0) := by show _ = _; rw [hm0]; simp [List.getD_eq_getElem?_getD, show 0 < ns2.length by omega]
            have M1 : Hid (ns2.getD 1 0 = m1) := by show _ = _; rw [hm1]; simp [List.getD_eq_getElem?_getD, show 1 < ns2.length by omega]
            have M2 : Hid (ns2.getD 2 0 = m2) := by show _ = _; rw [hm2]; simp [List.getD_eq_getElem?_getD, show 2 < ns2.length by omega]
            have i1 : (0 : Int) < (ns2.length : Int) := by omega
            have i2 : (1 : Int) < (ns2.length : Int) := by omega
            have i3 : (2 : Int) < (ns2.length : Int) := by omega
            clear hcn hm0 hm1 hm2 HR
            obtain ⟨pa, pn, pc, rfl⟩ : ∃ a n cap, vp = .slice a n cap := by rcases hPr.2 with ⟨rfl, _⟩ | ⟨g, cap, cur, rfl, _⟩ <;> exact ⟨_, _, _, rfl⟩
            have hgN : gn ≠ w.heap.size := by have := (hNr.lt gn rfl).1; omega
            have KEEP : Hid (∀ v0 v1 v2 v3, ((((w2.setCell ⟨w.heap.size, 0, none⟩ v0).setCell ⟨w.heap.size, 1, none⟩ v1).setCell ⟨w.heap.size, 2, none⟩ v2).setCell ⟨w.heap.size, 3, none⟩ v3).drew.cell? ⟨w.heap.size + 1, 1, none⟩ = some (.slice (some ⟨gn, 0, none⟩) ns2.length cap) ∧ ((((w2.setCell ⟨w.heap.size, 0, none⟩ v0).setCell ⟨w.heap.size, 1, none⟩ v1).setCell ⟨w.heap.size, 2, none⟩ v2).setCell ⟨w.heap.size, 3, none⟩ v3).drew.cell? ⟨w.heap.size + 1, 2, none⟩ = some (.slice pa pn pc) ∧ ((((w2.setCell ⟨w.heap.size, 0, none⟩ v0).setCell ⟨w.heap.size, 1, none⟩ v1).setCell ⟨w.heap.size, 2, none⟩ v2).setCell ⟨w.heap.size, 3, none⟩ v3).drew.cell? ⟨gn, 0, none⟩ = some (.int .i64 m0) ∧ ((((w2.setCell ⟨w.heap.size, 0, none⟩ v0).setCell ⟨w.heap.size, 1, none⟩ v1).setCell ⟨w.heap.size, 2, none⟩ v2).setCell ⟨w.heap.size, 3, none⟩ v3).drew.cell? ⟨gn, 1, none⟩ = some (.int .i64 m1) ∧ ((((w2.setCell ⟨w.heap.size, 0, none⟩ v0).setCell ⟨w.heap.size, 1, none⟩ v1).setCell ⟨w.heap.size, 2, none⟩ v2).setCell ⟨w.heap.size, 3, none⟩ v3).drew.cell? ⟨gn, 2, none⟩ = some (.int .i64 m2)) := fun v0 v1 v2 v3 => ⟨(far4 (Nat.succ_ne_self _)).trans k1, (far4 (Nat.succ_ne_self _)).trans k2, (far4 hgN).trans y0, (far4 hgN).trans y1, (far4 hgN).trans y2⟩
            go_wp2_with fail
            go_region_held (fun w' => w'.cell? ⟨w.heap.size + 1, 1, none⟩ = some (.slice (some ⟨gn, 0, none⟩) ns2.length cap) ∧ w'.cell? ⟨w.heap.size + 1, 2, none⟩ = some (.slice pa pn pc) ∧ w'.cell? ⟨gn, 0, none⟩ = some (.int .i64 m0) ∧ w'.cell? ⟨gn, 1, none⟩ = some (.int .i64 m1) ∧ w'.cell? ⟨gn, 2, none⟩ = some (.int .i64 m2)) (first | (with_reducible exact KEEP.out _ _ _ _) | go_keep) (fail)
            obtain ⟨ho1, ho2⟩ := out_some hsome (.slice pa pn pc)
            go_wp2_with fail
            refine bodyPost_ret (v := .tuple #[.agg #[.int .i64 m0, .int .i64 m1, .int .i64 m2, .slice pa pn pc], .bool true]) (by simp [results, Tryd.results10, go_sem, x0, x1, x2, x3]) rfl ⟨.slice pa pn pc, by rw [ho1, M0.out, M1.out, M2.out], ?_, ?_⟩
            · rw [ho2]
              have h4 := owns_set (owns_set (owns_set (owns_set hPr (p := ⟨w.heap.size, 0, none⟩) (by simp; omega) (.int .i64 m0)) (p := ⟨w.heap.size, 1, none⟩) (by simp; omega) (.int .i64 m1)) (p := ⟨w.heap.size, 2, none⟩) (by simp; omega) (.int .i64 m2)) (p := ⟨w.heap.size, 3, none⟩) (by simp; omega) (.slice pa pn pc)
              exact owns_lower h4 (by omega)
            · exact ((((hb3.setCell (by simp) _).setCell (by simp) _).setCell (by simp) _).setCell (by simp) _).drew
end Go.Proofs.YtdnpfkknnaepoaaDoor
