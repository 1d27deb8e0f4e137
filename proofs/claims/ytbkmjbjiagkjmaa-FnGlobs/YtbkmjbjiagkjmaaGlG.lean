/-
  Pieces gone through by names, the program's: the answer is as if all ways were tried; a contract for the walks; conditions: both lists lie in memory, at most 4 pieces, names of at most 2 to the 20 bytes.
-/
import Derived.Test.YtbkmjbjiagkjmaaGlF
import Derived.Deep.RegionHeld
import Derived.Handy
namespace Go.Proofs.Ytbkmjbjiagkjmaa
open Go.RowKit
set_option linter.unusedSimpArgs false
set_option linter.unusedVariables false

/-- What holds at the three labels (0: many, 1: look, 2: back). -/
def JP (w : World) (q : Option Addr) (gs : List ByteArray) (cap : Nat) (a : Option Addr) (zs : List ByteArray) (cap2 : Nat) (l n : Nat) (f : Act) (wr : World) : Prop :=
  ∃ (s t b tk : Nat) (seen : Bool) (x5 x6 x7 x8 : Value), FrS q gs.length cap a zs.length cap2 x5 x6 x7 x8 (.bool seen) f ∧ x5 = .int .i64 (s : Int) ∧ x6 = .int .i64 (t : Int) ∧ x7 = .int .i64 (b : Int) ∧ x8 = .int .i64 (tk : Int) ∧
    Inv manyT takesT gs zs s t b tk seen ∧ Below w.heap.size w wr ∧
    ((l = 1 ∧ n = 2 * goM gs.length zs.length s b tk + 1) ∨ (l = 0 ∧ n = 2 * goM gs.length zs.length s b tk ∧ ∃ g, gs[s]? = some g ∧ manyT g = true) ∨ (l = 2 ∧ n = 2 * goM gs.length zs.length s b tk ∧ F2 manyT takesT gs zs s t = false))

set_option maxHeartbeats 4000000 in
set_option maxRecDepth 100000 in
theorem goPieces_c (S : Nat → Prop) (v u : Value) (gs zs : List ByteArray) (w : World) (hv : PcsIn S w v gs) (hB : ∀ b, S b → b < w.heap.size) (hu : Reads w u (strsV zs)) (hz : ∀ y ∈ zs, y.size ≤ 1048576) (hn : zs.length ≤ 1048577) :
    Calls Try.prog 83 #[v, u] w fun e w' => e = .returned (.bool (fullG manyT takesT gs zs)) ∧ Below w.heap.size w w' := by
  obtain ⟨q, cap, rfl, hL, hcap, hq⟩ := hv
  obtain ⟨a, cap2, rfl, hcap2, hc2⟩ := reads_strs hu
  have HV : Hid (∀ w1, Below w.heap.size w w1 → ∀ k (h : k < gs.length), ∃ b off, q = some ⟨b, off, none⟩ ∧ b < w1.heap.size ∧ PceAt S w1 b (off + k * 2) gs[k]) := fun w1 hb k h => by
    rcases hq with rfl | ⟨b, off, rfl, hS, hc⟩
    · simp at h
    · have hlt := hB b hS
      obtain ⟨e0, v0, e1, e2⟩ := hc k h
      exact ⟨b, off, rfl, Nat.lt_of_lt_of_le hlt hb.size, (hb.cell (by simpa using hlt)).trans e0, v0, (hb.cell (by simpa using hlt)).trans e1, e2.keep (.of hb hB)⟩
  have HU : Hid (∀ w1, Below w.heap.size w w1 → ∀ k (h : k < zs.length), ∃ b off, a = some ⟨b, off, none⟩ ∧ b < w1.heap.size ∧ w1.cell? ⟨b, off + k, none⟩ = some (.string zs[k])) := fun w1 hb k h => by
    rcases hc2 with rfl | ⟨b, off, rfl, hlt, hc⟩
    · simp at h
    · exact ⟨b, off, rfl, Nat.lt_of_lt_of_le hlt hb.size, (hb.cell (by simpa using hlt)).trans (hc k h)⟩
  have HZ : Hid (∀ y ∈ zs, y.size ≤ 1048576) := hz
  have HBB : Hid (∀ w1, Below w.heap.size w w1 → ∀ b, S b → b < w1.heap.size) := fun w1 h b hb => Nat.lt_of_lt_of_le (hB b hb) h.size
  clear hq hc2 hu hz
  go_enter Try.func83, Try.ntmps83
  go_wp2_with fail
  refine wp_scope_three 0 2 1 (JP w q gs cap a zs cap2) rfl rfl rfl ?hl ?pa ?pb ?pc ?first
  case hl =>
    rintro l n f wr ⟨_, _, _, _, _, _, _, _, _, _, _, _, _, _, _, _, h⟩
    rcases h with ⟨h, _⟩ | ⟨h, _⟩ | ⟨h, _⟩
    · exact .inr (.inr h)
    · exact .inl h
    · exact .inr (.inl h)
  case pa =>
    rintro n f wr ⟨s, t, b, tk, seen, x5, x6, x7, x8, ⟨u10, u11, u12, u13, u14, u15, u16, u17, u18, u19, u20, u21, u22, u23, u24, u25, u26, u27, u28, u29, u30, u31, u32, u33, u34, u35, u36, u37, u38, u39, u40, u41, u42, u43, u44, u45, u46, u47, u48, u49, u50, u51, u52, u53, u54, u55, u56, u57, u58, u59, u60, u61, u62, u63, u64, u65, u66, u67, u68, u69, u70, u71, u72, u73, u74, rfl⟩, rfl, rfl, rfl, rfl, hinv, hbr, hcase⟩ H hH
    have HH : Hid (∀ l' n' a' w', n' < n → JP w q gs cap a zs cap2 l' n' a' w' → H l' a' w') := hH
    obtain ⟨hs1, ht1, hb1, hk1⟩ := inv_le hinv
    have HI : Hid (Inv manyT takesT gs zs s t b tk seen) := hinv
    clear hH hinv
    rcases hcase with ⟨h, _⟩ | ⟨_, hnn, g, hg, hgm⟩ | ⟨h, _⟩
    · cases h
    · have hsL : s < gs.length := (List.getElem?_eq_some_iff.1 hg).1
      have HJ := inv_many HI.out hg hgm
      have HN : Hid (n = 2 * goM gs.length zs.length s b tk) := hnn
      have HG : Hid (Inv manyT takesT gs zs (s + 1) t (s + 1) t true) := HJ
      clear hnn hg hgm HJ
      go_wp2_with fail
      go_step3
      show H 1 _ _
      exact HH.out 1 (2 * goM gs.length zs.length (s + 1) (s + 1) t + 1) _ _ (by have h1 := HN.out; have h2 := goM_many (L := gs.length) (n := zs.length) (tk := tk) (t := t) hb1 hsL; omega) ⟨s + 1, t, s + 1, t, true, _, _, _, _, ⟨_, _, _, _, _, _, _, _, _, _, _, _, _, _, _, _, _, _, _, _, _, _, _, _, _, _, _, _, _, _, _, _, _, _, _, _, _, _, _, _, _, _, _, _, _, _, _, _, _, _, _, _, _, _, _, _, _, _, _, _, _, _, _, _, _, rfl⟩, by go_num, by go_num, by go_num, by go_num, HG.out, hbr, .inl ⟨rfl, rfl⟩⟩
    · cases h
  case pb =>
    intro _
    rintro n f wr ⟨s, t, b, tk, seen, x5, x6, x7, x8, ⟨u10, u11, u12, u13, u14, u15, u16, u17, u18, u19, u20, u21, u22, u23, u24, u25, u26, u27, u28, u29, u30, u31, u32, u33, u34, u35, u36, u37, u38, u39, u40, u41, u42, u43, u44, u45, u46, u47, u48, u49, u50, u51, u52, u53, u54, u55, u56, u57, u58, u59, u60, u61, u62, u63, u64, u65, u66, u67, u68, u69, u70, u71, u72, u73, u74, rfl⟩, rfl, rfl, rfl, rfl, hinv, hbr, hcase⟩ H hH
    have HH : Hid (∀ l' n' a' w', n' < n → JP w q gs cap a zs cap2 l' n' a' w' → H l' a' w') := hH
    obtain ⟨hs1, ht1, hb1, hk1⟩ := inv_le hinv
    have HI : Hid (Inv manyT takesT gs zs s t b tk seen) := hinv
    clear hH hinv
    rcases hcase with ⟨h, _⟩ | ⟨h, _⟩ | ⟨_, hnn, hF⟩
    · cases h
    · cases h
    · have HN : Hid (n = 2 * goM gs.length zs.length s b tk) := hnn
      have HF : Hid (F2 manyT takesT gs zs s t = false) := hF
      clear hnn hF
      cases seen with
      | false =>
        go_wp2_with fail
        rw [jumpsTo_ret]
        go_ret
        exact ⟨by rw [inv_false HI.out HF.out (.inl rfl)]; rfl, hbr⟩
      | true =>
        by_cases hk : tk = zs.length
        · have hk' : ((tk : Int) == (zs.length : Int)) = true := by rw [beq_iff_eq]; omega
          have HE : Hid (fullG manyT takesT gs zs = false) := inv_false HI.out HF.out (.inr hk)
          clear hk
          go_wp2_with fail
          rw [jumpsTo_ret]
          go_ret
          exact ⟨by rw [HE.out]; rfl, hbr⟩
        · have hk' : ((tk : Int) == (zs.length : Int)) = false := by rw [beq_eq_false_iff_ne]; omega
          have hkl : tk < zs.length := by omega
          have HG : Hid (Inv manyT takesT gs zs b (tk + 1) b (tk + 1) true) := inv_back HI.out HF.out rfl hkl
          clear hk
          go_wp2_with fail
          go_step3
          show H 1 _ _
          exact HH.out 1 (2 * goM gs.length zs.length b b (tk + 1) + 1) _ _ (by have h1 := HN.out; have h2 := goM_back (L := gs.length) (s := s) (b := b) hkl; omega) ⟨b, tk + 1, b, tk + 1, true, _, _, _, _, ⟨_, _, _, _, _, _, _, _, _, _, _, _, _, _, _, _, _, _, _, _, _, _, _, _, _, _, _, _, _, _, _, _, _, _, _, _, _, _, _, _, _, _, _, _, _, _, _, _, _, _, _, _, _, _, _, _, _, _, _, _, _, _, _, _, _, rfl⟩, by go_num, by go_num, by go_num, by go_num, HG.out, hbr, .inl ⟨rfl, rfl⟩⟩
  case pc =>
    intro _ _
    rintro n f wr ⟨s, t, b, tk, seen, x5, x6, x7, x8, ⟨u10, u11, u12, u13, u14, u15, u16, u17, u18, u19, u20, u21, u22, u23, u24, u25, u26, u27, u28, u29, u30, u31, u32, u33, u34, u35, u36, u37, u38, u39, u40, u41, u42, u43, u44, u45, u46, u47, u48, u49, u50, u51, u52, u53, u54, u55, u56, u57, u58, u59, u60, u61, u62, u63, u64, u65, u66, u67, u68, u69, u70, u71, u72, u73, u74, rfl⟩, rfl, rfl, rfl, rfl, hinv, hbr, hcase⟩ H hH
    have HH : Hid (∀ l' n' a' w', n' < n → JP w q gs cap a zs cap2 l' n' a' w' → H l' a' w') := hH
    obtain ⟨hs1, ht1, hb1, hk1⟩ := inv_le hinv
    have HI : Hid (Inv manyT takesT gs zs s t b tk seen) := hinv
    clear hH hinv
    rcases hcase with ⟨_, hnn⟩ | ⟨h, _⟩ | ⟨h, _⟩
    rotate_left
    · cases h
    · cases h
    have HN : Hid (n = 2 * goM gs.length zs.length s b tk + 1) := hnn
    clear hnn
    by_cases hsL : s < gs.length
    · obtain ⟨bs, off, rfl, hbs, e0, v0, e1, hsg⟩ := HV.out wr hbr s hsL
      have hg : gs[s]? = some gs[s] := List.getElem?_eq_getElem hsL
      have hsi : (s : Int) < (gs.length : Int) := by omega
      have hse : ((s : Int) == (gs.length : Int)) = false := by rw [beq_eq_false_iff_ne]; omega
      obtain ⟨g, hge⟩ : ∃ g, g = gs[s] := ⟨_, rfl⟩
      rw [← hge] at e0 hsg hg
      have HGS : Hid (gs[s]? = some g) := hg
      have HSG : Hid (SgnsIn S wr v0 (sgnsOf g)) := hsg
      clear hge hg hsg
      obtain ⟨g0, hg0⟩ : ∃ g0, g0 = manyT g := ⟨_, rfl⟩
      rw [← hg0] at e0
      have HM : Hid (manyT g = g0) := hg0.symm
      clear hg0
      cases g0 with
      | true =>
        go_wp2_with (go_at_call 163; refine (pceMany_c _ _ _).mono ?_; rintro e w1 ⟨rfl, b1⟩; have k1 := hbr.trans (b1.mono hbr.size))
        go_step3
        show H 0 _ _
        exact HH.out 0 (2 * goM gs.length zs.length s b tk) _ _ (by have h1 := HN.out; omega) ⟨s, t, b, tk, seen, _, _, _, _, ⟨_, _, _, _, _, _, _, _, _, _, _, _, _, _, _, _, _, _, _, _, _, _, _, _, _, _, _, _, _, _, _, _, _, _, _, _, _, _, _, _, _, _, _, _, _, _, _, _, _, _, _, _, _, _, _, _, _, _, _, _, _, _, _, _, _, rfl⟩, by go_num, by go_num, by go_num, by go_num, HI.out, k1, .inr (.inl ⟨rfl, rfl, _, HGS.out, HM.out⟩)⟩
      | false =>
        by_cases ht : t = zs.length
        · have hte : ((t : Int) == (zs.length : Int)) = true := by rw [beq_iff_eq]; omega
          have HF : Hid (F2 manyT takesT gs zs s t = false) := F2_stop_none HGS.out HM.out ht
          clear ht
          go_wp2_with (go_at_call 163; refine (pceMany_c _ _ _).mono ?_; rintro e w1 ⟨rfl, b1⟩; have k1 := hbr.trans (b1.mono hbr.size))
          go_quiet (fail)
          go_wp2_with fail
          go_step3
          show H 2 _ _
          exact HH.out 2 (2 * goM gs.length zs.length s b tk) _ _ (by have h1 := HN.out; omega) ⟨s, t, b, tk, seen, _, _, _, _, ⟨_, _, _, _, _, _, _, _, _, _, _, _, _, _, _, _, _, _, _, _, _, _, _, _, _, _, _, _, _, _, _, _, _, _, _, _, _, _, _, _, _, _, _, _, _, _, _, _, _, _, _, _, _, _, _, _, _, _, _, _, _, _, _, _, _, rfl⟩, by go_num, by go_num, by go_num, by go_num, HI.out, below_drewN' k1 _, .inr (.inr ⟨rfl, rfl, HF.out⟩)⟩
        · have hte : ((t : Int) == (zs.length : Int)) = false := by rw [beq_eq_false_iff_ne]; omega
          have htl : t < zs.length := by omega
          have hti : (t : Int) < (zs.length : Int) := by omega
          obtain ⟨bz, offz, rfl, hbz, f0⟩ := HU.out wr hbr t htl
          have hx : zs[t]? = some zs[t] := List.getElem?_eq_getElem htl
          have hc0 := HZ.out _ (List.getElem_mem htl)
          obtain ⟨c, hce⟩ : ∃ c, c = zs[t] := ⟨_, rfl⟩
          rw [← hce] at f0 hx hc0
          have HX : Hid (zs[t]? = some c) := hx
          obtain ⟨r, hr⟩ : ∃ r, r = takesT g c := ⟨_, rfl⟩
          have HR : Hid (takesT g c = r) := hr.symm
          have HTW : Hid (∀ w1 w2, Below wr.heap.size wr w1 → Below w1.heap.size w1 w2 → Calls Try.prog 162 #[.agg #[.bool false, v0], .string c] w2 fun e w' => e = .returned (.bool r) ∧ Below w2.heap.size w2 w') := fun w1 w2 h1 h2 => by
            have h := h1.trans (h2.mono h1.size)
            rw [hr]
            exact pceTakes_c S false v0 _ c w2 (HSG.out.keep (.of h (HBB.out wr hbr))) (fun b hb => Nat.lt_of_lt_of_le (HBB.out wr hbr b hb) h.size) hc0
          have KEEPW : Hid (∀ w1 w2, Below wr.heap.size wr w1 → Below w1.heap.size w1 w2 → w2.cell? ⟨bs, off + s * 2, none⟩ = some (.bool false) ∧ w2.cell? ⟨bs, off + s * 2 + 1, none⟩ = some v0 ∧ w2.cell? ⟨bz, offz + t, none⟩ = some (.string c)) := fun w1 w2 h1 h2 => by
            have h := h1.trans (h2.mono h1.size)
            exact ⟨(h.cell (by simpa using hbs)).trans e0, (h.cell (by simpa using hbs)).trans e1, (h.cell (by simpa using hbz)).trans f0⟩
          clear hce hx hr ht f0
          go_wp2_with (go_at_call 163; refine (pceMany_c _ _ _).mono ?_; rintro e w1 ⟨rfl, b1⟩; have k1 := hbr.trans (b1.mono hbr.size))
          have KEEP : Hid (∀ w2, Below w1.heap.size w1 w2 → w2.cell? ⟨bs, off + s * 2, none⟩ = some (.bool false) ∧ w2.cell? ⟨bs, off + s * 2 + 1, none⟩ = some v0 ∧ w2.cell? ⟨bz, offz + t, none⟩ = some (.string c)) := fun w2 h => KEEPW.out w1 w2 b1 h
          have hd0 : Below w1.heap.size w1 w1.drew := (Below.refl _ _).drew
          have HT : Hid (∀ w2, Below w1.heap.size w1 w2 → Calls Try.prog 162 #[.agg #[.bool false, v0], .string c] w2 fun e w' => e = .returned (.bool r) ∧ Below w2.heap.size w2 w') := fun w2 h => HTW.out w1 w2 b1 h
          clear e0 e1 KEEPW HTW
          have k2 : Hid (∀ w2, Below w1.heap.size w1 w2 → Below w.heap.size w w2) := fun w2 h => k1.trans (h.mono k1.size)
          cases r with
          | true =>
            refine wp_region_held_drew (S := (fun w' => w'.cell? ⟨bs, off + s * 2, none⟩ = some (.bool false) ∧ w'.cell? ⟨bs, off + s * 2 + 1, none⟩ = some v0 ∧ w'.cell? ⟨bz, offz + t, none⟩ = some (.string c))) (by kernel_rfl) ?SR10 (fun hHeld => ?_)
            case SR10 => (first | (with_reducible exact KEEP.out _ hd0) | (with_reducible exact KEEP.out _ hd1))
            refine wpAnyH_take (i := 0) (oi := _) (v := ?vR10) rfl (by kernel_rfl) (by kernel_rfl) (by kernel_rfl) (fun _ _ _ h => h) (Or.inl ⟨by rfl, ?yR10⟩) hHeld ?_
            case yR10 => (intro w hSw; (try dsimp only at hSw); go_simp <;> with_reducible rfl)
            try simp only [Act.put, List.getElem_toArray, List.getElem_cons_zero, List.getElem_cons_succ, List.setIfInBounds_toArray, List.set_cons_zero, List.set_cons_succ]
            refine wpAnyH_take (i := 1) (oi := _) (v := ?vR11) rfl (by kernel_rfl) (by kernel_rfl) (by kernel_rfl) (fun _ _ _ h => h) (Or.inl ⟨by rfl, ?yR11⟩) hHeld ?_
            case yR11 => (intro w hSw; (try dsimp only at hSw); go_simp <;> with_reducible rfl)
            try simp only [Act.put, List.getElem_toArray, List.getElem_cons_zero, List.getElem_cons_succ, List.setIfInBounds_toArray, List.set_cons_zero, List.set_cons_succ]
            refine wpAnyH_take (i := 2) (oi := _) (v := ?vR12) rfl (by kernel_rfl) (by kernel_rfl) (by kernel_rfl) (fun _ _ _ h => h) (Or.inl ⟨by rfl, ?yR12⟩) hHeld ?_
            case yR12 => (intro w hSw; (try dsimp only at hSw); go_simp <;> with_reducible rfl)
            try simp only [Act.put, List.getElem_toArray, List.getElem_cons_zero, List.getElem_cons_succ, List.setIfInBounds_toArray, List.set_cons_zero, List.set_cons_succ]
            refine wpAnyH_take (i := 3) (oi := _) (v := ?vR13) rfl (by kernel_rfl) (by kernel_rfl) (by kernel_rfl) (fun _ _ _ h => h) (Or.inl ⟨by rfl, ?yR13⟩) hHeld ?_
            case yR13 => (intro w hSw; (try dsimp only at hSw); go_simp <;> with_reducible rfl)
            try simp only [Act.put, List.getElem_toArray, List.getElem_cons_zero, List.getElem_cons_succ, List.setIfInBounds_toArray, List.set_cons_zero, List.set_cons_succ]
            refine wpAnyH_take (i := 4) (oi := _) (v := ?vR14) rfl (by kernel_rfl) (by kernel_rfl) (by kernel_rfl) (fun _ _ _ h => h) (Or.inl ⟨by rfl, ?yR14⟩) hHeld ?_
            case yR14 => (intro w hSw; (try dsimp only at hSw); go_simp <;> with_reducible rfl)
            try simp only [Act.put, List.getElem_toArray, List.getElem_cons_zero, List.getElem_cons_succ, List.setIfInBounds_toArray, List.set_cons_zero, List.set_cons_succ]
            refine wpAnyH_take (i := 5) (oi := _) (v := ?vR15) rfl (by kernel_rfl) (by kernel_rfl) (by kernel_rfl) (fun _ _ _ h => h) (Or.inl ⟨by rfl, ?yR15⟩) hHeld ?_
            case yR15 => (intro w hSw; (try dsimp only at hSw); go_simp <;> with_reducible rfl)
            try simp only [Act.put, List.getElem_toArray, List.getElem_cons_zero, List.getElem_cons_succ, List.setIfInBounds_toArray, List.set_cons_zero, List.set_cons_succ]
            refine wpAnyH_take (i := 6) (oi := _) (v := ?vR16) rfl (by kernel_rfl) (by kernel_rfl) (by kernel_rfl) (fun _ _ _ h => h) (Or.inl ⟨by rfl, ?yR16⟩) hHeld ?_
            case yR16 => (intro w hSw; (try dsimp only at hSw); go_simp <;> with_reducible rfl)
            try simp only [Act.put, List.getElem_toArray, List.getElem_cons_zero, List.getElem_cons_succ, List.setIfInBounds_toArray, List.set_cons_zero, List.set_cons_succ]
            refine wpAnyH_take (i := 7) (oi := _) (v := ?vR17) rfl (by kernel_rfl) (by kernel_rfl) (by kernel_rfl) (fun _ _ _ h => h) (Or.inl ⟨by rfl, ?yR17⟩) hHeld ?_
            case yR17 => (intro w hSw; (try dsimp only at hSw); go_simp <;> with_reducible rfl)
            try simp only [Act.put, List.getElem_toArray, List.getElem_cons_zero, List.getElem_cons_succ, List.setIfInBounds_toArray, List.set_cons_zero, List.set_cons_succ]
            refine wpAnyH_take (i := 8) (oi := _) (v := ?vR18) rfl (by kernel_rfl) (by kernel_rfl) (by kernel_rfl) (fun _ _ _ h => h) (Or.inl ⟨by rfl, ?yR18⟩) hHeld ?_
            case yR18 => (intro w hSw; (try dsimp only at hSw); go_simp <;> with_reducible rfl)
            try simp only [Act.put, List.getElem_toArray, List.getElem_cons_zero, List.getElem_cons_succ, List.setIfInBounds_toArray, List.set_cons_zero, List.set_cons_succ]
            refine wpAnyH_take (i := 9) (oi := _) (v := ?vR19) rfl (by kernel_rfl) (by kernel_rfl) (by kernel_rfl) (fun _ _ _ h => h) (Or.inl ⟨by rfl, ?yR19⟩) hHeld ?_
            case yR19 => (intro w hSw; (try dsimp only at hSw); go_simp <;> with_reducible rfl)
            try simp only [Act.put, List.getElem_toArray, List.getElem_cons_zero, List.getElem_cons_succ, List.setIfInBounds_toArray, List.set_cons_zero, List.set_cons_succ]
            refine wpAnyH_take (i := 10) (oi := _) (v := ?vR110) rfl (by kernel_rfl) (by kernel_rfl) (by kernel_rfl) (fun _ _ _ h => h) (Or.inl ⟨by rfl, ?yR110⟩) hHeld ?_
            case yR110 => (intro w hSw; (try dsimp only at hSw); go_simp <;> with_reducible rfl)
            try simp only [Act.put, List.getElem_toArray, List.getElem_cons_zero, List.getElem_cons_succ, List.setIfInBounds_toArray, List.set_cons_zero, List.set_cons_succ]
            refine wpAnyH_take (i := 11) (oi := _) (v := ?vR111) rfl (by kernel_rfl) (by kernel_rfl) (by kernel_rfl) (fun _ _ _ h => h) (Or.inl ⟨by rfl, ?yR111⟩) hHeld ?_
            case yR111 => (intro w hSw; (try dsimp only at hSw); go_simp <;> with_reducible rfl)
            try simp only [Act.put, List.getElem_toArray, List.getElem_cons_zero, List.getElem_cons_succ, List.setIfInBounds_toArray, List.set_cons_zero, List.set_cons_succ]
            refine wpAnyH_take (i := 12) (oi := _) (v := ?vR112) rfl (by kernel_rfl) (by kernel_rfl) (by kernel_rfl) (fun _ _ _ h => h) (Or.inl ⟨by rfl, ?yR112⟩) hHeld ?_
            case yR112 => (intro w hSw; (try dsimp only at hSw); go_simp <;> with_reducible rfl)
            try simp only [Act.put, List.getElem_toArray, List.getElem_cons_zero, List.getElem_cons_succ, List.setIfInBounds_toArray, List.set_cons_zero, List.set_cons_succ]
            refine wpAnyH_take (i := 13) (oi := _) (v := ?vR113) rfl (by kernel_rfl) (by kernel_rfl) (by kernel_rfl) (fun _ _ _ h => h) (Or.inl ⟨by rfl, ?yR113⟩) hHeld ?_
            case yR113 => (intro w hSw; (try dsimp only at hSw); go_simp <;> with_reducible rfl)
            try simp only [Act.put, List.getElem_toArray, List.getElem_cons_zero, List.getElem_cons_succ, List.setIfInBounds_toArray, List.set_cons_zero, List.set_cons_succ]
            refine wpAnyH_take (i := 14) (oi := _) (v := ?vR114) rfl (by kernel_rfl) (by kernel_rfl) (by kernel_rfl) (fun _ _ _ h => h) (Or.inl ⟨by rfl, ?yR114⟩) hHeld ?_
            case yR114 => (intro w hSw; (try dsimp only at hSw); go_simp <;> with_reducible rfl)
            try simp only [Act.put, List.getElem_toArray, List.getElem_cons_zero, List.getElem_cons_succ, List.setIfInBounds_toArray, List.set_cons_zero, List.set_cons_succ]
            refine wpAnyH_take (i := 15) (oi := _) (v := ?vR115) rfl (by kernel_rfl) (by kernel_rfl) (by kernel_rfl) (fun _ _ _ h => h) (Or.inl ⟨by rfl, ?yR115⟩) hHeld ?_
            case yR115 => (intro w hSw; (try dsimp only at hSw); go_simp <;> with_reducible rfl)
            try simp only [Act.put, List.getElem_toArray, List.getElem_cons_zero, List.getElem_cons_succ, List.setIfInBounds_toArray, List.set_cons_zero, List.set_cons_succ]
            refine wpAnyH_take (i := 16) (oi := _) (v := ?vR116) rfl (by kernel_rfl) (by kernel_rfl) (by kernel_rfl) (fun _ _ _ h => h) (Or.inl ⟨by rfl, ?yR116⟩) hHeld ?_
            case yR116 => (intro w hSw; (try dsimp only at hSw); go_simp <;> with_reducible rfl)
            try simp only [Act.put, List.getElem_toArray, List.getElem_cons_zero, List.getElem_cons_succ, List.setIfInBounds_toArray, List.set_cons_zero, List.set_cons_succ]
            refine wpAnyH_take (i := 17) (oi := _) (v := ?vR117) rfl (by kernel_rfl) (by kernel_rfl) (by kernel_rfl) (fun _ _ _ h => h) (Or.inl ⟨by rfl, ?yR117⟩) hHeld ?_
            case yR117 => (intro w hSw; (try dsimp only at hSw); go_simp <;> with_reducible rfl)
            try simp only [Act.put, List.getElem_toArray, List.getElem_cons_zero, List.getElem_cons_succ, List.setIfInBounds_toArray, List.set_cons_zero, List.set_cons_succ]
            refine wpAnyH_take (i := 18) (oi := _) (v := ?vR118) rfl (by kernel_rfl) (by kernel_rfl) (by kernel_rfl) (fun _ _ _ h => h) (Or.inl ⟨by rfl, ?yR118⟩) hHeld ?_
            case yR118 => (intro w hSw; (try dsimp only at hSw); go_simp <;> with_reducible rfl)
            try simp only [Act.put, List.getElem_toArray, List.getElem_cons_zero, List.getElem_cons_succ, List.setIfInBounds_toArray, List.set_cons_zero, List.set_cons_succ]
            refine wpAnyH_take (i := 19) (oi := _) (v := ?vR119) rfl (by kernel_rfl) (by kernel_rfl) (by kernel_rfl) (fun _ _ _ h => h) (Or.inl ⟨by rfl, ?yR119⟩) hHeld ?_
            case yR119 => (intro w hSw; (try dsimp only at hSw); go_simp <;> with_reducible rfl)
            try simp only [Act.put, List.getElem_toArray, List.getElem_cons_zero, List.getElem_cons_succ, List.setIfInBounds_toArray, List.set_cons_zero, List.set_cons_succ]
            refine wpAnyH_ready (rs := [20]) (by kernel_rfl) (by simp) ?_
            refine AllReadyH.cons rfl (fun K hK => ?_) AllReadyH.nil
            go_simp
            go_wp2_with (go_at_call 162; refine (HT.out _ hd0).mono ?_; rintro e w2 ⟨rfl, b2⟩; have hd1 : Below w1.heap.size w1 w2 := hd0.trans (b2.mono hd0.size))
            clear hHeld
            refine hK.out _ _ ?SR121 (fun hHeld => ?_)
            case SR121 => ((try dsimp only); first | (with_reducible exact KEEP.out _ hd0) | (with_reducible exact KEEP.out _ hd1))
            clear hK K
            refine wpAnyH_take (i := 21) (oi := _) (v := ?vR121) rfl (by kernel_rfl) (by kernel_rfl) (by kernel_rfl) (fun _ _ _ h => h) (Or.inl ⟨by rfl, ?yR121⟩) hHeld ?_
            case yR121 => (intro w hSw; (try dsimp only at hSw); go_simp <;> with_reducible rfl)
            try simp only [Act.put, List.getElem_toArray, List.getElem_cons_zero, List.getElem_cons_succ, List.setIfInBounds_toArray, List.set_cons_zero, List.set_cons_succ]
            refine wpAnyH_take (i := 22) (oi := _) (v := ?vR122) rfl (by kernel_rfl) (by kernel_rfl) (by kernel_rfl) (fun _ _ _ h => h) (Or.inl ⟨by rfl, ?yR122⟩) hHeld ?_
            case yR122 => (intro w hSw; (try dsimp only at hSw); go_simp <;> with_reducible rfl)
            try simp only [Act.put, List.getElem_toArray, List.getElem_cons_zero, List.getElem_cons_succ, List.setIfInBounds_toArray, List.set_cons_zero, List.set_cons_succ]
            refine wpAnyH_done (by kernel_rfl) ?_ _
            go_wp2_with fail
            go_step3
            show H 1 _ _
            exact HH.out 1 (2 * goM gs.length zs.length (s + 1) b tk + 1) _ _ (by have h1 := HN.out; have h2 := goM_next (n := zs.length) (b := b) (tk := tk) hsL; omega) ⟨s + 1, t + 1, b, tk, seen, _, _, _, _, ⟨_, _, _, _, _, _, _, _, _, _, _, _, _, _, _, _, _, _, _, _, _, _, _, _, _, _, _, _, _, _, _, _, _, _, _, _, _, _, _, _, _, _, _, _, _, _, _, _, _, _, _, _, _, _, _, _, _, _, _, _, _, _, _, _, _, rfl⟩, by go_num, by go_num, by go_num, by go_num, inv_next HI.out HGS.out HM.out HX.out HR.out, k2.out _ hd1, .inl ⟨rfl, rfl⟩⟩
          | false =>
            refine wp_region_held_drew (S := (fun w' => w'.cell? ⟨bs, off + s * 2, none⟩ = some (.bool false) ∧ w'.cell? ⟨bs, off + s * 2 + 1, none⟩ = some v0 ∧ w'.cell? ⟨bz, offz + t, none⟩ = some (.string c))) (by kernel_rfl) ?SR20 (fun hHeld => ?_)
            case SR20 => (first | (with_reducible exact KEEP.out _ hd0) | (with_reducible exact KEEP.out _ hd1))
            refine wpAnyH_take (i := 0) (oi := _) (v := ?vR20) rfl (by kernel_rfl) (by kernel_rfl) (by kernel_rfl) (fun _ _ _ h => h) (Or.inl ⟨by rfl, ?yR20⟩) hHeld ?_
            case yR20 => (intro w hSw; (try dsimp only at hSw); go_simp <;> with_reducible rfl)
            try simp only [Act.put, List.getElem_toArray, List.getElem_cons_zero, List.getElem_cons_succ, List.setIfInBounds_toArray, List.set_cons_zero, List.set_cons_succ]
            refine wpAnyH_take (i := 1) (oi := _) (v := ?vR21) rfl (by kernel_rfl) (by kernel_rfl) (by kernel_rfl) (fun _ _ _ h => h) (Or.inl ⟨by rfl, ?yR21⟩) hHeld ?_
            case yR21 => (intro w hSw; (try dsimp only at hSw); go_simp <;> with_reducible rfl)
            try simp only [Act.put, List.getElem_toArray, List.getElem_cons_zero, List.getElem_cons_succ, List.setIfInBounds_toArray, List.set_cons_zero, List.set_cons_succ]
            refine wpAnyH_take (i := 2) (oi := _) (v := ?vR22) rfl (by kernel_rfl) (by kernel_rfl) (by kernel_rfl) (fun _ _ _ h => h) (Or.inl ⟨by rfl, ?yR22⟩) hHeld ?_
            case yR22 => (intro w hSw; (try dsimp only at hSw); go_simp <;> with_reducible rfl)
            try simp only [Act.put, List.getElem_toArray, List.getElem_cons_zero, List.getElem_cons_succ, List.setIfInBounds_toArray, List.set_cons_zero, List.set_cons_succ]
            refine wpAnyH_take (i := 3) (oi := _) (v := ?vR23) rfl (by kernel_rfl) (by kernel_rfl) (by kernel_rfl) (fun _ _ _ h => h) (Or.inl ⟨by rfl, ?yR23⟩) hHeld ?_
            case yR23 => (intro w hSw; (try dsimp only at hSw); go_simp <;> with_reducible rfl)
            try simp only [Act.put, List.getElem_toArray, List.getElem_cons_zero, List.getElem_cons_succ, List.setIfInBounds_toArray, List.set_cons_zero, List.set_cons_succ]
            refine wpAnyH_take (i := 4) (oi := _) (v := ?vR24) rfl (by kernel_rfl) (by kernel_rfl) (by kernel_rfl) (fun _ _ _ h => h) (Or.inl ⟨by rfl, ?yR24⟩) hHeld ?_
            case yR24 => (intro w hSw; (try dsimp only at hSw); go_simp <;> with_reducible rfl)
            try simp only [Act.put, List.getElem_toArray, List.getElem_cons_zero, List.getElem_cons_succ, List.setIfInBounds_toArray, List.set_cons_zero, List.set_cons_succ]
            refine wpAnyH_take (i := 5) (oi := _) (v := ?vR25) rfl (by kernel_rfl) (by kernel_rfl) (by kernel_rfl) (fun _ _ _ h => h) (Or.inl ⟨by rfl, ?yR25⟩) hHeld ?_
            case yR25 => (intro w hSw; (try dsimp only at hSw); go_simp <;> with_reducible rfl)
            try simp only [Act.put, List.getElem_toArray, List.getElem_cons_zero, List.getElem_cons_succ, List.setIfInBounds_toArray, List.set_cons_zero, List.set_cons_succ]
            refine wpAnyH_take (i := 6) (oi := _) (v := ?vR26) rfl (by kernel_rfl) (by kernel_rfl) (by kernel_rfl) (fun _ _ _ h => h) (Or.inl ⟨by rfl, ?yR26⟩) hHeld ?_
            case yR26 => (intro w hSw; (try dsimp only at hSw); go_simp <;> with_reducible rfl)
            try simp only [Act.put, List.getElem_toArray, List.getElem_cons_zero, List.getElem_cons_succ, List.setIfInBounds_toArray, List.set_cons_zero, List.set_cons_succ]
            refine wpAnyH_take (i := 7) (oi := _) (v := ?vR27) rfl (by kernel_rfl) (by kernel_rfl) (by kernel_rfl) (fun _ _ _ h => h) (Or.inl ⟨by rfl, ?yR27⟩) hHeld ?_
            case yR27 => (intro w hSw; (try dsimp only at hSw); go_simp <;> with_reducible rfl)
            try simp only [Act.put, List.getElem_toArray, List.getElem_cons_zero, List.getElem_cons_succ, List.setIfInBounds_toArray, List.set_cons_zero, List.set_cons_succ]
            refine wpAnyH_take (i := 8) (oi := _) (v := ?vR28) rfl (by kernel_rfl) (by kernel_rfl) (by kernel_rfl) (fun _ _ _ h => h) (Or.inl ⟨by rfl, ?yR28⟩) hHeld ?_
            case yR28 => (intro w hSw; (try dsimp only at hSw); go_simp <;> with_reducible rfl)
            try simp only [Act.put, List.getElem_toArray, List.getElem_cons_zero, List.getElem_cons_succ, List.setIfInBounds_toArray, List.set_cons_zero, List.set_cons_succ]
            refine wpAnyH_take (i := 9) (oi := _) (v := ?vR29) rfl (by kernel_rfl) (by kernel_rfl) (by kernel_rfl) (fun _ _ _ h => h) (Or.inl ⟨by rfl, ?yR29⟩) hHeld ?_
            case yR29 => (intro w hSw; (try dsimp only at hSw); go_simp <;> with_reducible rfl)
            try simp only [Act.put, List.getElem_toArray, List.getElem_cons_zero, List.getElem_cons_succ, List.setIfInBounds_toArray, List.set_cons_zero, List.set_cons_succ]
            refine wpAnyH_take (i := 10) (oi := _) (v := ?vR210) rfl (by kernel_rfl) (by kernel_rfl) (by kernel_rfl) (fun _ _ _ h => h) (Or.inl ⟨by rfl, ?yR210⟩) hHeld ?_
            case yR210 => (intro w hSw; (try dsimp only at hSw); go_simp <;> with_reducible rfl)
            try simp only [Act.put, List.getElem_toArray, List.getElem_cons_zero, List.getElem_cons_succ, List.setIfInBounds_toArray, List.set_cons_zero, List.set_cons_succ]
            refine wpAnyH_take (i := 11) (oi := _) (v := ?vR211) rfl (by kernel_rfl) (by kernel_rfl) (by kernel_rfl) (fun _ _ _ h => h) (Or.inl ⟨by rfl, ?yR211⟩) hHeld ?_
            case yR211 => (intro w hSw; (try dsimp only at hSw); go_simp <;> with_reducible rfl)
            try simp only [Act.put, List.getElem_toArray, List.getElem_cons_zero, List.getElem_cons_succ, List.setIfInBounds_toArray, List.set_cons_zero, List.set_cons_succ]
            refine wpAnyH_take (i := 12) (oi := _) (v := ?vR212) rfl (by kernel_rfl) (by kernel_rfl) (by kernel_rfl) (fun _ _ _ h => h) (Or.inl ⟨by rfl, ?yR212⟩) hHeld ?_
            case yR212 => (intro w hSw; (try dsimp only at hSw); go_simp <;> with_reducible rfl)
            try simp only [Act.put, List.getElem_toArray, List.getElem_cons_zero, List.getElem_cons_succ, List.setIfInBounds_toArray, List.set_cons_zero, List.set_cons_succ]
            refine wpAnyH_take (i := 13) (oi := _) (v := ?vR213) rfl (by kernel_rfl) (by kernel_rfl) (by kernel_rfl) (fun _ _ _ h => h) (Or.inl ⟨by rfl, ?yR213⟩) hHeld ?_
            case yR213 => (intro w hSw; (try dsimp only at hSw); go_simp <;> with_reducible rfl)
            try simp only [Act.put, List.getElem_toArray, List.getElem_cons_zero, List.getElem_cons_succ, List.setIfInBounds_toArray, List.set_cons_zero, List.set_cons_succ]
            refine wpAnyH_take (i := 14) (oi := _) (v := ?vR214) rfl (by kernel_rfl) (by kernel_rfl) (by kernel_rfl) (fun _ _ _ h => h) (Or.inl ⟨by rfl, ?yR214⟩) hHeld ?_
            case yR214 => (intro w hSw; (try dsimp only at hSw); go_simp <;> with_reducible rfl)
            try simp only [Act.put, List.getElem_toArray, List.getElem_cons_zero, List.getElem_cons_succ, List.setIfInBounds_toArray, List.set_cons_zero, List.set_cons_succ]
            refine wpAnyH_take (i := 15) (oi := _) (v := ?vR215) rfl (by kernel_rfl) (by kernel_rfl) (by kernel_rfl) (fun _ _ _ h => h) (Or.inl ⟨by rfl, ?yR215⟩) hHeld ?_
            case yR215 => (intro w hSw; (try dsimp only at hSw); go_simp <;> with_reducible rfl)
            try simp only [Act.put, List.getElem_toArray, List.getElem_cons_zero, List.getElem_cons_succ, List.setIfInBounds_toArray, List.set_cons_zero, List.set_cons_succ]
            refine wpAnyH_take (i := 16) (oi := _) (v := ?vR216) rfl (by kernel_rfl) (by kernel_rfl) (by kernel_rfl) (fun _ _ _ h => h) (Or.inl ⟨by rfl, ?yR216⟩) hHeld ?_
            case yR216 => (intro w hSw; (try dsimp only at hSw); go_simp <;> with_reducible rfl)
            try simp only [Act.put, List.getElem_toArray, List.getElem_cons_zero, List.getElem_cons_succ, List.setIfInBounds_toArray, List.set_cons_zero, List.set_cons_succ]
            refine wpAnyH_take (i := 17) (oi := _) (v := ?vR217) rfl (by kernel_rfl) (by kernel_rfl) (by kernel_rfl) (fun _ _ _ h => h) (Or.inl ⟨by rfl, ?yR217⟩) hHeld ?_
            case yR217 => (intro w hSw; (try dsimp only at hSw); go_simp <;> with_reducible rfl)
            try simp only [Act.put, List.getElem_toArray, List.getElem_cons_zero, List.getElem_cons_succ, List.setIfInBounds_toArray, List.set_cons_zero, List.set_cons_succ]
            refine wpAnyH_take (i := 18) (oi := _) (v := ?vR218) rfl (by kernel_rfl) (by kernel_rfl) (by kernel_rfl) (fun _ _ _ h => h) (Or.inl ⟨by rfl, ?yR218⟩) hHeld ?_
            case yR218 => (intro w hSw; (try dsimp only at hSw); go_simp <;> with_reducible rfl)
            try simp only [Act.put, List.getElem_toArray, List.getElem_cons_zero, List.getElem_cons_succ, List.setIfInBounds_toArray, List.set_cons_zero, List.set_cons_succ]
            refine wpAnyH_take (i := 19) (oi := _) (v := ?vR219) rfl (by kernel_rfl) (by kernel_rfl) (by kernel_rfl) (fun _ _ _ h => h) (Or.inl ⟨by rfl, ?yR219⟩) hHeld ?_
            case yR219 => (intro w hSw; (try dsimp only at hSw); go_simp <;> with_reducible rfl)
            try simp only [Act.put, List.getElem_toArray, List.getElem_cons_zero, List.getElem_cons_succ, List.setIfInBounds_toArray, List.set_cons_zero, List.set_cons_succ]
            refine wpAnyH_ready (rs := [20]) (by kernel_rfl) (by simp) ?_
            refine AllReadyH.cons rfl (fun K hK => ?_) AllReadyH.nil
            go_simp
            go_wp2_with (go_at_call 162; refine (HT.out _ hd0).mono ?_; rintro e w2 ⟨rfl, b2⟩; have hd1 : Below w1.heap.size w1 w2 := hd0.trans (b2.mono hd0.size))
            clear hHeld
            refine hK.out _ _ ?SR221 (fun hHeld => ?_)
            case SR221 => ((try dsimp only); first | (with_reducible exact KEEP.out _ hd0) | (with_reducible exact KEEP.out _ hd1))
            clear hK K
            refine wpAnyH_take (i := 21) (oi := _) (v := ?vR221) rfl (by kernel_rfl) (by kernel_rfl) (by kernel_rfl) (fun _ _ _ h => h) (Or.inl ⟨by rfl, ?yR221⟩) hHeld ?_
            case yR221 => (intro w hSw; (try dsimp only at hSw); go_simp <;> with_reducible rfl)
            try simp only [Act.put, List.getElem_toArray, List.getElem_cons_zero, List.getElem_cons_succ, List.setIfInBounds_toArray, List.set_cons_zero, List.set_cons_succ]
            refine wpAnyH_take (i := 22) (oi := _) (v := ?vR222) rfl (by kernel_rfl) (by kernel_rfl) (by kernel_rfl) (fun _ _ _ h => h) (Or.inl ⟨by rfl, ?yR222⟩) hHeld ?_
            case yR222 => (intro w hSw; (try dsimp only at hSw); go_simp <;> with_reducible rfl)
            try simp only [Act.put, List.getElem_toArray, List.getElem_cons_zero, List.getElem_cons_succ, List.setIfInBounds_toArray, List.set_cons_zero, List.set_cons_succ]
            refine wpAnyH_done (by kernel_rfl) ?_ _
            go_wp2_with fail
            go_step3
            show H 2 _ _
            exact HH.out 2 (2 * goM gs.length zs.length s b tk) _ _ (by have h1 := HN.out; omega) ⟨s, t, b, tk, seen, _, _, _, _, ⟨_, _, _, _, _, _, _, _, _, _, _, _, _, _, _, _, _, _, _, _, _, _, _, _, _, _, _, _, _, _, _, _, _, _, _, _, _, _, _, _, _, _, _, _, _, _, _, _, _, _, _, _, _, _, _, _, _, _, _, _, _, _, _, _, _, rfl⟩, by go_num, by go_num, by go_num, by go_num, HI.out, k2.out _ hd1, .inr (.inr ⟨rfl, rfl, F2_stop_not HGS.out HM.out HX.out HR.out⟩)⟩
    · have hse : s = gs.length := by omega
      have hsi : ¬ (s : Int) < (gs.length : Int) := by omega
      have hse' : ((s : Int) == (gs.length : Int)) = true := by rw [beq_iff_eq]; omega
      by_cases ht : t = zs.length
      · have hte : ((t : Int) == (zs.length : Int)) = true := by rw [beq_iff_eq]; omega
        have HE : Hid (fullG manyT takesT gs zs = true) := inv_true HI.out hse ht
        clear hse ht hsL
        go_wp2_with fail
        rw [jumpsTo_ret]
        go_ret
        exact ⟨by rw [HE.out]; rfl, hbr⟩
      · have hte : ((t : Int) == (zs.length : Int)) = false := by rw [beq_eq_false_iff_ne]; omega
        have HF : Hid (F2 manyT takesT gs zs s t = false) := F2_stop_end hse ht1 ht
        clear hse ht hsL
        go_wp2_with fail
        go_quiet (fail)
        go_wp2_with fail
        go_step3
        show H 2 _ _
        exact HH.out 2 (2 * goM gs.length zs.length s b tk) _ _ (by have h1 := HN.out; omega) ⟨s, t, b, tk, seen, _, _, _, _, ⟨_, _, _, _, _, _, _, _, _, _, _, _, _, _, _, _, _, _, _, _, _, _, _, _, _, _, _, _, _, _, _, _, _, _, _, _, _, _, _, _, _, _, _, _, _, _, _, _, _, _, _, _, _, _, _, _, _, _, _, _, _, _, _, _, _, rfl⟩, by go_num, by go_num, by go_num, by go_num, HI.out, below_drewN' hbr _, .inr (.inr ⟨rfl, rfl, HF.out⟩)⟩
  case first =>
    intro pa pb pc H hH
    go_wp2_with fail
    go_step3
    go_step
    go_step
    exact pc _ _ _ ⟨0, 0, 0, 0, false, _, _, _, _, ⟨_, _, _, _, _, _, _, _, _, _, _, _, _, _, _, _, _, _, _, _, _, _, _, _, _, _, _, _, _, _, _, _, _, _, _, _, _, _, _, _, _, _, _, _, _, _, _, _, _, _, _, _, _, _, _, _, _, _, _, _, _, _, _, _, _, rfl⟩, rfl, rfl, rfl, rfl, inv_start, Below.refl _ _, .inl ⟨rfl, rfl⟩⟩ H (fun l' n' a' w' _ h => hH l' n' a' w' h)
end Go.Proofs.Ytbkmjbjiagkjmaa
