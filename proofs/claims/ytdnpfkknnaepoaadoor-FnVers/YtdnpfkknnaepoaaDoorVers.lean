/-
  Whatever code comes in: the version drawn out of it comes back of its text where it is right, and has no text where it is not; what ParseVer reads of a drawn text is told anew as that text; of two drawn versions one is less than the other in one way alone, and of three what is less is handed on; and the code reads as it did; no condition but that the tables of the library hold at the start what the program text lays, which the card ties.
-/
import Derived.Test.YtdnpfkknnaepoaaDoorRows
import Derived.WalkKit
import Derived.Test.YtdnpfkknnaepoaaDoorCards
import Derived.Test.YtdnpfkknnaepoaaDoorTie
import Derived.Test.YtdnpfkknnaepoaaDoorTab
import Derived.Test.YtdnpfkknnaepoaaDoorVsC
import Derived.ProofKit
import Derived.OpenShut
import Derived.ShutString
import Derived.SliceStrings
import Derived.ChangeOld
import Derived.Below
namespace Go.Proofs.YtdnpfkknnaepoaaDoor.fnVers
open Go.ChangeShapes Go.WideShapes Go.ChangeAt Go.RowKit
open Go.ChangeMaps (open_string shut_string)
set_option linter.unusedVariables false
set_option linter.unusedSimpArgs false

theorem own : ownKnob Tryd.prog.godebug = none := by kernel_rfl
theorem laidOut : laidOutB Tryd.prog = true := by kernel_rfl

theorem addr_add (b off i : Nat) : ((⟨b, off, none⟩ : Addr).add i) = ⟨b, off + i, none⟩ := by unfold Addr.add; split <;> simp_all
theorem reads_mk {w : World} {x : Addr} {len cap : Nat} {xs : List Value} (hl : xs.length = len) (hc : len ≤ cap) (hcell : ∀ i (h : i < xs.length), w.cell? (x.add i) = some xs[i]) : Reads w (.slice (some x) len cap) xs := by
  subst hl
  by_cases h0 : xs.length = 0
  · exact ⟨some x, cap, rfl, hc, .inl (List.eq_nil_of_length_eq_zero h0)⟩
  · obtain ⟨b, off, spot⟩ := x
    have hc0 := hcell 0 (by omega)
    have hspot : spot = none := by simpa [Addr.add] using World.cell?_spot hc0
    subst hspot
    refine ⟨some ⟨b, off, none⟩, cap, rfl, hc, .inr ⟨b, off, rfl, ?_, fun i hi => ?_⟩⟩
    · rw [addr_add] at hc0; exact World.block_lt_of_cell? w _ hc0
    · have := hcell i hi; rw [addr_add] at this; exact this

set_option maxHeartbeats 4000000 in
set_option maxRecDepth 100000 in
theorem walk (a0 : Value) (z0 : List Int) (w : World) (r0 : Reads w a0 (bytesV z0)) (w0 : ∀ z ∈ z0, 0 ≤ z ∧ z ≤ 255) (l0 : z0.length ≤ maxLen) (htab : Lib.TabIs Tryd.prog w "internal/strconv.uint64pow10" .u64 Lib.pow10Tab) :
    Calls Tryd.prog 3 #[a0] w fun e w' => e = .returned (.bool true) ∧ Below w.heap.size w w' := by
  have hbf : Below w.heap.size w w := Below.refl _ _
  by_cases hbig : (1048576 : Int) < (z0.length : Int)
  · have HB := big_t a0 z0 w r0 hbig
    obtain ⟨qz, cz, hv, _, _⟩ := reads_bytes r0
    subst hv
    clear r0
    go_enter Tryd.func3, Tryd.ntmps3
    go_wp2_with (go_at_call 6; refine HB.mono ?_; rintro e w1 ⟨rfl, rfl⟩)
    go_ret
    exact ⟨rfl, Below.refl _ _⟩
  have HB := big_f a0 z0 w r0 hbig
  have hn : z0.length ≤ 1048576 := by omega
  have H1 : Hid (∀ w1, Below w.heap.size w w1 → Calls Tryd.prog 7 #[a0] w1 fun e w' => ∃ (a b c : Int) (u : Value) (ps : List ByteArray), e = .returned (.agg #[.int .i64 a, .int .i64 b, .int .i64 c, u]) ∧ Reads w' u (strsV ps) ∧ smallP 4 ps ∧ Below w1.heap.size w1 w') := fun w1 h => drawVerText_c a0 z0 w1 (r0.below h) hn w0
  have H2 : Hid (∀ w1, Below w.heap.size w w1 → Calls Tryd.prog 9 #[a0] w1 fun e w' => ∃ s : ByteArray, s.size ≤ 100 ∧ e = .returned (.string s) ∧ Below w1.heap.size w1 w') := fun w1 h => drawParseVer_c a0 z0 w1 (r0.below h) hn w0
  have H3 : Hid (∀ w1, Below w.heap.size w w1 → Calls Tryd.prog 12 #[a0] w1 (ThreeOut w1)) := fun w1 h => drawVers_c a0 z0 w1 (r0.below h) hn w0
  have HTB : Hid (∀ w1, Below w.heap.size w w1 → Lib.TabIs Tryd.prog w1 "internal/strconv.uint64pow10" .u64 Lib.pow10Tab) := fun w1 h => tabIs_below h htab
  obtain ⟨qz, cz, hv, _, _⟩ := reads_bytes r0
  subst hv
  clear r0 htab
  go_enter Tryd.func3, Tryd.ntmps3
  go_wp2_with fail
  go_at_call 6
  refine HB.mono ?_
  rintro e w' ⟨rfl, rfl⟩
  go_wp2_with fail
  go_at_call 7
  refine (H1.out _ hbf).mono ?_
  rintro e w1 ⟨v1, v2, v3, uv, pv, rfl, rv, sv, k1⟩
  obtain ⟨qv, cv, hu, _, _⟩ := reads_strs rv
  subst hu
  have bv := small_bulk sv (by omega)
  have t1 : Below w1.heap.size w1 (w1.alloc (.cells #[.int .i64 v1, .int .i64 v2, .int .i64 v3, .slice qv pv.length cv] 26)) := (Below.refl _ _).alloc (Nat.le_refl _) _
  have V1 := four_new w1 26 (.int .i64 v1) (.int .i64 v2) (.int .i64 v3) (.slice qv pv.length cv)
  have m1 := k1.trans (t1.mono k1.size)
  have rv1 := rv.below t1
  obtain ⟨s, hs⟩ : ∃ s, s = verT v1 v2 v3 pv := ⟨_, rfl⟩
  have HT := implVerText_c v1 v2 v3 _ pv _ rv1 bv (HTB.out _ m1)
  rw [← hs] at HT
  have Hs : Hid (s = verT v1 v2 v3 pv) := hs
  clear hs H1 HB hbig k1
  go_wp2_with fail
  obtain ⟨BV, hBV⟩ : ∃ B, B = w1.heap.size := ⟨_, rfl⟩
  generalize (w1.alloc (.cells #[.int .i64 v1, .int .i64 v2, .int .i64 v3, .slice qv pv.length cv] 26)) = W1 at V1 t1 m1 rv1 HT ⊢
  rw [← hBV] at V1 ⊢
  clear hBV t1 rv
  go_at_call 8
  refine HT.mono ?_
  rintro e w2 ⟨rfl, b2⟩
  have V2 := V1.keep b2
  have rv2 := rv1.below b2
  have m2 := m1.trans (b2.mono m1.size)
  clear HT b2 V1 rv1 m1
  go_wp2_with fail
  go_at_call 9
  refine (H2.out _ m2).mono ?_
  rintro e w3 ⟨t, ht, rfl, b3⟩
  have V3 := V2.keep b3
  have rv3 := rv2.below b3
  have m3 := m2.trans (b3.mono m2.size)
  have HI := implParse_c t (by omega) w3
  have HSp : Hid (∀ w1, Calls Tryd.prog 11 #[.string t] w1 fun e w' => ∃ u, e = .returned (verOut t u) ∧ Reads w' u (strsV (resP t)) ∧ Below w1.heap.size w1 w') := fun w1 => specParse_c t (by omega) w1
  have Hbk : Hid (resOk t = true → verT (resN t 0) (resN t 1) (resN t 2) (resP t) = t) := vs_back t
  have Hbl : Hid (bulkS (resP t) ≤ 1048576) := by have := resP_bulk t; show _ ≤ _; omega
  unfold verOut at HI HSp
  obtain ⟨y1, hy1⟩ : ∃ y, y = resN t 0 := ⟨_, rfl⟩
  obtain ⟨y2, hy2⟩ : ∃ y, y = resN t 1 := ⟨_, rfl⟩
  obtain ⟨y3, hy3⟩ : ∃ y, y = resN t 2 := ⟨_, rfl⟩
  obtain ⟨py, hpy⟩ : ∃ y, y = resP t := ⟨_, rfl⟩
  obtain ⟨ok, hok⟩ : ∃ y, y = resOk t := ⟨_, rfl⟩
  rw [← hy1, ← hy2, ← hy3, ← hpy, ← hok] at HI HSp Hbk
  rw [← hpy] at Hbl
  clear hy1 hy2 hy3 hpy hok H2 b3 V2 rv2 m2
  go_wp2_with fail
  go_at_call 10
  refine HI.mono ?_
  rintro e w4 ⟨uy, rfl, oy, b4⟩
  have V4 := V3.keep b4
  have rv4 := rv3.below b4
  have m4 := m3.trans (b4.mono m3.size)
  have ry4 := reads_of_owns oy
  obtain ⟨qy, ny, cy, hu⟩ : ∃ q n c, uy = .slice q n c := by rcases oy.2 with ⟨rfl, _⟩ | ⟨g, cap, cur, rfl, _⟩ <;> exact ⟨_, _, _, rfl⟩
  subst hu
  have t4 : Below w4.heap.size w4 (w4.alloc (.cells #[.int .i64 y1, .int .i64 y2, .int .i64 y3, .slice qy ny cy] 26)) := (Below.refl _ _).alloc (Nat.le_refl _) _
  have Y4 := four_new w4 26 (.int .i64 y1) (.int .i64 y2) (.int .i64 y3) (.slice qy ny cy)
  have V5 := V4.keep t4
  have rv5 := rv4.below t4
  have ry5 := ry4.below t4
  have m5 := m4.trans (t4.mono m4.size)
  clear HI oy b4 V3 rv3 m3 V4 rv4 m4 ry4
  go_wp2_with fail
  obtain ⟨BY, hBY⟩ : ∃ B, B = w4.heap.size := ⟨_, rfl⟩
  generalize (w4.alloc (.cells #[.int .i64 y1, .int .i64 y2, .int .i64 y3, .slice qy ny cy] 26)) = W4 at Y4 V5 t4 m5 rv5 ry5 ⊢
  rw [← hBY] at Y4 ⊢
  clear hBY t4
  go_at_call 11
  refine (HSp.out _).mono ?_
  rintro e w5 ⟨uz, rfl, rz, b5⟩
  obtain ⟨qz', cz', hu, _, _⟩ := reads_strs rz
  subst hu
  have t5 : ∀ o, Below w5.heap.size w5 (w5.alloc o) := fun o => (Below.refl _ _).alloc (Nat.le_refl _) _
  have V6 := (V5.keep b5).keep (t5 (.cells #[.int .i64 y1, .int .i64 y2, .int .i64 y3, .slice qz' py.length cz'] 26))
  have Y6 := (Y4.keep b5).keep (t5 (.cells #[.int .i64 y1, .int .i64 y2, .int .i64 y3, .slice qz' py.length cz'] 26))
  have rv6 := (rv5.below b5).below (t5 (.cells #[.int .i64 y1, .int .i64 y2, .int .i64 y3, .slice qz' py.length cz'] 26))
  have ry6 := (ry5.below b5).below (t5 (.cells #[.int .i64 y1, .int .i64 y2, .int .i64 y3, .slice qz' py.length cz'] 26))
  have m6' := m5.trans (b5.mono m5.size)
  have m6 := m6'.trans ((t5 (.cells #[.int .i64 y1, .int .i64 y2, .int .i64 y3, .slice qz' py.length cz'] 26)).mono m6'.size)
  clear HSp V5 Y4 rv5 ry5 m5 b5 t5 m6' rz
  go_wp2_with fail
  generalize (w5.alloc (.cells #[.int .i64 y1, .int .i64 y2, .int .i64 y3, .slice qz' py.length cz'] 26)) = W5 at V6 Y6 rv6 ry6 m6 ⊢
  go_at_call 12
  refine (H3.out _ m6).mono ?_
  rintro e w6 ⟨a1, a2, a3, ua, pa, b1, b2, b3, ub, pb, c1, c2, c3, uc, pc, rfl, ra, rb, rc, sa, sb, sc, b6⟩
  obtain ⟨qa, ca, hu, _, _⟩ := reads_strs ra
  subst hu
  obtain ⟨qb, cb, hu, _, _⟩ := reads_strs rb
  subst hu
  obtain ⟨qc, cc, hu, _, _⟩ := reads_strs rc
  subst hu
  have t7 : Below w6.heap.size w6 (((w6.alloc (.cells #[.int .i64 a1, .int .i64 a2, .int .i64 a3, .slice qa pa.length ca] 26)).alloc (.cells #[.int .i64 b1, .int .i64 b2, .int .i64 b3, .slice qb pb.length cb] 26)).alloc (.cells #[.int .i64 c1, .int .i64 c2, .int .i64 c3, .slice qc pc.length cc] 26)) := (((Below.refl _ _).alloc (Nat.le_refl _) _).alloc (by simp) _).alloc (by simp; omega) _
  obtain ⟨A7, B7, C7⟩ := four_three w6 26 (.int .i64 a1) (.int .i64 a2) (.int .i64 a3) (.slice qa pa.length ca) (.int .i64 b1) (.int .i64 b2) (.int .i64 b3) (.slice qb pb.length cb) (.int .i64 c1) (.int .i64 c2) (.int .i64 c3) (.slice qc pc.length cc)
  have V7 := (V6.keep b6).keep t7
  have Y7 := (Y6.keep b6).keep t7
  have rv7 := (rv6.below b6).below t7
  have ry7 := (ry6.below b6).below t7
  have ra7 := ra.below t7
  have rb7 := rb.below t7
  have rc7 := rc.below t7
  have m7' := m6.trans (b6.mono m6.size)
  have m7 := m7'.trans (t7.mono m7'.size)
  clear H3 V6 Y6 rv6 ry6 ra rb rc m6 b6 m7'
  go_wp2_with fail
  obtain ⟨BA, hBA⟩ : ∃ B, B = w6.heap.size := ⟨_, rfl⟩
  generalize (((w6.alloc (.cells #[.int .i64 a1, .int .i64 a2, .int .i64 a3, .slice qa pa.length ca] 26)).alloc (.cells #[.int .i64 b1, .int .i64 b2, .int .i64 b3, .slice qb pb.length cb] 26)).alloc (.cells #[.int .i64 c1, .int .i64 c2, .int .i64 c3, .slice qc pc.length cc] 26)) = WF at A7 B7 C7 V7 Y7 rv7 ry7 ra7 rb7 rc7 m7 t7 ⊢
  rw [← hBA] at A7 B7 C7 ⊢
  clear hBA t7
  have ba := vs_bulk (small_more sa) (by omega)
  have bb := vs_bulk (small_more sb) (by omega)
  have bc := vs_bulk (small_more sc) (by omega)
  have la : pa.length ≤ 1048576 := by have := sa.1; omega
  have lv : pv.length ≤ 1048576 := by have := sv.1; omega
  obtain ⟨r1, hr1⟩ : ∃ r, r = lessB a1 a2 a3 pa b1 b2 b3 pb := ⟨_, rfl⟩
  obtain ⟨r2, hr2⟩ : ∃ r, r = lessB b1 b2 b3 pb a1 a2 a3 pa := ⟨_, rfl⟩
  obtain ⟨r3, hr3⟩ : ∃ r, r = sameB a1 a2 a3 pa b1 b2 b3 pb := ⟨_, rfl⟩
  obtain ⟨r4, hr4⟩ : ∃ r, r = lessB b1 b2 b3 pb c1 c2 c3 pc := ⟨_, rfl⟩
  obtain ⟨r5, hr5⟩ : ∃ r, r = lessB a1 a2 a3 pa c1 c2 c3 pc := ⟨_, rfl⟩
  obtain ⟨rr, hrr⟩ : ∃ r, r = verB v1 v2 v3 pv := ⟨_, rfl⟩
  have HW : Hid ((r1 = true ∧ r2 = false ∧ r3 = false) ∨ (r1 = false ∧ r2 = true ∧ r3 = false) ∨ (r1 = false ∧ r2 = false ∧ r3 = true)) := by rw [hr1, hr2, hr3]; exact vs_way _ _ _ _ _ _ _ _
  have HX : Hid (r1 = true → r4 = true → r5 = true) := by rw [hr1, hr4, hr5]; exact vs_trans
  have HE : Hid (rr = false → s = ⟨#[]⟩) := by rw [hrr, Hs.out]; exact vs_none _ _ _ _
  have HPa : Hid (rr = true → ∀ wk, Calls Tryd.prog 10 #[.string s] wk fun e w' => ∃ u, e = .returned (.tuple #[.agg #[.int .i64 v1, .int .i64 v2, .int .i64 v3, u], .bool true]) ∧ Reads w' u (strsV pv) ∧ Below wk.heap.size wk w') := fun h wk => by
    rw [hrr] at h
    obtain ⟨e1, e2, e3, e4, e5⟩ := vs_told v1 v2 v3 pv h
    rw [← Hs.out] at e1 e2 e3 e4 e5
    have hsz : s.size ≤ 1048576 := by
      rw [Hs.out]
      have := verT_sz v1 v2 v3 pv h
      omega
    refine (implParse_c s hsz wk).mono ?_
    rintro e w' ⟨u, rfl, o, b⟩
    refine ⟨u, ?_, ?_, b⟩
    · rw [verOut, e1, e2, e3, e4]
    · rw [e5] at o; exact reads_of_owns o
  have HL1 : Hid (∀ wk, Below WF.heap.size WF wk → Calls Tryd.prog 13 #[.agg #[.int .i64 a1, .int .i64 a2, .int .i64 a3, .slice qa pa.length ca], .agg #[.int .i64 b1, .int .i64 b2, .int .i64 b3, .slice qb pb.length cb]] wk fun e w' => e = .returned (.bool r1) ∧ Below wk.heap.size wk w') := fun wk hk => by rw [hr1]; exact implLess_c _ _ _ _ pa _ _ _ _ pb wk (ra7.below hk) (rb7.below hk) ba bb
  have HL2 : Hid (∀ wk, Below WF.heap.size WF wk → Calls Tryd.prog 13 #[.agg #[.int .i64 b1, .int .i64 b2, .int .i64 b3, .slice qb pb.length cb], .agg #[.int .i64 a1, .int .i64 a2, .int .i64 a3, .slice qa pa.length ca]] wk fun e w' => e = .returned (.bool r2) ∧ Below wk.heap.size wk w') := fun wk hk => by rw [hr2]; exact implLess_c _ _ _ _ pb _ _ _ _ pa wk (rb7.below hk) (ra7.below hk) bb ba
  have HL3 : Hid (∀ wk, Below WF.heap.size WF wk → Calls Tryd.prog 14 #[.agg #[.int .i64 a1, .int .i64 a2, .int .i64 a3, .slice qa pa.length ca], .agg #[.int .i64 b1, .int .i64 b2, .int .i64 b3, .slice qb pb.length cb]] wk fun e w' => e = .returned (.bool r3) ∧ Below wk.heap.size wk w') := fun wk hk => by rw [hr3]; exact implSame_c _ _ _ _ pa _ _ _ _ pb wk (ra7.below hk) (rb7.below hk) la
  have HL4 : Hid (∀ wk, Below WF.heap.size WF wk → Calls Tryd.prog 13 #[.agg #[.int .i64 b1, .int .i64 b2, .int .i64 b3, .slice qb pb.length cb], .agg #[.int .i64 c1, .int .i64 c2, .int .i64 c3, .slice qc pc.length cc]] wk fun e w' => e = .returned (.bool r4) ∧ Below wk.heap.size wk w') := fun wk hk => by rw [hr4]; exact implLess_c _ _ _ _ pb _ _ _ _ pc wk (rb7.below hk) (rc7.below hk) bb bc
  have HL5 : Hid (∀ wk, Below WF.heap.size WF wk → Calls Tryd.prog 13 #[.agg #[.int .i64 a1, .int .i64 a2, .int .i64 a3, .slice qa pa.length ca], .agg #[.int .i64 c1, .int .i64 c2, .int .i64 c3, .slice qc pc.length cc]] wk fun e w' => e = .returned (.bool r5) ∧ Below wk.heap.size wk w') := fun wk hk => by rw [hr5]; exact implLess_c _ _ _ _ pa _ _ _ _ pc wk (ra7.below hk) (rc7.below hk) ba bc
  have HO1 : Hid (∀ wk, Below WF.heap.size WF wk → Calls Tryd.prog 15 #[.agg #[.int .i64 v1, .int .i64 v2, .int .i64 v3, .slice qv pv.length cv]] wk fun e w' => e = .returned (.bool rr) ∧ Below wk.heap.size wk w') := fun wk hk => by rw [hrr]; exact implVerOk_c _ _ _ _ pv wk (rv7.below hk) bv
  have HO2 : Hid (∀ wk, Below WF.heap.size WF wk → Calls Tryd.prog 16 #[.agg #[.int .i64 v1, .int .i64 v2, .int .i64 v3, .slice qv pv.length cv]] wk fun e w' => e = .returned (.bool rr) ∧ Below wk.heap.size wk w') := fun wk hk => by rw [hrr]; exact specVerOk_c _ _ _ _ pv wk (rv7.below hk) bv
  have HSV : Hid (∀ wk u, Below WF.heap.size WF wk → Reads wk u (strsV pv) → Calls Tryd.prog 17 #[.agg #[.int .i64 v1, .int .i64 v2, .int .i64 v3, u], .agg #[.int .i64 v1, .int .i64 v2, .int .i64 v3, .slice qv pv.length cv]] wk fun e w' => e = .returned (.bool true) ∧ Below wk.heap.size wk w') := fun wk u hk hu => by
    have := sameVerL_c v1 v2 v3 u pv v1 v2 v3 (.slice qv pv.length cv) pv wk hu (rv7.below hk) lv
    rwa [same_self] at this
  have HYT : Hid (ok = true → ∀ wk, Below WF.heap.size WF wk → Calls Tryd.prog 8 #[.agg #[.int .i64 y1, .int .i64 y2, .int .i64 y3, .slice qy ny cy]] wk fun e w' => e = .returned (.string t) ∧ Below wk.heap.size wk w') := fun ho wk hk => by
    have := implVerText_c y1 y2 y3 (.slice qy ny cy) py wk (ry7.below hk) Hbl.out (HTB.out _ (m7.trans (hk.mono m7.size)))
    rwa [Hbk.out ho] at this
  have KA : Hid (∀ wk, Below WF.heap.size WF wk → Four wk BA 26 (.int .i64 a1) (.int .i64 a2) (.int .i64 a3) (.slice qa pa.length ca) ∧ Four wk (BA + 1) 26 (.int .i64 b1) (.int .i64 b2) (.int .i64 b3) (.slice qb pb.length cb) ∧ Four wk (BA + 1 + 1) 26 (.int .i64 c1) (.int .i64 c2) (.int .i64 c3) (.slice qc pc.length cc)) := fun wk hk => ⟨A7.keep hk, B7.keep hk, C7.keep hk⟩
  have KV : Hid (∀ wk, Below WF.heap.size WF wk → Four wk BV 26 (.int .i64 v1) (.int .i64 v2) (.int .i64 v3) (.slice qv pv.length cv)) := fun wk hk => V7.keep hk
  have KVY : Hid (∀ wk, Below WF.heap.size WF wk → wk.cell? ⟨BV, 0, none⟩ = some (.int .i64 v1) ∧ wk.cell? ⟨BV, 1, none⟩ = some (.int .i64 v2) ∧ wk.cell? ⟨BV, 2, none⟩ = some (.int .i64 v3) ∧ wk.cell? ⟨BV, 3, none⟩ = some (.slice qv pv.length cv) ∧ wk.cell? ⟨BY, 0, none⟩ = some (.int .i64 y1) ∧ wk.cell? ⟨BY, 1, none⟩ = some (.int .i64 y2) ∧ wk.cell? ⟨BY, 2, none⟩ = some (.int .i64 y3) ∧ wk.cell? ⟨BY, 3, none⟩ = some (.slice qy ny cy)) := fun wk hk => ⟨(V7.keep hk).cells.1, (V7.keep hk).cells.2.1, (V7.keep hk).cells.2.2.1, (V7.keep hk).cells.2.2.2, (Y7.keep hk).cells⟩
  have h0 : Below WF.heap.size WF WF := Below.refl _ _
  have M : Hid (∀ wk, Below WF.heap.size WF wk → Below w.heap.size w wk) := fun wk hk => m7.trans (hk.mono m7.size)
  clear hr1 hr2 hr3 hr4 hr5 hrr A7 B7 C7 V7 Y7 rv7 ry7 ra7 rb7 rc7 m7 sa sb sc sv ba bb bc la lv bv Hs Hbk Hbl HTB ht
  rcases HW.out with ⟨rfl, rfl, rfl⟩ | ⟨rfl, rfl, rfl⟩ | ⟨rfl, rfl, rfl⟩
  · clear HW
    obtain ⟨fa, fb, fc⟩ := KA.out _ h0
    obtain ⟨x0, x1, x2, x3⟩ := fa.cells
    obtain ⟨y0, y1, y2, y3⟩ := fb.cells
    clear fa fb fc
    go_wp2_with fail
    go_at_call 13
    refine (HL1.out _ h0).mono ?_
    rintro e wn1 ⟨rfl, bk⟩
    have hn1 : Below WF.heap.size WF wn1 := h0.trans (bk.mono h0.size)
    clear bk x0 x1 x2 x3 y0 y1 y2 y3
    obtain ⟨fa, fb, fc⟩ := KA.out _ hn1
    obtain ⟨x0, x1, x2, x3⟩ := fa.cells
    obtain ⟨y0, y1, y2, y3⟩ := fb.cells
    clear fa fb fc
    go_wp2_with fail
    go_at_call 13
    refine (HL2.out _ hn1).mono ?_
    rintro e wn2 ⟨rfl, bk⟩
    have hn2 : Below WF.heap.size WF wn2 := hn1.trans (bk.mono hn1.size)
    clear bk x0 x1 x2 x3 y0 y1 y2 y3
    obtain ⟨fa, fb, fc⟩ := KA.out _ hn2
    obtain ⟨x0, x1, x2, x3⟩ := fa.cells
    obtain ⟨y0, y1, y2, y3⟩ := fb.cells
    clear fa fb fc
    go_wp2_with fail
    go_at_call 14
    refine (HL3.out _ hn2).mono ?_
    rintro e wn3 ⟨rfl, bk⟩
    have hn3 : Below WF.heap.size WF wn3 := hn2.trans (bk.mono hn2.size)
    clear bk x0 x1 x2 x3 y0 y1 y2 y3
    cases ok with
    | true =>
      have hd0 : Below WF.heap.size WF wn3.drew := hn3.drew
      go_wp2_with fail
      refine wp_region_held_drew (S := (fun w' => w'.cell? ⟨BV, 0, none⟩ = some (.int .i64 v1) ∧ w'.cell? ⟨BV, 1, none⟩ = some (.int .i64 v2) ∧ w'.cell? ⟨BV, 2, none⟩ = some (.int .i64 v3) ∧ w'.cell? ⟨BV, 3, none⟩ = some (.slice qv pv.length cv) ∧ w'.cell? ⟨BY, 0, none⟩ = some (.int .i64 y1) ∧ w'.cell? ⟨BY, 1, none⟩ = some (.int .i64 y2) ∧ w'.cell? ⟨BY, 2, none⟩ = some (.int .i64 y3) ∧ w'.cell? ⟨BY, 3, none⟩ = some (.slice qy ny cy))) (by kernel_rfl) ?SR10 (fun hHeld => ?_)
      case SR10 => (first | (with_reducible exact KVY.out _ hd0) | (with_reducible exact KVY.out _ hd1) | (with_reducible exact KVY.out _ hd2) | (with_reducible exact KVY.out _ hd3))
      refine wpAnyH_take (i := 0) (oi := _) (v := ?vR10) rfl (by kernel_rfl) (by kernel_rfl) (by kernel_rfl) (fun _ _ _ h => h) (Or.inl ⟨by rfl, ?yR10⟩) hHeld ?_
      case yR10 => (intro w hSw; (try dsimp only at hSw); go_simp <;> with_reducible rfl)
      try simp only [Act.put, List.getElem_toArray, List.getElem_cons_zero, List.getElem_cons_succ, List.setIfInBounds_toArray, List.set_cons_zero, List.set_cons_succ]
      refine wpAnyH_take (i := 1) (oi := _) (v := ?vR11) rfl (by kernel_rfl) (by kernel_rfl) (by kernel_rfl) (fun _ _ _ h => h) (Or.inl ⟨by rfl, ?yR11⟩) hHeld ?_
      case yR11 => (intro w hSw; (try dsimp only at hSw); go_simp <;> with_reducible rfl)
      try simp only [Act.put, List.getElem_toArray, List.getElem_cons_zero, List.getElem_cons_succ, List.setIfInBounds_toArray, List.set_cons_zero, List.set_cons_succ]
      refine wpAnyH_take (i := 2) (oi := _) (v := ?vR12) rfl (by kernel_rfl) (by kernel_rfl) (by kernel_rfl) (fun _ _ _ h => h) (Or.inl ⟨by rfl, ?yR12⟩) hHeld ?_
      case yR12 => (intro w hSw; (try dsimp only at hSw); go_simp <;> with_reducible rfl)
      try simp only [Act.put, List.getElem_toArray, List.getElem_cons_zero, List.getElem_cons_succ, List.setIfInBounds_toArray, List.set_cons_zero, List.set_cons_succ]
      refine wpAnyH_take (i := 3) (oi := _) (v := ?vR13) rfl (by kernel_rfl) (by kernel_rfl) (by kernel_rfl) (fun _ _ _ h => h) (Or.inl ⟨by rfl, ?yR13⟩) hHeld ?_
      case yR13 => (intro w hSw; (try dsimp only at hSw); go_simp <;> with_reducible rfl)
      try simp only [Act.put, List.getElem_toArray, List.getElem_cons_zero, List.getElem_cons_succ, List.setIfInBounds_toArray, List.set_cons_zero, List.set_cons_succ]
      refine wpAnyH_take (i := 4) (oi := _) (v := ?vR14) rfl (by kernel_rfl) (by kernel_rfl) (by kernel_rfl) (fun _ _ _ h => h) (Or.inl ⟨by rfl, ?yR14⟩) hHeld ?_
      case yR14 => (intro w hSw; (try dsimp only at hSw); go_simp <;> with_reducible rfl)
      try simp only [Act.put, List.getElem_toArray, List.getElem_cons_zero, List.getElem_cons_succ, List.setIfInBounds_toArray, List.set_cons_zero, List.set_cons_succ]
      refine wpAnyH_take (i := 5) (oi := _) (v := ?vR15) rfl (by kernel_rfl) (by kernel_rfl) (by kernel_rfl) (fun _ _ _ h => h) (Or.inl ⟨by rfl, ?yR15⟩) hHeld ?_
      case yR15 => (intro w hSw; (try dsimp only at hSw); go_simp <;> with_reducible rfl)
      try simp only [Act.put, List.getElem_toArray, List.getElem_cons_zero, List.getElem_cons_succ, List.setIfInBounds_toArray, List.set_cons_zero, List.set_cons_succ]
      refine wpAnyH_take (i := 6) (oi := _) (v := ?vR16) rfl (by kernel_rfl) (by kernel_rfl) (by kernel_rfl) (fun _ _ _ h => h) (Or.inl ⟨by rfl, ?yR16⟩) hHeld ?_
      case yR16 => (intro w hSw; (try dsimp only at hSw); go_simp <;> with_reducible rfl)
      try simp only [Act.put, List.getElem_toArray, List.getElem_cons_zero, List.getElem_cons_succ, List.setIfInBounds_toArray, List.set_cons_zero, List.set_cons_succ]
      refine wpAnyH_take (i := 8) (oi := _) (v := ?vR17) rfl (by kernel_rfl) (by kernel_rfl) (by kernel_rfl) (fun _ _ _ h => h) (Or.inl ⟨by rfl, ?yR17⟩) hHeld ?_
      case yR17 => (intro w hSw; (try dsimp only at hSw); go_simp <;> with_reducible rfl)
      try simp only [Act.put, List.getElem_toArray, List.getElem_cons_zero, List.getElem_cons_succ, List.setIfInBounds_toArray, List.set_cons_zero, List.set_cons_succ]
      refine wpAnyH_ready (rs := [7]) (by kernel_rfl) (by simp) ?_
      refine AllReadyH.cons rfl (fun K hK => ?_) AllReadyH.nil
      go_simp
      go_wp2_with (go_at_call 8; refine (HYT.out (by first | rfl | exact True.intro) _ hd0).mono ?_; rintro e wd1 ⟨rfl, bk⟩; have hd1 : Below WF.heap.size WF wd1 := hd0.trans (bk.mono hd0.size); clear bk)
      clear hHeld
      refine hK.out _ _ ?SR19 (fun hHeld => ?_)
      case SR19 => ((try dsimp only); first | (with_reducible exact KVY.out _ hd0) | (with_reducible exact KVY.out _ hd1) | (with_reducible exact KVY.out _ hd2) | (with_reducible exact KVY.out _ hd3))
      clear hK K
      refine wpAnyH_take (i := 9) (oi := _) (v := ?vR19) rfl (by kernel_rfl) (by kernel_rfl) (by kernel_rfl) (fun _ _ _ h => h) (Or.inl ⟨by rfl, ?yR19⟩) hHeld ?_
      case yR19 => (intro w hSw; (try dsimp only at hSw); go_simp <;> with_reducible rfl)
      try simp only [Act.put, List.getElem_toArray, List.getElem_cons_zero, List.getElem_cons_succ, List.setIfInBounds_toArray, List.set_cons_zero, List.set_cons_succ]
      refine wpAnyH_take (i := 10) (oi := _) (v := ?vR110) rfl (by kernel_rfl) (by kernel_rfl) (by kernel_rfl) (fun _ _ _ h => h) (Or.inl ⟨by rfl, ?yR110⟩) hHeld ?_
      case yR110 => (intro w hSw; (try dsimp only at hSw); go_simp <;> with_reducible rfl)
      try simp only [Act.put, List.getElem_toArray, List.getElem_cons_zero, List.getElem_cons_succ, List.setIfInBounds_toArray, List.set_cons_zero, List.set_cons_succ]
      refine wpAnyH_take (i := 11) (oi := _) (v := ?vR111) rfl (by kernel_rfl) (by kernel_rfl) (by kernel_rfl) (fun _ _ _ h => h) (Or.inl ⟨by rfl, ?yR111⟩) hHeld ?_
      case yR111 => (intro w hSw; (try dsimp only at hSw); go_simp <;> with_reducible rfl)
      try simp only [Act.put, List.getElem_toArray, List.getElem_cons_zero, List.getElem_cons_succ, List.setIfInBounds_toArray, List.set_cons_zero, List.set_cons_succ]
      refine wpAnyH_take (i := 12) (oi := _) (v := ?vR112) rfl (by kernel_rfl) (by kernel_rfl) (by kernel_rfl) (fun _ _ _ h => h) (Or.inl ⟨by rfl, ?yR112⟩) hHeld ?_
      case yR112 => (intro w hSw; (try dsimp only at hSw); go_simp <;> with_reducible rfl)
      try simp only [Act.put, List.getElem_toArray, List.getElem_cons_zero, List.getElem_cons_succ, List.setIfInBounds_toArray, List.set_cons_zero, List.set_cons_succ]
      refine wpAnyH_take (i := 13) (oi := _) (v := ?vR113) rfl (by kernel_rfl) (by kernel_rfl) (by kernel_rfl) (fun _ _ _ h => h) (Or.inl ⟨by rfl, ?yR113⟩) hHeld ?_
      case yR113 => (intro w hSw; (try dsimp only at hSw); go_simp <;> with_reducible rfl)
      try simp only [Act.put, List.getElem_toArray, List.getElem_cons_zero, List.getElem_cons_succ, List.setIfInBounds_toArray, List.set_cons_zero, List.set_cons_succ]
      refine wpAnyH_take (i := 15) (oi := _) (v := ?vR114) rfl (by kernel_rfl) (by kernel_rfl) (by kernel_rfl) (fun _ _ _ h => h) (Or.inl ⟨by rfl, ?yR114⟩) hHeld ?_
      case yR114 => (intro w hSw; (try dsimp only at hSw); go_simp <;> with_reducible rfl)
      try simp only [Act.put, List.getElem_toArray, List.getElem_cons_zero, List.getElem_cons_succ, List.setIfInBounds_toArray, List.set_cons_zero, List.set_cons_succ]
      refine wpAnyH_ready (rs := [14]) (by kernel_rfl) (by simp) ?_
      refine AllReadyH.cons rfl (fun K hK => ?_) AllReadyH.nil
      go_simp
      go_wp2_with (go_at_call 15; refine (HO1.out _ hd1).mono ?_; rintro e wd2 ⟨rfl, bk⟩; have hd2 : Below WF.heap.size WF wd2 := hd1.trans (bk.mono hd1.size); clear bk)
      clear hHeld
      refine hK.out _ _ ?SR116 (fun hHeld => ?_)
      case SR116 => ((try dsimp only); first | (with_reducible exact KVY.out _ hd0) | (with_reducible exact KVY.out _ hd1) | (with_reducible exact KVY.out _ hd2) | (with_reducible exact KVY.out _ hd3))
      clear hK K
      refine wpAnyH_ready (rs := [16]) (by kernel_rfl) (by simp) ?_
      refine AllReadyH.cons rfl (fun K hK => ?_) AllReadyH.nil
      go_simp
      go_wp2_with (go_at_call 16; refine (HO2.out _ hd2).mono ?_; rintro e wd3 ⟨rfl, bk⟩; have hd3 : Below WF.heap.size WF wd3 := hd2.trans (bk.mono hd2.size); clear bk)
      clear hHeld
      refine hK.out _ _ ?SR117 (fun hHeld => ?_)
      case SR117 => ((try dsimp only); first | (with_reducible exact KVY.out _ hd0) | (with_reducible exact KVY.out _ hd1) | (with_reducible exact KVY.out _ hd2) | (with_reducible exact KVY.out _ hd3))
      clear hK K
      refine wpAnyH_take (i := 17) (oi := _) (v := ?vR117) rfl (by kernel_rfl) (by kernel_rfl) (by kernel_rfl) (fun _ _ _ h => h) (Or.inl ⟨by rfl, ?yR117⟩) hHeld ?_
      case yR117 => (intro w hSw; (try dsimp only at hSw); go_simp <;> with_reducible rfl)
      try simp only [Act.put, List.getElem_toArray, List.getElem_cons_zero, List.getElem_cons_succ, List.setIfInBounds_toArray, List.set_cons_zero, List.set_cons_succ]
      refine wpAnyH_take (i := 18) (oi := _) (v := ?vR118) rfl (by kernel_rfl) (by kernel_rfl) (by kernel_rfl) (fun _ _ _ h => h) (Or.inl ⟨by rfl, ?yR118⟩) hHeld ?_
      case yR118 => (intro w hSw; (try dsimp only at hSw); go_simp <;> with_reducible rfl)
      try simp only [Act.put, List.getElem_toArray, List.getElem_cons_zero, List.getElem_cons_succ, List.setIfInBounds_toArray, List.set_cons_zero, List.set_cons_succ]
      refine wpAnyH_take (i := 19) (oi := _) (v := ?vR119) rfl (by kernel_rfl) (by kernel_rfl) (by kernel_rfl) (fun _ _ _ h => h) (Or.inl ⟨by rfl, ?yR119⟩) hHeld ?_
      case yR119 => (intro w hSw; (try dsimp only at hSw); go_simp <;> with_reducible rfl)
      try simp only [Act.put, List.getElem_toArray, List.getElem_cons_zero, List.getElem_cons_succ, List.setIfInBounds_toArray, List.set_cons_zero, List.set_cons_succ]
      refine wpAnyH_take (i := 20) (oi := _) (v := ?vR120) rfl (by kernel_rfl) (by kernel_rfl) (by kernel_rfl) (fun _ _ _ h => h) (Or.inl ⟨by rfl, ?yR120⟩) hHeld ?_
      case yR120 => (intro w hSw; (try dsimp only at hSw); go_simp <;> with_reducible rfl)
      try simp only [Act.put, List.getElem_toArray, List.getElem_cons_zero, List.getElem_cons_succ, List.setIfInBounds_toArray, List.set_cons_zero, List.set_cons_succ]
      refine wpAnyH_take (i := 21) (oi := _) (v := ?vR121) rfl (by kernel_rfl) (by kernel_rfl) (by kernel_rfl) (fun _ _ _ h => h) (Or.inl ⟨by rfl, ?yR121⟩) hHeld ?_
      case yR121 => (intro w hSw; (try dsimp only at hSw); go_simp <;> with_reducible rfl)
      try simp only [Act.put, List.getElem_toArray, List.getElem_cons_zero, List.getElem_cons_succ, List.setIfInBounds_toArray, List.set_cons_zero, List.set_cons_succ]
      refine wpAnyH_take (i := 22) (oi := _) (v := ?vR122) rfl (by kernel_rfl) (by kernel_rfl) (by kernel_rfl) (fun _ _ _ h => h) (Or.inl ⟨by rfl, ?yR122⟩) hHeld ?_
      case yR122 => (intro w hSw; (try dsimp only at hSw); go_simp <;> with_reducible rfl)
      try simp only [Act.put, List.getElem_toArray, List.getElem_cons_zero, List.getElem_cons_succ, List.setIfInBounds_toArray, List.set_cons_zero, List.set_cons_succ]
      refine wpAnyH_done (by kernel_rfl) ?_ _
      obtain ⟨fa, fb, fc⟩ := KA.out _ hd3
      obtain ⟨x0, x1, x2, x3⟩ := fa.cells
      obtain ⟨y0, y1, y2, y3⟩ := fb.cells
      clear fa fb fc
      go_wp2_with fail
      go_at_call 13
      refine (HL1.out _ hd3).mono ?_
      rintro e wn4 ⟨rfl, bk⟩
      have hn4 : Below WF.heap.size WF wn4 := hd3.trans (bk.mono hd3.size)
      clear bk x0 x1 x2 x3 y0 y1 y2 y3
      obtain ⟨fa, fb, fc⟩ := KA.out _ hn4
      obtain ⟨y0, y1, y2, y3⟩ := fb.cells
      obtain ⟨z0, z1, z2, z3⟩ := fc.cells
      clear fa fb fc
      go_wp2_with fail
      go_at_call 13
      refine (HL4.out _ hn4).mono ?_
      rintro e wn5 ⟨rfl, bk⟩
      have hn5 : Below WF.heap.size WF wn5 := hn4.trans (bk.mono hn4.size)
      clear bk y0 y1 y2 y3 z0 z1 z2 z3
      cases r4 with
      | true =>
        have e5 := HX.out (by first | rfl | exact True.intro) (by first | rfl | exact True.intro)
        subst e5
        obtain ⟨fa, fb, fc⟩ := KA.out _ hn5
        obtain ⟨x0, x1, x2, x3⟩ := fa.cells
        obtain ⟨z0, z1, z2, z3⟩ := fc.cells
        clear fa fb fc
        go_wp2_with fail
        go_at_call 13
        refine (HL5.out _ hn5).mono ?_
        rintro e wn6 ⟨rfl, bk⟩
        have hn6 : Below WF.heap.size WF wn6 := hn5.trans (bk.mono hn5.size)
        clear bk x0 x1 x2 x3 z0 z1 z2 z3
        cases rr with
        | true =>
          have fv := KV.out _ hn6
          obtain ⟨p0, p1, p2, p3⟩ := fv.cells
          clear fv
          go_wp2_with fail
          go_at_call 15
          refine (HO1.out _ hn6).mono ?_
          rintro e wn7 ⟨rfl, bk⟩
          have hn7 : Below WF.heap.size WF wn7 := hn6.trans (bk.mono hn6.size)
          clear bk p0 p1 p2 p3
          go_wp2_with fail
          go_at_call 10
          refine (HPa.out (by first | rfl | exact True.intro) _).mono ?_
          rintro e wx ⟨ux, rfl, rx, bx⟩
          obtain ⟨qx, cx, hu, _, _⟩ := reads_strs rx
          subst hu
          have hx := hn7.trans (bx.mono hn7.size)
          have tx : Below wx.heap.size wx (wx.alloc (.cells #[.int .i64 v1, .int .i64 v2, .int .i64 v3, .slice qx pv.length cx] 26)) := (Below.refl _ _).alloc (Nat.le_refl _) _
          have X1 := four_new wx 26 (.int .i64 v1) (.int .i64 v2) (.int .i64 v3) (.slice qx pv.length cx)
          have hx1 := hx.trans (tx.mono hx.size)
          have rx1 := rx.below tx
          have fv := KV.out _ hx
          obtain ⟨p0, p1, p2, p3⟩ := fv.cells
          have lv1 := fv.lt
          clear fv
          go_wp2_with (go_at_call 17; refine (HSV.out _ _ hx1 rx1).mono ?_; rintro e wz ⟨rfl, bz⟩)
          go_ret
          exact ⟨rfl, M.out _ (hx1.trans (bz.mono hx1.size))⟩
        | false =>
          have fv := KV.out _ hn6
          obtain ⟨p0, p1, p2, p3⟩ := fv.cells
          clear fv
          go_wp2_with fail
          go_at_call 15
          refine (HO1.out _ hn6).mono ?_
          rintro e wn7 ⟨rfl, bk⟩
          have hn7 : Below WF.heap.size WF wn7 := hn6.trans (bk.mono hn6.size)
          clear bk p0 p1 p2 p3
          have es := HE.out (by first | rfl | exact True.intro)
          subst es
          go_wp2_with fail
          go_ret
          exact ⟨by rfl, M.out _ hn7⟩
      | false =>
        cases rr with
        | true =>
          have fv := KV.out _ hn5
          obtain ⟨p0, p1, p2, p3⟩ := fv.cells
          clear fv
          go_wp2_with fail
          go_at_call 15
          refine (HO1.out _ hn5).mono ?_
          rintro e wn6 ⟨rfl, bk⟩
          have hn6 : Below WF.heap.size WF wn6 := hn5.trans (bk.mono hn5.size)
          clear bk p0 p1 p2 p3
          go_wp2_with fail
          go_at_call 10
          refine (HPa.out (by first | rfl | exact True.intro) _).mono ?_
          rintro e wx ⟨ux, rfl, rx, bx⟩
          obtain ⟨qx, cx, hu, _, _⟩ := reads_strs rx
          subst hu
          have hx := hn6.trans (bx.mono hn6.size)
          have tx : Below wx.heap.size wx (wx.alloc (.cells #[.int .i64 v1, .int .i64 v2, .int .i64 v3, .slice qx pv.length cx] 26)) := (Below.refl _ _).alloc (Nat.le_refl _) _
          have X1 := four_new wx 26 (.int .i64 v1) (.int .i64 v2) (.int .i64 v3) (.slice qx pv.length cx)
          have hx1 := hx.trans (tx.mono hx.size)
          have rx1 := rx.below tx
          have fv := KV.out _ hx
          obtain ⟨p0, p1, p2, p3⟩ := fv.cells
          have lv1 := fv.lt
          clear fv
          go_wp2_with (go_at_call 17; refine (HSV.out _ _ hx1 rx1).mono ?_; rintro e wz ⟨rfl, bz⟩)
          go_ret
          exact ⟨rfl, M.out _ (hx1.trans (bz.mono hx1.size))⟩
        | false =>
          have fv := KV.out _ hn5
          obtain ⟨p0, p1, p2, p3⟩ := fv.cells
          clear fv
          go_wp2_with fail
          go_at_call 15
          refine (HO1.out _ hn5).mono ?_
          rintro e wn6 ⟨rfl, bk⟩
          have hn6 : Below WF.heap.size WF wn6 := hn5.trans (bk.mono hn5.size)
          clear bk p0 p1 p2 p3
          have es := HE.out (by first | rfl | exact True.intro)
          subst es
          go_wp2_with fail
          go_ret
          exact ⟨by rfl, M.out _ hn6⟩
    | false =>
      have hd0 : Below WF.heap.size WF wn3.drew := hn3.drew
      go_wp2_with fail
      refine wp_region_held_drew (S := (fun w' => w'.cell? ⟨BV, 0, none⟩ = some (.int .i64 v1) ∧ w'.cell? ⟨BV, 1, none⟩ = some (.int .i64 v2) ∧ w'.cell? ⟨BV, 2, none⟩ = some (.int .i64 v3) ∧ w'.cell? ⟨BV, 3, none⟩ = some (.slice qv pv.length cv) ∧ w'.cell? ⟨BY, 0, none⟩ = some (.int .i64 y1) ∧ w'.cell? ⟨BY, 1, none⟩ = some (.int .i64 y2) ∧ w'.cell? ⟨BY, 2, none⟩ = some (.int .i64 y3) ∧ w'.cell? ⟨BY, 3, none⟩ = some (.slice qy ny cy))) (by kernel_rfl) ?SR20 (fun hHeld => ?_)
      case SR20 => (first | (with_reducible exact KVY.out _ hd0) | (with_reducible exact KVY.out _ hd1) | (with_reducible exact KVY.out _ hd2) | (with_reducible exact KVY.out _ hd3))
      refine wpAnyH_take (i := 0) (oi := _) (v := ?vR20) rfl (by kernel_rfl) (by kernel_rfl) (by kernel_rfl) (fun _ _ _ h => h) (Or.inl ⟨by rfl, ?yR20⟩) hHeld ?_
      case yR20 => (intro w hSw; (try dsimp only at hSw); go_simp <;> with_reducible rfl)
      try simp only [Act.put, List.getElem_toArray, List.getElem_cons_zero, List.getElem_cons_succ, List.setIfInBounds_toArray, List.set_cons_zero, List.set_cons_succ]
      refine wpAnyH_take (i := 1) (oi := _) (v := ?vR21) rfl (by kernel_rfl) (by kernel_rfl) (by kernel_rfl) (fun _ _ _ h => h) (Or.inl ⟨by rfl, ?yR21⟩) hHeld ?_
      case yR21 => (intro w hSw; (try dsimp only at hSw); go_simp <;> with_reducible rfl)
      try simp only [Act.put, List.getElem_toArray, List.getElem_cons_zero, List.getElem_cons_succ, List.setIfInBounds_toArray, List.set_cons_zero, List.set_cons_succ]
      refine wpAnyH_take (i := 2) (oi := _) (v := ?vR22) rfl (by kernel_rfl) (by kernel_rfl) (by kernel_rfl) (fun _ _ _ h => h) (Or.inl ⟨by rfl, ?yR22⟩) hHeld ?_
      case yR22 => (intro w hSw; (try dsimp only at hSw); go_simp <;> with_reducible rfl)
      try simp only [Act.put, List.getElem_toArray, List.getElem_cons_zero, List.getElem_cons_succ, List.setIfInBounds_toArray, List.set_cons_zero, List.set_cons_succ]
      refine wpAnyH_take (i := 3) (oi := _) (v := ?vR23) rfl (by kernel_rfl) (by kernel_rfl) (by kernel_rfl) (fun _ _ _ h => h) (Or.inl ⟨by rfl, ?yR23⟩) hHeld ?_
      case yR23 => (intro w hSw; (try dsimp only at hSw); go_simp <;> with_reducible rfl)
      try simp only [Act.put, List.getElem_toArray, List.getElem_cons_zero, List.getElem_cons_succ, List.setIfInBounds_toArray, List.set_cons_zero, List.set_cons_succ]
      refine wpAnyH_take (i := 4) (oi := _) (v := ?vR24) rfl (by kernel_rfl) (by kernel_rfl) (by kernel_rfl) (fun _ _ _ h => h) (Or.inl ⟨by rfl, ?yR24⟩) hHeld ?_
      case yR24 => (intro w hSw; (try dsimp only at hSw); go_simp <;> with_reducible rfl)
      try simp only [Act.put, List.getElem_toArray, List.getElem_cons_zero, List.getElem_cons_succ, List.setIfInBounds_toArray, List.set_cons_zero, List.set_cons_succ]
      refine wpAnyH_take (i := 5) (oi := _) (v := ?vR25) rfl (by kernel_rfl) (by kernel_rfl) (by kernel_rfl) (fun _ _ _ h => h) (Or.inl ⟨by rfl, ?yR25⟩) hHeld ?_
      case yR25 => (intro w hSw; (try dsimp only at hSw); go_simp <;> with_reducible rfl)
      try simp only [Act.put, List.getElem_toArray, List.getElem_cons_zero, List.getElem_cons_succ, List.setIfInBounds_toArray, List.set_cons_zero, List.set_cons_succ]
      refine wpAnyH_take (i := 6) (oi := _) (v := undef) rfl (by kernel_rfl) (by kernel_rfl) (by kernel_rfl) (fun _ _ _ h => h) (Or.inr ⟨by rfl, rfl⟩) hHeld ?_
      try simp only [Act.put, List.getElem_toArray, List.getElem_cons_zero, List.getElem_cons_succ, List.setIfInBounds_toArray, List.set_cons_zero, List.set_cons_succ]
      refine wpAnyH_take (i := 7) (oi := _) (v := undef) rfl (by kernel_rfl) (by kernel_rfl) (by kernel_rfl) (fun _ _ _ h => h) (Or.inr ⟨by rfl, rfl⟩) hHeld ?_
      try simp only [Act.put, List.getElem_toArray, List.getElem_cons_zero, List.getElem_cons_succ, List.setIfInBounds_toArray, List.set_cons_zero, List.set_cons_succ]
      refine wpAnyH_take (i := 8) (oi := _) (v := undef) rfl (by kernel_rfl) (by kernel_rfl) (by kernel_rfl) (fun _ _ _ h => h) (Or.inr ⟨by rfl, rfl⟩) hHeld ?_
      try simp only [Act.put, List.getElem_toArray, List.getElem_cons_zero, List.getElem_cons_succ, List.setIfInBounds_toArray, List.set_cons_zero, List.set_cons_succ]
      refine wpAnyH_take (i := 9) (oi := _) (v := undef) rfl (by kernel_rfl) (by kernel_rfl) (by kernel_rfl) (fun _ _ _ h => h) (Or.inr ⟨by rfl, rfl⟩) hHeld ?_
      try simp only [Act.put, List.getElem_toArray, List.getElem_cons_zero, List.getElem_cons_succ, List.setIfInBounds_toArray, List.set_cons_zero, List.set_cons_succ]
      refine wpAnyH_take (i := 10) (oi := _) (v := ?vR210) rfl (by kernel_rfl) (by kernel_rfl) (by kernel_rfl) (fun _ _ _ h => h) (Or.inl ⟨by rfl, ?yR210⟩) hHeld ?_
      case yR210 => (intro w hSw; (try dsimp only at hSw); go_simp <;> with_reducible rfl)
      try simp only [Act.put, List.getElem_toArray, List.getElem_cons_zero, List.getElem_cons_succ, List.setIfInBounds_toArray, List.set_cons_zero, List.set_cons_succ]
      refine wpAnyH_take (i := 11) (oi := _) (v := ?vR211) rfl (by kernel_rfl) (by kernel_rfl) (by kernel_rfl) (fun _ _ _ h => h) (Or.inl ⟨by rfl, ?yR211⟩) hHeld ?_
      case yR211 => (intro w hSw; (try dsimp only at hSw); go_simp <;> with_reducible rfl)
      try simp only [Act.put, List.getElem_toArray, List.getElem_cons_zero, List.getElem_cons_succ, List.setIfInBounds_toArray, List.set_cons_zero, List.set_cons_succ]
      refine wpAnyH_take (i := 12) (oi := _) (v := ?vR212) rfl (by kernel_rfl) (by kernel_rfl) (by kernel_rfl) (fun _ _ _ h => h) (Or.inl ⟨by rfl, ?yR212⟩) hHeld ?_
      case yR212 => (intro w hSw; (try dsimp only at hSw); go_simp <;> with_reducible rfl)
      try simp only [Act.put, List.getElem_toArray, List.getElem_cons_zero, List.getElem_cons_succ, List.setIfInBounds_toArray, List.set_cons_zero, List.set_cons_succ]
      refine wpAnyH_take (i := 13) (oi := _) (v := ?vR213) rfl (by kernel_rfl) (by kernel_rfl) (by kernel_rfl) (fun _ _ _ h => h) (Or.inl ⟨by rfl, ?yR213⟩) hHeld ?_
      case yR213 => (intro w hSw; (try dsimp only at hSw); go_simp <;> with_reducible rfl)
      try simp only [Act.put, List.getElem_toArray, List.getElem_cons_zero, List.getElem_cons_succ, List.setIfInBounds_toArray, List.set_cons_zero, List.set_cons_succ]
      refine wpAnyH_take (i := 15) (oi := _) (v := ?vR214) rfl (by kernel_rfl) (by kernel_rfl) (by kernel_rfl) (fun _ _ _ h => h) (Or.inl ⟨by rfl, ?yR214⟩) hHeld ?_
      case yR214 => (intro w hSw; (try dsimp only at hSw); go_simp <;> with_reducible rfl)
      try simp only [Act.put, List.getElem_toArray, List.getElem_cons_zero, List.getElem_cons_succ, List.setIfInBounds_toArray, List.set_cons_zero, List.set_cons_succ]
      refine wpAnyH_ready (rs := [14]) (by kernel_rfl) (by simp) ?_
      refine AllReadyH.cons rfl (fun K hK => ?_) AllReadyH.nil
      go_simp
      go_wp2_with (go_at_call 15; refine (HO1.out _ hd0).mono ?_; rintro e wd2 ⟨rfl, bk⟩; have hd2 : Below WF.heap.size WF wd2 := hd0.trans (bk.mono hd0.size); clear bk)
      clear hHeld
      refine hK.out _ _ ?SR216 (fun hHeld => ?_)
      case SR216 => ((try dsimp only); first | (with_reducible exact KVY.out _ hd0) | (with_reducible exact KVY.out _ hd1) | (with_reducible exact KVY.out _ hd2) | (with_reducible exact KVY.out _ hd3))
      clear hK K
      refine wpAnyH_ready (rs := [16]) (by kernel_rfl) (by simp) ?_
      refine AllReadyH.cons rfl (fun K hK => ?_) AllReadyH.nil
      go_simp
      go_wp2_with (go_at_call 16; refine (HO2.out _ hd2).mono ?_; rintro e wd3 ⟨rfl, bk⟩; have hd3 : Below WF.heap.size WF wd3 := hd2.trans (bk.mono hd2.size); clear bk)
      clear hHeld
      refine hK.out _ _ ?SR217 (fun hHeld => ?_)
      case SR217 => ((try dsimp only); first | (with_reducible exact KVY.out _ hd0) | (with_reducible exact KVY.out _ hd1) | (with_reducible exact KVY.out _ hd2) | (with_reducible exact KVY.out _ hd3))
      clear hK K
      refine wpAnyH_take (i := 17) (oi := _) (v := ?vR217) rfl (by kernel_rfl) (by kernel_rfl) (by kernel_rfl) (fun _ _ _ h => h) (Or.inl ⟨by rfl, ?yR217⟩) hHeld ?_
      case yR217 => (intro w hSw; (try dsimp only at hSw); go_simp <;> with_reducible rfl)
      try simp only [Act.put, List.getElem_toArray, List.getElem_cons_zero, List.getElem_cons_succ, List.setIfInBounds_toArray, List.set_cons_zero, List.set_cons_succ]
      refine wpAnyH_take (i := 18) (oi := _) (v := ?vR218) rfl (by kernel_rfl) (by kernel_rfl) (by kernel_rfl) (fun _ _ _ h => h) (Or.inl ⟨by rfl, ?yR218⟩) hHeld ?_
      case yR218 => (intro w hSw; (try dsimp only at hSw); go_simp <;> with_reducible rfl)
      try simp only [Act.put, List.getElem_toArray, List.getElem_cons_zero, List.getElem_cons_succ, List.setIfInBounds_toArray, List.set_cons_zero, List.set_cons_succ]
      refine wpAnyH_take (i := 19) (oi := _) (v := ?vR219) rfl (by kernel_rfl) (by kernel_rfl) (by kernel_rfl) (fun _ _ _ h => h) (Or.inl ⟨by rfl, ?yR219⟩) hHeld ?_
      case yR219 => (intro w hSw; (try dsimp only at hSw); go_simp <;> with_reducible rfl)
      try simp only [Act.put, List.getElem_toArray, List.getElem_cons_zero, List.getElem_cons_succ, List.setIfInBounds_toArray, List.set_cons_zero, List.set_cons_succ]
      refine wpAnyH_take (i := 20) (oi := _) (v := ?vR220) rfl (by kernel_rfl) (by kernel_rfl) (by kernel_rfl) (fun _ _ _ h => h) (Or.inl ⟨by rfl, ?yR220⟩) hHeld ?_
      case yR220 => (intro w hSw; (try dsimp only at hSw); go_simp <;> with_reducible rfl)
      try simp only [Act.put, List.getElem_toArray, List.getElem_cons_zero, List.getElem_cons_succ, List.setIfInBounds_toArray, List.set_cons_zero, List.set_cons_succ]
      refine wpAnyH_take (i := 21) (oi := _) (v := ?vR221) rfl (by kernel_rfl) (by kernel_rfl) (by kernel_rfl) (fun _ _ _ h => h) (Or.inl ⟨by rfl, ?yR221⟩) hHeld ?_
      case yR221 => (intro w hSw; (try dsimp only at hSw); go_simp <;> with_reducible rfl)
      try simp only [Act.put, List.getElem_toArray, List.getElem_cons_zero, List.getElem_cons_succ, List.setIfInBounds_toArray, List.set_cons_zero, List.set_cons_succ]
      refine wpAnyH_take (i := 22) (oi := _) (v := ?vR222) rfl (by kernel_rfl) (by kernel_rfl) (by kernel_rfl) (fun _ _ _ h => h) (Or.inl ⟨by rfl, ?yR222⟩) hHeld ?_
      case yR222 => (intro w hSw; (try dsimp only at hSw); go_simp <;> with_reducible rfl)
      try simp only [Act.put, List.getElem_toArray, List.getElem_cons_zero, List.getElem_cons_succ, List.setIfInBounds_toArray, List.set_cons_zero, List.set_cons_succ]
      refine wpAnyH_done (by kernel_rfl) ?_ _
      obtain ⟨fa, fb, fc⟩ := KA.out _ hd3
      obtain ⟨x0, x1, x2, x3⟩ := fa.cells
      obtain ⟨y0, y1, y2, y3⟩ := fb.cells
      clear fa fb fc
      go_wp2_with fail
      go_at_call 13
      refine (HL1.out _ hd3).mono ?_
      rintro e wn4 ⟨rfl, bk⟩
      have hn4 : Below WF.heap.size WF wn4 := hd3.trans (bk.mono hd3.size)
      clear bk x0 x1 x2 x3 y0 y1 y2 y3
      obtain ⟨fa, fb, fc⟩ := KA.out _ hn4
      obtain ⟨y0, y1, y2, y3⟩ := fb.cells
      obtain ⟨z0, z1, z2, z3⟩ := fc.cells
      clear fa fb fc
      go_wp2_with fail
      go_at_call 13
      refine (HL4.out _ hn4).mono ?_
      rintro e wn5 ⟨rfl, bk⟩
      have hn5 : Below WF.heap.size WF wn5 := hn4.trans (bk.mono hn4.size)
      clear bk y0 y1 y2 y3 z0 z1 z2 z3
      cases r4 with
      | true =>
        have e5 := HX.out (by first | rfl | exact True.intro) (by first | rfl | exact True.intro)
        subst e5
        obtain ⟨fa, fb, fc⟩ := KA.out _ hn5
        obtain ⟨x0, x1, x2, x3⟩ := fa.cells
        obtain ⟨z0, z1, z2, z3⟩ := fc.cells
        clear fa fb fc
        go_wp2_with fail
        go_at_call 13
        refine (HL5.out _ hn5).mono ?_
        rintro e wn6 ⟨rfl, bk⟩
        have hn6 : Below WF.heap.size WF wn6 := hn5.trans (bk.mono hn5.size)
        clear bk x0 x1 x2 x3 z0 z1 z2 z3
        cases rr with
        | true =>
          have fv := KV.out _ hn6
          obtain ⟨p0, p1, p2, p3⟩ := fv.cells
          clear fv
          go_wp2_with fail
          go_at_call 15
          refine (HO1.out _ hn6).mono ?_
          rintro e wn7 ⟨rfl, bk⟩
          have hn7 : Below WF.heap.size WF wn7 := hn6.trans (bk.mono hn6.size)
          clear bk p0 p1 p2 p3
          go_wp2_with fail
          go_at_call 10
          refine (HPa.out (by first | rfl | exact True.intro) _).mono ?_
          rintro e wx ⟨ux, rfl, rx, bx⟩
          obtain ⟨qx, cx, hu, _, _⟩ := reads_strs rx
          subst hu
          have hx := hn7.trans (bx.mono hn7.size)
          have tx : Below wx.heap.size wx (wx.alloc (.cells #[.int .i64 v1, .int .i64 v2, .int .i64 v3, .slice qx pv.length cx] 26)) := (Below.refl _ _).alloc (Nat.le_refl _) _
          have X1 := four_new wx 26 (.int .i64 v1) (.int .i64 v2) (.int .i64 v3) (.slice qx pv.length cx)
          have hx1 := hx.trans (tx.mono hx.size)
          have rx1 := rx.below tx
          have fv := KV.out _ hx
          obtain ⟨p0, p1, p2, p3⟩ := fv.cells
          have lv1 := fv.lt
          clear fv
          go_wp2_with (go_at_call 17; refine (HSV.out _ _ hx1 rx1).mono ?_; rintro e wz ⟨rfl, bz⟩)
          go_ret
          exact ⟨rfl, M.out _ (hx1.trans (bz.mono hx1.size))⟩
        | false =>
          have fv := KV.out _ hn6
          obtain ⟨p0, p1, p2, p3⟩ := fv.cells
          clear fv
          go_wp2_with fail
          go_at_call 15
          refine (HO1.out _ hn6).mono ?_
          rintro e wn7 ⟨rfl, bk⟩
          have hn7 : Below WF.heap.size WF wn7 := hn6.trans (bk.mono hn6.size)
          clear bk p0 p1 p2 p3
          have es := HE.out (by first | rfl | exact True.intro)
          subst es
          go_wp2_with fail
          go_ret
          exact ⟨by rfl, M.out _ hn7⟩
      | false =>
        cases rr with
        | true =>
          have fv := KV.out _ hn5
          obtain ⟨p0, p1, p2, p3⟩ := fv.cells
          clear fv
          go_wp2_with fail
          go_at_call 15
          refine (HO1.out _ hn5).mono ?_
          rintro e wn6 ⟨rfl, bk⟩
          have hn6 : Below WF.heap.size WF wn6 := hn5.trans (bk.mono hn5.size)
          clear bk p0 p1 p2 p3
          go_wp2_with fail
          go_at_call 10
          refine (HPa.out (by first | rfl | exact True.intro) _).mono ?_
          rintro e wx ⟨ux, rfl, rx, bx⟩
          obtain ⟨qx, cx, hu, _, _⟩ := reads_strs rx
          subst hu
          have hx := hn6.trans (bx.mono hn6.size)
          have tx : Below wx.heap.size wx (wx.alloc (.cells #[.int .i64 v1, .int .i64 v2, .int .i64 v3, .slice qx pv.length cx] 26)) := (Below.refl _ _).alloc (Nat.le_refl _) _
          have X1 := four_new wx 26 (.int .i64 v1) (.int .i64 v2) (.int .i64 v3) (.slice qx pv.length cx)
          have hx1 := hx.trans (tx.mono hx.size)
          have rx1 := rx.below tx
          have fv := KV.out _ hx
          obtain ⟨p0, p1, p2, p3⟩ := fv.cells
          have lv1 := fv.lt
          clear fv
          go_wp2_with (go_at_call 17; refine (HSV.out _ _ hx1 rx1).mono ?_; rintro e wz ⟨rfl, bz⟩)
          go_ret
          exact ⟨rfl, M.out _ (hx1.trans (bz.mono hx1.size))⟩
        | false =>
          have fv := KV.out _ hn5
          obtain ⟨p0, p1, p2, p3⟩ := fv.cells
          clear fv
          go_wp2_with fail
          go_at_call 15
          refine (HO1.out _ hn5).mono ?_
          rintro e wn6 ⟨rfl, bk⟩
          have hn6 : Below WF.heap.size WF wn6 := hn5.trans (bk.mono hn5.size)
          clear bk p0 p1 p2 p3
          have es := HE.out (by first | rfl | exact True.intro)
          subst es
          go_wp2_with fail
          go_ret
          exact ⟨by rfl, M.out _ hn6⟩
  · clear HW
    obtain ⟨fa, fb, fc⟩ := KA.out _ h0
    obtain ⟨x0, x1, x2, x3⟩ := fa.cells
    obtain ⟨y0, y1, y2, y3⟩ := fb.cells
    clear fa fb fc
    go_wp2_with fail
    go_at_call 13
    refine (HL1.out _ h0).mono ?_
    rintro e wn1 ⟨rfl, bk⟩
    have hn1 : Below WF.heap.size WF wn1 := h0.trans (bk.mono h0.size)
    clear bk x0 x1 x2 x3 y0 y1 y2 y3
    obtain ⟨fa, fb, fc⟩ := KA.out _ hn1
    obtain ⟨x0, x1, x2, x3⟩ := fa.cells
    obtain ⟨y0, y1, y2, y3⟩ := fb.cells
    clear fa fb fc
    go_wp2_with fail
    go_at_call 13
    refine (HL2.out _ hn1).mono ?_
    rintro e wn2 ⟨rfl, bk⟩
    have hn2 : Below WF.heap.size WF wn2 := hn1.trans (bk.mono hn1.size)
    clear bk x0 x1 x2 x3 y0 y1 y2 y3
    obtain ⟨fa, fb, fc⟩ := KA.out _ hn2
    obtain ⟨x0, x1, x2, x3⟩ := fa.cells
    obtain ⟨y0, y1, y2, y3⟩ := fb.cells
    clear fa fb fc
    go_wp2_with fail
    go_at_call 14
    refine (HL3.out _ hn2).mono ?_
    rintro e wn3 ⟨rfl, bk⟩
    have hn3 : Below WF.heap.size WF wn3 := hn2.trans (bk.mono hn2.size)
    clear bk x0 x1 x2 x3 y0 y1 y2 y3
    cases ok with
    | true =>
      have hd0 : Below WF.heap.size WF wn3.drew := hn3.drew
      go_wp2_with fail
      refine wp_region_held_drew (S := (fun w' => w'.cell? ⟨BV, 0, none⟩ = some (.int .i64 v1) ∧ w'.cell? ⟨BV, 1, none⟩ = some (.int .i64 v2) ∧ w'.cell? ⟨BV, 2, none⟩ = some (.int .i64 v3) ∧ w'.cell? ⟨BV, 3, none⟩ = some (.slice qv pv.length cv) ∧ w'.cell? ⟨BY, 0, none⟩ = some (.int .i64 y1) ∧ w'.cell? ⟨BY, 1, none⟩ = some (.int .i64 y2) ∧ w'.cell? ⟨BY, 2, none⟩ = some (.int .i64 y3) ∧ w'.cell? ⟨BY, 3, none⟩ = some (.slice qy ny cy))) (by kernel_rfl) ?SR30 (fun hHeld => ?_)
      case SR30 => (first | (with_reducible exact KVY.out _ hd0) | (with_reducible exact KVY.out _ hd1) | (with_reducible exact KVY.out _ hd2) | (with_reducible exact KVY.out _ hd3))
      refine wpAnyH_take (i := 0) (oi := _) (v := ?vR30) rfl (by kernel_rfl) (by kernel_rfl) (by kernel_rfl) (fun _ _ _ h => h) (Or.inl ⟨by rfl, ?yR30⟩) hHeld ?_
      case yR30 => (intro w hSw; (try dsimp only at hSw); go_simp <;> with_reducible rfl)
      try simp only [Act.put, List.getElem_toArray, List.getElem_cons_zero, List.getElem_cons_succ, List.setIfInBounds_toArray, List.set_cons_zero, List.set_cons_succ]
      refine wpAnyH_take (i := 1) (oi := _) (v := ?vR31) rfl (by kernel_rfl) (by kernel_rfl) (by kernel_rfl) (fun _ _ _ h => h) (Or.inl ⟨by rfl, ?yR31⟩) hHeld ?_
      case yR31 => (intro w hSw; (try dsimp only at hSw); go_simp <;> with_reducible rfl)
      try simp only [Act.put, List.getElem_toArray, List.getElem_cons_zero, List.getElem_cons_succ, List.setIfInBounds_toArray, List.set_cons_zero, List.set_cons_succ]
      refine wpAnyH_take (i := 2) (oi := _) (v := ?vR32) rfl (by kernel_rfl) (by kernel_rfl) (by kernel_rfl) (fun _ _ _ h => h) (Or.inl ⟨by rfl, ?yR32⟩) hHeld ?_
      case yR32 => (intro w hSw; (try dsimp only at hSw); go_simp <;> with_reducible rfl)
      try simp only [Act.put, List.getElem_toArray, List.getElem_cons_zero, List.getElem_cons_succ, List.setIfInBounds_toArray, List.set_cons_zero, List.set_cons_succ]
      refine wpAnyH_take (i := 3) (oi := _) (v := ?vR33) rfl (by kernel_rfl) (by kernel_rfl) (by kernel_rfl) (fun _ _ _ h => h) (Or.inl ⟨by rfl, ?yR33⟩) hHeld ?_
      case yR33 => (intro w hSw; (try dsimp only at hSw); go_simp <;> with_reducible rfl)
      try simp only [Act.put, List.getElem_toArray, List.getElem_cons_zero, List.getElem_cons_succ, List.setIfInBounds_toArray, List.set_cons_zero, List.set_cons_succ]
      refine wpAnyH_take (i := 4) (oi := _) (v := ?vR34) rfl (by kernel_rfl) (by kernel_rfl) (by kernel_rfl) (fun _ _ _ h => h) (Or.inl ⟨by rfl, ?yR34⟩) hHeld ?_
      case yR34 => (intro w hSw; (try dsimp only at hSw); go_simp <;> with_reducible rfl)
      try simp only [Act.put, List.getElem_toArray, List.getElem_cons_zero, List.getElem_cons_succ, List.setIfInBounds_toArray, List.set_cons_zero, List.set_cons_succ]
      refine wpAnyH_take (i := 5) (oi := _) (v := ?vR35) rfl (by kernel_rfl) (by kernel_rfl) (by kernel_rfl) (fun _ _ _ h => h) (Or.inl ⟨by rfl, ?yR35⟩) hHeld ?_
      case yR35 => (intro w hSw; (try dsimp only at hSw); go_simp <;> with_reducible rfl)
      try simp only [Act.put, List.getElem_toArray, List.getElem_cons_zero, List.getElem_cons_succ, List.setIfInBounds_toArray, List.set_cons_zero, List.set_cons_succ]
      refine wpAnyH_take (i := 6) (oi := _) (v := ?vR36) rfl (by kernel_rfl) (by kernel_rfl) (by kernel_rfl) (fun _ _ _ h => h) (Or.inl ⟨by rfl, ?yR36⟩) hHeld ?_
      case yR36 => (intro w hSw; (try dsimp only at hSw); go_simp <;> with_reducible rfl)
      try simp only [Act.put, List.getElem_toArray, List.getElem_cons_zero, List.getElem_cons_succ, List.setIfInBounds_toArray, List.set_cons_zero, List.set_cons_succ]
      refine wpAnyH_take (i := 8) (oi := _) (v := ?vR37) rfl (by kernel_rfl) (by kernel_rfl) (by kernel_rfl) (fun _ _ _ h => h) (Or.inl ⟨by rfl, ?yR37⟩) hHeld ?_
      case yR37 => (intro w hSw; (try dsimp only at hSw); go_simp <;> with_reducible rfl)
      try simp only [Act.put, List.getElem_toArray, List.getElem_cons_zero, List.getElem_cons_succ, List.setIfInBounds_toArray, List.set_cons_zero, List.set_cons_succ]
      refine wpAnyH_ready (rs := [7]) (by kernel_rfl) (by simp) ?_
      refine AllReadyH.cons rfl (fun K hK => ?_) AllReadyH.nil
      go_simp
      go_wp2_with (go_at_call 8; refine (HYT.out (by first | rfl | exact True.intro) _ hd0).mono ?_; rintro e wd1 ⟨rfl, bk⟩; have hd1 : Below WF.heap.size WF wd1 := hd0.trans (bk.mono hd0.size); clear bk)
      clear hHeld
      refine hK.out _ _ ?SR39 (fun hHeld => ?_)
      case SR39 => ((try dsimp only); first | (with_reducible exact KVY.out _ hd0) | (with_reducible exact KVY.out _ hd1) | (with_reducible exact KVY.out _ hd2) | (with_reducible exact KVY.out _ hd3))
      clear hK K
      refine wpAnyH_take (i := 9) (oi := _) (v := ?vR39) rfl (by kernel_rfl) (by kernel_rfl) (by kernel_rfl) (fun _ _ _ h => h) (Or.inl ⟨by rfl, ?yR39⟩) hHeld ?_
      case yR39 => (intro w hSw; (try dsimp only at hSw); go_simp <;> with_reducible rfl)
      try simp only [Act.put, List.getElem_toArray, List.getElem_cons_zero, List.getElem_cons_succ, List.setIfInBounds_toArray, List.set_cons_zero, List.set_cons_succ]
      refine wpAnyH_take (i := 10) (oi := _) (v := ?vR310) rfl (by kernel_rfl) (by kernel_rfl) (by kernel_rfl) (fun _ _ _ h => h) (Or.inl ⟨by rfl, ?yR310⟩) hHeld ?_
      case yR310 => (intro w hSw; (try dsimp only at hSw); go_simp <;> with_reducible rfl)
      try simp only [Act.put, List.getElem_toArray, List.getElem_cons_zero, List.getElem_cons_succ, List.setIfInBounds_toArray, List.set_cons_zero, List.set_cons_succ]
      refine wpAnyH_take (i := 11) (oi := _) (v := ?vR311) rfl (by kernel_rfl) (by kernel_rfl) (by kernel_rfl) (fun _ _ _ h => h) (Or.inl ⟨by rfl, ?yR311⟩) hHeld ?_
      case yR311 => (intro w hSw; (try dsimp only at hSw); go_simp <;> with_reducible rfl)
      try simp only [Act.put, List.getElem_toArray, List.getElem_cons_zero, List.getElem_cons_succ, List.setIfInBounds_toArray, List.set_cons_zero, List.set_cons_succ]
      refine wpAnyH_take (i := 12) (oi := _) (v := ?vR312) rfl (by kernel_rfl) (by kernel_rfl) (by kernel_rfl) (fun _ _ _ h => h) (Or.inl ⟨by rfl, ?yR312⟩) hHeld ?_
      case yR312 => (intro w hSw; (try dsimp only at hSw); go_simp <;> with_reducible rfl)
      try simp only [Act.put, List.getElem_toArray, List.getElem_cons_zero, List.getElem_cons_succ, List.setIfInBounds_toArray, List.set_cons_zero, List.set_cons_succ]
      refine wpAnyH_take (i := 13) (oi := _) (v := ?vR313) rfl (by kernel_rfl) (by kernel_rfl) (by kernel_rfl) (fun _ _ _ h => h) (Or.inl ⟨by rfl, ?yR313⟩) hHeld ?_
      case yR313 => (intro w hSw; (try dsimp only at hSw); go_simp <;> with_reducible rfl)
      try simp only [Act.put, List.getElem_toArray, List.getElem_cons_zero, List.getElem_cons_succ, List.setIfInBounds_toArray, List.set_cons_zero, List.set_cons_succ]
      refine wpAnyH_take (i := 15) (oi := _) (v := ?vR314) rfl (by kernel_rfl) (by kernel_rfl) (by kernel_rfl) (fun _ _ _ h => h) (Or.inl ⟨by rfl, ?yR314⟩) hHeld ?_
      case yR314 => (intro w hSw; (try dsimp only at hSw); go_simp <;> with_reducible rfl)
      try simp only [Act.put, List.getElem_toArray, List.getElem_cons_zero, List.getElem_cons_succ, List.setIfInBounds_toArray, List.set_cons_zero, List.set_cons_succ]
      refine wpAnyH_ready (rs := [14]) (by kernel_rfl) (by simp) ?_
      refine AllReadyH.cons rfl (fun K hK => ?_) AllReadyH.nil
      go_simp
      go_wp2_with (go_at_call 15; refine (HO1.out _ hd1).mono ?_; rintro e wd2 ⟨rfl, bk⟩; have hd2 : Below WF.heap.size WF wd2 := hd1.trans (bk.mono hd1.size); clear bk)
      clear hHeld
      refine hK.out _ _ ?SR316 (fun hHeld => ?_)
      case SR316 => ((try dsimp only); first | (with_reducible exact KVY.out _ hd0) | (with_reducible exact KVY.out _ hd1) | (with_reducible exact KVY.out _ hd2) | (with_reducible exact KVY.out _ hd3))
      clear hK K
      refine wpAnyH_ready (rs := [16]) (by kernel_rfl) (by simp) ?_
      refine AllReadyH.cons rfl (fun K hK => ?_) AllReadyH.nil
      go_simp
      go_wp2_with (go_at_call 16; refine (HO2.out _ hd2).mono ?_; rintro e wd3 ⟨rfl, bk⟩; have hd3 : Below WF.heap.size WF wd3 := hd2.trans (bk.mono hd2.size); clear bk)
      clear hHeld
      refine hK.out _ _ ?SR317 (fun hHeld => ?_)
      case SR317 => ((try dsimp only); first | (with_reducible exact KVY.out _ hd0) | (with_reducible exact KVY.out _ hd1) | (with_reducible exact KVY.out _ hd2) | (with_reducible exact KVY.out _ hd3))
      clear hK K
      refine wpAnyH_take (i := 17) (oi := _) (v := ?vR317) rfl (by kernel_rfl) (by kernel_rfl) (by kernel_rfl) (fun _ _ _ h => h) (Or.inl ⟨by rfl, ?yR317⟩) hHeld ?_
      case yR317 => (intro w hSw; (try dsimp only at hSw); go_simp <;> with_reducible rfl)
      try simp only [Act.put, List.getElem_toArray, List.getElem_cons_zero, List.getElem_cons_succ, List.setIfInBounds_toArray, List.set_cons_zero, List.set_cons_succ]
      refine wpAnyH_take (i := 18) (oi := _) (v := ?vR318) rfl (by kernel_rfl) (by kernel_rfl) (by kernel_rfl) (fun _ _ _ h => h) (Or.inl ⟨by rfl, ?yR318⟩) hHeld ?_
      case yR318 => (intro w hSw; (try dsimp only at hSw); go_simp <;> with_reducible rfl)
      try simp only [Act.put, List.getElem_toArray, List.getElem_cons_zero, List.getElem_cons_succ, List.setIfInBounds_toArray, List.set_cons_zero, List.set_cons_succ]
      refine wpAnyH_take (i := 19) (oi := _) (v := ?vR319) rfl (by kernel_rfl) (by kernel_rfl) (by kernel_rfl) (fun _ _ _ h => h) (Or.inl ⟨by rfl, ?yR319⟩) hHeld ?_
      case yR319 => (intro w hSw; (try dsimp only at hSw); go_simp <;> with_reducible rfl)
      try simp only [Act.put, List.getElem_toArray, List.getElem_cons_zero, List.getElem_cons_succ, List.setIfInBounds_toArray, List.set_cons_zero, List.set_cons_succ]
      refine wpAnyH_take (i := 20) (oi := _) (v := ?vR320) rfl (by kernel_rfl) (by kernel_rfl) (by kernel_rfl) (fun _ _ _ h => h) (Or.inl ⟨by rfl, ?yR320⟩) hHeld ?_
      case yR320 => (intro w hSw; (try dsimp only at hSw); go_simp <;> with_reducible rfl)
      try simp only [Act.put, List.getElem_toArray, List.getElem_cons_zero, List.getElem_cons_succ, List.setIfInBounds_toArray, List.set_cons_zero, List.set_cons_succ]
      refine wpAnyH_take (i := 21) (oi := _) (v := ?vR321) rfl (by kernel_rfl) (by kernel_rfl) (by kernel_rfl) (fun _ _ _ h => h) (Or.inl ⟨by rfl, ?yR321⟩) hHeld ?_
      case yR321 => (intro w hSw; (try dsimp only at hSw); go_simp <;> with_reducible rfl)
      try simp only [Act.put, List.getElem_toArray, List.getElem_cons_zero, List.getElem_cons_succ, List.setIfInBounds_toArray, List.set_cons_zero, List.set_cons_succ]
      refine wpAnyH_take (i := 22) (oi := _) (v := ?vR322) rfl (by kernel_rfl) (by kernel_rfl) (by kernel_rfl) (fun _ _ _ h => h) (Or.inl ⟨by rfl, ?yR322⟩) hHeld ?_
      case yR322 => (intro w hSw; (try dsimp only at hSw); go_simp <;> with_reducible rfl)
      try simp only [Act.put, List.getElem_toArray, List.getElem_cons_zero, List.getElem_cons_succ, List.setIfInBounds_toArray, List.set_cons_zero, List.set_cons_succ]
      refine wpAnyH_done (by kernel_rfl) ?_ _
      obtain ⟨fa, fb, fc⟩ := KA.out _ hd3
      obtain ⟨x0, x1, x2, x3⟩ := fa.cells
      obtain ⟨y0, y1, y2, y3⟩ := fb.cells
      clear fa fb fc
      go_wp2_with fail
      go_at_call 13
      refine (HL1.out _ hd3).mono ?_
      rintro e wn4 ⟨rfl, bk⟩
      have hn4 : Below WF.heap.size WF wn4 := hd3.trans (bk.mono hd3.size)
      clear bk x0 x1 x2 x3 y0 y1 y2 y3
      cases rr with
      | true =>
        have fv := KV.out _ hn4
        obtain ⟨p0, p1, p2, p3⟩ := fv.cells
        clear fv
        go_wp2_with fail
        go_at_call 15
        refine (HO1.out _ hn4).mono ?_
        rintro e wn5 ⟨rfl, bk⟩
        have hn5 : Below WF.heap.size WF wn5 := hn4.trans (bk.mono hn4.size)
        clear bk p0 p1 p2 p3
        go_wp2_with fail
        go_at_call 10
        refine (HPa.out (by first | rfl | exact True.intro) _).mono ?_
        rintro e wx ⟨ux, rfl, rx, bx⟩
        obtain ⟨qx, cx, hu, _, _⟩ := reads_strs rx
        subst hu
        have hx := hn5.trans (bx.mono hn5.size)
        have tx : Below wx.heap.size wx (wx.alloc (.cells #[.int .i64 v1, .int .i64 v2, .int .i64 v3, .slice qx pv.length cx] 26)) := (Below.refl _ _).alloc (Nat.le_refl _) _
        have X1 := four_new wx 26 (.int .i64 v1) (.int .i64 v2) (.int .i64 v3) (.slice qx pv.length cx)
        have hx1 := hx.trans (tx.mono hx.size)
        have rx1 := rx.below tx
        have fv := KV.out _ hx
        obtain ⟨p0, p1, p2, p3⟩ := fv.cells
        have lv1 := fv.lt
        clear fv
        go_wp2_with (go_at_call 17; refine (HSV.out _ _ hx1 rx1).mono ?_; rintro e wz ⟨rfl, bz⟩)
        go_ret
        exact ⟨rfl, M.out _ (hx1.trans (bz.mono hx1.size))⟩
      | false =>
        have fv := KV.out _ hn4
        obtain ⟨p0, p1, p2, p3⟩ := fv.cells
        clear fv
        go_wp2_with fail
        go_at_call 15
        refine (HO1.out _ hn4).mono ?_
        rintro e wn5 ⟨rfl, bk⟩
        have hn5 : Below WF.heap.size WF wn5 := hn4.trans (bk.mono hn4.size)
        clear bk p0 p1 p2 p3
        have es := HE.out (by first | rfl | exact True.intro)
        subst es
        go_wp2_with fail
        go_ret
        exact ⟨by rfl, M.out _ hn5⟩
    | false =>
      have hd0 : Below WF.heap.size WF wn3.drew := hn3.drew
      go_wp2_with fail
      refine wp_region_held_drew (S := (fun w' => w'.cell? ⟨BV, 0, none⟩ = some (.int .i64 v1) ∧ w'.cell? ⟨BV, 1, none⟩ = some (.int .i64 v2) ∧ w'.cell? ⟨BV, 2, none⟩ = some (.int .i64 v3) ∧ w'.cell? ⟨BV, 3, none⟩ = some (.slice qv pv.length cv) ∧ w'.cell? ⟨BY, 0, none⟩ = some (.int .i64 y1) ∧ w'.cell? ⟨BY, 1, none⟩ = some (.int .i64 y2) ∧ w'.cell? ⟨BY, 2, none⟩ = some (.int .i64 y3) ∧ w'.cell? ⟨BY, 3, none⟩ = some (.slice qy ny cy))) (by kernel_rfl) ?SR40 (fun hHeld => ?_)
      case SR40 => (first | (with_reducible exact KVY.out _ hd0) | (with_reducible exact KVY.out _ hd1) | (with_reducible exact KVY.out _ hd2) | (with_reducible exact KVY.out _ hd3))
      refine wpAnyH_take (i := 0) (oi := _) (v := ?vR40) rfl (by kernel_rfl) (by kernel_rfl) (by kernel_rfl) (fun _ _ _ h => h) (Or.inl ⟨by rfl, ?yR40⟩) hHeld ?_
      case yR40 => (intro w hSw; (try dsimp only at hSw); go_simp <;> with_reducible rfl)
      try simp only [Act.put, List.getElem_toArray, List.getElem_cons_zero, List.getElem_cons_succ, List.setIfInBounds_toArray, List.set_cons_zero, List.set_cons_succ]
      refine wpAnyH_take (i := 1) (oi := _) (v := ?vR41) rfl (by kernel_rfl) (by kernel_rfl) (by kernel_rfl) (fun _ _ _ h => h) (Or.inl ⟨by rfl, ?yR41⟩) hHeld ?_
      case yR41 => (intro w hSw; (try dsimp only at hSw); go_simp <;> with_reducible rfl)
      try simp only [Act.put, List.getElem_toArray, List.getElem_cons_zero, List.getElem_cons_succ, List.setIfInBounds_toArray, List.set_cons_zero, List.set_cons_succ]
      refine wpAnyH_take (i := 2) (oi := _) (v := ?vR42) rfl (by kernel_rfl) (by kernel_rfl) (by kernel_rfl) (fun _ _ _ h => h) (Or.inl ⟨by rfl, ?yR42⟩) hHeld ?_
      case yR42 => (intro w hSw; (try dsimp only at hSw); go_simp <;> with_reducible rfl)
      try simp only [Act.put, List.getElem_toArray, List.getElem_cons_zero, List.getElem_cons_succ, List.setIfInBounds_toArray, List.set_cons_zero, List.set_cons_succ]
      refine wpAnyH_take (i := 3) (oi := _) (v := ?vR43) rfl (by kernel_rfl) (by kernel_rfl) (by kernel_rfl) (fun _ _ _ h => h) (Or.inl ⟨by rfl, ?yR43⟩) hHeld ?_
      case yR43 => (intro w hSw; (try dsimp only at hSw); go_simp <;> with_reducible rfl)
      try simp only [Act.put, List.getElem_toArray, List.getElem_cons_zero, List.getElem_cons_succ, List.setIfInBounds_toArray, List.set_cons_zero, List.set_cons_succ]
      refine wpAnyH_take (i := 4) (oi := _) (v := ?vR44) rfl (by kernel_rfl) (by kernel_rfl) (by kernel_rfl) (fun _ _ _ h => h) (Or.inl ⟨by rfl, ?yR44⟩) hHeld ?_
      case yR44 => (intro w hSw; (try dsimp only at hSw); go_simp <;> with_reducible rfl)
      try simp only [Act.put, List.getElem_toArray, List.getElem_cons_zero, List.getElem_cons_succ, List.setIfInBounds_toArray, List.set_cons_zero, List.set_cons_succ]
      refine wpAnyH_take (i := 5) (oi := _) (v := ?vR45) rfl (by kernel_rfl) (by kernel_rfl) (by kernel_rfl) (fun _ _ _ h => h) (Or.inl ⟨by rfl, ?yR45⟩) hHeld ?_
      case yR45 => (intro w hSw; (try dsimp only at hSw); go_simp <;> with_reducible rfl)
      try simp only [Act.put, List.getElem_toArray, List.getElem_cons_zero, List.getElem_cons_succ, List.setIfInBounds_toArray, List.set_cons_zero, List.set_cons_succ]
      refine wpAnyH_take (i := 6) (oi := _) (v := undef) rfl (by kernel_rfl) (by kernel_rfl) (by kernel_rfl) (fun _ _ _ h => h) (Or.inr ⟨by rfl, rfl⟩) hHeld ?_
      try simp only [Act.put, List.getElem_toArray, List.getElem_cons_zero, List.getElem_cons_succ, List.setIfInBounds_toArray, List.set_cons_zero, List.set_cons_succ]
      refine wpAnyH_take (i := 7) (oi := _) (v := undef) rfl (by kernel_rfl) (by kernel_rfl) (by kernel_rfl) (fun _ _ _ h => h) (Or.inr ⟨by rfl, rfl⟩) hHeld ?_
      try simp only [Act.put, List.getElem_toArray, List.getElem_cons_zero, List.getElem_cons_succ, List.setIfInBounds_toArray, List.set_cons_zero, List.set_cons_succ]
      refine wpAnyH_take (i := 8) (oi := _) (v := undef) rfl (by kernel_rfl) (by kernel_rfl) (by kernel_rfl) (fun _ _ _ h => h) (Or.inr ⟨by rfl, rfl⟩) hHeld ?_
      try simp only [Act.put, List.getElem_toArray, List.getElem_cons_zero, List.getElem_cons_succ, List.setIfInBounds_toArray, List.set_cons_zero, List.set_cons_succ]
      refine wpAnyH_take (i := 9) (oi := _) (v := undef) rfl (by kernel_rfl) (by kernel_rfl) (by kernel_rfl) (fun _ _ _ h => h) (Or.inr ⟨by rfl, rfl⟩) hHeld ?_
      try simp only [Act.put, List.getElem_toArray, List.getElem_cons_zero, List.getElem_cons_succ, List.setIfInBounds_toArray, List.set_cons_zero, List.set_cons_succ]
      refine wpAnyH_take (i := 10) (oi := _) (v := ?vR410) rfl (by kernel_rfl) (by kernel_rfl) (by kernel_rfl) (fun _ _ _ h => h) (Or.inl ⟨by rfl, ?yR410⟩) hHeld ?_
      case yR410 => (intro w hSw; (try dsimp only at hSw); go_simp <;> with_reducible rfl)
      try simp only [Act.put, List.getElem_toArray, List.getElem_cons_zero, List.getElem_cons_succ, List.setIfInBounds_toArray, List.set_cons_zero, List.set_cons_succ]
      refine wpAnyH_take (i := 11) (oi := _) (v := ?vR411) rfl (by kernel_rfl) (by kernel_rfl) (by kernel_rfl) (fun _ _ _ h => h) (Or.inl ⟨by rfl, ?yR411⟩) hHeld ?_
      case yR411 => (intro w hSw; (try dsimp only at hSw); go_simp <;> with_reducible rfl)
      try simp only [Act.put, List.getElem_toArray, List.getElem_cons_zero, List.getElem_cons_succ, List.setIfInBounds_toArray, List.set_cons_zero, List.set_cons_succ]
      refine wpAnyH_take (i := 12) (oi := _) (v := ?vR412) rfl (by kernel_rfl) (by kernel_rfl) (by kernel_rfl) (fun _ _ _ h => h) (Or.inl ⟨by rfl, ?yR412⟩) hHeld ?_
      case yR412 => (intro w hSw; (try dsimp only at hSw); go_simp <;> with_reducible rfl)
      try simp only [Act.put, List.getElem_toArray, List.getElem_cons_zero, List.getElem_cons_succ, List.setIfInBounds_toArray, List.set_cons_zero, List.set_cons_succ]
      refine wpAnyH_take (i := 13) (oi := _) (v := ?vR413) rfl (by kernel_rfl) (by kernel_rfl) (by kernel_rfl) (fun _ _ _ h => h) (Or.inl ⟨by rfl, ?yR413⟩) hHeld ?_
      case yR413 => (intro w hSw; (try dsimp only at hSw); go_simp <;> with_reducible rfl)
      try simp only [Act.put, List.getElem_toArray, List.getElem_cons_zero, List.getElem_cons_succ, List.setIfInBounds_toArray, List.set_cons_zero, List.set_cons_succ]
      refine wpAnyH_take (i := 15) (oi := _) (v := ?vR414) rfl (by kernel_rfl) (by kernel_rfl) (by kernel_rfl) (fun _ _ _ h => h) (Or.inl ⟨by rfl, ?yR414⟩) hHeld ?_
      case yR414 => (intro w hSw; (try dsimp only at hSw); go_simp <;> with_reducible rfl)
      try simp only [Act.put, List.getElem_toArray, List.getElem_cons_zero, List.getElem_cons_succ, List.setIfInBounds_toArray, List.set_cons_zero, List.set_cons_succ]
      refine wpAnyH_ready (rs := [14]) (by kernel_rfl) (by simp) ?_
      refine AllReadyH.cons rfl (fun K hK => ?_) AllReadyH.nil
      go_simp
      go_wp2_with (go_at_call 15; refine (HO1.out _ hd0).mono ?_; rintro e wd2 ⟨rfl, bk⟩; have hd2 : Below WF.heap.size WF wd2 := hd0.trans (bk.mono hd0.size); clear bk)
      clear hHeld
      refine hK.out _ _ ?SR416 (fun hHeld => ?_)
      case SR416 => ((try dsimp only); first | (with_reducible exact KVY.out _ hd0) | (with_reducible exact KVY.out _ hd1) | (with_reducible exact KVY.out _ hd2) | (with_reducible exact KVY.out _ hd3))
      clear hK K
      refine wpAnyH_ready (rs := [16]) (by kernel_rfl) (by simp) ?_
      refine AllReadyH.cons rfl (fun K hK => ?_) AllReadyH.nil
      go_simp
      go_wp2_with (go_at_call 16; refine (HO2.out _ hd2).mono ?_; rintro e wd3 ⟨rfl, bk⟩; have hd3 : Below WF.heap.size WF wd3 := hd2.trans (bk.mono hd2.size); clear bk)
      clear hHeld
      refine hK.out _ _ ?SR417 (fun hHeld => ?_)
      case SR417 => ((try dsimp only); first | (with_reducible exact KVY.out _ hd0) | (with_reducible exact KVY.out _ hd1) | (with_reducible exact KVY.out _ hd2) | (with_reducible exact KVY.out _ hd3))
      clear hK K
      refine wpAnyH_take (i := 17) (oi := _) (v := ?vR417) rfl (by kernel_rfl) (by kernel_rfl) (by kernel_rfl) (fun _ _ _ h => h) (Or.inl ⟨by rfl, ?yR417⟩) hHeld ?_
      case yR417 => (intro w hSw; (try dsimp only at hSw); go_simp <;> with_reducible rfl)
      try simp only [Act.put, List.getElem_toArray, List.getElem_cons_zero, List.getElem_cons_succ, List.setIfInBounds_toArray, List.set_cons_zero, List.set_cons_succ]
      refine wpAnyH_take (i := 18) (oi := _) (v := ?vR418) rfl (by kernel_rfl) (by kernel_rfl) (by kernel_rfl) (fun _ _ _ h => h) (Or.inl ⟨by rfl, ?yR418⟩) hHeld ?_
      case yR418 => (intro w hSw; (try dsimp only at hSw); go_simp <;> with_reducible rfl)
      try simp only [Act.put, List.getElem_toArray, List.getElem_cons_zero, List.getElem_cons_succ, List.setIfInBounds_toArray, List.set_cons_zero, List.set_cons_succ]
      refine wpAnyH_take (i := 19) (oi := _) (v := ?vR419) rfl (by kernel_rfl) (by kernel_rfl) (by kernel_rfl) (fun _ _ _ h => h) (Or.inl ⟨by rfl, ?yR419⟩) hHeld ?_
      case yR419 => (intro w hSw; (try dsimp only at hSw); go_simp <;> with_reducible rfl)
      try simp only [Act.put, List.getElem_toArray, List.getElem_cons_zero, List.getElem_cons_succ, List.setIfInBounds_toArray, List.set_cons_zero, List.set_cons_succ]
      refine wpAnyH_take (i := 20) (oi := _) (v := ?vR420) rfl (by kernel_rfl) (by kernel_rfl) (by kernel_rfl) (fun _ _ _ h => h) (Or.inl ⟨by rfl, ?yR420⟩) hHeld ?_
      case yR420 => (intro w hSw; (try dsimp only at hSw); go_simp <;> with_reducible rfl)
      try simp only [Act.put, List.getElem_toArray, List.getElem_cons_zero, List.getElem_cons_succ, List.setIfInBounds_toArray, List.set_cons_zero, List.set_cons_succ]
      refine wpAnyH_take (i := 21) (oi := _) (v := ?vR421) rfl (by kernel_rfl) (by kernel_rfl) (by kernel_rfl) (fun _ _ _ h => h) (Or.inl ⟨by rfl, ?yR421⟩) hHeld ?_
      case yR421 => (intro w hSw; (try dsimp only at hSw); go_simp <;> with_reducible rfl)
      try simp only [Act.put, List.getElem_toArray, List.getElem_cons_zero, List.getElem_cons_succ, List.setIfInBounds_toArray, List.set_cons_zero, List.set_cons_succ]
      refine wpAnyH_take (i := 22) (oi := _) (v := ?vR422) rfl (by kernel_rfl) (by kernel_rfl) (by kernel_rfl) (fun _ _ _ h => h) (Or.inl ⟨by rfl, ?yR422⟩) hHeld ?_
      case yR422 => (intro w hSw; (try dsimp only at hSw); go_simp <;> with_reducible rfl)
      try simp only [Act.put, List.getElem_toArray, List.getElem_cons_zero, List.getElem_cons_succ, List.setIfInBounds_toArray, List.set_cons_zero, List.set_cons_succ]
      refine wpAnyH_done (by kernel_rfl) ?_ _
      obtain ⟨fa, fb, fc⟩ := KA.out _ hd3
      obtain ⟨x0, x1, x2, x3⟩ := fa.cells
      obtain ⟨y0, y1, y2, y3⟩ := fb.cells
      clear fa fb fc
      go_wp2_with fail
      go_at_call 13
      refine (HL1.out _ hd3).mono ?_
      rintro e wn4 ⟨rfl, bk⟩
      have hn4 : Below WF.heap.size WF wn4 := hd3.trans (bk.mono hd3.size)
      clear bk x0 x1 x2 x3 y0 y1 y2 y3
      cases rr with
      | true =>
        have fv := KV.out _ hn4
        obtain ⟨p0, p1, p2, p3⟩ := fv.cells
        clear fv
        go_wp2_with fail
        go_at_call 15
        refine (HO1.out _ hn4).mono ?_
        rintro e wn5 ⟨rfl, bk⟩
        have hn5 : Below WF.heap.size WF wn5 := hn4.trans (bk.mono hn4.size)
        clear bk p0 p1 p2 p3
        go_wp2_with fail
        go_at_call 10
        refine (HPa.out (by first | rfl | exact True.intro) _).mono ?_
        rintro e wx ⟨ux, rfl, rx, bx⟩
        obtain ⟨qx, cx, hu, _, _⟩ := reads_strs rx
        subst hu
        have hx := hn5.trans (bx.mono hn5.size)
        have tx : Below wx.heap.size wx (wx.alloc (.cells #[.int .i64 v1, .int .i64 v2, .int .i64 v3, .slice qx pv.length cx] 26)) := (Below.refl _ _).alloc (Nat.le_refl _) _
        have X1 := four_new wx 26 (.int .i64 v1) (.int .i64 v2) (.int .i64 v3) (.slice qx pv.length cx)
        have hx1 := hx.trans (tx.mono hx.size)
        have rx1 := rx.below tx
        have fv := KV.out _ hx
        obtain ⟨p0, p1, p2, p3⟩ := fv.cells
        have lv1 := fv.lt
        clear fv
        go_wp2_with (go_at_call 17; refine (HSV.out _ _ hx1 rx1).mono ?_; rintro e wz ⟨rfl, bz⟩)
        go_ret
        exact ⟨rfl, M.out _ (hx1.trans (bz.mono hx1.size))⟩
      | false =>
        have fv := KV.out _ hn4
        obtain ⟨p0, p1, p2, p3⟩ := fv.cells
        clear fv
        go_wp2_with fail
        go_at_call 15
        refine (HO1.out _ hn4).mono ?_
        rintro e wn5 ⟨rfl, bk⟩
        have hn5 : Below WF.heap.size WF wn5 := hn4.trans (bk.mono hn4.size)
        clear bk p0 p1 p2 p3
        have es := HE.out (by first | rfl | exact True.intro)
        subst es
        go_wp2_with fail
        go_ret
        exact ⟨by rfl, M.out _ hn5⟩
  · clear HW
    obtain ⟨fa, fb, fc⟩ := KA.out _ h0
    obtain ⟨x0, x1, x2, x3⟩ := fa.cells
    obtain ⟨y0, y1, y2, y3⟩ := fb.cells
    clear fa fb fc
    go_wp2_with fail
    go_at_call 13
    refine (HL1.out _ h0).mono ?_
    rintro e wn1 ⟨rfl, bk⟩
    have hn1 : Below WF.heap.size WF wn1 := h0.trans (bk.mono h0.size)
    clear bk x0 x1 x2 x3 y0 y1 y2 y3
    obtain ⟨fa, fb, fc⟩ := KA.out _ hn1
    obtain ⟨x0, x1, x2, x3⟩ := fa.cells
    obtain ⟨y0, y1, y2, y3⟩ := fb.cells
    clear fa fb fc
    go_wp2_with fail
    go_at_call 13
    refine (HL2.out _ hn1).mono ?_
    rintro e wn2 ⟨rfl, bk⟩
    have hn2 : Below WF.heap.size WF wn2 := hn1.trans (bk.mono hn1.size)
    clear bk x0 x1 x2 x3 y0 y1 y2 y3
    obtain ⟨fa, fb, fc⟩ := KA.out _ hn2
    obtain ⟨x0, x1, x2, x3⟩ := fa.cells
    obtain ⟨y0, y1, y2, y3⟩ := fb.cells
    clear fa fb fc
    go_wp2_with fail
    go_at_call 14
    refine (HL3.out _ hn2).mono ?_
    rintro e wn3 ⟨rfl, bk⟩
    have hn3 : Below WF.heap.size WF wn3 := hn2.trans (bk.mono hn2.size)
    clear bk x0 x1 x2 x3 y0 y1 y2 y3
    cases ok with
    | true =>
      have hd0 : Below WF.heap.size WF wn3.drew := hn3.drew
      go_wp2_with fail
      refine wp_region_held_drew (S := (fun w' => w'.cell? ⟨BV, 0, none⟩ = some (.int .i64 v1) ∧ w'.cell? ⟨BV, 1, none⟩ = some (.int .i64 v2) ∧ w'.cell? ⟨BV, 2, none⟩ = some (.int .i64 v3) ∧ w'.cell? ⟨BV, 3, none⟩ = some (.slice qv pv.length cv) ∧ w'.cell? ⟨BY, 0, none⟩ = some (.int .i64 y1) ∧ w'.cell? ⟨BY, 1, none⟩ = some (.int .i64 y2) ∧ w'.cell? ⟨BY, 2, none⟩ = some (.int .i64 y3) ∧ w'.cell? ⟨BY, 3, none⟩ = some (.slice qy ny cy))) (by kernel_rfl) ?SR50 (fun hHeld => ?_)
      case SR50 => (first | (with_reducible exact KVY.out _ hd0) | (with_reducible exact KVY.out _ hd1) | (with_reducible exact KVY.out _ hd2) | (with_reducible exact KVY.out _ hd3))
      refine wpAnyH_take (i := 0) (oi := _) (v := ?vR50) rfl (by kernel_rfl) (by kernel_rfl) (by kernel_rfl) (fun _ _ _ h => h) (Or.inl ⟨by rfl, ?yR50⟩) hHeld ?_
      case yR50 => (intro w hSw; (try dsimp only at hSw); go_simp <;> with_reducible rfl)
      try simp only [Act.put, List.getElem_toArray, List.getElem_cons_zero, List.getElem_cons_succ, List.setIfInBounds_toArray, List.set_cons_zero, List.set_cons_succ]
      refine wpAnyH_take (i := 1) (oi := _) (v := ?vR51) rfl (by kernel_rfl) (by kernel_rfl) (by kernel_rfl) (fun _ _ _ h => h) (Or.inl ⟨by rfl, ?yR51⟩) hHeld ?_
      case yR51 => (intro w hSw; (try dsimp only at hSw); go_simp <;> with_reducible rfl)
      try simp only [Act.put, List.getElem_toArray, List.getElem_cons_zero, List.getElem_cons_succ, List.setIfInBounds_toArray, List.set_cons_zero, List.set_cons_succ]
      refine wpAnyH_take (i := 2) (oi := _) (v := ?vR52) rfl (by kernel_rfl) (by kernel_rfl) (by kernel_rfl) (fun _ _ _ h => h) (Or.inl ⟨by rfl, ?yR52⟩) hHeld ?_
      case yR52 => (intro w hSw; (try dsimp only at hSw); go_simp <;> with_reducible rfl)
      try simp only [Act.put, List.getElem_toArray, List.getElem_cons_zero, List.getElem_cons_succ, List.setIfInBounds_toArray, List.set_cons_zero, List.set_cons_succ]
      refine wpAnyH_take (i := 3) (oi := _) (v := ?vR53) rfl (by kernel_rfl) (by kernel_rfl) (by kernel_rfl) (fun _ _ _ h => h) (Or.inl ⟨by rfl, ?yR53⟩) hHeld ?_
      case yR53 => (intro w hSw; (try dsimp only at hSw); go_simp <;> with_reducible rfl)
      try simp only [Act.put, List.getElem_toArray, List.getElem_cons_zero, List.getElem_cons_succ, List.setIfInBounds_toArray, List.set_cons_zero, List.set_cons_succ]
      refine wpAnyH_take (i := 4) (oi := _) (v := ?vR54) rfl (by kernel_rfl) (by kernel_rfl) (by kernel_rfl) (fun _ _ _ h => h) (Or.inl ⟨by rfl, ?yR54⟩) hHeld ?_
      case yR54 => (intro w hSw; (try dsimp only at hSw); go_simp <;> with_reducible rfl)
      try simp only [Act.put, List.getElem_toArray, List.getElem_cons_zero, List.getElem_cons_succ, List.setIfInBounds_toArray, List.set_cons_zero, List.set_cons_succ]
      refine wpAnyH_take (i := 5) (oi := _) (v := ?vR55) rfl (by kernel_rfl) (by kernel_rfl) (by kernel_rfl) (fun _ _ _ h => h) (Or.inl ⟨by rfl, ?yR55⟩) hHeld ?_
      case yR55 => (intro w hSw; (try dsimp only at hSw); go_simp <;> with_reducible rfl)
      try simp only [Act.put, List.getElem_toArray, List.getElem_cons_zero, List.getElem_cons_succ, List.setIfInBounds_toArray, List.set_cons_zero, List.set_cons_succ]
      refine wpAnyH_take (i := 6) (oi := _) (v := ?vR56) rfl (by kernel_rfl) (by kernel_rfl) (by kernel_rfl) (fun _ _ _ h => h) (Or.inl ⟨by rfl, ?yR56⟩) hHeld ?_
      case yR56 => (intro w hSw; (try dsimp only at hSw); go_simp <;> with_reducible rfl)
      try simp only [Act.put, List.getElem_toArray, List.getElem_cons_zero, List.getElem_cons_succ, List.setIfInBounds_toArray, List.set_cons_zero, List.set_cons_succ]
      refine wpAnyH_take (i := 8) (oi := _) (v := ?vR57) rfl (by kernel_rfl) (by kernel_rfl) (by kernel_rfl) (fun _ _ _ h => h) (Or.inl ⟨by rfl, ?yR57⟩) hHeld ?_
      case yR57 => (intro w hSw; (try dsimp only at hSw); go_simp <;> with_reducible rfl)
      try simp only [Act.put, List.getElem_toArray, List.getElem_cons_zero, List.getElem_cons_succ, List.setIfInBounds_toArray, List.set_cons_zero, List.set_cons_succ]
      refine wpAnyH_ready (rs := [7]) (by kernel_rfl) (by simp) ?_
      refine AllReadyH.cons rfl (fun K hK => ?_) AllReadyH.nil
      go_simp
      go_wp2_with (go_at_call 8; refine (HYT.out (by first | rfl | exact True.intro) _ hd0).mono ?_; rintro e wd1 ⟨rfl, bk⟩; have hd1 : Below WF.heap.size WF wd1 := hd0.trans (bk.mono hd0.size); clear bk)
      clear hHeld
      refine hK.out _ _ ?SR59 (fun hHeld => ?_)
      case SR59 => ((try dsimp only); first | (with_reducible exact KVY.out _ hd0) | (with_reducible exact KVY.out _ hd1) | (with_reducible exact KVY.out _ hd2) | (with_reducible exact KVY.out _ hd3))
      clear hK K
      refine wpAnyH_take (i := 9) (oi := _) (v := ?vR59) rfl (by kernel_rfl) (by kernel_rfl) (by kernel_rfl) (fun _ _ _ h => h) (Or.inl ⟨by rfl, ?yR59⟩) hHeld ?_
      case yR59 => (intro w hSw; (try dsimp only at hSw); go_simp <;> with_reducible rfl)
      try simp only [Act.put, List.getElem_toArray, List.getElem_cons_zero, List.getElem_cons_succ, List.setIfInBounds_toArray, List.set_cons_zero, List.set_cons_succ]
      refine wpAnyH_take (i := 10) (oi := _) (v := ?vR510) rfl (by kernel_rfl) (by kernel_rfl) (by kernel_rfl) (fun _ _ _ h => h) (Or.inl ⟨by rfl, ?yR510⟩) hHeld ?_
      case yR510 => (intro w hSw; (try dsimp only at hSw); go_simp <;> with_reducible rfl)
      try simp only [Act.put, List.getElem_toArray, List.getElem_cons_zero, List.getElem_cons_succ, List.setIfInBounds_toArray, List.set_cons_zero, List.set_cons_succ]
      refine wpAnyH_take (i := 11) (oi := _) (v := ?vR511) rfl (by kernel_rfl) (by kernel_rfl) (by kernel_rfl) (fun _ _ _ h => h) (Or.inl ⟨by rfl, ?yR511⟩) hHeld ?_
      case yR511 => (intro w hSw; (try dsimp only at hSw); go_simp <;> with_reducible rfl)
      try simp only [Act.put, List.getElem_toArray, List.getElem_cons_zero, List.getElem_cons_succ, List.setIfInBounds_toArray, List.set_cons_zero, List.set_cons_succ]
      refine wpAnyH_take (i := 12) (oi := _) (v := ?vR512) rfl (by kernel_rfl) (by kernel_rfl) (by kernel_rfl) (fun _ _ _ h => h) (Or.inl ⟨by rfl, ?yR512⟩) hHeld ?_
      case yR512 => (intro w hSw; (try dsimp only at hSw); go_simp <;> with_reducible rfl)
      try simp only [Act.put, List.getElem_toArray, List.getElem_cons_zero, List.getElem_cons_succ, List.setIfInBounds_toArray, List.set_cons_zero, List.set_cons_succ]
      refine wpAnyH_take (i := 13) (oi := _) (v := ?vR513) rfl (by kernel_rfl) (by kernel_rfl) (by kernel_rfl) (fun _ _ _ h => h) (Or.inl ⟨by rfl, ?yR513⟩) hHeld ?_
      case yR513 => (intro w hSw; (try dsimp only at hSw); go_simp <;> with_reducible rfl)
      try simp only [Act.put, List.getElem_toArray, List.getElem_cons_zero, List.getElem_cons_succ, List.setIfInBounds_toArray, List.set_cons_zero, List.set_cons_succ]
      refine wpAnyH_take (i := 15) (oi := _) (v := ?vR514) rfl (by kernel_rfl) (by kernel_rfl) (by kernel_rfl) (fun _ _ _ h => h) (Or.inl ⟨by rfl, ?yR514⟩) hHeld ?_
      case yR514 => (intro w hSw; (try dsimp only at hSw); go_simp <;> with_reducible rfl)
      try simp only [Act.put, List.getElem_toArray, List.getElem_cons_zero, List.getElem_cons_succ, List.setIfInBounds_toArray, List.set_cons_zero, List.set_cons_succ]
      refine wpAnyH_ready (rs := [14]) (by kernel_rfl) (by simp) ?_
      refine AllReadyH.cons rfl (fun K hK => ?_) AllReadyH.nil
      go_simp
      go_wp2_with (go_at_call 15; refine (HO1.out _ hd1).mono ?_; rintro e wd2 ⟨rfl, bk⟩; have hd2 : Below WF.heap.size WF wd2 := hd1.trans (bk.mono hd1.size); clear bk)
      clear hHeld
      refine hK.out _ _ ?SR516 (fun hHeld => ?_)
      case SR516 => ((try dsimp only); first | (with_reducible exact KVY.out _ hd0) | (with_reducible exact KVY.out _ hd1) | (with_reducible exact KVY.out _ hd2) | (with_reducible exact KVY.out _ hd3))
      clear hK K
      refine wpAnyH_ready (rs := [16]) (by kernel_rfl) (by simp) ?_
      refine AllReadyH.cons rfl (fun K hK => ?_) AllReadyH.nil
      go_simp
      go_wp2_with (go_at_call 16; refine (HO2.out _ hd2).mono ?_; rintro e wd3 ⟨rfl, bk⟩; have hd3 : Below WF.heap.size WF wd3 := hd2.trans (bk.mono hd2.size); clear bk)
      clear hHeld
      refine hK.out _ _ ?SR517 (fun hHeld => ?_)
      case SR517 => ((try dsimp only); first | (with_reducible exact KVY.out _ hd0) | (with_reducible exact KVY.out _ hd1) | (with_reducible exact KVY.out _ hd2) | (with_reducible exact KVY.out _ hd3))
      clear hK K
      refine wpAnyH_take (i := 17) (oi := _) (v := ?vR517) rfl (by kernel_rfl) (by kernel_rfl) (by kernel_rfl) (fun _ _ _ h => h) (Or.inl ⟨by rfl, ?yR517⟩) hHeld ?_
      case yR517 => (intro w hSw; (try dsimp only at hSw); go_simp <;> with_reducible rfl)
      try simp only [Act.put, List.getElem_toArray, List.getElem_cons_zero, List.getElem_cons_succ, List.setIfInBounds_toArray, List.set_cons_zero, List.set_cons_succ]
      refine wpAnyH_take (i := 18) (oi := _) (v := ?vR518) rfl (by kernel_rfl) (by kernel_rfl) (by kernel_rfl) (fun _ _ _ h => h) (Or.inl ⟨by rfl, ?yR518⟩) hHeld ?_
      case yR518 => (intro w hSw; (try dsimp only at hSw); go_simp <;> with_reducible rfl)
      try simp only [Act.put, List.getElem_toArray, List.getElem_cons_zero, List.getElem_cons_succ, List.setIfInBounds_toArray, List.set_cons_zero, List.set_cons_succ]
      refine wpAnyH_take (i := 19) (oi := _) (v := ?vR519) rfl (by kernel_rfl) (by kernel_rfl) (by kernel_rfl) (fun _ _ _ h => h) (Or.inl ⟨by rfl, ?yR519⟩) hHeld ?_
      case yR519 => (intro w hSw; (try dsimp only at hSw); go_simp <;> with_reducible rfl)
      try simp only [Act.put, List.getElem_toArray, List.getElem_cons_zero, List.getElem_cons_succ, List.setIfInBounds_toArray, List.set_cons_zero, List.set_cons_succ]
      refine wpAnyH_take (i := 20) (oi := _) (v := ?vR520) rfl (by kernel_rfl) (by kernel_rfl) (by kernel_rfl) (fun _ _ _ h => h) (Or.inl ⟨by rfl, ?yR520⟩) hHeld ?_
      case yR520 => (intro w hSw; (try dsimp only at hSw); go_simp <;> with_reducible rfl)
      try simp only [Act.put, List.getElem_toArray, List.getElem_cons_zero, List.getElem_cons_succ, List.setIfInBounds_toArray, List.set_cons_zero, List.set_cons_succ]
      refine wpAnyH_take (i := 21) (oi := _) (v := ?vR521) rfl (by kernel_rfl) (by kernel_rfl) (by kernel_rfl) (fun _ _ _ h => h) (Or.inl ⟨by rfl, ?yR521⟩) hHeld ?_
      case yR521 => (intro w hSw; (try dsimp only at hSw); go_simp <;> with_reducible rfl)
      try simp only [Act.put, List.getElem_toArray, List.getElem_cons_zero, List.getElem_cons_succ, List.setIfInBounds_toArray, List.set_cons_zero, List.set_cons_succ]
      refine wpAnyH_take (i := 22) (oi := _) (v := ?vR522) rfl (by kernel_rfl) (by kernel_rfl) (by kernel_rfl) (fun _ _ _ h => h) (Or.inl ⟨by rfl, ?yR522⟩) hHeld ?_
      case yR522 => (intro w hSw; (try dsimp only at hSw); go_simp <;> with_reducible rfl)
      try simp only [Act.put, List.getElem_toArray, List.getElem_cons_zero, List.getElem_cons_succ, List.setIfInBounds_toArray, List.set_cons_zero, List.set_cons_succ]
      refine wpAnyH_done (by kernel_rfl) ?_ _
      obtain ⟨fa, fb, fc⟩ := KA.out _ hd3
      obtain ⟨x0, x1, x2, x3⟩ := fa.cells
      obtain ⟨y0, y1, y2, y3⟩ := fb.cells
      clear fa fb fc
      go_wp2_with fail
      go_at_call 13
      refine (HL1.out _ hd3).mono ?_
      rintro e wn4 ⟨rfl, bk⟩
      have hn4 : Below WF.heap.size WF wn4 := hd3.trans (bk.mono hd3.size)
      clear bk x0 x1 x2 x3 y0 y1 y2 y3
      cases rr with
      | true =>
        have fv := KV.out _ hn4
        obtain ⟨p0, p1, p2, p3⟩ := fv.cells
        clear fv
        go_wp2_with fail
        go_at_call 15
        refine (HO1.out _ hn4).mono ?_
        rintro e wn5 ⟨rfl, bk⟩
        have hn5 : Below WF.heap.size WF wn5 := hn4.trans (bk.mono hn4.size)
        clear bk p0 p1 p2 p3
        go_wp2_with fail
        go_at_call 10
        refine (HPa.out (by first | rfl | exact True.intro) _).mono ?_
        rintro e wx ⟨ux, rfl, rx, bx⟩
        obtain ⟨qx, cx, hu, _, _⟩ := reads_strs rx
        subst hu
        have hx := hn5.trans (bx.mono hn5.size)
        have tx : Below wx.heap.size wx (wx.alloc (.cells #[.int .i64 v1, .int .i64 v2, .int .i64 v3, .slice qx pv.length cx] 26)) := (Below.refl _ _).alloc (Nat.le_refl _) _
        have X1 := four_new wx 26 (.int .i64 v1) (.int .i64 v2) (.int .i64 v3) (.slice qx pv.length cx)
        have hx1 := hx.trans (tx.mono hx.size)
        have rx1 := rx.below tx
        have fv := KV.out _ hx
        obtain ⟨p0, p1, p2, p3⟩ := fv.cells
        have lv1 := fv.lt
        clear fv
        go_wp2_with (go_at_call 17; refine (HSV.out _ _ hx1 rx1).mono ?_; rintro e wz ⟨rfl, bz⟩)
        go_ret
        exact ⟨rfl, M.out _ (hx1.trans (bz.mono hx1.size))⟩
      | false =>
        have fv := KV.out _ hn4
        obtain ⟨p0, p1, p2, p3⟩ := fv.cells
        clear fv
        go_wp2_with fail
        go_at_call 15
        refine (HO1.out _ hn4).mono ?_
        rintro e wn5 ⟨rfl, bk⟩
        have hn5 : Below WF.heap.size WF wn5 := hn4.trans (bk.mono hn4.size)
        clear bk p0 p1 p2 p3
        have es := HE.out (by first | rfl | exact True.intro)
        subst es
        go_wp2_with fail
        go_ret
        exact ⟨by rfl, M.out _ hn5⟩
    | false =>
      have hd0 : Below WF.heap.size WF wn3.drew := hn3.drew
      go_wp2_with fail
      refine wp_region_held_drew (S := (fun w' => w'.cell? ⟨BV, 0, none⟩ = some (.int .i64 v1) ∧ w'.cell? ⟨BV, 1, none⟩ = some (.int .i64 v2) ∧ w'.cell? ⟨BV, 2, none⟩ = some (.int .i64 v3) ∧ w'.cell? ⟨BV, 3, none⟩ = some (.slice qv pv.length cv) ∧ w'.cell? ⟨BY, 0, none⟩ = some (.int .i64 y1) ∧ w'.cell? ⟨BY, 1, none⟩ = some (.int .i64 y2) ∧ w'.cell? ⟨BY, 2, none⟩ = some (.int .i64 y3) ∧ w'.cell? ⟨BY, 3, none⟩ = some (.slice qy ny cy))) (by kernel_rfl) ?SR60 (fun hHeld => ?_)
      case SR60 => (first | (with_reducible exact KVY.out _ hd0) | (with_reducible exact KVY.out _ hd1) | (with_reducible exact KVY.out _ hd2) | (with_reducible exact KVY.out _ hd3))
      refine wpAnyH_take (i := 0) (oi := _) (v := ?vR60) rfl (by kernel_rfl) (by kernel_rfl) (by kernel_rfl) (fun _ _ _ h => h) (Or.inl ⟨by rfl, ?yR60⟩) hHeld ?_
      case yR60 => (intro w hSw; (try dsimp only at hSw); go_simp <;> with_reducible rfl)
      try simp only [Act.put, List.getElem_toArray, List.getElem_cons_zero, List.getElem_cons_succ, List.setIfInBounds_toArray, List.set_cons_zero, List.set_cons_succ]
      refine wpAnyH_take (i := 1) (oi := _) (v := ?vR61) rfl (by kernel_rfl) (by kernel_rfl) (by kernel_rfl) (fun _ _ _ h => h) (Or.inl ⟨by rfl, ?yR61⟩) hHeld ?_
      case yR61 => (intro w hSw; (try dsimp only at hSw); go_simp <;> with_reducible rfl)
      try simp only [Act.put, List.getElem_toArray, List.getElem_cons_zero, List.getElem_cons_succ, List.setIfInBounds_toArray, List.set_cons_zero, List.set_cons_succ]
      refine wpAnyH_take (i := 2) (oi := _) (v := ?vR62) rfl (by kernel_rfl) (by kernel_rfl) (by kernel_rfl) (fun _ _ _ h => h) (Or.inl ⟨by rfl, ?yR62⟩) hHeld ?_
      case yR62 => (intro w hSw; (try dsimp only at hSw); go_simp <;> with_reducible rfl)
      try simp only [Act.put, List.getElem_toArray, List.getElem_cons_zero, List.getElem_cons_succ, List.setIfInBounds_toArray, List.set_cons_zero, List.set_cons_succ]
      refine wpAnyH_take (i := 3) (oi := _) (v := ?vR63) rfl (by kernel_rfl) (by kernel_rfl) (by kernel_rfl) (fun _ _ _ h => h) (Or.inl ⟨by rfl, ?yR63⟩) hHeld ?_
      case yR63 => (intro w hSw; (try dsimp only at hSw); go_simp <;> with_reducible rfl)
      try simp only [Act.put, List.getElem_toArray, List.getElem_cons_zero, List.getElem_cons_succ, List.setIfInBounds_toArray, List.set_cons_zero, List.set_cons_succ]
      refine wpAnyH_take (i := 4) (oi := _) (v := ?vR64) rfl (by kernel_rfl) (by kernel_rfl) (by kernel_rfl) (fun _ _ _ h => h) (Or.inl ⟨by rfl, ?yR64⟩) hHeld ?_
      case yR64 => (intro w hSw; (try dsimp only at hSw); go_simp <;> with_reducible rfl)
      try simp only [Act.put, List.getElem_toArray, List.getElem_cons_zero, List.getElem_cons_succ, List.setIfInBounds_toArray, List.set_cons_zero, List.set_cons_succ]
      refine wpAnyH_take (i := 5) (oi := _) (v := ?vR65) rfl (by kernel_rfl) (by kernel_rfl) (by kernel_rfl) (fun _ _ _ h => h) (Or.inl ⟨by rfl, ?yR65⟩) hHeld ?_
      case yR65 => (intro w hSw; (try dsimp only at hSw); go_simp <;> with_reducible rfl)
      try simp only [Act.put, List.getElem_toArray, List.getElem_cons_zero, List.getElem_cons_succ, List.setIfInBounds_toArray, List.set_cons_zero, List.set_cons_succ]
      refine wpAnyH_take (i := 6) (oi := _) (v := undef) rfl (by kernel_rfl) (by kernel_rfl) (by kernel_rfl) (fun _ _ _ h => h) (Or.inr ⟨by rfl, rfl⟩) hHeld ?_
      try simp only [Act.put, List.getElem_toArray, List.getElem_cons_zero, List.getElem_cons_succ, List.setIfInBounds_toArray, List.set_cons_zero, List.set_cons_succ]
      refine wpAnyH_take (i := 7) (oi := _) (v := undef) rfl (by kernel_rfl) (by kernel_rfl) (by kernel_rfl) (fun _ _ _ h => h) (Or.inr ⟨by rfl, rfl⟩) hHeld ?_
      try simp only [Act.put, List.getElem_toArray, List.getElem_cons_zero, List.getElem_cons_succ, List.setIfInBounds_toArray, List.set_cons_zero, List.set_cons_succ]
      refine wpAnyH_take (i := 8) (oi := _) (v := undef) rfl (by kernel_rfl) (by kernel_rfl) (by kernel_rfl) (fun _ _ _ h => h) (Or.inr ⟨by rfl, rfl⟩) hHeld ?_
      try simp only [Act.put, List.getElem_toArray, List.getElem_cons_zero, List.getElem_cons_succ, List.setIfInBounds_toArray, List.set_cons_zero, List.set_cons_succ]
      refine wpAnyH_take (i := 9) (oi := _) (v := undef) rfl (by kernel_rfl) (by kernel_rfl) (by kernel_rfl) (fun _ _ _ h => h) (Or.inr ⟨by rfl, rfl⟩) hHeld ?_
      try simp only [Act.put, List.getElem_toArray, List.getElem_cons_zero, List.getElem_cons_succ, List.setIfInBounds_toArray, List.set_cons_zero, List.set_cons_succ]
      refine wpAnyH_take (i := 10) (oi := _) (v := ?vR610) rfl (by kernel_rfl) (by kernel_rfl) (by kernel_rfl) (fun _ _ _ h => h) (Or.inl ⟨by rfl, ?yR610⟩) hHeld ?_
      case yR610 => (intro w hSw; (try dsimp only at hSw); go_simp <;> with_reducible rfl)
      try simp only [Act.put, List.getElem_toArray, List.getElem_cons_zero, List.getElem_cons_succ, List.setIfInBounds_toArray, List.set_cons_zero, List.set_cons_succ]
      refine wpAnyH_take (i := 11) (oi := _) (v := ?vR611) rfl (by kernel_rfl) (by kernel_rfl) (by kernel_rfl) (fun _ _ _ h => h) (Or.inl ⟨by rfl, ?yR611⟩) hHeld ?_
      case yR611 => (intro w hSw; (try dsimp only at hSw); go_simp <;> with_reducible rfl)
      try simp only [Act.put, List.getElem_toArray, List.getElem_cons_zero, List.getElem_cons_succ, List.setIfInBounds_toArray, List.set_cons_zero, List.set_cons_succ]
      refine wpAnyH_take (i := 12) (oi := _) (v := ?vR612) rfl (by kernel_rfl) (by kernel_rfl) (by kernel_rfl) (fun _ _ _ h => h) (Or.inl ⟨by rfl, ?yR612⟩) hHeld ?_
      case yR612 => (intro w hSw; (try dsimp only at hSw); go_simp <;> with_reducible rfl)
      try simp only [Act.put, List.getElem_toArray, List.getElem_cons_zero, List.getElem_cons_succ, List.setIfInBounds_toArray, List.set_cons_zero, List.set_cons_succ]
      refine wpAnyH_take (i := 13) (oi := _) (v := ?vR613) rfl (by kernel_rfl) (by kernel_rfl) (by kernel_rfl) (fun _ _ _ h => h) (Or.inl ⟨by rfl, ?yR613⟩) hHeld ?_
      case yR613 => (intro w hSw; (try dsimp only at hSw); go_simp <;> with_reducible rfl)
      try simp only [Act.put, List.getElem_toArray, List.getElem_cons_zero, List.getElem_cons_succ, List.setIfInBounds_toArray, List.set_cons_zero, List.set_cons_succ]
      refine wpAnyH_take (i := 15) (oi := _) (v := ?vR614) rfl (by kernel_rfl) (by kernel_rfl) (by kernel_rfl) (fun _ _ _ h => h) (Or.inl ⟨by rfl, ?yR614⟩) hHeld ?_
      case yR614 => (intro w hSw; (try dsimp only at hSw); go_simp <;> with_reducible rfl)
      try simp only [Act.put, List.getElem_toArray, List.getElem_cons_zero, List.getElem_cons_succ, List.setIfInBounds_toArray, List.set_cons_zero, List.set_cons_succ]
      refine wpAnyH_ready (rs := [14]) (by kernel_rfl) (by simp) ?_
      refine AllReadyH.cons rfl (fun K hK => ?_) AllReadyH.nil
      go_simp
      go_wp2_with (go_at_call 15; refine (HO1.out _ hd0).mono ?_; rintro e wd2 ⟨rfl, bk⟩; have hd2 : Below WF.heap.size WF wd2 := hd0.trans (bk.mono hd0.size); clear bk)
      clear hHeld
      refine hK.out _ _ ?SR616 (fun hHeld => ?_)
      case SR616 => ((try dsimp only); first | (with_reducible exact KVY.out _ hd0) | (with_reducible exact KVY.out _ hd1) | (with_reducible exact KVY.out _ hd2) | (with_reducible exact KVY.out _ hd3))
      clear hK K
      refine wpAnyH_ready (rs := [16]) (by kernel_rfl) (by simp) ?_
      refine AllReadyH.cons rfl (fun K hK => ?_) AllReadyH.nil
      go_simp
      go_wp2_with (go_at_call 16; refine (HO2.out _ hd2).mono ?_; rintro e wd3 ⟨rfl, bk⟩; have hd3 : Below WF.heap.size WF wd3 := hd2.trans (bk.mono hd2.size); clear bk)
      clear hHeld
      refine hK.out _ _ ?SR617 (fun hHeld => ?_)
      case SR617 => ((try dsimp only); first | (with_reducible exact KVY.out _ hd0) | (with_reducible exact KVY.out _ hd1) | (with_reducible exact KVY.out _ hd2) | (with_reducible exact KVY.out _ hd3))
      clear hK K
      refine wpAnyH_take (i := 17) (oi := _) (v := ?vR617) rfl (by kernel_rfl) (by kernel_rfl) (by kernel_rfl) (fun _ _ _ h => h) (Or.inl ⟨by rfl, ?yR617⟩) hHeld ?_
      case yR617 => (intro w hSw; (try dsimp only at hSw); go_simp <;> with_reducible rfl)
      try simp only [Act.put, List.getElem_toArray, List.getElem_cons_zero, List.getElem_cons_succ, List.setIfInBounds_toArray, List.set_cons_zero, List.set_cons_succ]
      refine wpAnyH_take (i := 18) (oi := _) (v := ?vR618) rfl (by kernel_rfl) (by kernel_rfl) (by kernel_rfl) (fun _ _ _ h => h) (Or.inl ⟨by rfl, ?yR618⟩) hHeld ?_
      case yR618 => (intro w hSw; (try dsimp only at hSw); go_simp <;> with_reducible rfl)
      try simp only [Act.put, List.getElem_toArray, List.getElem_cons_zero, List.getElem_cons_succ, List.setIfInBounds_toArray, List.set_cons_zero, List.set_cons_succ]
      refine wpAnyH_take (i := 19) (oi := _) (v := ?vR619) rfl (by kernel_rfl) (by kernel_rfl) (by kernel_rfl) (fun _ _ _ h => h) (Or.inl ⟨by rfl, ?yR619⟩) hHeld ?_
      case yR619 => (intro w hSw; (try dsimp only at hSw); go_simp <;> with_reducible rfl)
      try simp only [Act.put, List.getElem_toArray, List.getElem_cons_zero, List.getElem_cons_succ, List.setIfInBounds_toArray, List.set_cons_zero, List.set_cons_succ]
      refine wpAnyH_take (i := 20) (oi := _) (v := ?vR620) rfl (by kernel_rfl) (by kernel_rfl) (by kernel_rfl) (fun _ _ _ h => h) (Or.inl ⟨by rfl, ?yR620⟩) hHeld ?_
      case yR620 => (intro w hSw; (try dsimp only at hSw); go_simp <;> with_reducible rfl)
      try simp only [Act.put, List.getElem_toArray, List.getElem_cons_zero, List.getElem_cons_succ, List.setIfInBounds_toArray, List.set_cons_zero, List.set_cons_succ]
      refine wpAnyH_take (i := 21) (oi := _) (v := ?vR621) rfl (by kernel_rfl) (by kernel_rfl) (by kernel_rfl) (fun _ _ _ h => h) (Or.inl ⟨by rfl, ?yR621⟩) hHeld ?_
      case yR621 => (intro w hSw; (try dsimp only at hSw); go_simp <;> with_reducible rfl)
      try simp only [Act.put, List.getElem_toArray, List.getElem_cons_zero, List.getElem_cons_succ, List.setIfInBounds_toArray, List.set_cons_zero, List.set_cons_succ]
      refine wpAnyH_take (i := 22) (oi := _) (v := ?vR622) rfl (by kernel_rfl) (by kernel_rfl) (by kernel_rfl) (fun _ _ _ h => h) (Or.inl ⟨by rfl, ?yR622⟩) hHeld ?_
      case yR622 => (intro w hSw; (try dsimp only at hSw); go_simp <;> with_reducible rfl)
      try simp only [Act.put, List.getElem_toArray, List.getElem_cons_zero, List.getElem_cons_succ, List.setIfInBounds_toArray, List.set_cons_zero, List.set_cons_succ]
      refine wpAnyH_done (by kernel_rfl) ?_ _
      obtain ⟨fa, fb, fc⟩ := KA.out _ hd3
      obtain ⟨x0, x1, x2, x3⟩ := fa.cells
      obtain ⟨y0, y1, y2, y3⟩ := fb.cells
      clear fa fb fc
      go_wp2_with fail
      go_at_call 13
      refine (HL1.out _ hd3).mono ?_
      rintro e wn4 ⟨rfl, bk⟩
      have hn4 : Below WF.heap.size WF wn4 := hd3.trans (bk.mono hd3.size)
      clear bk x0 x1 x2 x3 y0 y1 y2 y3
      cases rr with
      | true =>
        have fv := KV.out _ hn4
        obtain ⟨p0, p1, p2, p3⟩ := fv.cells
        clear fv
        go_wp2_with fail
        go_at_call 15
        refine (HO1.out _ hn4).mono ?_
        rintro e wn5 ⟨rfl, bk⟩
        have hn5 : Below WF.heap.size WF wn5 := hn4.trans (bk.mono hn4.size)
        clear bk p0 p1 p2 p3
        go_wp2_with fail
        go_at_call 10
        refine (HPa.out (by first | rfl | exact True.intro) _).mono ?_
        rintro e wx ⟨ux, rfl, rx, bx⟩
        obtain ⟨qx, cx, hu, _, _⟩ := reads_strs rx
        subst hu
        have hx := hn5.trans (bx.mono hn5.size)
        have tx : Below wx.heap.size wx (wx.alloc (.cells #[.int .i64 v1, .int .i64 v2, .int .i64 v3, .slice qx pv.length cx] 26)) := (Below.refl _ _).alloc (Nat.le_refl _) _
        have X1 := four_new wx 26 (.int .i64 v1) (.int .i64 v2) (.int .i64 v3) (.slice qx pv.length cx)
        have hx1 := hx.trans (tx.mono hx.size)
        have rx1 := rx.below tx
        have fv := KV.out _ hx
        obtain ⟨p0, p1, p2, p3⟩ := fv.cells
        have lv1 := fv.lt
        clear fv
        go_wp2_with (go_at_call 17; refine (HSV.out _ _ hx1 rx1).mono ?_; rintro e wz ⟨rfl, bz⟩)
        go_ret
        exact ⟨rfl, M.out _ (hx1.trans (bz.mono hx1.size))⟩
      | false =>
        have fv := KV.out _ hn4
        obtain ⟨p0, p1, p2, p3⟩ := fv.cells
        clear fv
        go_wp2_with fail
        go_at_call 15
        refine (HO1.out _ hn4).mono ?_
        rintro e wn5 ⟨rfl, bk⟩
        have hn5 : Below WF.heap.size WF wn5 := hn4.trans (bk.mono hn4.size)
        clear bk p0 p1 p2 p3
        have es := HE.out (by first | rfl | exact True.intro)
        subst es
        go_wp2_with fail
        go_ret
        exact ⟨by rfl, M.out _ hn5⟩

set_option maxRecDepth 100000 in
theorem witnessWorld (os : Os) {H : Type} (enc : TypeId × Value → H) : ∃ W0 : World, W0.os = os ∧ (W0.forCall (fun _ _ => 0) ⟨#[], #[.slice none 0 0], []⟩).variablesB Tryd.prog = true ∧
    ((W0.forCall (fun _ _ => 0) ⟨#[], #[.slice none 0 0], []⟩).heap.toList.drop Tryd.prog.globals.size).take ((begin Tryd.prog (fun _ _ => 0) default).world.heap.size - Tryd.prog.globals.size) = (begin Tryd.prog (fun _ _ => 0) default).world.heap.toList.drop Tryd.prog.globals.size ∧
    Input.okWideB Tryd.prog (W0.forCall (fun _ _ => 0) ⟨#[], #[.slice none 0 0], []⟩) 3 ⟨#[], #[.slice none 0 0], []⟩ = true ∧
    laidMet Tryd.prog Rows.fnVersRow.laid (W0.forCall (fun _ _ => 0) ⟨#[], #[.slice none 0 0], []⟩).memory ∧
    ∃ places, DataW.whole enc Tryd.prog (W0.forCall (fun _ _ => 0) ⟨#[], #[.slice none 0 0], []⟩).memory Tryd.f3.params.toList Rows.fnVersSpec.vars false (#[.slice none 0 0] : Array Value).toList 8 = some ([.nil], [], places) :=
  ⟨{ World.holding Tryd.prog os ⟨#[], #[], []⟩ with heap := ((((World.holding Tryd.prog os ⟨#[], #[], []⟩).heap).modify 5 (fun | .cells _ t frozen => .cells #[.int .u8 0, .int .u8 1, .int .u8 28, .int .u8 2, .int .u8 29, .int .u8 14, .int .u8 24, .int .u8 3, .int .u8 30, .int .u8 22, .int .u8 20, .int .u8 15, .int .u8 25, .int .u8 17, .int .u8 4, .int .u8 8, .int .u8 31, .int .u8 27, .int .u8 13, .int .u8 23, .int .u8 21, .int .u8 19, .int .u8 16, .int .u8 7, .int .u8 26, .int .u8 12, .int .u8 18, .int .u8 6, .int .u8 11, .int .u8 5, .int .u8 10, .int .u8 9] t frozen | o => o)).modify 6 (fun | .cells _ t frozen => .cells #[.int .u8 0, .int .u8 1, .int .u8 56, .int .u8 2, .int .u8 57, .int .u8 49, .int .u8 28, .int .u8 3, .int .u8 61, .int .u8 58, .int .u8 42, .int .u8 50, .int .u8 38, .int .u8 29, .int .u8 17, .int .u8 4, .int .u8 62, .int .u8 47, .int .u8 59, .int .u8 36, .int .u8 45, .int .u8 43, .int .u8 51, .int .u8 22, .int .u8 53, .int .u8 39, .int .u8 33, .int .u8 30, .int .u8 24, .int .u8 18, .int .u8 12, .int .u8 5, .int .u8 63, .int .u8 55, .int .u8 48, .int .u8 27, .int .u8 60, .int .u8 41, .int .u8 37, .int .u8 16, .int .u8 46, .int .u8 35, .int .u8 44, .int .u8 21, .int .u8 52, .int .u8 32, .int .u8 23, .int .u8 11, .int .u8 54, .int .u8 26, .int .u8 40, .int .u8 15, .int .u8 34, .int .u8 20, .int .u8 31, .int .u8 10, .int .u8 25, .int .u8 14, .int .u8 19, .int .u8 9, .int .u8 13, .int .u8 8, .int .u8 7, .int .u8 6] t frozen | o => o)).modify 4 (fun | .cells _ t frozen => .cells #[.int .u64 1, .int .u64 10, .int .u64 100, .int .u64 1000, .int .u64 10000, .int .u64 100000, .int .u64 1000000, .int .u64 10000000, .int .u64 100000000, .int .u64 1000000000, .int .u64 10000000000, .int .u64 100000000000, .int .u64 1000000000000, .int .u64 10000000000000, .int .u64 100000000000000, .int .u64 1000000000000000, .int .u64 10000000000000000, .int .u64 100000000000000000, .int .u64 1000000000000000000, .int .u64 10000000000000000000] t frozen | o => o) },
    rfl, by kernel_rfl, by kernel_rfl, by kernel_rfl, laidMet_of_run3 8 (by kernel_rfl) (by kernel_rfl) (by kernel_rfl), [], by kernel_rfl⟩

set_option maxRecDepth 100000 in
theorem lifted (os : Os) (started : os.Started) (H : Type) (enc : TypeId × Value → H) (F : Stop.Interp) :
    ReturnsInHanded {} Tryd.checked os 3 .any ((OpenSpec.ofChange Rows.fnVersSpec).preRow enc Tryd.prog Tryd.f3 Rows.fnVersRow.domain false Rows.fnVersRow.laid) (((OpenSpec.ofChange Rows.fnVersSpec).at F).post enc Tryd.prog Tryd.f3 false true false false) := by
  obtain ⟨W0, hos, hv, hr, hok, hlaid, places, hx⟩ := witnessWorld os enc
  refine returnsInHanded_of_row (C := Tryd.checked) (s := OpenSpec.ofChange Rows.fnVersSpec) own started (by kernel_rfl) Tryd.func3
    (witness_row_at (enc := enc) (C := Tryd.checked) false W0 #[.slice none 0 0] hos hv hr hok
      (OpenSpec.preRow_of_cond 8 hx (by kernel_rfl) (fun k hk => by cases hk) (by kernel_rfl) hlaid)) ?_
  intro W base args ds gs before hval0 hW _ _ _ hL _ _
  have hval : ∀ (j : Nat) t v, Tryd.f3.params[j]? = some t → args[j]? = some v → Value.okWide Tryd.prog W .any base t v := hval0
  have hW' := hW
  obtain ⟨p, q, hA0, hV, rfl, hfz, hnd⟩ := hW
  have hA : DataW.TrodAll enc Tryd.prog W 0 (fun _ => true) true Tryd.f3.params.toList args.toList ds p := hA0
  rw [Tryd.params3] at hA hval
  obtain ⟨v0, vs0, d0, ds0, p0, q0, hargs, rfl, rfl, h0, r0⟩ := trodAll_cons hA
  obtain ⟨rfl, rfl, rfl⟩ := trodAll_nil r0
  obtain rfl : args = #[v0] := by cases args; simp_all
  obtain ⟨rfl, rfl⟩ := trodVars_none hV
  obtain ⟨a0, len0, cap0, rfl⟩ := okWide_slice Tryd.underlying22 (hval 0 22 v0 rfl rfl)
  have k0 := h0
  have lt0 : ∀ x ∈ p0, x.block < W.heap.size := by obtain ⟨m, hm⟩ := k0; exact DataW.trod_lt m _ _ _ hm
  obtain ⟨z0, t0, w0, l0⟩ : ∃ zs : List Int, Reads W (.slice a0 len0 cap0) (bytesV zs) ∧ (∀ z ∈ zs, 0 ≤ z ∧ z ≤ 255) ∧ zs.length ≤ maxLen := by
    obtain ⟨fuel, hf⟩ := h0
    rcases open_ints Tryd.underlying22 Tryd.underlying5 (by kernel_rfl) hf with ⟨hcs, _⟩ | ⟨x, l, c, zs, hcs, _, hl, hm, hz, _, hcell, hwz⟩
    · simp [Value.cells] at hcs
      obtain ⟨rfl, rfl, rfl⟩ := hcs
      exact ⟨[], ⟨none, 0, rfl, Nat.le_refl _, .inl rfl⟩, by simp, by simp⟩
    · simp [Value.cells] at hcs
      obtain ⟨rfl, rfl, rfl⟩ := hcs
      have hz' : zs.length = cap0 := by simpa using hz
      refine ⟨zs.take len0, reads_mk (by simp; omega) hl (fun i hi => ?_), fun z hzm => ?_, by simp; omega⟩
      · simp at hi
        rw [hcell i (by omega)]
        simp [bytesV, List.getD_eq_getElem?_getD, show i < zs.length by omega]
      · have := hwz z (List.mem_of_mem_take hzm)
        simpa [Lit.wf, IntKind.min, IntKind.max, IntKind.signed, IntKind.bits] using this
  clear hA0 hval0
  refine (walk _ z0 W t0 w0 l0 (powers hL)).mono fun e W' ⟨he, bel⟩ => ?_
  subst he
  exact ⟨_, rfl, _, _, _, [], _, [], hW', trodAll_mk1 (shut_bool Tryd.underlying4 _), (trodAll_cons_mk (Below.trod laidOut (by kernel_rfl) (of_decide_eq_true (by kernel_rfl)) k0 bel lt0) trodAll_mk0), rfl, bel.frame _, fun h => by cases h⟩

theorem said : Rows.FnVersSaid :=
  OpenClaim.holds_of_cond 3 Tryd.f3 rfl rfl rfl rfl rfl rfl rfl ⟨rfl, rfl, rfl, rfl, rfl⟩ rfl rfl rfl rfl rfl (by kernel_rfl) Tryd.func3 (by kernel_rfl)
    (of_decide_eq_true (by kernel_rfl)) (by unfold Func.isWrapper; first | (rw [if_pos (by decide +kernel)]; kernel_rfl) | (rw [if_neg (by decide +kernel)]; exact ⟨rfl, rfl⟩))
    (fun os started H enc _ F => by rw [OpenClaim.pre_eq_preRow]; exact lifted os started H enc F)

theorem plain (f : FuncId) (fn : Func) (hf : Tryd.pinned.checked.prog.funcNamed "loop.example/g00464/laws.FnVers" = some f) (hfn : Tryd.pinned.checked.prog.funcs[f]? = some fn) :
    true = Tryd.pinned.checked.prog.looks [] ∧ ∀ (j : Nat) t, fn.params[j]? = some t → Tryd.pinned.checked.prog.wantsStandIn t = false := by
  obtain rfl : f = 3 := Option.some.inj ((show Tryd.prog.funcNamed "loop.example/g00464/laws.FnVers" = some 3 by kernel_rfl).symm.trans hf) |>.symm
  obtain rfl : fn = Tryd.f3 := (Option.some.inj (Tryd.func3.symm.trans hfn)).symm
  refine ⟨by kernel_rfl, fun j t ht => ?_⟩
  have hall : (Tryd.f3.params.toList.all fun t => Tryd.prog.wantsStandIn t == false) = true := by kernel_rfl
  exact beq_iff_eq.1 (List.all_eq_true.1 hall t (Array.mem_toList_iff.2 (Array.mem_of_getElem? ht)))

theorem card : Rows.FnVersCardSaid :=
  Claim7.holds_tied_plain_at .later [] _ _ _ _ said (fun _ h => by cases h) (by kernel_rfl) (fun _ h => by cases h) fnVers_row_tie rfl ⟨rfl, rfl⟩ (by kernel_rfl) rfl plain (by kernel_rfl)
end Go.Proofs.YtdnpfkknnaepoaaDoor.fnVers
namespace Go.Proofs.YtdnpfkknnaepoaaDoor
theorem fnVers_holds : Rows.FnVersCardSaid := fnVers.card
#print axioms fnVers_holds
end Go.Proofs.YtdnpfkknnaepoaaDoor
