/-
  Contracts for the walks, several texts in one: each part says what it proves, and under which conditions.
-/
import Derived.Test.YtlfmefojcmpfeaaGreatDoorRows
import Derived.LaidLaws
import Derived.LaidHandle
import Derived.LaidSub
import Derived.Stop.Joined
import Derived.WalkKit
import Derived.ProofKit
import Derived.OpenShut
import Derived.Lib.LaidTab
import Derived.Lib.ItoaNum
import Derived.Stop.LaidErr
import Derived.Test.YtlfmefojcmpfeaaGreatDoorQ1
import Derived.Test.YtlfmefojcmpfeaaGreatDoorQ5
import Derived.Test.YtlfmefojcmpfeaaGreatDoorQ2
import Derived.Test.YtlfmefojcmpfeaaGreatDoorQ3
import Derived.Test.YtlfmefojcmpfeaaGreatDoorQ4

/-! What the table of signs holds, as the row lists it, and what the library's bound is: a number; no condition. -/
namespace Go.Proofs.YtlfmefojcmpfeaaGreatDoor
open Go.ChangeShapes Go.WideShapes Go.RowKit
set_option maxRecDepth 100000

namespace fnExactStale
/-- An array of texts that reads as the list holds it, cell for cell. -/
theorem cells_of_texts {H : Type} {enc : TypeId × Value → H} {P : Program} {w : World} {base : Nat} {sp : Nat → Bool} {held : Bool} {fuel : Nat} {t e : TypeId} {n : Nat} {cs : List Value} {zs : List (List UInt8)} {p : List MemPlace}
    (ht : P.underlying t = some (.array n e)) (he : P.underlying e = some .string) (hce : P.cellsOf e = 1) (hct : P.cellsOf t = n)
    (h : DataW.trod enc P w base sp held fuel t cs = some (.agg (zs.map fun z => .lit (.string z)), p)) : cs = zs.map fun z => Value.string ⟨z.toArray⟩ := by
  cases fuel with
  | zero => simp [DataW.trod] at h
  | succ fuel =>
    simp only [DataW.trod, ht, hce, hct, Nat.mul_one] at h
    split at h
    · rename_i hl
      obtain ⟨xs, hm, hx⟩ := Option.map_eq_some_iff.1 h
      have hxs : xs.map (·.1) = zs.map fun z => (DataW.lit (.string z) : DataW H) := by
        have := congrArg Prod.fst hx
        simpa using this
      have hxl : xs.length = n := by simpa using Lib.mapM_length hm
      have hzl : zs.length = n := by
        have := congrArg List.length hxs
        simp at this
        omega
      apply List.ext_getElem?
      intro i
      by_cases hi : i < n
      · obtain ⟨b, hb, hf⟩ := Lib.mapM_at hm i i (by simp [hi])
        obtain ⟨z, hc, rfl, _⟩ := DataW.trod_string he hf
        have h1 : cs[i]? = some (.string z) := by
          have := congrArg (·[0]?) hc
          simpa [List.getElem?_take, List.getElem?_drop] using this
        have h2 : (xs.map (·.1))[i]? = some (DataW.lit (.string z.data.toList) : DataW H) := by simp [hb]
        rw [hxs] at h2
        simp only [List.getElem?_map, Option.map_eq_some_iff, DataW.lit.injEq, Lit.string.injEq] at h2
        obtain ⟨z', hz', rfl⟩ := h2
        simp [h1, hz']
      · rw [List.getElem?_eq_none (by omega), List.getElem?_eq_none (by simp; omega)]
    · cases h

theorem six_laid {W : World} (h : laidMetH Tryz.prog Rows.fnExactStaleRow.laid W) : laidMet Tryz.prog [("math/bits.deBruijn32tab", Rows.laid_math_bits_deBruijn32tab), ("math/bits.deBruijn64tab", Rows.laid_math_bits_deBruijn64tab), ("internal/strconv.uint64pow10", Rows.laid_internal_strconv_uint64pow10), ("unicode/utf8.acceptRanges", Rows.laid_unicode_utf8_acceptRanges), ("loop.example/g00464/impl.signTexts", Rows.laid_loop_example_g00464_impl_signTexts), ("unicode/utf8.first", Rows.laid_unicode_utf8_first)] W ∧ handlesMet Tryz.prog [("errors.errorType", Rows.laid_errors_errorType)] W := by
  have h1 := laidMetH_iff.1 h
  have e1 : (Rows.fnExactStaleRow.laid.filter fun x => x.2.handleName?.isNone) = [("math/bits.deBruijn32tab", Rows.laid_math_bits_deBruijn32tab), ("math/bits.deBruijn64tab", Rows.laid_math_bits_deBruijn64tab), ("internal/strconv.uint64pow10", Rows.laid_internal_strconv_uint64pow10), ("unicode/utf8.acceptRanges", Rows.laid_unicode_utf8_acceptRanges), ("loop.example/g00464/impl.signTexts", Rows.laid_loop_example_g00464_impl_signTexts), ("unicode/utf8.first", Rows.laid_unicode_utf8_first)] := by first | rfl | kernel_rfl
  have e2 : (Rows.fnExactStaleRow.laid.filter fun x => x.2.handleName?.isSome) = [("errors.errorType", Rows.laid_errors_errorType)] := by first | rfl | kernel_rfl
  rw [e1, e2] at h1
  exact h1
theorem etGlob : Tryz.prog.globalNamed "errors.errorType" = some 0 := by kernel_rfl
theorem rtCut : (Tryz.prog.cutTypes.find? (·.1 == "internal/reflectlite.rtype")).map (·.2) = some 288 := by kernel_rfl
theorem errRow : ((List.range 397).filter fun t => Tryz.prog.rowNamed t [101, 114, 114, 111, 114]) = [157] := by kernel_rfl
theorem typesSize : Tryz.prog.types.size = 397 := by kernel_rfl
theorem handle_of_laid {W : World} (h : laidMetH Tryz.prog Rows.fnExactStaleRow.laid W) : ErrT W := by
  have h' := (six_laid h).2
  obtain ⟨name, u, ty, e1, e2, e3, e4, e5⟩ := h' _ (List.mem_singleton.2 rfl)
  have en : name = [101, 114, 114, 111, 114] := (Option.some.inj e1).symm
  subst en
  obtain rfl := Option.some.inj (rtCut.symm.trans e2)
  have hm : ty ∈ (List.range 397).filter fun t => Tryz.prog.rowNamed t [101, 114, 114, 111, 114] := List.mem_filter.2 ⟨List.mem_range.2 (by rw [← typesSize]; exact e3), e4⟩
  rw [errRow] at hm
  obtain rfl := List.mem_singleton.1 hm
  have hh : typeHandle Tryz.prog 157 = .pointer (some ⟨8, 157, none⟩) := by kernel_rfl
  rw [hh] at e5
  simpa [ErrT] using World.var?_cell etGlob e5 0
theorem signs_laid {W : World} (h0 : laidMetH Tryz.prog Rows.fnExactStaleRow.laid W) : ∀ k (h : k < signsT.length), W.cell? ⟨1, k, none⟩ = some (.string signsT[k]) := by
  have h := (six_laid h0).1
  have h1 := laidMet.tail (laidMet.tail (laidMet.tail (laidMet.tail h)))
  obtain ⟨ps, ⟨g', t', cs, fuel, p, q, hg', ht', hvar, hd, _, _⟩, _⟩ := h1
  have hg : Tryz.prog.globalNamed "loop.example/g00464/impl.signTexts" = some 1 := by kernel_rfl
  obtain rfl := Option.some.inj (hg.symm.trans hg')
  have hty : (Tryz.prog.globals[1]?).map (·.type) = some 341 := by kernel_rfl
  obtain rfl := Option.some.inj (hty.symm.trans ht')
  have hcs := cells_of_texts (zs := [[61], [60], [60, 61], [62], [62, 61], [126], [94]]) Tryz.underlying341 Tryz.underlying9 (by kernel_rfl) (by kernel_rfl) hd
  intro k hk
  rw [World.var?_cell hg hvar k, ← Array.getElem?_toList, hcs]
  have hk7 : k < 7 := hk
  match k, hk7 with
  | 0, _ => rfl
  | 1, _ => rfl
  | 2, _ => rfl
  | 3, _ => rfl
  | 4, _ => rfl
  | 5, _ => rfl
  | 6, _ => rfl

theorem bound_shaped {W : World} (h : W.ShapedOpen Tryz.prog) : ∃ m, W.cell? ⟨2, 0, none⟩ = some (.int .i64 m) := by
  obtain ⟨cs, hh, hs, hr⟩ := h.1 2 #[.int .i64 0] 3 (by decide +kernel) (by kernel_rfl)
  obtain ⟨ts, hts, _, hall⟩ := hr (by kernel_rfl)
  have hc : Tryz.prog.cellTypes Tryz.prog.depth 3 = some [3] := by kernel_rfl
  rw [hc] at hts
  cases hts
  have h1 : 0 < cs.size := by rw [hs]; decide
  obtain ⟨u, hu', hok⟩ := hall 0 cs[0] (by simp [h1])
  have : u = 3 := by simpa using hu'.symm
  subst this
  have hcell : W.cell? ⟨2, 0, none⟩ = some cs[0] := by simp [World.cell?, hh, h1]
  rw [hcell]
  unfold Cell.ok at hok
  rw [Tryz.underlying3] at hok
  cases hv : cs[0] <;> rw [hv] at hok <;> simp at hok
  obtain ⟨rfl, _⟩ := hok
  exact ⟨_, rfl⟩
theorem powers_laid {W : World} (h0 : laidMetH Tryz.prog Rows.fnExactStaleRow.laid W) : Lib.TabIs Tryz.prog W "internal/strconv.uint64pow10" .u64 Lib.pow10Tab :=
  Lib.tabIs_of_head (show Tryz.prog.globalNamed "internal/strconv.uint64pow10" = some 5 by kernel_rfl) (by kernel_rfl) Tryz.underlying367 Tryz.underlying284 (by kernel_rfl) (by kernel_rfl) (laidMet.tail (laidMet.tail (six_laid h0).1))
end fnExactStale
end Go.Proofs.YtlfmefojcmpfeaaGreatDoor

/-! What the law's helpers over one Cmp answer (how much there is, a copy, whether two are alike): contracts for the walks; conditions: the lists of texts lie in memory as told. -/
namespace Go.Proofs.YtlfmefojcmpfeaaGreatDoor
open Go.RowKit
set_option linter.unusedSimpArgs false
set_option linter.unusedVariables false

theorem owns_base {w : World} {base base' : Nat} {e : TypeId} {v : Value} {n : Nat} {xs : List Value} (h : w.ownsRow base e 1 v n xs) (hb : base' ≤ base) : w.ownsRow base' e 1 v n xs := by
  obtain ⟨h1, h2⟩ := h
  refine ⟨h1, ?_⟩
  rcases h2 with h2 | ⟨g, cap, cur, a, b, c⟩
  · exact .inl h2
  · exact .inr ⟨g, cap, cur, a, Nat.le_trans hb b, c⟩

set_option maxHeartbeats 1000000 in
set_option maxRecDepth 100000 in
theorem toVer_o (a b c : Int) (u : Value) (ps : List ByteArray) (w : World) (hu : Reads w u (strsV ps)) (hn : ps.length ≤ 1048576) :
    Calls Tryz.prog 204 #[.agg #[.int .i64 a, .int .i64 b, .int .i64 c, u]] w fun e w' => ∃ g, e = .returned (.agg #[.int .i64 a, .int .i64 b, .int .i64 c, .slice (some ⟨g, 0, none⟩) ps.length ps.length]) ∧ w'.ownsRow w.heap.size 9 1 (.slice (some ⟨g, 0, none⟩) ps.length ps.length) ps.length (strsV ps) ∧ Below w.heap.size w w' := by
  have huA : ∀ w1, Below w.heap.size w w1 → Reads w1 u (strsV ps) := fun w1 h1 => hu.below h1
  obtain ⟨q, cap, rfl, _, _⟩ := reads_strs hu
  clear hu
  go_enter Tryz.func204, Tryz.ntmps204
  have hb3 : ∀ A R O, Below w.heap.size w (((w.alloc A).alloc R).alloc O) := fun A R O => (((Below.refl _ _).alloc (Nat.le_refl _) _).alloc (by simp) _).alloc (by simp; omega) _
  go_wp2_with (
    go_at_call 208
    refine (toStrs_c _ ps _ (huA _ (hb3 _ _ _)) (by omega)).mono ?_
    rintro e w1 ⟨g, rfl, hM, hb1⟩
    obtain ⟨hA, hR, hO⟩ := vthree hb1
    have o0 := vblk_cell hO 0
    have o1 := vblk_cell hO 1
    have o2 := vblk_cell hO 2
    have o3 := vblk_cell hO 3
    have r0 := vblk_cell hR 0
    have r1 := vblk_cell hR 1
    have r2 := vblk_cell hR 2
    have r3 := vblk_cell hR 3
    have fo := vblk_frozen hO
    have fr := vblk_frozen hR
    simp only [List.getElem?_toArray, List.getElem?_cons_succ, List.getElem?_cons_zero] at o0 o1 o2 o3 r0 r1 r2 r3)
  have s3 : ∀ A R O, (((w.alloc A).alloc R).alloc O).heap.size = w.heap.size + 1 + 1 + 1 := fun A R O => by simp
  rw [s3] at hb1 hM
  have hN : w.heap.size + 1 + 1 + 1 ≤ w1.heap.size := by have := hb1.size; rw [s3] at this; exact this
  refine bodyPost_ret (v := .agg #[.int .i64 a, .int .i64 b, .int .i64 c, .slice (some ⟨g, 0, none⟩) ps.length ps.length]) (by simp [results, Tryz.results204, go_sem, o0, o1, o2, o3, r0, r1, r2, r3]) rfl ⟨_, rfl, ?_, ?_⟩
  · refine owns_base (base := w.heap.size + 1 + 1 + 1) ?_ (by omega)
    refine owns_set (owns_set (owns_set (owns_set (owns_set hM ?_ _) ?_ _) ?_ _) ?_ _) ?_ _ <;> simp
  · have b1 := ((hb3 _ _ _).trans (hb1.mono (by omega)))
    refine Below.setCell (Below.setCell (Below.setCell (Below.setCell (Below.setCell b1 ?_ _) ?_ _) ?_ _) ?_ _) ?_ _ <;> simp <;> omega

/-- The block N holds these five cells. -/
def Five (w : World) (N : Nat) (t : TypeId) (c0 c1 c2 c3 c4 : Value) : Prop := w.heap[N]? = some (.cells #[c0, c1, c2, c3, c4] t (0, 0))
theorem Five.lt {w : World} {N : Nat} {t : TypeId} {c0 c1 c2 c3 c4 : Value} (h : Five w N t c0 c1 c2 c3 c4) : N < w.heap.size := (Array.getElem?_eq_some_iff.1 h).1
theorem Five.keep {w w' : World} {N : Nat} {t : TypeId} {c0 c1 c2 c3 c4 : Value} (h : Five w N t c0 c1 c2 c3 c4) (b : Below w.heap.size w w') : Five w' N t c0 c1 c2 c3 c4 := (b.block N h.lt).trans h
theorem Five.cells {w : World} {N : Nat} {t : TypeId} {c0 c1 c2 c3 c4 : Value} (h : Five w N t c0 c1 c2 c3 c4) : w.cell? ⟨N, 0, none⟩ = some c0 ∧ w.cell? ⟨N, 1, none⟩ = some c1 ∧ w.cell? ⟨N, 2, none⟩ = some c2 ∧ w.cell? ⟨N, 3, none⟩ = some c3 ∧ w.cell? ⟨N, 4, none⟩ = some c4 :=
  ⟨vblk_cell h 0, vblk_cell h 1, vblk_cell h 2, vblk_cell h 3, vblk_cell h 4⟩
theorem Five.drew {w : World} {N : Nat} {t : TypeId} {c0 c1 c2 c3 c4 : Value} (h : Five w N t c0 c1 c2 c3 c4) : Five w.drew N t c0 c1 c2 c3 c4 := h
theorem five_new (w : World) (t : TypeId) (c0 c1 c2 c3 c4 : Value) : Five (w.alloc (.cells #[c0, c1, c2, c3, c4] t)) w.heap.size t c0 c1 c2 c3 c4 := vheap_new _ _
theorem five_four (w : World) (t t' : TypeId) (c0 c1 c2 c3 c4 d0 d1 d2 d3 : Value) : Five ((w.alloc (.cells #[c0, c1, c2, c3, c4] t)).alloc (.cells #[d0, d1, d2, d3] t')) w.heap.size t c0 c1 c2 c3 c4 ∧ Four ((w.alloc (.cells #[c0, c1, c2, c3, c4] t)).alloc (.cells #[d0, d1, d2, d3] t')) (w.heap.size + 1) t' d0 d1 d2 d3 := by
  refine ⟨(five_new _ _ _ _ _ _ _).keep ((Below.refl _ _).alloc (Nat.le_refl _) _), ?_⟩
  have h := four_new (w.alloc (.cells #[c0, c1, c2, c3, c4] t)) t' d0 d1 d2 d3
  have s1 : ∀ o, (w.alloc o).heap.size = w.heap.size + 1 := fun o => by simp
  rw [s1] at h
  exact h
end Go.Proofs.YtlfmefojcmpfeaaGreatDoor

/-! Lists of Cmps and lists of such lists that lie in memory, in blocks of a set S: what they are, and that they are kept; no condition. -/
namespace Go.Proofs.YtlfmefojcmpfeaaGreatDoor
open Go.RowKit
set_option linter.unusedSimpArgs false
set_option linter.unusedVariables false

/-- A Cmp: its Op, and its version. -/
structure CmpD where
  o : Int
  a : Int
  b : Int
  c : Int
  ps : List ByteArray

/-- The five cells from place j on in block b are the Cmp d; its texts are read at u. -/
def CmpAt (S : Nat → Prop) (w : World) (b j : Nat) (u : Value) (d : CmpD) : Prop :=
  w.cell? ⟨b, j, none⟩ = some (.int .i64 d.o) ∧ w.cell? ⟨b, j + 1, none⟩ = some (.int .i64 d.a) ∧ w.cell? ⟨b, j + 2, none⟩ = some (.int .i64 d.b) ∧ w.cell? ⟨b, j + 3, none⟩ = some (.int .i64 d.c) ∧ w.cell? ⟨b, j + 4, none⟩ = some u ∧ RdB S w u (strsV d.ps) ∧ saneP d.ps

theorem CmpAt.keep {S : Nat → Prop} {w w' : World} {b j : Nat} {u : Value} {d : CmpD} (hk : Kp S w w') (hb : S b) (h : CmpAt S w b j u d) : CmpAt S w' b j u d := by
  obtain ⟨h0, h1, h2, h3, h4, h5, h6⟩ := h
  exact ⟨(hk.cell hb _).trans h0, (hk.cell hb _).trans h1, (hk.cell hb _).trans h2, (hk.cell hb _).trans h3, (hk.cell hb _).trans h4, h5.keep hk, h6⟩
theorem CmpAt.mono {S S' : Nat → Prop} {w : World} {b j : Nat} {u : Value} {d : CmpD} (hS : ∀ b, S b → S' b) (h : CmpAt S w b j u d) : CmpAt S' w b j u d := by
  obtain ⟨h0, h1, h2, h3, h4, h5, h6⟩ := h
  exact ⟨h0, h1, h2, h3, h4, h5.mono hS, h6⟩

/-- The list of Cmps v is ds. -/
def CmpsIn (S : Nat → Prop) (w : World) (v : Value) (ds : List CmpD) : Prop :=
  ∃ q cap, v = .slice q ds.length cap ∧ ds.length ≤ maxLen ∧ ds.length ≤ cap ∧ (ds = [] ∨ ∃ (b off : Nat) (us : Nat → Value), q = some ⟨b, off, none⟩ ∧ S b ∧ ∀ k (h : k < ds.length), CmpAt S w b (off + k * 5) (us k) ds[k])
theorem CmpsIn.keep {S : Nat → Prop} {w w' : World} {v : Value} {ds : List CmpD} (hk : Kp S w w') (h : CmpsIn S w v ds) : CmpsIn S w' v ds := by
  obtain ⟨q, cap, hv, hm, hc, h⟩ := h
  refine ⟨q, cap, hv, hm, hc, ?_⟩
  rcases h with h | ⟨b, off, us, hq, hb, h⟩
  · exact .inl h
  · exact .inr ⟨b, off, us, hq, hb, fun k hh => (h k hh).keep hk hb⟩
theorem CmpsIn.mono {S S' : Nat → Prop} {w : World} {v : Value} {ds : List CmpD} (hS : ∀ b, S b → S' b) (h : CmpsIn S w v ds) : CmpsIn S' w v ds := by
  obtain ⟨q, cap, hv, hm, hc, h⟩ := h
  refine ⟨q, cap, hv, hm, hc, ?_⟩
  rcases h with h | ⟨b, off, us, hq, hb, h⟩
  · exact .inl h
  · exact .inr ⟨b, off, us, hq, hS b hb, fun k hh => (h k hh).mono hS⟩

/-- The list of lists of Cmps v is dss. -/
def RangeIn (S : Nat → Prop) (w : World) (v : Value) (dss : List (List CmpD)) : Prop :=
  ∃ q cap, v = .slice q dss.length cap ∧ dss.length ≤ maxLen ∧ dss.length ≤ cap ∧ (dss = [] ∨ ∃ (b off : Nat) (vs : Nat → Value), q = some ⟨b, off, none⟩ ∧ S b ∧ ∀ k (h : k < dss.length), w.cell? ⟨b, off + k, none⟩ = some (vs k) ∧ CmpsIn S w (vs k) dss[k])
theorem RangeIn.keep {S : Nat → Prop} {w w' : World} {v : Value} {dss : List (List CmpD)} (hk : Kp S w w') (h : RangeIn S w v dss) : RangeIn S w' v dss := by
  obtain ⟨q, cap, hv, hm, hc, h⟩ := h
  refine ⟨q, cap, hv, hm, hc, ?_⟩
  rcases h with h | ⟨b, off, vs, hq, hb, h⟩
  · exact .inl h
  · exact .inr ⟨b, off, vs, hq, hb, fun k hh => ⟨(hk.cell hb _).trans (h k hh).1, (h k hh).2.keep hk⟩⟩
theorem RangeIn.mono {S S' : Nat → Prop} {w : World} {v : Value} {dss : List (List CmpD)} (hS : ∀ b, S b → S' b) (h : RangeIn S w v dss) : RangeIn S' w v dss := by
  obtain ⟨q, cap, hv, hm, hc, h⟩ := h
  refine ⟨q, cap, hv, hm, hc, ?_⟩
  rcases h with h | ⟨b, off, vs, hq, hb, h⟩
  · exact .inl h
  · exact .inr ⟨b, off, vs, hq, hS b hb, fun k hh => ⟨(h k hh).1, (h k hh).2.mono hS⟩⟩

/-- How much a list of Cmps holds, as the law counts it. -/
def wtC (ds : List CmpD) : Nat := (ds.map fun d => 1 + bulkS d.ps).sum
def wtR (dss : List (List CmpD)) : Nat := (dss.map fun ds => 1 + wtC ds).sum
theorem wtC_take (ds : List CmpD) (k : Nat) (h : k < ds.length) : wtC (ds.take (k + 1)) = wtC (ds.take k) + (1 + bulkS ds[k].ps) := by
  rw [wtC, wtC, List.take_succ_eq_append_getElem h]; simp only [List.map_append, List.sum_append, List.map_cons, List.map_nil, List.sum_cons, List.sum_nil, Nat.add_zero]
theorem wtR_take (dss : List (List CmpD)) (k : Nat) (h : k < dss.length) : wtR (dss.take (k + 1)) = wtR (dss.take k) + (1 + wtC dss[k]) := by
  rw [wtR, wtR, List.take_succ_eq_append_getElem h]; simp only [List.map_append, List.sum_append, List.map_cons, List.map_nil, List.sum_cons, List.sum_nil, Nat.add_zero]
theorem wtC_split (ds : List CmpD) (k : Nat) : wtC ds = wtC (ds.take k) + wtC (ds.drop k) := by
  rw [wtC, wtC, wtC, ← List.sum_append, ← List.map_append, List.take_append_drop]
theorem wtR_split (dss : List (List CmpD)) (k : Nat) : wtR dss = wtR (dss.take k) + wtR (dss.drop k) := by
  rw [wtR, wtR, wtR, ← List.sum_append, ← List.map_append, List.take_append_drop]
theorem len_wtC (ds : List CmpD) : ds.length ≤ wtC ds := by
  induction ds with
  | nil => simp [wtC]
  | cons d ds ih => simp [wtC] at ih ⊢; omega
theorem len_wtR (dss : List (List CmpD)) : dss.length ≤ wtR dss := by
  induction dss with
  | nil => simp [wtR]
  | cons d ds ih => simp [wtR] at ih ⊢; omega
theorem bulk_wtC {ds : List CmpD} {d : CmpD} (h : d ∈ ds) : bulkS d.ps ≤ wtC ds := by
  induction ds with
  | nil => simp at h
  | cons x ds ih =>
    simp [wtC] at ih ⊢
    rcases List.mem_cons.1 h with rfl | h
    · omega
    · have := ih h; omega
theorem wtC_wtR {dss : List (List CmpD)} {ds : List CmpD} (h : ds ∈ dss) : wtC ds ≤ wtR dss := by
  induction dss with
  | nil => simp at h
  | cons x dss ih =>
    simp [wtR] at ih ⊢
    rcases List.mem_cons.1 h with rfl | h
    · omega
    · have := ih h; omega

theorem leftS_W (ps : List ByteArray) (left : Int) : leftS ps left = leftW (bulkS ps) left := rfl
end Go.Proofs.YtlfmefojcmpfeaaGreatDoor

/-! A list of Cmps, and a list of such lists, copied into memory of their own, as the law's helpers do it: contracts for what lies in memory and holds at most 2 to the 20. -/
namespace Go.Proofs.YtlfmefojcmpfeaaGreatDoor
open Go.RowKit
set_option linter.unusedSimpArgs false
set_option linter.unusedVariables false

theorem infoCmp : (Tryz.prog.info? 214).map (fun i => (i.zero, i.size, i.bytes)) = some (some (.agg #[.int .i64 0, .int .i64 0, .int .i64 0, .int .i64 0, .slice none 0 0]), 5, 56) := by kernel_rfl
theorem infoCmps : (Tryz.prog.info? 203).map (fun i => (i.zero, i.size, i.bytes)) = some (some (.slice none 0 0), 1, 24) := by kernel_rfl

def put5 (ys : List Value) (i : Nat) (c0 c1 c2 c3 c4 : Value) : List Value := ((((ys.set (i * 5) c0).set (i * 5 + 1) c1).set (i * 5 + 2) c2).set (i * 5 + 3) c3).set (i * 5 + 4) c4
/-- From place j on ys has these five. -/
def FiveAt (ys : List Value) (j : Nat) (c0 c1 c2 c3 c4 : Value) : Prop := ys[j]? = some c0 ∧ ys[j + 1]? = some c1 ∧ ys[j + 2]? = some c2 ∧ ys[j + 3]? = some c3 ∧ ys[j + 4]? = some c4
theorem put5_same (ys : List Value) (i : Nat) (c0 c1 c2 c3 c4 : Value) (h : i * 5 + 4 < ys.length) : FiveAt (put5 ys i c0 c1 c2 c3 c4) (i * 5) c0 c1 c2 c3 c4 := by
  simp [FiveAt, put5, List.getElem?_set, h, show i * 5 < ys.length by omega, show i * 5 + 1 < ys.length by omega, show i * 5 + 2 < ys.length by omega, show i * 5 + 3 < ys.length by omega]
theorem put5_get (ys : List Value) (i j : Nat) (c0 c1 c2 c3 c4 : Value) (h : j < i * 5 ∨ i * 5 + 4 < j) : (put5 ys i c0 c1 c2 c3 c4)[j]? = ys[j]? := by
  unfold put5
  rw [List.getElem?_set_ne (by omega), List.getElem?_set_ne (by omega), List.getElem?_set_ne (by omega), List.getElem?_set_ne (by omega), List.getElem?_set_ne (by omega)]
theorem put5_other {ys : List Value} {i j : Nat} {c0 c1 c2 c3 c4 d0 d1 d2 d3 d4 : Value} (h : j ≠ i) (hf : FiveAt ys (j * 5) d0 d1 d2 d3 d4) : FiveAt (put5 ys i c0 c1 c2 c3 c4) (j * 5) d0 d1 d2 d3 d4 := by
  obtain ⟨h0, h1, h2, h3, h4⟩ := hf
  refine ⟨?_, ?_, ?_, ?_, ?_⟩ <;> rw [put5_get _ _ _ _ _ _ _ _ (by omega)] <;> assumption

/-- What is laid so far of a copy: the Cmps below k. -/
def LaidC (lo : Nat) (w : World) (ys : List Value) (ds : List CmpD) (k : Nat) : Prop :=
  ∀ i (h : i < ds.length), i < k → ∃ u, FiveAt ys (i * 5) (.int .i64 ds[i].o) (.int .i64 ds[i].a) (.int .i64 ds[i].b) (.int .i64 ds[i].c) u ∧ RdB (Ow lo w.heap.size) w u (strsV ds[i].ps) ∧ saneP ds[i].ps

theorem cmpsIn_owns {w : World} {lo g n : Nat} {ys : List Value} {ds : List CmpD} (hg : w.ownsRow lo 214 5 (.slice (some ⟨g, 0, none⟩) n n) n ys) (hn : n = ds.length) (hl : ds.length ≤ maxLen) (hlo : lo ≤ g)
    (h : LaidC (lo + 1) w ys ds ds.length) : CmpsIn (Ow lo w.heap.size) w (.slice (some ⟨g, 0, none⟩) ds.length ds.length) ds := by
  subst hn
  refine ⟨_, _, rfl, hl, Nat.le_refl _, ?_⟩
  have hlen := hg.1
  by_cases h0 : ds = []
  · exact .inl h0
  · have hpos : 0 < ds.length := List.length_pos_iff.2 h0
    have hgl : g < w.heap.size := by
      rcases hg.2 with ⟨hh, _⟩ | ⟨g', cap, cur, hh, _, hg', _⟩
      · simp at hh
      · simp at hh
        have := (Array.getElem?_eq_some_iff.1 hg').1
        omega
    have hc : ∀ i (hi : i < ds.length), CmpAt (Ow lo w.heap.size) w g (0 + i * 5) (ys.getD (i * 5 + 4) undef) ds[i] := fun i hi => by
      obtain ⟨u, ⟨h0, h1, h2, h3, h4⟩, h5, h6⟩ := h i hi hi
      rw [Nat.zero_add]
      have hu : ys.getD (i * 5 + 4) undef = u := by simp [List.getD_eq_getElem?_getD, h4]
      rw [hu]
      refine ⟨?_, ?_, ?_, ?_, ?_, h5.mono (Ow.mono (by omega) (Nat.le_refl _)), h6⟩ <;> rw [hg.cellAt _ (by omega)] <;> assumption
    exact .inr ⟨g, 0, fun i => ys.getD (i * 5 + 4) undef, rfl, ⟨hlo, hgl⟩, hc⟩

theorem size_set5 (w : World) (g i : Nat) (c0 c1 c2 c3 c4 : Value) : (((((w.setCell ⟨g, i, none⟩ c0).setCell ⟨g, i + 1, none⟩ c1).setCell ⟨g, i + 2, none⟩ c2).setCell ⟨g, i + 3, none⟩ c3).setCell ⟨g, i + 4, none⟩ c4).heap.size = w.heap.size := by simp [World.setCell]
theorem kp_set5 {S : Nat → Prop} (w : World) (g i : Nat) (c0 c1 c2 c3 c4 : Value) (h : ¬ S g) : Kp S w (((((w.setCell ⟨g, i, none⟩ c0).setCell ⟨g, i + 1, none⟩ c1).setCell ⟨g, i + 2, none⟩ c2).setCell ⟨g, i + 3, none⟩ c3).setCell ⟨g, i + 4, none⟩ c4) :=
  ((((Kp.set h).trans (Kp.set h)).trans (Kp.set h)).trans (Kp.set h)).trans (Kp.set h)

theorem LaidC.step {lo : Nat} {w w2 : World} {ys : List Value} {ds : List CmpD} {k : Nat} (h : LaidC lo w ys ds k) (hk : k < ds.length) (hy : k * 5 + 4 < ys.length) (hb : Below w.heap.size w w2) {g : Nat} (hg : g < lo) {u : Value}
    (hu : RdB (Ow lo w2.heap.size) w2 u (strsV ds[k].ps)) (hs : saneP ds[k].ps) :
    LaidC lo (((((w2.setCell ⟨g, k * 5, none⟩ (.int .i64 ds[k].o)).setCell ⟨g, k * 5 + 1, none⟩ (.int .i64 ds[k].a)).setCell ⟨g, k * 5 + 2, none⟩ (.int .i64 ds[k].b)).setCell ⟨g, k * 5 + 3, none⟩ (.int .i64 ds[k].c)).setCell ⟨g, k * 5 + 4, none⟩ u) (put5 ys k (.int .i64 ds[k].o) (.int .i64 ds[k].a) (.int .i64 ds[k].b) (.int .i64 ds[k].c) u) ds (k + 1) := fun i hi hik => by
  rw [size_set5]
  by_cases e : i = k
  · subst e
    exact ⟨u, put5_same _ _ _ _ _ _ _ hy, hu.keep (kp_set5 _ _ _ _ _ _ _ _ (Ow.not hg)), hs⟩
  · obtain ⟨u', hf, hr, hs'⟩ := h i hi (by omega)
    exact ⟨u', put5_other e hf, ((hr.keep (Ow.below hb)).mono (Ow.mono (Nat.le_refl _) hb.size)).keep (kp_set5 _ _ _ _ _ _ _ _ (Ow.not hg)), hs'⟩

/-- What is laid so far of a copy: the lists below k. -/
def LaidR (lo : Nat) (w : World) (ys : List Value) (dss : List (List CmpD)) (k : Nat) : Prop :=
  ys.length = dss.length ∧ ∀ i (h : i < dss.length), i < k → ∃ u, ys[i]? = some u ∧ CmpsIn (Ow lo w.heap.size) w u dss[i]

theorem LaidR.step {lo : Nat} {w w2 : World} {ys : List Value} {dss : List (List CmpD)} {k : Nat} (h : LaidR lo w ys dss k) (hk : k < dss.length) (hb : Below w.heap.size w w2) {g : Nat} (hg : g < lo) {u : Value}
    (hu : CmpsIn (Ow lo w2.heap.size) w2 u dss[k]) : LaidR lo (w2.setCell ⟨g, k, none⟩ u) (ys.set k u) dss (k + 1) := by
  refine ⟨by simp [h.1], fun i hi hik => ?_⟩
  have hz : (w2.setCell ⟨g, k, none⟩ u).heap.size = w2.heap.size := by simp [World.setCell]
  rw [hz]
  by_cases e : i = k
  · subst e
    exact ⟨u, by simp [h.1, hk], hu.keep (Kp.set (Ow.not hg))⟩
  · obtain ⟨u', hf, hr⟩ := h.2 i hi (by omega)
    exact ⟨u', by rw [List.getElem?_set_ne (by omega)]; exact hf, ((hr.keep (Ow.below hb)).mono (Ow.mono (Nat.le_refl _) hb.size)).keep (Kp.set (Ow.not hg))⟩

theorem rangeIn_owns {w : World} {lo g n : Nat} {ys : List Value} {dss : List (List CmpD)} (hg : w.ownsRow lo 203 1 (.slice (some ⟨g, 0, none⟩) n n) n ys) (hn : n = dss.length) (hl : dss.length ≤ maxLen) (hlo : lo ≤ g)
    (h : LaidR (lo + 1) w ys dss dss.length) : RangeIn (Ow lo w.heap.size) w (.slice (some ⟨g, 0, none⟩) dss.length dss.length) dss := by
  subst hn
  refine ⟨_, _, rfl, hl, Nat.le_refl _, ?_⟩
  by_cases h0 : dss = []
  · exact .inl h0
  · have hpos : 0 < dss.length := List.length_pos_iff.2 h0
    have hgl : g < w.heap.size := by
      rcases hg.2 with ⟨hh, _⟩ | ⟨g', cap, cur, hh, _, hg', _⟩
      · simp at hh
      · simp at hh
        have := (Array.getElem?_eq_some_iff.1 hg').1
        omega
    refine .inr ⟨g, 0, fun i => ys.getD i undef, rfl, ⟨hlo, hgl⟩, fun i hi => ?_⟩
    obtain ⟨u, hu, hr⟩ := h.2 i hi hi
    have e : ys.getD i undef = u := by simp [List.getD_eq_getElem?_getD, hu]
    show w.cell? ⟨g, 0 + i, none⟩ = some (ys.getD i undef) ∧ CmpsIn (Ow lo w.heap.size) w (ys.getD i undef) dss[i]
    rw [e, Nat.zero_add]
    exact ⟨(hg.cellAt i (by omega)).trans hu, hr.mono (Ow.mono (by omega) (Nat.le_refl _))⟩

end Go.Proofs.YtlfmefojcmpfeaaGreatDoor

/-! Lists of Cmps that a call has made and holds alone: each row of Cmps, and each row of texts, in a block of its own; no condition. -/
namespace Go.Proofs.YtlfmefojcmpfeaaGreatDoor
open Go.RowKit
set_option linter.unusedSimpArgs false
set_option linter.unusedVariables false

/-- The list v of Cmps ds: its row, and the rows of their texts, are the call's own, from block lo on, no two in one block. -/
def CmpsOwn (lo : Nat) (w : World) (v : Value) (ds : List CmpD) : Prop :=
  ∃ (ys : List Value) (us : Nat → Value), w.ownsRow lo 214 5 v ds.length ys ∧
    (∀ i (h : i < ds.length), FiveAt ys (i * 5) (.int .i64 ds[i].o) (.int .i64 ds[i].a) (.int .i64 ds[i].b) (.int .i64 ds[i].c) (us i) ∧ w.ownsRow lo 9 1 (us i) ds[i].ps.length (strsV ds[i].ps)) ∧
    ∀ i j, i < ds.length → j < ds.length → i ≠ j → (us i).ownBlock = (us j).ownBlock → (us i).ownBlock = none

theorem own_kept5 {w w' : World} {base : Nat} {e : TypeId} {v : Value} {n : Nat} {xs : List Value} (h : w.ownsRow base e 5 v n xs) (b : Below w.heap.size w w') : w'.ownsRow base e 5 v n xs := by
  rcases h.2 with ⟨rfl, rfl⟩ | ⟨g, cap, cur, rfl, hg, hh, _⟩
  · exact ⟨h.1, .inl ⟨rfl, rfl⟩⟩
  · have hl := (Array.getElem?_eq_some_iff.1 hh).1
    exact h.kept (grown_of_below b none) (by simp [Value.ownBlock])
theorem CmpsOwn.below {lo : Nat} {w w' : World} {v : Value} {ds : List CmpD} (h : CmpsOwn lo w v ds) (b : Below w.heap.size w w') : CmpsOwn lo w' v ds := by
  obtain ⟨ys, us, h1, h2, h3⟩ := h
  exact ⟨ys, us, own_kept5 h1 b, fun i hi => ⟨(h2 i hi).1, owns_of_below (h2 i hi).2 b⟩, h3⟩

theorem owns_lower5 {w : World} {base base' : Nat} {e : TypeId} {v : Value} {n : Nat} {xs : List Value} (h : w.ownsRow base e 5 v n xs) (hb : base' ≤ base) : w.ownsRow base' e 5 v n xs := by
  obtain ⟨h1, h2⟩ := h
  refine ⟨h1, ?_⟩
  rcases h2 with h2 | ⟨g, cap, cur, a, b, c⟩
  · exact .inl h2
  · exact .inr ⟨g, cap, cur, a, Nat.le_trans hb b, c⟩
theorem CmpsOwn.lower {lo lo' : Nat} {w : World} {v : Value} {ds : List CmpD} (h : CmpsOwn lo w v ds) (hb : lo' ≤ lo) : CmpsOwn lo' w v ds := by
  obtain ⟨ys, us, h1, h2, h3⟩ := h
  exact ⟨ys, us, owns_lower5 h1 hb, fun i hi => ⟨(h2 i hi).1, owns_base (h2 i hi).2 hb⟩, h3⟩

theorem one_own {lo g : Nat} {w : World} {u : Value} (d : CmpD) (hg : g = w.heap.size) (hlo : lo ≤ w.heap.size) (hu : w.ownsRow lo 9 1 u d.ps.length (strsV d.ps)) :
    CmpsOwn lo (w.alloc (.cells #[.int .i64 d.o, .int .i64 d.a, .int .i64 d.b, .int .i64 d.c, u] 214)) (.slice (some ⟨g, 0, none⟩) 1 1) [d] := by
  subst hg
  refine ⟨[.int .i64 d.o, .int .i64 d.a, .int .i64 d.b, .int .i64 d.c, u], fun _ => u, ?_, fun i hi => ?_, fun i j hi hj hne => ?_⟩
  · exact World.ownsRow_lit w #[.int .i64 d.o, .int .i64 d.a, .int .i64 d.b, .int .i64 d.c, u] 1 (base := lo) (e := 214) (size := 5) hlo (by unfold maxLen; omega) rfl
  · have : i = 0 := by simp at hi; omega
    subst this
    exact ⟨⟨rfl, rfl, rfl, rfl, rfl⟩, hu.alloc _⟩
  · simp at hi hj; omega

theorem two_own {lo g : Nat} {w : World} {u u' : Value} (d d' : CmpD) (hg : g = w.heap.size) (hlo : lo ≤ w.heap.size) (hu : w.ownsRow lo 9 1 u d.ps.length (strsV d.ps)) (hu' : w.ownsRow lo 9 1 u' d'.ps.length (strsV d'.ps)) (hne : u.ownBlock = u'.ownBlock → u.ownBlock = none) :
    CmpsOwn lo (w.alloc (.cells #[.int .i64 d.o, .int .i64 d.a, .int .i64 d.b, .int .i64 d.c, u, .int .i64 d'.o, .int .i64 d'.a, .int .i64 d'.b, .int .i64 d'.c, u'] 214)) (.slice (some ⟨g, 0, none⟩) 2 2) [d, d'] := by
  subst hg
  refine ⟨[.int .i64 d.o, .int .i64 d.a, .int .i64 d.b, .int .i64 d.c, u, .int .i64 d'.o, .int .i64 d'.a, .int .i64 d'.b, .int .i64 d'.c, u'], fun i => if i = 0 then u else u', ?_, fun i hi => ?_, fun i j hi hj hij he => ?_⟩
  · exact World.ownsRow_lit w #[.int .i64 d.o, .int .i64 d.a, .int .i64 d.b, .int .i64 d.c, u, .int .i64 d'.o, .int .i64 d'.a, .int .i64 d'.b, .int .i64 d'.c, u'] 2 (base := lo) (e := 214) (size := 5) hlo (by unfold maxLen; omega) rfl
  · match i, hi with
    | 0, _ => exact ⟨⟨rfl, rfl, rfl, rfl, rfl⟩, hu.alloc _⟩
    | 1, _ => exact ⟨⟨rfl, rfl, rfl, rfl, rfl⟩, hu'.alloc _⟩
  · simp at hi hj
    by_cases h0 : i = 0
    · have hj1 : ¬ j = 0 := by omega
      simp only [h0, hj1, if_true, if_false] at he ⊢
      exact hne he
    · have hj0 : j = 0 := by omega
      simp only [h0, hj0, if_true, if_false] at he ⊢
      rw [he]
      exact hne he.symm
end Go.Proofs.YtlfmefojcmpfeaaGreatDoor

/-! What a version of which a part is told makes of itself: what comes next, where a caret stops: contracts for the walks; conditions: its numbers lie between 0 and 9999. -/
namespace Go.Proofs.YtlfmefojcmpfeaaGreatDoor
open Go.RowKit
set_option linter.unusedSimpArgs false
set_option linter.unusedVariables false

/-- What follows all that begins with the first k numbers. -/
def nextA (k : Int) (a : Int) : Int := if k = 1 then a + 1 else a
def nextB (k : Int) (b : Int) : Int := if k = 1 then 0 else if k = 2 then b + 1 else b
def nextC (k : Int) (c : Int) : Int := if k = 1 then 0 else if k = 2 then 0 else c + 1
def caretK (a b t : Int) : Int := if a ≠ 0 ∨ t = 1 then 1 else if b ≠ 0 ∨ t = 2 then 2 else 3
def numsOk (a b c : Int) : Prop := (0 ≤ a ∧ a ≤ 9999) ∧ (0 ≤ b ∧ b ≤ 9999) ∧ 0 ≤ c ∧ c ≤ 9999

theorem box_two {w : World} (o o' : Obj) : Below w.heap.size w ((w.alloc o).alloc o') := ((Below.refl _ _).alloc (Nat.le_refl _) _).alloc (by simp) _

set_option maxHeartbeats 1000000 in
set_option maxRecDepth 100000 in
theorem next_c (a b c : Int) (u : Value) (t k : Int) (w : World) (hn : numsOk a b c) (hu : ∃ q n cap, u = .slice q n cap) :
    Calls Tryz.prog 304 #[.agg #[.int .i64 a, .int .i64 b, .int .i64 c, u, .int .i64 t], .int .i64 k] w fun e w' => e = .returned (.agg #[.int .i64 (nextA k a), .int .i64 (nextB k b), .int .i64 (nextC k c), .slice none 0 0]) ∧ Below w.heap.size w w' := by
  obtain ⟨⟨ha0, ha1⟩, ⟨hb0, hb1⟩, hc0, hc1⟩ := hn
  obtain ⟨q, n, cap, rfl⟩ := hu
  by_cases h1 : k = 1
  · subst h1
    go_enter Tryz.func304, Tryz.ntmps304
    go_wp2
    exact bodyPost_ret (v := .agg #[.int .i64 (a + 1), .int .i64 0, .int .i64 0, .slice none 0 0]) (by simp [results, Tryz.results304, go_sem]) rfl ⟨by simp [nextA, nextB, nextC], box_two _ _⟩
  by_cases h2 : k = 2
  · subst h2
    go_enter Tryz.func304, Tryz.ntmps304
    go_wp2
    exact bodyPost_ret (v := .agg #[.int .i64 a, .int .i64 (b + 1), .int .i64 0, .slice none 0 0]) (by simp [results, Tryz.results304, go_sem]) rfl ⟨by simp [nextA, nextB, nextC], box_two _ _⟩
  have k1 : (k == 1) = false := by simpa using h1
  have k2 : (k == 2) = false := by simpa using h2
  go_enter Tryz.func304, Tryz.ntmps304
  go_wp2
  exact bodyPost_ret (v := .agg #[.int .i64 a, .int .i64 b, .int .i64 (c + 1), .slice none 0 0]) (by simp [results, Tryz.results304, go_sem]) rfl ⟨by simp [nextA, nextB, nextC, h1, h2], box_two _ _⟩

set_option maxHeartbeats 1000000 in
set_option maxRecDepth 100000 in
theorem caretTold_c (a b c : Int) (u : Value) (t : Int) (w : World) (hu : ∃ q n cap, u = .slice q n cap) :
    Calls Tryz.prog 303 #[.agg #[.int .i64 a, .int .i64 b, .int .i64 c, u, .int .i64 t]] w fun e w' => e = .returned (.int .i64 (caretK a b t)) ∧ Below w.heap.size w w' := by
  have hbx : ∀ o, Below w.heap.size w (w.alloc o) := fun o => (Below.refl _ _).alloc (Nat.le_refl _) _
  obtain ⟨q, n, cap, rfl⟩ := hu
  by_cases ha : a = 0
  · have ka : (a != 0) = false := by simp [ha]
    by_cases h1 : t = 1
    · have e : caretK a b t = 1 := by simp [caretK, h1]
      rw [e]
      have k1 : (t == 1) = true := by simp [h1]
      clear e h1 ha
      go_enter Tryz.func303, Tryz.ntmps303
      go_wp2
      go_ret
      exact ⟨rfl, hbx _⟩
    have k1 : (t == 1) = false := by simpa using h1
    by_cases hb : b = 0
    · have kb : (b != 0) = false := by simp [hb]
      by_cases h2 : t = 2
      · have e : caretK a b t = 2 := by simp [caretK, ha, h1, h2]
        rw [e]
        have k2 : (t == 2) = true := by simp [h2]
        clear e h1 h2 ha hb
        go_enter Tryz.func303, Tryz.ntmps303
        go_wp2
        go_ret
        exact ⟨rfl, hbx _⟩
      have e : caretK a b t = 3 := by simp [caretK, ha, h1, hb, h2]
      rw [e]
      have k2 : (t == 2) = false := by simpa using h2
      clear e h1 h2 ha hb
      go_enter Tryz.func303, Tryz.ntmps303
      go_wp2
      go_ret
      exact ⟨rfl, hbx _⟩
    have e : caretK a b t = 2 := by simp [caretK, ha, h1, hb]
    rw [e]
    have kb : (b != 0) = true := by simpa using hb
    clear e h1 ha hb
    go_enter Tryz.func303, Tryz.ntmps303
    go_wp2
    go_ret
    exact ⟨rfl, hbx _⟩
  have e : caretK a b t = 1 := by simp [caretK, ha]
  rw [e]
  have ka : (a != 0) = true := by simpa using ha
  clear e ha
  go_enter Tryz.func303, Tryz.ntmps303
  go_wp2
  go_ret
  exact ⟨rfl, hbx _⟩

theorem owns_lit1 (w : World) (s : ByteArray) (base : Nat) (hb : base ≤ w.heap.size) : (w.alloc (.cells #[.string s] 9)).ownsRow base 9 1 (.slice (some ⟨w.heap.size, 0, none⟩) 1 1) 1 (strsV [s]) :=
  World.ownsRow_lit w #[.string s] 1 (base := base) (e := 9) (size := 1) hb (by unfold maxLen; omega) rfl

def zeroT : ByteArray := ⟨#[48]⟩

set_option maxHeartbeats 1000000 in
set_option maxRecDepth 100000 in
theorem lessThanNext_c (a b c : Int) (u : Value) (t k : Int) (w : World) (hn : numsOk a b c) (hu : ∃ q n cap, u = .slice q n cap) :
    Calls Tryz.prog 302 #[.agg #[.int .i64 a, .int .i64 b, .int .i64 c, u, .int .i64 t], .int .i64 k] w fun e w' => ∃ g, e = .returned (.agg #[.int .i64 1, .int .i64 (nextA k a), .int .i64 (nextB k b), .int .i64 (nextC k c), .slice (some ⟨g, 0, none⟩) 1 1]) ∧ w'.ownsRow w.heap.size 9 1 (.slice (some ⟨g, 0, none⟩) 1 1) 1 (strsV [zeroT]) ∧ Below w.heap.size w w' := by
  have HX : Hid (∀ w1, Calls Tryz.prog 304 #[.agg #[.int .i64 a, .int .i64 b, .int .i64 c, u, .int .i64 t], .int .i64 k] w1 fun e w' => e = .returned (.agg #[.int .i64 (nextA k a), .int .i64 (nextB k b), .int .i64 (nextC k c), .slice none 0 0]) ∧ Below w1.heap.size w1 w') := fun w1 => next_c a b c u t k w1 hn hu
  obtain ⟨q, n, cap, rfl⟩ := hu
  have B0 := box_two (w := w) (.cells #[.int .i64 a, .int .i64 b, .int .i64 c, .slice q n cap, .int .i64 t] 313) (.cells #[.int .i64 0, .int .i64 0, .int .i64 0, .int .i64 0, .slice none 0 0] 214)
  have R0 : Five ((w.alloc (.cells #[.int .i64 a, .int .i64 b, .int .i64 c, .slice q n cap, .int .i64 t] 313)).alloc (.cells #[.int .i64 0, .int .i64 0, .int .i64 0, .int .i64 0, .slice none 0 0] 214)) (w.heap.size + 1) 214 (.int .i64 0) (.int .i64 0) (.int .i64 0) (.int .i64 0) (.slice none 0 0) := by
    have h := five_new (w.alloc (.cells #[.int .i64 a, .int .i64 b, .int .i64 c, .slice q n cap, .int .i64 t] 313)) 214 (.int .i64 0) (.int .i64 0) (.int .i64 0) (.int .i64 0) (.slice none 0 0)
    have s1 : ∀ o, (w.alloc o).heap.size = w.heap.size + 1 := fun o => by simp
    rw [s1] at h
    exact h
  obtain ⟨x, hx⟩ : ∃ x, x = nextA k a := ⟨_, rfl⟩
  obtain ⟨y, hy⟩ : ∃ x, x = nextB k b := ⟨_, rfl⟩
  obtain ⟨z, hz⟩ : ∃ x, x = nextC k c := ⟨_, rfl⟩
  rw [← hx, ← hy, ← hz] at HX
  rw [← hx, ← hy, ← hz]
  clear hx hy hz hn
  go_enter Tryz.func302, Tryz.ntmps302
  go_wp2_with fail
  go_at_call 304
  refine (HX.out _).mono ?_
  rintro e w1 ⟨rfl, b1⟩
  have R1 := R0.keep b1
  have k1 := B0.trans (b1.mono B0.size)
  have l1 := R1.lt
  have tA : ∀ o o', Below w1.heap.size w1 ((w1.alloc o).alloc o') := fun o o' => box_two _ _
  have R2 := R1.keep (tA (.cells #[.int .i64 x, .int .i64 y, .int .i64 z, .slice (some ⟨w1.heap.size + 1, 0, none⟩) 1 1] 30) (.cells #[.string ⟨#[48]⟩] 9))
  have k2 := k1.trans ((tA (.cells #[.int .i64 x, .int .i64 y, .int .i64 z, .slice (some ⟨w1.heap.size + 1, 0, none⟩) 1 1] 30) (.cells #[.string ⟨#[48]⟩] 9)).mono k1.size)
  have O2 := owns_lit1 (w1.alloc (.cells #[.int .i64 x, .int .i64 y, .int .i64 z, .slice (some ⟨w1.heap.size + 1, 0, none⟩) 1 1] 30)) ⟨#[48]⟩ (w.heap.size + 1 + 1) (by simp; omega)
  have s1 : ∀ o, (w1.alloc o).heap.size = w1.heap.size + 1 := fun o => by simp
  rw [s1] at O2
  obtain ⟨p0, p1, p2, p3, p4⟩ := R2.cells
  have fr := vblk_frozen R2
  clear R0 R1 b1 B0 HX
  go_wp2_with fail
  refine bodyPost_ret (v := .agg #[.int .i64 1, .int .i64 x, .int .i64 y, .int .i64 z, .slice (some ⟨w1.heap.size + 1, 0, none⟩) 1 1]) (by simp [results, Tryz.results302, go_sem, p0, p1, p2, p3, p4]) rfl ⟨_, rfl, ?_, ?_⟩
  · refine owns_base (base := w.heap.size + 1 + 1) ?_ (by omega)
    repeat (refine owns_set ?_ (by simp) _)
    exact O2
  · repeat (refine Below.setCell ?_ (by simp <;> omega) _)
    exact k2
end Go.Proofs.YtlfmefojcmpfeaaGreatDoor

/-! The Cmps that a sign and a version, or a part of one, make, the program's: a contract for the walks; conditions: its numbers lie between 0 and 9999, its texts are a row of the call's own. -/
namespace Go.Proofs.YtlfmefojcmpfeaaGreatDoor
open Go.RowKit
set_option linter.unusedSimpArgs false
set_option linter.unusedVariables false

/-- The Cmps that a sign makes of a version of which t numbers are told. -/
def makeC (sign a b c : Int) (ps : List ByteArray) (t : Int) : List CmpD :=
  let below : Int → CmpD := fun k => ⟨1, nextA k a, nextB k b, nextC k c, [zeroT]⟩
  if sign = 5 then [⟨4, a, b, c, ps⟩, below (min t 2)]
  else if sign = 6 then [⟨4, a, b, c, ps⟩, below (caretK a b t)]
  else if t = 3 ∨ sign = 1 ∨ sign = 4 then [⟨sign, a, b, c, ps⟩]
  else if sign = 3 then [⟨4, nextA t a, nextB t b, nextC t c, []⟩]
  else if sign = 2 then [below t]
  else [⟨4, a, b, c, ps⟩, below t]

theorem owns_nil (w : World) (base : Nat) : w.ownsRow base 9 1 (.slice none 0 0) 0 (strsV []) := ⟨rfl, .inl ⟨rfl, rfl⟩⟩

set_option maxHeartbeats 8000000 in
set_option maxRecDepth 100000 in
theorem cmps_c (lo : Nat) (sign a b c : Int) (u : Value) (ps : List ByteArray) (t : Int) (w : World) (hlo : lo ≤ w.heap.size) (hnum : numsOk a b c) (ht : t = 1 ∨ t = 2 ∨ t = 3) (hu : w.ownsRow lo 9 1 u ps.length (strsV ps)) :
    Calls Tryz.prog 275 #[.agg #[.int .i64 a, .int .i64 b, .int .i64 c, u, .int .i64 t], .int .i64 sign] w fun e w' => ∃ v, e = .returned v ∧ CmpsOwn lo w' v (makeC sign a b c ps t) ∧ Below w.heap.size w w' := by
  obtain ⟨q, n, cap, hq⟩ : ∃ q n cap, u = .slice q n cap := by rcases hu.2 with ⟨rfl, _⟩ | ⟨g, cap, cur, rfl, _⟩ <;> exact ⟨_, _, _, rfl⟩
  subst hq
  have HL : Hid (∀ k w1, Calls Tryz.prog 302 #[.agg #[.int .i64 a, .int .i64 b, .int .i64 c, .slice q n cap, .int .i64 t], .int .i64 k] w1 fun e w' => ∃ g, e = .returned (.agg #[.int .i64 1, .int .i64 (nextA k a), .int .i64 (nextB k b), .int .i64 (nextC k c), .slice (some ⟨g, 0, none⟩) 1 1]) ∧ w'.ownsRow w1.heap.size 9 1 (.slice (some ⟨g, 0, none⟩) 1 1) 1 (strsV [zeroT]) ∧ Below w1.heap.size w1 w') := fun k w1 => lessThanNext_c a b c _ t k w1 hnum ⟨_, _, _, rfl⟩
  have HX : Hid (∀ k w1, Calls Tryz.prog 304 #[.agg #[.int .i64 a, .int .i64 b, .int .i64 c, .slice q n cap, .int .i64 t], .int .i64 k] w1 fun e w' => e = .returned (.agg #[.int .i64 (nextA k a), .int .i64 (nextB k b), .int .i64 (nextC k c), .slice none 0 0]) ∧ Below w1.heap.size w1 w') := fun k w1 => next_c a b c _ t k w1 hnum ⟨_, _, _, rfl⟩
  have HK : Hid (∀ w1, Calls Tryz.prog 303 #[.agg #[.int .i64 a, .int .i64 b, .int .i64 c, .slice q n cap, .int .i64 t]] w1 fun e w' => e = .returned (.int .i64 (caretK a b t)) ∧ Below w1.heap.size w1 w') := fun w1 => caretTold_c a b c _ t w1 ⟨_, _, _, rfl⟩
  have hap : ∀ g (w1 : World) base, w.heap.size ≤ base → w1.ownsRow base 9 1 (.slice (some ⟨g, 0, none⟩) 1 1) 1 (strsV [zeroT]) → Value.ownBlock (.slice q n cap) = Value.ownBlock (.slice (some ⟨g, 0, none⟩) 1 1) → Value.ownBlock (.slice q n cap) = none := fun g w1 base hb og he => by
    cases hk : Value.ownBlock (.slice q n cap) with
    | none => rfl
    | some k =>
      have h1 := (hu.lt k hk).2
      rw [he] at hk
      have h2 := (og.lt k hk).1
      omega
  have hWF : Below w.heap.size w ((w.alloc (.cells #[.int .i64 a, .int .i64 b, .int .i64 c, .slice q n cap, .int .i64 t] 313)).alloc (.cells #[.int .i64 4, .int .i64 a, .int .i64 b, .int .i64 c, .slice q n cap] 214)) := box_two _ _
  obtain ⟨P0, F0⟩ : Five ((w.alloc (.cells #[.int .i64 a, .int .i64 b, .int .i64 c, .slice q n cap, .int .i64 t] 313)).alloc (.cells #[.int .i64 4, .int .i64 a, .int .i64 b, .int .i64 c, .slice q n cap] 214)) w.heap.size 313 (.int .i64 a) (.int .i64 b) (.int .i64 c) (.slice q n cap) (.int .i64 t) ∧ Five ((w.alloc (.cells #[.int .i64 a, .int .i64 b, .int .i64 c, .slice q n cap, .int .i64 t] 313)).alloc (.cells #[.int .i64 4, .int .i64 a, .int .i64 b, .int .i64 c, .slice q n cap] 214)) (w.heap.size + 1) 214 (.int .i64 4) (.int .i64 a) (.int .i64 b) (.int .i64 c) (.slice q n cap) := by
    refine ⟨(five_new _ _ _ _ _ _ _).keep ((Below.refl _ _).alloc (Nat.le_refl _) _), ?_⟩
    have h := five_new (w.alloc (.cells #[.int .i64 a, .int .i64 b, .int .i64 c, .slice q n cap, .int .i64 t] 313)) 214 (.int .i64 4) (.int .i64 a) (.int .i64 b) (.int .i64 c) (.slice q n cap)
    have s1 : ∀ o, (w.alloc o).heap.size = w.heap.size + 1 := fun o => by simp
    rw [s1] at h
    exact h
  have hn2 : ∀ w1, Below ((w.alloc (.cells #[.int .i64 a, .int .i64 b, .int .i64 c, .slice q n cap, .int .i64 t] 313)).alloc (.cells #[.int .i64 4, .int .i64 a, .int .i64 b, .int .i64 c, .slice q n cap] 214)).heap.size ((w.alloc (.cells #[.int .i64 a, .int .i64 b, .int .i64 c, .slice q n cap, .int .i64 t] 313)).alloc (.cells #[.int .i64 4, .int .i64 a, .int .i64 b, .int .i64 c, .slice q n cap] 214)) w1 → Below w.heap.size w w1 := fun w1 h => hWF.trans (h.mono hWF.size)
  have KEEP : Hid (∀ w1, Below ((w.alloc (.cells #[.int .i64 a, .int .i64 b, .int .i64 c, .slice q n cap, .int .i64 t] 313)).alloc (.cells #[.int .i64 4, .int .i64 a, .int .i64 b, .int .i64 c, .slice q n cap] 214)).heap.size ((w.alloc (.cells #[.int .i64 a, .int .i64 b, .int .i64 c, .slice q n cap, .int .i64 t] 313)).alloc (.cells #[.int .i64 4, .int .i64 a, .int .i64 b, .int .i64 c, .slice q n cap] 214)) w1 → w1.cell? ⟨w.heap.size, 0, none⟩ = some (.int .i64 a) ∧ w1.cell? ⟨w.heap.size, 1, none⟩ = some (.int .i64 b) ∧ w1.cell? ⟨w.heap.size, 2, none⟩ = some (.int .i64 c) ∧ w1.cell? ⟨w.heap.size, 3, none⟩ = some (.slice q n cap) ∧ w1.cell? ⟨w.heap.size, 4, none⟩ = some (.int .i64 t) ∧ w1.cell? ⟨w.heap.size + 1, 0, none⟩ = some (.int .i64 4) ∧ w1.cell? ⟨w.heap.size + 1, 1, none⟩ = some (.int .i64 a) ∧ w1.cell? ⟨w.heap.size + 1, 2, none⟩ = some (.int .i64 b) ∧ w1.cell? ⟨w.heap.size + 1, 3, none⟩ = some (.int .i64 c) ∧ w1.cell? ⟨w.heap.size + 1, 4, none⟩ = some (.slice q n cap)) := fun w1 h => ⟨(P0.keep h).cells.1, (P0.keep h).cells.2.1, (P0.keep h).cells.2.2.1, (P0.keep h).cells.2.2.2.1, (P0.keep h).cells.2.2.2.2, (F0.keep h).cells⟩
  rcases ht with rfl | rfl | rfl
  · go_enter Tryz.func275, Tryz.ntmps275
    by_cases h5 : sign = 5
    · subst h5
      have em : makeC 5 a b c ps 1 = [⟨4, a, b, c, ps⟩, ⟨1, nextA 1 a, nextB 1 b, nextC 1 c, [zeroT]⟩] := by rfl
      rw [em]
      clear em
      go_wp2_with fail
      generalize ((w.alloc (.cells #[.int .i64 a, .int .i64 b, .int .i64 c, .slice q n cap, .int .i64 1] 313)).alloc (.cells #[.int .i64 4, .int .i64 a, .int .i64 b, .int .i64 c, .slice q n cap] 214)) = WF at hWF P0 F0 hn2 KEEP ⊢
      have hd0 : Below WF.heap.size WF WF.drew := (Below.refl _ _).drew
      refine wp_region_held_drew (S := (fun w' => w'.cell? ⟨w.heap.size, 0, none⟩ = some (.int .i64 a) ∧ w'.cell? ⟨w.heap.size, 1, none⟩ = some (.int .i64 b) ∧ w'.cell? ⟨w.heap.size, 2, none⟩ = some (.int .i64 c) ∧ w'.cell? ⟨w.heap.size, 3, none⟩ = some (.slice q n cap) ∧ w'.cell? ⟨w.heap.size, 4, none⟩ = some (.int .i64 1) ∧ w'.cell? ⟨w.heap.size + 1, 0, none⟩ = some (.int .i64 4) ∧ w'.cell? ⟨w.heap.size + 1, 1, none⟩ = some (.int .i64 a) ∧ w'.cell? ⟨w.heap.size + 1, 2, none⟩ = some (.int .i64 b) ∧ w'.cell? ⟨w.heap.size + 1, 3, none⟩ = some (.int .i64 c) ∧ w'.cell? ⟨w.heap.size + 1, 4, none⟩ = some (.slice q n cap))) (by kernel_rfl) ?SR10 (fun hHeld => ?_)
      case SR10 => (first | (with_reducible exact KEEP.out _ hd0) | (with_reducible exact KEEP.out _ hd1) | (with_reducible exact KEEP.out _ hd2) | (with_reducible exact KEEP.out _ hd3))
      refine wpAnyH_take (i := 0) (oi := _) (v := ?vR10) rfl (by kernel_rfl) (by kernel_rfl) (by kernel_rfl) (fun _ _ _ h => h) (Or.inl ⟨by rfl, ?yR10⟩) hHeld ?_
      case yR10 => (intro w hSw; (try dsimp only at hSw); go_simp <;> with_reducible rfl)
      try simp only [Act.put, List.getElem_toArray, List.getElem_cons_zero, List.getElem_cons_succ, List.setIfInBounds_toArray, List.set_cons_zero, List.set_cons_succ]
      refine wpAnyH_take (i := 1) (oi := _) (v := ?vR11) rfl (by kernel_rfl) (by kernel_rfl) (by kernel_rfl) (fun _ _ _ h => h) (Or.inl ⟨by rfl, ?yR11⟩) hHeld ?_
      case yR11 => (intro w hSw; (try dsimp only at hSw); go_simp <;> with_reducible rfl)
      try simp only [Act.put, List.getElem_toArray, List.getElem_cons_zero, List.getElem_cons_succ, List.setIfInBounds_toArray, List.set_cons_zero, List.set_cons_succ]
      refine wpAnyH_take (i := 2) (oi := _) (v := ?vR12) rfl (by kernel_rfl) (by kernel_rfl) (by kernel_rfl) (fun _ _ _ h => h) (Or.inl ⟨by rfl, ?yR12⟩) hHeld ?_
      case yR12 => (intro w hSw; (try dsimp only at hSw); go_simp <;> with_reducible rfl)
      try simp only [Act.put, List.getElem_toArray, List.getElem_cons_zero, List.getElem_cons_succ, List.setIfInBounds_toArray, List.set_cons_zero, List.set_cons_succ]
      refine wpAnyH_take (i := 3) (oi := _) (v := ?vR13) rfl (by kernel_rfl) (by kernel_rfl) (by kernel_rfl) (fun _ _ _ h => h) (Or.inl ⟨by rfl, ?yR13⟩) hHeld ?_
      case yR13 => (intro w hSw; (try dsimp only at hSw); go_simp <;> with_reducible rfl)
      try simp only [Act.put, List.getElem_toArray, List.getElem_cons_zero, List.getElem_cons_succ, List.setIfInBounds_toArray, List.set_cons_zero, List.set_cons_succ]
      refine wpAnyH_take (i := 4) (oi := _) (v := ?vR14) rfl (by kernel_rfl) (by kernel_rfl) (by kernel_rfl) (fun _ _ _ h => h) (Or.inl ⟨by rfl, ?yR14⟩) hHeld ?_
      case yR14 => (intro w hSw; (try dsimp only at hSw); go_simp <;> with_reducible rfl)
      try simp only [Act.put, List.getElem_toArray, List.getElem_cons_zero, List.getElem_cons_succ, List.setIfInBounds_toArray, List.set_cons_zero, List.set_cons_succ]
      refine wpAnyH_ready (rs := [5]) (by kernel_rfl) (by simp) ?_
      refine AllReadyH.cons rfl (fun K hK => ?_) AllReadyH.nil
      go_simp
      go_wp2_with (go_at_call 302; refine (HL.out 1 _).mono ?_; rintro e w1 ⟨g, rfl, og, b1⟩; have hd1 : Below WF.heap.size WF w1 := hd0.trans (b1.mono hd0.size); have ol : w.heap.size ≤ WF.drew.heap.size := hWF.size)
      clear hHeld
      refine hK.out _ _ ?SR16 (fun hHeld => ?_)
      case SR16 => ((try dsimp only); first | (with_reducible exact KEEP.out _ hd0) | (with_reducible exact KEEP.out _ hd1) | (with_reducible exact KEEP.out _ hd2) | (with_reducible exact KEEP.out _ hd3))
      clear hK K
      refine wpAnyH_ready (rs := [6]) (by kernel_rfl) (by simp) ?_
      refine AllReadyH.cons rfl (fun K hK => ?_) AllReadyH.nil
      go_simp
      clear hHeld
      refine hK.out _ _ ?SR17 (fun hHeld => ?_)
      case SR17 => ((try dsimp only); exact KEEP.out _ (hd1.alloc hd1.size _))
      clear hK K
      refine wpAnyH_take (i := 7) (oi := _) (v := ?vR17) rfl (by kernel_rfl) (by kernel_rfl) (by kernel_rfl) (fun _ _ _ h => h) (Or.inl ⟨by rfl, ?yR17⟩) hHeld ?_
      case yR17 => (intro w hSw; (try dsimp only at hSw); go_simp <;> with_reducible rfl)
      try simp only [Act.put, List.getElem_toArray, List.getElem_cons_zero, List.getElem_cons_succ, List.setIfInBounds_toArray, List.set_cons_zero, List.set_cons_succ]
      refine wpAnyH_done (by kernel_rfl) ?_ _
      have OL : w.heap.size ≤ WF.drew.heap.size := hWF.size
      go_wp2_with fail
      go_ret
      have hx := hn2 _ hd1
      refine ⟨_, rfl, two_own ⟨4, a, b, c, ps⟩ ⟨1, nextA 1 a, nextB 1 b, nextC 1 c, [zeroT]⟩ (by simp) (Nat.le_trans hlo hx.size) (owns_of_below hu hx) (owns_base og (Nat.le_trans hlo OL)) (hap g _ _ OL og), hx.alloc hx.size _⟩
    by_cases h6 : sign = 6
    · subst h6
      have em : makeC 6 a b c ps 1 = [⟨4, a, b, c, ps⟩, ⟨1, nextA (caretK a b 1) a, nextB (caretK a b 1) b, nextC (caretK a b 1) c, [zeroT]⟩] := by rfl
      rw [em]
      clear em
      go_wp2_with fail
      generalize ((w.alloc (.cells #[.int .i64 a, .int .i64 b, .int .i64 c, .slice q n cap, .int .i64 1] 313)).alloc (.cells #[.int .i64 4, .int .i64 a, .int .i64 b, .int .i64 c, .slice q n cap] 214)) = WF at hWF P0 F0 hn2 KEEP ⊢
      have hd0 : Below WF.heap.size WF WF.drew := (Below.refl _ _).drew
      refine wp_region_held_drew (S := (fun w' => w'.cell? ⟨w.heap.size, 0, none⟩ = some (.int .i64 a) ∧ w'.cell? ⟨w.heap.size, 1, none⟩ = some (.int .i64 b) ∧ w'.cell? ⟨w.heap.size, 2, none⟩ = some (.int .i64 c) ∧ w'.cell? ⟨w.heap.size, 3, none⟩ = some (.slice q n cap) ∧ w'.cell? ⟨w.heap.size, 4, none⟩ = some (.int .i64 1) ∧ w'.cell? ⟨w.heap.size + 1, 0, none⟩ = some (.int .i64 4) ∧ w'.cell? ⟨w.heap.size + 1, 1, none⟩ = some (.int .i64 a) ∧ w'.cell? ⟨w.heap.size + 1, 2, none⟩ = some (.int .i64 b) ∧ w'.cell? ⟨w.heap.size + 1, 3, none⟩ = some (.int .i64 c) ∧ w'.cell? ⟨w.heap.size + 1, 4, none⟩ = some (.slice q n cap))) (by kernel_rfl) ?SR20 (fun hHeld => ?_)
      case SR20 => (first | (with_reducible exact KEEP.out _ hd0) | (with_reducible exact KEEP.out _ hd1) | (with_reducible exact KEEP.out _ hd2) | (with_reducible exact KEEP.out _ hd3))
      refine wpAnyH_take (i := 0) (oi := _) (v := ?vR20) rfl (by kernel_rfl) (by kernel_rfl) (by kernel_rfl) (fun _ _ _ h => h) (Or.inl ⟨by rfl, ?yR20⟩) hHeld ?_
      case yR20 => (intro w hSw; (try dsimp only at hSw); go_simp <;> with_reducible rfl)
      try simp only [Act.put, List.getElem_toArray, List.getElem_cons_zero, List.getElem_cons_succ, List.setIfInBounds_toArray, List.set_cons_zero, List.set_cons_succ]
      refine wpAnyH_take (i := 1) (oi := _) (v := ?vR21) rfl (by kernel_rfl) (by kernel_rfl) (by kernel_rfl) (fun _ _ _ h => h) (Or.inl ⟨by rfl, ?yR21⟩) hHeld ?_
      case yR21 => (intro w hSw; (try dsimp only at hSw); go_simp <;> with_reducible rfl)
      try simp only [Act.put, List.getElem_toArray, List.getElem_cons_zero, List.getElem_cons_succ, List.setIfInBounds_toArray, List.set_cons_zero, List.set_cons_succ]
      refine wpAnyH_take (i := 2) (oi := _) (v := ?vR22) rfl (by kernel_rfl) (by kernel_rfl) (by kernel_rfl) (fun _ _ _ h => h) (Or.inl ⟨by rfl, ?yR22⟩) hHeld ?_
      case yR22 => (intro w hSw; (try dsimp only at hSw); go_simp <;> with_reducible rfl)
      try simp only [Act.put, List.getElem_toArray, List.getElem_cons_zero, List.getElem_cons_succ, List.setIfInBounds_toArray, List.set_cons_zero, List.set_cons_succ]
      refine wpAnyH_ready (rs := [3]) (by kernel_rfl) (by simp) ?_
      refine AllReadyH.cons rfl (fun K hK => ?_) AllReadyH.nil
      go_simp
      go_wp2_with (go_at_call 303; refine (HK.out _).mono ?_; rintro e w1 ⟨rfl, b1⟩; have hd1 : Below WF.heap.size WF w1 := hd0.trans (b1.mono hd0.size))
      clear hHeld
      refine hK.out _ _ ?SR24 (fun hHeld => ?_)
      case SR24 => ((try dsimp only); first | (with_reducible exact KEEP.out _ hd0) | (with_reducible exact KEEP.out _ hd1) | (with_reducible exact KEEP.out _ hd2) | (with_reducible exact KEEP.out _ hd3))
      clear hK K
      refine wpAnyH_ready (rs := [4]) (by kernel_rfl) (by simp) ?_
      refine AllReadyH.cons rfl (fun K hK => ?_) AllReadyH.nil
      go_simp
      go_wp2_with (go_at_call 302; refine (HL.out (caretK a b 1) _).mono ?_; rintro e w2 ⟨g, rfl, og, b2⟩; have hd2 : Below WF.heap.size WF w2 := hd1.trans (b2.mono hd1.size))
      clear hHeld
      refine hK.out _ _ ?SR25 (fun hHeld => ?_)
      case SR25 => ((try dsimp only); first | (with_reducible exact KEEP.out _ hd0) | (with_reducible exact KEEP.out _ hd1) | (with_reducible exact KEEP.out _ hd2) | (with_reducible exact KEEP.out _ hd3))
      clear hK K
      refine wpAnyH_ready (rs := [5]) (by kernel_rfl) (by simp) ?_
      refine AllReadyH.cons rfl (fun K hK => ?_) AllReadyH.nil
      go_simp
      clear hHeld
      refine hK.out _ _ ?SR26 (fun hHeld => ?_)
      case SR26 => ((try dsimp only); exact KEEP.out _ (hd2.alloc hd2.size _))
      clear hK K
      refine wpAnyH_take (i := 6) (oi := _) (v := ?vR26) rfl (by kernel_rfl) (by kernel_rfl) (by kernel_rfl) (fun _ _ _ h => h) (Or.inl ⟨by rfl, ?yR26⟩) hHeld ?_
      case yR26 => (intro w hSw; (try dsimp only at hSw); go_simp <;> with_reducible rfl)
      try simp only [Act.put, List.getElem_toArray, List.getElem_cons_zero, List.getElem_cons_succ, List.setIfInBounds_toArray, List.set_cons_zero, List.set_cons_succ]
      refine wpAnyH_done (by kernel_rfl) ?_ _
      have OL : w.heap.size ≤ w1.heap.size := Nat.le_trans hWF.size hd1.size
      go_wp2_with fail
      go_ret
      have hx := hn2 _ hd2
      refine ⟨_, rfl, two_own ⟨4, a, b, c, ps⟩ ⟨1, nextA (caretK a b 1) a, nextB (caretK a b 1) b, nextC (caretK a b 1) c, [zeroT]⟩ (by simp) (Nat.le_trans hlo hx.size) (owns_of_below hu hx) (owns_base og (Nat.le_trans hlo OL)) (hap g _ _ OL og), hx.alloc hx.size _⟩
    by_cases h1 : sign = 1
    · subst h1
      have em : makeC 1 a b c ps 1 = [⟨1, a, b, c, ps⟩] := by rfl
      rw [em]
      clear em
      go_wp2_with fail
      go_ret
      exact ⟨_, rfl, one_own ⟨1, a, b, c, ps⟩ (by simp) (Nat.le_trans hlo hWF.size) (owns_of_below hu hWF), hWF.alloc hWF.size _⟩
    by_cases h4 : sign = 4
    · subst h4
      have em : makeC 4 a b c ps 1 = [⟨4, a, b, c, ps⟩] := by rfl
      rw [em]
      clear em
      go_wp2_with fail
      go_ret
      exact ⟨_, rfl, one_own ⟨4, a, b, c, ps⟩ (by simp) (Nat.le_trans hlo hWF.size) (owns_of_below hu hWF), hWF.alloc hWF.size _⟩
    by_cases h3 : sign = 3
    · subst h3
      have em : makeC 3 a b c ps 1 = [⟨4, nextA 1 a, nextB 1 b, nextC 1 c, []⟩] := by rfl
      rw [em]
      clear em
      go_wp2_with (go_at_call 304; refine (HX.out 1 _).mono ?_; rintro e w1 ⟨rfl, b1⟩; have hx := hn2 _ b1)
      go_ret
      exact ⟨_, rfl, one_own ⟨4, nextA 1 a, nextB 1 b, nextC 1 c, []⟩ (by simp) (Nat.le_trans hlo hx.size) (owns_nil _ _), hx.alloc hx.size _⟩
    by_cases h2 : sign = 2
    · subst h2
      have em : makeC 2 a b c ps 1 = [⟨1, nextA 1 a, nextB 1 b, nextC 1 c, [zeroT]⟩] := by rfl
      rw [em]
      clear em
      go_wp2_with (go_at_call 302; refine (HL.out 1 _).mono ?_; rintro e w1 ⟨g, rfl, og, b1⟩; have hx := hn2 _ b1)
      go_ret
      exact ⟨_, rfl, one_own ⟨1, nextA 1 a, nextB 1 b, nextC 1 c, [zeroT]⟩ (by simp) (Nat.le_trans hlo hx.size) (owns_base og (Nat.le_trans hlo hWF.size)), hx.alloc hx.size _⟩
    have k5 : (sign == 5) = false := by simpa using h5
    have k6 : (sign == 6) = false := by simpa using h6
    have k1 : (sign == 1) = false := by simpa using h1
    have k4 : (sign == 4) = false := by simpa using h4
    have k3 : (sign == 3) = false := by simpa using h3
    have k2 : (sign == 2) = false := by simpa using h2
    have em : makeC sign a b c ps 1 = [⟨4, a, b, c, ps⟩, ⟨1, nextA 1 a, nextB 1 b, nextC 1 c, [zeroT]⟩] := by simp [makeC, h5, h6, h1, h4, h3, h2]
    rw [em]
    clear em
    clear h5 h6 h1 h4 h3 h2
    go_wp2_with fail
    generalize ((w.alloc (.cells #[.int .i64 a, .int .i64 b, .int .i64 c, .slice q n cap, .int .i64 1] 313)).alloc (.cells #[.int .i64 4, .int .i64 a, .int .i64 b, .int .i64 c, .slice q n cap] 214)) = WF at hWF P0 F0 hn2 KEEP ⊢
    have hd0 : Below WF.heap.size WF WF.drew := (Below.refl _ _).drew
    refine wp_region_held_drew (S := (fun w' => w'.cell? ⟨w.heap.size, 0, none⟩ = some (.int .i64 a) ∧ w'.cell? ⟨w.heap.size, 1, none⟩ = some (.int .i64 b) ∧ w'.cell? ⟨w.heap.size, 2, none⟩ = some (.int .i64 c) ∧ w'.cell? ⟨w.heap.size, 3, none⟩ = some (.slice q n cap) ∧ w'.cell? ⟨w.heap.size, 4, none⟩ = some (.int .i64 1) ∧ w'.cell? ⟨w.heap.size + 1, 0, none⟩ = some (.int .i64 4) ∧ w'.cell? ⟨w.heap.size + 1, 1, none⟩ = some (.int .i64 a) ∧ w'.cell? ⟨w.heap.size + 1, 2, none⟩ = some (.int .i64 b) ∧ w'.cell? ⟨w.heap.size + 1, 3, none⟩ = some (.int .i64 c) ∧ w'.cell? ⟨w.heap.size + 1, 4, none⟩ = some (.slice q n cap))) (by kernel_rfl) ?SR30 (fun hHeld => ?_)
    case SR30 => (first | (with_reducible exact KEEP.out _ hd0) | (with_reducible exact KEEP.out _ hd1) | (with_reducible exact KEEP.out _ hd2) | (with_reducible exact KEEP.out _ hd3))
    refine wpAnyH_take (i := 0) (oi := _) (v := ?vR30) rfl (by kernel_rfl) (by kernel_rfl) (by kernel_rfl) (fun _ _ _ h => h) (Or.inl ⟨by rfl, ?yR30⟩) hHeld ?_
    case yR30 => (intro w hSw; (try dsimp only at hSw); go_simp <;> with_reducible rfl)
    try simp only [Act.put, List.getElem_toArray, List.getElem_cons_zero, List.getElem_cons_succ, List.setIfInBounds_toArray, List.set_cons_zero, List.set_cons_succ]
    refine wpAnyH_take (i := 1) (oi := _) (v := ?vR31) rfl (by kernel_rfl) (by kernel_rfl) (by kernel_rfl) (fun _ _ _ h => h) (Or.inl ⟨by rfl, ?yR31⟩) hHeld ?_
    case yR31 => (intro w hSw; (try dsimp only at hSw); go_simp <;> with_reducible rfl)
    try simp only [Act.put, List.getElem_toArray, List.getElem_cons_zero, List.getElem_cons_succ, List.setIfInBounds_toArray, List.set_cons_zero, List.set_cons_succ]
    refine wpAnyH_take (i := 2) (oi := _) (v := ?vR32) rfl (by kernel_rfl) (by kernel_rfl) (by kernel_rfl) (fun _ _ _ h => h) (Or.inl ⟨by rfl, ?yR32⟩) hHeld ?_
    case yR32 => (intro w hSw; (try dsimp only at hSw); go_simp <;> with_reducible rfl)
    try simp only [Act.put, List.getElem_toArray, List.getElem_cons_zero, List.getElem_cons_succ, List.setIfInBounds_toArray, List.set_cons_zero, List.set_cons_succ]
    refine wpAnyH_take (i := 3) (oi := _) (v := ?vR33) rfl (by kernel_rfl) (by kernel_rfl) (by kernel_rfl) (fun _ _ _ h => h) (Or.inl ⟨by rfl, ?yR33⟩) hHeld ?_
    case yR33 => (intro w hSw; (try dsimp only at hSw); go_simp <;> with_reducible rfl)
    try simp only [Act.put, List.getElem_toArray, List.getElem_cons_zero, List.getElem_cons_succ, List.setIfInBounds_toArray, List.set_cons_zero, List.set_cons_succ]
    refine wpAnyH_ready (rs := [4]) (by kernel_rfl) (by simp) ?_
    refine AllReadyH.cons rfl (fun K hK => ?_) AllReadyH.nil
    go_simp
    go_wp2_with (go_at_call 302; refine (HL.out 1 _).mono ?_; rintro e w1 ⟨g, rfl, og, b1⟩; have hd1 : Below WF.heap.size WF w1 := hd0.trans (b1.mono hd0.size); have ol : w.heap.size ≤ WF.drew.heap.size := hWF.size)
    clear hHeld
    refine hK.out _ _ ?SR35 (fun hHeld => ?_)
    case SR35 => ((try dsimp only); first | (with_reducible exact KEEP.out _ hd0) | (with_reducible exact KEEP.out _ hd1) | (with_reducible exact KEEP.out _ hd2) | (with_reducible exact KEEP.out _ hd3))
    clear hK K
    refine wpAnyH_ready (rs := [5]) (by kernel_rfl) (by simp) ?_
    refine AllReadyH.cons rfl (fun K hK => ?_) AllReadyH.nil
    go_simp
    clear hHeld
    refine hK.out _ _ ?SR36 (fun hHeld => ?_)
    case SR36 => ((try dsimp only); exact KEEP.out _ (hd1.alloc hd1.size _))
    clear hK K
    refine wpAnyH_take (i := 6) (oi := _) (v := ?vR36) rfl (by kernel_rfl) (by kernel_rfl) (by kernel_rfl) (fun _ _ _ h => h) (Or.inl ⟨by rfl, ?yR36⟩) hHeld ?_
    case yR36 => (intro w hSw; (try dsimp only at hSw); go_simp <;> with_reducible rfl)
    try simp only [Act.put, List.getElem_toArray, List.getElem_cons_zero, List.getElem_cons_succ, List.setIfInBounds_toArray, List.set_cons_zero, List.set_cons_succ]
    refine wpAnyH_done (by kernel_rfl) ?_ _
    have OL : w.heap.size ≤ WF.drew.heap.size := hWF.size
    go_wp2_with fail
    go_ret
    have hx := hn2 _ hd1
    refine ⟨_, rfl, two_own ⟨4, a, b, c, ps⟩ ⟨1, nextA 1 a, nextB 1 b, nextC 1 c, [zeroT]⟩ (by simp) (Nat.le_trans hlo hx.size) (owns_of_below hu hx) (owns_base og (Nat.le_trans hlo OL)) (hap g _ _ OL og), hx.alloc hx.size _⟩
  · go_enter Tryz.func275, Tryz.ntmps275
    by_cases h5 : sign = 5
    · subst h5
      have em : makeC 5 a b c ps 2 = [⟨4, a, b, c, ps⟩, ⟨1, nextA 2 a, nextB 2 b, nextC 2 c, [zeroT]⟩] := by rfl
      rw [em]
      clear em
      go_wp2_with fail
      generalize ((w.alloc (.cells #[.int .i64 a, .int .i64 b, .int .i64 c, .slice q n cap, .int .i64 2] 313)).alloc (.cells #[.int .i64 4, .int .i64 a, .int .i64 b, .int .i64 c, .slice q n cap] 214)) = WF at hWF P0 F0 hn2 KEEP ⊢
      have hd0 : Below WF.heap.size WF WF.drew := (Below.refl _ _).drew
      refine wp_region_held_drew (S := (fun w' => w'.cell? ⟨w.heap.size, 0, none⟩ = some (.int .i64 a) ∧ w'.cell? ⟨w.heap.size, 1, none⟩ = some (.int .i64 b) ∧ w'.cell? ⟨w.heap.size, 2, none⟩ = some (.int .i64 c) ∧ w'.cell? ⟨w.heap.size, 3, none⟩ = some (.slice q n cap) ∧ w'.cell? ⟨w.heap.size, 4, none⟩ = some (.int .i64 2) ∧ w'.cell? ⟨w.heap.size + 1, 0, none⟩ = some (.int .i64 4) ∧ w'.cell? ⟨w.heap.size + 1, 1, none⟩ = some (.int .i64 a) ∧ w'.cell? ⟨w.heap.size + 1, 2, none⟩ = some (.int .i64 b) ∧ w'.cell? ⟨w.heap.size + 1, 3, none⟩ = some (.int .i64 c) ∧ w'.cell? ⟨w.heap.size + 1, 4, none⟩ = some (.slice q n cap))) (by kernel_rfl) ?SR40 (fun hHeld => ?_)
      case SR40 => (first | (with_reducible exact KEEP.out _ hd0) | (with_reducible exact KEEP.out _ hd1) | (with_reducible exact KEEP.out _ hd2) | (with_reducible exact KEEP.out _ hd3))
      refine wpAnyH_take (i := 0) (oi := _) (v := ?vR40) rfl (by kernel_rfl) (by kernel_rfl) (by kernel_rfl) (fun _ _ _ h => h) (Or.inl ⟨by rfl, ?yR40⟩) hHeld ?_
      case yR40 => (intro w hSw; (try dsimp only at hSw); go_simp <;> with_reducible rfl)
      try simp only [Act.put, List.getElem_toArray, List.getElem_cons_zero, List.getElem_cons_succ, List.setIfInBounds_toArray, List.set_cons_zero, List.set_cons_succ]
      refine wpAnyH_take (i := 1) (oi := _) (v := ?vR41) rfl (by kernel_rfl) (by kernel_rfl) (by kernel_rfl) (fun _ _ _ h => h) (Or.inl ⟨by rfl, ?yR41⟩) hHeld ?_
      case yR41 => (intro w hSw; (try dsimp only at hSw); go_simp <;> with_reducible rfl)
      try simp only [Act.put, List.getElem_toArray, List.getElem_cons_zero, List.getElem_cons_succ, List.setIfInBounds_toArray, List.set_cons_zero, List.set_cons_succ]
      refine wpAnyH_take (i := 2) (oi := _) (v := ?vR42) rfl (by kernel_rfl) (by kernel_rfl) (by kernel_rfl) (fun _ _ _ h => h) (Or.inl ⟨by rfl, ?yR42⟩) hHeld ?_
      case yR42 => (intro w hSw; (try dsimp only at hSw); go_simp <;> with_reducible rfl)
      try simp only [Act.put, List.getElem_toArray, List.getElem_cons_zero, List.getElem_cons_succ, List.setIfInBounds_toArray, List.set_cons_zero, List.set_cons_succ]
      refine wpAnyH_take (i := 3) (oi := _) (v := ?vR43) rfl (by kernel_rfl) (by kernel_rfl) (by kernel_rfl) (fun _ _ _ h => h) (Or.inl ⟨by rfl, ?yR43⟩) hHeld ?_
      case yR43 => (intro w hSw; (try dsimp only at hSw); go_simp <;> with_reducible rfl)
      try simp only [Act.put, List.getElem_toArray, List.getElem_cons_zero, List.getElem_cons_succ, List.setIfInBounds_toArray, List.set_cons_zero, List.set_cons_succ]
      refine wpAnyH_take (i := 4) (oi := _) (v := ?vR44) rfl (by kernel_rfl) (by kernel_rfl) (by kernel_rfl) (fun _ _ _ h => h) (Or.inl ⟨by rfl, ?yR44⟩) hHeld ?_
      case yR44 => (intro w hSw; (try dsimp only at hSw); go_simp <;> with_reducible rfl)
      try simp only [Act.put, List.getElem_toArray, List.getElem_cons_zero, List.getElem_cons_succ, List.setIfInBounds_toArray, List.set_cons_zero, List.set_cons_succ]
      refine wpAnyH_ready (rs := [5]) (by kernel_rfl) (by simp) ?_
      refine AllReadyH.cons rfl (fun K hK => ?_) AllReadyH.nil
      go_simp
      go_wp2_with (go_at_call 302; refine (HL.out 2 _).mono ?_; rintro e w1 ⟨g, rfl, og, b1⟩; have hd1 : Below WF.heap.size WF w1 := hd0.trans (b1.mono hd0.size); have ol : w.heap.size ≤ WF.drew.heap.size := hWF.size)
      clear hHeld
      refine hK.out _ _ ?SR46 (fun hHeld => ?_)
      case SR46 => ((try dsimp only); first | (with_reducible exact KEEP.out _ hd0) | (with_reducible exact KEEP.out _ hd1) | (with_reducible exact KEEP.out _ hd2) | (with_reducible exact KEEP.out _ hd3))
      clear hK K
      refine wpAnyH_ready (rs := [6]) (by kernel_rfl) (by simp) ?_
      refine AllReadyH.cons rfl (fun K hK => ?_) AllReadyH.nil
      go_simp
      clear hHeld
      refine hK.out _ _ ?SR47 (fun hHeld => ?_)
      case SR47 => ((try dsimp only); exact KEEP.out _ (hd1.alloc hd1.size _))
      clear hK K
      refine wpAnyH_take (i := 7) (oi := _) (v := ?vR47) rfl (by kernel_rfl) (by kernel_rfl) (by kernel_rfl) (fun _ _ _ h => h) (Or.inl ⟨by rfl, ?yR47⟩) hHeld ?_
      case yR47 => (intro w hSw; (try dsimp only at hSw); go_simp <;> with_reducible rfl)
      try simp only [Act.put, List.getElem_toArray, List.getElem_cons_zero, List.getElem_cons_succ, List.setIfInBounds_toArray, List.set_cons_zero, List.set_cons_succ]
      refine wpAnyH_done (by kernel_rfl) ?_ _
      have OL : w.heap.size ≤ WF.drew.heap.size := hWF.size
      go_wp2_with fail
      go_ret
      have hx := hn2 _ hd1
      refine ⟨_, rfl, two_own ⟨4, a, b, c, ps⟩ ⟨1, nextA 2 a, nextB 2 b, nextC 2 c, [zeroT]⟩ (by simp) (Nat.le_trans hlo hx.size) (owns_of_below hu hx) (owns_base og (Nat.le_trans hlo OL)) (hap g _ _ OL og), hx.alloc hx.size _⟩
    by_cases h6 : sign = 6
    · subst h6
      have em : makeC 6 a b c ps 2 = [⟨4, a, b, c, ps⟩, ⟨1, nextA (caretK a b 2) a, nextB (caretK a b 2) b, nextC (caretK a b 2) c, [zeroT]⟩] := by rfl
      rw [em]
      clear em
      go_wp2_with fail
      generalize ((w.alloc (.cells #[.int .i64 a, .int .i64 b, .int .i64 c, .slice q n cap, .int .i64 2] 313)).alloc (.cells #[.int .i64 4, .int .i64 a, .int .i64 b, .int .i64 c, .slice q n cap] 214)) = WF at hWF P0 F0 hn2 KEEP ⊢
      have hd0 : Below WF.heap.size WF WF.drew := (Below.refl _ _).drew
      refine wp_region_held_drew (S := (fun w' => w'.cell? ⟨w.heap.size, 0, none⟩ = some (.int .i64 a) ∧ w'.cell? ⟨w.heap.size, 1, none⟩ = some (.int .i64 b) ∧ w'.cell? ⟨w.heap.size, 2, none⟩ = some (.int .i64 c) ∧ w'.cell? ⟨w.heap.size, 3, none⟩ = some (.slice q n cap) ∧ w'.cell? ⟨w.heap.size, 4, none⟩ = some (.int .i64 2) ∧ w'.cell? ⟨w.heap.size + 1, 0, none⟩ = some (.int .i64 4) ∧ w'.cell? ⟨w.heap.size + 1, 1, none⟩ = some (.int .i64 a) ∧ w'.cell? ⟨w.heap.size + 1, 2, none⟩ = some (.int .i64 b) ∧ w'.cell? ⟨w.heap.size + 1, 3, none⟩ = some (.int .i64 c) ∧ w'.cell? ⟨w.heap.size + 1, 4, none⟩ = some (.slice q n cap))) (by kernel_rfl) ?SR50 (fun hHeld => ?_)
      case SR50 => (first | (with_reducible exact KEEP.out _ hd0) | (with_reducible exact KEEP.out _ hd1) | (with_reducible exact KEEP.out _ hd2) | (with_reducible exact KEEP.out _ hd3))
      refine wpAnyH_take (i := 0) (oi := _) (v := ?vR50) rfl (by kernel_rfl) (by kernel_rfl) (by kernel_rfl) (fun _ _ _ h => h) (Or.inl ⟨by rfl, ?yR50⟩) hHeld ?_
      case yR50 => (intro w hSw; (try dsimp only at hSw); go_simp <;> with_reducible rfl)
      try simp only [Act.put, List.getElem_toArray, List.getElem_cons_zero, List.getElem_cons_succ, List.setIfInBounds_toArray, List.set_cons_zero, List.set_cons_succ]
      refine wpAnyH_take (i := 1) (oi := _) (v := ?vR51) rfl (by kernel_rfl) (by kernel_rfl) (by kernel_rfl) (fun _ _ _ h => h) (Or.inl ⟨by rfl, ?yR51⟩) hHeld ?_
      case yR51 => (intro w hSw; (try dsimp only at hSw); go_simp <;> with_reducible rfl)
      try simp only [Act.put, List.getElem_toArray, List.getElem_cons_zero, List.getElem_cons_succ, List.setIfInBounds_toArray, List.set_cons_zero, List.set_cons_succ]
      refine wpAnyH_take (i := 2) (oi := _) (v := ?vR52) rfl (by kernel_rfl) (by kernel_rfl) (by kernel_rfl) (fun _ _ _ h => h) (Or.inl ⟨by rfl, ?yR52⟩) hHeld ?_
      case yR52 => (intro w hSw; (try dsimp only at hSw); go_simp <;> with_reducible rfl)
      try simp only [Act.put, List.getElem_toArray, List.getElem_cons_zero, List.getElem_cons_succ, List.setIfInBounds_toArray, List.set_cons_zero, List.set_cons_succ]
      refine wpAnyH_ready (rs := [3]) (by kernel_rfl) (by simp) ?_
      refine AllReadyH.cons rfl (fun K hK => ?_) AllReadyH.nil
      go_simp
      go_wp2_with (go_at_call 303; refine (HK.out _).mono ?_; rintro e w1 ⟨rfl, b1⟩; have hd1 : Below WF.heap.size WF w1 := hd0.trans (b1.mono hd0.size))
      clear hHeld
      refine hK.out _ _ ?SR54 (fun hHeld => ?_)
      case SR54 => ((try dsimp only); first | (with_reducible exact KEEP.out _ hd0) | (with_reducible exact KEEP.out _ hd1) | (with_reducible exact KEEP.out _ hd2) | (with_reducible exact KEEP.out _ hd3))
      clear hK K
      refine wpAnyH_ready (rs := [4]) (by kernel_rfl) (by simp) ?_
      refine AllReadyH.cons rfl (fun K hK => ?_) AllReadyH.nil
      go_simp
      go_wp2_with (go_at_call 302; refine (HL.out (caretK a b 2) _).mono ?_; rintro e w2 ⟨g, rfl, og, b2⟩; have hd2 : Below WF.heap.size WF w2 := hd1.trans (b2.mono hd1.size))
      clear hHeld
      refine hK.out _ _ ?SR55 (fun hHeld => ?_)
      case SR55 => ((try dsimp only); first | (with_reducible exact KEEP.out _ hd0) | (with_reducible exact KEEP.out _ hd1) | (with_reducible exact KEEP.out _ hd2) | (with_reducible exact KEEP.out _ hd3))
      clear hK K
      refine wpAnyH_ready (rs := [5]) (by kernel_rfl) (by simp) ?_
      refine AllReadyH.cons rfl (fun K hK => ?_) AllReadyH.nil
      go_simp
      clear hHeld
      refine hK.out _ _ ?SR56 (fun hHeld => ?_)
      case SR56 => ((try dsimp only); exact KEEP.out _ (hd2.alloc hd2.size _))
      clear hK K
      refine wpAnyH_take (i := 6) (oi := _) (v := ?vR56) rfl (by kernel_rfl) (by kernel_rfl) (by kernel_rfl) (fun _ _ _ h => h) (Or.inl ⟨by rfl, ?yR56⟩) hHeld ?_
      case yR56 => (intro w hSw; (try dsimp only at hSw); go_simp <;> with_reducible rfl)
      try simp only [Act.put, List.getElem_toArray, List.getElem_cons_zero, List.getElem_cons_succ, List.setIfInBounds_toArray, List.set_cons_zero, List.set_cons_succ]
      refine wpAnyH_done (by kernel_rfl) ?_ _
      have OL : w.heap.size ≤ w1.heap.size := Nat.le_trans hWF.size hd1.size
      go_wp2_with fail
      go_ret
      have hx := hn2 _ hd2
      refine ⟨_, rfl, two_own ⟨4, a, b, c, ps⟩ ⟨1, nextA (caretK a b 2) a, nextB (caretK a b 2) b, nextC (caretK a b 2) c, [zeroT]⟩ (by simp) (Nat.le_trans hlo hx.size) (owns_of_below hu hx) (owns_base og (Nat.le_trans hlo OL)) (hap g _ _ OL og), hx.alloc hx.size _⟩
    by_cases h1 : sign = 1
    · subst h1
      have em : makeC 1 a b c ps 2 = [⟨1, a, b, c, ps⟩] := by rfl
      rw [em]
      clear em
      go_wp2_with fail
      go_ret
      exact ⟨_, rfl, one_own ⟨1, a, b, c, ps⟩ (by simp) (Nat.le_trans hlo hWF.size) (owns_of_below hu hWF), hWF.alloc hWF.size _⟩
    by_cases h4 : sign = 4
    · subst h4
      have em : makeC 4 a b c ps 2 = [⟨4, a, b, c, ps⟩] := by rfl
      rw [em]
      clear em
      go_wp2_with fail
      go_ret
      exact ⟨_, rfl, one_own ⟨4, a, b, c, ps⟩ (by simp) (Nat.le_trans hlo hWF.size) (owns_of_below hu hWF), hWF.alloc hWF.size _⟩
    by_cases h3 : sign = 3
    · subst h3
      have em : makeC 3 a b c ps 2 = [⟨4, nextA 2 a, nextB 2 b, nextC 2 c, []⟩] := by rfl
      rw [em]
      clear em
      go_wp2_with (go_at_call 304; refine (HX.out 2 _).mono ?_; rintro e w1 ⟨rfl, b1⟩; have hx := hn2 _ b1)
      go_ret
      exact ⟨_, rfl, one_own ⟨4, nextA 2 a, nextB 2 b, nextC 2 c, []⟩ (by simp) (Nat.le_trans hlo hx.size) (owns_nil _ _), hx.alloc hx.size _⟩
    by_cases h2 : sign = 2
    · subst h2
      have em : makeC 2 a b c ps 2 = [⟨1, nextA 2 a, nextB 2 b, nextC 2 c, [zeroT]⟩] := by rfl
      rw [em]
      clear em
      go_wp2_with (go_at_call 302; refine (HL.out 2 _).mono ?_; rintro e w1 ⟨g, rfl, og, b1⟩; have hx := hn2 _ b1)
      go_ret
      exact ⟨_, rfl, one_own ⟨1, nextA 2 a, nextB 2 b, nextC 2 c, [zeroT]⟩ (by simp) (Nat.le_trans hlo hx.size) (owns_base og (Nat.le_trans hlo hWF.size)), hx.alloc hx.size _⟩
    have k5 : (sign == 5) = false := by simpa using h5
    have k6 : (sign == 6) = false := by simpa using h6
    have k1 : (sign == 1) = false := by simpa using h1
    have k4 : (sign == 4) = false := by simpa using h4
    have k3 : (sign == 3) = false := by simpa using h3
    have k2 : (sign == 2) = false := by simpa using h2
    have em : makeC sign a b c ps 2 = [⟨4, a, b, c, ps⟩, ⟨1, nextA 2 a, nextB 2 b, nextC 2 c, [zeroT]⟩] := by simp [makeC, h5, h6, h1, h4, h3, h2]
    rw [em]
    clear em
    clear h5 h6 h1 h4 h3 h2
    go_wp2_with fail
    generalize ((w.alloc (.cells #[.int .i64 a, .int .i64 b, .int .i64 c, .slice q n cap, .int .i64 2] 313)).alloc (.cells #[.int .i64 4, .int .i64 a, .int .i64 b, .int .i64 c, .slice q n cap] 214)) = WF at hWF P0 F0 hn2 KEEP ⊢
    have hd0 : Below WF.heap.size WF WF.drew := (Below.refl _ _).drew
    refine wp_region_held_drew (S := (fun w' => w'.cell? ⟨w.heap.size, 0, none⟩ = some (.int .i64 a) ∧ w'.cell? ⟨w.heap.size, 1, none⟩ = some (.int .i64 b) ∧ w'.cell? ⟨w.heap.size, 2, none⟩ = some (.int .i64 c) ∧ w'.cell? ⟨w.heap.size, 3, none⟩ = some (.slice q n cap) ∧ w'.cell? ⟨w.heap.size, 4, none⟩ = some (.int .i64 2) ∧ w'.cell? ⟨w.heap.size + 1, 0, none⟩ = some (.int .i64 4) ∧ w'.cell? ⟨w.heap.size + 1, 1, none⟩ = some (.int .i64 a) ∧ w'.cell? ⟨w.heap.size + 1, 2, none⟩ = some (.int .i64 b) ∧ w'.cell? ⟨w.heap.size + 1, 3, none⟩ = some (.int .i64 c) ∧ w'.cell? ⟨w.heap.size + 1, 4, none⟩ = some (.slice q n cap))) (by kernel_rfl) ?SR60 (fun hHeld => ?_)
    case SR60 => (first | (with_reducible exact KEEP.out _ hd0) | (with_reducible exact KEEP.out _ hd1) | (with_reducible exact KEEP.out _ hd2) | (with_reducible exact KEEP.out _ hd3))
    refine wpAnyH_take (i := 0) (oi := _) (v := ?vR60) rfl (by kernel_rfl) (by kernel_rfl) (by kernel_rfl) (fun _ _ _ h => h) (Or.inl ⟨by rfl, ?yR60⟩) hHeld ?_
    case yR60 => (intro w hSw; (try dsimp only at hSw); go_simp <;> with_reducible rfl)
    try simp only [Act.put, List.getElem_toArray, List.getElem_cons_zero, List.getElem_cons_succ, List.setIfInBounds_toArray, List.set_cons_zero, List.set_cons_succ]
    refine wpAnyH_take (i := 1) (oi := _) (v := ?vR61) rfl (by kernel_rfl) (by kernel_rfl) (by kernel_rfl) (fun _ _ _ h => h) (Or.inl ⟨by rfl, ?yR61⟩) hHeld ?_
    case yR61 => (intro w hSw; (try dsimp only at hSw); go_simp <;> with_reducible rfl)
    try simp only [Act.put, List.getElem_toArray, List.getElem_cons_zero, List.getElem_cons_succ, List.setIfInBounds_toArray, List.set_cons_zero, List.set_cons_succ]
    refine wpAnyH_take (i := 2) (oi := _) (v := ?vR62) rfl (by kernel_rfl) (by kernel_rfl) (by kernel_rfl) (fun _ _ _ h => h) (Or.inl ⟨by rfl, ?yR62⟩) hHeld ?_
    case yR62 => (intro w hSw; (try dsimp only at hSw); go_simp <;> with_reducible rfl)
    try simp only [Act.put, List.getElem_toArray, List.getElem_cons_zero, List.getElem_cons_succ, List.setIfInBounds_toArray, List.set_cons_zero, List.set_cons_succ]
    refine wpAnyH_take (i := 3) (oi := _) (v := ?vR63) rfl (by kernel_rfl) (by kernel_rfl) (by kernel_rfl) (fun _ _ _ h => h) (Or.inl ⟨by rfl, ?yR63⟩) hHeld ?_
    case yR63 => (intro w hSw; (try dsimp only at hSw); go_simp <;> with_reducible rfl)
    try simp only [Act.put, List.getElem_toArray, List.getElem_cons_zero, List.getElem_cons_succ, List.setIfInBounds_toArray, List.set_cons_zero, List.set_cons_succ]
    refine wpAnyH_ready (rs := [4]) (by kernel_rfl) (by simp) ?_
    refine AllReadyH.cons rfl (fun K hK => ?_) AllReadyH.nil
    go_simp
    go_wp2_with (go_at_call 302; refine (HL.out 2 _).mono ?_; rintro e w1 ⟨g, rfl, og, b1⟩; have hd1 : Below WF.heap.size WF w1 := hd0.trans (b1.mono hd0.size); have ol : w.heap.size ≤ WF.drew.heap.size := hWF.size)
    clear hHeld
    refine hK.out _ _ ?SR65 (fun hHeld => ?_)
    case SR65 => ((try dsimp only); first | (with_reducible exact KEEP.out _ hd0) | (with_reducible exact KEEP.out _ hd1) | (with_reducible exact KEEP.out _ hd2) | (with_reducible exact KEEP.out _ hd3))
    clear hK K
    refine wpAnyH_ready (rs := [5]) (by kernel_rfl) (by simp) ?_
    refine AllReadyH.cons rfl (fun K hK => ?_) AllReadyH.nil
    go_simp
    clear hHeld
    refine hK.out _ _ ?SR66 (fun hHeld => ?_)
    case SR66 => ((try dsimp only); exact KEEP.out _ (hd1.alloc hd1.size _))
    clear hK K
    refine wpAnyH_take (i := 6) (oi := _) (v := ?vR66) rfl (by kernel_rfl) (by kernel_rfl) (by kernel_rfl) (fun _ _ _ h => h) (Or.inl ⟨by rfl, ?yR66⟩) hHeld ?_
    case yR66 => (intro w hSw; (try dsimp only at hSw); go_simp <;> with_reducible rfl)
    try simp only [Act.put, List.getElem_toArray, List.getElem_cons_zero, List.getElem_cons_succ, List.setIfInBounds_toArray, List.set_cons_zero, List.set_cons_succ]
    refine wpAnyH_done (by kernel_rfl) ?_ _
    have OL : w.heap.size ≤ WF.drew.heap.size := hWF.size
    go_wp2_with fail
    go_ret
    have hx := hn2 _ hd1
    refine ⟨_, rfl, two_own ⟨4, a, b, c, ps⟩ ⟨1, nextA 2 a, nextB 2 b, nextC 2 c, [zeroT]⟩ (by simp) (Nat.le_trans hlo hx.size) (owns_of_below hu hx) (owns_base og (Nat.le_trans hlo OL)) (hap g _ _ OL og), hx.alloc hx.size _⟩
  · go_enter Tryz.func275, Tryz.ntmps275
    by_cases h5 : sign = 5
    · subst h5
      have em : makeC 5 a b c ps 3 = [⟨4, a, b, c, ps⟩, ⟨1, nextA 2 a, nextB 2 b, nextC 2 c, [zeroT]⟩] := by rfl
      rw [em]
      clear em
      go_wp2_with fail
      generalize ((w.alloc (.cells #[.int .i64 a, .int .i64 b, .int .i64 c, .slice q n cap, .int .i64 3] 313)).alloc (.cells #[.int .i64 4, .int .i64 a, .int .i64 b, .int .i64 c, .slice q n cap] 214)) = WF at hWF P0 F0 hn2 KEEP ⊢
      have hd0 : Below WF.heap.size WF WF.drew := (Below.refl _ _).drew
      refine wp_region_held_drew (S := (fun w' => w'.cell? ⟨w.heap.size, 0, none⟩ = some (.int .i64 a) ∧ w'.cell? ⟨w.heap.size, 1, none⟩ = some (.int .i64 b) ∧ w'.cell? ⟨w.heap.size, 2, none⟩ = some (.int .i64 c) ∧ w'.cell? ⟨w.heap.size, 3, none⟩ = some (.slice q n cap) ∧ w'.cell? ⟨w.heap.size, 4, none⟩ = some (.int .i64 3) ∧ w'.cell? ⟨w.heap.size + 1, 0, none⟩ = some (.int .i64 4) ∧ w'.cell? ⟨w.heap.size + 1, 1, none⟩ = some (.int .i64 a) ∧ w'.cell? ⟨w.heap.size + 1, 2, none⟩ = some (.int .i64 b) ∧ w'.cell? ⟨w.heap.size + 1, 3, none⟩ = some (.int .i64 c) ∧ w'.cell? ⟨w.heap.size + 1, 4, none⟩ = some (.slice q n cap))) (by kernel_rfl) ?SR70 (fun hHeld => ?_)
      case SR70 => (first | (with_reducible exact KEEP.out _ hd0) | (with_reducible exact KEEP.out _ hd1) | (with_reducible exact KEEP.out _ hd2) | (with_reducible exact KEEP.out _ hd3))
      refine wpAnyH_take (i := 0) (oi := _) (v := ?vR70) rfl (by kernel_rfl) (by kernel_rfl) (by kernel_rfl) (fun _ _ _ h => h) (Or.inl ⟨by rfl, ?yR70⟩) hHeld ?_
      case yR70 => (intro w hSw; (try dsimp only at hSw); go_simp <;> with_reducible rfl)
      try simp only [Act.put, List.getElem_toArray, List.getElem_cons_zero, List.getElem_cons_succ, List.setIfInBounds_toArray, List.set_cons_zero, List.set_cons_succ]
      refine wpAnyH_take (i := 1) (oi := _) (v := ?vR71) rfl (by kernel_rfl) (by kernel_rfl) (by kernel_rfl) (fun _ _ _ h => h) (Or.inl ⟨by rfl, ?yR71⟩) hHeld ?_
      case yR71 => (intro w hSw; (try dsimp only at hSw); go_simp <;> with_reducible rfl)
      try simp only [Act.put, List.getElem_toArray, List.getElem_cons_zero, List.getElem_cons_succ, List.setIfInBounds_toArray, List.set_cons_zero, List.set_cons_succ]
      refine wpAnyH_take (i := 2) (oi := _) (v := ?vR72) rfl (by kernel_rfl) (by kernel_rfl) (by kernel_rfl) (fun _ _ _ h => h) (Or.inl ⟨by rfl, ?yR72⟩) hHeld ?_
      case yR72 => (intro w hSw; (try dsimp only at hSw); go_simp <;> with_reducible rfl)
      try simp only [Act.put, List.getElem_toArray, List.getElem_cons_zero, List.getElem_cons_succ, List.setIfInBounds_toArray, List.set_cons_zero, List.set_cons_succ]
      refine wpAnyH_take (i := 3) (oi := _) (v := ?vR73) rfl (by kernel_rfl) (by kernel_rfl) (by kernel_rfl) (fun _ _ _ h => h) (Or.inl ⟨by rfl, ?yR73⟩) hHeld ?_
      case yR73 => (intro w hSw; (try dsimp only at hSw); go_simp <;> with_reducible rfl)
      try simp only [Act.put, List.getElem_toArray, List.getElem_cons_zero, List.getElem_cons_succ, List.setIfInBounds_toArray, List.set_cons_zero, List.set_cons_succ]
      refine wpAnyH_take (i := 4) (oi := _) (v := ?vR74) rfl (by kernel_rfl) (by kernel_rfl) (by kernel_rfl) (fun _ _ _ h => h) (Or.inl ⟨by rfl, ?yR74⟩) hHeld ?_
      case yR74 => (intro w hSw; (try dsimp only at hSw); go_simp <;> with_reducible rfl)
      try simp only [Act.put, List.getElem_toArray, List.getElem_cons_zero, List.getElem_cons_succ, List.setIfInBounds_toArray, List.set_cons_zero, List.set_cons_succ]
      refine wpAnyH_ready (rs := [5]) (by kernel_rfl) (by simp) ?_
      refine AllReadyH.cons rfl (fun K hK => ?_) AllReadyH.nil
      go_simp
      go_wp2_with (go_at_call 302; refine (HL.out 2 _).mono ?_; rintro e w1 ⟨g, rfl, og, b1⟩; have hd1 : Below WF.heap.size WF w1 := hd0.trans (b1.mono hd0.size); have ol : w.heap.size ≤ WF.drew.heap.size := hWF.size)
      clear hHeld
      refine hK.out _ _ ?SR76 (fun hHeld => ?_)
      case SR76 => ((try dsimp only); first | (with_reducible exact KEEP.out _ hd0) | (with_reducible exact KEEP.out _ hd1) | (with_reducible exact KEEP.out _ hd2) | (with_reducible exact KEEP.out _ hd3))
      clear hK K
      refine wpAnyH_ready (rs := [6]) (by kernel_rfl) (by simp) ?_
      refine AllReadyH.cons rfl (fun K hK => ?_) AllReadyH.nil
      go_simp
      clear hHeld
      refine hK.out _ _ ?SR77 (fun hHeld => ?_)
      case SR77 => ((try dsimp only); exact KEEP.out _ (hd1.alloc hd1.size _))
      clear hK K
      refine wpAnyH_take (i := 7) (oi := _) (v := ?vR77) rfl (by kernel_rfl) (by kernel_rfl) (by kernel_rfl) (fun _ _ _ h => h) (Or.inl ⟨by rfl, ?yR77⟩) hHeld ?_
      case yR77 => (intro w hSw; (try dsimp only at hSw); go_simp <;> with_reducible rfl)
      try simp only [Act.put, List.getElem_toArray, List.getElem_cons_zero, List.getElem_cons_succ, List.setIfInBounds_toArray, List.set_cons_zero, List.set_cons_succ]
      refine wpAnyH_done (by kernel_rfl) ?_ _
      have OL : w.heap.size ≤ WF.drew.heap.size := hWF.size
      go_wp2_with fail
      go_ret
      have hx := hn2 _ hd1
      refine ⟨_, rfl, two_own ⟨4, a, b, c, ps⟩ ⟨1, nextA 2 a, nextB 2 b, nextC 2 c, [zeroT]⟩ (by simp) (Nat.le_trans hlo hx.size) (owns_of_below hu hx) (owns_base og (Nat.le_trans hlo OL)) (hap g _ _ OL og), hx.alloc hx.size _⟩
    by_cases h6 : sign = 6
    · subst h6
      have em : makeC 6 a b c ps 3 = [⟨4, a, b, c, ps⟩, ⟨1, nextA (caretK a b 3) a, nextB (caretK a b 3) b, nextC (caretK a b 3) c, [zeroT]⟩] := by rfl
      rw [em]
      clear em
      go_wp2_with fail
      generalize ((w.alloc (.cells #[.int .i64 a, .int .i64 b, .int .i64 c, .slice q n cap, .int .i64 3] 313)).alloc (.cells #[.int .i64 4, .int .i64 a, .int .i64 b, .int .i64 c, .slice q n cap] 214)) = WF at hWF P0 F0 hn2 KEEP ⊢
      have hd0 : Below WF.heap.size WF WF.drew := (Below.refl _ _).drew
      refine wp_region_held_drew (S := (fun w' => w'.cell? ⟨w.heap.size, 0, none⟩ = some (.int .i64 a) ∧ w'.cell? ⟨w.heap.size, 1, none⟩ = some (.int .i64 b) ∧ w'.cell? ⟨w.heap.size, 2, none⟩ = some (.int .i64 c) ∧ w'.cell? ⟨w.heap.size, 3, none⟩ = some (.slice q n cap) ∧ w'.cell? ⟨w.heap.size, 4, none⟩ = some (.int .i64 3) ∧ w'.cell? ⟨w.heap.size + 1, 0, none⟩ = some (.int .i64 4) ∧ w'.cell? ⟨w.heap.size + 1, 1, none⟩ = some (.int .i64 a) ∧ w'.cell? ⟨w.heap.size + 1, 2, none⟩ = some (.int .i64 b) ∧ w'.cell? ⟨w.heap.size + 1, 3, none⟩ = some (.int .i64 c) ∧ w'.cell? ⟨w.heap.size + 1, 4, none⟩ = some (.slice q n cap))) (by kernel_rfl) ?SR80 (fun hHeld => ?_)
      case SR80 => (first | (with_reducible exact KEEP.out _ hd0) | (with_reducible exact KEEP.out _ hd1) | (with_reducible exact KEEP.out _ hd2) | (with_reducible exact KEEP.out _ hd3))
      refine wpAnyH_take (i := 0) (oi := _) (v := ?vR80) rfl (by kernel_rfl) (by kernel_rfl) (by kernel_rfl) (fun _ _ _ h => h) (Or.inl ⟨by rfl, ?yR80⟩) hHeld ?_
      case yR80 => (intro w hSw; (try dsimp only at hSw); go_simp <;> with_reducible rfl)
      try simp only [Act.put, List.getElem_toArray, List.getElem_cons_zero, List.getElem_cons_succ, List.setIfInBounds_toArray, List.set_cons_zero, List.set_cons_succ]
      refine wpAnyH_take (i := 1) (oi := _) (v := ?vR81) rfl (by kernel_rfl) (by kernel_rfl) (by kernel_rfl) (fun _ _ _ h => h) (Or.inl ⟨by rfl, ?yR81⟩) hHeld ?_
      case yR81 => (intro w hSw; (try dsimp only at hSw); go_simp <;> with_reducible rfl)
      try simp only [Act.put, List.getElem_toArray, List.getElem_cons_zero, List.getElem_cons_succ, List.setIfInBounds_toArray, List.set_cons_zero, List.set_cons_succ]
      refine wpAnyH_take (i := 2) (oi := _) (v := ?vR82) rfl (by kernel_rfl) (by kernel_rfl) (by kernel_rfl) (fun _ _ _ h => h) (Or.inl ⟨by rfl, ?yR82⟩) hHeld ?_
      case yR82 => (intro w hSw; (try dsimp only at hSw); go_simp <;> with_reducible rfl)
      try simp only [Act.put, List.getElem_toArray, List.getElem_cons_zero, List.getElem_cons_succ, List.setIfInBounds_toArray, List.set_cons_zero, List.set_cons_succ]
      refine wpAnyH_ready (rs := [3]) (by kernel_rfl) (by simp) ?_
      refine AllReadyH.cons rfl (fun K hK => ?_) AllReadyH.nil
      go_simp
      go_wp2_with (go_at_call 303; refine (HK.out _).mono ?_; rintro e w1 ⟨rfl, b1⟩; have hd1 : Below WF.heap.size WF w1 := hd0.trans (b1.mono hd0.size))
      clear hHeld
      refine hK.out _ _ ?SR84 (fun hHeld => ?_)
      case SR84 => ((try dsimp only); first | (with_reducible exact KEEP.out _ hd0) | (with_reducible exact KEEP.out _ hd1) | (with_reducible exact KEEP.out _ hd2) | (with_reducible exact KEEP.out _ hd3))
      clear hK K
      refine wpAnyH_ready (rs := [4]) (by kernel_rfl) (by simp) ?_
      refine AllReadyH.cons rfl (fun K hK => ?_) AllReadyH.nil
      go_simp
      go_wp2_with (go_at_call 302; refine (HL.out (caretK a b 3) _).mono ?_; rintro e w2 ⟨g, rfl, og, b2⟩; have hd2 : Below WF.heap.size WF w2 := hd1.trans (b2.mono hd1.size))
      clear hHeld
      refine hK.out _ _ ?SR85 (fun hHeld => ?_)
      case SR85 => ((try dsimp only); first | (with_reducible exact KEEP.out _ hd0) | (with_reducible exact KEEP.out _ hd1) | (with_reducible exact KEEP.out _ hd2) | (with_reducible exact KEEP.out _ hd3))
      clear hK K
      refine wpAnyH_ready (rs := [5]) (by kernel_rfl) (by simp) ?_
      refine AllReadyH.cons rfl (fun K hK => ?_) AllReadyH.nil
      go_simp
      clear hHeld
      refine hK.out _ _ ?SR86 (fun hHeld => ?_)
      case SR86 => ((try dsimp only); exact KEEP.out _ (hd2.alloc hd2.size _))
      clear hK K
      refine wpAnyH_take (i := 6) (oi := _) (v := ?vR86) rfl (by kernel_rfl) (by kernel_rfl) (by kernel_rfl) (fun _ _ _ h => h) (Or.inl ⟨by rfl, ?yR86⟩) hHeld ?_
      case yR86 => (intro w hSw; (try dsimp only at hSw); go_simp <;> with_reducible rfl)
      try simp only [Act.put, List.getElem_toArray, List.getElem_cons_zero, List.getElem_cons_succ, List.setIfInBounds_toArray, List.set_cons_zero, List.set_cons_succ]
      refine wpAnyH_done (by kernel_rfl) ?_ _
      have OL : w.heap.size ≤ w1.heap.size := Nat.le_trans hWF.size hd1.size
      go_wp2_with fail
      go_ret
      have hx := hn2 _ hd2
      refine ⟨_, rfl, two_own ⟨4, a, b, c, ps⟩ ⟨1, nextA (caretK a b 3) a, nextB (caretK a b 3) b, nextC (caretK a b 3) c, [zeroT]⟩ (by simp) (Nat.le_trans hlo hx.size) (owns_of_below hu hx) (owns_base og (Nat.le_trans hlo OL)) (hap g _ _ OL og), hx.alloc hx.size _⟩
    have k5 : (sign == 5) = false := by simpa using h5
    have k6 : (sign == 6) = false := by simpa using h6
    have em : makeC sign a b c ps 3 = [⟨sign, a, b, c, ps⟩] := by simp [makeC, h5, h6]
    rw [em]
    clear em
    clear h5 h6
    go_wp2_with fail
    go_ret
    exact ⟨_, rfl, one_own ⟨sign, a, b, c, ps⟩ (by simp) (Nat.le_trans hlo hWF.size) (owns_of_below hu hWF), hWF.alloc hWF.size _⟩
end Go.Proofs.YtlfmefojcmpfeaaGreatDoor

/-! What is read as a version, or as a part of one, the program's: a contract for the walks; condition: the text has at most 2 to the 20 bytes. -/
namespace Go.Proofs.YtlfmefojcmpfeaaGreatDoor
open Go.RowKit
set_option linter.unusedSimpArgs false
set_option linter.unusedVariables false

def xT : ByteArray := ⟨#[120]⟩
/-- How many words are told: those at the end that are x are not, but for the first. -/
def stripK (ws : List ByteArray) : Nat → Nat
  | 0 => 0
  | n + 1 => if 1 < n + 1 ∧ ws.getD n ⟨#[]⟩ = xT then stripK ws n else n + 1
def toldW (ws : List ByteArray) : Nat := stripK ws ws.length
def partW (ws : List ByteArray) : Option (Int × Int × Int) :=
  if 3 < ws.length ∨ toldW ws = 3 then none
  else if toldW ws = 1 then (if numGood (ws.getD 0 ⟨#[]⟩) 9999 then some (numOut (ws.getD 0 ⟨#[]⟩) 9999, 0, 1) else none)
  else (if numGood (ws.getD 0 ⟨#[]⟩) 9999 && numGood (ws.getD 1 ⟨#[]⟩) 9999 then some (numOut (ws.getD 0 ⟨#[]⟩) 9999, numOut (ws.getD 1 ⟨#[]⟩) 9999, 2) else none)
/-- What is read as a version, or a part of one: three numbers, a Pre, how many are told. -/
def partAll (s : ByteArray) : Option (Int × Int × Int × List ByteArray × Int) :=
  if resOk s then some (resN s 0, resN s 1, resN s 2, resP s, 3) else (partW (splitS s 46)).map fun x => (x.1, x.2.1, 0, [], x.2.2)
def partOk (s : ByteArray) : Bool := (partAll s).isSome
def partA (s : ByteArray) : Int := ((partAll s).getD (0, 0, 0, [], 0)).1
def partB' (s : ByteArray) : Int := ((partAll s).getD (0, 0, 0, [], 0)).2.1
def partC (s : ByteArray) : Int := ((partAll s).getD (0, 0, 0, [], 0)).2.2.1
def partP (s : ByteArray) : List ByteArray := ((partAll s).getD (0, 0, 0, [], 0)).2.2.2.1
def partT (s : ByteArray) : Int := ((partAll s).getD (0, 0, 0, [], 0)).2.2.2.2
def partOut (s : ByteArray) (u : Value) : Value := .tuple #[.agg #[.int .i64 (partA s), .int .i64 (partB' s), .int .i64 (partC s), u, .int .i64 (partT s)], .bool (partOk s)]
theorem partOut_ver {s : ByteArray} (h : resOk s = true) (u : Value) : partOut s u = .tuple #[.agg #[.int .i64 (resN s 0), .int .i64 (resN s 1), .int .i64 (resN s 2), u, .int .i64 3], .bool true] ∧ partP s = resP s := by
  simp [partOut, partA, partB', partC, partP, partT, partOk, partAll, h]
theorem partOut_none {s : ByteArray} (h : resOk s = false) (hp : partW (splitS s 46) = none) : partOut s (.slice none 0 0) = .tuple #[.agg #[.int .i64 0, .int .i64 0, .int .i64 0, .slice none 0 0, .int .i64 0], .bool false] ∧ partP s = [] := by
  simp [partOut, partA, partB', partC, partP, partT, partOk, partAll, h, hp]
theorem partOut_some {s : ByteArray} (h : resOk s = false) {a b t : Int} (hp : partW (splitS s 46) = some (a, b, t)) : partOut s (.slice none 0 0) = .tuple #[.agg #[.int .i64 a, .int .i64 b, .int .i64 0, .slice none 0 0, .int .i64 t], .bool true] ∧ partP s = [] := by
  simp [partOut, partA, partB', partC, partP, partT, partOk, partAll, h, hp]

theorem stripK_le (ws : List ByteArray) : ∀ n, stripK ws n ≤ n
  | 0 => Nat.le_refl _
  | n + 1 => by
    rw [stripK]
    split
    · have := stripK_le ws n; omega
    · omega
theorem stripK_pos (ws : List ByteArray) : ∀ n, 0 < n → 0 < stripK ws n
  | 0, h => by omega
  | n + 1, _ => by
    rw [stripK]
    split
    · exact stripK_pos ws n (by omega)
    · omega

/-- The block N holds these three cells. -/
def Three (w : World) (N : Nat) (t : TypeId) (c0 c1 c2 : Value) : Prop := w.heap[N]? = some (.cells #[c0, c1, c2] t (0, 0))
theorem Three.lt {w : World} {N : Nat} {t : TypeId} {c0 c1 c2 : Value} (h : Three w N t c0 c1 c2) : N < w.heap.size := (Array.getElem?_eq_some_iff.1 h).1
theorem Three.cells {w : World} {N : Nat} {t : TypeId} {c0 c1 c2 : Value} (h : Three w N t c0 c1 c2) : w.cell? ⟨N, 0, none⟩ = some c0 ∧ w.cell? ⟨N, 1, none⟩ = some c1 ∧ w.cell? ⟨N, 2, none⟩ = some c2 := ⟨vblk_cell h 0, vblk_cell h 1, vblk_cell h 2⟩
theorem Three.set {w : World} {N : Nat} {t : TypeId} {c0 c1 c2 : Value} (h : Three w N t c0 c1 c2) (v : Value) : Three (w.setCell ⟨N, 0, none⟩ v) N t v c1 c2 ∧ Three (w.setCell ⟨N, 1, none⟩ v) N t c0 v c2 :=
  ⟨heap_setCell_same w N 0 _ t v h, heap_setCell_same w N 1 _ t v h⟩
theorem three_new (w : World) (t : TypeId) (c0 c1 c2 : Value) : Three (w.alloc (.cells #[c0, c1, c2] t)) w.heap.size t c0 c1 c2 := vheap_new _ _
theorem Five.far {w : World} {R N j : Nat} {t : TypeId} {c0 c1 c2 c3 c4 : Value} (h : Five w R t c0 c1 c2 c3 c4) (hn : R ≠ N) (v : Value) : Five (w.setCell ⟨N, j, none⟩ v) R t c0 c1 c2 c3 c4 := (Below.heap_setCell w ⟨N, j, none⟩ v R hn).trans h
end Go.Proofs.YtlfmefojcmpfeaaGreatDoor
