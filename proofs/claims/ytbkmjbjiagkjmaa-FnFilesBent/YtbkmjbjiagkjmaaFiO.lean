/-
  What the specification's DiffFiles answers: ascending, and each path that is in one list alone or of another text; a contract for the walks; conditions: the lists lie in memory, hold at most 2 to the 19 files, no path twice.
-/
import Derived.Test.YtbkmjbjiagkjmaaFiN
namespace Go.Proofs.Ytbkmjbjiagkjmaa
open Go.RowKit Go.Maps
set_option linter.unusedSimpArgs false
set_option linter.unusedVariables false

def badD (o : Option FileD) (f : FileD) : Bool := match o with | none => true | some g => !(g.t.toList == f.t.toList)
def diffA (fa : List FileD) (mb : ByteArray → Option FileD) : List ByteArray := (fa.filter fun f => badD (mb f.p) f).map FileD.p
def diffB (fb : List FileD) (ma : ByteArray → Option FileD) : List ByteArray := (fb.filter fun f => (ma f.p).isNone).map FileD.p
theorem diffA_yes {fa : List FileD} {mb : ByteArray → Option FileD} {k : Nat} (h : k < fa.length) (hb : badD (mb fa[k].p) fa[k] = true) : diffA (fa.take (k + 1)) mb = diffA (fa.take k) mb ++ [fa[k].p] := by
  unfold diffA; rw [List.take_succ_eq_append_getElem h, List.filter_append]; simp [hb]
theorem diffA_no {fa : List FileD} {mb : ByteArray → Option FileD} {k : Nat} (h : k < fa.length) (hb : badD (mb fa[k].p) fa[k] = false) : diffA (fa.take (k + 1)) mb = diffA (fa.take k) mb := by
  unfold diffA; rw [List.take_succ_eq_append_getElem h, List.filter_append]; simp [hb]
theorem diffB_yes {fb : List FileD} {ma : ByteArray → Option FileD} {k : Nat} (h : k < fb.length) (hb : ma fb[k].p = none) : diffB (fb.take (k + 1)) ma = diffB (fb.take k) ma ++ [fb[k].p] := by
  unfold diffB; rw [List.take_succ_eq_append_getElem h, List.filter_append]; simp [hb]
theorem diffB_no {fb : List FileD} {ma : ByteArray → Option FileD} {k : Nat} {g : FileD} (h : k < fb.length) (hb : ma fb[k].p = some g) : diffB (fb.take (k + 1)) ma = diffB (fb.take k) ma := by
  unfold diffB; rw [List.take_succ_eq_append_getElem h, List.filter_append]; simp [hb]
theorem diffA_len (fa : List FileD) (mb : ByteArray → Option FileD) : (diffA fa mb).length ≤ fa.length := by unfold diffA; rw [List.length_map]; exact List.length_filter_le _ _
theorem diffB_len (fb : List FileD) (ma : ByteArray → Option FileD) : (diffB fb ma).length ≤ fb.length := by unfold diffB; rw [List.length_map]; exact List.length_filter_le _ _

/-- No path stands twice. -/
def onceF (fs : List FileD) : Prop := ∀ f ∈ fs, getF fs f.p = some f
theorem diff_mem {fa fb : List FileD} (ha : onceF fa) (hb : onceF fb) (p : ByteArray) : p ∈ diffA fa (getF fb) ++ diffB fb (getF fa) ↔ (diffM (getF fa) (getF fb) p).isSome = true := by
  rw [List.mem_append]
  unfold diffA diffB diffM
  simp only [List.mem_map, List.mem_filter]
  constructor
  · rintro (⟨f, ⟨hf, hbad⟩, rfl⟩ | ⟨f, ⟨hf, hn⟩, rfl⟩)
    · rw [ha f hf]
      cases hg : getF fb f.p with
      | none => rfl
      | some g =>
        rw [hg] at hbad
        simp only [badD, toList_beq] at hbad
        have : ¬ f.t = g.t := fun e => by rw [e] at hbad; simp at hbad
        simp [diffO, this]
    · rw [hb f hf]
      cases hg : getF fa f.p with
      | none => rfl
      | some g => rw [hg] at hn; cases hn
  · intro h
    cases hga : getF fa p with
    | none =>
      cases hgb : getF fb p with
      | none => rw [hga, hgb] at h; cases h
      | some f =>
        obtain ⟨h1, h2⟩ := getF_mem hgb
        exact .inr ⟨f, ⟨h1, by rw [h2, hga]; rfl⟩, h2⟩
    | some g =>
      obtain ⟨h1, h2⟩ := getF_mem hga
      refine .inl ⟨g, ⟨h1, ?_⟩, h2⟩
      cases hgb : getF fb p with
      | none => rw [h2, hgb]; rfl
      | some f =>
        rw [hga, hgb] at h
        rw [h2, hgb]
        simp only [badD, toList_beq]
        by_cases e : g.t = f.t
        · simp [diffO, e] at h
        · have : ¬ f.t = g.t := fun e' => e e'.symm
          simp [this]

set_option maxHeartbeats 8000000 in
set_option maxRecDepth 100000 in
theorem specDiff_c (S S' : Nat → Prop) (v u : Value) (fa fb : List FileD) (w : World) (hv : FilesIn S w v fa) (hB : ∀ b, S b → b < w.heap.size) (hu : FilesIn S' w u fb) (hB' : ∀ b, S' b → b < w.heap.size) (hla : fa.length ≤ 524288) (hlb : fb.length ≤ 524288) (hoa : onceF fa) (hob : onceF fb) :
    Calls Try.prog 30 #[v, u] w fun e w' => ∃ x ts, e = .returned x ∧ risesS ts ∧ (∀ p, p ∈ ts ↔ (diffM (getF fa) (getF fb) p).isSome = true) ∧ w'.ownsRow w.heap.size 9 1 x ts.length (strsV ts) ∧ Below w.heap.size w w' := by
  have HGB : Hid (∀ w1 p, Below w.heap.size w w1 → Calls Try.prog 23 #[u, .string p] w1 fun e w' => e = .returned (.tuple #[.string (textF (getF fb p)), .bool (getF fb p).isSome]) ∧ w1 = w') := fun w1 p h => specGet_c S' u fb p w1 (hu.keep (.of h hB')) (fun b hb => Nat.lt_of_lt_of_le (hB' b hb) h.size)
  have HGA : Hid (∀ w1 p, Below w.heap.size w w1 → Calls Try.prog 23 #[v, .string p] w1 fun e w' => e = .returned (.tuple #[.string (textF (getF fa p)), .bool (getF fa p).isSome]) ∧ w1 = w') := fun w1 p h => specGet_c S v fa p w1 (hv.keep (.of h hB)) (fun b hb => Nat.lt_of_lt_of_le (hB b hb) h.size)
  have HMEM : Hid (∀ p, p ∈ diffA fa (getF fb) ++ diffB fb (getF fa) ↔ (diffM (getF fa) (getF fb) p).isSome = true) := diff_mem hoa hob
  obtain ⟨i0, hi0, hz0, hz1, hz2⟩ := info_parts infoS
  obtain ⟨qa, ca, rfl, _, _, _, haa⟩ := hv
  obtain ⟨qb, cb, rfl, _, _, _, hab⟩ := hu
  have HAA : Hid (∀ k (h : k < fa.length), ∃ b off, qa = some ⟨b, off, none⟩ ∧ ∀ w', Below w.heap.size w w' → w'.cell? ⟨b, off + k * 2, none⟩ = some (.string fa[k].p) ∧ w'.cell? ⟨b, off + k * 2 + 1, none⟩ = some (.string fa[k].t)) := fun k h => by
    rcases haa with rfl | ⟨b, off, rfl, hS, hc⟩
    · simp at h
    · exact ⟨b, off, rfl, fun w' hw => ⟨(hw.cell (by simpa using hB b hS)).trans (hc k h).1, (hw.cell (by simpa using hB b hS)).trans (hc k h).2⟩⟩
  have HAB : Hid (∀ k (h : k < fb.length), ∃ b off, qb = some ⟨b, off, none⟩ ∧ ∀ w', Below w.heap.size w w' → w'.cell? ⟨b, off + k * 2, none⟩ = some (.string fb[k].p) ∧ w'.cell? ⟨b, off + k * 2 + 1, none⟩ = some (.string fb[k].t)) := fun k h => by
    rcases hab with rfl | ⟨b, off, rfl, hS, hc⟩
    · simp at h
    · exact ⟨b, off, rfl, fun w' hw => ⟨(hw.cell (by simpa using hB' b hS)).trans (hc k h).1, (hw.cell (by simpa using hB' b hS)).trans (hc k h).2⟩⟩
  have ho : (w.alloc (.cells #[] 9)).ownsRow w.heap.size 9 1 (.slice (some ⟨w.heap.size, 0, none⟩) 0 0) 0 [] := World.ownsRow_lit w #[] 0 (Nat.le_refl _) (by unfold maxLen; omega) rfl
  obtain ⟨ma, hma⟩ : ∃ m, m = getF fa := ⟨_, rfl⟩
  obtain ⟨mb, hmb⟩ : ∃ m, m = getF fb := ⟨_, rfl⟩
  rw [← hma, ← hmb] at HMEM ⊢
  simp only [← hmb] at HGB
  simp only [← hma] at HGA
  clear haa hab hoa hob hma hmb
  go_enter Try.func30, Try.ntmps30
  go_wp2_with fail
  go_loopw [5, 6] (fun vo vi wr => ∃ k : Nat, k ≤ fa.length ∧ vi = .int .i64 (k : Int) ∧ wr.ownsRow w.heap.size 9 1 vo (diffA (fa.take k) mb).length (strsV (diffA (fa.take k) mb)) ∧ Below w.heap.size w wr) (fun _ vi _ => fa.length - (intOf vi).toNat)
  case atStart => exact ⟨0, Nat.zero_le _, rfl, ho, (Below.refl _ _).alloc (Nat.le_refl _) _⟩
  case round =>
    obtain ⟨k, hk, rfl, hown, hbr⟩ := hrel
    clear ho
    by_cases hlt : k < fa.length
    · have hki : (k : Int) < (fa.length : Int) := by omega
      obtain ⟨b, off, rfl, hcell⟩ := HAA.out k hlt
      obtain ⟨e0, e1⟩ := hcell wr hbr
      have hy := fun h => diffA_yes (mb := mb) hlt h
      have hn := fun h => diffA_no (mb := mb) hlt h
      have hdl := diffA_len (fa.take k) mb
      rw [List.length_take] at hdl
      obtain ⟨d, hd⟩ : ∃ d, d = fa[k] := ⟨_, rfl⟩
      rw [← hd] at e0 e1 hy hn
      obtain ⟨L, hL⟩ : ∃ L, L = diffA (fa.take k) mb := ⟨_, rfl⟩
      rw [← hL] at hown hdl hy hn
      have HC := HGB.out wr d.p hbr
      have HY : Hid (badD (mb d.p) d = true → strsV (diffA (fa.take (k + 1)) mb) = strsV L ++ strsV [d.p] ∧ (diffA (fa.take (k + 1)) mb).length = L.length + 1) := fun h => by rw [hy h]; exact ⟨by simp [strsV], by simp⟩
      have HN : Hid (badD (mb d.p) d = false → diffA (fa.take (k + 1)) mb = L) := hn
      have hbz := hbr.size
      clear hcell hd hL hy hn
      cases hg : mb d.p with
      | none =>
        rw [hg] at HC
        have HY2 := HY.out (by rw [hg]; rfl)
        have HY3 : Hid (strsV (diffA (fa.take (k + 1)) mb) = strsV L ++ strsV [d.p] ∧ (diffA (fa.take (k + 1)) mb).length = L.length + 1) := HY2
        clear HY HN HY2 hg
        go_wp2_with (first
          | (go_at_call 23; refine HC.mono ?_; rintro e w1 ⟨rfl, rfl⟩; simp only [Option.isSome_none])
          | (at_builtin; refine wpList_append_own _ rfl _ _ 34 rfl w.heap.size 9 i0 (.string ⟨#[]⟩) 1 16 Try.underlying34 hi0 hz0 hz1 hz2 rfl (by decide) _ L.length (strsV L) rfl (hown.alloc _) ⟨wr.heap.size, 0, none⟩ 1 1 (strsV [d.p]) rfl rfl (cell_one_new _ _ _) (fun u hu => by simp [strsV] at hu; subst hu; rfl) (by unfold maxLen; omega) (by omega) (by simp; omega) ?_))
        intro v3 w3 o3 gr3 _
        rw [← HY3.out.1, ← HY3.out.2] at o3
        have hb3 : Below w.heap.size w w3 := Below.grown (hbr.alloc hbr.size _) gr3 (by simp; omega) (fun j hj => (hown.lt _ hj).1)
        clear gr3
        go_wp2_with fail
        go_roundw
        case rel => exact ⟨k + 1, by omega, by go_num, o3, hb3⟩
        case measure => simp [intOf]; omega
      | some g =>
        rw [hg] at HC
        cases hte : (g.t.toList == d.t.toList) with
        | false =>
          have hte' : (g.t.toList != d.t.toList) = true := by simp [bne, hte]
          have HY2 := HY.out (by rw [hg]; simp [badD, hte])
          have HY3 : Hid (strsV (diffA (fa.take (k + 1)) mb) = strsV L ++ strsV [d.p] ∧ (diffA (fa.take (k + 1)) mb).length = L.length + 1) := HY2
          clear HY HN HY2 hg
          go_wp2_with (first
            | (go_at_call 23; refine HC.mono ?_; rintro e w1 ⟨rfl, rfl⟩; simp only [Option.isSome_some, textF])
            | (at_builtin; refine wpList_append_own _ rfl _ _ 34 rfl w.heap.size 9 i0 (.string ⟨#[]⟩) 1 16 Try.underlying34 hi0 hz0 hz1 hz2 rfl (by decide) _ L.length (strsV L) rfl (hown.alloc _) ⟨wr.heap.size, 0, none⟩ 1 1 (strsV [d.p]) rfl rfl (cell_one_new _ _ _) (fun u hu => by simp [strsV] at hu; subst hu; rfl) (by unfold maxLen; omega) (by omega) (by simp; omega) ?_))
          intro v3 w3 o3 gr3 _
          rw [← HY3.out.1, ← HY3.out.2] at o3
          have hb3 : Below w.heap.size w w3 := Below.grown (hbr.alloc hbr.size _) gr3 (by simp; omega) (fun j hj => (hown.lt _ hj).1)
          clear gr3
          go_wp2_with fail
          go_roundw
          case rel => exact ⟨k + 1, by omega, by go_num, o3, hb3⟩
          case measure => simp [intOf]; omega
        | true =>
          have hte' : (g.t.toList != d.t.toList) = false := by simp [bne, hte]
          have HN2 : Hid (diffA (fa.take (k + 1)) mb = L) := HN.out (by rw [hg]; simp [badD, hte])
          clear HY HN hg
          go_wp2_with (go_at_call 23; refine HC.mono ?_; rintro e w1 ⟨rfl, rfl⟩; simp only [Option.isSome_some, textF])
          go_roundw
          case rel => exact ⟨k + 1, by omega, by go_num, by rw [HN2.out]; exact hown, hbr⟩
          case measure => simp [intOf]; omega
    · have hki : ¬ (k : Int) < (fa.length : Int) := by omega
      have he : k = fa.length := by omega
      subst he
      rw [List.take_length] at hown
      have hdl := diffA_len fa mb
      obtain ⟨L0, hL0⟩ : ∃ L, L = diffA fa mb := ⟨_, rfl⟩
      rw [← hL0] at hown hdl HMEM
      clear hL0
      go_wp2_with fail
      go_loopw [5, 9] (fun vo vi wr => ∃ k : Nat, k ≤ fb.length ∧ vi = .int .i64 (k : Int) ∧ wr.ownsRow w.heap.size 9 1 vo (L0 ++ diffB (fb.take k) ma).length (strsV (L0 ++ diffB (fb.take k) ma)) ∧ Below w.heap.size w wr) (fun _ vi _ => fb.length - (intOf vi).toNat)
      case atStart => exact ⟨0, Nat.zero_le _, rfl, by rw [show diffB (fb.take 0) ma = [] from by simp [diffB], List.append_nil]; exact hown, hbr⟩
      case round =>
        obtain ⟨k, hk, rfl, hown2, hbr2⟩ := hrel
        clear hown hbr
        by_cases hlt : k < fb.length
        · have hkj : (k : Int) < (fb.length : Int) := by omega
          obtain ⟨b, off, rfl, hcell⟩ := HAB.out k hlt
          obtain ⟨e0, e1⟩ := hcell wr hbr2
          have hy := fun h => diffB_yes (ma := ma) hlt h
          have hn := fun g h => diffB_no (ma := ma) (g := g) hlt h
          have hdl2 : (L0 ++ diffB (fb.take k) ma).length ≤ 1048576 := by
            have := diffB_len (fb.take k) ma
            rw [List.length_take] at this
            rw [List.length_append]; omega
          obtain ⟨d, hd⟩ : ∃ d, d = fb[k] := ⟨_, rfl⟩
          rw [← hd] at e0 e1 hy
          simp only [← hd] at hn
          have hy2 : ma d.p = none → L0 ++ diffB (fb.take (k + 1)) ma = (L0 ++ diffB (fb.take k) ma) ++ [d.p] := fun h => by rw [hy h, List.append_assoc]
          have hn2 : ∀ g, ma d.p = some g → L0 ++ diffB (fb.take (k + 1)) ma = L0 ++ diffB (fb.take k) ma := fun g h => by rw [hn g h]
          obtain ⟨L, hL⟩ : ∃ L, L = L0 ++ diffB (fb.take k) ma := ⟨_, rfl⟩
          rw [← hL] at hown2 hdl2 hy2
          simp only [← hL] at hn2
          have HC := HGA.out wr d.p hbr2
          have HY : Hid (ma d.p = none → strsV (L0 ++ diffB (fb.take (k + 1)) ma) = strsV L ++ strsV [d.p] ∧ (L0 ++ diffB (fb.take (k + 1)) ma).length = L.length + 1) := fun h => by rw [hy2 h]; exact ⟨by simp [strsV], by simp⟩
          have HN : Hid (∀ g, ma d.p = some g → L0 ++ diffB (fb.take (k + 1)) ma = L) := hn2
          have hbz := hbr2.size
          clear hcell hd hL hy hn hy2 hn2
          cases hg : ma d.p with
          | none =>
            rw [hg] at HC
            have HY3 : Hid (strsV (L0 ++ diffB (fb.take (k + 1)) ma) = strsV L ++ strsV [d.p] ∧ (L0 ++ diffB (fb.take (k + 1)) ma).length = L.length + 1) := HY.out hg
            clear HY HN hg
            go_wp2_with (first
              | (go_at_call 23; refine HC.mono ?_; rintro e w1 ⟨rfl, rfl⟩; simp only [Option.isSome_none])
              | (at_builtin; refine wpList_append_own _ rfl _ _ 34 rfl w.heap.size 9 i0 (.string ⟨#[]⟩) 1 16 Try.underlying34 hi0 hz0 hz1 hz2 rfl (by decide) _ L.length (strsV L) rfl (hown2.alloc _) ⟨wr.heap.size, 0, none⟩ 1 1 (strsV [d.p]) rfl rfl (cell_one_new _ _ _) (fun u hu => by simp [strsV] at hu; subst hu; rfl) (by unfold maxLen; omega) (by omega) (by simp; omega) ?_))
            intro v3 w3 o3 gr3 _
            rw [← HY3.out.1, ← HY3.out.2] at o3
            have hb3 : Below w.heap.size w w3 := Below.grown (hbr2.alloc hbr2.size _) gr3 (by simp; omega) (fun j hj => (hown2.lt _ hj).1)
            clear gr3
            go_wp2_with fail
            go_roundw
            case rel => exact ⟨k + 1, by omega, by go_num, o3, hb3⟩
            case measure => simp [intOf]; omega
          | some g =>
            rw [hg] at HC
            have HN2 : Hid (L0 ++ diffB (fb.take (k + 1)) ma = L) := HN.out g hg
            clear HY HN hg
            go_wp2_with (go_at_call 23; refine HC.mono ?_; rintro e w1 ⟨rfl, rfl⟩; simp only [Option.isSome_some])
            go_roundw
            case rel => exact ⟨k + 1, by omega, by go_num, by rw [HN2.out]; exact hown2, hbr2⟩
            case measure => simp [intOf]; omega
        · have hkj : ¬ (k : Int) < (fb.length : Int) := by omega
          have he2 : k = fb.length := by omega
          subst he2
          rw [List.take_length] at hown2
          have hdl2 : (L0 ++ diffB fb ma).length ≤ 1048576 := by
            have := diffB_len fb ma
            rw [List.length_append]; omega
          have HS := specSorted_c _ _ wr (reads_of_owns hown2) hdl2
          clear hown2
          go_wp2_with (go_at_call 76; refine HS.mono ?_; rintro e w3 ⟨u3, ys, rfl, o3, hr3, hm3, _, b3⟩)
          go_ret
          exact ⟨u3, ys, rfl, hr3, fun p => by rw [hm3 p]; exact HMEM.out p, owns_low o3 hbr2.size, hbr2.trans (b3.mono hbr2.size)⟩
end Go.Proofs.Ytbkmjbjiagkjmaa
