/-
  A file put in order, the specification's: contracts for the walks; conditions: the list lies in memory, and holds at most 2 to the 20.
-/
import Derived.Test.YtlnofdlhjeomfaaFiG
namespace Go.Proofs.Ytlnofdlhjeomfaa
open Go.RowKit Go.Maps
set_option linter.unusedSimpArgs false
set_option linter.unusedVariables false

def lessP (a b : ByteArray) : Bool := Op.bytesLess a.toList b.toList
def stepP (f : FileD) (st : List FileD × Bool) (g : FileD) : List FileD × Bool :=
  let st1 := if !st.2 && !lessP g.p f.p then (st.1 ++ [f], true) else st
  (if !(g.p.toList == f.p.toList) then st1.1 ++ [g] else st1.1, st1.2)
def putSt (f : FileD) (fs : List FileD) : List FileD × Bool := fs.foldl (stepP f) ([], false)
def putS (fs : List FileD) (f : FileD) : List FileD := if (putSt f fs).2 then (putSt f fs).1 else (putSt f fs).1 ++ [f]
theorem putSt_step (f : FileD) (fs : List FileD) (k : Nat) (h : k < fs.length) : putSt f (fs.take (k + 1)) = stepP f (putSt f (fs.take k)) fs[k] := by
  unfold putSt; rw [List.take_succ_eq_append_getElem h, List.foldl_append]; rfl
theorem stepP_len (f : FileD) (st : List FileD × Bool) (g : FileD) : (stepP f st g).1.length + (if (stepP f st g).2 then 0 else 1) ≤ st.1.length + (if st.2 then 0 else 1) + 1 := by
  obtain ⟨l, d⟩ := st
  unfold stepP
  cases d <;> cases lessP g.p f.p <;> cases (g.p.toList == f.p.toList) <;> simp
theorem putSt_len (f : FileD) (fs : List FileD) : ∀ st : List FileD × Bool, (fs.foldl (stepP f) st).1.length + (if (fs.foldl (stepP f) st).2 then 0 else 1) ≤ st.1.length + (if st.2 then 0 else 1) + fs.length := by
  induction fs with
  | nil => intro st; exact Nat.le_refl _
  | cons g fs ih => intro st; have h1 := ih (stepP f st g); have h2 := stepP_len f st g; rw [List.foldl_cons, List.length_cons]; exact Nat.le_trans h1 (by omega)
theorem putSt_small (f : FileD) (fs : List FileD) : (putSt f fs).1.length ≤ fs.length + 1 := by
  have := putSt_len f fs ([], false)
  unfold putSt
  simp at this ⊢
  omega

set_option maxHeartbeats 8000000 in
set_option maxRecDepth 100000 in
theorem put5_c (S : Nat → Prop) (v : Value) (fs : List FileD) (f : FileD) (w : World) (hv : FilesIn S w v fs) (hB : ∀ b, S b → b < w.heap.size) (hl : fs.length ≤ 1048576) :
    Calls Try.prog 43 #[v, .agg #[.string f.p, .string f.t]] w fun e w' => ∃ u, e = .returned u ∧ w'.ownsRow w.heap.size 26 2 u (putS fs f).length (cellsF (putS fs f)) ∧ Below w.heap.size w w' := by
  obtain ⟨a, cap, rfl, _, hc, hsn, ha⟩ := hv
  obtain ⟨i0, hi, hz0, hz1, hz2⟩ := info_parts infoFile
  have kW0 : Below w.heap.size w (w.alloc (.cells #[.string f.p, .string f.t] 26)) := (Below.refl _ _).alloc (Nat.le_refl _) _
  have hX := vheap_new w (.cells #[.string f.p, .string f.t] 26)
  have lX : w.heap.size < (w.alloc (.cells #[.string f.p, .string f.t] 26)).heap.size := by simp
  have ho : ((w.alloc (.cells #[.string f.p, .string f.t] 26)).alloc (.cells #[] 26)).ownsRow (w.alloc (.cells #[.string f.p, .string f.t] 26)).heap.size 26 2 (.slice (some ⟨(w.alloc (.cells #[.string f.p, .string f.t] 26)).heap.size, 0, none⟩) 0 0) 0 [] := World.ownsRow_lit _ #[] 0 (Nat.le_refl _) (by unfold maxLen; omega) rfl
  have hsz : (w.alloc (.cells #[.string f.p, .string f.t] 26)).heap.size = w.heap.size + 1 := by simp
  go_enter Try.func43, Try.ntmps43
  go_wp2_with fail
  generalize w.alloc (.cells #[.string f.p, .string f.t] 26) = W0 at kW0 hX lX ho hsz ⊢
  rw [hsz] at ho
  have FX : Hid (∀ w', Below W0.heap.size W0 w' → w'.cell? ⟨w.heap.size, 0, none⟩ = some (.string f.p) ∧ w'.cell? ⟨w.heap.size, 1, none⟩ = some (.string f.t)) := fun w' h => by
    have := (h.block _ lX).trans hX
    exact ⟨by rw [vblk_cell this]; rfl, by rw [vblk_cell this]; rfl⟩
  have HSZ : Hid (W0.heap.size = w.heap.size + 1) := hsz
  go_loopw [5, 6, 7] (fun vo vd vi wr => ∃ (k : Nat) (L : List FileD) (dn : Bool), k ≤ fs.length ∧ vi = .int .i64 (k : Int) ∧ vd = .bool dn ∧ wr.ownsRow W0.heap.size 26 2 vo L.length (cellsF L) ∧ Hid (putSt f (fs.take k) = (L, dn)) ∧ Below W0.heap.size W0 wr) (fun _ _ vi _ => fs.length - (intOf vi).toNat)
  case atStart => exact ⟨0, [], false, Nat.zero_le _, rfl, rfl, (by rw [HSZ.out]; exact ho), rfl, (Below.refl _ _).alloc (Nat.le_refl _) _⟩
  case round =>
    obtain ⟨k, L, dn, hk, rfl, rfl, hown, hst, hbr⟩ := hrel
    obtain ⟨x0, x1⟩ := FX.out wr hbr
    clear ho hX lX hsz
    have hLs := putSt_small f (fs.take k)
    rw [hst.out, List.length_take] at hLs
    have hLs' : L.length ≤ 1048577 := by have : L.length ≤ min k fs.length + 1 := hLs; omega
    clear hLs
    by_cases hlt' : k < fs.length
    · rcases ha with rfl | ⟨b, off, rfl, hlt, ha⟩
      · simp at hlt'
      obtain ⟨e0, e1⟩ := ha k hlt'
      have hlt2 : b < W0.heap.size := Nat.lt_of_lt_of_le (hB b hlt) kW0.size
      have E0 : Hid (∀ w', Below W0.heap.size W0 w' → w'.cell? ⟨b, off + k * 2, none⟩ = some (.string fs[k].p) ∧ w'.cell? ⟨b, off + k * 2 + 1, none⟩ = some (.string fs[k].t)) := fun w' h => ⟨(h.cell (by simpa using hlt2)).trans ((kW0.cell (by simpa using hB b hlt)).trans e0), (h.cell (by simpa using hlt2)).trans ((kW0.cell (by simpa using hB b hlt)).trans e1)⟩
      have HST : Hid (putSt f (fs.take (k + 1)) = stepP f (L, dn) fs[k]) := by show _ = _; rw [putSt_step f fs k hlt', hst.out]
      obtain ⟨d, hd⟩ : ∃ d, d = fs[k] := ⟨_, rfl⟩
      rw [← hd] at E0 HST
      clear e0 e1
      obtain ⟨e0, e1⟩ := E0.out wr hbr
      have hki : (k : Int) < (fs.length : Int) := by omega
      clear ha hd hsn hst
      cases dn with
      | true =>
        obtain ⟨V, hV⟩ : ∃ V, V = u5 := ⟨_, rfl⟩
        clear hV V
        go_wp2_with fail
        go_quiet (fail)
        obtain ⟨qa, hqa⟩ : ∃ q, q = wr.drewN nq := ⟨_, rfl⟩
        have hba : Below W0.heap.size W0 qa := by rw [hqa]; exact below_drewN' hbr nq
        have owna : qa.ownsRow W0.heap.size 26 2 u5 L.length (cellsF L) := by rw [hqa]; exact hown
        rw [← hqa]
        clear hqa
        obtain ⟨xa0, xa1⟩ := FX.out qa hba
        obtain ⟨ya0, ya1⟩ := E0.out qa hba
        cases hne : (d.p.toList == f.p.toList) with
        | true =>
          have HS : Hid (stepP f (L, true) d = (L, true)) := by show _ = _; simp [stepP, hne]
          go_wp2_with fail
          go_quiet (fail)
          obtain ⟨qb, hqb⟩ : ∃ q, q = qa.drewN nq := ⟨_, rfl⟩
          have hbb : Below W0.heap.size W0 qb := by rw [hqb]; exact below_drewN' hba nq
          have ownb : qb.ownsRow W0.heap.size 26 2 u5 L.length (cellsF L) := by rw [hqb]; exact owna
          rw [← hqb]
          clear hqb
          obtain ⟨xb0, xb1⟩ := FX.out qb hbb
          obtain ⟨yb0, yb1⟩ := E0.out qb hbb
          go_wp2_with fail
          go_roundw
          case rel => exact ⟨k + 1, L, true, by omega, by go_num, rfl, ownb, (by show _ = _; rw [HST.out, HS.out]), hbb⟩
          case measure => simp [intOf]; omega
        | false =>
          have HS : Hid (stepP f (L, true) d = ((L ++ [d]), true)) := by show _ = _; simp [stepP, hne]
          go_wp2_with fail
          go_quiet (fail)
          obtain ⟨qb, hqb⟩ : ∃ q, q = qa.drewN nq := ⟨_, rfl⟩
          have hbb : Below W0.heap.size W0 qb := by rw [hqb]; exact below_drewN' hba nq
          have ownb : qb.ownsRow W0.heap.size 26 2 u5 L.length (cellsF L) := by rw [hqb]; exact owna
          rw [← hqb]
          clear hqb
          obtain ⟨xb0, xb1⟩ := FX.out qb hbb
          obtain ⟨yb0, yb1⟩ := E0.out qb hbb
          go_wp2_with (at_builtin; refine wpList_append_own _ rfl _ _ 24 rfl W0.heap.size 26 i0 (.agg #[.string ⟨#[]⟩, .string ⟨#[]⟩]) 2 32 Try.underlying24 hi hz0 hz1 hz2 rfl (by decide) _ L.length (cellsF L) rfl (ownb.alloc _) ⟨qb.heap.size, 0, none⟩ 1 1 [.string d.p, .string d.t] rfl rfl (cell_two_c _ _ _ _) (fun u hu => by simp at hu; rcases hu with rfl | rfl <;> rfl) (by unfold maxLen; omega) (by omega) (by have := hbb.size; simp; omega) ?_)
          intro v3 w3 o3 gr3 _
          have e3 : cellsF (L ++ [d]) = cellsF L ++ [.string d.p, .string d.t] := by rw [cellsF_append]; rfl
          rw [← e3] at o3
          replace o3 : w3.ownsRow W0.heap.size 26 2 v3 (L ++ [d]).length (cellsF (L ++ [d])) := by
            simp only [List.length_append, List.length_cons, List.length_nil, Nat.zero_add] at o3 ⊢
            exact o3
          have hb3 : Below W0.heap.size W0 w3 := Below.grown (hbb.alloc hbb.size _) gr3 (by have := hbb.size; simp; omega) (fun j hj => (ownb.lt _ hj).1)
          obtain ⟨f3a, f3b⟩ := FX.out w3 hb3
          clear gr3 e3
          go_wp2_with fail
          go_roundw
          case rel => exact ⟨k + 1, (L ++ [d]), true, by omega, by go_num, rfl, o3, (by show _ = _; rw [HST.out, HS.out]), hb3⟩
          case measure => simp [intOf]; omega
      | false =>
        cases hge : lessP d.p f.p with
        | true =>
          have hge' : (!Op.bytesLess d.p.toList f.p.toList) = false := by unfold lessP at hge; simp [hge]
          go_wp2_with fail
          go_quiet (fail)
          obtain ⟨qa, hqa⟩ : ∃ q, q = wr.drewN nq := ⟨_, rfl⟩
          have hba : Below W0.heap.size W0 qa := by rw [hqa]; exact below_drewN' hbr nq
          have owna : qa.ownsRow W0.heap.size 26 2 u5 L.length (cellsF L) := by rw [hqa]; exact hown
          rw [← hqa]
          clear hqa
          obtain ⟨xa0, xa1⟩ := FX.out qa hba
          obtain ⟨ya0, ya1⟩ := E0.out qa hba
          cases hne : (d.p.toList == f.p.toList) with
          | true =>
            have HS : Hid (stepP f (L, false) d = (L, false)) := by show _ = _; simp [stepP, hne, hge]
            go_wp2_with fail
            go_quiet (fail)
            obtain ⟨qb, hqb⟩ : ∃ q, q = qa.drewN nq := ⟨_, rfl⟩
            have hbb : Below W0.heap.size W0 qb := by rw [hqb]; exact below_drewN' hba nq
            have ownb : qb.ownsRow W0.heap.size 26 2 u5 L.length (cellsF L) := by rw [hqb]; exact owna
            rw [← hqb]
            clear hqb
            obtain ⟨xb0, xb1⟩ := FX.out qb hbb
            obtain ⟨yb0, yb1⟩ := E0.out qb hbb
            go_wp2_with fail
            go_roundw
            case rel => exact ⟨k + 1, L, false, by omega, by go_num, rfl, ownb, (by show _ = _; rw [HST.out, HS.out]), hbb⟩
            case measure => simp [intOf]; omega
          | false =>
            have HS : Hid (stepP f (L, false) d = ((L ++ [d]), false)) := by show _ = _; simp [stepP, hne, hge]
            go_wp2_with fail
            go_quiet (fail)
            obtain ⟨qb, hqb⟩ : ∃ q, q = qa.drewN nq := ⟨_, rfl⟩
            have hbb : Below W0.heap.size W0 qb := by rw [hqb]; exact below_drewN' hba nq
            have ownb : qb.ownsRow W0.heap.size 26 2 u5 L.length (cellsF L) := by rw [hqb]; exact owna
            rw [← hqb]
            clear hqb
            obtain ⟨xb0, xb1⟩ := FX.out qb hbb
            obtain ⟨yb0, yb1⟩ := E0.out qb hbb
            go_wp2_with (at_builtin; refine wpList_append_own _ rfl _ _ 24 rfl W0.heap.size 26 i0 (.agg #[.string ⟨#[]⟩, .string ⟨#[]⟩]) 2 32 Try.underlying24 hi hz0 hz1 hz2 rfl (by decide) _ L.length (cellsF L) rfl (ownb.alloc _) ⟨qb.heap.size, 0, none⟩ 1 1 [.string d.p, .string d.t] rfl rfl (cell_two_c _ _ _ _) (fun u hu => by simp at hu; rcases hu with rfl | rfl <;> rfl) (by unfold maxLen; omega) (by omega) (by have := hbb.size; simp; omega) ?_)
            intro v3 w3 o3 gr3 _
            have e3 : cellsF (L ++ [d]) = cellsF L ++ [.string d.p, .string d.t] := by rw [cellsF_append]; rfl
            rw [← e3] at o3
            replace o3 : w3.ownsRow W0.heap.size 26 2 v3 (L ++ [d]).length (cellsF (L ++ [d])) := by
              simp only [List.length_append, List.length_cons, List.length_nil, Nat.zero_add] at o3 ⊢
              exact o3
            have hb3 : Below W0.heap.size W0 w3 := Below.grown (hbb.alloc hbb.size _) gr3 (by have := hbb.size; simp; omega) (fun j hj => (ownb.lt _ hj).1)
            obtain ⟨f3a, f3b⟩ := FX.out w3 hb3
            clear gr3 e3
            go_wp2_with fail
            go_roundw
            case rel => exact ⟨k + 1, (L ++ [d]), false, by omega, by go_num, rfl, o3, (by show _ = _; rw [HST.out, HS.out]), hb3⟩
            case measure => simp [intOf]; omega
        | false =>
          have hge' : (!Op.bytesLess d.p.toList f.p.toList) = true := by unfold lessP at hge; simp [hge]
          go_wp2_with fail
          go_quiet (fail)
          obtain ⟨qa, hqa⟩ : ∃ q, q = wr.drewN nq := ⟨_, rfl⟩
          have hba : Below W0.heap.size W0 qa := by rw [hqa]; exact below_drewN' hbr nq
          have owna : qa.ownsRow W0.heap.size 26 2 u5 L.length (cellsF L) := by rw [hqa]; exact hown
          rw [← hqa]
          clear hqa
          obtain ⟨xa0, xa1⟩ := FX.out qa hba
          obtain ⟨ya0, ya1⟩ := E0.out qa hba
          go_wp2_with (at_builtin; refine wpList_append_own _ rfl _ _ 24 rfl W0.heap.size 26 i0 (.agg #[.string ⟨#[]⟩, .string ⟨#[]⟩]) 2 32 Try.underlying24 hi hz0 hz1 hz2 rfl (by decide) _ L.length (cellsF L) rfl (owna.alloc _) ⟨qa.heap.size, 0, none⟩ 1 1 [.string f.p, .string f.t] rfl rfl (cell_two_c _ _ _ _) (fun u hu => by simp at hu; rcases hu with rfl | rfl <;> rfl) (by unfold maxLen; omega) (by omega) (by have := hba.size; simp; omega) ?_)
          intro v2 w2 o2 gr2 _
          have e2 : cellsF (L ++ [f]) = cellsF L ++ [.string f.p, .string f.t] := by rw [cellsF_append]; rfl
          rw [← e2] at o2
          replace o2 : w2.ownsRow W0.heap.size 26 2 v2 (L ++ [f]).length (cellsF (L ++ [f])) := by
            simp only [List.length_append, List.length_cons, List.length_nil, Nat.zero_add] at o2 ⊢
            exact o2
          have hb2 : Below W0.heap.size W0 w2 := Below.grown (hba.alloc hba.size _) gr2 (by have := hba.size; simp; omega) (fun j hj => (owna.lt _ hj).1)
          obtain ⟨f2a, f2b⟩ := FX.out w2 hb2
          clear gr2 e2
          obtain ⟨y20, y21⟩ := E0.out w2 hb2
          cases hne : (d.p.toList == f.p.toList) with
          | true =>
            have HS : Hid (stepP f (L, false) d = ((L ++ [f]), true)) := by show _ = _; simp [stepP, hne, hge]
            go_wp2_with fail
            go_quiet (fail)
            obtain ⟨qb, hqb⟩ : ∃ q, q = w2.drewN nq := ⟨_, rfl⟩
            have hbb : Below W0.heap.size W0 qb := by rw [hqb]; exact below_drewN' hb2 nq
            have ownb : qb.ownsRow W0.heap.size 26 2 v2 (L ++ [f]).length (cellsF (L ++ [f])) := by rw [hqb]; exact o2
            rw [← hqb]
            clear hqb
            obtain ⟨xb0, xb1⟩ := FX.out qb hbb
            obtain ⟨yb0, yb1⟩ := E0.out qb hbb
            go_wp2_with fail
            go_roundw
            case rel => exact ⟨k + 1, (L ++ [f]), true, by omega, by go_num, rfl, ownb, (by show _ = _; rw [HST.out, HS.out]), hbb⟩
            case measure => simp [intOf]; omega
          | false =>
            have HS : Hid (stepP f (L, false) d = (((L ++ [f]) ++ [d]), true)) := by show _ = _; simp [stepP, hne, hge]
            go_wp2_with fail
            go_quiet (fail)
            obtain ⟨qb, hqb⟩ : ∃ q, q = w2.drewN nq := ⟨_, rfl⟩
            have hbb : Below W0.heap.size W0 qb := by rw [hqb]; exact below_drewN' hb2 nq
            have ownb : qb.ownsRow W0.heap.size 26 2 v2 (L ++ [f]).length (cellsF (L ++ [f])) := by rw [hqb]; exact o2
            rw [← hqb]
            clear hqb
            obtain ⟨xb0, xb1⟩ := FX.out qb hbb
            obtain ⟨yb0, yb1⟩ := E0.out qb hbb
            go_wp2_with (at_builtin; refine wpList_append_own _ rfl _ _ 24 rfl W0.heap.size 26 i0 (.agg #[.string ⟨#[]⟩, .string ⟨#[]⟩]) 2 32 Try.underlying24 hi hz0 hz1 hz2 rfl (by decide) _ (L ++ [f]).length (cellsF (L ++ [f])) rfl (ownb.alloc _) ⟨qb.heap.size, 0, none⟩ 1 1 [.string d.p, .string d.t] rfl rfl (cell_two_c _ _ _ _) (fun u hu => by simp at hu; rcases hu with rfl | rfl <;> rfl) (by unfold maxLen; simp; omega) (by simp; omega) (by have := hbb.size; simp; omega) ?_)
            intro v3 w3 o3 gr3 _
            have e3 : cellsF ((L ++ [f]) ++ [d]) = cellsF (L ++ [f]) ++ [.string d.p, .string d.t] := by rw [cellsF_append]; rfl
            rw [← e3] at o3
            replace o3 : w3.ownsRow W0.heap.size 26 2 v3 ((L ++ [f]) ++ [d]).length (cellsF ((L ++ [f]) ++ [d])) := by
              simp only [List.length_append, List.length_cons, List.length_nil, Nat.zero_add] at o3 ⊢
              exact o3
            have hb3 : Below W0.heap.size W0 w3 := Below.grown (hbb.alloc hbb.size _) gr3 (by have := hbb.size; simp; omega) (fun j hj => (ownb.lt _ hj).1)
            obtain ⟨f3a, f3b⟩ := FX.out w3 hb3
            clear gr3 e3
            go_wp2_with fail
            go_roundw
            case rel => exact ⟨k + 1, ((L ++ [f]) ++ [d]), true, by omega, by go_num, rfl, o3, (by show _ = _; rw [HST.out, HS.out]), hb3⟩
            case measure => simp [intOf]; omega
    · have he : k = fs.length := by omega
      subst he
      rw [List.take_length] at hst
      clear ha hsn
      cases dn with
      | true =>
        have HP : Hid (putS fs f = L) := by show _ = _; unfold putS; rw [hst.out]; rfl
        go_wp2_with fail
        go_ret
        rw [HP.out]
        exact ⟨_, rfl, owns_lower2 hown kW0.size, kW0.trans (hbr.mono kW0.size)⟩
      | false =>
        have HP : Hid (putS fs f = L ++ [f]) := by show _ = _; unfold putS; rw [hst.out]; rfl
        go_wp2_with (at_builtin; refine wpList_append_own _ rfl _ _ 24 rfl W0.heap.size 26 i0 (.agg #[.string ⟨#[]⟩, .string ⟨#[]⟩]) 2 32 Try.underlying24 hi hz0 hz1 hz2 rfl (by decide) _ L.length (cellsF L) rfl (hown.alloc _) ⟨wr.heap.size, 0, none⟩ 1 1 [.string f.p, .string f.t] rfl rfl (cell_two_c _ _ _ _) (fun u hu => by simp at hu; rcases hu with rfl | rfl <;> rfl) (by unfold maxLen; omega) (by omega) (by have := hbr.size; simp; omega) ?_)
        intro v9 w9 o9 gr9 _
        have e9 : cellsF (L ++ [f]) = cellsF L ++ [.string f.p, .string f.t] := by rw [cellsF_append]; rfl
        rw [← e9] at o9
        replace o9 : w9.ownsRow W0.heap.size 26 2 v9 (L ++ [f]).length (cellsF (L ++ [f])) := by
          simp only [List.length_append, List.length_cons, List.length_nil, Nat.zero_add] at o9 ⊢
          exact o9
        have hb9 : Below W0.heap.size W0 w9 := Below.grown (hbr.alloc hbr.size _) gr9 (by have := hbr.size; simp; omega) (fun j hj => (hown.lt _ hj).1)
        obtain ⟨f9a, f9b⟩ := FX.out w9 hb9
        clear gr9 e9
        go_wp2_with fail
        go_ret
        rw [HP.out]
        exact ⟨_, rfl, owns_lower2 o9 kW0.size, kW0.trans (hb9.mono kW0.size)⟩

theorem stepP_mem {f : FileD} {st : List FileD × Bool} {g x : FileD} (h : x ∈ (stepP f st g).1) : x ∈ st.1 ∨ x = f ∨ x = g := by
  obtain ⟨l, d⟩ := st
  simp only [stepP] at h
  split at h <;> split at h
  all_goals simp only [List.mem_append, List.mem_singleton] at h
  · rcases h with (h | h) | h
    · exact .inl h
    · exact .inr (.inl h)
    · exact .inr (.inr h)
  · rcases h with h | h
    · exact .inl h
    · exact .inr (.inr h)
  · rcases h with h | h
    · exact .inl h
    · exact .inr (.inl h)
  · exact .inl h
theorem putSt_mem {f x : FileD} : ∀ (fs : List FileD) (st : List FileD × Bool), x ∈ (fs.foldl (stepP f) st).1 → x ∈ st.1 ∨ x = f ∨ x ∈ fs
  | [], st, h => .inl h
  | g :: fs, st, h => by
    rcases putSt_mem fs (stepP f st g) h with h | h | h
    · rcases stepP_mem h with h | h | h
      · exact .inl h
      · exact .inr (.inl h)
      · exact .inr (.inr (by simp [h]))
    · exact .inr (.inl h)
    · exact .inr (.inr (by simp [h]))
theorem putS_mem {fs : List FileD} {f x : FileD} (h : x ∈ putS fs f) : x = f ∨ x ∈ fs := by
  unfold putS putSt at h
  split at h
  · rcases putSt_mem fs _ h with h | h
    · simp at h
    · exact h
  · rcases List.mem_append.1 h with h | h
    · rcases putSt_mem fs _ h with h | h
      · simp at h
      · exact h
    · exact .inl (by simpa using h)
def putOut (fs : List FileD) (f : FileD) : List FileD := orOld (putS fs f) fs

end Go.Proofs.Ytlnofdlhjeomfaa
