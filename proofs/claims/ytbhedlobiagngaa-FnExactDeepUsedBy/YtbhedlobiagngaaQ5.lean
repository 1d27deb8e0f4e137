/-
  Contracts for the walks, several texts in one: each part says what it proves, and under which conditions.
-/
import Derived.Maps.AppendAt
import Derived.Deep.DeepCutAuto
import Derived.Shelf.LaysM
import Derived.Shelf.Strconv.Clone
import Derived.Shelf.Sort.Plain
import Derived.Shelf.Slices.Turned
import Derived.Shelf.Slices.Reverse
import Derived.Shelf.Slices.CompactS
import Derived.Shelf.Slices.Cells
import Derived.Shelf.Slices.In.SortNone
import Derived.Test.YtbhedlobiagngaaProg
import Derived.Laws.CopyOwn
import Derived.Test.YtbhedlobiagngaaQ4
import Derived.Test.YtbhedlobiagngaaQ2
import Derived.Test.YtbhedlobiagngaaQ1

/-! Numbers in order, as the program makes them: a contract for the walks; conditions: the graph lies in memory, its lists are of at most 2 to the 40. -/
namespace Go.Proofs.Ytbhedlobiagngaa
open Go.RowKit Go.Maps
set_option linter.unusedSimpArgs false
set_option linter.unusedVariables false

/-- The length of a slice. -/
def slLen : Value → Nat
  | .slice _ n _ => n
  | _ => 0
theorem count_take {l : List Nat} {j i : Nat} (h : j < l.length) : (l.take (j + 1)).count i = (l.take j).count i + (if l[j] = i then 1 else 0) := by
  rw [List.take_succ_eq_append_getElem h, List.count_append]
  by_cases e : l[j] = i
  · rw [if_pos e, e]; simp
  · rw [if_neg e, List.count_cons_of_ne e]; simp
/-- While users are gone through: what each waits for now, and from where on something may be next. -/
structure OrdMid (own at_ : Nat) (out : List Nat) (ws : List Int) (L : List Nat) (j : Nat) (wt : List Int) (nx : Nat) : Prop where
  len : wt.length = own
  val : ∀ i, i < own → wt[i]? = ((ws.set at_ (-1))[i]?).map fun z => z - ((L.take j).count i : Int)
  up : nx ≤ at_ + 1
  no : ∀ i, i < nx → i ∉ out ++ [at_] → wt[i]? ≠ some 0
theorem OrdMid.step {own at_ j nx : Nat} {out L : List Nat} {ws wt : List Int} (h : OrdMid own at_ out ws L j wt nx) (hj : j < L.length) (hu : L[j] < own) {z : Int} (hz : wt[L[j]]? = some z) : OrdMid own at_ out ws L (j + 1) (wt.set L[j] (z - 1)) (if z - 1 = 0 then min nx L[j] else nx) := by
  have hlu : L[j] < wt.length := by rw [h.len]; exact hu
  refine ⟨by rw [List.length_set]; exact h.len, fun i hi => ?_, ?_, fun i hi ho => ?_⟩
  · rw [count_take hj]
    by_cases e : L[j] = i
    · have hv := h.val i hi
      subst e
      rw [hz] at hv
      rw [List.getElem?_set_self hlu, if_pos rfl]
      cases hq : (ws.set at_ (-1))[L[j]]? with
      | none => rw [hq] at hv; simp at hv
      | some y =>
        rw [hq] at hv
        simp only [Option.map_some, Option.some.injEq] at hv ⊢
        omega
    · rw [List.getElem?_set_ne e, if_neg e, h.val i hi]; simp
  · have := h.up
    split
    · exact Nat.le_trans (Nat.min_le_left _ _) this
    · exact this
  · by_cases e : L[j] = i
    · subst e
      rw [List.getElem?_set_self hlu]
      intro hz0
      have hz1 : z - 1 = 0 := Option.some.inj hz0
      rw [if_pos hz1] at hi
      have := Nat.min_le_right nx L[j]
      omega
    · rw [List.getElem?_set_ne e]
      refine h.no i ?_ ho
      split at hi
      · exact Nat.lt_of_lt_of_le hi (Nat.min_le_left _ _)
      · exact hi
theorem OrdInv.bound {own : Nat} {U : List (List Nat)} {out : List Nat} {ws : List Int} (h : OrdInv own U out ws) (hR : ∀ i, (rowAt U i).length ≤ 1099511627776) {i : Nat} {z : Int} (hz : ws[i]? = some z) : -1 ≤ z ∧ z ≤ 1099511627776 := by
  have hi : i < own := by rw [← h.len]; exact (List.getElem?_eq_some_iff.1 hz).1
  by_cases ho : i ∈ out
  · have := (h.done i ho).1
    rw [hz] at this
    have := Option.some.inj this
    omega
  · have h1 := h.wait i hi ho
    rw [hz] at h1
    have h2 := Option.some.inj h1
    have h3 : cntI own U out i ≤ (rowAt U i).length := List.length_filter_le _ _
    have h4 := hR i
    omega
theorem OrdMid.bound {own at_ j nx : Nat} {U : List (List Nat)} {out L : List Nat} {ws wt : List Int} (h : OrdMid own at_ out ws L j wt nx) (hi : OrdInv own U out ws) (hR : ∀ i, (rowAt U i).length ≤ 1099511627776) (hL : L.length ≤ 1099511627776) {i : Nat} {z : Int} (hz : wt[i]? = some z) : -1099511627778 ≤ z ∧ z ≤ 1099511627776 := by
  have hio : i < own := by rw [← h.len]; exact (List.getElem?_eq_some_iff.1 hz).1
  have h1 := h.val i hio
  rw [hz] at h1
  have h2 : (L.take j).count i ≤ L.length := Nat.le_trans (List.count_le_length) (by rw [List.length_take]; omega)
  by_cases e : i = at_
  · subst e
    rw [List.getElem?_set_self (by rw [hi.len]; exact hio)] at h1
    simp only [Option.map_some, Option.some.injEq] at h1
    omega
  · rw [List.getElem?_set_ne (fun e' => e e'.symm)] at h1
    cases hq : ws[i]? with
    | none => rw [hq] at h1; simp at h1
    | some y =>
      rw [hq] at h1
      simp only [Option.map_some, Option.some.injEq] at h1
      have := hi.bound hR hq
      omega

set_option maxHeartbeats 8000000 in
set_option maxRecDepth 100000 in
theorem order_c (lo mb own : Nat) (vn vu vb : Value) (us bs : List Value) (g : GD) (w : World) (C : GrC lo w mb vn vu vb us bs g.N g.N g.U g.B noX noX) (hok : g.ok) (ho : own ≤ g.U.length) (hU : g.U.length ≤ 4194304) (hR : ∀ i, (rowAt g.U i).length ≤ 1099511627776 ∧ (rowAt g.B i).length ≤ 1099511627776) (hfrom : ∀ i, ∀ t ∈ rowAt g.U i, i < own) :
    Calls Try.prog 34 #[.agg #[.map (some mb), vn, .int .i64 (own : Int), vu, vb]] w fun e w' => ∃ u out ws, e = .returned u ∧ w'.ownsRow w.heap.size 3 1 u out.length (intsV out) ∧ OrdInv own g.U out ws ∧ (∀ j, j < own → j ∉ out → cntI own g.U out j ≠ 0) ∧ Below w.heap.size w w' := by
  obtain ⟨iI, hiI, hzI0, hzI1, hzI2⟩ := info_parts infoI
  obtain ⟨qn, nn, xn, en⟩ : ∃ q n c, vn = .slice q n c := by obtain ⟨q, c, e⟩ := owns_slG C.names; exact ⟨q, _, c, e⟩
  obtain ⟨qu, nu, xu, eu⟩ : ∃ q n c, vu = .slice q n c := by obtain ⟨q, c, e⟩ := owns_slG C.ru; exact ⟨q, _, c, e⟩
  obtain ⟨qb, xb, eb⟩ := owns_slG C.rb
  subst en eu eb
  have HC : Hid (∀ w1, Below w.heap.size w w1 → GrC lo w1 mb (.slice qn nn xn) (.slice qu nu xu) (.slice qb g.B.length xb) us bs g.N g.N g.U g.B noX noX) := fun w1 h => C.new (r := none) (grown_of_below h none) (fun q e => by cases e)
  have hbl := C.len_b
  have hbo : own ≤ g.B.length := by rw [hok.b, ← hok.u]; exact ho
  have hB4 : g.B.length ≤ 4194304 := by rw [hok.b, ← hok.u]; exact hU
  clear C
  have k1 : Below w.heap.size w (w.alloc (.cells #[.map (some mb), .slice qn nn xn, .int .i64 (own : Int), .slice qu nu xu, .slice qb g.B.length xb] 53)) := (Below.refl _ _).alloc (Nat.le_refl _) _
  have hx0 : (w.alloc (.cells #[.map (some mb), .slice qn nn xn, .int .i64 (own : Int), .slice qu nu xu, .slice qb g.B.length xb] 53)).heap[w.heap.size]? = some (.cells #[.map (some mb), .slice qn nn xn, .int .i64 (own : Int), .slice qu nu xu, .slice qb g.B.length xb] 53 (0, 0)) := vheap_new _ _
  have z0 : (w.alloc (.cells #[.map (some mb), .slice qn nn xn, .int .i64 (own : Int), .slice qu nu xu, .slice qb g.B.length xb] 53)).heap.size = w.heap.size + 1 := by simp
  have HWT := hidden (waits_c lo mb own _ _ _ us bs g.N g.N g.U g.B _ (HC.out _ k1) ho hU (fun i => (hR i).1))
  have x0 := vblk_cell hx0 0
  have x1 := vblk_cell hx0 1
  have x2 := vblk_cell hx0 2
  have x3 := vblk_cell hx0 3
  have x4 := vblk_cell hx0 4
  simp only [List.getElem?_toArray, List.getElem?_cons_succ, List.getElem?_cons_zero] at x0 x1 x2 x3 x4
  rw [z0] at HWT
  go_enter Try.func34, Try.ntmps34
  go_wp2_with (go_at_call 62; refine HWT.out.mono ?_; rintro e w1 ⟨gw, ws, rfl, hown, hinv, b1⟩)
  have hb1 : Below w.heap.size w w1 := k1.trans (b1.mono (by omega))
  have hx1 : w1.heap[w.heap.size]? = some (.cells #[.map (some mb), .slice qn nn xn, .int .i64 (own : Int), .slice qu nu xu, .slice qb g.B.length xb] 53 (0, 0)) := (b1.block _ (by omega)).trans hx0
  have hgw : w.heap.size + 1 ≤ gw := (hown.lt gw rfl).1
  clear k1 hx0 z0 x0 x1 x2 x3 x4 b1 HWT
  go_wp2_with fail
  go_loopw [3, 5] (fun vo vi wr => ∃ (k : Nat) (out : List Nat) (ws : List Int), k ≤ own ∧ vi = .int .i64 (k : Int) ∧ wr.ownsRow (w.heap.size + 1) 3 1 vo out.length (intsV out) ∧ (∀ g, vo.ownBlock = some g → g ≠ gw) ∧ wr.ownsRow (w.heap.size + 1) 3 1 (.slice (some ⟨gw, 0, none⟩) own own) own (zV ws) ∧ Hid (OrdInv own g.U out ws ∧ ∀ j, j < k → j ∉ out → ws[j]? ≠ some 0) ∧ Hid (wr.heap[w.heap.size]? = some (.cells #[.map (some mb), .slice qn nn xn, .int .i64 (own : Int), .slice qu nu xu, .slice qb g.B.length xb] 53 (0, 0))) ∧ Below w.heap.size w wr) (fun vo vi _ => (own - slLen vo) * (own + 2) + (own - (intOf vi).toNat))
  case atStart => exact ⟨0, [], ws, Nat.zero_le _, rfl, World.ownsRow_nil _ _ _ _, fun g h => (by cases h), hown, ⟨hinv, fun j hj => by omega⟩, hx1, hb1⟩
  case round =>
    clear hown hinv hx1 hb1
    obtain ⟨k, out, ws, hk, rfl, ho1, hne, hown, HI, HX, hbr⟩ := hrel
    have x2 : wr.cell? ⟨w.heap.size, 2, none⟩ = some (.int .i64 (own : Int)) := vblk_cell HX.out 2
    obtain ⟨qo, co, hvo⟩ := owns_slG ho1
    subst hvo
    have hfew := HI.out.1.few
    by_cases hlt' : k < own
    · have hki : (k : Int) < (own : Int) := by omega
      have hwl := HI.out.1.len
      obtain ⟨z, hz⟩ : ∃ z, ws[k]? = some z := ⟨_, List.getElem?_eq_getElem (by omega)⟩
      have cz : wr.cell? ⟨gw, k, none⟩ = some (.int .i64 z) := by rw [hown.cellAt k (by omega)]; exact zV_at hz
      have fz := hown.frozenAt k
      by_cases hz0 : z = 0
      · subst hz0
        have hko : k ∉ out := fun hm => by have := (HI.out.1.done k hm).1; rw [hz] at this; simp at this
        have hfew2 : out.length + 1 ≤ own := by
          have h9 := nodup_sub_len (out ++ [k]) (List.range own) (by
            rw [List.nodup_append]
            exact ⟨HI.out.1.nd, by simp, fun a ha b hb e => by simp at hb; subst hb; subst e; exact hko ha⟩) (fun i hi => by
            rcases List.mem_append.1 hi with hi | hi
            · exact List.mem_range.2 (HI.out.1.lt i hi)
            · simp at hi; subst hi; exact List.mem_range.2 hlt')
          simpa using h9
        have hgw2 := (hown.lt gw rfl).2
        go_wp2_with (at_builtin; refine wpList_append_own_at _ rfl _ _ 59 rfl (w.heap.size + 1) 3 iI (.int .i64 0) 1 8 Try.underlying59 hiI hzI0 hzI1 hzI2 rfl (by decide) _ out.length (intsV out) rfl (ho1.alloc _) ⟨wr.heap.size, 0, none⟩ 1 1 [.int .i64 (k : Int)] rfl rfl (cell_one_new _ _ _) (fun u hu => by simp at hu; subst hu; rfl) (by unfold maxLen; omega) (by omega) (by simp; omega) ?_)
        intro v2 w2 o2 gr2 hnil hloc
        have ho2 : w2.ownsRow (w.heap.size + 1) 3 1 v2 (out.length + 1) (intsV (out ++ [k])) := by rw [intsV_app]; exact o2
        obtain ⟨q2, c2, e2⟩ := owns_slG ho2
        subst e2
        have hown2 := (hown.alloc (.cells #[.int .i64 (k : Int)] 3)).kept gr2 (.inr (fun e => hne gw e.symm rfl))
        have hsz2 := gr2.size
        have hwa : (wr.alloc (.cells #[.int .i64 (k : Int)] 3)).heap.size = wr.heap.size + 1 := by simp
        rw [hwa] at hsz2
        have hb2 : Below w.heap.size w w2 := Below.grown (hbr.alloc hbr.size _) gr2 (by have := hbr.size; rw [hwa]; omega) (fun j hj => by have := (ho1.lt j hj).1; omega)
        have hxl := (Array.getElem?_eq_some_iff.1 HX.out).1
        have HX2 : w2.heap[w.heap.size]? = some (.cells #[.map (some mb), .slice qn nn xn, .int .i64 (own : Int), .slice qu nu xu, .slice qb g.B.length xb] 53 (0, 0)) := (gr2.block _ (by rw [hwa]; omega) (fun e => by have := (ho1.lt _ e.symm).1; omega)).trans ((vheap_old _ _ hxl).trans HX.out)
        have hne2 : ∀ g', (Value.slice q2 (out.length + 1) c2).ownBlock = some g' → g' ≠ gw := fun g' hg' e => by
          subst e
          rcases hloc with h9 | h9
          · exact hne g' (h9.symm.trans hg') rfl
          · rw [hg'] at h9; have := Option.some.inj h9; omega
        have cz2 : w2.cell? ⟨gw, k, none⟩ = some (.int .i64 0) := by rw [hown2.cellAt k (by omega)]; exact zV_at hz
        have fz2 := hown2.frozenAt k
        obtain ⟨hst1, hst2⟩ := hown2.stored k (.int .i64 (-1))
        rw [zV_set] at hst1
        have hb3 : Below w.heap.size w (w2.setCell ⟨gw, k, none⟩ (.int .i64 (-1))) := hb2.setCell (by show w.heap.size ≤ gw; omega) _
        have HX3 := hidden ((hst2.block w.heap.size (Array.getElem?_eq_some_iff.1 HX2).1 (fun e => by have := Option.some.inj e; omega)).trans HX2)
        have ho3 := ho2.kept hst2 (.inr (fun e => hne2 gw e rfl))
        have C3 := HC.out _ hb3
        have hkB : k < bs.length := by omega
        have hba : bs[k]? = some bs[k] := List.getElem?_eq_getElem hkB
        have Er := C3.eb k _ (fun h => h) hba
        obtain ⟨u, hu⟩ : ∃ u, u = bs[k] := ⟨_, rfl⟩
        rw [← hu] at hba Er
        obtain ⟨q, c, eu⟩ := owns_slG Er
        subst eu
        obtain ⟨gb, xb', equ⟩ := owns_pos C3.rb (by omega)
        obtain ⟨equ1, equ2⟩ : qb = some ⟨gb, 0, none⟩ ∧ xb = xb' := by injection equ with h1 _ h3; exact ⟨h1, h3⟩
        subst equ1 equ2
        have cu : (w2.setCell ⟨gw, k, none⟩ (.int .i64 (-1))).cell? ⟨gb, k, none⟩ = some (.slice q (rowAt g.B k).length c) := by rw [C3.rb.cellAt k (by omega)]; exact hba
        have x4 : (w2.setCell ⟨gw, k, none⟩ (.int .i64 (-1))).cell? ⟨w.heap.size, 4, none⟩ = some (.slice (some ⟨gb, 0, none⟩) g.B.length xb) := vblk_cell HX3.out 4
        have hkB2 : (k : Int) < (g.B.length : Int) := by omega
        have hrl := (hR k).2
        have hLc : ∀ i, (rowAt g.B k).count i = (rowAt g.U i).count k := fun i => (hok.cnt i k).symm
        have hLo : ∀ u ∈ rowAt g.B k, u < own := fun u hu => hfrom u k (hok.iff.1 hu)
        obtain ⟨L, hL⟩ : ∃ L, L = rowAt g.B k := ⟨_, rfl⟩
        rw [← hL] at cu hrl Er hLc hLo
        have HGU : Hid (∀ w5, Below w.heap.size w w5 → ∀ j (h : j < L.length), ∃ g0, q = some ⟨g0, 0, none⟩ ∧ w5.cell? ⟨g0, j, none⟩ = some (.int .i64 (L[j] : Int))) := fun w5 h5 j h => by
          have E2 := (HC.out w5 h5).eb k _ (fun h => h) hba
          rw [← hL] at E2
          obtain ⟨g0, c0, e0⟩ := owns_pos E2 (by omega)
          injection e0 with e1 _ e3
          subst e1 e3
          exact ⟨g0, rfl, by rw [E2.cellAt j (by omega)]; exact intsV_at h⟩
        have HM0 : Hid (OrdMid own k out ws L 0 (ws.set k (-1)) (k + 1)) := ⟨by rw [List.length_set]; exact hwl, fun i hi => by simp, Nat.le_refl _, fun i hi hio => by
          have hik : i ≠ k := fun e => hio (by simp [e])
          rw [List.getElem?_set_ne (fun e => hik e.symm)]
          exact HI.out.2 i (by omega) (fun e => hio (by simp [e]))⟩
        clear C3 hba hu equ hL ho2 hown2 hst2 hb2 HX2 gr2 hloc hnil o2 hsz2 hwa hown ho1 hne HX hbr cz fz x2
        go_wp2_with fail
        go_loopw [6, 35] (fun vx vi wr => ∃ (j nx : Nat) (wt : List Int), j ≤ L.length ∧ vi = .int .i64 (j : Int) ∧ vx = .int .i64 (nx : Int) ∧ wr.ownsRow (w.heap.size + 1) 3 1 (.slice (some ⟨gw, 0, none⟩) own own) own (zV wt) ∧ wr.ownsRow (w.heap.size + 1) 3 1 (.slice q2 (out.length + 1) c2) (out.length + 1) (intsV (out ++ [k])) ∧ Hid (OrdMid own k out ws L j wt nx) ∧ Hid (wr.heap[w.heap.size]? = some (.cells #[.map (some mb), .slice qn nn xn, .int .i64 (own : Int), .slice qu nu xu, .slice (some ⟨gb, 0, none⟩) g.B.length xb] 53 (0, 0))) ∧ Below w.heap.size w wr) (fun _ vi _ => L.length - (intOf vi).toNat)
        case atStart => exact ⟨0, k + 1, ws.set k (-1), Nat.zero_le _, rfl, by go_num, hst1, ho3, HM0, HX3, hb3⟩
        case round =>
          clear hst1 ho3 HM0 HX3 hb3 cz2 fz2 cu x4
          obtain ⟨j, nx, wt, hj, rfl, rfl, hownj, hoj, HM, HXj, hbj⟩ := hrel
          by_cases hjl : j < L.length
          · obtain ⟨g0, eq0, cj⟩ := HGU.out wr hbj j hjl
            subst eq0
            have huo := hLo L[j] (List.getElem_mem hjl)
            obtain ⟨z, hz9⟩ : ∃ z, wt[L[j]]? = some z := ⟨_, List.getElem?_eq_getElem (by rw [HM.out.len]; exact huo)⟩
            have HS := hidden (HM.out.step hjl huo hz9)
            have hbz := HM.out.bound HI.out.1 (fun i => (hR i).1) hrl hz9
            have hup := HM.out.up
            obtain ⟨t, ht⟩ : ∃ t, t = L[j] := ⟨_, rfl⟩
            rw [← ht] at cj huo hz9 HS
            have cw : wr.cell? ⟨gw, t, none⟩ = some (.int .i64 z) := by rw [hownj.cellAt t (by omega)]; exact zV_at hz9
            have fw := hownj.frozenAt t
            have hst := hownj.stored t (.int .i64 (z - 1))
            have cw2 : (wr.setCell ⟨gw, t, none⟩ (.int .i64 (z - 1))).cell? ⟨gw, t, none⟩ = some (.int .i64 (z - 1)) := by
              rw [hst.1.cellAt t (by omega), zV_set]
              exact zV_at (List.getElem?_set_self (by rw [HM.out.len]; exact huo))
            have HO := hidden (show (wr.setCell ⟨gw, t, none⟩ (.int .i64 (z - 1))).ownsRow (w.heap.size + 1) 3 1 (.slice (some ⟨gw, 0, none⟩) own own) own (zV (wt.set t (z - 1))) by rw [← zV_set]; exact hst.1)
            have HO2 := hidden (hoj.kept hst.2 (.inr (fun e => hne2 gw e rfl)))
            have HX4 := hidden ((hst.2.block w.heap.size (Array.getElem?_eq_some_iff.1 HXj.out).1 (fun e => by have := Option.some.inj e; omega)).trans HXj.out)
            have HB4 : Hid (Below w.heap.size w (wr.setCell ⟨gw, t, none⟩ (.int .i64 (z - 1)))) := hbj.setCell (by show w.heap.size ≤ gw; omega) _
            have hji : (j : Int) < (L.length : Int) := by omega
            have hti : (t : Int) < (own : Int) := by omega
            clear ht hz9 hst HM HXj hoj hownj
            by_cases hz1 : z - 1 = 0
            · rw [if_pos hz1, hz1] at HS
              rw [hz1] at HO HO2 HX4 HB4 cw2
              by_cases hmin : nx ≤ t
              · rw [Nat.min_eq_left hmin] at HS
                have hm1 : (nx : Int) ≤ (t : Int) := by omega
                have hm2 : ¬ (t : Int) < (nx : Int) := by omega
                have hm3 : min (nx : Int) (t : Int) = (nx : Int) := by omega
                go_wp2_with fail
                go_roundw
                case rel => exact ⟨j + 1, nx, wt.set t 0, by omega, by go_num, by go_num, HO.out, HO2.out, HS, HX4, HB4.out⟩
                case measure => simp [intOf]; omega
              · rw [Nat.min_eq_right (by omega)] at HS
                have hm1 : ¬ (nx : Int) ≤ (t : Int) := by omega
                have hm2 : (t : Int) < (nx : Int) := by omega
                have hm3 : min (nx : Int) (t : Int) = (t : Int) := by omega
                go_wp2_with fail
                go_roundw
                case rel => exact ⟨j + 1, t, wt.set t 0, by omega, by go_num, by go_num, HO.out, HO2.out, HS, HX4, HB4.out⟩
                case measure => simp [intOf]; omega
            · have hzb : (z - 1 == 0) = false := by simpa using hz1
              rw [if_neg hz1] at HS
              go_wp2_with fail
              go_roundw
              case rel => exact ⟨j + 1, nx, wt.set t (z - 1), by omega, by go_num, rfl, HO.out, HO2.out, HS, HX4, HB4.out⟩
              case measure => simp [intOf]; omega
          · have he : j = L.length := by omega
            subst he
            have HN : Hid (OrdInv own g.U (out ++ [k]) wt ∧ ∀ i, i < nx → i ∉ out ++ [k] → wt[i]? ≠ some 0) := by
              refine ⟨HI.out.1.next (L := L) hlt' hz HI.out.2 HM.out.len (fun i _ => hLc i) (fun i hi => ?_), HM.out.no⟩
              have := HM.out.val i hi
              rw [List.take_length] at this
              exact this
            have hup := HM.out.up
            obtain ⟨m, hm⟩ : ∃ m, own - out.length = m + 1 := ⟨own - out.length - 1, by omega⟩
            have hm2 : own - (out.length + 1) = m := by omega
            have hoj2 : wr.ownsRow (w.heap.size + 1) 3 1 (.slice q2 (out.length + 1) c2) (out ++ [k]).length (intsV (out ++ [k])) := by rw [List.length_append, List.length_singleton]; exact hoj
            clear HM HI hoj
            go_wp2_with fail
            go_roundw
            case rel => exact ⟨nx, out ++ [k], wt, by omega, rfl, hoj2, hne2, hownj, HN, HXj, hbj⟩
            case measure =>
              simp only [intOf, slLen, hm, hm2, Nat.add_mul, Nat.one_mul]
              omega
      · have hz1 : (z == 0) = false := by simpa using hz0
        have HI2 : Hid (OrdInv own g.U out ws ∧ ∀ j, j < k + 1 → j ∉ out → ws[j]? ≠ some 0) := ⟨HI.out.1, fun j hj hjo => by
          by_cases e : j = k
          · subst e; rw [hz]; simpa using hz0
          · exact HI.out.2 j (by omega) hjo⟩
        clear HI hz
        go_wp2_with fail
        go_roundw
        case rel => exact ⟨k + 1, out, ws, by omega, by go_num, ho1, hne, hown, HI2, HX, hbr⟩
        case measure => simp [intOf, slLen]; omega
    · have he : k = own := by omega
      subst he
      have HE : Hid (OrdInv k g.U out ws ∧ ∀ j, j < k → j ∉ out → cntI k g.U out j ≠ 0) := ⟨HI.out.1, fun j hj hjo hc => by
        have h1 := HI.out.1.wait j hj hjo
        rw [hc] at h1
        exact HI.out.2 j hj hjo h1⟩
      have HO := hidden (owns_lo (lo' := w.heap.size) (by omega) ho1)
      clear HI HC ho1
      go_wp2_with fail
      go_ret
      exact ⟨_, out, ws, rfl, HO.out, HE.out.1, HE.out.2, hbr⟩
end Go.Proofs.Ytbhedlobiagngaa

/-! What is reached, as the program's iterator yields it: a contract for ranges over it; conditions: the lists lie in memory, each number is that of a list. -/
namespace Go.Proofs.Ytbhedlobiagngaa
open Go.RowKit Go.Shelf
set_option linter.unusedSimpArgs false
set_option linter.unusedVariables false

/-- Bools as values. -/
def boolsV (l : List Bool) : List Value := l.map fun b => .bool b
@[simp] theorem length_boolsV (l : List Bool) : (boolsV l).length = l.length := by simp [boolsV]
theorem boolsV_at {l : List Bool} {j : Nat} {b : Bool} (h : l[j]? = some b) : (boolsV l)[j]? = some (.bool b) := by simp [boolsV, h]
theorem boolsV_set (l : List Bool) (j : Nat) (b : Bool) : (boolsV l).set j (.bool b) = boolsV (l.set j b) := by simp [boolsV, List.map_set]
/-- All that the iterator leans on, in memory. -/
structure ItW (n₀ lo : Nat) (w W : World) (bS bN bZ gs s n : Nat) (vB : Value) (sn : List Bool) : Prop where
  bs : W.heap[bS]? = some (.cells #[.int .i64 (s : Int)] 3 (0, 0))
  bn : W.heap[bN]? = some (.cells #[vB] 51 (0, 0))
  bz : W.heap[bZ]? = some (.cells #[.slice (some ⟨gs, 0, none⟩) n n] 56 (0, 0))
  sn : W.ownsRow n₀ 4 1 (.slice (some ⟨gs, 0, none⟩) n n) n (boolsV sn)
  b : Below n₀ w W
  lo : lo ≤ W.heap.size
section
variable {n₀ lo bS bN bZ gs s n : Nat} {w W W' : World} {vB : Value} {sn : List Bool}
theorem ItW.same (h : ItW n₀ lo w W bS bN bZ gs s n vB sn) (hb : Below n₀ W W') (hk : ∀ (r : Nat) (cs : Array Value) (t : TypeId) (fz : Nat × Nat), t ≠ 26 → t ≠ 9 → W.heap[r]? = some (.cells cs t fz) → W'.heap[r]? = some (.cells cs t fz)) : ItW n₀ lo w W' bS bN bZ gs s n vB sn := by
  refine ⟨hk _ _ _ _ (by decide) (by decide) h.bs, hk _ _ _ _ (by decide) (by decide) h.bn, hk _ _ _ _ (by decide) (by decide) h.bz, ?_, h.b.trans hb, Nat.le_trans h.lo hb.size⟩
  obtain ⟨h1, h2⟩ := h.sn
  refine ⟨h1, ?_⟩
  rcases h2 with h2 | ⟨g, cap, cur, e, h3, h4, h5⟩
  · exact .inl h2
  · exact .inr ⟨g, cap, cur, e, h3, hk _ _ _ _ (by decide) (by decide) h4, h5⟩
theorem ItW.round (h : ItW n₀ lo w W bS bN bZ gs s n vB sn) (hk : KpT n₀ W W') : ItW n₀ lo w W' bS bN bZ gs s n vB sn := h.same hk.below hk.same
/-- A step of the iterator's own row. -/
theorem ItW.own {row : Option Nat} (h : ItW n₀ lo w W bS bN bZ gs s n vB sn) (hg : W.grownBy W' row) (hr : ∀ r, row = some r → lo ≤ r) (hn : n₀ ≤ lo) (h1 : bS < lo) (h2 : bN < lo) (h3 : bZ < lo) (h4 : gs < lo) : ItW n₀ lo w W' bS bN bZ gs s n vB sn := by
  have f : ∀ {k : Nat} {o : Obj}, k < lo → W.heap[k]? = some o → W'.heap[k]? = some o := fun {k o} hk ho => (hg.block k (Array.getElem?_eq_some_iff.1 ho).1 (fun e => by have := hr k e.symm; omega)).trans ho
  refine ⟨f h1 h.bs, f h2 h.bn, f h3 h.bz, h.sn.kept hg ?_, h.b.grown hg (by have := h.lo; omega) (fun k e => by have := hr k e; omega), Nat.le_trans h.lo hg.size⟩
  cases hq : row with
  | none => exact .inr (by simp [Value.ownBlock])
  | some r => exact .inr fun e => by have h9 : gs = r := Option.some.inj e; have := hr r hq; omega
/-- One is seen. -/
theorem ItW.see (h : ItW n₀ lo w W bS bN bZ gs s n vB sn) (t : Nat) : ItW n₀ lo w (W.setCell ⟨gs, t, none⟩ (.bool true)) bS bN bZ gs s n vB (sn.set t true) := by
  have hst := h.sn.stored t (.bool true)
  have hgs := h.sn.lt gs rfl
  have f : ∀ {k : Nat} {cs : Array Value} {t' : TypeId}, t' ≠ 4 → W.heap[k]? = some (.cells cs t' (0, 0)) → (W.setCell ⟨gs, t, none⟩ (.bool true)).heap[k]? = some (.cells cs t' (0, 0)) := fun {k cs t'} ht hk => (hst.2.block k (Array.getElem?_eq_some_iff.1 hk).1 (fun e => by
    obtain rfl : k = gs := Option.some.inj e
    obtain ⟨cur, hc⟩ := row_block h.sn (g := k) rfl
    rw [hk] at hc
    simp at hc
    exact ht hc.2)).trans hk
  refine ⟨f (by decide) h.bs, f (by decide) h.bn, f (by decide) h.bz, by rw [← boolsV_set]; exact hst.1, h.b.setCell hgs.1 _, ?_⟩
  have := hst.2.size
  exact Nat.le_trans h.lo this
end
open Classical in
/-- How many are not seen yet. -/
noncomputable def unsW (w : World) (gs n : Nat) : Nat := ((List.range n).map fun i => w.cell? ⟨gs, i, none⟩).countP fun c => decide (c = some (.bool false))
theorem unsW_eq {w : World} {n₀ gs n : Nat} {sn : List Bool} (h : w.ownsRow n₀ 4 1 (.slice (some ⟨gs, 0, none⟩) n n) n (boolsV sn)) : unsW w gs n = sn.count false := by
  have hl : sn.length = n := by have := h.1; simpa using this
  have e : ((List.range n).map fun i => w.cell? ⟨gs, i, none⟩) = sn.map fun b => some (Value.bool b) := by
    refine List.ext_getElem (by simp [hl]) fun i h1 h2 => ?_
    have hi : i < n := by simpa using h1
    simp only [List.getElem_map, List.getElem_range]
    rw [h.cellAt i (by omega)]
    exact boolsV_at (List.getElem?_eq_getElem (by omega))
  unfold unsW
  rw [e, List.countP_map, List.count_eq_countP]
  refine List.countP_congr fun b _ => ?_
  cases b <;> simp
end Go.Proofs.Ytbhedlobiagngaa

/-! What is reached, as the program's iterator yields it: a contract for ranges over it; conditions: the lists lie in memory, each number is that of a list. -/
namespace Go.Proofs.Ytbhedlobiagngaa
open Go.RowKit Go.Shelf
set_option linter.unusedSimpArgs false
set_option linter.unusedVariables false

/-- What the iterator reads of the lists. -/
def RowsAt (W : World) (gB n : Nat) (L : List (List Nat)) (qs : Nat → Option Addr) (cs : Nat → Nat) : Prop := ∀ u, u < n → W.cell? ⟨gB, u, none⟩ = some (.slice (qs u) (rowAt L u).length (cs u)) ∧ ∀ j (h : j < (rowAt L u).length), ∃ g0, qs u = some ⟨g0, 0, none⟩ ∧ W.cell? ⟨g0, j, none⟩ = some (.int .i64 ((rowAt L u)[j] : Int))

theorem bfs_skip {n : Nat} {L : List (List Nat)} {s f j : Nat} {que R : List Nat} {pre : List (Nat × Nat)} (hR : R = rowAt L f) (h : BfsMid n L s f j que pre) (hj : j < R.length) (hs : R[j] ∈ pre.map (·.1)) : BfsMid n L s f (j + 1) que pre := by subst hR; exact h.skip hj hs
theorem bfs_push {n : Nat} {L : List (List Nat)} {s f j : Nat} {que R : List Nat} {pre : List (Nat × Nat)} (hR : R = rowAt L f) (h : BfsMid n L s f j que pre) (hj : j < R.length) (hs : R[j] ∉ pre.map (·.1)) (hn : R[j] < n) : BfsMid n L s f (j + 1) (que ++ [R[j]]) (pre ++ [(R[j], f)]) := by subst hR; exact h.push hj hs hn
theorem bfs_close {n : Nat} {L : List (List Nat)} {s f : Nat} {que R : List Nat} {pre : List (Nat × Nat)} (hR : R = rowAt L f) (h : BfsMid n L s f R.length que pre) : Bfs n L s que pre := by subst hR; exact h.close
theorem seen_set {n t f : Nat} {sn : List Bool} {pre : List (Nat × Nat)} (h : sn.length = n ∧ ∀ t, t < n → sn[t]? = some ((pre.map (·.1)).contains t)) (ht : t < n) : (sn.set t true).length = n ∧ ∀ u, u < n → (sn.set t true)[u]? = some (((pre ++ [(t, f)]).map (·.1)).contains u) := by
  refine ⟨by rw [List.length_set]; exact h.1, fun u hu => ?_⟩
  by_cases e : t = u
  · subst e
    rw [List.getElem?_set_self (by rw [h.1]; exact ht)]
    simp
  · rw [List.getElem?_set_ne e, h.2 u hu]
    congr 1
    rw [Bool.eq_iff_iff]
    simp only [List.contains_iff_mem, List.map_append, List.mem_append, List.map_cons, List.map_nil, List.mem_singleton]
    exact ⟨.inl, fun h => h.elim id fun e' => absurd e'.symm e⟩

set_option maxHeartbeats 16000000 in
set_option maxRecDepth 100000 in
theorem reached_seq (m n₀ bS bN bZ gs s n gB cB : Nat) (L : List (List Nat)) (w : World) (hI : ItW n₀ w.heap.size w w bS bN bZ gs s n (.slice (some ⟨gB, 0, none⟩) n cB) (List.replicate n false)) (hn₀ : n₀ ≤ w.heap.size) (hs : s < n) (hn : n ≤ 4194304) (hL : ∀ u, ∀ t ∈ rowAt L u, t < n) (hRl : ∀ u, (rowAt L u).length ≤ 1099511627776) (qs : Nat → Option Addr) (cs : Nat → Nat) (hR : ∀ W, Below n₀ w W → RowsAt W gB n L qs cs) :
    SeqT m Try.prog 80 #[.pointer (some ⟨bS, 0, none⟩), .pointer (some ⟨bN, 0, none⟩), .pointer (some ⟨bZ, 0, none⟩)] (fun x : Nat × Nat => #[.int .i64 (x.1 : Int), .int .i64 (x.2 : Int)]) n₀ (fun pre x => x.1 < n ∧ pre.length < n) (fun xs => Bfs n L s [] xs) w := by
  intro l J W hbW hJ hY h0
  refine callsIn_wide.2 ?_
  show Calls Try.prog 80 #[.func (.yield l) #[] #[], .pointer (some ⟨bS, 0, none⟩), .pointer (some ⟨bN, 0, none⟩), .pointer (some ⟨bZ, 0, none⟩)] W fun e W' => (∃ v, e = .returned v) ∧ ∃ xs, Bfs n L s [] xs ∧ J xs W'
  have lS : bS < w.heap.size := (Array.getElem?_eq_some_iff.1 hI.bs).1
  have lN : bN < w.heap.size := (Array.getElem?_eq_some_iff.1 hI.bn).1
  have lZ : bZ < w.heap.size := (Array.getElem?_eq_some_iff.1 hI.bz).1
  have lg := (hI.sn.lt gs rfl).2
  have hgs0 : n₀ ≤ gs := (hI.sn.lt gs rfl).1
  have hWs := hbW.size
  have I1 : ItW n₀ W.heap.size w W bS bN bZ gs s n (.slice (some ⟨gB, 0, none⟩) n cB) (List.replicate n false) := by
    have h1 : ItW n₀ w.heap.size w W bS bN bZ gs s n (.slice (some ⟨gB, 0, none⟩) n cB) (List.replicate n false) := hI.same (hbW.mono hn₀) (fun r cs t fz _ _ hr => (hbW.block r (Array.getElem?_eq_some_iff.1 hr).1).trans hr)
    exact ⟨h1.bs, h1.bn, h1.bz, h1.sn, h1.b, Nat.le_refl _⟩
  have x0 : W.cell? ⟨bS, 0, none⟩ = some (.int .i64 (s : Int)) := vblk_cell I1.bs 0
  have HW1 : Hid (∀ V, V = W.alloc (.cells #[.int .i64 (s : Int)] 3) → Que W.heap.size V (.slice (some ⟨W.heap.size, 0, none⟩) 1 1) [s] ∧ ItW n₀ W.heap.size w V bS bN bZ gs s n (.slice (some ⟨gB, 0, none⟩) n cB) (List.replicate n false) ∧ J [] V) := by
    intro V hV
    subst hV
    have hg := World.grownBy_alloc W (.cells #[.int .i64 (s : Int)] 3) none
    refine ⟨Que.of_row (q := [s]) (g := W.heap.size) (World.ownsRow_lit W #[.int .i64 (s : Int)] 1 (Nat.le_refl _) (by unfold maxLen; omega) rfl) rfl, I1.own hg (fun r e => by cases e) (by omega) (by omega) (by omega) (by omega) (by omega), hJ [] _ _ none h0 hg (fun r e => by cases e)⟩
  have HJ := hidden hJ
  have HY := hidden hY
  have HR := hidden hR
  clear hI I1 hJ hY hR h0
  go_enter Try.func80, Try.ntmps80
  go_wp2_with fail
  go_loopw [5] (fun vq wr => ∃ (que : List Nat) (pre : List (Nat × Nat)) (sn : List Bool), Que W.heap.size wr vq que ∧ 2 * sn.count false + que.length ≤ 2 * n + 1 ∧ Hid (Bfs n L s que pre) ∧ Hid (sn.length = n ∧ ∀ t, t < n → sn[t]? = some ((pre.map (·.1)).contains t)) ∧ Hid (ItW n₀ W.heap.size w wr bS bN bZ gs s n (.slice (some ⟨gB, 0, none⟩) n cB) sn) ∧ Hid (J pre wr)) (fun vq wr => 2 * unsW wr gs n + slLen vq)
  case atStart =>
    obtain ⟨h1, h2, h3⟩ := HW1.out _ rfl
    exact ⟨[s], [], List.replicate n false, h1, by simp, Bfs.start n L s, ⟨by simp, fun t ht => by simp [ht]⟩, h2, h3⟩
  case round =>
    clear HW1 x0
    obtain ⟨que, pre, sn, hq, hmN, HB, HS, HI, HP⟩ := hrel
    obtain ⟨g, off, cap, cur, hvq, _⟩ := id hq
    subst hvq
    rcases que with _ | ⟨f, que⟩
    · have HE : Hid (Bfs n L s [] pre ∧ J pre wr) := ⟨HB.out, HP.out⟩
      clear HB HP HY
      go_wp2_with fail
      go_end0
      exact ⟨⟨_, rfl⟩, pre, HE.out.1, HE.out.2⟩
    · obtain ⟨ch, _, hcap⟩ := hq.head
      have HT := hidden hq.tail
      have hfn : f < n := by
        rcases HB.out.q f (by simp) with e | e
        · omega
        · exact HB.out.lt f e
      have hcr := (HR.out wr HI.out.b f hfn).1
      have x1 : wr.cell? ⟨bN, 0, none⟩ = some (.slice (some ⟨gB, 0, none⟩) n cB) := vblk_cell HI.out.bn 0
      have hm0 := unsW_eq HI.out.sn
      have HM0 : Hid (BfsMid n L s f 0 que pre) := HB.out.pop
      have hfI : (f : Int) < (n : Int) := by omega
      have hlp : (0 : Int) < ((que.length + 1 : Nat) : Int) := by omega
      have hrl := hRl f
      have hLf := hL f
      have HRf : Hid (∀ W1, Below n₀ w W1 → ∀ j (h : j < (rowAt L f).length), ∃ g0, qs f = some ⟨g0, 0, none⟩ ∧ W1.cell? ⟨g0, j, none⟩ = some (.int .i64 ((rowAt L f)[j] : Int))) := fun W1 h1 => (HR.out W1 h1 f hfn).2
      obtain ⟨Rf, hRf⟩ : ∃ R, R = rowAt L f := ⟨_, rfl⟩
      rw [← hRf] at hcr hrl hLf HRf
      have HRE := hidden hRf
      clear hRf
      obtain ⟨qf, hqf⟩ : ∃ q, q = qs f := ⟨_, rfl⟩
      obtain ⟨cf, hcf⟩ : ∃ c, c = cs f := ⟨_, rfl⟩
      rw [← hqf] at hcr HRf
      rw [← hcf] at hcr
      obtain ⟨m0, hm0'⟩ : ∃ m0, m0 = 2 * sn.count false + que.length := ⟨_, rfl⟩
      obtain ⟨que0len, hq0l⟩ : ∃ x, x = que.length := ⟨_, rfl⟩
      have HM : Hid (m0 < 2 * unsW wr gs n + (que0len + 1)) := by show _ < _; rw [hm0, hm0', hq0l]; omega
      have hm1 : 2 * sn.count false + que.length ≤ m0 := by omega
      have hm2 : m0 ≤ 2 * n + 1 := by rw [List.length_cons] at hmN; omega
      have HQ0 := hidden hq0l
      clear hq0l
      clear hqf hcf hm0 hm0' HB hq
      go_upto_region 3 with fail
      go_cut [5] (fun v5 wc => wc = wr ∧ Que W.heap.size wr v5 que)
      case first =>
        have HT2 := HT.out
        by_cases hc : cap = 1
        · subst hc
          have hq0 : que = [] := List.eq_nil_of_length_eq_zero (by omega)
          subst hq0
          rw [if_pos rfl] at HT2
          go_wp2_with fail
          go_meet
          case rel => exact ⟨rfl, by simpa using HT2⟩
        · rw [if_neg hc] at HT2
          go_wp2_with fail
          go_meet
          case rel => exact ⟨rfl, HT2⟩
      case rest =>
        obtain ⟨ew, hq2⟩ := hcut
        subst ew
        obtain ⟨g2, off2, cap2, cur2, e2, _⟩ := id hq2
        subst e2
        have HQ2 := hidden hq2
        clear hq2 HT ch
        go_wp2_with fail
        obtain ⟨wo, hwo⟩ : ∃ wo, wo = wc := ⟨_, rfl⟩
        subst hwo
        go_loopw [5, 24] (fun vq vi wr => ∃ (j : Nat) (que : List Nat) (pre : List (Nat × Nat)) (sn : List Bool), j ≤ Rf.length ∧ vi = .int .i64 (j : Int) ∧ Que W.heap.size wr vq que ∧ 2 * sn.count false + que.length ≤ m0 ∧ Hid (BfsMid n L s f j que pre) ∧ Hid (sn.length = n ∧ ∀ t, t < n → sn[t]? = some ((pre.map (·.1)).contains t)) ∧ Hid (ItW n₀ W.heap.size w wr bS bN bZ gs s n (.slice (some ⟨gB, 0, none⟩) n cB) sn) ∧ Hid (J pre wr)) (fun _ vi _ => Rf.length - (intOf vi).toNat)
        case atStart => exact ⟨0, que, pre, sn, Nat.zero_le _, rfl, HQ2.out, hm1, HM0, HS, HI, HP⟩
        case round =>
          clear HQ2 hm1 HM0 HS HI HP x1 hcr hcap
          obtain ⟨j, que, pre, sn, hj, rfl, hq, hmm, HM1, HS, HI, HP⟩ := hrel
          obtain ⟨g3, off3, cap3, cur3, e3, _⟩ := id hq
          subst e3
          have hI3 := HI.out
          by_cases hjl : j < Rf.length
          · obtain ⟨g0, e0, cj⟩ := HRf.out wr hI3.b j hjl
            subst e0
            have htn := hLf Rf[j] (List.getElem_mem hjl)
            have hst0 := HS.out.2 Rf[j] htn
            have HSk : Hid (Rf[j] ∈ pre.map (·.1) → BfsMid n L s f (j + 1) que pre) := fun h => bfs_skip HRE.out HM1.out hjl h
            have HPu0 : Hid (Rf[j] ∉ pre.map (·.1) → BfsMid n L s f (j + 1) (que ++ [Rf[j]]) (pre ++ [(Rf[j], f)])) := fun h => bfs_push HRE.out HM1.out hjl h htn
            obtain ⟨t, ht⟩ : ∃ t, t = Rf[j] := ⟨_, rfl⟩
            rw [← ht] at cj htn hst0 HSk HPu0
            have cz : wr.cell? ⟨bZ, 0, none⟩ = some (.slice (some ⟨gs, 0, none⟩) n n) := vblk_cell hI3.bz 0
            have hji : (j : Int) < (Rf.length : Int) := by omega
            have htI : (t : Int) < (n : Int) := by omega
            obtain ⟨bb, hbb⟩ : ∃ bb, bb = (pre.map (·.1)).contains t := ⟨_, rfl⟩
            rw [← hbb] at hst0
            have ct : wr.cell? ⟨gs, t, none⟩ = some (.bool bb) := by rw [hI3.sn.cellAt t (by omega)]; exact boolsV_at hst0
            cases bb with
            | true =>
              have HSk2 := hidden (HSk.out (by simpa using hbb.symm))
              clear HSk HPu0 hbb ht HM1
              go_wp2_with fail
              go_roundw
              case rel => exact ⟨j + 1, que, pre, sn, by omega, by go_num, hq, hmm, HSk2, HS, HI, HP⟩
              case measure => simp [intOf]; omega
            | false =>
              have hnm : t ∉ pre.map (·.1) := fun h => by
                have h9 : (pre.map (·.1)).contains t = true := by simpa using h
                rw [h9] at hbb
                cases hbb
              have HPu := hidden (HPu0.out hnm)
              have hst := hst0
              have hpl : pre.length < n := by
                have h9 := nodup_sub_len _ (List.range n) HPu.out.nd (fun u hu => List.mem_range.2 (HPu.out.lt u hu))
                simp at h9
                omega
              have hcf := count_false_set sn t hst
              have hql : que.length ≤ 1099511627776 := by have h9 : sn.count false ≤ sn.length := List.count_le_length; omega
              have HS2 : Hid ((sn.set t true).length = n ∧ ∀ u, u < n → (sn.set t true)[u]? = some (((pre ++ [(t, f)]).map (·.1)).contains u)) := seen_set HS.out htn
              obtain ⟨fn, tmps, assign, body, hy, hRd⟩ := HY.out pre (t, f) wr HP.out ⟨htn, hpl⟩
              dsimp only at hy
              clear HSk HPu0 hbb ht HM1 hst0
              go_upto_region 8 with fail
              refine (wpIn_wide (n := m)).1 ?_
              gi_wp2
              refine ⟨fun h => (by cases h), hRd.mono ?_⟩
              rintro e W3 ⟨rfl, J3, hk3⟩
              have I3 := hI3.round hk3
              have Q3 : Que W.heap.size W3 (.slice (some ⟨g3, off3, none⟩) que.length cap3) que := hq.kept (fun g cur hc => hk3.same g cur 3 (0, 0) (by decide) (by decide) hc)
              clear hRd hy hk3 hI3 hq HI HP cj cz ct
              gi_wp2
              go_wp2_with fail
              have I3d : ItW n₀ W.heap.size w W3.drew bS bN bZ gs s n (.slice (some ⟨gB, 0, none⟩) n cB) sn := ⟨I3.bs, I3.bn, I3.bz, I3.sn, I3.b.drew, I3.lo⟩
              refine till_region (fun V => V.cell? ⟨bZ, 0, none⟩ = some (.slice (some ⟨gs, 0, none⟩) n n)) 7 (by kernel_rfl) (vblk_cell I3d.bz 0) (fun hHeld => ?_)
              have Q3d : Que W.heap.size W3.drew (.slice (some ⟨g3, off3, none⟩) que.length cap3) que := Q3
              have J3d : J (pre ++ [(t, f)]) W3.drew := HJ.out _ _ _ none J3 (grown_of_below (Below.refl _ _).drew none) (fun r e => by cases e)
              clear I3 Q3 J3
              generalize W3.drew = V at hHeld I3d Q3d J3d ⊢
              refine till_at (k' := 9) (l' := #[false, false, false, false, false, false, false, false, false]) ?_ (by kernel_rfl) (by kernel_rfl)
              refine tu 0 hHeld (h := ?_)
              refine tv 1 hHeld (h := ?_)
              refine tv 2 hHeld (h := ?_)
              refine tv 3 hHeld (h := ?_)
              refine till_ready (rs := [4]) (by kernel_rfl) (by simp) ?_
              refine AllTill.cons rfl rfl (fun K hK => ?_) AllTill.nil
              go_simp
              have hgA := World.grownBy_alloc V (.cells #[.int .i64 (t : Int)] 3) none
              have I4 := I3d.own hgA (fun r e => by cases e) (by omega) (by omega) (by omega) (by omega) (by omega)
              have Q4 : Que W.heap.size (V.alloc (.cells #[.int .i64 (t : Int)] 3)) (.slice (some ⟨g3, off3, none⟩) que.length cap3) que := Q3d.kept (fun g cur hc => (vheap_old V _ (Array.getElem?_eq_some_iff.1 hc).1).trans hc)
              have J4 := HJ.out _ _ _ none J3d hgA (fun r e => by cases e)
              have c4 : (V.alloc (.cells #[.int .i64 (t : Int)] 3)).cell? ⟨V.heap.size, 0, none⟩ = some (.int .i64 (t : Int)) := vblk_cell (vheap_new V _) 0
              refine hK.out _ _ (fun _ => vblk_cell I4.bz 0) ?_
              clear hK K I3d Q3d J3d hHeld hgA
              generalize V.heap.size = q1 at c4 ⊢
              generalize V.alloc (.cells #[.int .i64 (t : Int)] 3) = V4 at I4 Q4 J4 c4 ⊢
              refine till_ready (rs := [5]) (by kernel_rfl) (by simp) ?_
              refine AllTill.cons rfl rfl (fun K hK => ?_) AllTill.nil
              rw [if_pos (by rfl)]
              refine wp_que _ _ rfl _ que rfl Q4 q1 t rfl c4 (by omega) I4.lo ?_
              intro v5 V5 row5 Q5 gr5 it5 lo5
              have I5 := I4.own gr5 lo5 (by omega) (by omega) (by omega) (by omega) (by omega)
              have J5 := HJ.out _ _ _ row5 J4 gr5 (fun r e => by obtain ⟨h8, h9⟩ := it5 r e; exact ⟨by omega, h9⟩)
              obtain ⟨g5, off5, cap5, cur5, e5, _⟩ := id Q5
              rw [List.length_append, List.length_singleton] at e5
              subst e5
              refine hK.out _ _ (fun _ => vblk_cell I5.bz 0) ?_
              clear hK K I4 Q4 J4 c4 gr5 it5 lo5
              refine till_ready (rs := [6]) (by kernel_rfl) (by simp) ?_
              refine AllTill.cons rfl rfl (fun K hK => ?_) AllTill.nil
              go_simp
              refine hK.out _ _ (fun _ => vblk_cell I5.bz 0) ?_
              clear hK K
              refine till_ready (rs := [7]) (by kernel_rfl) (by simp) ?_
              refine AllTill.cons rfl rfl (fun K hK => ?_) AllTill.nil
              have cs7 : V5.cell? ⟨gs, t, none⟩ = some (.bool false) := by rw [I5.sn.cellAt t (by omega)]; exact boolsV_at hst
              have fz7 := I5.sn.frozenAt t
              go_simp
              have I6 := I5.see t
              have hgS := grown_set V5 gs t (.bool true)
              have hgsb : ∃ cur, V5.heap[gs]? = some (.cells cur 4 (0, 0)) := row_block I5.sn rfl
              have Q6 : Que W.heap.size (V5.setCell ⟨gs, t, none⟩ (.bool true)) (.slice (some ⟨g5, off5, none⟩) (que.length + 1) cap5) (que ++ [t]) := Q5.kept (fun g cur hc => (hgS.block g (Array.getElem?_eq_some_iff.1 hc).1 (fun e => by
                obtain rfl : g = gs := Option.some.inj e
                obtain ⟨cur2, h2⟩ := hgsb
                rw [hc] at h2
                simp at h2)).trans hc)
              have J6 := HJ.out _ _ _ (some gs) J5 hgS (fun r e => by cases e; obtain ⟨cur2, h2⟩ := hgsb; exact ⟨hgs0, cur2, 4, (0, 0), .inr rfl, h2⟩)
              refine hK.out _ _ (fun h => nomatch (show true = false from h)) ?_
              clear hK K cs7 fz7 I5 Q5 J5 hgS hgsb
              generalize V5.setCell ⟨gs, t, none⟩ (.bool true) = V6 at I6 Q6 J6 ⊢
              refine till_ready (rs := [8]) (by kernel_rfl) (by simp) ?_
              refine AllTill.cons rfl rfl (fun K hK => ?_) AllTill.nil
              go_simp
              refine hK.out _ _ (fun h => nomatch (show true = false from h)) ?_
              clear hK K
              have HI6 := hidden I6
              have HJ6 := hidden J6
              clear I6 J6
              refine till_done (by kernel_rfl) ?_ _
              go_wp2_with fail
              go_roundw
              case rel => exact ⟨j + 1, que ++ [t], pre ++ [(t, f)], sn.set t true, by omega, by go_num, Q6, by rw [List.length_append, List.length_singleton]; omega, HPu, HS2, HI6, HJ6⟩
              case measure => simp [intOf]; omega
          · have he : j = Rf.length := by omega
            subst he
            have HB2 : Hid (Bfs n L s que pre) := bfs_close HRE.out HM1.out
            have hun := unsW_eq hI3.sn
            have HMs : Hid (2 * unsW wr gs n + que.length < 2 * unsW wo gs n + (que0len + 1)) := by show _ < _; rw [hun]; have := HM.out; omega
            clear HM1 hI3
            go_wp2_with fail
            go_roundw
            case rel => exact ⟨que, pre, sn, hq, by omega, HB2, HS, HI, HP⟩
            case measure => (have h9 := HMs.out; rw [HQ0.out] at h9; simpa [slLen] using h9)
end Go.Proofs.Ytbhedlobiagngaa

/-! The contracts of the library for sorting a list of texts and for leaving out what is alike side by side, taken over from the library of contracts at the numbers of this program; conditions as each says. -/
namespace Go.Proofs
open Go.Shelf
def Try.lays190_ren : Go.Shelf.Ren := ⟨fun | 190 => 64 | 125 => 84 | 258 => 83 | 128 => 103 | 129 => 104 | 302 => 94 | 303 => 95 | 304 => 96 | 305 => 97 | 306 => 98 | 307 => 99 | 308 => 100 | 309 => 101 | 310 => 102 | 333 => 105 | 329 => 106 | 330 => 107 | 334 => 108 | 335 => 109 | 336 => 110 | 344 => 111 | n => n, fun | 31 => 26 | 9 => 9 | 3 => 3 | 46 => 117 | 0 => 0 | 51 => 139 | 53 => 141 | 4 => 4 | 183 => 132 | 182 => 131 | 131 => 97 | 5 => 5 | 218 => 142 | 222 => 146 | 228 => 149 | 229 => 150 | n => n, fun | n => n⟩
theorem Try.lays190 : Go.Proofs.Lays.n190 Try.prog Try.lays190_ren := {
  mixed := by kernel_rfl
  f125 := Try.func84.trans (congrArg some (by kernel_rfl))
  f128 := Try.func103.trans (congrArg some (by kernel_rfl))
  f129 := Try.func104.trans (congrArg some (by kernel_rfl))
  f190 := Try.func64.trans (congrArg some (by kernel_rfl))
  f258 := Try.func83.trans (congrArg some (by kernel_rfl))
  f302 := Try.func94.trans (congrArg some (by kernel_rfl))
  f303 := Try.func95.trans (congrArg some (by kernel_rfl))
  f304 := Try.func96.trans (congrArg some (by kernel_rfl))
  f305 := Try.func97.trans (congrArg some (by kernel_rfl))
  f306 := Try.func98.trans (congrArg some (by kernel_rfl))
  f307 := Try.func99.trans (congrArg some (by kernel_rfl))
  f308 := Try.func100.trans (congrArg some (by kernel_rfl))
  f309 := Try.func101.trans (congrArg some (by kernel_rfl))
  f310 := Try.func102.trans (congrArg some (by kernel_rfl))
  f329 := Try.func106.trans (congrArg some (by kernel_rfl))
  f330 := Try.func107.trans (congrArg some (by kernel_rfl))
  f333 := Try.func105.trans (congrArg some (by kernel_rfl))
  f334 := Try.func108.trans (congrArg some (by kernel_rfl))
  f335 := Try.func109.trans (congrArg some (by kernel_rfl))
  f336 := Try.func110.trans (congrArg some (by kernel_rfl))
  f344 := Try.func111.trans (congrArg some (by kernel_rfl))
  t0 := Try.underlying0
  a0 := Try.isAgg0
  z0 := Try.sizeOf0
  v0 := Try.zeroValue0
  t3 := Try.underlying3
  a3 := Try.isAgg3
  z3 := Try.sizeOf3
  v3 := Try.zeroValue3
  t4 := Try.underlying4
  a4 := Try.isAgg4
  z4 := Try.sizeOf4
  v4 := Try.zeroValue4
  t5 := Try.underlying5
  a5 := Try.isAgg5
  z5 := Try.sizeOf5
  v5 := Try.zeroValue5
  t9 := Try.underlying9
  a9 := Try.isAgg9
  z9 := Try.sizeOf9
  v9 := Try.zeroValue9
  t31 := Try.underlying26
  a31 := Try.isAgg26
  z31 := Try.sizeOf26
  v31 := Try.zeroValue26
  t46 := Try.underlying117
  a46 := Try.isAgg117
  z46 := Try.sizeOf117
  v46 := Try.zeroValue117
  t51 := Try.underlying139
  a51 := Try.isAgg139
  z51 := Try.sizeOf139
  v51 := Try.zeroValue139
  t53 := Try.underlying141
  a53 := Try.isAgg141
  z53 := Try.sizeOf141
  v53 := Try.zeroValue141
  t131 := Try.underlying97
  a131 := Try.isAgg97
  z131 := Try.sizeOf97
  v131 := Try.zeroValue97
  t182 := Try.underlying131
  a182 := Try.isAgg131
  z182 := Try.sizeOf131
  v182 := Try.zeroValue131
  t183 := Try.underlying132
  a183 := Try.isAgg132
  z183 := Try.sizeOf132
  v183 := Try.zeroValue132
  t218 := Try.underlying142
  a218 := Try.isAgg142
  z218 := Try.sizeOf142
  v218 := Try.zeroValue142
  t222 := Try.underlying146
  a222 := Try.isAgg146
  z222 := Try.sizeOf146
  v222 := Try.zeroValue146
  t228 := Try.underlying149
  a228 := Try.isAgg149
  z228 := Try.sizeOf149
  v228 := Try.zeroValue149
  t229 := Try.underlying150
  a229 := Try.isAgg150
  z229 := Try.sizeOf150
  v229 := Try.zeroValue150 }
open Go.Sort Go.RowKit in
theorem Try.slices_Sort_string (blk off cap : Nat) (ss : List (List UInt8)) (w : World) (hH : Holds encStr w blk off ss.toArray) (hblk : blk < w.heap.size) (hsz : ss.length < 4611686018427387904) :
    Calls Try.prog 64 #[.slice (some ⟨blk, off, none⟩) ss.length cap] w fun e w' =>
      e = .returned (.tuple #[]) ∧ ∃ n os, w' = grow (putRow encStr (Sort.ahead w n) blk off (ss.mergeSort fun x y => decide (x ≤ y)).toArray) os := Any.slices_Sort_string Try.lays190 blk off cap ss w hH hblk hsz
def Try.lays194_ren : Go.Shelf.Ren := ⟨fun | 194 => 65 | n => n, fun | 31 => 26 | 9 => 9 | 3 => 3 | 4 => 4 | 0 => 0 | n => n, fun | n => n⟩
theorem Try.lays194 : Go.Proofs.Lays.n194 Try.prog Try.lays194_ren := {
  mixed := by kernel_rfl
  f194 := Try.func65.trans (congrArg some (by kernel_rfl))
  t0 := Try.underlying0
  a0 := Try.isAgg0
  z0 := Try.sizeOf0
  v0 := Try.zeroValue0
  t3 := Try.underlying3
  a3 := Try.isAgg3
  z3 := Try.sizeOf3
  v3 := Try.zeroValue3
  t4 := Try.underlying4
  a4 := Try.isAgg4
  z4 := Try.sizeOf4
  v4 := Try.zeroValue4
  t9 := Try.underlying9
  a9 := Try.isAgg9
  z9 := Try.sizeOf9
  v9 := Try.zeroValue9
  t31 := Try.underlying26
  a31 := Try.isAgg26
  z31 := Try.sizeOf26
  v31 := Try.zeroValue26 }
open Go.RowKit Go.Lib Go.Sort in
theorem Try.slices_Compact_string_arr (blk off cap : Nat) (d : Array (List UInt8)) (w : World) (hH : Holds encStr w blk off d) (hsz : d.size ≤ 9223372036854775807) (hcap : d.size ≤ cap) :
    Calls Try.prog 65 #[.slice (some ⟨blk, off, none⟩) d.size cap] w fun e w' => e = .returned (.slice (some ⟨blk, off, none⟩) (compactUpTo d d.size).length cap) ∧ ∃ q, w' = putRow encStr (Sort.ahead w q) blk off (compactUpTo d d.size ++ List.replicate (d.size - (compactUpTo d d.size).length) []).toArray := Any.slices_Compact_string_arr Try.lays194 blk off cap d w hH hsz hcap
open Go.RowKit Go.Lib Go.Sort in
theorem Try.slices_Compact_string (blk off cap : Nat) (zs : List (List UInt8)) (w : World) (hH : Holds encStr w blk off zs.toArray) (hsz : zs.length ≤ 9223372036854775807) (hcap : zs.length ≤ cap) :
    Calls Try.prog 65 #[.slice (some ⟨blk, off, none⟩) zs.length cap] w fun e w' => e = .returned (.slice (some ⟨blk, off, none⟩) (Lib.compact zs).length cap) ∧ ∃ q, w' = putRow encStr (Sort.ahead w q) blk off (Lib.compact zs ++ List.replicate (zs.length - (Lib.compact zs).length) []).toArray := Any.slices_Compact_string Try.lays194 blk off cap zs w hH hsz hcap
open Go.RowKit Go.Lib Go.Sort in
theorem Try.slices_Compact_string_empty (a : Option Addr) (cap : Nat) (w : World) :
    Calls Try.prog 65 #[.slice a 0 cap] w fun e w' => e = .returned (.slice a 0 cap) ∧ w' = w := Any.slices_Compact_string_empty Try.lays194 a cap w
open Go.RowKit Go.Lib Go.Sort in
theorem Try.slices_Compact_string_cells (b off n c : Nat) (Sx : Nat → ByteArray) (w : World) (hbig : n ≤ 9223372036854775807) (hcap : n ≤ c) (hc : ∀ i, i < n → w.cell? ⟨b, off + i, none⟩ = some (.string (Sx i))) (hf : ∀ j, j < n → w.frozen? ⟨b, off + j, none⟩ = false) :
    Calls Try.prog 65 #[.slice (some ⟨b, off, none⟩) n c] w fun e w' => e = .returned (.slice (some ⟨b, off, none⟩) (Lib.compact (Lib.strsOf Sx n)).length c) ∧ ∃ q, w' = (w.drewN q).setCells b off ((Lib.compact (Lib.strsOf Sx n) ++ List.replicate (n - (Lib.compact (Lib.strsOf Sx n)).length) []).map encStr) := Any.slices_Compact_string_cells Try.lays194 b off n c Sx w hbig hcap hc hf
open Go.RowKit Go.Sort in
theorem Try.slices_Sort_string_none (p : Option Addr) (cap : Nat) (w : World) :
    Calls Try.prog 64 #[.slice p 0 cap] w fun e w' => e = .returned (.tuple #[]) ∧ w' = w := Any.slices_Sort_string_none Try.lays190 p cap w
end Go.Proofs

/-! What the program's Sorted answers: a list that rises and has the members of the list handed in, in memory of its own; conditions: the list lies in memory as told and has at most 2 to the 20 texts, each of at most 2 to the 20 bytes. -/
namespace Go.Proofs.Ytbhedlobiagngaa
open Go.RowKit Go.Sort
set_option linter.unusedSimpArgs false
set_option linter.unusedVariables false

/-! ### What is left of a list in order when what is alike side by side is left out -/
theorem compact_sub (zs : List (List UInt8)) : ∀ m, m ≤ zs.length → ∀ x, x ∈ Lib.compactUpTo zs.toArray m ↔ x ∈ zs.take m
  | 0, _, x => by simp [Lib.compactUpTo]
  | m + 1, h, x => by
    have ih := compact_sub zs m (by omega)
    have hb : zs.toArray[m]! = zs[m] := by simp [show m < zs.length by omega]
    rw [Lib.compactUpTo_succ, List.mem_append, ih x, List.take_succ_eq_append_getElem (by omega), List.mem_append, List.mem_singleton]
    cases hk : Lib.keeps zs.toArray m with
    | true => rw [if_pos rfl, List.mem_singleton, hb]
    | false =>
      rw [if_neg (by simp)]
      constructor
      · rintro (h1 | h1)
        · exact .inl h1
        · simp at h1
      · rintro (h1 | h1)
        · exact .inl h1
        · refine .inl ?_
          have hm : ¬ m = 0 ∧ zs.toArray[m]! = zs.toArray[m - 1]! := by
            simp only [Lib.keeps, decide_eq_false_iff_not] at hk
            exact ⟨fun e => hk (.inl e), Classical.byContradiction fun e => hk (.inr e)⟩
          have hb1 : zs.toArray[m - 1]! = zs[m - 1] := by simp [show m - 1 < zs.length by omega]
          rw [h1, ← hb, hm.2, hb1]
          rw [List.mem_take_iff_getElem]
          exact ⟨m - 1, by omega, rfl⟩

theorem compact_mem (zs : List (List UInt8)) (x : List UInt8) : x ∈ Lib.compact zs ↔ x ∈ zs := by
  rw [Lib.compact, compact_sub zs zs.length (Nat.le_refl _), List.take_length]

theorem compact_rises (zs : List (List UInt8)) (h : zs.Pairwise (· ≤ ·)) : Rises (Lib.compact zs) := by
  unfold Rises Lib.compact Lib.compactUpTo
  rw [List.pairwise_map]
  refine List.Pairwise.imp_of_mem ?_ ((List.pairwise_lt_range (n := zs.length)).filter _)
  intro i j hi hj hij
  have hil := List.mem_range.1 (List.mem_filter.1 hi).1
  have hjl := List.mem_range.1 (List.mem_filter.1 hj).1
  have hk := (List.mem_filter.1 hj).2
  have e1 : zs.toArray[i]! = zs[i] := by simp [hil]
  have e2 : zs.toArray[j]! = zs[j] := by simp [hjl]
  have e3 : zs.toArray[j - 1]! = zs[j - 1] := by simp [show j - 1 < zs.length by omega]
  rw [e1, e2]
  simp only [Lib.keeps, decide_eq_true_eq] at hk
  have hne : zs[j] ≠ zs[j - 1] := by
    rcases hk with h0 | h0
    · omega
    · rw [e2, e3] at h0; exact h0
  have hp := List.pairwise_iff_getElem.1 h
  have h2 := hp (j - 1) j (by omega) hjl (by omega)
  have hlt : zs[j - 1] < zs[j] := by
    by_cases k : zs[j - 1] < zs[j]
    · exact k
    · exact absurd (List.le_antisymm (by simpa using k) h2) hne
  by_cases e : i = j - 1
  · subst e; exact hlt
  · have h1 := hp i (j - 1) hil (by omega) (by omega)
    by_cases k : zs[i] < zs[j - 1]
    · exact ltL_trans k hlt
    · have : zs[i] = zs[j - 1] := List.le_antisymm h1 (by simpa using k)
      rw [this]; exact hlt

def sortL (L : List (List UInt8)) : List (List UInt8) := L.mergeSort fun x y => decide (x ≤ y)
theorem sortL_le (L : List (List UInt8)) : (sortL L).Pairwise (· ≤ ·) := by
  have := List.pairwise_mergeSort (le := fun x y : List UInt8 => decide (x ≤ y)) (fun a b c h1 h2 => by simp at h1 h2 ⊢; exact List.le_trans h1 h2) (fun a b => by simp; exact List.le_total a b) L
  exact this.imp (fun h => by simpa using h)
theorem sortL_mem (L : List (List UInt8)) (x : List UInt8) : x ∈ sortL L ↔ x ∈ L := List.mem_mergeSort
theorem sortL_len (L : List (List UInt8)) : (sortL L).length = L.length := List.length_mergeSort L

def strOf' (l : List UInt8) : ByteArray := ⟨l.toArray⟩
theorem bytesL_strOf (l : List UInt8) : bytesL (strOf' l) = l := by simp [bytesL, strOf']
theorem strOf_bytesL (s : ByteArray) : strOf' (bytesL s) = s := by simp [bytesL, strOf']
theorem enc_bytes (ss : List ByteArray) : (ss.map bytesL).map encStr = strsV ss := by
  simp [strsV, encStr, bytesL]
theorem enc_strs (C : List (List UInt8)) : C.map encStr = strsV (C.map strOf') := by
  simp [strsV, encStr, strOf']

/-- What the program's Sorted answers. -/
def sortedS (ss : List ByteArray) : List ByteArray := (Lib.compact (sortL (ss.map bytesL))).map strOf'
theorem sortedS_rises (ss : List ByteArray) : risesS (sortedS ss) := by
  unfold risesS sortedS
  rw [List.map_map]
  have : (bytesL ∘ strOf') = id := by funext l; exact bytesL_strOf l
  rw [this, List.map_id]
  exact compact_rises _ (sortL_le _)
theorem sortedS_mem (ss : List ByteArray) (x : ByteArray) : x ∈ sortedS ss ↔ x ∈ ss := by
  unfold sortedS
  rw [List.mem_map]
  constructor
  · rintro ⟨l, hl, rfl⟩
    rw [compact_mem, sortL_mem, List.mem_map] at hl
    obtain ⟨s, hs, rfl⟩ := hl
    rw [strOf_bytesL]; exact hs
  · intro h
    exact ⟨bytesL x, by rw [compact_mem, sortL_mem]; exact List.mem_map.2 ⟨x, h, rfl⟩, strOf_bytesL x⟩
theorem compact_len (zs : List (List UInt8)) : (Lib.compact zs).length ≤ zs.length := by
  unfold Lib.compact Lib.compactUpTo
  rw [List.length_map]
  exact Nat.le_trans (List.length_filter_le _ _) (by simp)

theorem own_cut {w : World} {base : Nat} {e : TypeId} {g n m cap : Nat} {xs : List Value} (h : w.ownsRow base e 1 (.slice (some ⟨g, 0, none⟩) n cap) n xs) (hm : m ≤ n) : w.ownsRow base e 1 (.slice (some ⟨g, 0, none⟩) m cap) m (xs.take m) := by
  have hl : xs.length = n := by simpa using h.1
  refine ⟨by simp; omega, ?_⟩
  rcases h.2 with ⟨h', _⟩ | ⟨g', cap', cur, h', hb, hg, hn, hc, hs, ht⟩
  · simp at h'
  · simp only [Value.slice.injEq, Option.some.injEq, Addr.mk.injEq, and_true, true_and] at h'
    obtain ⟨rfl, rfl⟩ := h'
    refine .inr ⟨g, cap, cur, rfl, hb, hg, by omega, hc, hs, ?_⟩
    rw [← ht, List.take_take, Nat.mul_one, Nat.mul_one, Nat.min_eq_left hm]

theorem cloneB_c (s : ByteArray) (w : World) (h : s.size ≤ 1048576) : Calls Try.prog 60 #[.string s] w fun e w' => e = .returned (.string s) ∧ Below w.heap.size w w' := by
  go_enter Try.func60, Try.ntmps60
  go_wp2_with (go_at_call 81; refine (Try.stringslite_Clone s _ (by omega)).mono ?_; rintro e w1 ⟨rfl, b1⟩)
  go_ret
  exact ⟨rfl, b1⟩

theorem size9 : (Try.prog.info? 9).map (·.size) = some 1 := by kernel_rfl
theorem strs_oneCell (ss : List ByteArray) : ∀ u ∈ strsV ss, u.oneCell' = true := fun u hu => by
  obtain ⟨s, _, rfl⟩ := List.mem_map.1 hu
  rfl

/-- The sort at a row of the call's own. -/
theorem sort_c (base g cap : Nat) (ss : List ByteArray) (w : World) (ho : w.ownsRow base 9 1 (.slice (some ⟨g, 0, none⟩) ss.length cap) ss.length (strsV ss)) (hn : ss.length ≤ 1048576) :
    Calls Try.prog 64 #[.slice (some ⟨g, 0, none⟩) ss.length cap] w fun e w' => e = .returned (.tuple #[]) ∧ w'.ownsRow base 9 1 (.slice (some ⟨g, 0, none⟩) ss.length cap) ss.length ((sortL (ss.map bytesL)).map encStr) ∧ w.grownBy w' (some g) := by
  rcases ho.2 with ⟨h', _⟩ | ⟨g', cap', cur, h', hb, hg, hn1, hc, hs, ht⟩
  · simp at h'
  · simp only [Value.slice.injEq, Option.some.injEq, Addr.mk.injEq, and_true, true_and] at h'
    obtain ⟨rfl, rfl⟩ := h'
    have hH : Holds encStr w g 0 (ss.map bytesL).toArray := holds_of_block hg (by rw [List.length_map, enc_bytes]; simpa using ht)
    have hc1 := Try.slices_Sort_string g 0 cap (ss.map bytesL) w hH (Array.getElem?_eq_some_iff.1 hg).1 (by rw [List.length_map]; omega)
    rw [List.length_map] at hc1
    refine hc1.mono fun e w' ⟨h1, n, os, h2⟩ => ?_
    subst h2
    refine ⟨h1, ?_, grownBy_sorted _⟩
    have := ownsRow_sorted (n := n) (os := os) (ss := ss.map bytesL) (ts := sortL (ss.map bytesL)) (sortL_len _) hb hg (by rw [List.length_map]; exact hn1) hc hs
    rw [List.length_map] at this
    exact this

/-- Leaving out what is alike side by side, at a row of the call's own. -/
theorem compact_c (base g cap : Nat) (L : List (List UInt8)) (w : World) (ho : w.ownsRow base 9 1 (.slice (some ⟨g, 0, none⟩) L.length cap) L.length (L.map encStr)) (hn : L.length ≤ 1048576) :
    Calls Try.prog 65 #[.slice (some ⟨g, 0, none⟩) L.length cap] w fun e w' => e = .returned (.slice (some ⟨g, 0, none⟩) (Lib.compact L).length cap) ∧ w'.ownsRow base 9 1 (.slice (some ⟨g, 0, none⟩) (Lib.compact L).length cap) (Lib.compact L).length ((Lib.compact L).map encStr) ∧ w.grownBy w' (some g) := by
  rcases ho.2 with ⟨h', _⟩ | ⟨g', cap', cur, h', hb, hg, hn1, hc, hs, ht⟩
  · simp at h'
  · simp only [Value.slice.injEq, Option.some.injEq, Addr.mk.injEq, and_true, true_and] at h'
    obtain ⟨rfl, rfl⟩ := h'
    have hH : Holds encStr w g 0 L.toArray := holds_of_block hg (by simpa using ht)
    have hc1 := Try.slices_Compact_string g 0 cap L w hH (by omega) hn1
    refine hc1.mono fun e w' ⟨h1, q, h2⟩ => ?_
    have hcl := compact_len L
    have hl2 : (Lib.compact L ++ List.replicate (L.length - (Lib.compact L).length) []).length = L.length := by simp; omega
    have h3 : w' = grow (putRow encStr (Sort.ahead w q) g 0 (Lib.compact L ++ List.replicate (L.length - (Lib.compact L).length) []).toArray) #[] := by rw [grow_empty]; exact h2
    subst h3
    refine ⟨h1, ?_, grownBy_sorted _⟩
    have := own_cut (ownsRow_sorted (n := q) (os := #[]) (ss := L) (ts := Lib.compact L ++ List.replicate (L.length - (Lib.compact L).length) []) hl2 hb hg hn1 hc hs) hcl
    rw [List.map_append, List.take_append_of_le_length (by simp), List.take_of_length_le (by simp)] at this
    exact this

set_option maxHeartbeats 4000000 in
set_option maxRecDepth 100000 in
theorem implSorted_c (v : Value) (ss : List ByteArray) (w : World) (hv : Reads w v (strsV ss)) (hn : ss.length ≤ 1048576) (hs : ∀ s ∈ ss, s.size ≤ 1048576) :
    Calls Try.prog 36 #[v] w fun e w' => ∃ u, e = .returned u ∧ w'.ownsRow w.heap.size 9 1 u (sortedS ss).length (strsV (sortedS ss)) ∧ Below w.heap.size w w' := by
  obtain ⟨a, cap, hvv, _, hc⟩ := hv
  rw [length_strsV] at hvv
  subst hvv
  obtain ⟨i0, hi, hz0, hz1, hz2⟩ := info_parts infoS
  have hpos : ∀ w1, Below w.heap.size w w1 → 0 < (strsV ss).length → ∃ ad, a = some ad ∧ ∀ j v, (strsV ss)[j]? = some v → w1.cell? (ad.add j) = some v := fun w1 hb1 h0 => by
    rcases hc with h | ⟨b, off, ha, hlt, hc⟩
    · rw [h] at h0; simp at h0
    · refine ⟨_, ha, fun j v hj => ?_⟩
      rw [show ((⟨b, off, none⟩ : Addr).add j) = ⟨b, off + j, none⟩ by unfold Addr.add; split <;> simp_all, hb1.cell (p := ⟨b, off + j, none⟩) hlt]
      obtain ⟨hjl, e⟩ := List.getElem?_eq_some_iff.1 hj
      rw [hc j hjl, e]
  have HP : Hid (∀ w1, Below w.heap.size w w1 → 0 < (strsV ss).length → ∃ ad, a = some ad ∧ ∀ j v, (strsV ss)[j]? = some v → w1.cell? (ad.add j) = some v) := hpos
  clear hc hpos
  have hss : ∀ x ∈ sortedS ss, x.size ≤ 1048576 := fun x hx => hs x ((sortedS_mem ss x).1 hx)
  have hcl := compact_len (sortL (ss.map bytesL))
  have hsl : (sortL (ss.map bytesL)).length = ss.length := by rw [sortL_len, List.length_map]
  have hyl2 : (sortedS ss).length = (Lib.compact (sortL (ss.map bytesL))).length := by simp [sortedS]
  have hst : (Lib.compact (sortL (ss.map bytesL))).map encStr = strsV (sortedS ss) := enc_strs _
  have hsort := fun w2 h => sort_c w.heap.size w.heap.size ss.length ss w2 h hn
  have hcomp := fun w3 h => compact_c w.heap.size w.heap.size ss.length (sortL (ss.map bytesL)) w3 h (by omega)
  rw [hsl] at hcomp hcl
  rw [hst, ← hyl2] at hcomp
  rw [← hyl2] at hcl
  obtain ⟨rs, hrs⟩ : ∃ rs, rs = sortedS ss := ⟨_, rfl⟩
  rw [← hrs] at hcomp hcl hss ⊢
  clear hst hyl2 hsl hrs hs
  go_enter Try.func36, Try.ntmps36
  go_wp2_with (first
    | (at_make; refine wpList_make_full _ rfl _ _ 26 rfl w.heap.size 9 i0 (.string ⟨#[]⟩) 1 Try.underlying26 hi hz0 hz1 _ _ _ _ ss.length rfl rfl rfl rfl (by rw [hz2]; omega) (by unfold maxLen; omega) (Nat.le_refl _) ?_))
  intro w1 o1 gr1
  have hb1 := below_of_grown gr1
  have hh1 : ∃ ys : List Value, ys.length = ss.length ∧ w1.heap[w.heap.size]? = some (.cells ys.toArray 9 (0, 0)) := by
    have hl : (madeCells #[Value.string ⟨#[]⟩] ss.length).toList.length = ss.length := by simp [size_madeCells]
    rcases o1.2 with ⟨h', _⟩ | ⟨g', cap', cur, h', hb, hg, hn1, hcc, hss, ht⟩
    · simp at h'
    · simp only [Value.slice.injEq, Option.some.injEq, Addr.mk.injEq, and_true, true_and] at h'
      obtain ⟨h1, h2⟩ := h'
      rw [← h1] at hg
      exact ⟨cur.toList, by rw [Array.length_toList, hss, ← h2]; omega, by simpa using hg⟩
  obtain ⟨ys, hyl, hhy⟩ := hh1
  clear o1 gr1
  go_wp2_with (first
    | (refine wpList_copy_splice rfl _ _ 26 26 rfl 9 Try.underlying26 size9 _ _ _ _ _ _ rfl rfl w.heap.size 0 ys 9 hhy (strsV ss) (by simp) (fun h0 => ⟨rfl, HP.out w1 hb1 h0⟩) (by simp [hyl]) (strs_oneCell ss) w.heap.size w hb1 (Nat.le_refl _) ?_))
  intro w2 hh2 hb2
  have o2 : w2.ownsRow w.heap.size 9 1 (.slice (some ⟨w.heap.size, 0, none⟩) ss.length ss.length) ss.length (strsV ss) := by
    have := hh2.out
    rw [show splice ys 0 (strsV ss) = strsV ss by simp [splice, hyl]] at this
    exact ⟨by simp, .inr ⟨_, _, _, rfl, Nat.le_refl _, this, Nat.le_refl _, by unfold maxLen; omega, by simp, by simp [← length_strsV]⟩⟩
  clear hh2 hhy hyl hb1 HP
  go_wp2_with (first
    | (go_at_call 64; refine (hsort _ o2).mono ?_; rintro e w3 ⟨rfl, o3, g3⟩
       have c3 : Below w.heap.size w w3 := Below.grown hb2 g3 hb2.size (fun j hj => by simp at hj; omega)
       clear hsort)
    | (go_at_call 65; refine (hcomp _ o3).mono ?_; rintro e w4 ⟨rfl, o4, g4⟩
       have c4 : Below w.heap.size w w4 := Below.grown c3 g4 c3.size (fun j hj => by simp at hj; omega)
       clear hcomp o3))
  go_loopw [18] (fun vi wr => ∃ k : Nat, k ≤ rs.length ∧ vi = .int .i64 (k : Int) ∧ wr.ownsRow w.heap.size 9 1 (.slice (some ⟨w.heap.size, 0, none⟩) rs.length ss.length) rs.length (strsV rs) ∧ Below w.heap.size w wr) (fun vi _ => rs.length - (intOf vi).toNat)
  case atStart => exact ⟨0, Nat.zero_le _, rfl, o4, c4⟩
  case round =>
    obtain ⟨k, hk, rfl, hown, hbr⟩ := hrel
    clear o4 c4 g3 g4 c3 hb2 o2
    by_cases hlt' : k < rs.length
    · have hcx : wr.cell? ⟨w.heap.size, k, none⟩ = some (.string rs[k]) := by
        rw [hown.cellAt k (by omega), strsV_at rs k hlt']
      have hki : (k : Int) < (rs.length : Int) := by omega
      have htz := hss rs[k] (List.getElem_mem hlt')
      have hset : (strsV rs).set k (.string rs[k]) = strsV rs := by
        apply List.ext_getElem?
        intro i
        rw [List.getElem?_set]
        by_cases e : k = i
        · subst e; rw [if_pos rfl, if_pos (by simpa using hlt'), strsV_at rs k hlt']
        · rw [if_neg e]
      obtain ⟨t, ht⟩ : ∃ t, t = rs[k] := ⟨_, rfl⟩
      rw [← ht] at hcx htz hset
      have HS : Hid ((strsV rs).set k (.string t) = strsV rs) := hset
      clear ht hset hss
      go_wp2_with (
        go_at_call 60
        refine (cloneB_c t _ htz).mono ?_
        rintro e w5 ⟨rfl, b5⟩
        have hown5 := owns_of_below hown b5
        have hcx5 : w5.cell? ⟨w.heap.size, k, none⟩ = some (.string t) := (b5.cell (p := ⟨w.heap.size, k, none⟩) (hown.lt w.heap.size rfl).2).trans hcx
        have hfr := hown5.frozenAt k
        have hbr5 := hbr.trans (b5.mono hbr.size)
        clear hown hcx hbr)
      go_roundw
      case rel => exact ⟨k + 1, by omega, by go_num, (by have := (hown5.stored k (.string t)).1; rw [HS.out] at this; exact this), hbr5.setCell (p := ⟨w.heap.size, k, none⟩) (Nat.le_refl _) _⟩
      case measure => simp [intOf]; omega
    · have he : k = rs.length := by omega
      subst he
      go_wp2
      go_ret
      exact ⟨_, rfl, hown, hbr⟩
end Go.Proofs.Ytbhedlobiagngaa

/-! None seen, what makes the iterator, and one round of the program's loop over what is reached: contracts for the walks; conditions: the graph lies in memory. -/
namespace Go.Proofs.Ytbhedlobiagngaa
open Go.RowKit Go.Shelf
set_option linter.unusedSimpArgs false
set_option linter.unusedVariables false

theorem infoBo : (Try.prog.info? 4).map (fun i => (i.zero, i.size, i.bytes)) = some (some (.bool false), 1, 1) := by kernel_rfl
theorem made_bV (n : Nat) : (madeCells #[Value.bool false] n).toList = boolsV (List.replicate n false) := by
  rw [toList_madeCells_one]
  simp [boolsV]

set_option maxHeartbeats 4000000 in
set_option maxRecDepth 100000 in
theorem noneSeen_c (mb own : Nat) (qn qu qb : Option Addr) (xn nu xu nb xb : Nat) (N : List ByteArray) (w : World) (hN : N.length ≤ 4194304) :
    Calls Try.prog 56 #[.agg #[.map (some mb), .slice qn N.length xn, .int .i64 (own : Int), .slice qu nu xu, .slice qb nb xb]] w fun e w' => e = .returned (.slice (some ⟨w.heap.size + 1, 0, none⟩) N.length N.length) ∧ w'.ownsRow (w.heap.size + 1) 4 1 (.slice (some ⟨w.heap.size + 1, 0, none⟩) N.length N.length) N.length (boolsV (List.replicate N.length false)) ∧ Below w.heap.size w w' := by
  obtain ⟨iB, hiB, hzB0, hzB1, hzB2⟩ := info_parts infoBo
  have k1 : Below w.heap.size w (w.alloc (.cells #[.map (some mb), .slice qn N.length xn, .int .i64 (own : Int), .slice qu nu xu, .slice qb nb xb] 53)) := (Below.refl _ _).alloc (Nat.le_refl _) _
  have z0 : (w.alloc (.cells #[.map (some mb), .slice qn N.length xn, .int .i64 (own : Int), .slice qu nu xu, .slice qb nb xb] 53)).heap.size = w.heap.size + 1 := by simp
  go_enter Try.func56, Try.ntmps56
  go_wp2_with (at_make; refine wpList_make_full _ rfl _ _ 56 rfl (w.heap.size + 1) 4 iB (.bool false) 1 Try.underlying56 hiB hzB0 hzB1 _ _ _ _ N.length rfl rfl rfl rfl (by rw [hzB2]; omega) (by unfold maxLen; omega) (by simp) ?_)
  intro w1 hown hgrow
  have hb1 : Below w.heap.size w w1 := k1.trans (⟨hgrow.os, hgrow.tape, hgrow.output, hgrow.size, fun k hk => hgrow.block k (by rw [z0]; omega) (by simp)⟩)
  have ho : w1.ownsRow (w.heap.size + 1) 4 1 (.slice (some ⟨w.heap.size + 1, 0, none⟩) N.length N.length) N.length (boolsV (List.replicate N.length false)) := by rw [← made_bV]; exact hown
  clear hown hgrow k1 z0
  go_wp2_with fail
  go_ret
  exact ⟨rfl, ho, hb1⟩

set_option maxHeartbeats 4000000 in
set_option maxRecDepth 100000 in
theorem reachedMk_c (vB : Value) (qB : Option Addr) (nB cB : Nat) (hvB : vB = .slice qB nB cB) (s gs n : Nat) (w : World) :
    Calls Try.prog 59 #[vB, .int .i64 (s : Int), .slice (some ⟨gs, 0, none⟩) n n] w fun e w' => e = .returned (.func (.func 80) #[] #[.pointer (some ⟨w.heap.size + 1, 0, none⟩), .pointer (some ⟨w.heap.size, 0, none⟩), .pointer (some ⟨w.heap.size + 2, 0, none⟩)]) ∧ w'.heap[w.heap.size + 1]? = some (.cells #[.int .i64 (s : Int)] 3 (0, 0)) ∧ w'.heap[w.heap.size]? = some (.cells #[vB] 51 (0, 0)) ∧ w'.heap[w.heap.size + 2]? = some (.cells #[.slice (some ⟨gs, 0, none⟩) n n] 56 (0, 0)) ∧ w'.heap.size = w.heap.size + 3 ∧ Below w.heap.size w w' := by
  subst hvB
  have hmf : ∀ (fn : Fn) (first cap : Array Value) (w : World), (Instr.makeFunc fn first cap).run Try.prog w = .ok (.func fn first cap) w := fun _ _ _ _ => rfl
  obtain ⟨A1, hA1⟩ : ∃ A, A = w.alloc (.cells #[.slice qB nB cB] 51) := ⟨_, rfl⟩
  obtain ⟨A2, hA2⟩ : ∃ A, A = A1.alloc (.cells #[.int .i64 (s : Int)] 3) := ⟨_, rfl⟩
  obtain ⟨A3, hA3⟩ : ∃ A, A = A2.alloc (.cells #[.slice (some ⟨gs, 0, none⟩) n n] 56) := ⟨_, rfl⟩
  have z1 : A1.heap.size = w.heap.size + 1 := by rw [hA1]; simp
  have z2 : A2.heap.size = w.heap.size + 2 := by rw [hA2]; simp [z1]
  have z3 : A3.heap.size = w.heap.size + 3 := by rw [hA3]; simp [z2]
  have f1 : A3.heap[w.heap.size]? = some (.cells #[.slice qB nB cB] 51 (0, 0)) := by rw [hA3, vheap_old _ _ (by omega), hA2, vheap_old _ _ (by omega), hA1]; exact vheap_new _ _
  have f2 : A3.heap[w.heap.size + 1]? = some (.cells #[.int .i64 (s : Int)] 3 (0, 0)) := by rw [hA3, vheap_old _ _ (by omega), hA2, ← z1]; exact vheap_new _ _
  have f3 : A3.heap[w.heap.size + 2]? = some (.cells #[.slice (some ⟨gs, 0, none⟩) n n] 56 (0, 0)) := by rw [hA3, ← z2]; exact vheap_new _ _
  have kb : Below w.heap.size w A3 := by rw [hA3]; exact (by rw [hA2]; exact (by rw [hA1]; exact (Below.refl _ _).alloc (Nat.le_refl _) _ : Below w.heap.size w A1).alloc (by omega) _ : Below w.heap.size w A2).alloc (by omega) _
  have HA : Hid (((w.alloc (.cells #[.slice qB nB cB] 51)).alloc (.cells #[.int .i64 (s : Int)] 3)).alloc (.cells #[.slice (some ⟨gs, 0, none⟩) n n] 56) = A3) := by show _ = _; rw [hA3, hA2, hA1]
  have HF : Hid (A3.heap[w.heap.size + 1]? = some (.cells #[.int .i64 (s : Int)] 3 (0, 0)) ∧ A3.heap[w.heap.size]? = some (.cells #[.slice qB nB cB] 51 (0, 0)) ∧ A3.heap[w.heap.size + 2]? = some (.cells #[.slice (some ⟨gs, 0, none⟩) n n] 56 (0, 0)) ∧ A3.heap.size = w.heap.size + 3 ∧ Below w.heap.size w A3) := ⟨f2, f1, f3, z3, kb⟩
  clear hA1 hA2 hA3 z1 z2 z3 f1 f2 f3 kb
  go_enter Try.func59, Try.ntmps59
  go_wp2_with fail
  go_ret
  rw [HA.out]
  exact ⟨rfl, HF.out.1, HF.out.2.1, HF.out.2.2.1, HF.out.2.2.2.1, HF.out.2.2.2.2⟩
end Go.Proofs.Ytbhedlobiagngaa

/-! A value as a tree, how much it holds, and what it means that it lies in memory below a block number; no condition but those told. -/
namespace Go.Proofs.Ytbhedlobiagngaa
open Go.RowKit
set_option linter.unusedSimpArgs false
set_option linter.unusedVariables false

inductive Tree where
  | mk (k n : Int) (s : ByteArray) (l : List Tree) (keys : List ByteArray) : Tree

theorem Tree.ind {P : Tree → Prop} (h : ∀ k n s l ks, (∀ U ∈ l, P U) → P (.mk k n s l ks)) : ∀ T, P T
  | .mk k n s l ks => h k n s l ks (fun U _ => Tree.ind h U)
  termination_by T => SizeOf.sizeOf T
  decreasing_by
    rename_i hU
    have := List.sizeOf_lt_of_mem hU
    simp
    omega

mutual
def Tree.wt : Tree → Nat
  | .mk _ _ s l ks => s.size + (wtL l + bulkS ks)
def wtL : List Tree → Nat
  | [] => 0
  | t :: r => 1 + t.wt + wtL r
end

theorem wtL_append (a b : List Tree) : wtL (a ++ b) = wtL a + wtL b := by
  induction a with
  | nil => simp [wtL]
  | cons t r ih => simp only [List.cons_append, wtL, ih]; omega

theorem wtL_take_succ (l : List Tree) (k : Nat) (h : k < l.length) : wtL (l.take (k + 1)) = wtL (l.take k) + 1 + (l[k]).wt := by
  rw [List.take_succ_eq_append_getElem h, wtL_append]
  simp [wtL]; omega

theorem wtL_take_le (l : List Tree) (k : Nat) : wtL (l.take k) ≤ wtL l := by
  conv => rhs; rw [← List.take_append_drop k l, wtL_append]
  omega

theorem length_le_wtL (l : List Tree) : l.length ≤ wtL l := by
  induction l with
  | nil => simp
  | cons t r ih => simp only [List.length_cons, wtL]; omega

theorem wtL_take_rest (l : List Tree) (k : Nat) : wtL (l.take k) + (l.length - k) ≤ wtL l := by
  conv => rhs; rw [← List.take_append_drop k l, wtL_append]
  have := length_le_wtL (l.drop k)
  simp at this
  omega

theorem wt_le_wtL {l : List Tree} {U : Tree} (h : U ∈ l) : U.wt + 1 ≤ wtL l := by
  induction l with
  | nil => simp at h
  | cons t r ih =>
    simp only [List.mem_cons] at h
    simp only [wtL]
    rcases h with rfl | h
    · omega
    · have := ih h; omega

/-- In blocks of S the world w' is as w was. -/
def KeptIn (S : Nat → Prop) (w w' : World) : Prop := ∀ b, S b → w'.heap[b]? = w.heap[b]?
theorem KeptIn.cell {S : Nat → Prop} {w w' : World} (h : KeptIn S w w') {b : Nat} (hb : S b) (o : Nat) : w'.cell? ⟨b, o, none⟩ = w.cell? ⟨b, o, none⟩ := World.cell?_of_block (w := w) (h b hb)
theorem KeptIn.trans {S : Nat → Prop} {a b c : World} (h : KeptIn S a b) (k : KeptIn S b c) : KeptIn S a c := fun i hi => (k i hi).trans (h i hi)
theorem KeptIn.of {S : Nat → Prop} {B : Nat} {w w' : World} (hb : Below B w w') (hS : ∀ b, S b → b < B) : KeptIn S w w' := fun b h => hb.block b (hS b h)

/-- A list of texts that lies in blocks of S. -/
def ReadsB (S : Nat → Prop) (w : World) (v : Value) (xs : List Value) : Prop :=
  ∃ a cap, v = .slice a xs.length cap ∧ xs.length ≤ cap ∧ (xs = [] ∨ ∃ b off, a = some ⟨b, off, none⟩ ∧ S b ∧ ∀ k (h : k < xs.length), w.cell? ⟨b, off + k, none⟩ = some xs[k])

theorem ReadsB.reads {S : Nat → Prop} {w : World} {v : Value} {xs : List Value} (h : ReadsB S w v xs) (hS : ∀ b, S b → b < w.heap.size) : Reads w v xs := by
  obtain ⟨a, cap, hv, hc, h⟩ := h
  refine ⟨a, cap, hv, hc, ?_⟩
  rcases h with h | ⟨b, off, ha, hb, h⟩
  · exact .inl h
  · exact .inr ⟨b, off, ha, hS b hb, h⟩

theorem ReadsB.of {w : World} {v : Value} {xs : List Value} (h : Reads w v xs) : ReadsB (· < w.heap.size) w v xs := h

theorem ReadsB.keep {S : Nat → Prop} {w w' : World} {v : Value} {xs : List Value} (hb : KeptIn S w w') (h : ReadsB S w v xs) : ReadsB S w' v xs := by
  obtain ⟨a, cap, hv, hc, h⟩ := h
  refine ⟨a, cap, hv, hc, ?_⟩
  rcases h with h | ⟨b, off, ha, hlt, h⟩
  · exact .inl h
  · exact .inr ⟨b, off, ha, hlt, fun k hk => (hb.cell hlt _).trans (h k hk)⟩

theorem ReadsB.mono {S S' : Nat → Prop} {w : World} {v : Value} {xs : List Value} (hB : ∀ b, S b → S' b) (h : ReadsB S w v xs) : ReadsB S' w v xs := by
  obtain ⟨a, cap, hv, hc, h⟩ := h
  refine ⟨a, cap, hv, hc, ?_⟩
  rcases h with h | ⟨b, off, ha, hlt, h⟩
  · exact .inl h
  · exact .inr ⟨b, off, ha, hB b hlt, h⟩

def saneS (ks : List ByteArray) : Prop := ks.length ≤ maxLen ∧ ∀ s ∈ ks, s.size ≤ maxLen

/-- The value v is the tree T, all of whose memory lies in blocks of S. -/
inductive Lies (S : Nat → Prop) (w : World) : Value → Tree → Prop
  | mk (k n : Int) (s : ByteArray) (l : List Tree) (ks : List ByteArray) (a : Option Addr) (cap : Nat) (u : Value) (C : Nat → Nat → Value)
      (hs : s.size ≤ maxLen) (hl : l.length ≤ maxLen) (hk : saneS ks) (hc : l.length ≤ cap) (hu : ReadsB S w u (strsV ks))
      (ha : l = [] ∨ ∃ b off, a = some ⟨b, off, none⟩ ∧ S b ∧ ∀ i, i < l.length → ∀ j, j < 5 → w.cell? ⟨b, off + i * 5 + j, none⟩ = some (C i j))
      (hC : ∀ i (h : i < l.length), Lies S w (.agg #[C i 0, C i 1, C i 2, C i 3, C i 4]) l[i]) :
      Lies S w (.agg #[.int .i64 k, .int .i64 n, .string s, .slice a l.length cap, u]) (.mk k n s l ks)

/-- The list of values v is l. -/
def LiesL (S : Nat → Prop) (w : World) (v : Value) (l : List Tree) : Prop :=
  ∃ a cap, ∃ C : Nat → Nat → Value, v = .slice a l.length cap ∧ l.length ≤ maxLen ∧ l.length ≤ cap ∧
    (l = [] ∨ ∃ b off, a = some ⟨b, off, none⟩ ∧ S b ∧ ∀ i, i < l.length → ∀ j, j < 5 → w.cell? ⟨b, off + i * 5 + j, none⟩ = some (C i j)) ∧
    ∀ i (h : i < l.length), Lies S w (.agg #[C i 0, C i 1, C i 2, C i 3, C i 4]) l[i]

theorem Lies.out {S : Nat → Prop} {w : World} {v : Value} {k n : Int} {s : ByteArray} {l : List Tree} {ks : List ByteArray} (h : Lies S w v (.mk k n s l ks)) :
    ∃ c u, v = .agg #[.int .i64 k, .int .i64 n, .string s, c, u] ∧ s.size ≤ maxLen ∧ saneS ks ∧ LiesL S w c l ∧ ReadsB S w u (strsV ks) := by
  cases h with
  | mk k n s l ks a cap u C hs hl hk hc hu ha hC => exact ⟨_, u, rfl, hs, hk, ⟨a, cap, C, rfl, hl, hc, ha, hC⟩, hu⟩

theorem Lies.of {S : Nat → Prop} {w : World} {c u : Value} {k n : Int} {s : ByteArray} {l : List Tree} {ks : List ByteArray} (hs : s.size ≤ maxLen) (hk : saneS ks) (hl : LiesL S w c l) (hu : ReadsB S w u (strsV ks)) :
    Lies S w (.agg #[.int .i64 k, .int .i64 n, .string s, c, u]) (.mk k n s l ks) := by
  obtain ⟨a, cap, C, rfl, hl, hc, ha, hC⟩ := hl
  exact .mk k n s l ks a cap u C hs hl hk hc hu ha hC

theorem LiesL.mk_keep {S : Nat → Prop} {w w' : World} {v : Value} {l : List Tree} (hb : KeptIn S w w') (hi : ∀ U ∈ l, ∀ x, Lies S w x U → Lies S w' x U) (h : LiesL S w v l) : LiesL S w' v l := by
  obtain ⟨a, cap, C, rfl, hl, hc, ha, hC⟩ := h
  refine ⟨a, cap, C, rfl, hl, hc, ?_, fun i h => hi _ (List.getElem_mem h) _ (hC i h)⟩
  rcases ha with ha | ⟨b, off, ha, hlt, hcell⟩
  · exact .inl ha
  · exact .inr ⟨b, off, ha, hlt, fun i hi j hj => (hb.cell hlt _).trans (hcell i hi j hj)⟩

theorem Lies.keep {S : Nat → Prop} {w w' : World} (hb : KeptIn S w w') : ∀ {T : Tree} {v : Value}, Lies S w v T → Lies S w' v T := by
  have h := Tree.ind (P := fun T => ∀ v, Lies S w v T → Lies S w' v T) ?_
  · exact fun {T v} hx => h T v hx
  intro k n s l ks ih v h
  obtain ⟨c, u, rfl, hs, hk, hl, hu⟩ := h.out
  exact Lies.of hs hk (hl.mk_keep hb ih) (hu.keep hb)

theorem LiesL.keep {S : Nat → Prop} {w w' : World} {v : Value} {l : List Tree} (hb : KeptIn S w w') (h : LiesL S w v l) : LiesL S w' v l :=
  h.mk_keep hb fun U _ x hx => Lies.keep hb hx

theorem LiesL.mk_mono {S S' : Nat → Prop} {w : World} {v : Value} {l : List Tree} (hB : ∀ b, S b → S' b) (hi : ∀ U ∈ l, ∀ x, Lies S w x U → Lies S' w x U) (h : LiesL S w v l) : LiesL S' w v l := by
  obtain ⟨a, cap, C, rfl, hl, hc, ha, hC⟩ := h
  refine ⟨a, cap, C, rfl, hl, hc, ?_, fun i h => hi _ (List.getElem_mem h) _ (hC i h)⟩
  rcases ha with ha | ⟨b, off, ha, hlt, hcell⟩
  · exact .inl ha
  · exact .inr ⟨b, off, ha, hB b hlt, hcell⟩

theorem Lies.mono {S S' : Nat → Prop} {w : World} (hB : ∀ b, S b → S' b) : ∀ {T : Tree} {v : Value}, Lies S w v T → Lies S' w v T := by
  have h := Tree.ind (P := fun T => ∀ v, Lies S w v T → Lies S' w v T) ?_
  · exact fun {T v} hx => h T v hx
  intro k n s l ks ih v h
  obtain ⟨c, u, rfl, hs, hk, hl, hu⟩ := h.out
  exact Lies.of hs hk (hl.mk_mono hB ih) (hu.mono hB)

theorem LiesL.mono {S S' : Nat → Prop} {w : World} {v : Value} {l : List Tree} (hB : ∀ b, S b → S' b) (h : LiesL S w v l) : LiesL S' w v l :=
  h.mk_mono hB fun U _ x hx => Lies.mono hB hx

/-- What is at place i of a list of values: five cells, which are the tree there. -/
theorem LiesL.at {S : Nat → Prop} {w : World} {v : Value} {l : List Tree} (h : LiesL S w v l) :
    ∃ a cap, v = .slice a l.length cap ∧ l.length ≤ maxLen ∧ l.length ≤ cap ∧ (l = [] ∨ ∃ b off, a = some ⟨b, off, none⟩ ∧ S b ∧ ∀ i (h : i < l.length), ∃ c0 c1 c2 c3 c4,
      w.cell? ⟨b, off + i * 5, none⟩ = some c0 ∧ w.cell? ⟨b, off + i * 5 + 1, none⟩ = some c1 ∧ w.cell? ⟨b, off + i * 5 + 2, none⟩ = some c2 ∧ w.cell? ⟨b, off + i * 5 + 3, none⟩ = some c3 ∧ w.cell? ⟨b, off + i * 5 + 4, none⟩ = some c4 ∧
      Lies S w (.agg #[c0, c1, c2, c3, c4]) l[i]) := by
  obtain ⟨a, cap, C, rfl, hl, hc, ha, hC⟩ := h
  refine ⟨a, cap, rfl, hl, hc, ?_⟩
  rcases ha with ha | ⟨b, off, ha, hlt, hcell⟩
  · exact .inl ha
  · refine .inr ⟨b, off, ha, hlt, fun i hi => ⟨C i 0, C i 1, C i 2, C i 3, C i 4, ?_, ?_, ?_, ?_, ?_, hC i hi⟩⟩
    · simpa using hcell i hi 0 (by omega)
    · exact hcell i hi 1 (by omega)
    · exact hcell i hi 2 (by omega)
    · exact hcell i hi 3 (by omega)
    · exact hcell i hi 4 (by omega)

/-- A parameter that was put into a block of its own is still there behind a call. -/
theorem box5 {w w1 : World} {c0 c1 c2 c3 c4 : Value} {t : TypeId} (hb : Below (w.alloc (.cells #[c0, c1, c2, c3, c4] t)).heap.size (w.alloc (.cells #[c0, c1, c2, c3, c4] t)) w1) :
    w1.cell? ⟨w.heap.size, 0, none⟩ = some c0 ∧ w1.cell? ⟨w.heap.size, 1, none⟩ = some c1 ∧ w1.cell? ⟨w.heap.size, 2, none⟩ = some c2 ∧ w1.cell? ⟨w.heap.size, 3, none⟩ = some c3 ∧ w1.cell? ⟨w.heap.size, 4, none⟩ = some c4 := by
  have h : ∀ j, w1.cell? ⟨w.heap.size, j, none⟩ = (#[c0, c1, c2, c3, c4] : Array Value)[j]? := fun j => by
    rw [hb.cell (p := ⟨w.heap.size, j, none⟩) (by simp)]
    have e : (w.alloc (.cells #[c0, c1, c2, c3, c4] t)).heap[w.heap.size]? = some (.cells #[c0, c1, c2, c3, c4] t) := by show (w.heap.push _)[w.heap.size]? = _; simp
    simp only [World.cell?, e]; rfl
  exact ⟨h 0, h 1, h 2, h 3, h 4⟩

theorem heap_new (w : World) (o : Obj) : (w.alloc o).heap[w.heap.size]? = some o := by show (w.heap.push _)[w.heap.size]? = _; simp
theorem heap_old (w : World) (o : Obj) {b : Nat} (h : b < w.heap.size) : (w.alloc o).heap[b]? = w.heap[b]? := Below.heap_alloc w o b h
theorem three {w w1 : World} {A R O : Obj} (hb : Below (((w.alloc A).alloc R).alloc O).heap.size (((w.alloc A).alloc R).alloc O) w1) :
    w1.heap[w.heap.size]? = some A ∧ w1.heap[w.heap.size + 1]? = some R ∧ w1.heap[w.heap.size + 1 + 1]? = some O := by
  have s1 : (w.alloc A).heap.size = w.heap.size + 1 := by simp
  have s2 : ((w.alloc A).alloc R).heap.size = w.heap.size + 1 + 1 := by simp
  refine ⟨?_, ?_, ?_⟩
  · rw [hb.block _ (by simp; omega), heap_old _ _ (by simp; omega), heap_old _ _ (by simp), heap_new]
  · rw [hb.block _ (by simp), heap_old _ _ (by simp), ← s1, heap_new]
  · rw [hb.block _ (by simp), ← s2, heap_new]
theorem blk_cell {w : World} {b : Nat} {cs : Array Value} {t : TypeId} (h : w.heap[b]? = some (.cells cs t (0, 0))) (j : Nat) : w.cell? ⟨b, j, none⟩ = cs[j]? := cell_of_row w b j cs t (0, 0) h
theorem blk_frozen {w : World} {b : Nat} {cs : Array Value} {t : TypeId} (h : w.heap[b]? = some (.cells cs t (0, 0))) (j : Nat) : w.frozen? ⟨b, j, none⟩ = false := frozen_of_row w b j cs t h
theorem blk_set {w : World} {b : Nat} {cs : Array Value} {t : TypeId} (h : w.heap[b]? = some (.cells cs t (0, 0))) (j : Nat) (v : Value) : (w.setCell ⟨b, j, none⟩ v).heap[b]? = some (.cells (cs.setIfInBounds j v) t (0, 0)) := heap_setCell_same w b j cs t v h

#print axioms Lies.keep
end Go.Proofs.Ytbhedlobiagngaa

/-! How much a value holds, as the law's own helper reckons it: a contract for every value that lies in memory. -/
namespace Go.Proofs.Ytbhedlobiagngaa
open Go.RowKit
set_option linter.unusedSimpArgs false
set_option linter.unusedVariables false

set_option maxHeartbeats 1000000 in
set_option maxRecDepth 100000 in
theorem sizeStrsT_c (v : Value) (ss : List ByteArray) (w : World) (left : Int) (hl0 : 0 ≤ left) (hl1 : left ≤ 1048576) (hv : Reads w v (strsV ss)) (hn : ss.length ≤ maxLen) (hs : ∀ s ∈ ss, s.size ≤ maxLen) :
    Calls Try.prog 66 #[v, .int .i64 left] w fun e w' => e = .returned (.int .i64 (leftS ss left)) ∧ w = w' := by
  obtain ⟨a, cap, rfl, _, hc⟩ := reads_strs hv
  clear hv
  unfold maxLen at hn hs
  by_cases h0 : left < (ss.length : Int)
  · have hneg : left - (ss.length : Int) < 0 := by omega
    have e : leftS ss left = -1 := by rw [leftS, bulkS, if_neg (by omega)]
    rw [e]
    clear hc hs
    go_enter Try.func66, Try.ntmps66
    go_wp2
    go_ret
    exact ⟨rfl, rfl⟩
  · have hpos : ¬ (left - (ss.length : Int) < 0) := by omega
    rcases hc with rfl | ⟨b, off, rfl, hlt, hc⟩
    · go_enter Try.func66, Try.ntmps66
      go_wp2
      go_loop [1, 5] (fun vl vi => vl = .int .i64 left ∧ vi = .int .i64 0) (fun _ _ => 0)
      case atStart => exact ⟨rfl, rfl⟩
      case round =>
        obtain ⟨rfl, rfl⟩ := hrel
        go_wp2
        go_ret
        exact ⟨by rw [show leftS [] left = left by simp [leftS, bulkS, hl0]]; rfl, rfl⟩
    · go_enter Try.func66, Try.ntmps66
      go_wp2
      go_loop [1, 5] (fun vl vi => ∃ (k : Nat) (l : Int), k ≤ ss.length ∧ vi = .int .i64 (k : Int) ∧ vl = .int .i64 l ∧ 0 ≤ l ∧ l ≤ 1048576 ∧ Hid (l = left - (ss.length : Int) - (((ss.take k).map ByteArray.size).sum : Int))) (fun _ vi => ss.length - (intOf vi).toNat)
      case atStart => exact ⟨0, _, Nat.zero_le _, rfl, rfl, by omega, by omega, by show _ = _; simp⟩
      case round =>
        obtain ⟨k, l, hk, rfl, rfl, hq0, hq1, hl⟩ := hrel
        by_cases hlt' : k < ss.length
        · have hcx := hc k hlt'
          have hsk := hs ss[k] (List.getElem_mem hlt')
          have hsum := sum_take_succ ss k hlt'
          obtain ⟨t, ht⟩ : ∃ t, t = ss[k] := ⟨_, rfl⟩
          rw [← ht] at hcx hsk hsum
          have HS : Hid (((ss.take (k + 1)).map ByteArray.size).sum = ((ss.take k).map ByteArray.size).sum + t.size) := hsum
          have hki : (k : Int) < (ss.length : Int) := by omega
          clear hc hs ht hsum
          by_cases hneg : l - (t.size : Int) < 0
          · have e : leftS ss left = -1 := by
              have h1 := HS.out; have h2 := hl.out; have h3 := sum_take_le ss (k + 1)
              rw [leftS, bulkS, if_neg (by omega)]
            have HE : Hid (leftS ss left = -1) := e
            clear e
            go_wp2
            go_ret
            exact ⟨by rw [HE.out]; rfl, rfl⟩
          · go_wp2
            go_round
            case rel => exact ⟨k + 1, l - (t.size : Int), by omega, by go_num, rfl, by omega, by omega, (by show _ = _; rw [HS.out, hl.out]; omega)⟩
            case measure => simp [intOf]; omega
        · have he : k = ss.length := by omega
          subst he
          have e : leftS ss left = l := by
            have h2 := hl.out
            rw [List.take_length] at h2
            rw [leftS, bulkS, if_pos (by omega)]; omega
          have HE : Hid (leftS ss left = l) := e
          clear hc hs e
          go_wp2
          go_ret
          exact ⟨by rw [HE.out]; rfl, rfl⟩
def leftN (n : Nat) (left : Int) : Int := if (n : Int) ≤ left then left - (n : Int) else -1
theorem leftN_bad {n : Nat} {left : Int} (h : left < (n : Int)) : leftN n left = -1 := by unfold leftN; rw [if_neg (by omega)]
theorem leftN_good {n : Nat} {left : Int} (h : (n : Int) ≤ left) : leftN n left = left - (n : Int) := by unfold leftN; rw [if_pos h]
theorem leftS_N (ks : List ByteArray) (left : Int) : leftS ks left = leftN (bulkS ks) left := rfl
theorem wt_mk (k n : Int) (s : ByteArray) (l : List Tree) (ks : List ByteArray) : (Tree.mk k n s l ks).wt = s.size + (wtL l + bulkS ks) := by rw [Tree.wt]

end Go.Proofs.Ytbhedlobiagngaa

/-! A value copied into memory of its own, as the law's helper does it: a contract for every value that lies in memory and holds at most 2 to the 20. -/
namespace Go.Proofs.Ytbhedlobiagngaa
open Go.RowKit
set_option linter.unusedSimpArgs false
set_option linter.unusedVariables false

/-- The blocks from lo on, below hi. -/
def Own (lo hi : Nat) (b : Nat) : Prop := lo ≤ b ∧ b < hi
theorem Own.set {lo hi : Nat} {w : World} {g j : Nat} {v : Value} (h : g < lo) : KeptIn (Own lo hi) w (w.setCell ⟨g, j, none⟩ v) := fun b hb => Below.heap_setCell w ⟨g, j, none⟩ v b (by have := hb.1; simp; omega)
theorem Own.below {lo : Nat} {w w' : World} (h : Below w.heap.size w w') : KeptIn (Own lo w.heap.size) w w' := fun b hb => h.block b hb.2
theorem Own.mono {lo lo' hi hi' : Nat} (h1 : lo' ≤ lo) (h2 : hi ≤ hi') : ∀ b, Own lo hi b → Own lo' hi' b := fun b h => ⟨Nat.le_trans h1 h.1, Nat.lt_of_lt_of_le h.2 h2⟩

theorem readsB_of_owns {w : World} {base : Nat} {e : TypeId} {v : Value} {n : Nat} {xs : List Value} (h : w.ownsRow base e 1 v n xs) : ReadsB (Own base w.heap.size) w v xs := by
  have h0 := reads_of_owns h
  obtain ⟨a, cap, hv, hc, hx⟩ := h0
  refine ⟨a, cap, hv, hc, ?_⟩
  rcases hx with hx | ⟨b, off, rfl, hlt, hx⟩
  · exact .inl hx
  · refine .inr ⟨b, off, rfl, ⟨?_, hlt⟩, hx⟩
    rcases h.2 with ⟨hn, _⟩ | ⟨g, cap', cur, hv', hg, _⟩
    · rw [hn] at hv; simp at hv
    · rw [hv'] at hv
      simp only [Value.slice.injEq, Option.some.injEq, Addr.mk.injEq] at hv
      omega

theorem toVal_facts {w1 w2 : World} {N : Nat} {t t' : TypeId} {x o0 o1 o2 o3 o4 r0 r1 r2 r3 r4 : Value} (hR : w1.heap[N + 1]? = some (.cells #[r0, r1, r2, r3, r4] t)) (hO : w1.heap[N + 1 + 1]? = some (.cells #[o0, o1, o2, o3, o4] t'))
    (hb : Below (w1.setCell ⟨N + 1 + 1, 3, none⟩ x).heap.size (w1.setCell ⟨N + 1 + 1, 3, none⟩ x) w2) :
    (w2.cell? ⟨N + 1 + 1, 0, none⟩ = some o0 ∧ w2.cell? ⟨N + 1 + 1, 1, none⟩ = some o1 ∧ w2.cell? ⟨N + 1 + 1, 2, none⟩ = some o2 ∧ w2.cell? ⟨N + 1 + 1, 3, none⟩ = some x ∧ w2.cell? ⟨N + 1 + 1, 4, none⟩ = some o4) ∧
    (w2.cell? ⟨N + 1, 0, none⟩ = some r0 ∧ w2.cell? ⟨N + 1, 1, none⟩ = some r1 ∧ w2.cell? ⟨N + 1, 2, none⟩ = some r2 ∧ w2.cell? ⟨N + 1, 3, none⟩ = some r3 ∧ w2.cell? ⟨N + 1, 4, none⟩ = some r4) ∧
    (∀ j, w2.frozen? ⟨N + 1 + 1, j, none⟩ = false) ∧ (∀ j, w2.frozen? ⟨N + 1, j, none⟩ = false) := by
  have l1 : N + 1 < w1.heap.size := (Array.getElem?_eq_some_iff.1 hR).1
  have l2 : N + 1 + 1 < w1.heap.size := (Array.getElem?_eq_some_iff.1 hO).1
  have s1 : (w1.setCell ⟨N + 1 + 1, 3, none⟩ x).heap.size = w1.heap.size := by simp [World.setCell]
  have eO := blk_set hO 3 x
  have eR : (w1.setCell ⟨N + 1 + 1, 3, none⟩ x).heap[N + 1]? = _ := (Below.heap_setCell w1 ⟨N + 1 + 1, 3, none⟩ x (N + 1) (by simp)).trans hR
  rw [← hb.block _ (by rw [s1]; exact l2)] at eO
  rw [← hb.block _ (by rw [s1]; exact l1)] at eR
  exact ⟨⟨blk_cell eO 0, blk_cell eO 1, blk_cell eO 2, blk_cell eO 3, blk_cell eO 4⟩, ⟨blk_cell eR 0, blk_cell eR 1, blk_cell eR 2, blk_cell eR 3, blk_cell eR 4⟩, blk_frozen eO, blk_frozen eR⟩

def cellsAt (ys : List Value) (i : Nat) : Value := .agg #[ys.getD (i * 5) undef, ys.getD (i * 5 + 1) undef, ys.getD (i * 5 + 2) undef, ys.getD (i * 5 + 3) undef, ys.getD (i * 5 + 4) undef]

def set5 (ys : List Value) (i : Nat) (c0 c1 c2 c3 c4 : Value) : List Value := ((((ys.set (i * 5) c0).set (i * 5 + 1) c1).set (i * 5 + 2) c2).set (i * 5 + 3) c3).set (i * 5 + 4) c4

theorem cellsAt_same (ys : List Value) (i : Nat) (c0 c1 c2 c3 c4 : Value) (h : i * 5 + 4 < ys.length) : cellsAt (set5 ys i c0 c1 c2 c3 c4) i = .agg #[c0, c1, c2, c3, c4] := by
  simp [cellsAt, set5, List.getD_eq_getElem?_getD, List.getElem?_set, h, show i * 5 < ys.length by omega, show i * 5 + 1 < ys.length by omega, show i * 5 + 2 < ys.length by omega, show i * 5 + 3 < ys.length by omega]

theorem getD_set_ne (ys : List Value) (a b : Nat) (v : Value) (h : a ≠ b) : (ys.set a v).getD b undef = ys.getD b undef := by
  simp [List.getD_eq_getElem?_getD, List.getElem?_set, h]

theorem cellsAt_other (ys : List Value) (i j : Nat) (c0 c1 c2 c3 c4 : Value) (h : j < i) : cellsAt (set5 ys i c0 c1 c2 c3 c4) j = cellsAt ys j := by
  have e : ∀ q, q < 5 → (set5 ys i c0 c1 c2 c3 c4).getD (j * 5 + q) undef = ys.getD (j * 5 + q) undef := fun q hq => by
    unfold set5
    rw [getD_set_ne _ _ _ _ (by omega), getD_set_ne _ _ _ _ (by omega), getD_set_ne _ _ _ _ (by omega), getD_set_ne _ _ _ _ (by omega), getD_set_ne _ _ _ _ (by omega)]
  have e0 := e 0 (by omega)
  rw [Nat.add_zero] at e0
  simp only [cellsAt, e0, e 1 (by omega), e 2 (by omega), e 3 (by omega), e 4 (by omega)]

end Go.Proofs.Ytbhedlobiagngaa

/-! A list of values copied into memory of its own; with it every value: a contract for what lies in memory and holds at most 2 to the 20. -/
namespace Go.Proofs.Ytbhedlobiagngaa
open Go.RowKit
set_option linter.unusedSimpArgs false
set_option linter.unusedVariables false

/-- What lies in memory, with its two lists written out. -/
theorem Lies.parts {S : Nat → Prop} {w : World} {v : Value} {T : Tree} (h : Lies S w v T) :
    ∃ k n s a m cap a' m' cap', v = .agg #[.int .i64 k, .int .i64 n, .string s, .slice a m cap, .slice a' m' cap'] := by
  cases T with
  | mk k n s l ks =>
    obtain ⟨c, u, rfl, hs, hk, ⟨a, cap, C, rfl, _⟩, ⟨a', cap', rfl, _⟩⟩ := h.out
    exact ⟨_, _, _, _, _, _, _, _, _, rfl⟩

end Go.Proofs.Ytbhedlobiagngaa

/-! Two values that are the same tree are told so by the law's own comparison: a contract for every two that lie in memory. -/
namespace Go.Proofs.Ytbhedlobiagngaa
open Go.RowKit
set_option linter.unusedSimpArgs false
set_option linter.unusedVariables false

theorem two5 {w w1 : World} {c0 c1 c2 c3 c4 d0 d1 d2 d3 d4 : Value} {t : TypeId} (hb : Below ((w.alloc (.cells #[c0, c1, c2, c3, c4] t)).alloc (.cells #[d0, d1, d2, d3, d4] t)).heap.size ((w.alloc (.cells #[c0, c1, c2, c3, c4] t)).alloc (.cells #[d0, d1, d2, d3, d4] t)) w1) :
    w1.cell? ⟨w.heap.size, 4, none⟩ = some c4 ∧ w1.cell? ⟨w.heap.size + 1, 4, none⟩ = some d4 := by
  have s1 : (w.alloc (.cells #[c0, c1, c2, c3, c4] t)).heap.size = w.heap.size + 1 := by simp
  have h1 : w1.heap[w.heap.size]? = some (.cells #[c0, c1, c2, c3, c4] t) := by rw [hb.block _ (by simp; omega), heap_old _ _ (by simp), heap_new]
  have h2 : w1.heap[w.heap.size + 1]? = some (.cells #[d0, d1, d2, d3, d4] t) := by rw [hb.block _ (by simp), ← s1, heap_new]
  exact ⟨blk_cell h1 4, blk_cell h2 4⟩

end Go.Proofs.Ytbhedlobiagngaa

/-! Trees of values that may be written, no two rows of which are the same, and such as bear marks: what they are, and that they are kept; no condition. -/
namespace Go.Proofs.Ytbhedlobiagngaa
open Go.RowKit
set_option linter.unusedSimpArgs false
set_option linter.unusedVariables false

def Tree.kids : Tree → List Tree
  | .mk _ _ _ l _ => l
def Tree.keys : Tree → List ByteArray
  | .mk _ _ _ _ ks => ks
mutual
/-- How many marks a tree takes below its own, and a list of trees. -/
def Tree.cnt : Tree → Nat
  | .mk _ _ _ l ks => 3 + cntL l + ks.length
def cntL : List Tree → Nat
  | [] => 0
  | t :: r => t.cnt + cntL r
end
theorem cnt_eq (T : Tree) : T.cnt = 3 + cntL T.kids + T.keys.length := by
  cases T; rw [Tree.cnt]; rfl
theorem cntL_append (a b : List Tree) : cntL (a ++ b) = cntL a + cntL b := by
  induction a with
  | nil => simp [cntL]
  | cons t r ih => simp only [List.cons_append, cntL, ih]; omega
theorem cntL_take (l : List Tree) (k : Nat) (h : k < l.length) : cntL (l.take (k + 1)) = cntL (l.take k) + l[k].cnt := by
  rw [List.take_succ_eq_append_getElem h, cntL_append]; simp [cntL]
theorem cntL_take_le (l : List Tree) (k : Nat) : cntL (l.take k) ≤ cntL l := by
  conv => rhs; rw [← List.take_append_drop k l, cntL_append]
  omega

/-- From w to w' only blocks of S, and new ones, have changed. -/
structure Chg (S : Nat → Prop) (w w' : World) : Prop where
  os : w'.os = w.os
  tape : w'.tape = w.tape
  output : w'.output = w.output
  size : w.heap.size ≤ w'.heap.size
  block : ∀ b, b < w.heap.size → ¬ S b → w'.heap[b]? = w.heap[b]?
theorem Chg.refl (S : Nat → Prop) (w : World) : Chg S w w := ⟨rfl, rfl, rfl, Nat.le_refl _, fun _ _ _ => rfl⟩
theorem Chg.trans {S : Nat → Prop} {a b c : World} (h : Chg S a b) (k : Chg S b c) : Chg S a c :=
  ⟨k.os.trans h.os, k.tape.trans h.tape, k.output.trans h.output, Nat.le_trans h.size k.size, fun i hi hs => (k.block i (Nat.lt_of_lt_of_le hi h.size) hs).trans (h.block i hi hs)⟩
theorem Chg.mono {S S' : Nat → Prop} {a b : World} (h : Chg S a b) (hs : ∀ b, S b → S' b) : Chg S' a b := ⟨h.os, h.tape, h.output, h.size, fun i hi hn => h.block i hi (fun k => hn (hs i k))⟩
theorem Chg.of {S : Nat → Prop} {a b : World} (h : Below a.heap.size a b) : Chg S a b := ⟨h.os, h.tape, h.output, h.size, fun i hi _ => h.block i hi⟩
theorem Chg.kp {S R : Nat → Prop} {a b : World} (h : Chg S a b) (hr : ∀ i, R i → i < a.heap.size ∧ ¬ S i) : Kp R a b := fun i hi => h.block i (hr i hi).1 (hr i hi).2
end Go.Proofs.Ytbhedlobiagngaa

/-! Marks put into a tree of values that may be written, as the law puts them: contracts for the walks; conditions: no two rows are the same, and there are at most 2 to the 32 marks. -/
namespace Go.Proofs.Ytbhedlobiagngaa
open Go.RowKit
set_option linter.unusedSimpArgs false
set_option linter.unusedVariables false

theorem Chg.set {S : Nat → Prop} {w : World} {g j : Nat} {v : Value} (h : S g) : Chg S w (w.setCell ⟨g, j, none⟩ v) :=
  ⟨rfl, rfl, rfl, by simp [World.setCell], fun b hb hn => Below.heap_setCell w ⟨g, j, none⟩ v b (fun e => by have e' : b = g := e; subst e'; exact hn h)⟩
theorem Chg.grown {S : Nat → Prop} {w w' : World} {r : Option Nat} (h : w.grownBy w' r) (hr : ∀ g, r = some g → S g) : Chg S w w' :=
  ⟨h.os, h.tape, h.output, h.size, fun b hb hn => h.block b hb (fun e => hn (hr b e.symm))⟩
theorem rdB_in {S : Nat → Prop} {w : World} {lo : Nat} {e : TypeId} {v : Value} {n : Nat} {xs : List Value} (h : w.ownsRow lo e 1 v n xs) (hs : ∀ g, v.ownBlock = some g → S g) : RdB S w v xs := by
  obtain ⟨a, cap, hv, hc, hx⟩ := reads_of_owns h
  refine ⟨a, cap, hv, hc, ?_⟩
  rcases hx with hx | ⟨b, off, rfl, hlt, hx⟩
  · exact .inl hx
  · exact .inr ⟨b, off, rfl, hs b (by rw [hv]; rfl), hx⟩
theorem owns_sl {w : World} {lo : Nat} {e : TypeId} {sz n : Nat} {v : Value} {xs : List Value} (hg : w.ownsRow lo e sz v n xs) : ∃ q cap, v = .slice q n cap := by
  rcases hg.2 with ⟨h1, h2⟩ | ⟨g, cap, cur, h1, _⟩
  · exact ⟨none, 0, by rw [h1, h2]⟩
  · exact ⟨_, _, h1⟩
def put3 (ys : List Value) (i : Nat) (a b c : Value) : List Value := ((ys.set (i * 5) a).set (i * 5 + 1) b).set (i * 5 + 2) c
theorem put3_other {ys : List Value} {i j : Nat} {a b c : Value} (h : j < i * 5 ∨ i * 5 + 2 < j) : (put3 ys i a b c)[j]? = ys[j]? := by
  unfold put3
  rw [List.getElem?_set_ne (by omega), List.getElem?_set_ne (by omega), List.getElem?_set_ne (by omega)]
theorem put3_same {ys : List Value} {i : Nat} {a b c : Value} (h : i * 5 + 2 < ys.length) : (put3 ys i a b c)[i * 5]? = some a ∧ (put3 ys i a b c)[i * 5 + 1]? = some b ∧ (put3 ys i a b c)[i * 5 + 2]? = some c := by
  simp [put3, List.getElem?_set, h, show i * 5 < ys.length by omega, show i * 5 + 1 < ys.length by omega]

end Go.Proofs.Ytbhedlobiagngaa

/-! Copies of needs and entries, as the program makes them: contracts for the walks; conditions: they lie in memory, and hold at most 2 to the 20. -/
namespace Go.Proofs.Ytbhedlobiagngaa
open Go.RowKit
set_option linter.unusedSimpArgs false
set_option linter.unusedVariables false

/-- The cells of needs. -/
def needsV (xs : List NeedD) : List Value := xs.flatMap fun d => [.string d.n, .string d.r]
theorem needsV_length (xs : List NeedD) : (needsV xs).length = xs.length * 2 := by
  induction xs with
  | nil => rfl
  | cons d l ih => simp only [needsV, List.flatMap_cons, List.length_append, List.length_cons, List.length_nil] at *; omega
theorem needsV_append (xs ys : List NeedD) : needsV xs ++ needsV ys = needsV (xs ++ ys) := by simp [needsV]
theorem needsV_take (xs : List NeedD) (k : Nat) (h : k < xs.length) : needsV (xs.take k) ++ [.string xs[k].n, .string xs[k].r] = needsV (xs.take (k + 1)) := by
  rw [List.take_succ_eq_append_getElem h, ← needsV_append]; rfl
theorem needsV_at (xs : List NeedD) : ∀ i (h : i < xs.length), (needsV xs)[i * 2]? = some (.string xs[i].n) ∧ (needsV xs)[i * 2 + 1]? = some (.string xs[i].r) := by
  induction xs with
  | nil => intro i h; simp at h
  | cons d l ih =>
    intro i h
    have e : needsV (d :: l) = [.string d.n, .string d.r] ++ needsV l := by simp [needsV]
    cases i with
    | zero => rw [e]; simp
    | succ i =>
      have h' := ih i (by simpa using h)
      rw [e, List.getElem?_append_right (by simp; omega), List.getElem?_append_right (by simp; omega)]
      simp only [List.length_cons, List.length_nil]
      rw [show (i + 1) * 2 - (0 + 1 + 1) = i * 2 by omega, show (i + 1) * 2 + 1 - (0 + 1 + 1) = i * 2 + 1 by omega]
      simpa using h'
theorem needs_own {w : World} {lo : Nat} {v : Value} {xs : List NeedD} (h : w.ownsRow lo 105 2 v xs.length (needsV xs)) (hl : xs.length ≤ maxLen) (hs : ∀ d ∈ xs, d.n.size ≤ maxLen ∧ d.r.size ≤ maxLen) : RowOwn shNeed 105 (Ow lo w.heap.size) w v xs := by
  refine ⟨hl, needsV xs, owns_lo (Nat.zero_le _) h, owns_in h, fun i hi _ => ⟨[.string xs[i].n, .string xs[i].r], rfl, ⟨rfl, hs _ (List.getElem_mem hi)⟩, fun j hj => ?_⟩⟩
  obtain ⟨h1, h2⟩ := needsV_at xs i hi
  match j, hj with
  | 0, _ => exact h1
  | 1, _ => exact h2

theorem owns_of_belowN {w w' : World} {lo sz n : Nat} {e : TypeId} {v : Value} {xs : List Value} (h : w.ownsRow lo e sz v n xs) (hb : Below w.heap.size w w') : w'.ownsRow lo e sz v n xs := h.kept (grown_of_below hb none) (by cases hq : v.ownBlock <;> simp)
theorem cells_put {w : World} {N M : Nat} {o : Obj} (h : w.heap[N]? = some o) (hne : N ≠ M) (j : Nat) (v : Value) : (w.setCell ⟨M, j, none⟩ v).heap[N]? = some o := (Below.heap_setCell w ⟨M, j, none⟩ v N (by simpa using hne)).trans h
theorem two_src (w : World) (c0 c1 : Value) : ∀ j u, ([c0, c1] : List Value)[j]? = some u → (w.alloc (.cells #[c0, c1] 105)).cell? ((⟨w.heap.size, 0, none⟩ : Addr).add j) = some u := fun j u hu => by
  have e : ((⟨w.heap.size, 0, none⟩ : Addr).add j) = ⟨w.heap.size, j, none⟩ := by unfold Addr.add; split <;> simp_all
  rw [e, vblk_cell (vheap_new _ _) j]
  simpa using hu

end Go.Proofs.Ytbhedlobiagngaa

/-! A list of texts in blocks of its own, and what a walk leaves of it: laws for the walks; no condition. -/
namespace Go.Proofs.Ytbhedlobiagngaa
open Go.RowKit
set_option linter.unusedSimpArgs false
set_option linter.unusedVariables false

/-- A list of texts in blocks from lo up to hi. -/
def StrR (lo hi : Nat) (W : World) (u : Value) (ss : List ByteArray) : Prop := StrsOwn (Ow lo hi) W u ss ∧ hi ≤ W.heap.size
theorem StrR.chg {lo hi : Nat} {W W' : World} {u : Value} {ss : List ByteArray} {S : Nat → Prop} (h : StrR lo hi W u ss) (k : Chg S W W') (n : ∀ b, Ow lo hi b → ¬ S b) : StrR lo hi W' u ss :=
  ⟨h.1.keep (fun b hb => k.block b (Nat.lt_of_lt_of_le hb.2 h.2) (n b hb)), Nat.le_trans h.2 k.size⟩
theorem StrR.below {lo hi : Nat} {W W' : World} {u : Value} {ss : List ByteArray} (h : StrR lo hi W u ss) (k : Below W.heap.size W W') : StrR lo hi W' u ss := h.chg (Chg.of (S := fun _ => False) k) (fun _ _ => id)
theorem strR_of {lo : Nat} {W : World} {u : Value} {ss : List ByteArray} (h : W.ownsRow lo 9 1 u ss.length (strsV ss)) : StrR lo W.heap.size W u ss := ⟨⟨owns_lo (Nat.zero_le _) h, fun g hg => owns_in h g hg⟩, Nat.le_refl _⟩
theorem below_chgW {B : Nat} {S : Nat → Prop} {w W W' : World} (h : Below B w W) (k : Chg S W W') (hs : ∀ b, S b → B ≤ b) (hB : B ≤ W.heap.size) : Below B w W' :=
  ⟨k.os.trans h.os, k.tape.trans h.tape, k.output.trans h.output, Nat.le_trans h.size k.size, fun b hb => (k.block b (Nat.lt_of_lt_of_le hb hB) (fun hS => by have := hs b hS; omega)).trans (h.block b hb)⟩
end Go.Proofs.Ytbhedlobiagngaa

/-! Who uses a pack, as the program answers it: a contract for the walks; conditions: the row of packs lies in memory, and holds at most 2 to the 20. -/
namespace Go.Proofs.Ytbhedlobiagngaa
open Go.RowKit
set_option linter.unusedSimpArgs false
set_option linter.unusedVariables false

theorem cell_one_at {W : World} {n : Nat} {x : Value} {t : TypeId} (h : n = W.heap.size) : ∀ j u, [x][j]? = some u → (W.alloc (.cells #[x] t)).cell? ((⟨n, 0, none⟩ : Addr).add j) = some u := by subst h; exact cell_one_new W x t

set_option maxHeartbeats 2000000 in
set_option maxRecDepth 100000 in
theorem indexS_c (v : Value) (ss : List ByteArray) (s : ByteArray) (w : World) (hv : Reads w v (strsV ss)) (hn : ss.length ≤ 1099511627776) :
    Calls Try.prog 63 #[v, .string s] w fun e w' => (∃ r : Int, e = .returned (.int .i64 r) ∧ decide (0 ≤ r) = hasS ss s) ∧ w = w' := by
  obtain ⟨a, cap, rfl, _, hc⟩ := reads_strs hv
  clear hv
  rcases hc with rfl | ⟨b, off, rfl, hlt, hc⟩
  · go_enter Try.func63, Try.ntmps63
    go_wp2
    go_loop [8] (fun vi => vi = .int .i64 0) (fun _ => 0)
    case atStart => rfl
    case round =>
      obtain rfl := hrel
      go_wp2
      go_ret
      exact ⟨⟨-1, rfl, by simp [hasS]⟩, rfl⟩
  · go_enter Try.func63, Try.ntmps63
    go_wp2
    go_loop [8] (fun vi => ∃ k : Nat, k ≤ ss.length ∧ vi = .int .i64 (k : Int) ∧ Hid (∀ j (h : j < ss.length), j < k → ss[j] ≠ s)) (fun vi => ss.length - (intOf vi).toNat)
    case atStart => exact ⟨0, Nat.zero_le _, rfl, fun j h hj => by omega⟩
    case round =>
      obtain ⟨k, hk, rfl, hh⟩ := hrel
      by_cases hlt' : k < ss.length
      · have hcx := hc k hlt'
        obtain ⟨t, ht⟩ : ∃ t, t = ss[k] := ⟨_, rfl⟩
        rw [← ht] at hcx
        have HT : Hid (t = ss[k]) := ht
        have hki : (k : Int) < (ss.length : Int) := by omega
        clear hc ht
        go_wp2
        · have h1 : (s.toList == t.toList) = true := by assumption
          have e : s = t := bytes_eq_of_toList (by simpa using h1)
          have hm : s ∈ ss := by rw [e, HT.out]; exact List.getElem_mem hlt'
          go_ret
          exact ⟨⟨(k : Int), rfl, by rw [(hasS_iff ss s).2 hm]; simp⟩, rfl⟩
        · have h1 : (s.toList == t.toList) = false := by assumption
          have e : t ≠ s := fun e => by subst e; simp at h1
          go_round
          case rel => exact ⟨k + 1, by omega, by go_num, fun j h hj => (by
            by_cases ej : j = k
            · subst ej; rw [← HT.out]; exact e
            · exact hh.out j h (by omega))⟩
          case measure => simp [intOf]; omega
      · have he : k = ss.length := by omega
        subst he
        have hm : ¬ s ∈ ss := fun hm => by
          obtain ⟨j, hj, e⟩ := List.getElem_of_mem hm
          exact hh.out j hj hj e
        have hf : hasS ss s = false := by
          cases hq : hasS ss s with
          | false => rfl
          | true => exact absurd ((hasS_iff ss s).1 hq) hm
        have HF := hidden hf
        clear hc hf
        go_wp2
        go_ret
        exact ⟨⟨-1, rfl, by rw [HF.out]; rfl⟩, rfl⟩

theorem containsS_c (v : Value) (ss : List ByteArray) (s : ByteArray) (w : World) (hv : Reads w v (strsV ss)) (hn : ss.length ≤ 1099511627776) :
    Calls Try.prog 35 #[v, .string s] w fun e w' => e = .returned (.bool (hasS ss s)) ∧ w = w' := by
  have HI := hidden (indexS_c v ss s w hv hn)
  obtain ⟨a, cap, rfl, _, _⟩ := reads_strs hv
  clear hv
  go_enter Try.func35, Try.ntmps35
  go_wp2_with (go_at_call 63; refine HI.out.mono ?_; rintro e w1 ⟨⟨r, rfl, hr⟩, rfl⟩)
  go_ret
  exact ⟨by rw [← hr]; rfl, rfl⟩

set_option maxHeartbeats 4000000 in
set_option maxRecDepth 100000 in
theorem implUsedBy_c (S : Nat → Prop) (v : Value) (xs : List PackD) (s : ByteArray) (w : World) (hv : RowIn shPack S w v xs) (hB : ∀ b, S b → b < w.heap.size) (hw : wtRow wtPack xs ≤ 1048576) :
    Calls Try.prog 12 #[v, .string s] w fun e w' => ∃ (u : Value) (ys : List ByteArray), e = .returned u ∧ w'.ownsRow w.heap.size 9 1 u ys.length (strsV ys) ∧ risesS ys ∧ (∀ x, x ∈ ys ↔ x ∈ usersL xs s) ∧ ys.length ≤ xs.length ∧ Below w.heap.size w w' := by
  have hl2 := len_wtRow wtPack xs
  have hlen : xs.length ≤ 1048576 := by omega
  have hwe : ∀ d ∈ xs, d.uses.length ≤ 1048576 ∧ d.name.size ≤ 1048576 := fun d hd => by
    have h1 := Nat.le_trans (wt_wtRow wtPack hd) hw
    unfold wtPack bulkS at h1
    omega
  have hnm : ∀ x ∈ usersL xs s, x.size ≤ 1048576 := fun x hx => by
    obtain ⟨d, hd, _, rfl⟩ := mem_usersL.1 hx
    exact (hwe d hd).2
  have HNM := hidden hnm
  clear hl2 hw hnm
  obtain ⟨i0, hi, hz0, hz1, hz2⟩ := info_parts infoS
  obtain ⟨a, cap, rfl, hl, hc, ha⟩ := hv
  unfold maxLen at hl
  go_enter Try.func12, Try.ntmps12
  go_wp2_with fail
  go_loopw [5, 10] (fun vo vi wr => ∃ (k : Nat) (ys : List ByteArray), k ≤ xs.length ∧ vi = .int .i64 (k : Int) ∧ Hid (ys = usersL (xs.take k) s) ∧ ys.length ≤ k ∧ wr.ownsRow w.heap.size 9 1 vo ys.length (strsV ys) ∧ Below w.heap.size w wr) (fun _ vi _ => xs.length - (intOf vi).toNat)
  case atStart => exact ⟨0, [], Nat.zero_le _, rfl, rfl, Nat.le_refl _, World.ownsRow_nil _ _ _ _, Below.refl _ _⟩
  case round =>
    obtain ⟨k, ys, hk, rfl, hys, hyk, hown, hbr⟩ := hrel
    obtain ⟨qo, co, hvo⟩ := owns_slG hown
    subst hvo
    by_cases hlt' : k < xs.length
    · rcases ha with rfl | ⟨b, off, rfl, hlt, ha⟩
      · simp at hlt'
      obtain ⟨cs, hL, hcell⟩ := ha k hlt'
      have hBr : ∀ b, S b → b < wr.heap.size := fun b h => Nat.lt_of_lt_of_le (hB b h) hbr.size
      have hcell2 := hcell.keep (.of hbr hB) hlt
      replace hL := shPack.keep (.of hbr hB) hL
      have HT := hidden (usersL_take xs s k hlt')
      have hul := (hwe xs[k] (List.getElem_mem hlt')).1
      rw [← hys.out] at HT
      obtain ⟨d, hd⟩ : ∃ d, d = xs[k] := ⟨_, rfl⟩
      rw [← hd] at hL HT hul
      obtain ⟨u0, u1, u2, rfl, _, r0, p0, r1', r2'⟩ := hL
      have HC' : ∀ w1, Below wr.heap.size wr w1 → Calls Try.prog 35 #[u0, .string s] w1 fun e w' => e = .returned (.bool (hasS d.uses s)) ∧ w1 = w' := fun w1 h => containsS_c u0 d.uses s w1 ((r0.keep (.of h hBr)).reads (fun b hb => Nat.lt_of_lt_of_le (hBr b hb) h.size)) (by omega)
      have HC := hidden HC'
      clear HC'
      obtain ⟨a0, c0, eu0, _⟩ := id r0
      rw [length_strsV] at eu0
      obtain ⟨a1, c1, eu1, _⟩ := id r1'
      obtain ⟨a2, c2, eu2, _⟩ := id r2'
      subst eu0 eu1 eu2
      have e0 : wr.cell? ⟨b, off + k * 4, none⟩ = some (.string d.name) := hcell2 0 (by simp)
      have e1 : wr.cell? ⟨b, off + k * 4 + 1, none⟩ = some (.slice a0 d.uses.length c0) := hcell2 1 (by simp)
      have e2 : wr.cell? ⟨b, off + k * 4 + 2, none⟩ = some (.slice a1 d.needs.length c1) := hcell2 2 (by simp)
      have e3 : wr.cell? ⟨b, off + k * 4 + 3, none⟩ = some (.slice a2 d.cmds.length c2) := hcell2 3 (by simp)
      have hki : (k : Int) < (xs.length : Int) := by omega
      obtain ⟨t, ht⟩ : ∃ t, t = d.name := ⟨_, rfl⟩
      rw [← ht] at e0 HT
      obtain ⟨r, hr⟩ : ∃ r, r = hasS d.uses s := ⟨_, rfl⟩
      rw [← hr] at HC HT
      have hb0 : Below wr.heap.size wr (wr.alloc (.cells #[.string t, .slice a0 d.uses.length c0, .slice a1 d.needs.length c1, .slice a2 d.cmds.length c2] 33 (0, 0))) := (Below.refl _ _).alloc (Nat.le_refl _) _
      have o0 := owns_of_belowN hown hb0
      have k0 := hbr.trans (hb0.mono hbr.size)
      have kp := hbr.size
      clear ha hd ht hr hcell hcell2 r0 r1' r2' p0 hown hbr
      cases r with
      | true =>
        have HT2 : Hid (usersL (xs.take (k + 1)) s = ys ++ [t]) := HT.out
        clear HT
        go_wp2_with (first
          | (go_at_call 35; refine (HC.out _ hb0).mono ?_; rintro e w1 ⟨rfl, rfl⟩)
          | (at_builtin; refine wpList_append_own _ rfl _ _ 26 rfl w.heap.size 9 i0 (.string ⟨#[]⟩) 1 16 Try.underlying26 hi hz0 hz1 hz2 rfl (by decide) _ ys.length (strsV ys) rfl (o0.alloc _) ⟨wr.heap.size + 1, 0, none⟩ 1 1 (strsV [t]) rfl rfl (cell_one_at (by simp)) (fun u hu => by simp [strsV] at hu; subst hu; rfl) (by unfold maxLen; omega) (by omega) (by simp; omega) ?_))
        intro v2 w2 o2 gr2 hnil
        have hst : strsV ys ++ strsV [t] = strsV (ys ++ [t]) := by simp [strsV]
        rw [hst] at o2
        have hb2 : Below w.heap.size w w2 := Below.grown (k0.alloc k0.size _) gr2 (by simp; omega) (fun j hj => (o0.lt _ hj).1)
        clear gr2 hnil o0 k0 hst e0 e1 e2 e3 hb0
        go_wp2_with fail
        go_roundw
        case rel => exact ⟨k + 1, ys ++ [t], by omega, by go_num, HT2.out.symm, by simp; omega, by simpa using o2, hb2⟩
        case measure => simp [intOf]; omega
      | false =>
        have HT2 := hidden (show usersL (xs.take (k + 1)) s = ys by rw [HT.out]; simp)
        clear HT
        go_wp2_with (go_at_call 35; refine (HC.out _ hb0).mono ?_; rintro e w1 ⟨rfl, rfl⟩)
        go_roundw
        case rel => exact ⟨k + 1, ys, by omega, by go_num, HT2.out.symm, by omega, o0, k0⟩
        case measure => simp [intOf]; omega
    · have he : k = xs.length := by omega
      subst he
      have HE := hidden (show ys = usersL xs s by rw [hys.out, List.take_length])
      have HS := hidden (implSorted_c (.slice qo ys.length co) ys wr (reads_of_owns hown) (by omega) (fun x hx => HNM.out x (by rw [← HE.out]; exact hx)))
      have hbs := hbr.size
      clear ha hys
      go_wp2_with (go_at_call 36; refine HS.out.mono ?_; rintro e w1 ⟨u, rfl, o1, b1⟩)
      go_ret
      have hl9 : (sortedS ys).length ≤ ys.length := by
        unfold sortedS
        rw [List.length_map]
        have := compact_len (sortL (ys.map bytesL))
        rw [sortL_len, List.length_map] at this
        exact this
      exact ⟨u, sortedS ys, rfl, owns_lo hbr.size o1, sortedS_rises ys, fun x => by rw [sortedS_mem, HE.out], by omega, hbr.trans (b1.mono hbr.size)⟩

theorem usersL_len2 {xs : List PackD} {s : ByteArray} (hw : wtRow wtPack xs ≤ 1048576) : (sortedS (usersL xs s)).length ≤ 4294967295 := by
  have h1 := usersL_len xs s
  have h2 := len_wtRow wtPack xs
  unfold sortedS
  rw [List.length_map]
  have := compact_len (sortL ((usersL xs s).map bytesL))
  rw [sortL_len, List.length_map] at this
  omega
theorem specUsedBy_s (S : Nat → Prop) (v : Value) (xs : List PackD) (s : ByteArray) (w : World) (hv : RowIn shPack S w v xs) (hB : ∀ b, S b → b < w.heap.size) (hw : wtRow wtPack xs ≤ 1048576) (hs : s.size ≤ 1048576) :
    Calls Try.prog 17 #[v, .string s] w fun e w' => ∃ u, e = .returned u ∧ StrR w.heap.size w'.heap.size w' u (sortedS (usersL xs s)) ∧ (sortedS (usersL xs s)).length ≤ 4294967295 ∧ Below w.heap.size w w' :=
  (specUsedBy_c S v xs s w hv hB hw).mono (by
    rintro e w' ⟨u, ys, rfl, o, hr, hm, _, hb⟩
    obtain rfl : ys = sortedS (usersL xs s) := risesS_eq hr (sortedS_rises _) (fun x => by rw [hm x, sortedS_mem])
    exact ⟨u, rfl, strR_of o, usersL_len2 hw, hb⟩)
theorem implUsedBy_s (S : Nat → Prop) (v : Value) (xs : List PackD) (s : ByteArray) (w : World) (hv : RowIn shPack S w v xs) (hB : ∀ b, S b → b < w.heap.size) (hw : wtRow wtPack xs ≤ 1048576) (hs : s.size ≤ 1048576) :
    Calls Try.prog 12 #[v, .string s] w fun e w' => ∃ u, e = .returned u ∧ StrR w.heap.size w'.heap.size w' u (sortedS (usersL xs s)) ∧ (sortedS (usersL xs s)).length ≤ 4294967295 ∧ Below w.heap.size w w' :=
  (implUsedBy_c S v xs s w hv hB hw).mono (by
    rintro e w' ⟨u, ys, rfl, o, hr, hm, _, hb⟩
    obtain rfl : ys = sortedS (usersL xs s) := risesS_eq hr (sortedS_rises _) (fun x => by rw [hm x, sortedS_mem])
    exact ⟨u, rfl, strR_of o, usersL_len2 hw, hb⟩)
end Go.Proofs.Ytbhedlobiagngaa
