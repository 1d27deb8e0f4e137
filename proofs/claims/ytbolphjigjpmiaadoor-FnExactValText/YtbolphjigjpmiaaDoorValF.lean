/-
  The program's reading of a list of values, given its reading of each: for every list that lies in memory and holds at most 2 to the 20.
-/
import Derived.Test.YtbolphjigjpmiaaDoorAppB
namespace Go.Proofs.YtbolphjigjpmiaaDoor
open Go.RowKit
set_option linter.unusedSimpArgs false
set_option linter.unusedVariables false

/-- The blocks from lo on, below hi, but one. -/
def Off (lo hi : Nat) (o : Option Nat) (b : Nat) : Prop := lo ≤ b ∧ b < hi ∧ some b ≠ o

/-- The interface value x is the list l. -/
def XList (S : Nat → Prop) (w : World) (x : Value) (l : List Tree) : Prop :=
  ∃ a cap, ∃ X : Nat → Value, x = .iface 60 (.slice a l.length cap) ∧ l.length ≤ cap ∧
    (l = [] ∨ ∃ b off, a = some ⟨b, off, none⟩ ∧ S b ∧ ∀ i, i < l.length → w.cell? ⟨b, off + i, none⟩ = some (X i)) ∧ ∀ i (h : i < l.length), XLies S w (X i) l[i]
/-- The interface value x is the map of these keys and values. -/
def XMap (S : Nat → Prop) (w : World) (x : Value) (l : List Tree) (ks : List ByteArray) : Prop :=
  ∃ a cap, ∃ X : Nat → Value, x = .iface 63 (.slice a l.length cap) ∧ l.length ≤ cap ∧
    (l = [] ∨ ∃ b off, a = some ⟨b, off, none⟩ ∧ S b ∧ ∀ i, i < l.length → w.cell? ⟨b, off + i * 2, none⟩ = some (.string (ks.getD i ⟨#[]⟩)) ∧ w.cell? ⟨b, off + i * 2 + 1, none⟩ = some (X i)) ∧ ∀ i (h : i < l.length), XLies S w (X i) l[i]

def ValueC (T : Tree) : Prop := ∀ (S : Nat → Prop) (v : Value) (w : World) (d g : Nat) (c : Int), Lies S w v T → (∀ b, S b → b < w.heap.size ∧ b ≠ g) → CtrAt w g c → 0 ≤ c → c ≤ 80 → 1 ≤ d → d ≤ 7 → T.wt ≤ 1048576 →
  Calls Tryd.prog 22 #[.pointer (some ⟨g, 0, none⟩), v, .int .i64 (d : Int)] w fun e w' => ∃ x c1, e = .returned (.tuple #[x, .bool (T.good d && decide (c + (T.nodes : Int) ≤ 80))]) ∧ CtrAt w' g c1 ∧ w.grownBy w' (some g) ∧
    (T.good d = true → c + (T.nodes : Int) ≤ 80 → c1 = c + (T.nodes : Int) ∧ XLies (Own w.heap.size w'.heap.size) w' x T)

def ListC (l : List Tree) : Prop := ∀ (S : Nat → Prop) (v : Value) (w : World) (d g : Nat) (c : Int), LiesL S w v l → (∀ b, S b → b < w.heap.size ∧ b ≠ g) → CtrAt w g c → 0 ≤ c → c ≤ 80 → 1 ≤ d → d ≤ 6 → wtL l ≤ 1048576 →
  Calls Tryd.prog 34 #[.pointer (some ⟨g, 0, none⟩), v, .int .i64 (d : Int)] w fun e w' => ∃ x c1, e = .returned (.tuple #[x, .bool (goodL l (d + 1) && decide (c + (nodesL l : Int) ≤ 80))]) ∧ CtrAt w' g c1 ∧ w.grownBy w' (some g) ∧
    (goodL l (d + 1) = true → c + (nodesL l : Int) ≤ 80 → c1 = c + (nodesL l : Int) ∧ XList (Own w.heap.size w'.heap.size) w' x l)

theorem gtrans {a b c : World} {r : Option Nat} (h : a.grownBy b r) (k : b.grownBy c r) : a.grownBy c r := grown_trans h k
theorem galloc (w : World) (o : Obj) (r : Option Nat) : w.grownBy (w.alloc o) r := World.grownBy_alloc w o r
theorem CtrAt.alloc {w : World} {g : Nat} {c : Int} (h : CtrAt w g c) (o : Obj) : CtrAt (w.alloc o) g c := h.keep ((Below.refl _ _).alloc (Nat.le_refl _) _)
theorem CtrAt.grown {w w' : World} {g : Nat} {c : Int} {r : Option Nat} (h : CtrAt w g c) (hg : w.grownBy w' r) (hr : some g ≠ r) : CtrAt w' g c := (hg.block g h.lt hr).trans h
theorem Lies.grown {S : Nat → Prop} {w w' : World} {g : Nat} {v : Value} {T : Tree} (h : Lies S w v T) (hg : w.grownBy w' (some g)) (hS : ∀ b, S b → b < w.heap.size ∧ b ≠ g) : Lies S w' v T :=
  h.keep fun b hb => hg.block b (hS b hb).1 (fun e => (hS b hb).2 (by simpa using e))
theorem grow_own {w w' : World} {g : Nat} {r : Option Nat} (h : w.grownBy w' r) (hr : ∀ k, r = some k → w.heap.size ≤ k) : w.grownBy w' (some g) :=
  ⟨h.os, h.tape, h.output, h.size, fun k hk _ => h.block k hk (fun e => by have := hr k e.symm; omega)⟩

theorem xlist_of {w : World} {N : Nat} {vo : Value} {l : List Tree} {xs : List Value} (hown : w.ownsRow N 40 1 vo l.length xs)
    (hX : ∀ j (h : j < l.length), XLies (Own N w.heap.size) w (xs.getD j undef) l[j]) : XList (Own N w.heap.size) w (.iface 60 vo) l := by
  have hlen := hown.1
  rcases hown.2 with ⟨rfl, h0⟩ | ⟨gb, cap, cur, rfl, hb, hg, hn, hcap, hsz, htake⟩
  · have : l = [] := List.eq_nil_of_length_eq_zero h0
    subst this
    exact ⟨none, 0, fun _ => undef, rfl, Nat.le_refl _, .inl rfl, fun i h => by simp at h⟩
  · refine ⟨_, cap, fun j => xs.getD j undef, rfl, hn, .inr ⟨gb, 0, rfl, ⟨hb, (Array.getElem?_eq_some_iff.1 hg).1⟩, fun i hi => ?_⟩, hX⟩
    rw [Nat.zero_add, hown.cellAt i (by omega)]
    simp [List.getD_eq_getElem?_getD, show i < xs.length by omega]

set_option maxHeartbeats 4000000 in
set_option maxRecDepth 100000 in
theorem list_step (l : List Tree) (ih : ∀ U ∈ l, ValueC U) : ListC l := by
  intro S v w d g c hv hB hct h0 h1 hd1 hd6 hw
  obtain ⟨a, cap, rfl, hlm, hcp, ha⟩ := hv.at
  have hn := length_le_wtL l
  unfold maxLen at hlm
  have hgN := hct.lt
  obtain ⟨i0, hi, hz0, hz1, hz2⟩ := info_parts infoValue
  go_enter Tryd.func34, Tryd.ntmps34
  go_wp2_with fail
  go_loopw [8, 15] (fun v8 vi wr => ∃ (vo : Value) (i : Nat) (xs : List Value) (c' : Int), vo = v8 ∧ i ≤ l.length ∧ vi = .int .i64 (i : Int) ∧ wr.ownsRow w.heap.size 40 1 vo i xs ∧ CtrAt wr g c' ∧ w.grownBy wr (some g) ∧ 0 ≤ c' ∧ c' ≤ 80 ∧ Hid (goodL (l.take i) (d + 1) = true ∧ c' = c + (nodesL (l.take i) : Int) ∧ ∀ j (h : j < l.length), j < i → XLies (Off w.heap.size wr.heap.size vo.ownBlock) wr (xs.getD j undef) l[j])) (fun _ vi _ => l.length - (intOf vi).toNat)
  case atStart => exact ⟨_, 0, [], c, rfl, Nat.zero_le _, rfl, World.ownsRow_nil _ _ _ _, hct, ⟨rfl, rfl, rfl, Nat.le_refl _, fun _ _ _ => rfl⟩, h0, h1, ⟨by simp [goodL], by simp [nodesL], fun j h hj => by omega⟩⟩
  case round =>
    obtain ⟨vo, i, xs, c', rfl, hil, rfl, hown, hcr, hgr, hc0, hc1, hh⟩ := hrel
    by_cases hlt : i < l.length
    · rcases ha with rfl | ⟨b, off, rfl, hlb, ha⟩
      · simp at hlt
      obtain ⟨y0, y1, y2, y3, y4, e0, e1, e2, e3, e4, hT⟩ := ha i hlt
      have hcell : ∀ o, wr.cell? ⟨b, o, none⟩ = w.cell? ⟨b, o, none⟩ := fun o => World.cell?_of_block (w := w) (hgr.block b (hB b hlb).1 (fun e => (hB b hlb).2 (by simpa using e)))
      rw [← hcell] at e0 e1 e2 e3 e4
      have ihk := ih _ (List.getElem_mem hlt)
      have hwt : (l[i]).wt ≤ 1048576 := by have := wt_le_wtL (List.getElem_mem hlt); omega
      have hn1 := nodesL_take_succ l i hlt
      have hg1 := goodL_take_succ l i (d + 1) hlt
      obtain ⟨U, hU⟩ : ∃ U, U = l[i] := ⟨_, rfl⟩
      rw [← hU] at hT ihk hn1 hg1 hwt
      have HN : Hid (nodesL (l.take (i + 1)) = nodesL (l.take i) + U.nodes ∧ goodL (l.take (i + 1)) (d + 1) = (goodL (l.take i) (d + 1) && U.good (d + 1)) ∧ U = l[i]) := ⟨hn1, hg1, hU⟩
      have hki : (i : Int) < (l.length : Int) := by omega
      obtain ⟨p1, p2, p3, p4, p5, p6, p7, p8, p9, hag⟩ := hT.parts
      have hag' := congrArg (fun v => v.cells.toList) hag
      simp [Value.cells] at hag'
      obtain ⟨rfl, rfl, rfl, rfl, rfl⟩ := hag'
      clear hag
      obtain ⟨o9, ho9⟩ : ∃ o9, o9 = Obj.cells #[.int .i64 p1, .int .i64 p2, .string p3, .slice p4 p5 p6, .slice p7 p8 p9] 30 := ⟨_, rfl⟩
      have hT' : Lies S (wr.alloc o9) _ U := (hT.grown hgr hB).keep fun b hb => heap_old wr _ (Nat.lt_of_lt_of_le (hB b hb).1 hgr.size)
      have hBr : ∀ b, S b → b < (wr.alloc o9).heap.size ∧ b ≠ g := fun b h => ⟨by have := (hB b h).1; have := hgr.size; simp; omega, (hB b h).2⟩
      have hcall := ihk S _ (wr.alloc o9) (d + 1) g c' hT' hBr (hcr.alloc _) hc0 hc1 (by omega) (by omega) hwt
      rw [show (((d + 1 : Nat)) : Int) = (d : Int) + 1 by omega] at hcall
      rw [ho9] at hcall
      obtain ⟨ok, hok⟩ : ∃ ok, ok = (U.good (d + 1) && decide (c' + (U.nodes : Int) ≤ 80)) := ⟨_, rfl⟩
      rw [← hok] at hcall
      have HOK : Hid (ok = (U.good (d + 1) && decide (c' + (U.nodes : Int) ≤ 80))) := hok
      clear ha ih hT hT' hn1 hg1 ihk hv hok ho9 hcell
      have hle1 := nodesL_take_le l (i + 1)
      have hgt := fun h => goodL_take l (i + 1) (d + 1) h
      have HL : Hid (nodesL (l.take (i + 1)) ≤ nodesL l ∧ (goodL l (d + 1) = true → goodL (l.take (i + 1)) (d + 1) = true)) := ⟨hle1, hgt⟩
      clear hle1 hgt
      cases ok with
      | false =>
        go_wp2_with (go_at_call 22; refine hcall.mono ?_; rintro e w2 ⟨x, c1, rfl, ct2, g2, _⟩)
        go_ret2
        have hf : (goodL l (d + 1) && decide (c + (nodesL l : Int) ≤ 80)) = false := by
          obtain ⟨hn1, hg1, _⟩ := HN.out
          obtain ⟨hl1, hl2⟩ := HL.out
          obtain ⟨q1, q2, _⟩ := hh.out
          have hk := HOK.out
          cases hgl : goodL l (d + 1) with
          | false => rfl
          | true =>
            have := hl2 hgl
            rw [hg1] at this
            simp at this
            rw [this.2] at hk
            simp at hk ⊢
            omega
        refine ⟨_, c1, by rw [hf]; rfl, ct2, gtrans hgr (gtrans (galloc _ _ _) g2), fun x1 x2 => ?_⟩
        rw [x1] at hf
        simp at hf
        omega
      | true =>
        have hk := HOK.out
        have hk' : U.good (d + 1) = true ∧ c' + (U.nodes : Int) ≤ 80 := by
          have := hk.symm
          simp at this
          exact this
        obtain ⟨hk1, hk2⟩ := hk'
        have HK : Hid (U.good (d + 1) = true ∧ c' + (U.nodes : Int) ≤ 80) := ⟨hk1, hk2⟩
        clear hk hk1 hk2 HOK
        have hownA := hown.alloc (Obj.cells #[.int .i64 p1, .int .i64 p2, .string p3, .slice p4 p5 p6, .slice p7 p8 p9] 30)
        have hvb := hown.lt
        have HV : Hid (∀ k, vo.ownBlock = some k → w.heap.size ≤ k ∧ k < wr.heap.size) := hvb
        clear hvb
        have hnp := nodes_pos U
        have hile : i ≤ 1048576 := by omega
        go_wp2_with (first
          | (go_at_call 22; refine hcall.mono ?_; rintro e w2 ⟨x, c1, rfl, ct2, g2, hx⟩; obtain ⟨hx1, hx2⟩ := hx HK.out.1 HK.out.2; obtain ⟨xt, xv, rfl⟩ := hx2.iface; have hown2 := hownA.kept g2 (by cases hb : vo.ownBlock with | none => exact .inl rfl | some k => right; have := HV.out k hb; simp; omega))
          | (at_builtin; refine wpList_append_block _ rfl _ _ 60 rfl w.heap.size 40 i0 .nilIface 1 16 Tryd.underlying60 hi hz0 hz1 hz2 rfl (by decide) _ i xs rfl (hown2.alloc _) ⟨w2.heap.size, 0, none⟩ 1 1 [.iface xt xv] rfl rfl (cell_one_new _ _ _) (fun u hu => by simp at hu; subst hu; rfl) (by unfold maxLen; omega) (by omega) (by have h1 := hgr.size; have h2 := g2.size; simp at h2 ⊢; omega) (by decide) ?_))
        intro v3 w3 o3 g3 hb3
        go_wp2_with fail
        go_roundw
        case rel =>
          obtain ⟨hn1, hg1, hUi⟩ := HN.out
          obtain ⟨q1, q2, q3⟩ := hh.out
          have hlen := hown.1
          have sA : (wr.alloc (Obj.cells #[.int .i64 p1, .int .i64 p2, .string p3, .slice p4 p5 p6, .slice p7 p8 p9] 30)).heap.size = wr.heap.size + 1 := by simp
          have z2 := g2.size
          rw [sA] at z2 hx2
          have sB : (w2.alloc (Obj.cells #[.iface xt xv] 40)).heap.size = w2.heap.size + 1 := by simp
          have z3 := g3.size
          rw [sB] at z3
          have hb4 : v3.ownBlock = vo.ownBlock ∨ v3.ownBlock = some (w2.heap.size + 1) := by first | exact hb3 | (rw [sB] at hb3; exact hb3)
          have hgz := hgr.size
          have gAB : (wr.alloc (Obj.cells #[.int .i64 p1, .int .i64 p2, .string p3, .slice p4 p5 p6, .slice p7 p8 p9] 30)).grownBy (w2.alloc (Obj.cells #[.iface xt xv] 40)) (some g) := gtrans g2 (galloc _ _ _)
          have g0 : wr.grownBy (w2.alloc (Obj.cells #[.iface xt xv] 40)) (some g) := gtrans (galloc _ _ _) gAB
          have hgv : some g ≠ vo.ownBlock := fun e => by have := HV.out g e.symm; omega
          refine ⟨v3, i + 1, xs ++ [.iface xt xv], c1, rfl, by omega, by go_num, o3, (ct2.alloc _).grown g3 hgv, ?_, by omega, by have := HK.out.2; omega, ⟨by rw [hg1, q1, HK.out.1]; rfl, by rw [hx1, hn1, q2]; omega, fun j h hj => ?_⟩⟩
          · refine ⟨g3.os.trans (g0.os.trans hgr.os), g3.tape.trans (g0.tape.trans hgr.tape), g3.output.trans (g0.output.trans hgr.output), by omega, fun k hk hne => ?_⟩
            rw [g3.block k (by rw [sB]; omega) (fun e => by have := HV.out k e.symm; omega), g0.block k (by omega) hne, hgr.block k hk hne]
          · have hoff : ∀ b, w.heap.size ≤ b → b < w2.heap.size → some b ≠ vo.ownBlock → Off w.heap.size w3.heap.size v3.ownBlock b := fun b h1 h2 h3 => ⟨h1, by omega, fun e => by
              rcases hb4 with hb | hb
              · exact h3 (e.trans hb)
              · rw [hb] at e; simp at e; omega⟩
            by_cases hji : j = i
            · subst hji
              have ex : (xs ++ [Value.iface xt xv]).getD j undef = .iface xt xv := by
                rw [List.getD_eq_getElem?_getD, List.getElem?_append_right (by omega)]; simp [show j - xs.length = 0 by omega]
              rw [ex, ← hUi]
              have hne : ∀ b, Own (wr.heap.size + 1) w2.heap.size b → some b ≠ vo.ownBlock := fun b hb e => by have := HV.out b e.symm; have := hb.1; omega
              refine (hx2.keep fun b hb => ?_).mono fun b hb => hoff b (by have := hb.1; omega) hb.2 (hne b hb)
              rw [g3.block b (by rw [sB]; have := hb.2; omega) (hne b hb), heap_old _ _ hb.2]
            · have ex : (xs ++ [Value.iface xt xv]).getD j undef = xs.getD j undef := by
                rw [List.getD_eq_getElem?_getD, List.getElem?_append_left (by omega), ← List.getD_eq_getElem?_getD]
              rw [ex]
              refine ((q3 j h (by omega)).keep fun b hb => ?_).mono fun b hb => hoff b hb.1 (by have := hb.2.1; omega) hb.2.2
              rw [g3.block b (by rw [sB]; have := hb.2.1; omega) hb.2.2, g0.block b hb.2.1 (fun e => by simp at e; have := hb.1; omega)]
        case measure => simp [intOf]; omega
    · have he : i = l.length := by omega
      subst he
      clear ha
      go_wp2_with fail
      go_ret2
      obtain ⟨q1, q2, q3⟩ := hh.out
      rw [List.take_length] at q1 q2
      have hf : (goodL l (d + 1) && decide (c + (nodesL l : Int) ≤ 80)) = true := by rw [q1]; simp; omega
      refine ⟨_, c', by rw [hf]; rfl, hcr, hgr, fun _ _ => ⟨q2, xlist_of hown fun j h => (q3 j h h).mono fun b hb => ⟨hb.1, hb.2.1⟩⟩⟩
end Go.Proofs.YtbolphjigjpmiaaDoor
