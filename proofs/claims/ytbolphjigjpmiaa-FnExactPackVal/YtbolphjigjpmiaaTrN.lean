/-
  Marks put into a tree of values that may be written, as the law puts them: contracts for the walks; conditions: no two rows are the same, and there are at most 2 to the 32 marks.
-/
import Derived.Test.YtbolphjigjpmiaaTrM
namespace Go.Proofs.Ytbolphjigjpmiaa
open Go.RowKit
set_option linter.unusedSimpArgs false
set_option linter.unusedVariables false

def MarkC (l : List Tree) : Prop := ∀ (S : Nat → Prop) (v : Value) (w : World) (k : Nat), OwnL w S v l → (∀ b, S b → b < w.heap.size) → 1 ≤ k → k + cntL l ≤ 4294967296 →
  Calls Try.prog 58 #[v, .int .i64 (k : Int)] w fun e w' => e = .returned (.int .i64 ((k + cntL l : Nat) : Int)) ∧ MarkL w' S k v l ∧ Chg S w w'

/-- What is done, and what is left, when the elements below i bear their marks. -/
structure MInv (w : World) (l : List Tree) (k : Nat) (C U : Nat → Value) (B K : Nat → Nat → Prop) (ys : List Value) (i : Nat) : Prop where
  at34 : ∀ j, j < l.length → ys[j * 5 + 3]? = some (C j) ∧ ys[j * 5 + 4]? = some (U j)
  at012 : ∀ j, j < l.length → i ≤ j → ∃ c0 c1 c2, ys[j * 5]? = some c0 ∧ ys[j * 5 + 1]? = some c1 ∧ ys[j * 5 + 2]? = some c2
  done : ∀ j, j < l.length → j < i → ys[j * 5]? = some (.int .i64 ((k + cntL (l.take j) : Nat) : Int)) ∧ ys[j * 5 + 1]? = some (.int .i64 ((k + cntL (l.take j) + 1 : Nat) : Int)) ∧ ys[j * 5 + 2]? = some (.string (markStr (k + cntL (l.take j) + 2)))
  doneC : ∀ j (h : j < l.length), j < i → MarkL w (B j) (k + cntL (l.take j) + 3) (C j) l[j].kids
  doneU : ∀ j (h : j < l.length), j < i → RdB (K j) w (U j) (strsV (marksS (k + cntL (l.take j) + 3 + cntL l[j].kids) l[j].keys.length))
  leftC : ∀ j (h : j < l.length), i ≤ j → OwnL w (B j) (C j) l[j].kids
  leftU : ∀ j (h : j < l.length), i ≤ j → ∃ xs, w.ownsRow 0 9 1 (U j) l[j].keys.length xs ∧ ∀ g, (U j).ownBlock = some g → K j g

theorem Chg.set {S : Nat → Prop} {w : World} {g j : Nat} {v : Value} (h : S g) : Chg S w (w.setCell ⟨g, j, none⟩ v) :=
  ⟨rfl, rfl, rfl, by simp [World.setCell], fun b hb hn => Below.heap_setCell w ⟨g, j, none⟩ v b (fun e => by have e' : b = g := e; subst e'; exact hn h)⟩
theorem Chg.grown {S : Nat → Prop} {w w' : World} {r : Option Nat} (h : w.grownBy w' r) (hr : ∀ g, r = some g → S g) : Chg S w w' :=
  ⟨h.os, h.tape, h.output, h.size, fun b hb hn => h.block b hb (fun e => hn (hr b e.symm))⟩
theorem rdB_in {S : Nat → Prop} {w : World} {lo : Nat} {e : TypeId} {v : Value} {n : Nat} {xs : List Value} (h : w.ownsRow lo e 1 v n xs) (hs : ∀ g, v.ownBlock = some g → S g) : RdB S w v xs := by
  obtain ⟨a, cap, hv, hc, hx⟩ := reads_of_owns h
  refine ⟨a, cap, hv, hc, ?_⟩
  rcases hx with hx | ⟨b, off, rfl, hlt, hx⟩
  · exact .inl hx
  · exact .inr ⟨b, off, rfl, hs b (by rw [hv]; rfl), hx⟩
theorem owns_sl {w : World} {lo : Nat} {e : TypeId} {sz n : Nat} {v : Value} {xs : List Value} (hg : w.ownsRow lo e sz v n xs) : ∃ q cap, v = .slice q n cap := by
  rcases hg.2 with ⟨h1, h2⟩ | ⟨g, cap, cur, h1, _⟩
  · exact ⟨none, 0, by rw [h1, h2]⟩
  · exact ⟨_, _, h1⟩
def put3 (ys : List Value) (i : Nat) (a b c : Value) : List Value := ((ys.set (i * 5) a).set (i * 5 + 1) b).set (i * 5 + 2) c
theorem put3_other {ys : List Value} {i j : Nat} {a b c : Value} (h : j < i * 5 ∨ i * 5 + 2 < j) : (put3 ys i a b c)[j]? = ys[j]? := by
  unfold put3
  rw [List.getElem?_set_ne (by omega), List.getElem?_set_ne (by omega), List.getElem?_set_ne (by omega)]
theorem put3_same {ys : List Value} {i : Nat} {a b c : Value} (h : i * 5 + 2 < ys.length) : (put3 ys i a b c)[i * 5]? = some a ∧ (put3 ys i a b c)[i * 5 + 1]? = some b ∧ (put3 ys i a b c)[i * 5 + 2]? = some c := by
  simp [put3, List.getElem?_set, h, show i * 5 < ys.length by omega, show i * 5 + 1 < ys.length by omega]

set_option maxHeartbeats 1000000 in
theorem MInv.step {w w' : World} {l : List Tree} {k m : Nat} {C U : Nat → Value} {B K : Nat → Nat → Prop} {ys : List Value} {i : Nat} (h : MInv w l k C U B K ys i) (hi : i < l.length) (hm : m = k + cntL (l.take i)) (hy : i * 5 + 2 < ys.length)
    (hK : ∀ R : Nat → Prop, (∀ j, j ≠ i → (∀ b, R b → B j b) ∨ (∀ b, R b → K j b) → Kp R w w'))
    (hC : MarkL w' (B i) (m + 3) (C i) l[i].kids) (hU : RdB (K i) w' (U i) (strsV (marksS (m + 3 + cntL l[i].kids) l[i].keys.length))) :
    MInv w' l k C U B K (put3 ys i (.int .i64 (m : Int)) (.int .i64 ((m : Int) + 1)) (.string (markStr (m + 2)))) (i + 1) := by
  subst hm
  refine ⟨fun j hj => ?_, fun j hj hij => ?_, fun j hj hij => ?_, fun j hj hij => ?_, fun j hj hij => ?_, fun j hj hij => ?_, fun j hj hij => ?_⟩
  · have := h.at34 j hj
    by_cases e : j = i
    · subst e; rw [put3_other (by omega), put3_other (by omega)]; exact this
    · by_cases e2 : j < i
      · rw [put3_other (by omega), put3_other (by omega)]; exact this
      · rw [put3_other (by omega), put3_other (by omega)]; exact this
  · obtain ⟨c0, c1, c2, h0, h1, h2⟩ := h.at012 j hj (by omega)
    exact ⟨c0, c1, c2, by rw [put3_other (by omega)]; exact h0, by rw [put3_other (by omega)]; exact h1, by rw [put3_other (by omega)]; exact h2⟩
  · by_cases e : j = i
    · subst e
      obtain ⟨a, b, c⟩ := put3_same (a := (.int .i64 ((k + cntL (l.take j) : Nat) : Int))) (b := (.int .i64 (((k + cntL (l.take j) : Nat) : Int) + 1))) (c := (.string (markStr (k + cntL (l.take j) + 2)))) hy
      exact ⟨a, by rw [b]; simp, c⟩
    · have := h.done j hj (by omega)
      rw [put3_other (by omega), put3_other (by omega), put3_other (by omega)]; exact this
  · by_cases e : j = i
    · subst e; exact hC
    · exact (h.doneC j hj (by omega)).keep (hK _ j e (.inl fun b hb => hb))
  · by_cases e : j = i
    · subst e; exact hU
    · exact (h.doneU j hj (by omega)).keep (hK _ j e (.inr fun b hb => hb))
  · exact (h.leftC j hj (by omega)).keep (hK _ j (by omega) (.inl fun b hb => hb))
  · obtain ⟨xs, a, b⟩ := h.leftU j hj (by omega)
    exact ⟨xs, owns_kept (hK _ j (by omega) (.inr fun b hb => hb)) b a, b⟩

set_option maxHeartbeats 4000000 in
set_option maxRecDepth 100000 in
theorem markValS_step (l : List Tree) (ih : ∀ U ∈ l, MarkC U.kids) : MarkC l := by
  intro S v w k h hS h1 h2
  cases h with
  | mk _ _ _ ys0 C U B K hrow hg hc hB hK hBB hBK hKK hC hU =>
  rcases id hrow.2 with ⟨rfl, hn0⟩ | ⟨g, cap, cur, rfl, _, hgb, hcap, hmax, _⟩
  · have hl0 : l = [] := List.eq_nil_of_length_eq_zero hn0
    subst hl0
    have HM : Hid (MarkL w S k (.slice none 0 0) []) := .mk k _ [] ys0 C U hrow (fun g h => (hg g h).1) (fun i hi => by simp at hi) (fun i hi => by simp at hi) (fun i hi => by simp at hi)
    clear hC hU hc ih hrow hg hB hK hBB hBK hKK
    go_enter Try.func58, Try.ntmps58
    go_wp2_with fail
    go_loopw [1, 5] (fun vk vi wr => vk = .int .i64 (k : Int) ∧ vi = .int .i64 0 ∧ wr = w) (fun _ _ _ => 0)
    case atStart => exact ⟨rfl, rfl, rfl⟩
    case round =>
      obtain ⟨rfl, rfl, rfl⟩ := hrel
      go_wp2_with fail
      go_ret
      exact ⟨by simp [cntL], HM.out, Chg.refl _ _⟩
  · have hSg := (hg g rfl).1
    have hNg := (hg g rfl).2
    unfold maxLen at hmax
    have HI : Hid (MInv w l k C U B K ys0 0) := ⟨fun j hj => (hc j hj).2, fun j hj _ => (hc j hj).1, fun j hj h => by omega, fun j hj h => by omega, fun j hj h => by omega, fun j hj _ => hC j hj, fun j hj _ => hU j hj⟩
    clear hC hU hc hg hgb
    go_enter Try.func58, Try.ntmps58
    go_wp2_with fail
    go_loopw [1, 5] (fun vk vi wr => ∃ (i m : Nat) (ys : List Value), i ≤ l.length ∧ vi = .int .i64 (i : Int) ∧ vk = .int .i64 (m : Int) ∧ Hid (m = k + cntL (l.take i)) ∧ wr.ownsRow 0 30 5 (.slice (some ⟨g, 0, none⟩) l.length cap) l.length ys ∧ Hid (MInv wr l k C U B K ys i) ∧ Chg S w wr) (fun _ vi _ => l.length - (intOf vi).toNat)
    case atStart => exact ⟨0, k, ys0, Nat.zero_le _, rfl, rfl, by show _ = _; simp [cntL], hrow, HI.out, Chg.refl _ _⟩
    case round =>
      obtain ⟨i, m, ys, hi, rfl, rfl, hm, hown, hinv, hchg⟩ := hrel
      by_cases hlt : i < l.length
      · have hlen := hown.1
        obtain ⟨c0, c1, c2, y0, y1, y2⟩ := hinv.out.at012 i hlt (Nat.le_refl _)
        obtain ⟨y3, y4⟩ := hinv.out.at34 i hlt
        have hcl : cntL (l.take i) + l[i].cnt ≤ cntL l := by rw [← cntL_take l i hlt]; exact cntL_take_le _ _
        have hce := cnt_eq l[i]
        have hm2 : m + 3 ≤ 4294967296 := by have := hm.out; omega
        have hm1 : 1 ≤ m := by have := hm.out; omega
        have d0 := (hown.cellAt (i * 5) (by omega)).trans y0
        have d1 := (hown.cellAt (i * 5 + 1) (by omega)).trans y1
        have fz := hown.frozenAt
        have hki : (i : Int) < (l.length : Int) := by omega
        have HO := hidden hown
        have HCL : Hid (cntL (l.take i) + l[i].cnt ≤ cntL l ∧ l[i].cnt = 3 + cntL l[i].kids + l[i].keys.length) := ⟨hcl, hce⟩
        have HY : Hid (ys[i * 5 + 2]? = some c2 ∧ ys[i * 5 + 3]? = some (C i) ∧ ys[i * 5 + 4]? = some (U i)) := ⟨y2, y3, y4⟩
        clear hcl hce y0 y1 y2 y3 y4 hown HI hrow
        go_wp2_with fail
        have HMT : Hid (∀ w1, Calls Try.prog 70 #[.int .i64 ((m : Int) + 1 + 1)] w1 fun e w' => e = .returned (.string (markStr (m + 2))) ∧ Below w1.heap.size w1 w') := fun w1 => by
          have := markText_c (m + 2) w1 (by omega) (by omega)
          rw [show ((m + 2 : Nat) : Int) = (m : Int) + 1 + 1 by omega] at this
          exact this
        go_at_call 70
        refine (HMT.out _).mono ?_
        rintro e w1 ⟨rfl, b1⟩
        clear HMT d0 d1 fz
        have r0 := ((HO.out.stored (i * 5) (.int .i64 (m : Int))).1.stored (i * 5 + 1) (.int .i64 ((m : Int) + 1))).1
        have r1 := r0.kept (grown_of_below b1 none) (by simp [Value.ownBlock])
        have d2 : w1.cell? ⟨g, i * 5 + 2, none⟩ = some c2 := (r1.cellAt (i * 5 + 2) (by omega)).trans (by rw [List.getElem?_set_ne (by omega), List.getElem?_set_ne (by omega)]; exact HY.out.1)
        have d3 : w1.cell? ⟨g, i * 5 + 3, none⟩ = some (C i) := (r1.cellAt (i * 5 + 3) (by omega)).trans (by rw [List.getElem?_set_ne (by omega), List.getElem?_set_ne (by omega)]; exact HY.out.2.1)
        have f1 := r1.frozenAt
        have r2 := (r1.stored (i * 5 + 2) (.string (markStr (m + 2)))).1
        have OC := hinv.out.leftC i hlt (Nat.le_refl _)
        obtain ⟨qc, cc, ec⟩ := OC.slice
        obtain ⟨xu, OU, hku⟩ := hinv.out.leftU i hlt (Nat.le_refl _)
        obtain ⟨qu, cu, eu⟩ := owns_sl OU
        have hgw : g < wr.heap.size := Nat.lt_of_lt_of_le (hS g hSg) hchg.size
        obtain ⟨W2, hW2⟩ : ∃ W, W = w1.setCell ⟨g, i * 5 + 2, none⟩ (.string (markStr (m + 2))) := ⟨_, rfl⟩
        have hs0 : ((wr.setCell ⟨g, i * 5, none⟩ (.int .i64 (m : Int))).setCell ⟨g, i * 5 + 1, none⟩ (.int .i64 ((m : Int) + 1))).heap.size = wr.heap.size := by simp [World.setCell]
        have hs1 : wr.heap.size ≤ w1.heap.size := by have := b1.size; rw [hs0] at this; exact this
        have hs2 : W2.heap.size = w1.heap.size := by rw [hW2]; simp [World.setCell]
        have hK2 : ∀ R : Nat → Prop, (∀ b, R b → S b ∧ b ≠ g) → Kp R wr W2 := fun R hR => by
          rw [hW2]
          have hn : ¬ R g := fun h => (hR g h).2 rfl
          exact (((Kp.set hn).trans (Kp.set hn)).trans (Kp.of b1 (fun b hb => by rw [hs0]; exact Nat.lt_of_lt_of_le (hS b (hR b hb).1) hchg.size))).trans (Kp.set hn)
        have hC2 : Chg S wr W2 := by
          rw [hW2]
          exact (((Chg.set hSg).trans (Chg.set hSg)).trans (Chg.of b1)).trans (Chg.set hSg)
        have OC2 := OC.keep (hK2 (B i) (fun b hb => ⟨hB i b hb, fun e => (hNg i).1 (e ▸ hb)⟩))
        have OU2 := owns_kept (hK2 (K i) (fun b hb => ⟨hK i b hb, fun e => (hNg i).2 (e ▸ hb)⟩)) hku OU
        have hBs : ∀ b, B i b → b < W2.heap.size := fun b hb => by rw [hs2]; exact Nat.lt_of_lt_of_le (Nat.lt_of_lt_of_le (hS b (hB i b hb)) hchg.size) hs1
        have hKs : ∀ b, K i b → b < W2.heap.size := fun b hb => by rw [hs2]; exact Nat.lt_of_lt_of_le (Nat.lt_of_lt_of_le (hS b (hK i b hb)) hchg.size) hs1
        have hgs : g < W2.heap.size := by rw [hs2]; exact Nat.lt_of_lt_of_le hgw hs1
        have HC := ih l[i] (List.getElem_mem hlt) (B i) (C i) W2 (m + 3) OC2 hBs (by omega) (by have := HCL.out; have := hm.out; omega)
        rw [show ((m + 3 : Nat) : Int) = (m : Int) + 1 + 1 + 1 by omega] at HC
        rw [hW2] at HC
        rw [ec] at HC d3
        obtain ⟨p, hp⟩ : ∃ p, p = m + 3 + cntL l[i].kids := ⟨_, rfl⟩
        rw [← hp] at HC
        have HP := hidden hp
        have HEC := hidden ec
        have HEU := hidden eu
        have hsz : ∀ b, S b → b < W2.heap.size := fun b hb => by rw [hs2]; exact Nat.lt_of_lt_of_le (Nat.lt_of_lt_of_le (hS b hb) hchg.size) hs1
        have HC2 := hidden HC
        clear hp ec eu
        have HB1 := hidden b1
        have r2' : W2.ownsRow 0 30 5 (.slice (some ⟨g, 0, none⟩) l.length cap) l.length (put3 ys i (.int .i64 (m : Int)) (.int .i64 ((m : Int) + 1)) (.string (markStr (m + 2)))) := by rw [hW2]; exact r2
        have HK2 := hidden hK2
        have HCH2 := hidden hC2
        have HR2 := hidden r2'
        have HW2 := hidden hW2
        have HOU2 := hidden OU2
        clear HC b1 r0 r1 r2 r2' hK2 hC2 OC OC2 OU OU2 hW2 hs0 hs2
        go_wp2_with fail
        go_at_call 58
        refine HC2.out.mono ?_
        rintro e w3 ⟨rfl, MK, ch3'⟩
        have ch3 : Chg (B i) W2 w3 := by rw [HW2.out]; exact ch3'
        have r3 := owns_kept (S := fun b => b = g) (ch3.kp (fun b hb => ⟨hb ▸ hgs, hb ▸ (hNg i).1⟩)) (fun g' h => by simp [Value.ownBlock] at h; exact h.symm) HR2.out
        have d4 : w3.cell? ⟨g, i * 5 + 4, none⟩ = some (.slice qu l[i].keys.length cu) := (r3.cellAt (i * 5 + 4) (by omega)).trans (by rw [put3_other (by omega), ← HEU.out]; exact HY.out.2.2)
        have OU3 := owns_kept (ch3.kp (fun b hb => ⟨hKs b hb, fun h => hBK i i b h hb⟩)) hku HOU2.out
        have HMS := markStrs_c (U i) 0 l[i].keys.length xu p w3 OU3 (by have := HP.out; omega) (by have := HP.out; have := HCL.out; have := hm.out; omega) (by have := HCL.out; omega) (Nat.zero_le _)
        rw [HEU.out] at HMS
        have HMS2 := hidden HMS
        have HR3 := hidden r3
        have hpb : p ≤ 4294967296 := by have := HP.out; have := HCL.out; have := hm.out; omega
        have hkb : l[i].keys.length ≤ 4294967296 := by have := HCL.out; omega
        clear HMS ch3' OU3 HC2 d2 d3 f1 r3
        go_wp2_with fail
        go_at_call 55
        refine HMS2.out.mono ?_
        rintro e w4 ⟨rfl, r4u, gr4⟩
        clear HMS2 d4
        go_wp2_with fail
        rw [← HEU.out] at r4u gr4
        have ch4 := Chg.grown (S := K i) gr4 hku
        have hsz3 : ∀ b, S b → b < w3.heap.size := fun b hb => Nat.lt_of_lt_of_le (hsz b hb) ch3.size
        have r4 := owns_kept (S := fun b => b = g) (ch4.kp (fun b hb => ⟨hb ▸ hsz3 g hSg, hb ▸ (hNg i).2⟩)) (fun g' h => by simp [Value.ownBlock] at h; exact h.symm) HR3.out
        have hK4 : ∀ R : Nat → Prop, (∀ j, j ≠ i → (∀ b, R b → B j b) ∨ (∀ b, R b → K j b) → Kp R wr w4) := fun R j hj h => by
          have hR : ∀ b, R b → S b ∧ b ≠ g ∧ ¬ B i b ∧ ¬ K i b := by
            intro b hb
            rcases h with h | h
            · exact ⟨hB j b (h b hb), fun e => (hNg j).1 (e ▸ h b hb), fun k => hBB j i b hj (h b hb) k, fun k => hBK j i b (h b hb) k⟩
            · exact ⟨hK j b (h b hb), fun e => (hNg j).2 (e ▸ h b hb), fun k => hBK i j b k (h b hb), fun k => hKK j i b hj (h b hb) k⟩
          exact ((HK2.out R (fun b hb => ⟨(hR b hb).1, (hR b hb).2.1⟩)).trans (ch3.kp (fun b hb => ⟨hsz b (hR b hb).1, (hR b hb).2.2.1⟩))).trans (ch4.kp (fun b hb => ⟨hsz3 b (hR b hb).1, (hR b hb).2.2.2⟩))
        have MK4 : MarkL w4 (B i) (m + 3) (C i) l[i].kids := by
          rw [HEC.out]
          exact MK.keep (ch4.kp (fun b hb => ⟨hsz3 b (hB i b hb), hBK i i b hb⟩))
        have RU4 : RdB (K i) w4 (U i) (strsV (marksS (m + 3 + cntL l[i].kids) l[i].keys.length)) := by
          rw [← HP.out]; exact rdB_in r4u hku
        have INV := hinv.out.step hlt hm.out (by omega) hK4 MK4 RU4
        have CHG := hchg.trans (HCH2.out.trans ((ch3.mono (hB i)).trans (ch4.mono (hK i))))
        have HPM : p + l[i].keys.length = k + cntL (l.take (i + 1)) := by rw [cntL_take l i hlt, HP.out, hm.out]; have := HCL.out.2; omega
        go_roundw
        case rel => exact ⟨i + 1, p + l[i].keys.length, _, by omega, by go_num, by simp, HPM, r4, INV, CHG⟩
        case measure => simp [intOf]; omega
      · have he : i = l.length := by omega
        subst he
        have hmm : m = k + cntL l := by have := hm.out; rw [List.take_length] at this; exact this
        have HML : Hid (MarkL wr S k (.slice (some ⟨g, 0, none⟩) l.length cap) l) := .mk k _ l ys C U hown (fun g' h => by simp [Value.ownBlock] at h; exact h ▸ hSg) (fun i hi => by obtain ⟨a, b, c⟩ := hinv.out.done i hi hi; obtain ⟨d, e⟩ := hinv.out.at34 i hi; exact ⟨a, b, c, d, e⟩) (fun i h => (hinv.out.doneC i h h).mono (hB i)) (fun i h => (hinv.out.doneU i h h).mono (hK i))
        have HMM := hidden hmm
        clear hown hinv hmm HI hrow
        go_wp2_with fail
        go_ret
        exact ⟨by rw [← HMM.out]; rfl, HML.out, hchg⟩
theorem markValS_all : ∀ T : Tree, MarkC T.kids := by
  refine Tree.ind (fun k n s l ks ih => ?_)
  exact markValS_step l ih
theorem markValS_c (l : List Tree) : MarkC l := markValS_step l (fun U _ => markValS_all U)
end Go.Proofs.Ytbolphjigjpmiaa
