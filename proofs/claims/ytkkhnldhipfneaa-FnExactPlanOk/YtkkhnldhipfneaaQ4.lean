/-
  Contracts for the walks, several texts in one: each part says what it proves, and under which conditions.
-/
import Derived.Deep.RegionHeld
import Derived.SliceStrings
import Derived.ChangeArms
import Derived.ChangeOld
import Derived.ChangeAt
import Derived.OpenShut
import Derived.ShutString
import Derived.Test.YtkkhnldhipfneaaQ3
import Derived.Test.YtkkhnldhipfneaaQ1
import Derived.Test.YtkkhnldhipfneaaQ2

/-! Trees of values that may be written, no two rows of which are the same, and such as bear marks: what they are, and that they are kept; no condition. -/
namespace Go.Proofs.Ytkkhnldhipfneaa
open Go.RowKit
set_option linter.unusedSimpArgs false
set_option linter.unusedVariables false

def Tree.kids : Tree → List Tree
  | .mk _ _ _ l _ => l
def Tree.keys : Tree → List ByteArray
  | .mk _ _ _ _ ks => ks
mutual
/-- How many marks a tree takes below its own, and a list of trees. -/
def Tree.cnt : Tree → Nat
  | .mk _ _ _ l ks => 3 + cntL l + ks.length
def cntL : List Tree → Nat
  | [] => 0
  | t :: r => t.cnt + cntL r
end
theorem cnt_eq (T : Tree) : T.cnt = 3 + cntL T.kids + T.keys.length := by
  cases T; rw [Tree.cnt]; rfl
theorem cntL_append (a b : List Tree) : cntL (a ++ b) = cntL a + cntL b := by
  induction a with
  | nil => simp [cntL]
  | cons t r ih => simp only [List.cons_append, cntL, ih]; omega
theorem cntL_take (l : List Tree) (k : Nat) (h : k < l.length) : cntL (l.take (k + 1)) = cntL (l.take k) + l[k].cnt := by
  rw [List.take_succ_eq_append_getElem h, cntL_append]; simp [cntL]
theorem cntL_take_le (l : List Tree) (k : Nat) : cntL (l.take k) ≤ cntL l := by
  conv => rhs; rw [← List.take_append_drop k l, cntL_append]
  omega

/-- From w to w' only blocks of S, and new ones, have changed. -/
structure Chg (S : Nat → Prop) (w w' : World) : Prop where
  os : w'.os = w.os
  tape : w'.tape = w.tape
  output : w'.output = w.output
  size : w.heap.size ≤ w'.heap.size
  block : ∀ b, b < w.heap.size → ¬ S b → w'.heap[b]? = w.heap[b]?
theorem Chg.refl (S : Nat → Prop) (w : World) : Chg S w w := ⟨rfl, rfl, rfl, Nat.le_refl _, fun _ _ _ => rfl⟩
theorem Chg.trans {S : Nat → Prop} {a b c : World} (h : Chg S a b) (k : Chg S b c) : Chg S a c :=
  ⟨k.os.trans h.os, k.tape.trans h.tape, k.output.trans h.output, Nat.le_trans h.size k.size, fun i hi hs => (k.block i (Nat.lt_of_lt_of_le hi h.size) hs).trans (h.block i hi hs)⟩
theorem Chg.mono {S S' : Nat → Prop} {a b : World} (h : Chg S a b) (hs : ∀ b, S b → S' b) : Chg S' a b := ⟨h.os, h.tape, h.output, h.size, fun i hi hn => h.block i hi (fun k => hn (hs i k))⟩
theorem Chg.of {S : Nat → Prop} {a b : World} (h : Below a.heap.size a b) : Chg S a b := ⟨h.os, h.tape, h.output, h.size, fun i hi _ => h.block i hi⟩
theorem Chg.kp {S R : Nat → Prop} {a b : World} (h : Chg S a b) (hr : ∀ i, R i → i < a.heap.size ∧ ¬ S i) : Kp R a b := fun i hi => h.block i (hr i hi).1 (hr i hi).2
end Go.Proofs.Ytkkhnldhipfneaa

/-! Marks put into a tree of values that may be written, as the law puts them: contracts for the walks; conditions: no two rows are the same, and there are at most 2 to the 32 marks. -/
namespace Go.Proofs.Ytkkhnldhipfneaa
open Go.RowKit
set_option linter.unusedSimpArgs false
set_option linter.unusedVariables false

theorem Chg.set {S : Nat → Prop} {w : World} {g j : Nat} {v : Value} (h : S g) : Chg S w (w.setCell ⟨g, j, none⟩ v) :=
  ⟨rfl, rfl, rfl, by simp [World.setCell], fun b hb hn => Below.heap_setCell w ⟨g, j, none⟩ v b (fun e => by have e' : b = g := e; subst e'; exact hn h)⟩
theorem Chg.grown {S : Nat → Prop} {w w' : World} {r : Option Nat} (h : w.grownBy w' r) (hr : ∀ g, r = some g → S g) : Chg S w w' :=
  ⟨h.os, h.tape, h.output, h.size, fun b hb hn => h.block b hb (fun e => hn (hr b e.symm))⟩
theorem rdB_in {S : Nat → Prop} {w : World} {lo : Nat} {e : TypeId} {v : Value} {n : Nat} {xs : List Value} (h : w.ownsRow lo e 1 v n xs) (hs : ∀ g, v.ownBlock = some g → S g) : RdB S w v xs := by
  obtain ⟨a, cap, hv, hc, hx⟩ := reads_of_owns h
  refine ⟨a, cap, hv, hc, ?_⟩
  rcases hx with hx | ⟨b, off, rfl, hlt, hx⟩
  · exact .inl hx
  · exact .inr ⟨b, off, rfl, hs b (by rw [hv]; rfl), hx⟩
theorem owns_sl {w : World} {lo : Nat} {e : TypeId} {sz n : Nat} {v : Value} {xs : List Value} (hg : w.ownsRow lo e sz v n xs) : ∃ q cap, v = .slice q n cap := by
  rcases hg.2 with ⟨h1, h2⟩ | ⟨g, cap, cur, h1, _⟩
  · exact ⟨none, 0, by rw [h1, h2]⟩
  · exact ⟨_, _, h1⟩
def put3 (ys : List Value) (i : Nat) (a b c : Value) : List Value := ((ys.set (i * 5) a).set (i * 5 + 1) b).set (i * 5 + 2) c
theorem put3_other {ys : List Value} {i j : Nat} {a b c : Value} (h : j < i * 5 ∨ i * 5 + 2 < j) : (put3 ys i a b c)[j]? = ys[j]? := by
  unfold put3
  rw [List.getElem?_set_ne (by omega), List.getElem?_set_ne (by omega), List.getElem?_set_ne (by omega)]
theorem put3_same {ys : List Value} {i : Nat} {a b c : Value} (h : i * 5 + 2 < ys.length) : (put3 ys i a b c)[i * 5]? = some a ∧ (put3 ys i a b c)[i * 5 + 1]? = some b ∧ (put3 ys i a b c)[i * 5 + 2]? = some c := by
  simp [put3, List.getElem?_set, h, show i * 5 < ys.length by omega, show i * 5 + 1 < ys.length by omega]

end Go.Proofs.Ytkkhnldhipfneaa

/-! Entries that lie in memory: what they are: no condition. -/
namespace Go.Proofs.Ytkkhnldhipfneaa
open Go.RowKit
set_option linter.unusedSimpArgs false
set_option linter.unusedVariables false

structure EntryD where
  name : ByteArray
  vA : Int
  vB : Int
  vC : Int
  vP : List ByteArray
  needs : List NeedD
def wtEntry (d : EntryD) : Nat := d.name.size + bulkS d.vP + wtRow wtNeed d.needs
def shEntry : Sh EntryD where
  n := 6
  lies S w cs d := ∃ u0 u1, cs = [.string d.name, .int .i64 d.vA, .int .i64 d.vB, .int .i64 d.vC, u0, u1] ∧ d.name.size ≤ maxLen ∧ RdB S w u0 (strsV d.vP) ∧ saneP d.vP ∧ RowIn shNeed S w u1 d.needs
  keep hk h := by obtain ⟨u0, u1, h0, h1, h2, h3, h4⟩ := h; exact ⟨u0, u1, h0, h1, h2.keep hk, h3, h4.keep hk⟩
  mono hS h := by obtain ⟨u0, u1, h0, h1, h2, h3, h4⟩ := h; exact ⟨u0, u1, h0, h1, h2.mono hS, h3, h4.mono hS⟩
def shEntryO : Sh EntryD where
  n := 6
  lies S w cs d := ∃ u0 u1, cs = [.string d.name, .int .i64 d.vA, .int .i64 d.vB, .int .i64 d.vC, u0, u1] ∧ d.name.size ≤ maxLen ∧ StrsOwn S w u0 d.vP ∧ saneP d.vP ∧ RowOwn shNeed 125 S w u1 d.needs
  keep hk h := by obtain ⟨u0, u1, h0, h1, h2, h3, h4⟩ := h; exact ⟨u0, u1, h0, h1, h2.keep hk, h3, h4.keep hk⟩
  mono hS h := by obtain ⟨u0, u1, h0, h1, h2, h3, h4⟩ := h; exact ⟨u0, u1, h0, h1, h2.mono hS, h3, h4.mono hS⟩
theorem liesEntry_plain {S : Nat → Prop} {w : World} {cs : List Value} {d : EntryD} (h : shEntryO.lies S w cs d) : shEntry.lies S w cs d := by
  obtain ⟨u0, u1, e0, s_name, r0, p0, r1⟩ := h
  exact ⟨u0, u1, e0, s_name, r0.plain, p0, r1.plain⟩
end Go.Proofs.Ytkkhnldhipfneaa

/-! Copies in memory of their own, as the law makes them: contracts for the walks; condition: what is copied holds at most 2 to the 20. -/
namespace Go.Proofs.Ytkkhnldhipfneaa
open Go.RowKit
set_option linter.unusedSimpArgs false
set_option linter.unusedVariables false

end Go.Proofs.Ytkkhnldhipfneaa

/-! Copies of versions, needs and entries, as the program makes them: contracts for the walks; conditions: they lie in memory, and hold at most 2 to the 20. -/
namespace Go.Proofs.Ytkkhnldhipfneaa
open Go.RowKit
set_option linter.unusedSimpArgs false
set_option linter.unusedVariables false

/-- A block of another type than a row's is not the row's. -/
theorem row_box {w : World} {lo sz n g : Nat} {e t : TypeId} {v : Value} {xs : List Value} {cs : Array Value} {fz : Nat × Nat} (h : w.ownsRow lo e sz v n xs) (hb : w.heap[g]? = some (.cells cs t fz)) (hne : e ≠ t) : v.ownBlock ≠ some g := fun he => by
  rcases h.2 with ⟨rfl, _⟩ | ⟨g', cap, cur, rfl, _, hg, _⟩
  · simp [Value.ownBlock] at he
  · simp [Value.ownBlock] at he
    subst he
    rw [hg] at hb
    simp at hb
    exact hne hb.2.1
theorem box_grown {w w' : World} {row : Option Nat} {g : Nat} {o : Obj} (hb : w.heap[g]? = some o) (hg : w.grownBy w' row) (hne : row ≠ some g) : w'.heap[g]? = some o :=
  (hg.block g (Array.getElem?_eq_some_iff.1 hb).1 (fun e => hne e.symm)).trans hb
theorem box_below {w w' : World} {g : Nat} {o : Obj} (hb : w.heap[g]? = some o) (h : Below w.heap.size w w') : w'.heap[g]? = some o :=
  (h.block g (Array.getElem?_eq_some_iff.1 hb).1).trans hb
theorem row_put {w : World} {lo sz n g j : Nat} {e t : TypeId} {v x : Value} {xs : List Value} {cs : Array Value} {fz : Nat × Nat} (h : w.ownsRow lo e sz v n xs) (hb : w.heap[g]? = some (.cells cs t fz)) (hne : e ≠ t) : (w.setCell ⟨g, j, none⟩ x).ownsRow lo e sz v n xs :=
  owns_kept (S := fun b => b ≠ g) (Kp.set (by simp)) (fun b hb' => by rintro rfl; exact row_box h hb hne hb') h
theorem List.single_le_sum_natC {ss : List ByteArray} {t : ByteArray} (h : t ∈ ss) : t.size ≤ (ss.map ByteArray.size).sum := by
  induction ss with
  | nil => simp at h
  | cons a l ih =>
    simp only [List.map_cons, List.sum_cons]
    rcases List.mem_cons.1 h with rfl | h
    · omega
    · have := ih h; omega
theorem two_boxes {w : World} (A R : Obj) : ((w.alloc A).alloc R).heap[w.heap.size]? = some A ∧ ((w.alloc A).alloc R).heap[w.heap.size + 1]? = some R := by
  have s1 : (w.alloc A).heap.size = w.heap.size + 1 := by simp
  refine ⟨?_, ?_⟩
  · rw [vheap_old _ _ (by simp), vheap_new]
  · rw [← s1, vheap_new]

end Go.Proofs.Ytkkhnldhipfneaa

/-! Copies of needs and entries, as the program makes them: contracts for the walks; conditions: they lie in memory, and hold at most 2 to the 20. -/
namespace Go.Proofs.Ytkkhnldhipfneaa
open Go.RowKit
set_option linter.unusedSimpArgs false
set_option linter.unusedVariables false

/-- The cells of needs. -/
def needsV (xs : List NeedD) : List Value := xs.flatMap fun d => [.string d.n, .string d.r]
theorem needsV_length (xs : List NeedD) : (needsV xs).length = xs.length * 2 := by
  induction xs with
  | nil => rfl
  | cons d l ih => simp only [needsV, List.flatMap_cons, List.length_append, List.length_cons, List.length_nil] at *; omega
theorem needsV_append (xs ys : List NeedD) : needsV xs ++ needsV ys = needsV (xs ++ ys) := by simp [needsV]
theorem needsV_take (xs : List NeedD) (k : Nat) (h : k < xs.length) : needsV (xs.take k) ++ [.string xs[k].n, .string xs[k].r] = needsV (xs.take (k + 1)) := by
  rw [List.take_succ_eq_append_getElem h, ← needsV_append]; rfl
theorem needsV_at (xs : List NeedD) : ∀ i (h : i < xs.length), (needsV xs)[i * 2]? = some (.string xs[i].n) ∧ (needsV xs)[i * 2 + 1]? = some (.string xs[i].r) := by
  induction xs with
  | nil => intro i h; simp at h
  | cons d l ih =>
    intro i h
    have e : needsV (d :: l) = [.string d.n, .string d.r] ++ needsV l := by simp [needsV]
    cases i with
    | zero => rw [e]; simp
    | succ i =>
      have h' := ih i (by simpa using h)
      rw [e, List.getElem?_append_right (by simp; omega), List.getElem?_append_right (by simp; omega)]
      simp only [List.length_cons, List.length_nil]
      rw [show (i + 1) * 2 - (0 + 1 + 1) = i * 2 by omega, show (i + 1) * 2 + 1 - (0 + 1 + 1) = i * 2 + 1 by omega]
      simpa using h'
theorem needs_own {w : World} {lo : Nat} {v : Value} {xs : List NeedD} (h : w.ownsRow lo 125 2 v xs.length (needsV xs)) (hl : xs.length ≤ maxLen) (hs : ∀ d ∈ xs, d.n.size ≤ maxLen ∧ d.r.size ≤ maxLen) : RowOwn shNeed 125 (Ow lo w.heap.size) w v xs := by
  refine ⟨hl, needsV xs, owns_lo (Nat.zero_le _) h, owns_in h, fun i hi _ => ⟨[.string xs[i].n, .string xs[i].r], rfl, ⟨rfl, hs _ (List.getElem_mem hi)⟩, fun j hj => ?_⟩⟩
  obtain ⟨h1, h2⟩ := needsV_at xs i hi
  match j, hj with
  | 0, _ => exact h1
  | 1, _ => exact h2

theorem owns_of_belowN {w w' : World} {lo sz n : Nat} {e : TypeId} {v : Value} {xs : List Value} (h : w.ownsRow lo e sz v n xs) (hb : Below w.heap.size w w') : w'.ownsRow lo e sz v n xs := h.kept (grown_of_below hb none) (by cases hq : v.ownBlock <;> simp)
theorem cells_put {w : World} {N M : Nat} {o : Obj} (h : w.heap[N]? = some o) (hne : N ≠ M) (j : Nat) (v : Value) : (w.setCell ⟨M, j, none⟩ v).heap[N]? = some o := (Below.heap_setCell w ⟨M, j, none⟩ v N (by simpa using hne)).trans h
theorem two_src (w : World) (c0 c1 : Value) : ∀ j u, ([c0, c1] : List Value)[j]? = some u → (w.alloc (.cells #[c0, c1] 125)).cell? ((⟨w.heap.size, 0, none⟩ : Addr).add j) = some u := fun j u hu => by
  have e : ((⟨w.heap.size, 0, none⟩ : Addr).add j) = ⟨w.heap.size, j, none⟩ := by unfold Addr.add; split <;> simp_all
  rw [e, vblk_cell (vheap_new _ _) j]
  simpa using hu

end Go.Proofs.Ytkkhnldhipfneaa

/-! A list of texts in blocks of its own, and what a walk leaves of it: laws for the walks; no condition. -/
namespace Go.Proofs.Ytkkhnldhipfneaa
open Go.RowKit
set_option linter.unusedSimpArgs false
set_option linter.unusedVariables false

/-- A list of texts in blocks from lo up to hi. -/
def StrR (lo hi : Nat) (W : World) (u : Value) (ss : List ByteArray) : Prop := StrsOwn (Ow lo hi) W u ss ∧ hi ≤ W.heap.size
theorem StrR.chg {lo hi : Nat} {W W' : World} {u : Value} {ss : List ByteArray} {S : Nat → Prop} (h : StrR lo hi W u ss) (k : Chg S W W') (n : ∀ b, Ow lo hi b → ¬ S b) : StrR lo hi W' u ss :=
  ⟨h.1.keep (fun b hb => k.block b (Nat.lt_of_lt_of_le hb.2 h.2) (n b hb)), Nat.le_trans h.2 k.size⟩
theorem StrR.below {lo hi : Nat} {W W' : World} {u : Value} {ss : List ByteArray} (h : StrR lo hi W u ss) (k : Below W.heap.size W W') : StrR lo hi W' u ss := h.chg (Chg.of (S := fun _ => False) k) (fun _ _ => id)
theorem strR_of {lo : Nat} {W : World} {u : Value} {ss : List ByteArray} (h : W.ownsRow lo 9 1 u ss.length (strsV ss)) : StrR lo W.heap.size W u ss := ⟨⟨owns_lo (Nat.zero_le _) h, fun g hg => owns_in h g hg⟩, Nat.le_refl _⟩
theorem below_chgW {B : Nat} {S : Nat → Prop} {w W W' : World} (h : Below B w W) (k : Chg S W W') (hs : ∀ b, S b → B ≤ b) (hB : B ≤ W.heap.size) : Below B w W' :=
  ⟨k.os.trans h.os, k.tape.trans h.tape, k.output.trans h.output, Nat.le_trans h.size k.size, fun b hb => (k.block b (Nat.lt_of_lt_of_le hb hB) (fun hS => by have := hs b hS; omega)).trans (h.block b hb)⟩
end Go.Proofs.Ytkkhnldhipfneaa

/-! Copies of packs, and of rows of them, in memory of their own, as the law makes them: contracts for the walks; condition: what is copied holds at most 2 to the 20. -/
namespace Go.Proofs.Ytkkhnldhipfneaa
open Go.RowKit
set_option linter.unusedSimpArgs false
set_option linter.unusedVariables false

set_option maxHeartbeats 2000000 in
set_option maxRecDepth 100000 in
theorem infoPack : (Try.prog.info? 33).map (fun i => (i.zero, i.size, i.bytes)) = some (some (.agg #[.string ⟨#[]⟩, .slice none 0 0, .slice none 0 0, .slice none 0 0]), 4, 88) := by kernel_rfl
end Go.Proofs.Ytkkhnldhipfneaa

/-! Marks put into a pack that may be written, as the law puts them: contracts for the walks; conditions: its rows lie in memory and may be written, and there are at most 2 to the 32 marks. -/
namespace Go.Proofs.Ytkkhnldhipfneaa
open Go.RowKit
set_option linter.unusedSimpArgs false
set_option linter.unusedVariables false

/-- A row that may be written stays one where another row is written over, be it the same. -/
theorem owns_over {w w' : World} {lo lo' sz n n' : Nat} {e : TypeId} {v v' : Value} {xs xs' ys : List Value} (h : w.ownsRow lo e sz v n xs) (h0 : w.ownsRow lo' e sz v' n' xs') (h1 : w'.ownsRow lo' e sz v' n' ys) (hg : w.grownBy w' v'.ownBlock) (hs : 0 < sz) : ∃ zs, w'.ownsRow lo e sz v n zs := by
  by_cases hne : v.ownBlock = none ∨ v.ownBlock ≠ v'.ownBlock
  · exact ⟨xs, h.kept hg hne⟩
  · have he : v.ownBlock = v'.ownBlock := by
      by_cases k : v.ownBlock = v'.ownBlock
      · exact k
      · exact absurd (.inr k) hne
    have hn : v.ownBlock ≠ none := fun k => hne (.inl k)
    rcases h.2 with ⟨rfl, _⟩ | ⟨g, cap, cur, rfl, hlo, hgb, hc, hm, hz, ht⟩
    · exact absurd rfl hn
    rcases h0.2 with ⟨rfl, _⟩ | ⟨g0, cap0, cur0, rfl, _, hgb0, hc0, hm0, hz0, _⟩
    · exact absurd he (by simp [Value.ownBlock])
    simp [Value.ownBlock] at he
    subst he
    rcases h1.2 with ⟨hx, _⟩ | ⟨g1, cap1, cur1, hx, _, hgb1, hc1, hm1, hz1, _⟩
    · simp at hx
    · simp only [Value.slice.injEq, Option.some.injEq, Addr.mk.injEq, and_true, true_and] at hx
      obtain ⟨rfl, rfl⟩ := hx
      rw [hgb] at hgb0
      have hcur : cur = cur0 := by simpa using hgb0
      subst hcur
      have hcap : cap = cap0 := by
        have : cap * sz = cap0 * sz := by omega
        exact Nat.eq_of_mul_eq_mul_right hs this
      subst hcap
      refine ⟨cur1.toList.take (n * sz), ?_, .inr ⟨g, cap, cur1, rfl, hlo, hgb1, hc, hm, hz1, rfl⟩⟩
      have hle : n * sz ≤ cap * sz := Nat.mul_le_mul_right _ hc
      rw [List.length_take, Array.length_toList, hz1]
      exact Nat.min_eq_left hle

/-- The rows of a row of commands: each may be written. -/
def CmdRows (w : World) (S : Nat → Prop) (ys : List Value) (ns : List Nat) : Prop := ∀ i (h : i < ns.length), ∃ u xs, ys[i * 2 + 1]? = some u ∧ w.ownsRow 0 9 1 u ns[i] xs ∧ ∀ g, u.ownBlock = some g → S g
theorem CmdRows.set0 {w : World} {S : Nat → Prop} {ys : List Value} {ns : List Nat} (h : CmdRows w S ys ns) (i : Nat) (v : Value) : CmdRows w S (ys.set (i * 2) v) ns := fun j hj => by
  obtain ⟨u, xs, h1, h2, h3⟩ := h j hj
  exact ⟨u, xs, by rw [List.getElem?_set_ne (by omega)]; exact h1, h2, h3⟩
theorem CmdRows.below {w w' : World} {S : Nat → Prop} {ys : List Value} {ns : List Nat} (h : CmdRows w S ys ns) (hb : Below w.heap.size w w') : CmdRows w' S ys ns := fun j hj => by
  obtain ⟨u, xs, h1, h2, h3⟩ := h j hj
  exact ⟨u, xs, h1, owns_kept (S := fun b => b < w.heap.size) (.of hb (fun b h => h)) (fun g h => (owns_in h2 g h).2) h2, h3⟩
/-- A store into a row of commands touches no row of texts. -/
theorem CmdRows.store {w : World} {S : Nat → Prop} {ys : List Value} {ns : List Nat} {g j n cap : Nat} {zs : List Value} {x : Value} (h : CmdRows w S ys ns) (hg : w.ownsRow 0 114 2 (.slice (some ⟨g, 0, none⟩) n cap) n zs) : CmdRows (w.setCell ⟨g, j, none⟩ x) S ys ns := fun i hi => by
  obtain ⟨u, xs, h1, h2, h3⟩ := h i hi
  refine ⟨u, xs, h1, owns_kept (S := fun b => b ≠ g) (Kp.set (fun k => k rfl)) (fun g' hg' => ?_) h2, h3⟩
  rintro rfl
  rcases h2.2 with ⟨rfl, _⟩ | ⟨g2, c2, cur2, rfl, _, hb2, _⟩
  · simp [Value.ownBlock] at hg'
  · simp [Value.ownBlock] at hg'
    subst hg'
    rcases hg.2 with ⟨hx, _⟩ | ⟨g3, c3, cur3, hx, _, hb3, _⟩
    · simp at hx
    · simp only [Value.slice.injEq, Option.some.injEq, Addr.mk.injEq, and_true, true_and] at hx
      obtain ⟨rfl, rfl⟩ := hx
      rw [hb2] at hb3
      simp at hb3

theorem owns_apart {w : World} {lo lo' sz sz' n n' : Nat} {e e' : TypeId} {v v' : Value} {xs xs' : List Value} (h : w.ownsRow lo e sz v n xs) (h' : w.ownsRow lo' e' sz' v' n' xs') (hne : e ≠ e') : v.ownBlock = none ∨ v.ownBlock ≠ v'.ownBlock := by
  rcases h.2 with ⟨rfl, _⟩ | ⟨g, c, cur, rfl, _, hb, _⟩
  · exact .inl rfl
  · right
    intro k
    rcases h'.2 with ⟨rfl, _⟩ | ⟨g', c', cur', rfl, _, hb', _⟩
    · simp [Value.ownBlock] at k
    · simp [Value.ownBlock] at k
      subst k
      rw [hb] at hb'
      simp at hb'
      exact hne hb'.2
theorem cmdRows_of {S : Nat → Prop} {w : World} {ys : List Value} {xs : List CmdD} (h : Laid shCmdO S w ys xs xs.length) : CmdRows w S ys (xs.map fun c => c.acts.length) := fun i hi => by
  have hi' : i < xs.length := by simpa using hi
  obtain ⟨cs, h1, ⟨u, rfl, _, h2, _⟩, h3⟩ := h i hi' hi'
  exact ⟨u, _, h3 1 (by simp), by simpa using h2.1, h2.2⟩
theorem cmds_sum (xs : List CmdD) : (xs.map fun c => c.acts.length).length + (xs.map fun c => c.acts.length).sum ≤ wtRow wtCmd xs := by
  induction xs with
  | nil => simp [wtRow]
  | cons x xs ih =>
    have e : wtRow wtCmd (x :: xs) = (1 + wtCmd x) + wtRow wtCmd xs := by simp [wtRow]
    rw [e]
    simp only [List.map_cons, List.length_cons, List.sum_cons]
    have : x.acts.length ≤ wtCmd x := by unfold wtCmd bulkS; omega
    omega

end Go.Proofs.Ytkkhnldhipfneaa

/-! Marks put into rows of needs, and found again, as the law does it: contracts for the walks; conditions: the rows lie in memory, may be written, and there are at most 2 to the 32 marks. -/
namespace Go.Proofs.Ytkkhnldhipfneaa
open Go.RowKit
set_option linter.unusedSimpArgs false
set_option linter.unusedVariables false

end Go.Proofs.Ytkkhnldhipfneaa

/-! Marks put into rows of packs, as the law puts them: a contract for the walks; conditions: the rows lie in memory, may be written, and there are at most 2 to the 32 marks. -/
namespace Go.Proofs.Ytkkhnldhipfneaa
open Go.RowKit
set_option linter.unusedSimpArgs false
set_option linter.unusedVariables false

/-- What stays where marks are put into texts, and into rows of commands. -/
structure InvC (I : World → Prop) : Prop where
  below : ∀ w w', I w → Below w.heap.size w w' → I w'
  cmd : ∀ w g i n cap zs x, I w → w.ownsRow 0 114 2 (.slice (some ⟨g, 0, none⟩) n cap) n zs → I (w.setCell ⟨g, i * 2, none⟩ (.string x))
  strs : ∀ w w' u n z z', I w → w.ownsRow 0 9 1 u n z → w'.ownsRow 0 9 1 u n z' → w.grownBy w' u.ownBlock → I w'

theorem own_putP {w : World} {lo lo' sz sz' n n' g j cap : Nat} {e e' : TypeId} {u x : Value} {zs ys : List Value} (h : w.ownsRow lo e sz u n zs) (hg : w.ownsRow lo' e' sz' (.slice (some ⟨g, 0, none⟩) n' cap) n' ys) (hne : e ≠ e') : (w.setCell ⟨g, j, none⟩ x).ownsRow lo e sz u n zs := by
  refine owns_kept (S := fun b => b ≠ g) (Kp.set (fun k => k rfl)) (fun g' hg' => ?_) h
  rintro rfl
  rcases owns_apart h hg hne with k | k
  · rw [k] at hg'; cases hg'
  · exact k (by rw [hg']; rfl)
theorem owns_setAny {w : World} {lo sz n : Nat} {e : TypeId} {u : Value} {zs : List Value} (h : w.ownsRow lo e sz u n zs) (g j : Nat) (x : Value) : ∃ zs', (w.setCell ⟨g, j, none⟩ x).ownsRow lo e sz u n zs' ∧ (zs' = zs ∨ zs' = zs.set j x) := by
  by_cases hg : u.ownBlock = some g
  · rcases id h.2 with ⟨rfl, _⟩ | ⟨g2, c2, cur2, rfl, _⟩
    · simp [Value.ownBlock] at hg
    · simp [Value.ownBlock] at hg
      subst hg
      exact ⟨_, (h.stored j x).1, .inr rfl⟩
  · exact ⟨zs, owns_kept (S := fun b => b ≠ g) (Kp.set (fun k => k rfl)) (fun g' hg' => by rintro rfl; exact hg hg') h, .inl rfl⟩
theorem CmdRows.put {w : World} {S : Nat → Prop} {ys : List Value} {ns : List Nat} {lo' sz' n' g j cap : Nat} {e' : TypeId} {zs : List Value} {x : Value} (h : CmdRows w S ys ns) (hg : w.ownsRow lo' e' sz' (.slice (some ⟨g, 0, none⟩) n' cap) n' zs) (hne : 9 ≠ e') : CmdRows (w.setCell ⟨g, j, none⟩ x) S ys ns := fun i hi => by
  obtain ⟨u, xs, h1, h2, h3⟩ := h i hi
  exact ⟨u, xs, h1, own_putP h2 hg hne, h3⟩
theorem CmdRows.overS {w w' : World} {S : Nat → Prop} {ys : List Value} {ns : List Nat} {u : Value} {n : Nat} {z z' : List Value} (h : CmdRows w S ys ns) (h0 : w.ownsRow 0 9 1 u n z) (h1 : w'.ownsRow 0 9 1 u n z') (hg : w.grownBy w' u.ownBlock) : CmdRows w' S ys ns := fun i hi => by
  obtain ⟨u', xs', a1, a2, a3⟩ := h i hi
  obtain ⟨zs', a4⟩ := owns_over a2 h0 h1 hg (by omega)
  exact ⟨u', zs', a1, a4, a3⟩
theorem CmdRows.overN {w w' : World} {S : Nat → Prop} {ys : List Value} {ns : List Nat} {u : Value} {n : Nat} {z : List Value} (h : CmdRows w S ys ns) (h0 : w.ownsRow 0 125 2 u n z) (hg : w.grownBy w' u.ownBlock) : CmdRows w' S ys ns := fun i hi => by
  obtain ⟨u', xs', a1, a2, a3⟩ := h i hi
  exact ⟨u', xs', a1, a2.kept hg (owns_apart a2 h0 (by decide)), a3⟩
/-- The rows of a row of packs: each may be written. -/
def PackRows (w : World) (S : Nat → Prop) (ys : List Value) (xs : List PackD) : Prop := ∀ i (h : i < xs.length), ∃ u0 u1 u2 z0 z1 z2, ys[i * 4 + 1]? = some u0 ∧ ys[i * 4 + 2]? = some u1 ∧ ys[i * 4 + 3]? = some u2 ∧ w.ownsRow 0 9 1 u0 xs[i].uses.length z0 ∧ (∀ g, u0.ownBlock = some g → S g) ∧ w.ownsRow 0 125 2 u1 xs[i].needs.length z1 ∧ (∀ g, u1.ownBlock = some g → S g) ∧ w.ownsRow 0 114 2 u2 xs[i].cmds.length z2 ∧ (∀ g, u2.ownBlock = some g → S g) ∧ CmdRows w S z2 (xs[i].cmds.map fun c => c.acts.length)
theorem PackRows.set {w : World} {S : Nat → Prop} {ys : List Value} {xs : List PackD} (h : PackRows w S ys xs) (i : Nat) (v : Value) : PackRows w S (ys.set (i * 4) v) xs := fun j hj => by
  obtain ⟨u0, u1, u2, z0, z1, z2, h1, h2, h3, h4⟩ := h j hj
  exact ⟨u0, u1, u2, z0, z1, z2, by rw [List.getElem?_set_ne (by omega)]; exact h1, by rw [List.getElem?_set_ne (by omega)]; exact h2, by rw [List.getElem?_set_ne (by omega)]; exact h3, h4⟩
theorem owns_belowP {w w' : World} {lo sz n : Nat} {e : TypeId} {u : Value} {zs : List Value} (h : w.ownsRow lo e sz u n zs) (hb : Below w.heap.size w w') : w'.ownsRow lo e sz u n zs := owns_kept (S := fun b => b < w.heap.size) (.of hb (fun b h => h)) (fun g hg => (owns_in h g hg).2) h
theorem PackRows.below {w w' : World} {S : Nat → Prop} {ys : List Value} {xs : List PackD} (h : PackRows w S ys xs) (hb : Below w.heap.size w w') : PackRows w' S ys xs := fun j hj => by
  obtain ⟨u0, u1, u2, z0, z1, z2, h1, h2, h3, a0, i0, a1, i1, a2, i2, c⟩ := h j hj
  exact ⟨u0, u1, u2, z0, z1, z2, h1, h2, h3, owns_belowP a0 hb, i0, owns_belowP a1 hb, i1, owns_belowP a2 hb, i2, c.below hb⟩
theorem PackRows.store {w : World} {S : Nat → Prop} {ys : List Value} {xs : List PackD} {g j n cap : Nat} {zs : List Value} {x : Value} (h : PackRows w S ys xs) (hg : w.ownsRow 0 33 4 (.slice (some ⟨g, 0, none⟩) n cap) n zs) : PackRows (w.setCell ⟨g, j, none⟩ x) S ys xs := fun i hi => by
  obtain ⟨u0, u1, u2, z0, z1, z2, h1, h2, h3, a0, i0, a1, i1, a2, i2, c⟩ := h i hi
  exact ⟨u0, u1, u2, z0, z1, z2, h1, h2, h3, own_putP a0 hg (by decide), i0, own_putP a1 hg (by decide), i1, own_putP a2 hg (by decide), i2, c.put hg (by decide)⟩
theorem PackRows.cmd {w : World} {S : Nat → Prop} {ys : List Value} {xs : List PackD} {g i n cap : Nat} {zs : List Value} {x : ByteArray} (h : PackRows w S ys xs) (hg : w.ownsRow 0 114 2 (.slice (some ⟨g, 0, none⟩) n cap) n zs) : PackRows (w.setCell ⟨g, i * 2, none⟩ (.string x)) S ys xs := fun j hj => by
  obtain ⟨u0, u1, u2, z0, z1, z2, h1, h2, h3, a0, i0, a1, i1, a2, i2, c⟩ := h j hj
  obtain ⟨z3, a3, hz⟩ := owns_setAny a2 g (i * 2) (.string x)
  refine ⟨u0, u1, u2, z0, z1, z3, h1, h2, h3, own_putP a0 hg (by decide), i0, own_putP a1 hg (by decide), i1, a3, i2, ?_⟩
  rcases hz with rfl | rfl
  · exact c.store hg
  · exact (c.store hg).set0 i _
theorem PackRows.overS {w w' : World} {S : Nat → Prop} {ys : List Value} {xs : List PackD} {u : Value} {n : Nat} {z z' : List Value} (h : PackRows w S ys xs) (h0 : w.ownsRow 0 9 1 u n z) (h1 : w'.ownsRow 0 9 1 u n z') (hg : w.grownBy w' u.ownBlock) : PackRows w' S ys xs := fun i hi => by
  obtain ⟨u0, u1, u2, z0, z1, z2, e1, e2, e3, a0, i0, a1, i1, a2, i2, c⟩ := h i hi
  obtain ⟨z9, a9⟩ := owns_over a0 h0 h1 hg (by omega)
  exact ⟨u0, u1, u2, z9, z1, z2, e1, e2, e3, a9, i0, a1.kept hg (owns_apart a1 h0 (by decide)), i1, a2.kept hg (owns_apart a2 h0 (by decide)), i2, c.overS h0 h1 hg⟩
theorem PackRows.overN {w w' : World} {S : Nat → Prop} {ys : List Value} {xs : List PackD} {u : Value} {n : Nat} {z z' : List Value} (h : PackRows w S ys xs) (h0 : w.ownsRow 0 125 2 u n z) (h1 : w'.ownsRow 0 125 2 u n z') (hg : w.grownBy w' u.ownBlock) : PackRows w' S ys xs := fun i hi => by
  obtain ⟨u0, u1, u2, z0, z1, z2, e1, e2, e3, a0, i0, a1, i1, a2, i2, c⟩ := h i hi
  obtain ⟨z9, a9⟩ := owns_over a1 h0 h1 hg (by omega)
  exact ⟨u0, u1, u2, z0, z9, z2, e1, e2, e3, a0.kept hg (owns_apart a0 h0 (by decide)), i0, a9, i1, a2.kept hg (owns_apart a2 h0 (by decide)), i2, c.overN h0 hg⟩
theorem packRows_of {S : Nat → Prop} {w : World} {ys : List Value} {xs : List PackD} (h : Laid shPackO S w ys xs xs.length) : PackRows w S ys xs := fun i hi => by
  obtain ⟨cs, h1, ⟨u0, u1, u2, rfl, _, r0, _, r1, r2⟩, h4⟩ := h i hi hi
  obtain ⟨_, y1, o1, in1, _⟩ := r1
  obtain ⟨_, y2, o2, in2, la2⟩ := r2
  exact ⟨u0, u1, u2, _, _, _, h4 1 (by simp), h4 2 (by simp), h4 3 (by simp), r0.1, r0.2, o1, in1, o2, in2, cmdRows_of la2⟩
/-- A row of packs, and the rows in it. -/
def InPack (S : Nat → Prop) (v : Value) (ys : List Value) (xs : List PackD) (w : World) : Prop := w.ownsRow 0 33 4 v xs.length ys ∧ PackRows w S ys xs
theorem inPack_inv (S : Nat → Prop) (v : Value) (ys : List Value) (xs : List PackD) : InvC (InPack S v ys xs) where
  below w w' h hb := ⟨owns_belowP h.1 hb, h.2.below hb⟩
  cmd w g i n cap zs x h hg := ⟨own_putP h.1 hg (by decide), h.2.cmd hg⟩
  strs w w' u n z z' h h0 h1 hg := ⟨h.1.kept hg (owns_apart h.1 h0 (by decide)), h.2.overS h0 h1 hg⟩
def cntK (d : PackD) : Nat := 1 + d.uses.length + d.needs.length * 2 + ((d.cmds.map fun c => c.acts.length).length + (d.cmds.map fun c => c.acts.length).sum)
def cntKs (xs : List PackD) : Nat := (xs.map cntK).sum
theorem cntKs_take (xs : List PackD) (i : Nat) (h : i < xs.length) : cntKs (xs.take (i + 1)) = cntKs (xs.take i) + cntK xs[i] := by
  unfold cntKs
  rw [List.take_succ_eq_append_getElem h, List.map_append, List.sum_append]; simp
theorem cntKs_le (xs : List PackD) (i : Nat) : cntKs (xs.take i) ≤ cntKs xs := by
  unfold cntKs
  conv => rhs; rw [← List.take_append_drop i xs, List.map_append, List.sum_append]
  omega
theorem cntK_wt (d : PackD) : cntK d ≤ 4 * (1 + wtPack d) := by
  have h1 := len_wtRow wtNeed d.needs
  have h2 := cmds_sum d.cmds
  unfold cntK wtPack bulkS
  omega
theorem cntKs_wt : ∀ xs : List PackD, cntKs xs ≤ 4 * wtRow wtPack xs
  | [] => by simp [cntKs]
  | d :: xs => by
    have h1 := cntKs_wt xs
    have h2 := cntK_wt d
    have e1 : cntKs (d :: xs) = cntK d + cntKs xs := by simp [cntKs]
    have e2 : wtRow wtPack (d :: xs) = (1 + wtPack d) + wtRow wtPack xs := by simp [wtRow]
    omega

end Go.Proofs.Ytkkhnldhipfneaa

/-! Marks put into rows of lists of texts, as the law puts them: a contract for the walks; conditions: the rows lie in memory, may be written, and there are at most 2 to the 32 marks. -/
namespace Go.Proofs.Ytkkhnldhipfneaa
open Go.RowKit
set_option linter.unusedSimpArgs false
set_option linter.unusedVariables false

/-- The lists of a row: each may be written. -/
def SsRows (w : World) (S : Nat → Prop) (ys : List Value) (xs : List StringSD) : Prop := ∀ i (h : i < xs.length), ∃ u z, ys[i]? = some u ∧ w.ownsRow 0 9 1 u xs[i].length z ∧ (∀ g, u.ownBlock = some g → S g)
theorem SsRows.overS {w w' : World} {S : Nat → Prop} {ys : List Value} {xs : List StringSD} {u : Value} {n : Nat} {z z' : List Value} (h : SsRows w S ys xs) (h0 : w.ownsRow 0 9 1 u n z) (h1 : w'.ownsRow 0 9 1 u n z') (hg : w.grownBy w' u.ownBlock) : SsRows w' S ys xs := fun i hi => by
  obtain ⟨u0, z0, a1, a3, a4⟩ := h i hi
  obtain ⟨z2, a7⟩ := owns_over a3 h0 h1 hg (by omega)
  exact ⟨u0, z2, a1, a7, a4⟩
theorem ssRows_of {S : Nat → Prop} {w : World} {ys : List Value} {xs : List StringSD} (h : Laid shStringSO S w ys xs xs.length) : SsRows w S ys xs := fun i hi => by
  obtain ⟨cs, _, ⟨u0, rfl, a0, _⟩, h4⟩ := h i hi hi
  have h5 := h4 0 (by simp)
  simp only [shStringSO, Nat.mul_one, Nat.add_zero, List.getElem_cons_zero] at h5
  exact ⟨u0, _, h5, a0.1, a0.2⟩
/-- A row of lists that may be written, whatever texts they hold. -/
def RowOwnM (w : World) (S : Nat → Prop) (v : Value) (xs : List StringSD) : Prop := ∃ zs, w.ownsRow 0 26 1 v xs.length zs ∧ (∀ g, v.ownBlock = some g → S g) ∧ SsRows w S zs xs
theorem rowOwnM_of {w : World} {S : Nat → Prop} {v : Value} {xs : List StringSD} (h : RowOwn shStringSO 26 S w v xs) : RowOwnM w S v xs := by
  obtain ⟨_, zs, hv, hg, hld⟩ := h
  exact ⟨zs, hv, hg, ssRows_of hld⟩
def cntSs (xs : List StringSD) : Nat := (xs.map List.length).sum
theorem cntSs_take (xs : List StringSD) (i : Nat) (h : i < xs.length) : cntSs (xs.take (i + 1)) = cntSs (xs.take i) + xs[i].length := by
  unfold cntSs
  rw [List.take_succ_eq_append_getElem h, List.map_append, List.sum_append]; simp
theorem cntSs_le (xs : List StringSD) (i : Nat) : cntSs (xs.take i) ≤ cntSs xs := by
  unfold cntSs
  conv => rhs; rw [← List.take_append_drop i xs, List.map_append, List.sum_append]
  omega
theorem cntSs_wt : ∀ xs : List StringSD, cntSs xs ≤ wtRow wtStringS xs
  | [] => by simp [cntSs]
  | d :: xs => by
    have h1 := cntSs_wt xs
    have e1 : cntSs (d :: xs) = d.length + cntSs xs := by simp [cntSs]
    have e2 : wtRow wtStringS (d :: xs) = (1 + wtStringS d) + wtRow wtStringS xs := by simp [wtRow]
    have e3 : d.length ≤ wtStringS d := by unfold wtStringS bulkS; omega
    omega

set_option maxHeartbeats 8000000 in
set_option maxRecDepth 100000 in
theorem markSsM_c (S : Nat → Prop) (v : Value) (xs : List StringSD) (k : Nat) (w : World) (hv : RowOwnM w S v xs) (h1 : 1 ≤ k) (h2 : k + cntSs xs ≤ 4294967296) :
    Calls Try.prog 69 #[v, .int .i64 (k : Int)] w fun e w' => e = .returned (.int .i64 ((k + cntSs xs : Nat) : Int)) ∧ Chg S w w' := by
  obtain ⟨zs, hv, hg, hr⟩ := hv
  rcases id hv.2 with ⟨rfl, hn0⟩ | ⟨g, cap, cur, rfl, _, hgb, hcap, hmax, _⟩
  · have hns : xs = [] := List.eq_nil_of_length_eq_zero hn0
    subst hns
    clear hv hg hr
    go_enter Try.func69, Try.ntmps69
    go_wp2_with fail
    go_loopw [1, 5] (fun vk vi wr => vk = .int .i64 (k : Int) ∧ vi = .int .i64 0 ∧ wr = w) (fun _ _ _ => 0)
    case atStart => exact ⟨rfl, rfl, rfl⟩
    case round =>
      obtain ⟨rfl, rfl, rfl⟩ := hrel
      go_wp2_with fail
      go_ret
      exact ⟨by simp [cntSs], Chg.refl _ _⟩
  · have hSg := hg g rfl
    unfold maxLen at hmax
    clear hgb hg
    go_enter Try.func69, Try.ntmps69
    go_wp2_with fail
    go_loopw [1, 5] (fun vk vi wr => ∃ (i m : Nat), i ≤ xs.length ∧ vi = .int .i64 (i : Int) ∧ vk = .int .i64 (m : Int) ∧ Hid (m = k + cntSs (xs.take i)) ∧ wr.ownsRow 0 26 1 (.slice (some ⟨g, 0, none⟩) xs.length cap) xs.length zs ∧ Hid (SsRows wr S zs xs) ∧ Chg S w wr) (fun _ vi _ => xs.length - (intOf vi).toNat)
    case atStart => exact ⟨0, k, Nat.zero_le _, rfl, rfl, by show _ = _; simp [cntSs], hv, hr, Chg.refl _ _⟩
    case round =>
      obtain ⟨i, m, hi, rfl, rfl, hm, hown, hrr, hchg⟩ := hrel
      by_cases hlt : i < xs.length
      · have hlen := hown.1
        have hts := cntSs_take xs i hlt
        have htl := cntSs_le xs (i + 1)
        obtain ⟨P, hP⟩ : ∃ P, P = xs[i].length := ⟨_, rfl⟩
        rw [← hP] at hts
        have HTS : Hid (cntSs (xs.take (i + 1)) = cntSs (xs.take i) + P ∧ cntSs (xs.take (i + 1)) ≤ cntSs xs) := ⟨hts, htl⟩
        have HP := hidden hP
        have hm2 : m + P ≤ 4294967296 := by have := hm.out; omega
        have hm1 : 1 ≤ m := by have := hm.out; omega
        obtain ⟨K1, hK1⟩ : ∃ K, K = m + P := ⟨_, rfl⟩
        have hKb : K1 ≤ 4294967296 := by omega
        have hki : (i : Int) < (xs.length : Int) := by omega
        have HO := hidden hown
        obtain ⟨u0, z0, hu1, hu3, hu4⟩ := hrr.out i hlt
        rw [← hP] at hu3
        have HN1 : Calls Try.prog 30 #[u0, .int .i64 (m : Int)] wr fun e w' => e = .returned (.int .i64 (K1 : Int)) ∧ (∃ z', w'.ownsRow 0 9 1 u0 P z') ∧ wr.grownBy w' u0.ownBlock := by
          have h9 := markStrs_c u0 0 P z0 m wr hu3 hm1 (by omega) (by omega) (Nat.zero_le _)
          rw [show (m : Int) + (P : Int) = (K1 : Int) by omega] at h9
          exact h9.mono fun e w' ⟨a, b, c⟩ => ⟨a, ⟨_, b⟩, c⟩
        have d1 : wr.cell? ⟨g, i, none⟩ = some u0 := by
          rw [hown.cellAt _ (by omega)]
          exact hu1
        obtain ⟨qu, cu, eu⟩ := owns_sliceP hu3
        subst eu
        have HMS := hidden HN1
        have HU2 := hidden hu3
        have HU4 := hidden hu4
        have HKK : Hid (K1 = m + P) := hK1
        clear hown hv hr hts htl hP hK1 hu1 hu3 hu4 HN1 hlen
        go_wp2_with fail
        go_at_call 30
        refine HMS.out.mono ?_
        rintro e w2 ⟨rfl, ⟨z9, y2⟩, g2⟩
        have r3 := HO.out.kept g2 (owns_apart HO.out HU2.out (by decide))
        have q6 := hrr.out.overS HU2.out y2 g2
        have HCH2 := hidden (Chg.grown g2 HU4.out)
        clear y2 g2 HMS HU2 HU4 d1
        go_wp2_with fail
        go_roundw
        case rel => exact ⟨i + 1, K1, by omega, by go_num, rfl, (by show _ = _; have := hm.out; have := HTS.out; have := HKK.out; omega), r3, q6, hchg.trans HCH2.out⟩
        case measure => simp [intOf]; omega
      · have he : i = xs.length := by omega
        subst he
        have hmm : m = k + cntSs xs := by have := hm.out; rw [List.take_length] at this; exact this
        have HMM := hidden hmm
        clear hown hv hr hrr hmm
        go_wp2_with fail
        go_ret
        exact ⟨by rw [← HMM.out]; rfl, hchg⟩
end Go.Proofs.Ytkkhnldhipfneaa

/-! A plan in memory, as the laws take and copy it: contracts restated for the laws' walks; condition: it holds at most 2 to the 20. -/
namespace Go.Proofs.Ytkkhnldhipfneaa
open Go.RowKit
set_option linter.unusedSimpArgs false
set_option linter.unusedVariables false

theorem box_staysP {w w' : World} {b : Nat} {o : Obj} (h : w.heap[b]? = some o) (k : Below w.heap.size w w') : w'.heap[b]? = some o := (k.block b (Array.getElem?_eq_some_iff.1 h).1).trans h
theorem cells2P {w : World} {g : Nat} {a b : Value} {t : TypeId} (h : w.heap[g]? = some (.cells #[a, b] t (0, 0))) : w.cell? ⟨g, 0, none⟩ = some a ∧ w.cell? ⟨g, 1, none⟩ = some b := ⟨vblk_cell h 0, vblk_cell h 1⟩
theorem plan_cells {S : Nat → Prop} {w : World} {cs : List Value} {d : PlanD} (h : shPlan.lies S w cs d) : ∃ x0 y0 x1 y1, cs = [.slice x0 d.tasks.length y0, .slice x1 d.deps.length y1] := by
  obtain ⟨u0, u1, rfl, r0, _, r1⟩ := h
  obtain ⟨a0, c0, e0, _⟩ := r0
  rw [length_strsV] at e0
  obtain ⟨a1, c1, e1, _⟩ := r1
  exact ⟨a0, c0, a1, c1, by rw [e0, e1]⟩
/-- A copy of a plan, in blocks from lo on, below hi. -/
def PlanL (lo hi : Nat) (W : World) (a : Option Addr) (c : Nat) (b : Option Addr) (e : Nat) (d : PlanD) : Prop := shPlanO.lies (Ow lo hi) W [.slice a d.tasks.length c, .slice b d.deps.length e] d ∧ hi ≤ W.heap.size
theorem PlanL.below {lo hi : Nat} {W W' : World} {a b : Option Addr} {c e : Nat} {d : PlanD} (h : PlanL lo hi W a c b e d) (k : Below W.heap.size W W') : PlanL lo hi W' a c b e d :=
  ⟨shPlanO.keep (Kp.of k (fun g hg => Nat.lt_of_lt_of_le hg.2 h.2)) h.1, Nat.le_trans h.2 k.size⟩
theorem PlanL.lt {lo hi : Nat} {W : World} {a b : Option Addr} {c e : Nat} {d : PlanD} (h : PlanL lo hi W a c b e d) : ∀ g, Ow lo hi g → g < W.heap.size := fun g hg => Nat.lt_of_lt_of_le hg.2 h.2
theorem toPlanL (S : Nat → Prop) (a b : Option Addr) (c e : Nat) (d : PlanD) (w : World) (h : shPlan.lies S w [.slice a d.tasks.length c, .slice b d.deps.length e] d) (hB : ∀ g, S g → g < w.heap.size) (hw : wtPlan d ≤ 1048576) :
    Calls Try.prog 23 #[.agg #[.slice a d.tasks.length c, .slice b d.deps.length e]] w fun r w' => ∃ p0 q0 p1 q1, r = .returned (.agg #[.slice p0 d.tasks.length q0, .slice p1 d.deps.length q1]) ∧ PlanL w.heap.size w'.heap.size w' p0 q0 p1 q1 d ∧ Below w.heap.size w w' := by
  refine (toPlan_c S d _ w h hB hw).mono ?_
  rintro r w' ⟨cs', rfl, hl, k⟩
  obtain ⟨p0, q0, p1, q1, rfl⟩ := plan_cells (liesPlan_plain hl)
  exact ⟨p0, q0, p1, q1, rfl, ⟨hl, Nat.le_refl _⟩, k⟩
theorem eqPlanL {lo hi lo' hi' : Nat} {a b a' b' : Option Addr} {c e c' e' : Nat} {d : PlanD} (w : World) (h : PlanL lo hi w a c b e d) (h' : PlanL lo' hi' w a' c' b' e' d) (hw : wtPlan d ≤ 1048576) :
    Calls Try.prog 25 #[.agg #[.slice a d.tasks.length c, .slice b d.deps.length e], .agg #[.slice a' d.tasks.length c', .slice b' d.deps.length e']] w fun r w' => r = .returned (.bool true) ∧ Below w.heap.size w w' :=
  eqPlan_c _ _ d _ _ w (liesPlan_plain h.1) (liesPlan_plain h'.1) h.lt h'.lt hw
theorem lens_plan {d : PlanD} (hw : wtPlan d ≤ 1048576) : d.tasks.length + cntSs d.deps ≤ 1048576 := by
  have h1 := cntSs_wt d.deps
  unfold wtPlan at hw
  have h2 : d.tasks.length ≤ bulkS d.tasks := by unfold bulkS; omega
  omega

set_option maxHeartbeats 4000000 in
set_option maxRecDepth 100000 in
theorem markPlanL {lo hi : Nat} {a b : Option Addr} {c e : Nat} {d : PlanD} (w : World) (h : PlanL lo hi w a c b e d) (hw : wtPlan d ≤ 1048576) :
    Calls Try.prog 29 #[.agg #[.slice a d.tasks.length c, .slice b d.deps.length e], .int .i64 1] w fun r w' => ∃ q : Nat, r = .returned (.int .i64 (q : Int)) ∧ Chg (Ow lo hi) w w' := by
  obtain ⟨⟨u0, u1, he, r0, p0, r1⟩, hlt⟩ := h
  simp only [List.cons.injEq, and_true] at he
  obtain ⟨rfl, rfl⟩ := he
  have hl := lens_plan hw
  have hbx : ∀ o, Below w.heap.size w (w.alloc o) := fun o => (Below.refl _ _).alloc (Nat.le_refl _) _
  obtain ⟨K1, hK1⟩ : ∃ K, K = 1 + d.tasks.length := ⟨_, rfl⟩
  have H0 : Hid (∀ W, Below w.heap.size w W → Calls Try.prog 30 #[.slice a d.tasks.length c, .int .i64 1] W fun e w' => e = .returned (.int .i64 (K1 : Int)) ∧ (∃ z', w'.ownsRow 0 9 1 (.slice a d.tasks.length c) d.tasks.length z') ∧ W.grownBy w' (Value.slice a d.tasks.length c).ownBlock) := fun W k => by
    have h9 := markStrs_c _ 0 d.tasks.length _ 1 W (owns_of_belowN r0.1 k) (Nat.le_refl _) (by omega) (by omega) (Nat.zero_le _)
    rw [show ((1 : Nat) : Int) + (d.tasks.length : Int) = (K1 : Int) by omega] at h9
    exact h9.mono fun e w' ⟨a, b, c⟩ => ⟨a, ⟨_, b⟩, c⟩
  have H1 : Hid (∀ W, RowOwnM W (Ow lo hi) (.slice b d.deps.length e) d.deps → Calls Try.prog 69 #[.slice b d.deps.length e, .int .i64 (K1 : Int)] W fun e w' => (∃ q : Nat, e = .returned (.int .i64 (q : Int))) ∧ Chg (Ow lo hi) W w') := fun W hr => by
    refine (markSsM_c _ _ d.deps K1 W hr (by omega) (by omega)).mono ?_
    rintro e w' ⟨rfl, k⟩
    exact ⟨⟨_, rfl⟩, k⟩
  have HM : Hid (∀ W W', Below w.heap.size w W → W.grownBy W' (Value.slice a d.tasks.length c).ownBlock → (∃ z', W'.ownsRow 0 9 1 (.slice a d.tasks.length c) d.tasks.length z') → RowOwnM W' (Ow lo hi) (.slice b d.deps.length e) d.deps) := fun W W' k g hz => by
    obtain ⟨z', hz'⟩ := hz
    obtain ⟨zs, hv, hg, hr⟩ := rowOwnM_of r1
    have hv2 := owns_of_belowN hv k
    have h0 := owns_of_belowN r0.1 k
    have hr2 : SsRows W (Ow lo hi) zs d.deps := fun i hi => by
      obtain ⟨u0, z0, a1, a3, a4⟩ := hr i hi
      exact ⟨u0, z0, a1, owns_of_belowN a3 k, a4⟩
    exact ⟨zs, hv2.kept g (owns_apart hv2 h0 (by decide)), hg, hr2.overS h0 hz' g⟩
  have HG : Hid (∀ g, (Value.slice a d.tasks.length c).ownBlock = some g → Ow lo hi g) := r0.2
  obtain ⟨n, hn⟩ : ∃ n, n = d.tasks.length := ⟨_, rfl⟩
  obtain ⟨m, hm⟩ : ∃ n, n = d.deps.length := ⟨_, rfl⟩
  rw [← hn] at H0 HM HG
  rw [← hm] at H1 HM
  rw [← hn, ← hm]
  have hA0 : (w.alloc (.cells #[.slice a n c, .slice b m e] 47 (0, 0))).heap[w.heap.size]? = some (.cells #[.slice a n c, .slice b m e] 47 (0, 0)) := vheap_new _ _
  have hlo : w.heap.size < (w.alloc (.cells #[.slice a n c, .slice b m e] 47 (0, 0))).heap.size := by simp
  have HLT := hidden hlt
  clear r0 r1 p0 hK1 hl hw hn hm hlt
  go_enter Try.func29, Try.ntmps29
  go_wp2_with fail
  go_at_call 30
  refine (H0.out _ (hbx _)).mono ?_
  rintro e w1 ⟨rfl, hz, g1⟩
  have hA1 := (g1.block w.heap.size hlo (fun e => by have h1 := (HG.out _ e.symm).2; have := HLT.out; omega)).trans hA0
  have hM1 := HM.out _ _ (hbx _) g1 hz
  have hC1 := (Chg.of (S := Ow lo hi) (hbx (.cells #[.slice a n c, .slice b m e] 47 (0, 0)))).trans (Chg.grown g1 HG.out)
  obtain ⟨x0, x1⟩ := cells2P hA1
  have HM1 := hidden hM1
  have HC1 := hidden hC1
  clear hM1 hC1 hz g1 hA0 H0 HM
  go_wp2_with fail
  go_at_call 69
  refine (H1.out _ HM1.out).mono ?_
  rintro e w2 ⟨⟨q, rfl⟩, ch⟩
  have HF := hidden (HC1.out.trans ch)
  clear ch HC1 HM1 hA1 x0 x1
  go_wp2_with fail
  go_ret
  exact ⟨q, rfl, HF.out⟩
end Go.Proofs.Ytkkhnldhipfneaa

/-! The law on PlanOk, walked: whatever plan comes in, the program and the specification tell alike, and nothing is written into the argument; condition: what comes in lies in memory. -/
namespace Go.Proofs.Ytkkhnldhipfneaa
open Go.RowKit
set_option linter.unusedSimpArgs false
set_option linter.unusedVariables false

set_option maxHeartbeats 8000000 in
set_option maxRecDepth 100000 in
theorem planOk_walk (b0 : List Value) (d : PlanD) (w : World) (r0 : shPlan.lies (· < w.heap.size) w b0 d) :
    Calls Try.prog 6 #[.agg b0.toArray] w fun e w' => e = .returned (.bool true) ∧ Below w.heap.size w w' := by
  obtain ⟨x0, y0, x1, y1, rfl⟩ := plan_cells r0
  have hin : ∀ w1, Below w.heap.size w w1 → shPlan.lies (· < w.heap.size) w1 [.slice x0 d.tasks.length y0, .slice x1 d.deps.length y1] d := fun w1 h => shPlan.keep (Kp.of h (fun b h => h)) r0
  have hbx : Below w.heap.size w (w.alloc (.cells #[.slice x0 d.tasks.length y0, .slice x1 d.deps.length y1] 44 (0, 0))) := (Below.refl _ _).alloc (Nat.le_refl _) _
  have hA0 : (w.alloc (.cells #[.slice x0 d.tasks.length y0, .slice x1 d.deps.length y1] 44 (0, 0))).heap[w.heap.size]? = some (.cells #[.slice x0 d.tasks.length y0, .slice x1 d.deps.length y1] 44 (0, 0)) := vheap_new _ _
  have HZ : Hid (∀ w1, Below w.heap.size w w1 → Calls Try.prog 21 #[.agg #[.slice x0 d.tasks.length y0, .slice x1 d.deps.length y1], .int .i64 1048576] w1 fun e w' => e = .returned (.int .i64 (leftW (wtPlan d) 1048576)) ∧ Below w1.heap.size w1 w') := fun w1 h => szPlan_c _ d _ _ (by omega) (by omega) w1 (hin w1 h) (fun b hb => Nat.lt_of_lt_of_le hb h.size)
  by_cases hbig : 1048576 < wtPlan d
  · have e1 : leftW (wtPlan d) 1048576 = -1 := leftW_bad (by omega)
    rw [e1] at HZ
    clear e1 hin r0
    go_enter Try.func6, Try.ntmps6
    go_wp2_with (go_at_call 21; refine (HZ.out _ hbx).mono ?_; rintro e w1 ⟨rfl, hb1⟩)
    go_ret
    exact ⟨rfl, hbx.trans (hb1.mono hbx.size)⟩
  have hwt : wtPlan d ≤ 1048576 := by omega
  obtain ⟨p, hp⟩ : ∃ p, p = leftW (wtPlan d) 1048576 := ⟨_, rfl⟩
  rw [← hp] at HZ
  have hp0 : 0 ≤ p := by rw [hp, leftW_good (by omega)]; omega
  clear hp
  have HT : Hid (∀ w1, Below w.heap.size w w1 → Calls Try.prog 23 #[.agg #[.slice x0 d.tasks.length y0, .slice x1 d.deps.length y1]] w1 fun e w' => ∃ p q r t, e = .returned (.agg #[.slice p d.tasks.length q, .slice r d.deps.length t]) ∧ PlanL w1.heap.size w'.heap.size w' p q r t d ∧ Below w1.heap.size w1 w') := fun w1 h => toPlanL _ _ _ _ _ d w1 (hin w1 h) (fun b hb => Nat.lt_of_lt_of_le hb h.size) hwt
  obtain ⟨R, hR⟩ : ∃ R, R = planB d := ⟨_, rfl⟩
  have HSP : Hid (∀ w1 lo hi p q r t, PlanL lo hi w1 p q r t d → Calls Try.prog 22 #[.agg #[.slice p d.tasks.length q, .slice r d.deps.length t]] w1 fun e w' => e = .returned (.bool R) ∧ Below w1.heap.size w1 w') := fun w1 lo hi p q r t h => by
    rw [hR]; exact specPlanOk_c _ d _ w1 (liesPlan_plain h.1) h.lt hwt
  have HIM : Hid (∀ w1 lo hi p q r t, PlanL lo hi w1 p q r t d → Calls Try.prog 24 #[.agg #[.slice p d.tasks.length q, .slice r d.deps.length t]] w1 fun e w' => e = .returned (.bool R) ∧ Below w1.heap.size w1 w') := fun w1 lo hi p q r t h => by
    rw [hR]; exact implPlanOk_c _ d _ w1 (liesPlan_plain h.1) h.lt hwt
  have HEP : Hid (∀ w1 lo hi p q r t lo' hi' p' q' r' t', PlanL lo hi w1 p q r t d → PlanL lo' hi' w1 p' q' r' t' d → Calls Try.prog 25 #[.agg #[.slice p d.tasks.length q, .slice r d.deps.length t], .agg #[.slice p' d.tasks.length q', .slice r' d.deps.length t']] w1 fun e w' => e = .returned (.bool true) ∧ Below w1.heap.size w1 w') := fun w1 lo hi p q r t lo' hi' p' q' r' t' h h' => eqPlanL w1 h h' hwt
  clear hR hin r0 hbig hwt
  go_enter Try.func6, Try.ntmps6
  go_wp2_with fail
  go_at_call 21
  refine (HZ.out _ hbx).mono ?_
  rintro e w1 ⟨rfl, b1⟩
  have hA1 := box_staysP hA0 b1
  have k1 := hbx.trans (b1.mono hbx.size)
  clear HZ b1 hA0 hbx
  obtain ⟨a0, a1⟩ := cells2P hA1
  go_wp2_with fail
  go_at_call 23
  refine (HT.out _ k1).mono ?_
  rintro e w2 ⟨p2, q2, r2, t2, rfl, P2, b2⟩
  have hA2 := box_staysP hA1 b2
  have k2 := k1.trans (b2.mono k1.size)
  clear hA1 b2 a0 a1
  go_wp2_with fail
  go_at_call 22
  refine (HSP.out _ _ _ _ _ _ _ P2).mono ?_
  rintro e w3 ⟨rfl, b3⟩
  have hA3 := box_staysP hA2 b3
  have k3 := k2.trans (b3.mono k2.size)
  obtain ⟨a0, a1⟩ := cells2P hA3
  clear hA2 b3 P2 HSP
  go_wp2_with fail
  go_at_call 23
  refine (HT.out _ k3).mono ?_
  rintro e w4 ⟨p4, q4, r4, t4, rfl, P4, b4⟩
  have k4 := k3.trans (b4.mono k3.size)
  have hA4 := box_staysP hA3 b4
  have m4 := b4.size
  clear hA3 b4 a0 a1
  have x4 : Below w4.heap.size w4 (w4.alloc (.cells #[.slice p4 d.tasks.length q4, .slice r4 d.deps.length t4] 47 (0, 0))) := (Below.refl _ _).alloc (Nat.le_refl _) _
  have h5 : (w4.alloc (.cells #[.slice p4 d.tasks.length q4, .slice r4 d.deps.length t4] 47 (0, 0))).heap[w4.heap.size]? = some (.cells #[.slice p4 d.tasks.length q4, .slice r4 d.deps.length t4] 47 (0, 0)) := vheap_new _ _
  have s4 : (w4.alloc (.cells #[.slice p4 d.tasks.length q4, .slice r4 d.deps.length t4] 47 (0, 0))).heap.size = w4.heap.size + 1 := by simp
  go_wp2_with fail
  obtain ⟨wb, hwb⟩ : ∃ wb, wb = w4.alloc (.cells #[.slice p4 d.tasks.length q4, .slice r4 d.deps.length t4] 47 (0, 0)) := ⟨_, rfl⟩
  rw [← hwb] at x4 h5 s4
  rw [← hwb]
  clear hwb
  have kb := k4.trans (x4.mono k4.size)
  have hAb := box_staysP hA4 x4
  have Pb := P4.below x4
  clear hA4 P4 x4
  go_at_call 24
  refine (HIM.out _ _ _ _ _ _ _ Pb).mono ?_
  rintro e w5 ⟨rfl, b5⟩
  have k5 := kb.trans (b5.mono kb.size)
  have hA5 := box_staysP hAb b5
  have h55 := box_staysP h5 b5
  have P5 := Pb.below b5
  clear hAb h5 Pb b5 HIM
  obtain ⟨a0, a1⟩ := cells2P hA5
  obtain ⟨c0, c1⟩ := cells2P h55
  cases R
  · have h0 : Below w5.heap.size w5 w5.drew := (Below.refl _ _).drew
    have KEEP : Hid (∀ W, Below w5.heap.size w5 W → W.cell? ⟨w4.heap.size, 0, none⟩ = some (.slice p4 d.tasks.length q4) ∧ W.cell? ⟨w4.heap.size, 1, none⟩ = some (.slice r4 d.deps.length t4) ∧ W.cell? ⟨w.heap.size, 0, none⟩ = some (.slice x0 d.tasks.length y0) ∧ W.cell? ⟨w.heap.size, 1, none⟩ = some (.slice x1 d.deps.length y1)) := fun W h => by
      obtain ⟨i0, i1⟩ := cells2P (box_staysP h55 h)
      obtain ⟨j0, j1⟩ := cells2P (box_staysP hA5 h)
      exact ⟨i0, i1, j0, j1⟩
    go_wp2_with fail
    refine wp_region_held_drew (S := (fun W => W.cell? ⟨w4.heap.size, 0, none⟩ = some (.slice p4 d.tasks.length q4) ∧ W.cell? ⟨w4.heap.size, 1, none⟩ = some (.slice r4 d.deps.length t4) ∧ W.cell? ⟨w.heap.size, 0, none⟩ = some (.slice x0 d.tasks.length y0) ∧ W.cell? ⟨w.heap.size, 1, none⟩ = some (.slice x1 d.deps.length y1))) (by kernel_rfl) ?SR10 (fun hHeld => ?_)
    case SR10 => (first | (with_reducible exact KEEP.out _ h2) | (with_reducible exact KEEP.out _ h1) | (with_reducible exact KEEP.out _ h0))
    refine wpAnyH_take (i := 0) (oi := _) (v := ?vR10) rfl (by kernel_rfl) (by kernel_rfl) (by kernel_rfl) (fun _ _ _ h => h) (Or.inl ⟨by rfl, ?yR10⟩) hHeld ?_
    case yR10 => (intro w hSw; (try dsimp only at hSw); go_simp <;> with_reducible rfl)
    try simp only [Act.put, List.getElem_toArray, List.getElem_cons_zero, List.getElem_cons_succ, List.setIfInBounds_toArray, List.set_cons_zero, List.set_cons_succ]
    refine wpAnyH_take (i := 1) (oi := _) (v := ?vR11) rfl (by kernel_rfl) (by kernel_rfl) (by kernel_rfl) (fun _ _ _ h => h) (Or.inl ⟨by rfl, ?yR11⟩) hHeld ?_
    case yR11 => (intro w hSw; (try dsimp only at hSw); go_simp <;> with_reducible rfl)
    try simp only [Act.put, List.getElem_toArray, List.getElem_cons_zero, List.getElem_cons_succ, List.setIfInBounds_toArray, List.set_cons_zero, List.set_cons_succ]
    refine wpAnyH_ready (rs := [2]) (by kernel_rfl) (by simp) ?_
    refine AllReadyH.cons rfl (fun K hK => ?_) AllReadyH.nil
    go_simp
    go_wp2_with (go_at_call 23; refine (HT.out _ (k5.trans (h0.mono k5.size))).mono ?_; rintro e w6 ⟨p6, q6, r6, t6, rfl, P6, b6⟩; have h1 : Below w5.heap.size w5 w6 := h0.trans (b6.mono h0.size); have P56 := P5.below h1)
    clear hHeld
    refine hK.out _ _ ?SR13 (fun hHeld => ?_)
    case SR13 => ((try dsimp only); first | (with_reducible exact KEEP.out _ h2) | (with_reducible exact KEEP.out _ h1) | (with_reducible exact KEEP.out _ h0))
    clear hK K
    refine wpAnyH_ready (rs := [3]) (by kernel_rfl) (by simp) ?_
    refine AllReadyH.cons rfl (fun K hK => ?_) AllReadyH.nil
    go_simp
    go_wp2_with (go_at_call 25; refine (HEP.out _ _ _ _ _ _ _ _ _ _ _ _ _ P56 P6).mono ?_; rintro e w7 ⟨rfl, b7⟩; have h2 : Below w5.heap.size w5 w7 := h1.trans (b7.mono h1.size))
    clear hHeld
    refine hK.out _ _ ?SR14 (fun hHeld => ?_)
    case SR14 => ((try dsimp only); first | (with_reducible exact KEEP.out _ h2) | (with_reducible exact KEEP.out _ h1) | (with_reducible exact KEEP.out _ h0))
    clear hK K
    refine wpAnyH_take (i := 4) (oi := _) (v := ?vR14) rfl (by kernel_rfl) (by kernel_rfl) (by kernel_rfl) (fun _ _ _ h => h) (Or.inl ⟨by rfl, ?yR14⟩) hHeld ?_
    case yR14 => (intro w hSw; (try dsimp only at hSw); go_simp <;> with_reducible rfl)
    try simp only [Act.put, List.getElem_toArray, List.getElem_cons_zero, List.getElem_cons_succ, List.setIfInBounds_toArray, List.set_cons_zero, List.set_cons_succ]
    refine wpAnyH_done (by kernel_rfl) ?_ _
    have kz := k5.trans (h2.mono k5.size)
    go_wp2_with fail
    go_ret
    exact ⟨rfl, kz⟩
  · have h0 : Below w5.heap.size w5 w5.drew := (Below.refl _ _).drew
    have KEEP : Hid (∀ W, Below w5.heap.size w5 W → W.cell? ⟨w4.heap.size, 0, none⟩ = some (.slice p4 d.tasks.length q4) ∧ W.cell? ⟨w4.heap.size, 1, none⟩ = some (.slice r4 d.deps.length t4) ∧ W.cell? ⟨w.heap.size, 0, none⟩ = some (.slice x0 d.tasks.length y0) ∧ W.cell? ⟨w.heap.size, 1, none⟩ = some (.slice x1 d.deps.length y1)) := fun W h => by
      obtain ⟨i0, i1⟩ := cells2P (box_staysP h55 h)
      obtain ⟨j0, j1⟩ := cells2P (box_staysP hA5 h)
      exact ⟨i0, i1, j0, j1⟩
    go_wp2_with fail
    refine wp_region_held_drew (S := (fun W => W.cell? ⟨w4.heap.size, 0, none⟩ = some (.slice p4 d.tasks.length q4) ∧ W.cell? ⟨w4.heap.size, 1, none⟩ = some (.slice r4 d.deps.length t4) ∧ W.cell? ⟨w.heap.size, 0, none⟩ = some (.slice x0 d.tasks.length y0) ∧ W.cell? ⟨w.heap.size, 1, none⟩ = some (.slice x1 d.deps.length y1))) (by kernel_rfl) ?SR20 (fun hHeld => ?_)
    case SR20 => (first | (with_reducible exact KEEP.out _ h2) | (with_reducible exact KEEP.out _ h1) | (with_reducible exact KEEP.out _ h0))
    refine wpAnyH_take (i := 0) (oi := _) (v := ?vR20) rfl (by kernel_rfl) (by kernel_rfl) (by kernel_rfl) (fun _ _ _ h => h) (Or.inl ⟨by rfl, ?yR20⟩) hHeld ?_
    case yR20 => (intro w hSw; (try dsimp only at hSw); go_simp <;> with_reducible rfl)
    try simp only [Act.put, List.getElem_toArray, List.getElem_cons_zero, List.getElem_cons_succ, List.setIfInBounds_toArray, List.set_cons_zero, List.set_cons_succ]
    refine wpAnyH_take (i := 1) (oi := _) (v := ?vR21) rfl (by kernel_rfl) (by kernel_rfl) (by kernel_rfl) (fun _ _ _ h => h) (Or.inl ⟨by rfl, ?yR21⟩) hHeld ?_
    case yR21 => (intro w hSw; (try dsimp only at hSw); go_simp <;> with_reducible rfl)
    try simp only [Act.put, List.getElem_toArray, List.getElem_cons_zero, List.getElem_cons_succ, List.setIfInBounds_toArray, List.set_cons_zero, List.set_cons_succ]
    refine wpAnyH_ready (rs := [2]) (by kernel_rfl) (by simp) ?_
    refine AllReadyH.cons rfl (fun K hK => ?_) AllReadyH.nil
    go_simp
    go_wp2_with (go_at_call 23; refine (HT.out _ (k5.trans (h0.mono k5.size))).mono ?_; rintro e w6 ⟨p6, q6, r6, t6, rfl, P6, b6⟩; have h1 : Below w5.heap.size w5 w6 := h0.trans (b6.mono h0.size); have P56 := P5.below h1)
    clear hHeld
    refine hK.out _ _ ?SR23 (fun hHeld => ?_)
    case SR23 => ((try dsimp only); first | (with_reducible exact KEEP.out _ h2) | (with_reducible exact KEEP.out _ h1) | (with_reducible exact KEEP.out _ h0))
    clear hK K
    refine wpAnyH_ready (rs := [3]) (by kernel_rfl) (by simp) ?_
    refine AllReadyH.cons rfl (fun K hK => ?_) AllReadyH.nil
    go_simp
    go_wp2_with (go_at_call 25; refine (HEP.out _ _ _ _ _ _ _ _ _ _ _ _ _ P56 P6).mono ?_; rintro e w7 ⟨rfl, b7⟩; have h2 : Below w5.heap.size w5 w7 := h1.trans (b7.mono h1.size))
    clear hHeld
    refine hK.out _ _ ?SR24 (fun hHeld => ?_)
    case SR24 => ((try dsimp only); first | (with_reducible exact KEEP.out _ h2) | (with_reducible exact KEEP.out _ h1) | (with_reducible exact KEEP.out _ h0))
    clear hK K
    refine wpAnyH_take (i := 4) (oi := _) (v := ?vR24) rfl (by kernel_rfl) (by kernel_rfl) (by kernel_rfl) (fun _ _ _ h => h) (Or.inl ⟨by rfl, ?yR24⟩) hHeld ?_
    case yR24 => (intro w hSw; (try dsimp only at hSw); go_simp <;> with_reducible rfl)
    try simp only [Act.put, List.getElem_toArray, List.getElem_cons_zero, List.getElem_cons_succ, List.setIfInBounds_toArray, List.set_cons_zero, List.set_cons_succ]
    refine wpAnyH_done (by kernel_rfl) ?_ _
    have kz := k5.trans (h2.mono k5.size)
    go_wp2_with fail
    go_ret
    exact ⟨rfl, kz⟩
end Go.Proofs.Ytkkhnldhipfneaa

/-! What comes in as a version of the laws' own type: three numbers, and a list of texts that lies in memory: no condition. -/
namespace Go.Proofs.Ytkkhnldhipfneaa
open Go.ChangeShapes Go.WideShapes Go.ChangeAt Go.RowKit
set_option linter.unusedSimpArgs false
set_option linter.unusedVariables false

theorem vaddr_add (b off i : Nat) : ((⟨b, off, none⟩ : Addr).add i) = ⟨b, off + i, none⟩ := by unfold Addr.add; split <;> simp_all
theorem list4 {cs : List Value} (h : cs.length = 4) : ∃ c0 c1 c2 c3, cs = [c0, c1, c2, c3] := by
  match cs, h with
  | [c0, c1, c2, c3], _ => exact ⟨c0, c1, c2, c3, rfl⟩

theorem vreads_open {H : Type} {enc : TypeId × Value → H} {w : World} {spare : Nat → Bool} {held : Bool} {fuel : Nat} {c : Value} {x : DataW H × List MemPlace}
    (hf : DataW.trod enc Try.prog w 0 spare held fuel 26 [c] = some x) : ∃ ks, Reads w c (strsV ks) ∧ saneP ks := by
  rcases open_strings Try.underlying26 Try.underlying9 (by kernel_rfl) hf with ⟨hcs, _⟩ | ⟨x, l, cap, zs, hcs, _, hl, hm, hz, _, hcell, hwz⟩
  · simp at hcs
    subst hcs
    exact ⟨[], ⟨none, 0, rfl, Nat.le_refl _, .inl rfl⟩, by simp [saneP]⟩
  · simp at hcs
    subst hcs
    have hz' : l ≤ zs.length := by rw [hz]; split <;> omega
    have hlen : (zs.take l).length = l := by simp; omega
    refine ⟨zs.take l, ?_, by rw [hlen]; omega, fun s hs => hwz s (List.mem_of_mem_take hs)⟩
    by_cases h0 : l = 0
    · subst h0
      exact ⟨some x, cap, by simp [strsV], by simp [strsV], .inl (by simp [strsV])⟩
    · obtain ⟨b, off, spot⟩ := x
      have hc0 := hcell 0 (by omega)
      have hspot : spot = none := by simpa [Addr.add] using World.cell?_spot hc0
      subst hspot
      refine ⟨some ⟨b, off, none⟩, cap, by simp [strsV]; omega, by simp [strsV]; omega, .inr ⟨b, off, rfl, ?_, fun i hi => ?_⟩⟩
      · rw [vaddr_add] at hc0; exact World.block_lt_of_cell? w _ hc0
      · have hi' : i < l := by simp [strsV] at hi; omega
        have := hcell i (by omega)
        rw [vaddr_add] at this
        rw [this]
        simp [strsV, List.getD_eq_getElem?_getD, show i < zs.length by omega]

end Go.Proofs.Ytkkhnldhipfneaa

/-! What comes in as packs of the laws' own type: packs that lie in memory: no condition. -/
namespace Go.Proofs.Ytkkhnldhipfneaa
open Go.ChangeShapes Go.WideShapes Go.ChangeAt Go.RowKit
set_option linter.unusedSimpArgs false
set_option linter.unusedVariables false

theorem olist2 {cs : List Value} (h : cs.length = 2) : ∃ c0 c1, cs = [c0, c1] := by
  match cs, h with
  | [c0, c1], _ => exact ⟨c0, c1, rfl⟩
theorem olist4 {cs : List Value} (h : cs.length = 4) : ∃ c0 c1 c2 c3, cs = [c0, c1, c2, c3] := by
  match cs, h with
  | [c0, c1, c2, c3], _ => exact ⟨c0, c1, c2, c3, rfl⟩
theorem olist_of {α : Type} {P : Nat → α → Prop} : ∀ n, (∀ i, i < n → ∃ a, P i a) → ∃ l : List α, l.length = n ∧ ∀ i (h : i < l.length), P i l[i]
  | 0, _ => ⟨[], rfl, fun i h => by simp at h⟩
  | n + 1, h => by
    obtain ⟨l, hl, hp⟩ := olist_of n (fun i hi => h i (by omega))
    obtain ⟨a, ha⟩ := h n (by omega)
    refine ⟨l ++ [a], by simp [hl], fun i hi => ?_⟩
    by_cases h1 : i < l.length
    · rw [List.getElem_append_left h1]; exact hp i h1
    · have : i = n := by simp at hi; omega
      subst this
      rw [List.getElem_append_right (by omega)]
      simpa using ha

/-- A row that comes in, out of what its elements are. -/
theorem rows_of_trod {α H : Type} {P : Program} {enc : TypeId × Value → H} {w : World} {spare : Nat → Bool} {held : Bool} (sh : Sh α) {ts te : TypeId} (hu : P.underlying ts = some (.slice te)) (hn : P.cellsOf te = sh.n) (hpos : 0 < sh.n)
    (helem : ∀ n cs y, DataW.trod enc P w 0 spare held n te cs = some y → ∃ a, sh.lies (· < w.heap.size) w cs a) (fuel : Nat) (c : Value) (x : DataW H × List MemPlace)
    (h : DataW.trod enc P w 0 spare held fuel ts [c] = some x) : ∃ xs, RowIn sh (· < w.heap.size) w c xs := by
  rcases DataW.trod_slice hu h with ⟨hcs, _⟩ | ⟨a, len, cap, elems, rest, n', hn', hcs, _, _, hl, hcm, hel, hat, _, _⟩
  · simp at hcs
    subst hcs
    exact ⟨[], none, 0, rfl, by simp, Nat.le_refl _, .inl rfl⟩
  · simp at hcs
    subst hcs
    rw [hn] at hat
    have heach : ∀ i, i < len → ∃ q : α, ∃ cs, cs.length = sh.n ∧ sh.lies (· < w.heap.size) w cs q ∧ ∀ j (hj : j < cs.length), w.cell? ((a.add (i * sh.n)).add j) = some cs[j] := fun i hi => by
      have hb := hat i hi
      rw [List.getElem?_eq_getElem (by omega)] at hb
      obtain ⟨cs', hc1, hc2⟩ := Option.bind_eq_some_iff.1 hb
      obtain ⟨q, hq⟩ := helem _ cs' _ hc2
      obtain ⟨hb1, hl5, hcell⟩ := World.cells?_some hc1
      exact ⟨q, cs', hl5, hq, fun j hj => (hcell j (by omega)).trans (List.getElem?_eq_getElem hj)⟩
    obtain ⟨q, hq, hqp⟩ := olist_of len heach
    refine ⟨q, some a, cap, by rw [hq], by rw [hq]; omega, by rw [hq]; omega, ?_⟩
    by_cases h0 : len = 0
    · left; exact List.eq_nil_of_length_eq_zero (by omega)
    · right
      obtain ⟨b, off, spot⟩ := a
      obtain ⟨cs0, hl0, _, hc0⟩ := hqp 0 (by omega)
      have hc0 := hc0 0 (by omega)
      have hspot : spot = none := by
        have := World.cell?_spot hc0
        simpa [Addr.add] using this
      subst hspot
      refine ⟨b, off, rfl, ?_, fun i hi => ?_⟩
      · rw [vaddr_add, vaddr_add] at hc0; exact World.block_lt_of_cell? w _ hc0
      · obtain ⟨cs, h1, h2, h3⟩ := hqp i hi
        refine ⟨cs, h2, fun j hj => ?_⟩
        have := h3 j hj
        rw [vaddr_add, vaddr_add] at this
        exact this

end Go.Proofs.Ytkkhnldhipfneaa

/-! What comes in of the laws' own type lies in memory: no condition. -/
namespace Go.Proofs.Ytkkhnldhipfneaa
open Go.ChangeShapes Go.WideShapes Go.ChangeAt Go.RowKit
set_option linter.unusedSimpArgs false
set_option linter.unusedVariables false

set_option maxRecDepth 100000 in
theorem stringSs_of_trod {H : Type} {enc : TypeId × Value → H} {w : World} {spare : Nat → Bool} {held : Bool} (fuel : Nat) (c : Value) (x : DataW H × List MemPlace)
    (h : DataW.trod enc Try.prog w 0 spare held fuel 42 [c] = some x) : ∃ xs, RowIn shStringS (· < w.heap.size) w c xs :=
  rows_of_trod shStringS Try.underlying42 (by kernel_rfl) (by decide) (fun n cs y hh => by
    have hN : Try.prog.cellsOf 26 = 1 := by kernel_rfl
    obtain ⟨u, rfl⟩ : ∃ u, cs = [u] := by
      rcases DataW.trod_slice Try.underlying26 hh with ⟨hcs, _⟩ | ⟨_, _, _, _, _, _, _, hcs, _⟩
      · exact ⟨_, hcs⟩
      · exact ⟨_, hcs⟩
    obtain ⟨t1, hr1, hs1⟩ := vreads_open hh
    exact ⟨t1, _, rfl, RdB.of hr1, hs1⟩) fuel c x h

set_option maxRecDepth 100000 in
theorem plan_of_trod {H : Type} {enc : TypeId × Value → H} {w : World} {spare : Nat → Bool} {held : Bool} (fuel : Nat) (cs : List Value) (x : DataW H × List MemPlace)
    (h : DataW.trod enc Try.prog w 0 spare held fuel 44 cs = some x) : ∃ d : PlanD, shPlan.lies (· < w.heap.size) w cs d := by
  obtain ⟨xs, n, rfl, _, hlen, hxl, hf⟩ := DataW.trod_struct Try.underlying44 h
  have hN : Try.prog.cellsOf 44 = 2 := by kernel_rfl
  obtain ⟨c0, c1, rfl⟩ := olist2 (hlen.trans hN)
  have hx : ∀ i, i < 2 → ∃ y, xs[i]? = some y := fun i hi => ⟨xs[i]'(by rw [hxl]; exact hi), by rw [List.getElem?_eq_getElem]⟩
  obtain ⟨y0, e0⟩ := hx 0 (by omega)
  have k0 : Try.prog.cellsOf 26 = 1 := by kernel_rfl
  have f0 : DataW.trod enc Try.prog w 0 spare held n 26 [c0] = some y0 := by
    have h : DataW.trod enc Try.prog w 0 spare held n 26 ((([c0, c1] : List Value).drop 0).take (Try.prog.cellsOf 26)) = some y0 := (hf 0 _ rfl).trans e0
    rw [k0] at h; exact h
  obtain ⟨y1, e1⟩ := hx 1 (by omega)
  have k1 : Try.prog.cellsOf 42 = 1 := by kernel_rfl
  have f1 : DataW.trod enc Try.prog w 0 spare held n 42 [c1] = some y1 := by
    have h : DataW.trod enc Try.prog w 0 spare held n 42 ((([c0, c1] : List Value).drop 1).take (Try.prog.cellsOf 42)) = some y1 := (hf 1 _ rfl).trans e1
    rw [k1] at h; exact h
  obtain ⟨t0, hr0, hs0⟩ := vreads_open f0
  obtain ⟨t1, hr1⟩ := stringSs_of_trod n _ _ f1
  exact ⟨⟨t0, t1⟩, _, _, rfl, RdB.of hr0, hs0, hr1⟩
end Go.Proofs.Ytkkhnldhipfneaa
