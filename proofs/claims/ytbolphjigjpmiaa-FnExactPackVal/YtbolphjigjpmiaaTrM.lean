/-
  Trees of values that may be written, no two rows of which are the same, and such as bear marks: what they are, and that they are kept; no condition.
-/
import Derived.Test.YtbolphjigjpmiaaTreeEq
import Derived.Test.YtbolphjigjpmiaaRow
namespace Go.Proofs.Ytbolphjigjpmiaa
open Go.RowKit
set_option linter.unusedSimpArgs false
set_option linter.unusedVariables false

def Tree.kids : Tree → List Tree
  | .mk _ _ _ l _ => l
def Tree.keys : Tree → List ByteArray
  | .mk _ _ _ _ ks => ks
mutual
/-- How many marks a tree takes below its own, and a list of trees. -/
def Tree.cnt : Tree → Nat
  | .mk _ _ _ l ks => 3 + cntL l + ks.length
def cntL : List Tree → Nat
  | [] => 0
  | t :: r => t.cnt + cntL r
end
theorem cnt_eq (T : Tree) : T.cnt = 3 + cntL T.kids + T.keys.length := by
  cases T; rw [Tree.cnt]; rfl
theorem cntL_append (a b : List Tree) : cntL (a ++ b) = cntL a + cntL b := by
  induction a with
  | nil => simp [cntL]
  | cons t r ih => simp only [List.cons_append, cntL, ih]; omega
theorem cntL_take (l : List Tree) (k : Nat) (h : k < l.length) : cntL (l.take (k + 1)) = cntL (l.take k) + l[k].cnt := by
  rw [List.take_succ_eq_append_getElem h, cntL_append]; simp [cntL]
theorem cntL_take_le (l : List Tree) (k : Nat) : cntL (l.take k) ≤ cntL l := by
  conv => rhs; rw [← List.take_append_drop k l, cntL_append]
  omega

/-- Rows of values that may be written: their blocks lie in S, no two of them are the same. -/
inductive OwnL (w : World) : (Nat → Prop) → Value → List Tree → Prop
  | mk (S : Nat → Prop) (v : Value) (l : List Tree) (ys : List Value) (C U : Nat → Value) (B K : Nat → Nat → Prop)
      (hrow : w.ownsRow 0 30 5 v l.length ys)
      (hg : ∀ g, v.ownBlock = some g → S g ∧ ∀ i, ¬ B i g ∧ ¬ K i g)
      (hc : ∀ i, i < l.length → (∃ c0 c1 c2, ys[i * 5]? = some c0 ∧ ys[i * 5 + 1]? = some c1 ∧ ys[i * 5 + 2]? = some c2) ∧ ys[i * 5 + 3]? = some (C i) ∧ ys[i * 5 + 4]? = some (U i))
      (hB : ∀ i b, B i b → S b) (hK : ∀ i b, K i b → S b)
      (hBB : ∀ i j b, i ≠ j → B i b → ¬ B j b) (hBK : ∀ i j b, B i b → ¬ K j b) (hKK : ∀ i j b, i ≠ j → K i b → ¬ K j b)
      (hC : ∀ i (h : i < l.length), OwnL w (B i) (C i) l[i].kids)
      (hU : ∀ i (h : i < l.length), ∃ xs, w.ownsRow 0 9 1 (U i) l[i].keys.length xs ∧ ∀ g, (U i).ownBlock = some g → K i g) : OwnL w S v l

/-- Rows of values that bear the marks from k on. -/
inductive MarkL (w : World) (S : Nat → Prop) : Nat → Value → List Tree → Prop
  | mk (k : Nat) (v : Value) (l : List Tree) (ys : List Value) (C U : Nat → Value)
      (hrow : w.ownsRow 0 30 5 v l.length ys) (hg : ∀ g, v.ownBlock = some g → S g)
      (hc : ∀ i, i < l.length → ys[i * 5]? = some (.int .i64 ((k + cntL (l.take i) : Nat) : Int)) ∧ ys[i * 5 + 1]? = some (.int .i64 ((k + cntL (l.take i) + 1 : Nat) : Int)) ∧ ys[i * 5 + 2]? = some (.string (markStr (k + cntL (l.take i) + 2))) ∧ ys[i * 5 + 3]? = some (C i) ∧ ys[i * 5 + 4]? = some (U i))
      (hC : ∀ i (h : i < l.length), MarkL w S (k + cntL (l.take i) + 3) (C i) l[i].kids)
      (hU : ∀ i (h : i < l.length), RdB S w (U i) (strsV (marksS (k + cntL (l.take i) + 3 + cntL l[i].kids) l[i].keys.length))) : MarkL w S k v l

theorem OwnL.keep {S : Nat → Prop} {w w' : World} {v : Value} {l : List Tree} (h : OwnL w S v l) : Kp S w w' → OwnL w' S v l := by
  induction h with
  | mk S v l ys C U B K hrow hg hc hB hK hBB hBK hKK hC hU ih =>
    intro hk
    refine .mk S v l ys C U B K (owns_kept hk (fun g h => (hg g h).1) hrow) hg hc hB hK hBB hBK hKK (fun i h => ih i h (fun b hb => hk b (hB i b hb))) (fun i h => ?_)
    obtain ⟨xs, h1, h2⟩ := hU i h
    exact ⟨xs, owns_kept hk (fun g h => hK i g (h2 g h)) h1, h2⟩
theorem MarkL.keep {S : Nat → Prop} {w w' : World} {k : Nat} {v : Value} {l : List Tree} (h : MarkL w S k v l) : Kp S w w' → MarkL w' S k v l := by
  induction h with
  | mk k v l ys C U hrow hg hc hC hU ih =>
    intro hk
    exact .mk k v l ys C U (owns_kept hk hg hrow) hg hc (fun i h => ih i h hk) (fun i h => (hU i h).keep hk)
theorem MarkL.mono {S : Nat → Prop} {w : World} {k : Nat} {v : Value} {l : List Tree} (h : MarkL w S k v l) : ∀ {S' : Nat → Prop}, (∀ b, S b → S' b) → MarkL w S' k v l := by
  induction h with
  | mk k v l ys C U hrow hg hc hC hU ih =>
    intro S' hs
    exact .mk k v l ys C U hrow (fun g h => hs g (hg g h)) hc (fun i h => ih i h hs) (fun i h => (hU i h).mono hs)
theorem OwnL.slice {S : Nat → Prop} {w : World} {v : Value} {l : List Tree} (h : OwnL w S v l) : ∃ q cap, v = .slice q l.length cap := by
  cases h with
  | mk S v l ys C U B K hrow =>
    rcases hrow.2 with ⟨h1, h2⟩ | ⟨g, cap, cur, h1, _⟩
    · exact ⟨none, 0, by rw [h1, h2]⟩
    · exact ⟨_, _, h1⟩
theorem MarkL.slice {S : Nat → Prop} {w : World} {k : Nat} {v : Value} {l : List Tree} (h : MarkL w S k v l) : ∃ q cap, v = .slice q l.length cap := by
  cases h with
  | mk k v l ys C U hrow =>
    rcases hrow.2 with ⟨h1, h2⟩ | ⟨g, cap, cur, h1, _⟩
    · exact ⟨none, 0, by rw [h1, h2]⟩
    · exact ⟨_, _, h1⟩

/-- From w to w' only blocks of S, and new ones, have changed. -/
structure Chg (S : Nat → Prop) (w w' : World) : Prop where
  os : w'.os = w.os
  tape : w'.tape = w.tape
  output : w'.output = w.output
  size : w.heap.size ≤ w'.heap.size
  block : ∀ b, b < w.heap.size → ¬ S b → w'.heap[b]? = w.heap[b]?
theorem Chg.refl (S : Nat → Prop) (w : World) : Chg S w w := ⟨rfl, rfl, rfl, Nat.le_refl _, fun _ _ _ => rfl⟩
theorem Chg.trans {S : Nat → Prop} {a b c : World} (h : Chg S a b) (k : Chg S b c) : Chg S a c :=
  ⟨k.os.trans h.os, k.tape.trans h.tape, k.output.trans h.output, Nat.le_trans h.size k.size, fun i hi hs => (k.block i (Nat.lt_of_lt_of_le hi h.size) hs).trans (h.block i hi hs)⟩
theorem Chg.mono {S S' : Nat → Prop} {a b : World} (h : Chg S a b) (hs : ∀ b, S b → S' b) : Chg S' a b := ⟨h.os, h.tape, h.output, h.size, fun i hi hn => h.block i hi (fun k => hn (hs i k))⟩
theorem Chg.of {S : Nat → Prop} {a b : World} (h : Below a.heap.size a b) : Chg S a b := ⟨h.os, h.tape, h.output, h.size, fun i hi _ => h.block i hi⟩
theorem Chg.kp {S R : Nat → Prop} {a b : World} (h : Chg S a b) (hr : ∀ i, R i → i < a.heap.size ∧ ¬ S i) : Kp R a b := fun i hi => h.block i (hr i hi).1 (hr i hi).2
end Go.Proofs.Ytbolphjigjpmiaa
