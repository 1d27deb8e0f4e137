/-
  A value that is being made, key by key, whose part is made in between: facts on memory; conditions: none.
-/
import Derived.Test.YtbolphjigjpmiaaPvF
namespace Go.Proofs.Ytbolphjigjpmiaa
open Go.RowKit
set_option linter.unusedSimpArgs false
set_option linter.unusedVariables false

/-- A row lies where an elder one does, or in a block that is new. -/
def NewAt (w : World) (v old : Value) : Prop := v.ownBlock = old.ownBlock ∨ ∃ g, v.ownBlock = some g ∧ w.heap.size ≤ g
theorem newAt_of {w W : World} {v old : Value} (hs : w.heap.size ≤ W.heap.size) (h : v.ownBlock = old.ownBlock ∨ v.ownBlock = some W.heap.size) : NewAt w v old := by
  rcases h with h | h
  · exact .inl h
  · exact .inr ⟨_, h, hs⟩
theorem chg_setS {S : Nat → Prop} {w W : World} {g j : Nat} {v : Value} (h : Chg S w W) (hg : S g) : Chg S w (W.setCell ⟨g, j, none⟩ v) :=
  ⟨h.os, h.tape, h.output, by have := h.size; simpa [World.setCell] using this, fun b hb hn => (Below.heap_setCell W ⟨g, j, none⟩ v b (fun e => hn (by have e' : b = g := e; subst e'; exact hg))).trans (h.block b hb hn)⟩
theorem Mk.addS {w : World} {S : Nat → Prop} {c u : Value} {l : List Tree} {ks : List ByteArray} (h : Mk w S c u l ks) :
    ∃ ys, w.ownsRow 0 30 5 c ks.length ys ∧ ∀ (w' : World) (R1 R2 : Nat → Prop) (c' u' cn un : Value) (key : ByteArray) (T : Tree),
      Part w' R1 R2 cn un T.kids T.keys → T.str.size ≤ maxLen → saneS T.keys → (∀ b, R1 b → b < w'.heap.size ∧ ¬ S b ∧ c'.ownBlock ≠ some b ∧ u'.ownBlock ≠ some b) → (∀ b, R2 b → b < w'.heap.size ∧ ¬ S b ∧ c'.ownBlock ≠ some b ∧ u'.ownBlock ≠ some b) →
      w'.ownsRow 0 30 5 c' (ks.length + 1) (ys ++ [.int .i64 T.kind, .int .i64 T.num, .string T.str, cn, un]) → w'.ownsRow 0 9 1 u' (ks.length + 1) (strsV ks ++ [.string key]) →
      NewAt w c' c → NewAt w u' u → w.heap.size ≤ w'.heap.size → (∀ b, S b → ¬ OfTwo c u b → w'.heap[b]? = w.heap[b]?) →
      Mk w' (fun b => S b ∨ R1 b ∨ R2 b ∨ w.heap.size ≤ b ∧ b < w'.heap.size) c' u' (l ++ [T]) (ks ++ [key]) := by
  obtain ⟨len, low, ⟨ys, C, U, B, K, r1, r2, r3, r4, r5, r6, r7, r8, r9, r10, r11, r12⟩, keys⟩ := h
  refine ⟨ys, len ▸ r1, fun w' R1 R2 c' u' cn un key T hp' hs hk h1 h2 hc hu nc nu hsz hkp => ?_⟩
  have hl5 : ys.length = l.length * 5 := by have := r1.1; omega
  have nb : ∀ {v old : Value}, (∀ b, R1 b → v.ownBlock ≠ some b) → (∀ b, R2 b → v.ownBlock ≠ some b) → NewAt w v old → (∀ g, old.ownBlock = some g → S g ∧ ∀ i, ¬ B i g ∧ ¬ K i g) → (∀ g, v.ownBlock = some g → g < w'.heap.size) → ∀ g, v.ownBlock = some g →
      (S g ∨ R1 g ∨ R2 g ∨ w.heap.size ≤ g ∧ g < w'.heap.size) ∧ ∀ i, ¬ ((i < l.length ∧ B i g) ∨ (i = l.length ∧ R1 g)) ∧ ¬ ((i < l.length ∧ K i g) ∨ (i = l.length ∧ R2 g)) := by
    intro v old hv1 hv2 hn ho hlt g hg
    rcases hn with hn | ⟨g', hn, hge⟩
    · have hS := ho g (hn.symm.trans hg)
      refine ⟨.inl hS.1, fun i => ⟨?_, ?_⟩⟩
      · rintro (⟨_, k⟩ | ⟨_, k⟩)
        · exact (hS.2 i).1 k
        · exact (h1 g k).2.1 hS.1
      · rintro (⟨_, k⟩ | ⟨_, k⟩)
        · exact (hS.2 i).2 k
        · exact (h2 g k).2.1 hS.1
    · have e : g' = g := Option.some.inj (hn.symm.trans hg)
      subst e
      refine ⟨.inr (.inr (.inr ⟨hge, hlt _ hg⟩)), fun i => ⟨?_, ?_⟩⟩
      · rintro (⟨_, k⟩ | ⟨_, k⟩)
        · have := low _ (r6 i _ k); omega
        · exact hv1 _ k hg
      · rintro (⟨_, k⟩ | ⟨_, k⟩)
        · have := low _ (r7 i _ k); omega
        · exact hv2 _ k hg
  have kept : ∀ {R : Nat → Prop}, (∀ b, R b → S b ∧ ¬ OfTwo c u b) → Kp R w w' := fun hr b hb => hkp b (hr b hb).1 (hr b hb).2
  have kB : ∀ i, Kp (B i) w w' := fun i => kept fun b hb => ⟨r6 i b hb, by
    rintro (k | k)
    · exact ((r2 b k).2 i).1 hb
    · exact ((r3 b k).2 i).1 hb⟩
  have kK : ∀ i, Kp (K i) w w' := fun i => kept fun b hb => ⟨r7 i b hb, by
    rintro (k | k)
    · exact ((r2 b k).2 i).2 hb
    · exact ((r3 b k).2 i).2 hb⟩
  have eR1 : (fun b => (l.length < l.length ∧ B l.length b) ∨ (True ∧ R1 b)) = R1 := by funext b; simp
  have eB : ∀ i, i < l.length → (fun b => (i < l.length ∧ B i b) ∨ (i = l.length ∧ R1 b)) = B i := fun i hi => by funext b; simp [hi, Nat.ne_of_lt hi]
  refine ⟨by simp [len], ?_, ⟨ys ++ [.int .i64 T.kind, .int .i64 T.num, .string T.str, cn, un], fun i => if i < l.length then C i else cn, fun i => if i < l.length then U i else un,
    fun i b => (i < l.length ∧ B i b) ∨ (i = l.length ∧ R1 b), fun i b => (i < l.length ∧ K i b) ∨ (i = l.length ∧ R2 b), ?_, nb (fun b h => (h1 b h).2.2.1) (fun b h => (h2 b h).2.2.1) nc r2 (fun g h => (owns_in hc g h).2), nb (fun b h => (h1 b h).2.2.2) (fun b h => (h2 b h).2.2.2) nu r3 (fun g h => (owns_in hu g h).2), ?_, ?_, ?_, ?_, ?_, ?_, ?_, ?_, ?_⟩, ?_⟩
  · rintro b (hb | hb | hb | hb)
    · exact Nat.lt_of_lt_of_le (low b hb) hsz
    · exact (h1 b hb).1
    · exact (h2 b hb).1
    · exact hb.2
  · simp only [List.length_append, List.length_cons, List.length_nil, Nat.zero_add, len]; exact hc
  · intro i hi
    by_cases hlt : i < l.length
    · obtain ⟨a, b, d, e, f⟩ := r4 i hlt
      simp only [List.getElem_append_left hlt, if_pos hlt]
      refine ⟨?_, ?_, ?_, ?_, ?_⟩ <;> rw [List.getElem?_append_left (by omega)] <;> assumption
    · have hi' : i = l.length := by simp at hi; omega
      subst hi'
      simp only [List.getElem_append_right (Nat.le_refl _), Nat.sub_self, List.getElem_cons_zero, if_neg (Nat.lt_irrefl _)]
      refine ⟨?_, ?_, ?_, ?_, ?_⟩ <;> rw [List.getElem?_append_right (by omega)] <;> simp [hl5]
  · intro i hi
    by_cases hlt : i < l.length
    · simp only [List.getElem_append_left hlt]; exact r5 i hlt
    · have hi' : i = l.length := by simp at hi; omega
      subst hi'
      simp only [List.getElem_append_right (Nat.le_refl _), Nat.sub_self, List.getElem_cons_zero]
      exact ⟨hs, hk⟩
  · rintro i b (⟨_, k⟩ | ⟨_, k⟩)
    · exact .inl (r6 i b k)
    · exact .inr (.inl k)
  · rintro i b (⟨_, k⟩ | ⟨_, k⟩)
    · exact .inl (r7 i b k)
    · exact .inr (.inr (.inl k))
  · rintro i j b hij (⟨_, k⟩ | ⟨_, k⟩) (⟨_, m⟩ | ⟨_, m⟩)
    · exact r8 i j b hij k m
    · exact (h1 b m).2.1 (r6 i b k)
    · exact (h1 b k).2.1 (r6 j b m)
    · omega
  · rintro i j b (⟨_, k⟩ | ⟨_, k⟩) (⟨_, m⟩ | ⟨_, m⟩)
    · exact r9 i j b k m
    · exact (h2 b m).2.1 (r6 i b k)
    · exact (h1 b k).2.1 (r7 j b m)
    · exact hp'.apart b k m
  · rintro i j b hij (⟨_, k⟩ | ⟨_, k⟩) (⟨_, m⟩ | ⟨_, m⟩)
    · exact r10 i j b hij k m
    · exact (h2 b m).2.1 (r7 i b k)
    · exact (h2 b k).2.1 (r7 j b m)
    · omega
  · intro i hi
    by_cases hlt : i < l.length
    · simp only [List.getElem_append_left hlt, if_pos hlt, eB i hlt]
      exact ⟨(r11 i hlt).1.keep (kB i), (r11 i hlt).2.keep (kB i)⟩
    · have hi' : i = l.length := by simp at hi; omega
      subst hi'
      simp only [List.getElem_append_right (Nat.le_refl _), Nat.sub_self, List.getElem_cons_zero, if_neg (Nat.lt_irrefl _), eR1]
      exact ⟨hp'.own, hp'.lies⟩
  · intro i hi
    by_cases hlt : i < l.length
    · simp only [List.getElem_append_left hlt, if_pos hlt]
      refine ⟨owns_kept (kK i) (r12 i hlt).2 (r12 i hlt).1, fun g h => .inl ⟨hlt, (r12 i hlt).2 g h⟩⟩
    · have hi' : i = l.length := by simp at hi; omega
      subst hi'
      simp only [List.getElem_append_right (Nat.le_refl _), Nat.sub_self, List.getElem_cons_zero, if_neg (Nat.lt_irrefl _)]
      exact ⟨hp'.keys, fun g h => .inr ⟨trivial, hp'.inK g h⟩⟩
  · have e : strsV (ks ++ [key]) = strsV ks ++ [.string key] := by simp [strsV]
    rw [e, List.length_append]; exact hu
end Go.Proofs.Ytbolphjigjpmiaa
