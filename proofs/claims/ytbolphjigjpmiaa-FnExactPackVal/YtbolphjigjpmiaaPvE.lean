/-
  A value that is being made, key by key: its rows may be written, its parts lie in blocks of their own; what withKey leaves. Conditions: none (facts on memory).
-/
import Derived.Test.YtbolphjigjpmiaaPvD
import Derived.Test.YtbolphjigjpmiaaTrQ
import Derived.Test.YtbolphjigjpmiaaTrP
namespace Go.Proofs.Ytbolphjigjpmiaa
open Go.RowKit
set_option linter.unusedSimpArgs false
set_option linter.unusedVariables false

/-- A map that is being made: c is its list, u its keys; all in blocks of S. -/
structure Mk (w : World) (S : Nat → Prop) (c u : Value) (l : List Tree) (ks : List ByteArray) : Prop where
  len : l.length = ks.length
  low : ∀ b, S b → b < w.heap.size
  row : ∃ (ys : List Value) (C U : Nat → Value) (B K : Nat → Nat → Prop),
    w.ownsRow 0 30 5 c l.length ys ∧
    (∀ g, c.ownBlock = some g → S g ∧ ∀ i, ¬ B i g ∧ ¬ K i g) ∧
    (∀ g, u.ownBlock = some g → S g ∧ ∀ i, ¬ B i g ∧ ¬ K i g) ∧
    (∀ i (h : i < l.length), ys[i * 5]? = some (.int .i64 l[i].kind) ∧ ys[i * 5 + 1]? = some (.int .i64 l[i].num) ∧ ys[i * 5 + 2]? = some (.string l[i].str) ∧ ys[i * 5 + 3]? = some (C i) ∧ ys[i * 5 + 4]? = some (U i)) ∧
    (∀ i (h : i < l.length), l[i].str.size ≤ maxLen ∧ saneS l[i].keys) ∧
    (∀ i b, B i b → S b) ∧ (∀ i b, K i b → S b) ∧ (∀ i j b, i ≠ j → B i b → ¬ B j b) ∧ (∀ i j b, B i b → ¬ K j b) ∧ (∀ i j b, i ≠ j → K i b → ¬ K j b) ∧
    (∀ i (h : i < l.length), OwnL w (B i) (C i) l[i].kids ∧ LiesL (B i) w (C i) l[i].kids) ∧
    (∀ i (h : i < l.length), w.ownsRow 0 9 1 (U i) l[i].keys.length (strsV l[i].keys) ∧ ∀ g, (U i).ownBlock = some g → K i g)
  keys : w.ownsRow 0 9 1 u ks.length (strsV ks)
/-- A part that may be put into a map. -/
structure Part (w : World) (R1 R2 : Nat → Prop) (c u : Value) (l : List Tree) (ks : List ByteArray) : Prop where
  own : OwnL w R1 c l
  lies : LiesL R1 w c l
  keys : w.ownsRow 0 9 1 u ks.length (strsV ks)
  inK : ∀ g, u.ownBlock = some g → R2 g
  apart : ∀ b, R1 b → ¬ R2 b
theorem Part.keep {w w' : World} {R1 R2 : Nat → Prop} {c u : Value} {l : List Tree} {ks : List ByteArray} (h : Part w R1 R2 c u l ks) (hk : Kp (fun b => R1 b ∨ R2 b) w w') : Part w' R1 R2 c u l ks :=
  ⟨h.own.keep (fun b hb => hk b (.inl hb)), h.lies.keep (fun b hb => hk b (.inl hb)), owns_kept (S := R2) (fun b hb => hk b (.inr hb)) h.inK h.keys, h.inK, h.apart⟩
theorem Mk.keep {w w' : World} {S : Nat → Prop} {c u : Value} {l : List Tree} {ks : List ByteArray} (h : Mk w S c u l ks) (hs : w.heap.size ≤ w'.heap.size) (hk : Kp S w w') : Mk w' S c u l ks := by
  obtain ⟨len, low, ⟨ys, C, U, B, K, r1, r2, r3, r4, r5, r6, r7, r8, r9, r10, r11, r12⟩, keys⟩ := h
  exact ⟨len, fun b hb => Nat.lt_of_lt_of_le (low b hb) hs, ⟨ys, C, U, B, K, owns_kept hk (fun g h => (r2 g h).1) r1, r2, r3, r4, r5, r6, r7, r8, r9, r10,
    fun i h => ⟨(r11 i h).1.keep (fun b hb => hk b (r6 i b hb)), (r11 i h).2.keep (fun b hb => hk b (r6 i b hb))⟩,
    fun i h => ⟨owns_kept (S := K i) (fun b hb => hk b (r7 i b hb)) (r12 i h).2 (r12 i h).1, (r12 i h).2⟩⟩, owns_kept hk (fun g h => (r3 g h).1) keys⟩
theorem Mk.nil (w : World) : Mk w (fun _ => False) (.slice none 0 0) (.slice none 0 0) [] [] :=
  ⟨rfl, fun _ h => h.elim, ⟨[], fun _ => undef, fun _ => undef, fun _ _ => False, fun _ _ => False, ⟨rfl, .inl ⟨rfl, rfl⟩⟩, fun g h => by simp [Value.ownBlock] at h, fun g h => by simp [Value.ownBlock] at h, fun i h => by simp at h, fun i h => by simp at h, fun _ _ h => h.elim, fun _ _ h => h.elim, fun _ _ _ _ h => h.elim, fun _ _ _ h => h.elim, fun _ _ _ _ h => h.elim, fun i h => by simp at h, fun i h => by simp at h⟩, ⟨rfl, .inl ⟨rfl, rfl⟩⟩⟩
theorem Mk.mono {w : World} {S S' : Nat → Prop} {c u : Value} {l : List Tree} {ks : List ByteArray} (h : Mk w S c u l ks) (hs : ∀ b, S b → S' b) (hl : ∀ b, S' b → b < w.heap.size) : Mk w S' c u l ks := by
  obtain ⟨len, low, ⟨ys, C, U, B, K, r1, r2, r3, r4, r5, r6, r7, r8, r9, r10, r11, r12⟩, keys⟩ := h
  exact ⟨len, hl, ⟨ys, C, U, B, K, r1, fun g h => ⟨hs _ (r2 g h).1, (r2 g h).2⟩, fun g h => ⟨hs _ (r3 g h).1, (r3 g h).2⟩, r4, r5, fun i b h => hs _ (r6 i b h), fun i b h => hs _ (r7 i b h), r8, r9, r10, r11, r12⟩, keys⟩
/-- A row of values and one of texts do not lie in one block. -/
theorem apart_rows {w : World} {lo lo' n m : Nat} {c u : Value} {xs ys : List Value} (hc : w.ownsRow lo 30 5 c n xs) (hu : w.ownsRow lo' 9 1 u m ys) {g : Nat} (h : c.ownBlock = some g) : u.ownBlock ≠ some g := fun h' => by
  rcases hc.2 with ⟨rfl, _⟩ | ⟨g1, cap1, cur1, rfl, _, hg1, _⟩
  · simp [Value.ownBlock] at h
  · simp [Value.ownBlock] at h
    subst h
    rcases hu.2 with ⟨rfl, _⟩ | ⟨g2, cap2, cur2, rfl, _, hg2, _⟩
    · simp [Value.ownBlock] at h'
    · simp [Value.ownBlock] at h'
      subst h'
      rw [hg1] at hg2
      simp at hg2
theorem Mk.part {w : World} {S : Nat → Prop} {c u : Value} {l : List Tree} {ks : List ByteArray} (h : Mk w S c u l ks) (hl : l.length ≤ maxLen) : ∃ R1 R2 : Nat → Prop, Part w R1 R2 c u l ks ∧ (∀ b, R1 b → S b) ∧ (∀ b, R2 b → S b) := by
  obtain ⟨len, low, ⟨ys, C, U, B, K, r1, r2, r3, r4, r5, r6, r7, r8, r9, r10, r11, r12⟩, keys⟩ := h
  have h := tree_row (S := fun b => c.ownBlock = some b ∨ ∃ i, B i b ∨ K i b) r1 hl (fun g h => ⟨.inl h, (r2 g h).2⟩) r4 r5 (fun i b h => .inr ⟨i, .inl h⟩) (fun i b h => .inr ⟨i, .inr h⟩) r8 r9 r10 r11 r12
  refine ⟨_, fun b => u.ownBlock = some b, ⟨h.1, h.2, keys, fun g h => h, fun b hb hu => ?_⟩, fun b hb => ?_, fun b hb => (r3 b hb).1⟩
  · rcases hb with hb | ⟨i, hb | hb⟩
    · exact apart_rows r1 keys hb hu
    · exact ((r3 b hu).2 i).1 hb
    · exact ((r3 b hu).2 i).2 hb
  · rcases hb with hb | ⟨i, hb | hb⟩
    · exact (r2 b hb).1
    · exact r6 i b hb
    · exact r7 i b hb
theorem Mk.add {w : World} {S : Nat → Prop} {c u : Value} {l : List Tree} {ks : List ByteArray} (h : Mk w S c u l ks) :
    ∃ ys, w.ownsRow 0 30 5 c ks.length ys ∧ ∀ (w' : World) (R1 R2 : Nat → Prop) (c' u' cn un : Value) (key : ByteArray) (T : Tree),
      Part w R1 R2 cn un T.kids T.keys → T.str.size ≤ maxLen → saneS T.keys → (∀ b, R1 b → b < w.heap.size ∧ ¬ S b) → (∀ b, R2 b → b < w.heap.size ∧ ¬ S b) →
      w'.ownsRow 0 30 5 c' (ks.length + 1) (ys ++ [.int .i64 T.kind, .int .i64 T.num, .string T.str, cn, un]) → w'.ownsRow 0 9 1 u' (ks.length + 1) (strsV ks ++ [.string key]) →
      NewOr w c' c → NewOr w u' u → Chg (OfTwo c u) w w' →
      Mk w' (fun b => S b ∨ R1 b ∨ R2 b ∨ w.heap.size + 3 ≤ b ∧ b < w'.heap.size) c' u' (l ++ [T]) (ks ++ [key]) := by
  obtain ⟨len, low, ⟨ys, C, U, B, K, r1, r2, r3, r4, r5, r6, r7, r8, r9, r10, r11, r12⟩, keys⟩ := h
  refine ⟨ys, len ▸ r1, fun w' R1 R2 c' u' cn un key T hp hs hk h1 h2 hc hu nc nu ch => ?_⟩
  have hl5 : ys.length = l.length * 5 := by have := r1.1; omega
  have hsz := ch.size
  have nb : ∀ {v old : Value}, NewOr w v old → (∀ g, old.ownBlock = some g → S g ∧ ∀ i, ¬ B i g ∧ ¬ K i g) → (∀ g, v.ownBlock = some g → g < w'.heap.size) → ∀ g, v.ownBlock = some g →
      (S g ∨ R1 g ∨ R2 g ∨ w.heap.size + 3 ≤ g ∧ g < w'.heap.size) ∧ ∀ i, ¬ ((i < l.length ∧ B i g) ∨ (i = l.length ∧ R1 g)) ∧ ¬ ((i < l.length ∧ K i g) ∨ (i = l.length ∧ R2 g)) := by
    intro v old hn ho hlt g hg
    rcases hn with hn | ⟨g', hn, hge⟩
    · have hS := ho g (hn.symm.trans hg)
      refine ⟨.inl hS.1, fun i => ⟨?_, ?_⟩⟩
      · rintro (⟨_, k⟩ | ⟨_, k⟩)
        · exact (hS.2 i).1 k
        · exact (h1 g k).2 hS.1
      · rintro (⟨_, k⟩ | ⟨_, k⟩)
        · exact (hS.2 i).2 k
        · exact (h2 g k).2 hS.1
    · have e : g' = g := Option.some.inj (hn.symm.trans hg)
      subst e
      refine ⟨.inr (.inr (.inr ⟨hge, hlt _ hg⟩)), fun i => ⟨?_, ?_⟩⟩
      · rintro (⟨_, k⟩ | ⟨_, k⟩)
        · have := low _ (r6 i _ k); omega
        · have := (h1 _ k).1; omega
      · rintro (⟨_, k⟩ | ⟨_, k⟩)
        · have := low _ (r7 i _ k); omega
        · have := (h2 _ k).1; omega
  have kept : ∀ {R : Nat → Prop}, (∀ b, R b → b < w.heap.size ∧ ¬ OfTwo c u b) → Kp R w w' := fun hr => ch.kp hr
  have kB : ∀ i, Kp (B i) w w' := fun i => kept fun b hb => ⟨low b (r6 i b hb), by
    rintro (k | k)
    · exact ((r2 b k).2 i).1 hb
    · exact ((r3 b k).2 i).1 hb⟩
  have kK : ∀ i, Kp (K i) w w' := fun i => kept fun b hb => ⟨low b (r7 i b hb), by
    rintro (k | k)
    · exact ((r2 b k).2 i).2 hb
    · exact ((r3 b k).2 i).2 hb⟩
  have hp' : Part w' R1 R2 cn un T.kids T.keys := hp.keep (kept fun b hb => by
    rcases hb with hb | hb
    · refine ⟨(h1 b hb).1, ?_⟩
      rintro (k | k)
      · exact (h1 b hb).2 (r2 b k).1
      · exact (h1 b hb).2 (r3 b k).1
    · refine ⟨(h2 b hb).1, ?_⟩
      rintro (k | k)
      · exact (h2 b hb).2 (r2 b k).1
      · exact (h2 b hb).2 (r3 b k).1)
  have eR1 : (fun b => (l.length < l.length ∧ B l.length b) ∨ (True ∧ R1 b)) = R1 := by funext b; simp
  have eB : ∀ i, i < l.length → (fun b => (i < l.length ∧ B i b) ∨ (i = l.length ∧ R1 b)) = B i := fun i hi => by funext b; simp [hi, Nat.ne_of_lt hi]
  refine ⟨by simp [len], ?_, ⟨ys ++ [.int .i64 T.kind, .int .i64 T.num, .string T.str, cn, un], fun i => if i < l.length then C i else cn, fun i => if i < l.length then U i else un,
    fun i b => (i < l.length ∧ B i b) ∨ (i = l.length ∧ R1 b), fun i b => (i < l.length ∧ K i b) ∨ (i = l.length ∧ R2 b), ?_, nb nc r2 (fun g h => (owns_in hc g h).2), nb nu r3 (fun g h => (owns_in hu g h).2), ?_, ?_, ?_, ?_, ?_, ?_, ?_, ?_, ?_⟩, ?_⟩
  · rintro b (hb | hb | hb | hb)
    · exact Nat.lt_of_lt_of_le (low b hb) hsz
    · exact Nat.lt_of_lt_of_le (h1 b hb).1 hsz
    · exact Nat.lt_of_lt_of_le (h2 b hb).1 hsz
    · exact hb.2
  · simp only [List.length_append, List.length_cons, List.length_nil, Nat.zero_add, len]; exact hc
  · intro i hi
    by_cases hlt : i < l.length
    · obtain ⟨a, b, d, e, f⟩ := r4 i hlt
      simp only [List.getElem_append_left hlt, if_pos hlt]
      refine ⟨?_, ?_, ?_, ?_, ?_⟩ <;> rw [List.getElem?_append_left (by omega)] <;> assumption
    · have hi' : i = l.length := by simp at hi; omega
      subst hi'
      simp only [List.getElem_append_right (Nat.le_refl _), Nat.sub_self, List.getElem_cons_zero, if_neg (Nat.lt_irrefl _)]
      refine ⟨?_, ?_, ?_, ?_, ?_⟩ <;> rw [List.getElem?_append_right (by omega)] <;> simp [hl5]
  · intro i hi
    by_cases hlt : i < l.length
    · simp only [List.getElem_append_left hlt]; exact r5 i hlt
    · have hi' : i = l.length := by simp at hi; omega
      subst hi'
      simp only [List.getElem_append_right (Nat.le_refl _), Nat.sub_self, List.getElem_cons_zero]
      exact ⟨hs, hk⟩
  · rintro i b (⟨_, k⟩ | ⟨_, k⟩)
    · exact .inl (r6 i b k)
    · exact .inr (.inl k)
  · rintro i b (⟨_, k⟩ | ⟨_, k⟩)
    · exact .inl (r7 i b k)
    · exact .inr (.inr (.inl k))
  · rintro i j b hij (⟨_, k⟩ | ⟨_, k⟩) (⟨_, m⟩ | ⟨_, m⟩)
    · exact r8 i j b hij k m
    · exact (h1 b m).2 (r6 i b k)
    · exact (h1 b k).2 (r6 j b m)
    · omega
  · rintro i j b (⟨_, k⟩ | ⟨_, k⟩) (⟨_, m⟩ | ⟨_, m⟩)
    · exact r9 i j b k m
    · exact (h2 b m).2 (r6 i b k)
    · exact (h1 b k).2 (r7 j b m)
    · exact hp.apart b k m
  · rintro i j b hij (⟨_, k⟩ | ⟨_, k⟩) (⟨_, m⟩ | ⟨_, m⟩)
    · exact r10 i j b hij k m
    · exact (h2 b m).2 (r7 i b k)
    · exact (h2 b k).2 (r7 j b m)
    · omega
  · intro i hi
    by_cases hlt : i < l.length
    · simp only [List.getElem_append_left hlt, if_pos hlt, eB i hlt]
      exact ⟨(r11 i hlt).1.keep (kB i), (r11 i hlt).2.keep (kB i)⟩
    · have hi' : i = l.length := by simp at hi; omega
      subst hi'
      simp only [List.getElem_append_right (Nat.le_refl _), Nat.sub_self, List.getElem_cons_zero, if_neg (Nat.lt_irrefl _), eR1]
      exact ⟨hp'.own, hp'.lies⟩
  · intro i hi
    by_cases hlt : i < l.length
    · simp only [List.getElem_append_left hlt, if_pos hlt]
      refine ⟨owns_kept (kK i) (r12 i hlt).2 (r12 i hlt).1, fun g h => .inl ⟨hlt, (r12 i hlt).2 g h⟩⟩
    · have hi' : i = l.length := by simp at hi; omega
      subst hi'
      simp only [List.getElem_append_right (Nat.le_refl _), Nat.sub_self, List.getElem_cons_zero, if_neg (Nat.lt_irrefl _)]
      exact ⟨hp'.keys, fun g h => .inr ⟨trivial, hp'.inK g h⟩⟩
  · have e : strsV (ks ++ [key]) = strsV ks ++ [.string key] := by simp [strsV]
    rw [e, List.length_append]; exact hu
end Go.Proofs.Ytbolphjigjpmiaa
