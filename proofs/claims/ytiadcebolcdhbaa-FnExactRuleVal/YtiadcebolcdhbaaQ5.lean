/-
  Contracts for the walks, several texts in one: each part says what it proves, and under which conditions.
-/
import Derived.Deep.RegionHeld
import Derived.Test.YtiadcebolcdhbaaQ3
import Derived.Test.YtiadcebolcdhbaaQ4
import Derived.Test.YtiadcebolcdhbaaQ2
import Derived.Test.YtiadcebolcdhbaaQ1

/-! A tree of values put together out of its row and its parts, no two rows of which are the same: pure facts on memory, no condition but those told. -/
namespace Go.Proofs.Ytiadcebolcdhbaa
open Go.RowKit
set_option linter.unusedSimpArgs false
set_option linter.unusedVariables false

def Tree.kind : Tree → Int
  | .mk k _ _ _ _ => k
def Tree.num : Tree → Int
  | .mk _ n _ _ _ => n
def Tree.str : Tree → ByteArray
  | .mk _ _ s _ _ => s
def textT (s : ByteArray) : Tree := .mk 3 0 s [] []

theorem readsB_in {S : Nat → Prop} {w : World} {lo : Nat} {e : TypeId} {v : Value} {n : Nat} {xs : List Value} (h : w.ownsRow lo e 1 v n xs) (hs : ∀ g, v.ownBlock = some g → S g) : ReadsB S w v xs := by
  obtain ⟨a, cap, hv, hc, hx⟩ := reads_of_owns h
  refine ⟨a, cap, hv, hc, ?_⟩
  rcases hx with hx | ⟨b, off, rfl, hlt, hx⟩
  · exact .inl hx
  · exact .inr ⟨b, off, rfl, hs b (by rw [hv]; rfl), hx⟩

theorem tree_row {w : World} {S : Nat → Prop} {v : Value} {l : List Tree} {ys : List Value} {C U : Nat → Value} {B K : Nat → Nat → Prop}
    (hrow : w.ownsRow 0 50 5 v l.length ys) (hl : l.length ≤ maxLen)
    (hg : ∀ g, v.ownBlock = some g → S g ∧ ∀ i, ¬ B i g ∧ ¬ K i g)
    (hc : ∀ i (h : i < l.length), ys[i * 5]? = some (.int .i64 l[i].kind) ∧ ys[i * 5 + 1]? = some (.int .i64 l[i].num) ∧ ys[i * 5 + 2]? = some (.string l[i].str) ∧ ys[i * 5 + 3]? = some (C i) ∧ ys[i * 5 + 4]? = some (U i))
    (hs : ∀ i (h : i < l.length), l[i].str.size ≤ maxLen ∧ saneS l[i].keys)
    (hB : ∀ i b, B i b → S b) (hK : ∀ i b, K i b → S b) (hBB : ∀ i j b, i ≠ j → B i b → ¬ B j b) (hBK : ∀ i j b, B i b → ¬ K j b) (hKK : ∀ i j b, i ≠ j → K i b → ¬ K j b)
    (hC : ∀ i (h : i < l.length), OwnL w (B i) (C i) l[i].kids ∧ LiesL (B i) w (C i) l[i].kids)
    (hU : ∀ i (h : i < l.length), w.ownsRow 0 9 1 (U i) l[i].keys.length (strsV l[i].keys) ∧ ∀ g, (U i).ownBlock = some g → K i g) :
    OwnL w S v l ∧ LiesL S w v l := by
  refine ⟨.mk S v l ys C U B K hrow hg (fun i hi => ?_) hB hK hBB hBK hKK (fun i h => (hC i h).1) (fun i h => ⟨_, (hU i h).1, (hU i h).2⟩), ?_⟩
  · obtain ⟨a, b, c, d, e⟩ := hc i hi
    exact ⟨⟨_, _, _, a, b, c⟩, d, e⟩
  · have hlies : ∀ i (h : i < l.length), Lies S w (.agg #[ys.getD (i * 5 + 0) undef, ys.getD (i * 5 + 1) undef, ys.getD (i * 5 + 2) undef, ys.getD (i * 5 + 3) undef, ys.getD (i * 5 + 4) undef]) l[i] := fun i h => by
      obtain ⟨a, b, c, d, e⟩ := hc i h
      obtain ⟨h1, h2⟩ := hs i h
      obtain ⟨_, h3⟩ := hC i h
      obtain ⟨h4, h5⟩ := hU i h
      simp only [List.getD_eq_getElem?_getD, Nat.add_zero, a, b, c, d, e, Option.getD_some]
      have e9 : l[i] = .mk l[i].kind l[i].num l[i].str l[i].kids l[i].keys := by cases l[i]; rfl
      rw [e9]
      exact Lies.of h1 h2 (h3.mono (hB i)) ((readsB_in h4 h5).mono (hK i))
    rcases id hrow.2 with ⟨rfl, h0⟩ | ⟨g, cap, cur, rfl, _, hgb, hcap, _⟩
    · have hl0 := List.eq_nil_of_length_eq_zero h0
      subst hl0
      exact ⟨none, 0, fun _ _ => undef, rfl, hl, Nat.le_refl _, .inl rfl, fun i h => by simp at h⟩
    · refine ⟨_, _, fun i j => ys.getD (i * 5 + j) undef, rfl, hl, hcap, .inr ⟨g, 0, rfl, (hg g rfl).1, fun i hi j hj => ?_⟩, hlies⟩
      rw [Nat.zero_add, hrow.cellAt _ (by omega)]
      have hlen := hrow.1
      simp [List.getD_eq_getElem?_getD, show i * 5 + j < ys.length by omega]

theorem nil_own (w : World) (S : Nat → Prop) : OwnL w S (.slice none 0 0) [] ∧ LiesL S w (.slice none 0 0) [] :=
  ⟨.mk S _ [] [] (fun _ => undef) (fun _ => undef) (fun _ _ => False) (fun _ _ => False) ⟨rfl, .inl ⟨rfl, rfl⟩⟩ (fun g h => by simp [Value.ownBlock] at h) (fun i h => by simp at h) (fun _ _ h => h.elim) (fun _ _ h => h.elim) (fun _ _ _ _ h => h.elim) (fun _ _ _ h => h.elim) (fun _ _ _ _ h => h.elim) (fun i h => by simp at h) (fun i h => by simp at h),
   ⟨none, 0, fun _ _ => undef, rfl, by simp, Nat.le_refl _, .inl rfl, fun i h => by simp at h⟩⟩

theorem textsV_at (ss : List ByteArray) : ∀ (i : Nat) (h : i < ss.length), (textsV ss)[i * 5]? = some (.int .i64 3) ∧ (textsV ss)[i * 5 + 1]? = some (.int .i64 0) ∧ (textsV ss)[i * 5 + 2]? = some (.string ss[i]) ∧ (textsV ss)[i * 5 + 3]? = some (.slice none 0 0) ∧ (textsV ss)[i * 5 + 4]? = some (.slice none 0 0) := by
  induction ss with
  | nil => intro i h; simp at h
  | cons s ss ih =>
    intro i h
    have e : textsV (s :: ss) = textV s ++ textsV ss := by simp [textsV]
    have hl : (textV s).length = 5 := rfl
    cases i with
    | zero => rw [e]; simp [textV]
    | succ i =>
      have h' := ih i (by simpa using h)
      rw [e, List.getElem?_append_right (by omega), List.getElem?_append_right (by omega), List.getElem?_append_right (by omega), List.getElem?_append_right (by omega), List.getElem?_append_right (by omega), hl]
      rw [show (i + 1) * 5 - 5 = i * 5 by omega, show (i + 1) * 5 + 1 - 5 = i * 5 + 1 by omega, show (i + 1) * 5 + 2 - 5 = i * 5 + 2 by omega, show (i + 1) * 5 + 3 - 5 = i * 5 + 3 by omega, show (i + 1) * 5 + 4 - 5 = i * 5 + 4 by omega]
      simpa using h'

/-- A row of texts as values. -/
theorem texts_own {w : World} {lo : Nat} {c : Value} {ss : List ByteArray} (h : w.ownsRow lo 50 5 c ss.length (textsV ss)) (hn : ss.length ≤ maxLen) (hs : ∀ s ∈ ss, s.size ≤ maxLen) :
    OwnL w (fun b => c.ownBlock = some b) c (ss.map textT) ∧ LiesL (fun b => c.ownBlock = some b) w c (ss.map textT) := by
  refine tree_row (ys := textsV ss) (C := fun _ => .slice none 0 0) (U := fun _ => .slice none 0 0) (B := fun _ _ => False) (K := fun _ _ => False) ?_ (by simpa using hn) (fun g h => ⟨h, fun i => ⟨id, id⟩⟩) (fun i hi => ?_) (fun i hi => ?_) (fun _ _ h => h.elim) (fun _ _ h => h.elim) (fun _ _ _ _ h => h.elim) (fun _ _ _ h => h.elim) (fun _ _ _ _ h => h.elim) (fun i hi => ?_) (fun i hi => ?_)
  · rw [List.length_map]; exact owns_lo (Nat.zero_le _) h
  · have hi' : i < ss.length := by simpa using hi
    obtain ⟨a, b, d, e, f⟩ := textsV_at ss i hi'
    simp only [List.getElem_map, textT, Tree.kind, Tree.num, Tree.str]
    exact ⟨a, b, d, e, f⟩
  · have hi' : i < ss.length := by simpa using hi
    simp only [List.getElem_map, textT, Tree.str, Tree.keys]
    exact ⟨hs _ (List.getElem_mem hi'), by simp [saneS]⟩
  · simp only [List.getElem_map, textT, Tree.kids]
    exact nil_own w _
  · simp only [List.getElem_map, textT, Tree.keys]
    exact ⟨⟨rfl, .inl ⟨rfl, rfl⟩⟩, fun g h => by simp [Value.ownBlock] at h⟩
end Go.Proofs.Ytiadcebolcdhbaa

/-! A value that is being made, key by key: its rows may be written, its parts lie in blocks of their own; what withKey leaves. Conditions: none (facts on memory). -/
namespace Go.Proofs.Ytiadcebolcdhbaa
open Go.RowKit
set_option linter.unusedSimpArgs false
set_option linter.unusedVariables false

/-- A map that is being made: c is its list, u its keys; all in blocks of S. -/
structure Mk (w : World) (S : Nat → Prop) (c u : Value) (l : List Tree) (ks : List ByteArray) : Prop where
  len : l.length = ks.length
  low : ∀ b, S b → b < w.heap.size
  row : ∃ (ys : List Value) (C U : Nat → Value) (B K : Nat → Nat → Prop),
    w.ownsRow 0 50 5 c l.length ys ∧
    (∀ g, c.ownBlock = some g → S g ∧ ∀ i, ¬ B i g ∧ ¬ K i g) ∧
    (∀ g, u.ownBlock = some g → S g ∧ ∀ i, ¬ B i g ∧ ¬ K i g) ∧
    (∀ i (h : i < l.length), ys[i * 5]? = some (.int .i64 l[i].kind) ∧ ys[i * 5 + 1]? = some (.int .i64 l[i].num) ∧ ys[i * 5 + 2]? = some (.string l[i].str) ∧ ys[i * 5 + 3]? = some (C i) ∧ ys[i * 5 + 4]? = some (U i)) ∧
    (∀ i (h : i < l.length), l[i].str.size ≤ maxLen ∧ saneS l[i].keys) ∧
    (∀ i b, B i b → S b) ∧ (∀ i b, K i b → S b) ∧ (∀ i j b, i ≠ j → B i b → ¬ B j b) ∧ (∀ i j b, B i b → ¬ K j b) ∧ (∀ i j b, i ≠ j → K i b → ¬ K j b) ∧
    (∀ i (h : i < l.length), OwnL w (B i) (C i) l[i].kids ∧ LiesL (B i) w (C i) l[i].kids) ∧
    (∀ i (h : i < l.length), w.ownsRow 0 9 1 (U i) l[i].keys.length (strsV l[i].keys) ∧ ∀ g, (U i).ownBlock = some g → K i g)
  keys : w.ownsRow 0 9 1 u ks.length (strsV ks)
/-- A part that may be put into a map. -/
structure Part (w : World) (R1 R2 : Nat → Prop) (c u : Value) (l : List Tree) (ks : List ByteArray) : Prop where
  own : OwnL w R1 c l
  lies : LiesL R1 w c l
  keys : w.ownsRow 0 9 1 u ks.length (strsV ks)
  inK : ∀ g, u.ownBlock = some g → R2 g
  apart : ∀ b, R1 b → ¬ R2 b
theorem Part.keep {w w' : World} {R1 R2 : Nat → Prop} {c u : Value} {l : List Tree} {ks : List ByteArray} (h : Part w R1 R2 c u l ks) (hk : Kp (fun b => R1 b ∨ R2 b) w w') : Part w' R1 R2 c u l ks :=
  ⟨h.own.keep (fun b hb => hk b (.inl hb)), h.lies.keep (fun b hb => hk b (.inl hb)), owns_kept (S := R2) (fun b hb => hk b (.inr hb)) h.inK h.keys, h.inK, h.apart⟩
theorem Mk.keep {w w' : World} {S : Nat → Prop} {c u : Value} {l : List Tree} {ks : List ByteArray} (h : Mk w S c u l ks) (hs : w.heap.size ≤ w'.heap.size) (hk : Kp S w w') : Mk w' S c u l ks := by
  obtain ⟨len, low, ⟨ys, C, U, B, K, r1, r2, r3, r4, r5, r6, r7, r8, r9, r10, r11, r12⟩, keys⟩ := h
  exact ⟨len, fun b hb => Nat.lt_of_lt_of_le (low b hb) hs, ⟨ys, C, U, B, K, owns_kept hk (fun g h => (r2 g h).1) r1, r2, r3, r4, r5, r6, r7, r8, r9, r10,
    fun i h => ⟨(r11 i h).1.keep (fun b hb => hk b (r6 i b hb)), (r11 i h).2.keep (fun b hb => hk b (r6 i b hb))⟩,
    fun i h => ⟨owns_kept (S := K i) (fun b hb => hk b (r7 i b hb)) (r12 i h).2 (r12 i h).1, (r12 i h).2⟩⟩, owns_kept hk (fun g h => (r3 g h).1) keys⟩
theorem Mk.nil (w : World) : Mk w (fun _ => False) (.slice none 0 0) (.slice none 0 0) [] [] :=
  ⟨rfl, fun _ h => h.elim, ⟨[], fun _ => undef, fun _ => undef, fun _ _ => False, fun _ _ => False, ⟨rfl, .inl ⟨rfl, rfl⟩⟩, fun g h => by simp [Value.ownBlock] at h, fun g h => by simp [Value.ownBlock] at h, fun i h => by simp at h, fun i h => by simp at h, fun _ _ h => h.elim, fun _ _ h => h.elim, fun _ _ _ _ h => h.elim, fun _ _ _ h => h.elim, fun _ _ _ _ h => h.elim, fun i h => by simp at h, fun i h => by simp at h⟩, ⟨rfl, .inl ⟨rfl, rfl⟩⟩⟩
theorem Mk.mono {w : World} {S S' : Nat → Prop} {c u : Value} {l : List Tree} {ks : List ByteArray} (h : Mk w S c u l ks) (hs : ∀ b, S b → S' b) (hl : ∀ b, S' b → b < w.heap.size) : Mk w S' c u l ks := by
  obtain ⟨len, low, ⟨ys, C, U, B, K, r1, r2, r3, r4, r5, r6, r7, r8, r9, r10, r11, r12⟩, keys⟩ := h
  exact ⟨len, hl, ⟨ys, C, U, B, K, r1, fun g h => ⟨hs _ (r2 g h).1, (r2 g h).2⟩, fun g h => ⟨hs _ (r3 g h).1, (r3 g h).2⟩, r4, r5, fun i b h => hs _ (r6 i b h), fun i b h => hs _ (r7 i b h), r8, r9, r10, r11, r12⟩, keys⟩
/-- A row of values and one of texts do not lie in one block. -/
theorem apart_rows {w : World} {lo lo' n m : Nat} {c u : Value} {xs ys : List Value} (hc : w.ownsRow lo 50 5 c n xs) (hu : w.ownsRow lo' 9 1 u m ys) {g : Nat} (h : c.ownBlock = some g) : u.ownBlock ≠ some g := fun h' => by
  rcases hc.2 with ⟨rfl, _⟩ | ⟨g1, cap1, cur1, rfl, _, hg1, _⟩
  · simp [Value.ownBlock] at h
  · simp [Value.ownBlock] at h
    subst h
    rcases hu.2 with ⟨rfl, _⟩ | ⟨g2, cap2, cur2, rfl, _, hg2, _⟩
    · simp [Value.ownBlock] at h'
    · simp [Value.ownBlock] at h'
      subst h'
      rw [hg1] at hg2
      simp at hg2
theorem Mk.part {w : World} {S : Nat → Prop} {c u : Value} {l : List Tree} {ks : List ByteArray} (h : Mk w S c u l ks) (hl : l.length ≤ maxLen) : ∃ R1 R2 : Nat → Prop, Part w R1 R2 c u l ks ∧ (∀ b, R1 b → S b) ∧ (∀ b, R2 b → S b) := by
  obtain ⟨len, low, ⟨ys, C, U, B, K, r1, r2, r3, r4, r5, r6, r7, r8, r9, r10, r11, r12⟩, keys⟩ := h
  have h := tree_row (S := fun b => c.ownBlock = some b ∨ ∃ i, B i b ∨ K i b) r1 hl (fun g h => ⟨.inl h, (r2 g h).2⟩) r4 r5 (fun i b h => .inr ⟨i, .inl h⟩) (fun i b h => .inr ⟨i, .inr h⟩) r8 r9 r10 r11 r12
  refine ⟨_, fun b => u.ownBlock = some b, ⟨h.1, h.2, keys, fun g h => h, fun b hb hu => ?_⟩, fun b hb => ?_, fun b hb => (r3 b hb).1⟩
  · rcases hb with hb | ⟨i, hb | hb⟩
    · exact apart_rows r1 keys hb hu
    · exact ((r3 b hu).2 i).1 hb
    · exact ((r3 b hu).2 i).2 hb
  · rcases hb with hb | ⟨i, hb | hb⟩
    · exact (r2 b hb).1
    · exact r6 i b hb
    · exact r7 i b hb
theorem Mk.add {w : World} {S : Nat → Prop} {c u : Value} {l : List Tree} {ks : List ByteArray} (h : Mk w S c u l ks) :
    ∃ ys, w.ownsRow 0 50 5 c ks.length ys ∧ ∀ (w' : World) (R1 R2 : Nat → Prop) (c' u' cn un : Value) (key : ByteArray) (T : Tree),
      Part w R1 R2 cn un T.kids T.keys → T.str.size ≤ maxLen → saneS T.keys → (∀ b, R1 b → b < w.heap.size ∧ ¬ S b) → (∀ b, R2 b → b < w.heap.size ∧ ¬ S b) →
      w'.ownsRow 0 50 5 c' (ks.length + 1) (ys ++ [.int .i64 T.kind, .int .i64 T.num, .string T.str, cn, un]) → w'.ownsRow 0 9 1 u' (ks.length + 1) (strsV ks ++ [.string key]) →
      NewOr w c' c → NewOr w u' u → Chg (OfTwo c u) w w' →
      Mk w' (fun b => S b ∨ R1 b ∨ R2 b ∨ w.heap.size + 3 ≤ b ∧ b < w'.heap.size) c' u' (l ++ [T]) (ks ++ [key]) := by
  obtain ⟨len, low, ⟨ys, C, U, B, K, r1, r2, r3, r4, r5, r6, r7, r8, r9, r10, r11, r12⟩, keys⟩ := h
  refine ⟨ys, len ▸ r1, fun w' R1 R2 c' u' cn un key T hp hs hk h1 h2 hc hu nc nu ch => ?_⟩
  have hl5 : ys.length = l.length * 5 := by have := r1.1; omega
  have hsz := ch.size
  have nb : ∀ {v old : Value}, NewOr w v old → (∀ g, old.ownBlock = some g → S g ∧ ∀ i, ¬ B i g ∧ ¬ K i g) → (∀ g, v.ownBlock = some g → g < w'.heap.size) → ∀ g, v.ownBlock = some g →
      (S g ∨ R1 g ∨ R2 g ∨ w.heap.size + 3 ≤ g ∧ g < w'.heap.size) ∧ ∀ i, ¬ ((i < l.length ∧ B i g) ∨ (i = l.length ∧ R1 g)) ∧ ¬ ((i < l.length ∧ K i g) ∨ (i = l.length ∧ R2 g)) := by
    intro v old hn ho hlt g hg
    rcases hn with hn | ⟨g', hn, hge⟩
    · have hS := ho g (hn.symm.trans hg)
      refine ⟨.inl hS.1, fun i => ⟨?_, ?_⟩⟩
      · rintro (⟨_, k⟩ | ⟨_, k⟩)
        · exact (hS.2 i).1 k
        · exact (h1 g k).2 hS.1
      · rintro (⟨_, k⟩ | ⟨_, k⟩)
        · exact (hS.2 i).2 k
        · exact (h2 g k).2 hS.1
    · have e : g' = g := Option.some.inj (hn.symm.trans hg)
      subst e
      refine ⟨.inr (.inr (.inr ⟨hge, hlt _ hg⟩)), fun i => ⟨?_, ?_⟩⟩
      · rintro (⟨_, k⟩ | ⟨_, k⟩)
        · have := low _ (r6 i _ k); omega
        · have := (h1 _ k).1; omega
      · rintro (⟨_, k⟩ | ⟨_, k⟩)
        · have := low _ (r7 i _ k); omega
        · have := (h2 _ k).1; omega
  have kept : ∀ {R : Nat → Prop}, (∀ b, R b → b < w.heap.size ∧ ¬ OfTwo c u b) → Kp R w w' := fun hr => ch.kp hr
  have kB : ∀ i, Kp (B i) w w' := fun i => kept fun b hb => ⟨low b (r6 i b hb), by
    rintro (k | k)
    · exact ((r2 b k).2 i).1 hb
    · exact ((r3 b k).2 i).1 hb⟩
  have kK : ∀ i, Kp (K i) w w' := fun i => kept fun b hb => ⟨low b (r7 i b hb), by
    rintro (k | k)
    · exact ((r2 b k).2 i).2 hb
    · exact ((r3 b k).2 i).2 hb⟩
  have hp' : Part w' R1 R2 cn un T.kids T.keys := hp.keep (kept fun b hb => by
    rcases hb with hb | hb
    · refine ⟨(h1 b hb).1, ?_⟩
      rintro (k | k)
      · exact (h1 b hb).2 (r2 b k).1
      · exact (h1 b hb).2 (r3 b k).1
    · refine ⟨(h2 b hb).1, ?_⟩
      rintro (k | k)
      · exact (h2 b hb).2 (r2 b k).1
      · exact (h2 b hb).2 (r3 b k).1)
  have eR1 : (fun b => (l.length < l.length ∧ B l.length b) ∨ (True ∧ R1 b)) = R1 := by funext b; simp
  have eB : ∀ i, i < l.length → (fun b => (i < l.length ∧ B i b) ∨ (i = l.length ∧ R1 b)) = B i := fun i hi => by funext b; simp [hi, Nat.ne_of_lt hi]
  refine ⟨by simp [len], ?_, ⟨ys ++ [.int .i64 T.kind, .int .i64 T.num, .string T.str, cn, un], fun i => if i < l.length then C i else cn, fun i => if i < l.length then U i else un,
    fun i b => (i < l.length ∧ B i b) ∨ (i = l.length ∧ R1 b), fun i b => (i < l.length ∧ K i b) ∨ (i = l.length ∧ R2 b), ?_, nb nc r2 (fun g h => (owns_in hc g h).2), nb nu r3 (fun g h => (owns_in hu g h).2), ?_, ?_, ?_, ?_, ?_, ?_, ?_, ?_, ?_⟩, ?_⟩
  · rintro b (hb | hb | hb | hb)
    · exact Nat.lt_of_lt_of_le (low b hb) hsz
    · exact Nat.lt_of_lt_of_le (h1 b hb).1 hsz
    · exact Nat.lt_of_lt_of_le (h2 b hb).1 hsz
    · exact hb.2
  · simp only [List.length_append, List.length_cons, List.length_nil, Nat.zero_add, len]; exact hc
  · intro i hi
    by_cases hlt : i < l.length
    · obtain ⟨a, b, d, e, f⟩ := r4 i hlt
      simp only [List.getElem_append_left hlt, if_pos hlt]
      refine ⟨?_, ?_, ?_, ?_, ?_⟩ <;> rw [List.getElem?_append_left (by omega)] <;> assumption
    · have hi' : i = l.length := by simp at hi; omega
      subst hi'
      simp only [List.getElem_append_right (Nat.le_refl _), Nat.sub_self, List.getElem_cons_zero, if_neg (Nat.lt_irrefl _)]
      refine ⟨?_, ?_, ?_, ?_, ?_⟩ <;> rw [List.getElem?_append_right (by omega)] <;> simp [hl5]
  · intro i hi
    by_cases hlt : i < l.length
    · simp only [List.getElem_append_left hlt]; exact r5 i hlt
    · have hi' : i = l.length := by simp at hi; omega
      subst hi'
      simp only [List.getElem_append_right (Nat.le_refl _), Nat.sub_self, List.getElem_cons_zero]
      exact ⟨hs, hk⟩
  · rintro i b (⟨_, k⟩ | ⟨_, k⟩)
    · exact .inl (r6 i b k)
    · exact .inr (.inl k)
  · rintro i b (⟨_, k⟩ | ⟨_, k⟩)
    · exact .inl (r7 i b k)
    · exact .inr (.inr (.inl k))
  · rintro i j b hij (⟨_, k⟩ | ⟨_, k⟩) (⟨_, m⟩ | ⟨_, m⟩)
    · exact r8 i j b hij k m
    · exact (h1 b m).2 (r6 i b k)
    · exact (h1 b k).2 (r6 j b m)
    · omega
  · rintro i j b (⟨_, k⟩ | ⟨_, k⟩) (⟨_, m⟩ | ⟨_, m⟩)
    · exact r9 i j b k m
    · exact (h2 b m).2 (r6 i b k)
    · exact (h1 b k).2 (r7 j b m)
    · exact hp.apart b k m
  · rintro i j b hij (⟨_, k⟩ | ⟨_, k⟩) (⟨_, m⟩ | ⟨_, m⟩)
    · exact r10 i j b hij k m
    · exact (h2 b m).2 (r7 i b k)
    · exact (h2 b k).2 (r7 j b m)
    · omega
  · intro i hi
    by_cases hlt : i < l.length
    · simp only [List.getElem_append_left hlt, if_pos hlt, eB i hlt]
      exact ⟨(r11 i hlt).1.keep (kB i), (r11 i hlt).2.keep (kB i)⟩
    · have hi' : i = l.length := by simp at hi; omega
      subst hi'
      simp only [List.getElem_append_right (Nat.le_refl _), Nat.sub_self, List.getElem_cons_zero, if_neg (Nat.lt_irrefl _), eR1]
      exact ⟨hp'.own, hp'.lies⟩
  · intro i hi
    by_cases hlt : i < l.length
    · simp only [List.getElem_append_left hlt, if_pos hlt]
      refine ⟨owns_kept (kK i) (r12 i hlt).2 (r12 i hlt).1, fun g h => .inl ⟨hlt, (r12 i hlt).2 g h⟩⟩
    · have hi' : i = l.length := by simp at hi; omega
      subst hi'
      simp only [List.getElem_append_right (Nat.le_refl _), Nat.sub_self, List.getElem_cons_zero, if_neg (Nat.lt_irrefl _)]
      exact ⟨hp'.keys, fun g h => .inr ⟨trivial, hp'.inK g h⟩⟩
  · have e : strsV (ks ++ [key]) = strsV ks ++ [.string key] := by simp [strsV]
    rw [e, List.length_append]; exact hu
end Go.Proofs.Ytiadcebolcdhbaa

/-! The value of a pack, by the program: a contract for the walks; conditions: the pack lies in memory and weighs at most 2 to the 20. -/
namespace Go.Proofs.Ytiadcebolcdhbaa
open Go.RowKit
set_option linter.unusedSimpArgs false
set_option linter.unusedVariables false

def listT (ss : List ByteArray) : Tree := .mk 4 0 ⟨#[]⟩ (ss.map textT) []
def mapT (l : List Tree) (ks : List ByteArray) : Tree := .mk 5 0 ⟨#[]⟩ l ks
def needT (x : NeedD) : Tree := textT x.r
def cmdT (x : CmdD) : Tree := listT x.acts
def packKids (d : PackD) : List Tree := [textT d.name, mapT (d.needs.map needT) (d.needs.map (·.n)), mapT (d.cmds.map cmdT) (d.cmds.map (·.t)), listT d.uses]
def packKeys : List ByteArray := [⟨#[110, 97, 109, 101]⟩, ⟨#[110, 101, 101, 100, 115]⟩, ⟨#[116, 97, 115, 107, 115]⟩, ⟨#[117, 115, 101, 115]⟩]
theorem heap_at {W : World} {o : Obj} {g : Nat} (h : g = W.heap.size) : (W.alloc o).heap[g]? = some o := by subst h; exact vheap_new W o
/-- The blocks of the walk: the pack, the answer, the two maps that are being made. -/
structure PvS (w W : World) (bp : Obj) (c u c2 u2 : Value) : Prop where
  P : W.heap[w.heap.size]? = some bp
  R : W.heap[w.heap.size + 1]? = some boxZ
  N : W.heap[w.heap.size + 1 + 1]? = some (boxM c u)
  T : W.heap[w.heap.size + 1 + 1 + 1]? = some (boxM c2 u2)
  B : Below w.heap.size w W
theorem PvS.lt {w W : World} {bp : Obj} {c u c2 u2 : Value} (h : PvS w W bp c u c2 u2) : w.heap.size + 4 ≤ W.heap.size := by
  have := (Array.getElem?_eq_some_iff.1 h.T).1; omega
theorem PvS.below {w W W' : World} {bp : Obj} {c u c2 u2 : Value} (h : PvS w W bp c u c2 u2) (hb : Below W.heap.size W W') : PvS w W' bp c u c2 u2 := by
  have hl := h.lt
  exact ⟨(hb.block _ (by omega)).trans h.P, (hb.block _ (by omega)).trans h.R, (hb.block _ (by omega)).trans h.N, (hb.block _ (by omega)).trans h.T, h.B.trans (hb.mono h.B.size)⟩
theorem PvS.chg {w W W' : World} {bp : Obj} {c u c2 u2 : Value} {D : Nat → Prop} (h : PvS w W bp c u c2 u2) (hb : Chg D W W') (hD : ∀ b, D b → w.heap.size + 4 ≤ b) : PvS w W' bp c u c2 u2 := by
  have hl := h.lt
  have k : ∀ g, g < w.heap.size + 4 → W'.heap[g]? = W.heap[g]? := fun g hg => hb.block g (by omega) (fun k => by have := hD g k; omega)
  exact ⟨(k _ (by omega)).trans h.P, (k _ (by omega)).trans h.R, (k _ (by omega)).trans h.N, (k _ (by omega)).trans h.T,
    ⟨hb.os.trans h.B.os, hb.tape.trans h.B.tape, hb.output.trans h.B.output, Nat.le_trans h.B.size hb.size, fun b hlt => (k b (by omega)).trans (h.B.block b hlt)⟩⟩
/-- A map that is being made, written over. -/
def put5 (W : World) (g : Nat) (c u : Value) : World := ((((W.setCell ⟨g, 0, none⟩ (.int .i64 5)).setCell ⟨g, 1, none⟩ (.int .i64 0)).setCell ⟨g, 2, none⟩ (.string ⟨#[]⟩)).setCell ⟨g, 3, none⟩ c).setCell ⟨g, 4, none⟩ u
theorem put5_same {W : World} {g : Nat} {a b c u : Value} (h : W.heap[g]? = some (boxM a b)) : (put5 W g c u).heap[g]? = some (boxM c u) :=
  heap_setCell_same _ g 4 _ _ u (heap_setCell_same _ g 3 _ _ c (heap_setCell_same _ g 2 _ _ _ (heap_setCell_same _ g 1 _ _ _ (heap_setCell_same W g 0 _ _ _ h))))
theorem put5_zero {W : World} {g : Nat} {c u : Value} (h : W.heap[g]? = some boxZ) : (put5 W g c u).heap[g]? = some (boxM c u) :=
  heap_setCell_same _ g 4 _ _ u (heap_setCell_same _ g 3 _ _ c (heap_setCell_same _ g 2 _ _ _ (heap_setCell_same _ g 1 _ _ _ (heap_setCell_same W g 0 _ _ _ h))))
theorem put5_other {W : World} {g b : Nat} {c u : Value} (h : b ≠ g) : (put5 W g c u).heap[b]? = W.heap[b]? := by
  have k : ∀ (V : World) (j : Nat) (v : Value), (V.setCell ⟨g, j, none⟩ v).heap[b]? = V.heap[b]? := fun V j v => Below.heap_setCell V ⟨g, j, none⟩ v b h
  unfold put5
  rw [k, k, k, k, k]
theorem put5_below {B : Nat} {w W : World} {g : Nat} {c u : Value} (h : Below B w W) (hg : B ≤ g) : Below B w (put5 W g c u) :=
  Below.setCell (Below.setCell (Below.setCell (Below.setCell (Below.setCell h (p := ⟨g, 0, none⟩) hg _) (p := ⟨g, 1, none⟩) hg _) (p := ⟨g, 2, none⟩) hg _) (p := ⟨g, 3, none⟩) hg _) (p := ⟨g, 4, none⟩) hg _
theorem put5_size {W : World} {g : Nat} {c u : Value} : (put5 W g c u).heap.size = W.heap.size := by
  unfold put5; simp [World.setCell]
theorem PvS.putN {w W : World} {bp : Obj} {c u c2 u2 c' u' : Value} (h : PvS w W bp c u c2 u2) : PvS w (put5 W (w.heap.size + 1 + 1) c' u') bp c' u' c2 u2 :=
  ⟨(put5_other (by omega)).trans h.P, (put5_other (by omega)).trans h.R, put5_same h.N, (put5_other (by omega)).trans h.T, put5_below h.B (by omega)⟩
theorem PvS.putO {w W : World} {bp : Obj} {c u c2 u2 a b : Value} {g : Nat} (h : PvS w W bp c u c2 u2) (hg : w.heap.size + 4 ≤ g) : PvS w (put5 W g a b) bp c u c2 u2 :=
  ⟨(put5_other (by omega)).trans h.P, (put5_other (by omega)).trans h.R, (put5_other (by omega)).trans h.N, (put5_other (by omega)).trans h.T, put5_below h.B (by omega)⟩
theorem PvS.putT {w W : World} {bp : Obj} {c u c2 u2 c' u' : Value} (h : PvS w W bp c u c2 u2) : PvS w (put5 W (w.heap.size + 1 + 1 + 1) c' u') bp c u c' u' :=
  ⟨(put5_other (by omega)).trans h.P, (put5_other (by omega)).trans h.R, (put5_other (by omega)).trans h.N, put5_same h.T, put5_below h.B (by omega)⟩
theorem Mk.put {w : World} {S : Nat → Prop} {c u : Value} {l : List Tree} {ks : List ByteArray} {g : Nat} {a b : Value} (h : Mk w S c u l ks) (hg : ¬ S g) : Mk (put5 w g a b) S c u l ks :=
  h.keep (by rw [put5_size]; exact Nat.le_refl _) (fun i hi => put5_other (fun e => hg (e ▸ hi)))
theorem Mk.slices {w : World} {S : Nat → Prop} {c u : Value} {l : List Tree} {ks : List ByteArray} (h : Mk w S c u l ks) : ∃ qc cc qu cu, c = .slice qc ks.length cc ∧ u = .slice qu ks.length cu := by
  obtain ⟨ys, hy, _⟩ := h.add
  obtain ⟨qc, cc, e⟩ := owns_sl hy
  obtain ⟨qu, cu, e'⟩ := owns_sl h.keys
  exact ⟨qc, cc, qu, cu, e, e'⟩
theorem Mk.slicesN {w : World} {S : Nat → Prop} {c u : Value} {l : List Tree} {ks : List ByteArray} (h : Mk w S c u l ks) : ∃ n qc cc qu cu, n = ks.length ∧ c = .slice qc n cc ∧ u = .slice qu n cu := by
  obtain ⟨qc, cc, qu, cu, h1, h2⟩ := h.slices
  exact ⟨_, qc, cc, qu, cu, rfl, h1, h2⟩
theorem saneNil : saneS [] := ⟨by simp, by simp⟩
/-- The blocks of a map that grows. -/
def More (S R1 R2 : Nat → Prop) (n m : Nat) (b : Nat) : Prop := S b ∨ R1 b ∨ R2 b ∨ n + 3 ≤ b ∧ b < m
theorem more_low {S : Nat → Prop} {lo n m : Nat} (hn : lo ≤ n) (hS : ∀ b, S b → lo ≤ b) : ∀ b, More S (fun _ => False) (fun _ => False) n m b → lo ≤ b := by
  rintro b (h | h | h | h)
  · exact hS b h
  · exact h.elim
  · exact h.elim
  · omega
theorem more_low1 {S : Nat → Prop} {lo n m a b : Nat} (ha : lo ≤ a) (hn : lo ≤ n) (hS : ∀ b, S b → lo ≤ b) : ∀ i, More S (fun i => a ≤ i ∧ i < b) (fun _ => False) n m i → lo ≤ i := by
  rintro i (h | h | h | h)
  · exact hS i h
  · omega
  · exact h.elim
  · omega
theorem more_apart {S N : Nat → Prop} {n m a b z : Nat} (hap : ∀ i, S i → ¬ N i) (hN : ∀ i, N i → i < z) (hz : z ≤ n) (ha : z ≤ a) : ∀ i, More S (fun i => a ≤ i ∧ i < b) (fun _ => False) n m i → ¬ N i := by
  rintro i (h | h | h | h) k
  · exact hap i h k
  · have := hN i k; omega
  · exact h
  · have := hN i k; omega
theorem withKey_mk (S R1 R2 : Nat → Prop) (c u cn un : Value) (l : List Tree) (ks : List ByteArray) (key : ByteArray) (k0 n0 : Int) (s0 : ByteArray) (lT : List Tree) (kT : List ByteArray) (w : World)
    (h : Mk w S c u l ks) (hp : Part w R1 R2 cn un lT kT) (hs : s0.size ≤ maxLen) (hk : saneS kT) (h1 : ∀ b, R1 b → b < w.heap.size ∧ ¬ S b) (h2 : ∀ b, R2 b → b < w.heap.size ∧ ¬ S b) (hn : ks.length ≤ 1048576) (hkey : key.size ≤ 1048576) :
    Calls Try.prog 63 #[.agg #[.int .i64 5, .int .i64 0, .string ⟨#[]⟩, c, u], .string key, .agg #[.int .i64 k0, .int .i64 n0, .string s0, cn, un]] w fun e w' => ∃ c' u', e = .returned (.agg #[.int .i64 5, .int .i64 0, .string ⟨#[]⟩, c', u']) ∧ Mk w' (More S R1 R2 w.heap.size w'.heap.size) c' u' (l ++ [.mk k0 n0 s0 lT kT]) (ks ++ [key]) ∧ Chg (OfTwo c u) w w' := by
  obtain ⟨ys, hy, hadd⟩ := h.add
  obtain ⟨qn, cn', rfl⟩ := hp.own.slice
  obtain ⟨qm, cm, rfl⟩ := owns_sl hp.keys
  refine (withKey_c c u ks.length ys ks key k0 n0 s0 _ _ _ _ _ _ w hy h.keys hn hkey).mono ?_
  rintro e w' ⟨c', u', rfl, a1, a2, a3, a4, a5⟩
  exact ⟨c', u', rfl, hadd w' R1 R2 c' u' _ _ key (.mk k0 n0 s0 lT kT) hp hs hk h1 h2 a1 a2 a3 a4 a5, a5⟩
theorem part_text (w : World) : Part w (fun _ => False) (fun _ => False) (.slice none 0 0) (.slice none 0 0) [] [] :=
  ⟨(nil_own w _).1, (nil_own w _).2, ⟨rfl, .inl ⟨rfl, rfl⟩⟩, fun g h => by simp [Value.ownBlock] at h, fun _ h => h.elim⟩
theorem OwnL.mono {S S' : Nat → Prop} {w : World} {v : Value} {l : List Tree} (h : OwnL w S v l) (hs : ∀ b, S b → S' b) : OwnL w S' v l := by
  cases h with
  | mk _ _ _ ys C U B K hrow hg hc hB hK hBB hBK hKK hC hU => exact .mk S' v l ys C U B K hrow (fun g h => ⟨hs _ (hg g h).1, (hg g h).2⟩) hc (fun i b h => hs _ (hB i b h)) (fun i b h => hs _ (hK i b h)) hBB hBK hKK hC hU
theorem texts_part (v : Value) (ss : List ByteArray) (w : World) (hv : Reads w v (strsV ss)) (hs : bulkS ss ≤ 1048576) (hp : saneP ss) :
    Calls Try.prog 64 #[v] w fun e w' => ∃ c, e = .returned (.agg #[.int .i64 4, .int .i64 0, .string ⟨#[]⟩, c, .slice none 0 0]) ∧ Part w' (fun b => w.heap.size ≤ b ∧ b < w'.heap.size) (fun _ => False) c (.slice none 0 0) (ss.map textT) [] ∧ Below w.heap.size w w' := by
  refine (valOfTexts_c v ss w hv hs).mono ?_
  rintro e w' ⟨c, rfl, hrow, hb⟩
  have hl : ss.length ≤ 1048576 := by unfold bulkS at hs; omega
  have h := texts_own hrow (by unfold maxLen; omega) (fun s hs => hp.2 s hs)
  exact ⟨c, rfl, ⟨OwnL.mono h.1 (fun b hb => owns_in hrow b hb), h.2.mono (fun b hb => owns_in hrow b hb), ⟨rfl, .inl ⟨rfl, rfl⟩⟩, fun g h => by simp [Value.ownBlock] at h, fun _ _ h => h⟩, hb⟩
theorem Chg.none {w w' : World} (h : Chg (OfTwo (.slice none 0 0) (.slice none 0 0)) w w') : Below w.heap.size w w' :=
  ⟨h.os, h.tape, h.output, h.size, fun b hb => h.block b hb (by rintro (k | k) <;> simp [Value.ownBlock] at k)⟩
theorem Mk.of_two {w : World} {S : Nat → Prop} {c u : Value} {l : List Tree} {ks : List ByteArray} (h : Mk w S c u l ks) : ∀ b, OfTwo c u b → S b := by
  obtain ⟨len, low, ⟨ys, C, U, B, K, r1, r2, r3, _⟩, keys⟩ := h
  rintro b (k | k)
  · exact (r2 b k).1
  · exact (r3 b k).1

end Go.Proofs.Ytiadcebolcdhbaa

/-! Rules that lie in memory: what they are: no condition. -/
namespace Go.Proofs.Ytiadcebolcdhbaa
open Go.RowKit
set_option linter.unusedSimpArgs false
set_option linter.unusedVariables false

structure RuleD where
  task : ByteArray
  on : List ByteArray
  ins : List ByteArray
  envs : List ByteArray
  keep : Bool
def wtRule (d : RuleD) : Nat := d.task.size + bulkS d.on + bulkS d.ins + bulkS d.envs
def shRule : Sh RuleD where
  n := 5
  lies S w cs d := ∃ u0 u1 u2, cs = [.string d.task, u0, u1, u2, .bool d.keep] ∧ d.task.size ≤ maxLen ∧ RdB S w u0 (strsV d.on) ∧ saneP d.on ∧ RdB S w u1 (strsV d.ins) ∧ saneP d.ins ∧ RdB S w u2 (strsV d.envs) ∧ saneP d.envs
  keep hk h := by obtain ⟨u0, u1, u2, h0, h1, h2, h3, h4, h5, h6, h7⟩ := h; exact ⟨u0, u1, u2, h0, h1, h2.keep hk, h3, h4.keep hk, h5, h6.keep hk, h7⟩
  mono hS h := by obtain ⟨u0, u1, u2, h0, h1, h2, h3, h4, h5, h6, h7⟩ := h; exact ⟨u0, u1, u2, h0, h1, h2.mono hS, h3, h4.mono hS, h5, h6.mono hS, h7⟩
def shRuleO : Sh RuleD where
  n := 5
  lies S w cs d := ∃ u0 u1 u2, cs = [.string d.task, u0, u1, u2, .bool d.keep] ∧ d.task.size ≤ maxLen ∧ StrsOwn S w u0 d.on ∧ saneP d.on ∧ StrsOwn S w u1 d.ins ∧ saneP d.ins ∧ StrsOwn S w u2 d.envs ∧ saneP d.envs
  keep hk h := by obtain ⟨u0, u1, u2, h0, h1, h2, h3, h4, h5, h6, h7⟩ := h; exact ⟨u0, u1, u2, h0, h1, h2.keep hk, h3, h4.keep hk, h5, h6.keep hk, h7⟩
  mono hS h := by obtain ⟨u0, u1, u2, h0, h1, h2, h3, h4, h5, h6, h7⟩ := h; exact ⟨u0, u1, u2, h0, h1, h2.mono hS, h3, h4.mono hS, h5, h6.mono hS, h7⟩
theorem liesRule_plain {S : Nat → Prop} {w : World} {cs : List Value} {d : RuleD} (h : shRuleO.lies S w cs d) : shRule.lies S w cs d := by
  obtain ⟨u0, u1, u2, e0, s_task, r0, p0, r1, p1, r2, p2⟩ := h
  exact ⟨u0, u1, u2, e0, s_task, r0.plain, p0, r1.plain, p1, r2.plain, p2⟩
end Go.Proofs.Ytiadcebolcdhbaa

/-! Entries that lie in memory: what they are: no condition. -/
namespace Go.Proofs.Ytiadcebolcdhbaa
open Go.RowKit
set_option linter.unusedSimpArgs false
set_option linter.unusedVariables false

structure EntryD where
  name : ByteArray
  vA : Int
  vB : Int
  vC : Int
  vP : List ByteArray
  needs : List NeedD
def wtEntry (d : EntryD) : Nat := d.name.size + bulkS d.vP + wtRow wtNeed d.needs
def shEntry : Sh EntryD where
  n := 6
  lies S w cs d := ∃ u0 u1, cs = [.string d.name, .int .i64 d.vA, .int .i64 d.vB, .int .i64 d.vC, u0, u1] ∧ d.name.size ≤ maxLen ∧ RdB S w u0 (strsV d.vP) ∧ saneP d.vP ∧ RowIn shNeed S w u1 d.needs
  keep hk h := by obtain ⟨u0, u1, h0, h1, h2, h3, h4⟩ := h; exact ⟨u0, u1, h0, h1, h2.keep hk, h3, h4.keep hk⟩
  mono hS h := by obtain ⟨u0, u1, h0, h1, h2, h3, h4⟩ := h; exact ⟨u0, u1, h0, h1, h2.mono hS, h3, h4.mono hS⟩
def shEntryO : Sh EntryD where
  n := 6
  lies S w cs d := ∃ u0 u1, cs = [.string d.name, .int .i64 d.vA, .int .i64 d.vB, .int .i64 d.vC, u0, u1] ∧ d.name.size ≤ maxLen ∧ StrsOwn S w u0 d.vP ∧ saneP d.vP ∧ RowOwn shNeed 154 S w u1 d.needs
  keep hk h := by obtain ⟨u0, u1, h0, h1, h2, h3, h4⟩ := h; exact ⟨u0, u1, h0, h1, h2.keep hk, h3, h4.keep hk⟩
  mono hS h := by obtain ⟨u0, u1, h0, h1, h2, h3, h4⟩ := h; exact ⟨u0, u1, h0, h1, h2.mono hS, h3, h4.mono hS⟩
theorem liesEntry_plain {S : Nat → Prop} {w : World} {cs : List Value} {d : EntryD} (h : shEntryO.lies S w cs d) : shEntry.lies S w cs d := by
  obtain ⟨u0, u1, e0, s_name, r0, p0, r1⟩ := h
  exact ⟨u0, u1, e0, s_name, r0.plain, p0, r1.plain⟩
end Go.Proofs.Ytiadcebolcdhbaa

/-! Copies in memory of their own, as the law makes them: contracts for the walks; condition: what is copied holds at most 2 to the 20. -/
namespace Go.Proofs.Ytiadcebolcdhbaa
open Go.RowKit
set_option linter.unusedSimpArgs false
set_option linter.unusedVariables false

end Go.Proofs.Ytiadcebolcdhbaa

/-! Copies of versions, needs and entries, as the program makes them: contracts for the walks; conditions: they lie in memory, and hold at most 2 to the 20. -/
namespace Go.Proofs.Ytiadcebolcdhbaa
open Go.RowKit
set_option linter.unusedSimpArgs false
set_option linter.unusedVariables false

/-- A block of another type than a row's is not the row's. -/
theorem row_box {w : World} {lo sz n g : Nat} {e t : TypeId} {v : Value} {xs : List Value} {cs : Array Value} {fz : Nat × Nat} (h : w.ownsRow lo e sz v n xs) (hb : w.heap[g]? = some (.cells cs t fz)) (hne : e ≠ t) : v.ownBlock ≠ some g := fun he => by
  rcases h.2 with ⟨rfl, _⟩ | ⟨g', cap, cur, rfl, _, hg, _⟩
  · simp [Value.ownBlock] at he
  · simp [Value.ownBlock] at he
    subst he
    rw [hg] at hb
    simp at hb
    exact hne hb.2.1
theorem box_grown {w w' : World} {row : Option Nat} {g : Nat} {o : Obj} (hb : w.heap[g]? = some o) (hg : w.grownBy w' row) (hne : row ≠ some g) : w'.heap[g]? = some o :=
  (hg.block g (Array.getElem?_eq_some_iff.1 hb).1 (fun e => hne e.symm)).trans hb
theorem box_below {w w' : World} {g : Nat} {o : Obj} (hb : w.heap[g]? = some o) (h : Below w.heap.size w w') : w'.heap[g]? = some o :=
  (h.block g (Array.getElem?_eq_some_iff.1 hb).1).trans hb
theorem row_put {w : World} {lo sz n g j : Nat} {e t : TypeId} {v x : Value} {xs : List Value} {cs : Array Value} {fz : Nat × Nat} (h : w.ownsRow lo e sz v n xs) (hb : w.heap[g]? = some (.cells cs t fz)) (hne : e ≠ t) : (w.setCell ⟨g, j, none⟩ x).ownsRow lo e sz v n xs :=
  owns_kept (S := fun b => b ≠ g) (Kp.set (by simp)) (fun b hb' => by rintro rfl; exact row_box h hb hne hb') h
theorem List.single_le_sum_natC {ss : List ByteArray} {t : ByteArray} (h : t ∈ ss) : t.size ≤ (ss.map ByteArray.size).sum := by
  induction ss with
  | nil => simp at h
  | cons a l ih =>
    simp only [List.map_cons, List.sum_cons]
    rcases List.mem_cons.1 h with rfl | h
    · omega
    · have := ih h; omega
theorem two_boxes {w : World} (A R : Obj) : ((w.alloc A).alloc R).heap[w.heap.size]? = some A ∧ ((w.alloc A).alloc R).heap[w.heap.size + 1]? = some R := by
  have s1 : (w.alloc A).heap.size = w.heap.size + 1 := by simp
  refine ⟨?_, ?_⟩
  · rw [vheap_old _ _ (by simp), vheap_new]
  · rw [← s1, vheap_new]

end Go.Proofs.Ytiadcebolcdhbaa

/-! Copies of needs and entries, as the program makes them: contracts for the walks; conditions: they lie in memory, and hold at most 2 to the 20. -/
namespace Go.Proofs.Ytiadcebolcdhbaa
open Go.RowKit
set_option linter.unusedSimpArgs false
set_option linter.unusedVariables false

/-- The cells of needs. -/
def needsV (xs : List NeedD) : List Value := xs.flatMap fun d => [.string d.n, .string d.r]
theorem needsV_length (xs : List NeedD) : (needsV xs).length = xs.length * 2 := by
  induction xs with
  | nil => rfl
  | cons d l ih => simp only [needsV, List.flatMap_cons, List.length_append, List.length_cons, List.length_nil] at *; omega
theorem needsV_append (xs ys : List NeedD) : needsV xs ++ needsV ys = needsV (xs ++ ys) := by simp [needsV]
theorem needsV_take (xs : List NeedD) (k : Nat) (h : k < xs.length) : needsV (xs.take k) ++ [.string xs[k].n, .string xs[k].r] = needsV (xs.take (k + 1)) := by
  rw [List.take_succ_eq_append_getElem h, ← needsV_append]; rfl
theorem needsV_at (xs : List NeedD) : ∀ i (h : i < xs.length), (needsV xs)[i * 2]? = some (.string xs[i].n) ∧ (needsV xs)[i * 2 + 1]? = some (.string xs[i].r) := by
  induction xs with
  | nil => intro i h; simp at h
  | cons d l ih =>
    intro i h
    have e : needsV (d :: l) = [.string d.n, .string d.r] ++ needsV l := by simp [needsV]
    cases i with
    | zero => rw [e]; simp
    | succ i =>
      have h' := ih i (by simpa using h)
      rw [e, List.getElem?_append_right (by simp; omega), List.getElem?_append_right (by simp; omega)]
      simp only [List.length_cons, List.length_nil]
      rw [show (i + 1) * 2 - (0 + 1 + 1) = i * 2 by omega, show (i + 1) * 2 + 1 - (0 + 1 + 1) = i * 2 + 1 by omega]
      simpa using h'
theorem needs_own {w : World} {lo : Nat} {v : Value} {xs : List NeedD} (h : w.ownsRow lo 154 2 v xs.length (needsV xs)) (hl : xs.length ≤ maxLen) (hs : ∀ d ∈ xs, d.n.size ≤ maxLen ∧ d.r.size ≤ maxLen) : RowOwn shNeed 154 (Ow lo w.heap.size) w v xs := by
  refine ⟨hl, needsV xs, owns_lo (Nat.zero_le _) h, owns_in h, fun i hi _ => ⟨[.string xs[i].n, .string xs[i].r], rfl, ⟨rfl, hs _ (List.getElem_mem hi)⟩, fun j hj => ?_⟩⟩
  obtain ⟨h1, h2⟩ := needsV_at xs i hi
  match j, hj with
  | 0, _ => exact h1
  | 1, _ => exact h2

theorem owns_of_belowN {w w' : World} {lo sz n : Nat} {e : TypeId} {v : Value} {xs : List Value} (h : w.ownsRow lo e sz v n xs) (hb : Below w.heap.size w w') : w'.ownsRow lo e sz v n xs := h.kept (grown_of_below hb none) (by cases hq : v.ownBlock <;> simp)
theorem cells_put {w : World} {N M : Nat} {o : Obj} (h : w.heap[N]? = some o) (hne : N ≠ M) (j : Nat) (v : Value) : (w.setCell ⟨M, j, none⟩ v).heap[N]? = some o := (Below.heap_setCell w ⟨M, j, none⟩ v N (by simpa using hne)).trans h
theorem two_src (w : World) (c0 c1 : Value) : ∀ j u, ([c0, c1] : List Value)[j]? = some u → (w.alloc (.cells #[c0, c1] 154)).cell? ((⟨w.heap.size, 0, none⟩ : Addr).add j) = some u := fun j u hu => by
  have e : ((⟨w.heap.size, 0, none⟩ : Addr).add j) = ⟨w.heap.size, j, none⟩ := by unfold Addr.add; split <;> simp_all
  rw [e, vblk_cell (vheap_new _ _) j]
  simpa using hu

end Go.Proofs.Ytiadcebolcdhbaa

/-! A list of texts in blocks of its own, and what a walk leaves of it: laws for the walks; no condition. -/
namespace Go.Proofs.Ytiadcebolcdhbaa
open Go.RowKit
set_option linter.unusedSimpArgs false
set_option linter.unusedVariables false

/-- A list of texts in blocks from lo up to hi. -/
def StrR (lo hi : Nat) (W : World) (u : Value) (ss : List ByteArray) : Prop := StrsOwn (Ow lo hi) W u ss ∧ hi ≤ W.heap.size
theorem StrR.chg {lo hi : Nat} {W W' : World} {u : Value} {ss : List ByteArray} {S : Nat → Prop} (h : StrR lo hi W u ss) (k : Chg S W W') (n : ∀ b, Ow lo hi b → ¬ S b) : StrR lo hi W' u ss :=
  ⟨h.1.keep (fun b hb => k.block b (Nat.lt_of_lt_of_le hb.2 h.2) (n b hb)), Nat.le_trans h.2 k.size⟩
theorem StrR.below {lo hi : Nat} {W W' : World} {u : Value} {ss : List ByteArray} (h : StrR lo hi W u ss) (k : Below W.heap.size W W') : StrR lo hi W' u ss := h.chg (Chg.of (S := fun _ => False) k) (fun _ _ => id)
theorem strR_of {lo : Nat} {W : World} {u : Value} {ss : List ByteArray} (h : W.ownsRow lo 9 1 u ss.length (strsV ss)) : StrR lo W.heap.size W u ss := ⟨⟨owns_lo (Nat.zero_le _) h, fun g hg => owns_in h g hg⟩, Nat.le_refl _⟩
theorem below_chgW {B : Nat} {S : Nat → Prop} {w W W' : World} (h : Below B w W) (k : Chg S W W') (hs : ∀ b, S b → B ≤ b) (hB : B ≤ W.heap.size) : Below B w W' :=
  ⟨k.os.trans h.os, k.tape.trans h.tape, k.output.trans h.output, Nat.le_trans h.size k.size, fun b hb => (k.block b (Nat.lt_of_lt_of_le hb hB) (fun hS => by have := hs b hS; omega)).trans (h.block b hb)⟩
end Go.Proofs.Ytiadcebolcdhbaa

/-! Marks put into rows of needs, and found again, as the law does it: contracts for the walks; conditions: the rows lie in memory, may be written, and there are at most 2 to the 32 marks. -/
namespace Go.Proofs.Ytiadcebolcdhbaa
open Go.RowKit
set_option linter.unusedSimpArgs false
set_option linter.unusedVariables false

end Go.Proofs.Ytiadcebolcdhbaa

/-! Marks put into rows of packs, as the law puts them: a contract for the walks; conditions: the rows lie in memory, may be written, and there are at most 2 to the 32 marks. -/
namespace Go.Proofs.Ytiadcebolcdhbaa
open Go.RowKit
set_option linter.unusedSimpArgs false
set_option linter.unusedVariables false

/-- What stays where marks are put into texts, and into rows of commands. -/
structure InvC (I : World → Prop) : Prop where
  below : ∀ w w', I w → Below w.heap.size w w' → I w'
  cmd : ∀ w g i n cap zs x, I w → w.ownsRow 0 141 2 (.slice (some ⟨g, 0, none⟩) n cap) n zs → I (w.setCell ⟨g, i * 2, none⟩ (.string x))
  strs : ∀ w w' u n z z', I w → w.ownsRow 0 9 1 u n z → w'.ownsRow 0 9 1 u n z' → w.grownBy w' u.ownBlock → I w'

theorem own_putP {w : World} {lo lo' sz sz' n n' g j cap : Nat} {e e' : TypeId} {u x : Value} {zs ys : List Value} (h : w.ownsRow lo e sz u n zs) (hg : w.ownsRow lo' e' sz' (.slice (some ⟨g, 0, none⟩) n' cap) n' ys) (hne : e ≠ e') : (w.setCell ⟨g, j, none⟩ x).ownsRow lo e sz u n zs := by
  refine owns_kept (S := fun b => b ≠ g) (Kp.set (fun k => k rfl)) (fun g' hg' => ?_) h
  rintro rfl
  rcases owns_apart h hg hne with k | k
  · rw [k] at hg'; cases hg'
  · exact k (by rw [hg']; rfl)
theorem owns_setAny {w : World} {lo sz n : Nat} {e : TypeId} {u : Value} {zs : List Value} (h : w.ownsRow lo e sz u n zs) (g j : Nat) (x : Value) : ∃ zs', (w.setCell ⟨g, j, none⟩ x).ownsRow lo e sz u n zs' ∧ (zs' = zs ∨ zs' = zs.set j x) := by
  by_cases hg : u.ownBlock = some g
  · rcases id h.2 with ⟨rfl, _⟩ | ⟨g2, c2, cur2, rfl, _⟩
    · simp [Value.ownBlock] at hg
    · simp [Value.ownBlock] at hg
      subst hg
      exact ⟨_, (h.stored j x).1, .inr rfl⟩
  · exact ⟨zs, owns_kept (S := fun b => b ≠ g) (Kp.set (fun k => k rfl)) (fun g' hg' => by rintro rfl; exact hg hg') h, .inl rfl⟩
theorem CmdRows.put {w : World} {S : Nat → Prop} {ys : List Value} {ns : List Nat} {lo' sz' n' g j cap : Nat} {e' : TypeId} {zs : List Value} {x : Value} (h : CmdRows w S ys ns) (hg : w.ownsRow lo' e' sz' (.slice (some ⟨g, 0, none⟩) n' cap) n' zs) (hne : 9 ≠ e') : CmdRows (w.setCell ⟨g, j, none⟩ x) S ys ns := fun i hi => by
  obtain ⟨u, xs, h1, h2, h3⟩ := h i hi
  exact ⟨u, xs, h1, own_putP h2 hg hne, h3⟩
theorem CmdRows.overS {w w' : World} {S : Nat → Prop} {ys : List Value} {ns : List Nat} {u : Value} {n : Nat} {z z' : List Value} (h : CmdRows w S ys ns) (h0 : w.ownsRow 0 9 1 u n z) (h1 : w'.ownsRow 0 9 1 u n z') (hg : w.grownBy w' u.ownBlock) : CmdRows w' S ys ns := fun i hi => by
  obtain ⟨u', xs', a1, a2, a3⟩ := h i hi
  obtain ⟨zs', a4⟩ := owns_over a2 h0 h1 hg (by omega)
  exact ⟨u', zs', a1, a4, a3⟩
theorem CmdRows.overN {w w' : World} {S : Nat → Prop} {ys : List Value} {ns : List Nat} {u : Value} {n : Nat} {z : List Value} (h : CmdRows w S ys ns) (h0 : w.ownsRow 0 154 2 u n z) (hg : w.grownBy w' u.ownBlock) : CmdRows w' S ys ns := fun i hi => by
  obtain ⟨u', xs', a1, a2, a3⟩ := h i hi
  exact ⟨u', xs', a1, a2.kept hg (owns_apart a2 h0 (by decide)), a3⟩
/-- The rows of a row of packs: each may be written. -/
def PackRows (w : World) (S : Nat → Prop) (ys : List Value) (xs : List PackD) : Prop := ∀ i (h : i < xs.length), ∃ u0 u1 u2 z0 z1 z2, ys[i * 4 + 1]? = some u0 ∧ ys[i * 4 + 2]? = some u1 ∧ ys[i * 4 + 3]? = some u2 ∧ w.ownsRow 0 9 1 u0 xs[i].uses.length z0 ∧ (∀ g, u0.ownBlock = some g → S g) ∧ w.ownsRow 0 154 2 u1 xs[i].needs.length z1 ∧ (∀ g, u1.ownBlock = some g → S g) ∧ w.ownsRow 0 141 2 u2 xs[i].cmds.length z2 ∧ (∀ g, u2.ownBlock = some g → S g) ∧ CmdRows w S z2 (xs[i].cmds.map fun c => c.acts.length)
theorem PackRows.set {w : World} {S : Nat → Prop} {ys : List Value} {xs : List PackD} (h : PackRows w S ys xs) (i : Nat) (v : Value) : PackRows w S (ys.set (i * 4) v) xs := fun j hj => by
  obtain ⟨u0, u1, u2, z0, z1, z2, h1, h2, h3, h4⟩ := h j hj
  exact ⟨u0, u1, u2, z0, z1, z2, by rw [List.getElem?_set_ne (by omega)]; exact h1, by rw [List.getElem?_set_ne (by omega)]; exact h2, by rw [List.getElem?_set_ne (by omega)]; exact h3, h4⟩
theorem owns_belowP {w w' : World} {lo sz n : Nat} {e : TypeId} {u : Value} {zs : List Value} (h : w.ownsRow lo e sz u n zs) (hb : Below w.heap.size w w') : w'.ownsRow lo e sz u n zs := owns_kept (S := fun b => b < w.heap.size) (.of hb (fun b h => h)) (fun g hg => (owns_in h g hg).2) h
theorem PackRows.below {w w' : World} {S : Nat → Prop} {ys : List Value} {xs : List PackD} (h : PackRows w S ys xs) (hb : Below w.heap.size w w') : PackRows w' S ys xs := fun j hj => by
  obtain ⟨u0, u1, u2, z0, z1, z2, h1, h2, h3, a0, i0, a1, i1, a2, i2, c⟩ := h j hj
  exact ⟨u0, u1, u2, z0, z1, z2, h1, h2, h3, owns_belowP a0 hb, i0, owns_belowP a1 hb, i1, owns_belowP a2 hb, i2, c.below hb⟩
theorem PackRows.store {w : World} {S : Nat → Prop} {ys : List Value} {xs : List PackD} {g j n cap : Nat} {zs : List Value} {x : Value} (h : PackRows w S ys xs) (hg : w.ownsRow 0 33 4 (.slice (some ⟨g, 0, none⟩) n cap) n zs) : PackRows (w.setCell ⟨g, j, none⟩ x) S ys xs := fun i hi => by
  obtain ⟨u0, u1, u2, z0, z1, z2, h1, h2, h3, a0, i0, a1, i1, a2, i2, c⟩ := h i hi
  exact ⟨u0, u1, u2, z0, z1, z2, h1, h2, h3, own_putP a0 hg (by decide), i0, own_putP a1 hg (by decide), i1, own_putP a2 hg (by decide), i2, c.put hg (by decide)⟩
theorem PackRows.cmd {w : World} {S : Nat → Prop} {ys : List Value} {xs : List PackD} {g i n cap : Nat} {zs : List Value} {x : ByteArray} (h : PackRows w S ys xs) (hg : w.ownsRow 0 141 2 (.slice (some ⟨g, 0, none⟩) n cap) n zs) : PackRows (w.setCell ⟨g, i * 2, none⟩ (.string x)) S ys xs := fun j hj => by
  obtain ⟨u0, u1, u2, z0, z1, z2, h1, h2, h3, a0, i0, a1, i1, a2, i2, c⟩ := h j hj
  obtain ⟨z3, a3, hz⟩ := owns_setAny a2 g (i * 2) (.string x)
  refine ⟨u0, u1, u2, z0, z1, z3, h1, h2, h3, own_putP a0 hg (by decide), i0, own_putP a1 hg (by decide), i1, a3, i2, ?_⟩
  rcases hz with rfl | rfl
  · exact c.store hg
  · exact (c.store hg).set0 i _
theorem PackRows.overS {w w' : World} {S : Nat → Prop} {ys : List Value} {xs : List PackD} {u : Value} {n : Nat} {z z' : List Value} (h : PackRows w S ys xs) (h0 : w.ownsRow 0 9 1 u n z) (h1 : w'.ownsRow 0 9 1 u n z') (hg : w.grownBy w' u.ownBlock) : PackRows w' S ys xs := fun i hi => by
  obtain ⟨u0, u1, u2, z0, z1, z2, e1, e2, e3, a0, i0, a1, i1, a2, i2, c⟩ := h i hi
  obtain ⟨z9, a9⟩ := owns_over a0 h0 h1 hg (by omega)
  exact ⟨u0, u1, u2, z9, z1, z2, e1, e2, e3, a9, i0, a1.kept hg (owns_apart a1 h0 (by decide)), i1, a2.kept hg (owns_apart a2 h0 (by decide)), i2, c.overS h0 h1 hg⟩
theorem PackRows.overN {w w' : World} {S : Nat → Prop} {ys : List Value} {xs : List PackD} {u : Value} {n : Nat} {z z' : List Value} (h : PackRows w S ys xs) (h0 : w.ownsRow 0 154 2 u n z) (h1 : w'.ownsRow 0 154 2 u n z') (hg : w.grownBy w' u.ownBlock) : PackRows w' S ys xs := fun i hi => by
  obtain ⟨u0, u1, u2, z0, z1, z2, e1, e2, e3, a0, i0, a1, i1, a2, i2, c⟩ := h i hi
  obtain ⟨z9, a9⟩ := owns_over a1 h0 h1 hg (by omega)
  exact ⟨u0, u1, u2, z0, z9, z2, e1, e2, e3, a0.kept hg (owns_apart a0 h0 (by decide)), i0, a9, i1, a2.kept hg (owns_apart a2 h0 (by decide)), i2, c.overN h0 hg⟩
theorem packRows_of {S : Nat → Prop} {w : World} {ys : List Value} {xs : List PackD} (h : Laid shPackO S w ys xs xs.length) : PackRows w S ys xs := fun i hi => by
  obtain ⟨cs, h1, ⟨u0, u1, u2, rfl, _, r0, _, r1, r2⟩, h4⟩ := h i hi hi
  obtain ⟨_, y1, o1, in1, _⟩ := r1
  obtain ⟨_, y2, o2, in2, la2⟩ := r2
  exact ⟨u0, u1, u2, _, _, _, h4 1 (by simp), h4 2 (by simp), h4 3 (by simp), r0.1, r0.2, o1, in1, o2, in2, cmdRows_of la2⟩
/-- A row of packs, and the rows in it. -/
def InPack (S : Nat → Prop) (v : Value) (ys : List Value) (xs : List PackD) (w : World) : Prop := w.ownsRow 0 33 4 v xs.length ys ∧ PackRows w S ys xs
theorem inPack_inv (S : Nat → Prop) (v : Value) (ys : List Value) (xs : List PackD) : InvC (InPack S v ys xs) where
  below w w' h hb := ⟨owns_belowP h.1 hb, h.2.below hb⟩
  cmd w g i n cap zs x h hg := ⟨own_putP h.1 hg (by decide), h.2.cmd hg⟩
  strs w w' u n z z' h h0 h1 hg := ⟨h.1.kept hg (owns_apart h.1 h0 (by decide)), h.2.overS h0 h1 hg⟩
def cntK (d : PackD) : Nat := 1 + d.uses.length + d.needs.length * 2 + ((d.cmds.map fun c => c.acts.length).length + (d.cmds.map fun c => c.acts.length).sum)
def cntKs (xs : List PackD) : Nat := (xs.map cntK).sum
theorem cntKs_take (xs : List PackD) (i : Nat) (h : i < xs.length) : cntKs (xs.take (i + 1)) = cntKs (xs.take i) + cntK xs[i] := by
  unfold cntKs
  rw [List.take_succ_eq_append_getElem h, List.map_append, List.sum_append]; simp
theorem cntKs_le (xs : List PackD) (i : Nat) : cntKs (xs.take i) ≤ cntKs xs := by
  unfold cntKs
  conv => rhs; rw [← List.take_append_drop i xs, List.map_append, List.sum_append]
  omega
theorem cntK_wt (d : PackD) : cntK d ≤ 4 * (1 + wtPack d) := by
  have h1 := len_wtRow wtNeed d.needs
  have h2 := cmds_sum d.cmds
  unfold cntK wtPack bulkS
  omega
theorem cntKs_wt : ∀ xs : List PackD, cntKs xs ≤ 4 * wtRow wtPack xs
  | [] => by simp [cntKs]
  | d :: xs => by
    have h1 := cntKs_wt xs
    have h2 := cntK_wt d
    have e1 : cntKs (d :: xs) = cntK d + cntKs xs := by simp [cntKs]
    have e2 : wtRow wtPack (d :: xs) = (1 + wtPack d) + wtRow wtPack xs := by simp [wtRow]
    omega

end Go.Proofs.Ytiadcebolcdhbaa

/-! Marks put into rows of rules, as the law puts them: a contract for the walks; conditions: the rows lie in memory, may be written, and there are at most 2 to the 32 marks. -/
namespace Go.Proofs.Ytiadcebolcdhbaa
open Go.RowKit
set_option linter.unusedSimpArgs false
set_option linter.unusedVariables false

def lenR (d : RuleD) (r : Nat) : Nat := if r = 1 then d.on.length else if r = 2 then d.ins.length else d.envs.length
/-- The rows of a row of rules: each may be written. -/
def RuleRows (w : World) (S : Nat → Prop) (ys : List Value) (xs : List RuleD) : Prop := ∀ i (h : i < xs.length) r, 1 ≤ r → r ≤ 3 → ∃ u z, ys[i * 5 + r]? = some u ∧ w.ownsRow 0 9 1 u (lenR xs[i] r) z ∧ (∀ g, u.ownBlock = some g → S g)
theorem RuleRows.set {w : World} {S : Nat → Prop} {ys : List Value} {xs : List RuleD} (h : RuleRows w S ys xs) (i r : Nat) (hr : r = 0 ∨ r = 4) (v : Value) : RuleRows w S (ys.set (i * 5 + r) v) xs := fun j hj r' h1 h3 => by
  obtain ⟨u0, z0, a1, a3⟩ := h j hj r' h1 h3
  exact ⟨u0, z0, by rw [List.getElem?_set_ne (by omega)]; exact a1, a3⟩
theorem RuleRows.below {w w' : World} {S : Nat → Prop} {ys : List Value} {xs : List RuleD} (h : RuleRows w S ys xs) (hb : Below w.heap.size w w') : RuleRows w' S ys xs := fun j hj r' h1 h3 => by
  obtain ⟨u0, z0, a1, a3, a4⟩ := h j hj r' h1 h3
  exact ⟨u0, z0, a1, owns_kept (S := fun b => b < w.heap.size) (.of hb (fun b h => h)) (fun g h => (owns_in a3 g h).2) a3, a4⟩
theorem RuleRows.store {w : World} {S : Nat → Prop} {ys : List Value} {xs : List RuleD} {g j n cap : Nat} {zs : List Value} {x : Value} (h : RuleRows w S ys xs) (hg : w.ownsRow 0 52 5 (.slice (some ⟨g, 0, none⟩) n cap) n zs) : RuleRows (w.setCell ⟨g, j, none⟩ x) S ys xs := fun i hi r' h1 h3 => by
  obtain ⟨u0, z0, a1, a3, a4⟩ := h i hi r' h1 h3
  exact ⟨u0, z0, a1, own_putP a3 hg (by decide), a4⟩
theorem RuleRows.overS {w w' : World} {S : Nat → Prop} {ys : List Value} {xs : List RuleD} {u : Value} {n : Nat} {z z' : List Value} (h : RuleRows w S ys xs) (h0 : w.ownsRow 0 9 1 u n z) (h1 : w'.ownsRow 0 9 1 u n z') (hg : w.grownBy w' u.ownBlock) : RuleRows w' S ys xs := fun i hi r' hr1 hr3 => by
  obtain ⟨u0, z0, a1, a3, a4⟩ := h i hi r' hr1 hr3
  obtain ⟨z2, a7⟩ := owns_over a3 h0 h1 hg (by omega)
  exact ⟨u0, z2, a1, a7, a4⟩
theorem ruleRows_of {S : Nat → Prop} {w : World} {ys : List Value} {xs : List RuleD} (h : Laid shRuleO S w ys xs xs.length) : RuleRows w S ys xs := fun i hi r h1 h3 => by
  obtain ⟨cs, _, ⟨u0, u1, u2, rfl, _, a0, _, a1, _, a2, _⟩, h4⟩ := h i hi hi
  have hr : r = 1 ∨ r = 2 ∨ r = 3 := by omega
  rcases hr with rfl | rfl | rfl
  · exact ⟨u0, _, h4 1 (by simp), a0.1, a0.2⟩
  · exact ⟨u1, _, h4 2 (by simp), a1.1, a1.2⟩
  · exact ⟨u2, _, h4 3 (by simp), a2.1, a2.2⟩
def cntR (d : RuleD) : Nat := 2 + d.on.length + d.ins.length + d.envs.length
def cntRs (xs : List RuleD) : Nat := (xs.map cntR).sum
theorem cntRs_take (xs : List RuleD) (i : Nat) (h : i < xs.length) : cntRs (xs.take (i + 1)) = cntRs (xs.take i) + cntR xs[i] := by
  unfold cntRs
  rw [List.take_succ_eq_append_getElem h, List.map_append, List.sum_append]; simp
theorem cntRs_le (xs : List RuleD) (i : Nat) : cntRs (xs.take i) ≤ cntRs xs := by
  unfold cntRs
  conv => rhs; rw [← List.take_append_drop i xs, List.map_append, List.sum_append]
  omega
theorem cntR_wt (d : RuleD) : cntR d ≤ 4 * (1 + wtRule d) := by
  unfold cntR wtRule bulkS
  omega
theorem cntRs_wt : ∀ xs : List RuleD, cntRs xs ≤ 4 * wtRow wtRule xs
  | [] => by simp [cntRs]
  | d :: xs => by
    have h1 := cntRs_wt xs
    have h2 := cntR_wt d
    have e1 : cntRs (d :: xs) = cntR d + cntRs xs := by simp [cntRs]
    have e2 : wtRow wtRule (d :: xs) = (1 + wtRule d) + wtRow wtRule xs := by simp [wtRow]
    omega

set_option maxHeartbeats 8000000 in
set_option maxRecDepth 100000 in
theorem markRuleS_c (S : Nat → Prop) (v : Value) (xs : List RuleD) (k : Nat) (w : World) (hv : RowOwn shRuleO 52 S w v xs) (h1 : 1 ≤ k) (h2 : k + cntRs xs ≤ 4294967296) :
    Calls Try.prog 35 #[v, .int .i64 (k : Int)] w fun e w' => e = .returned (.int .i64 ((k + cntRs xs : Nat) : Int)) ∧ Chg S w w' := by
  obtain ⟨_, zs, hv, hg, hld⟩ := hv
  have hr := ruleRows_of hld
  clear hld
  have hv : w.ownsRow 0 52 5 v xs.length zs := hv
  rcases id hv.2 with ⟨rfl, hn0⟩ | ⟨g, cap, cur, rfl, _, hgb, hcap, hmax, _⟩
  · have hns : xs = [] := List.eq_nil_of_length_eq_zero hn0
    subst hns
    clear hv hg hr
    go_enter Try.func35, Try.ntmps35
    go_wp2_with fail
    go_loopw [1, 5] (fun vk vi wr => vk = .int .i64 (k : Int) ∧ vi = .int .i64 0 ∧ wr = w) (fun _ _ _ => 0)
    case atStart => exact ⟨rfl, rfl, rfl⟩
    case round =>
      obtain ⟨rfl, rfl, rfl⟩ := hrel
      go_wp2_with fail
      go_ret
      exact ⟨by simp [cntRs], Chg.refl _ _⟩
  · have hSg := hg g rfl
    unfold maxLen at hmax
    clear hgb hg
    go_enter Try.func35, Try.ntmps35
    go_wp2_with fail
    go_loopw [1, 5] (fun vk vi wr => ∃ (i m : Nat) (ys : List Value), i ≤ xs.length ∧ vi = .int .i64 (i : Int) ∧ vk = .int .i64 (m : Int) ∧ Hid (m = k + cntRs (xs.take i)) ∧ wr.ownsRow 0 52 5 (.slice (some ⟨g, 0, none⟩) xs.length cap) xs.length ys ∧ Hid (RuleRows wr S ys xs) ∧ Chg S w wr) (fun _ vi _ => xs.length - (intOf vi).toNat)
    case atStart => exact ⟨0, k, zs, Nat.zero_le _, rfl, rfl, by show _ = _; simp [cntRs], hv, hr, Chg.refl _ _⟩
    case round =>
      obtain ⟨i, m, ys, hi, rfl, rfl, hm, hown, hrr, hchg⟩ := hrel
      by_cases hlt : i < xs.length
      · have hlen := hown.1
        have hts := cntRs_take xs i hlt
        have htl := cntRs_le xs (i + 1)
        obtain ⟨P, hP⟩ : ∃ P, P = lenR xs[i] 1 := ⟨_, rfl⟩
        obtain ⟨P2, hP2⟩ : ∃ P, P = lenR xs[i] 2 := ⟨_, rfl⟩
        obtain ⟨P3, hP3⟩ : ∃ P, P = lenR xs[i] 3 := ⟨_, rfl⟩
        have hcr : cntR xs[i] = 2 + P + P2 + P3 := by rw [hP, hP2, hP3]; rfl
        have HTS : Hid (cntRs (xs.take (i + 1)) = cntRs (xs.take i) + (2 + P + P2 + P3) ∧ cntRs (xs.take (i + 1)) ≤ cntRs xs) := ⟨by rw [← hcr]; exact hts, htl⟩
        have HP := hidden hP
        have HP2 := hidden hP2
        have HP3 := hidden hP3
        have hm2 : m + 2 + P + P2 + P3 ≤ 4294967296 := by have := hm.out; have := HTS.out; omega
        have hm1 : 1 ≤ m := by have := hm.out; omega
        obtain ⟨K1, hK1⟩ : ∃ K, K = m + 1 + P := ⟨_, rfl⟩
        obtain ⟨K2, hK2⟩ : ∃ K, K = K1 + P2 := ⟨_, rfl⟩
        obtain ⟨K3, hK3⟩ : ∃ K, K = K2 + P3 := ⟨_, rfl⟩
        have hKb : K3 + 1 ≤ 4294967296 := by omega
        have hki : (i : Int) < (xs.length : Int) := by omega
        have HO := hidden hown
        have HM1 := hidden (fun w1 => markText_c m w1 (by omega) (by omega))
        have HN1 : Hid (∀ W u z, W.ownsRow 0 9 1 u P z → Calls Try.prog 68 #[u, .int .i64 ((m : Int) + 1)] W fun e w' => e = .returned (.int .i64 (K1 : Int)) ∧ (∃ z', w'.ownsRow 0 9 1 u P z') ∧ W.grownBy w' u.ownBlock) := fun W u z h => by
          have h9 := markStrs_c u 0 P z (m + 1) W h (by omega) (by omega) (by omega) (Nat.zero_le _)
          rw [show ((m + 1 : Nat) : Int) = (m : Int) + 1 by omega, show (m : Int) + 1 + (P : Int) = (K1 : Int) by omega] at h9
          exact h9.mono fun e w' ⟨a, b, c⟩ => ⟨a, ⟨_, b⟩, c⟩
        have HN2 : Hid (∀ W u z, W.ownsRow 0 9 1 u P2 z → Calls Try.prog 68 #[u, .int .i64 (K1 : Int)] W fun e w' => e = .returned (.int .i64 (K2 : Int)) ∧ (∃ z', w'.ownsRow 0 9 1 u P2 z') ∧ W.grownBy w' u.ownBlock) := fun W u z h => by
          have h9 := markStrs_c u 0 P2 z K1 W h (by omega) (by omega) (by omega) (Nat.zero_le _)
          rw [show (K1 : Int) + (P2 : Int) = (K2 : Int) by omega] at h9
          exact h9.mono fun e w' ⟨a, b, c⟩ => ⟨a, ⟨_, b⟩, c⟩
        have HN3 : Hid (∀ W u z, W.ownsRow 0 9 1 u P3 z → Calls Try.prog 68 #[u, .int .i64 (K2 : Int)] W fun e w' => e = .returned (.int .i64 (K3 : Int)) ∧ (∃ z', w'.ownsRow 0 9 1 u P3 z') ∧ W.grownBy w' u.ownBlock) := fun W u z h => by
          have h9 := markStrs_c u 0 P3 z K2 W h (by omega) (by omega) (by omega) (Nat.zero_le _)
          rw [show (K2 : Int) + (P3 : Int) = (K3 : Int) by omega] at h9
          exact h9.mono fun e w' ⟨a, b, c⟩ => ⟨a, ⟨_, b⟩, c⟩
        have HKK : Hid (K3 + 1 = m + (2 + P + P2 + P3)) := by show _ = _; omega
        clear hown hv hr hts htl hP hP2 hP3 hcr hK1 hK2 hK3
        go_wp2_with fail
        go_at_call 76
        refine (HM1.out _).mono ?_
        rintro e w1 ⟨rfl, b1⟩
        have r1 := HO.out.kept (grown_of_below b1 none) (by simp [Value.ownBlock])
        have f1 := r1.frozenAt
        obtain ⟨c0, d0⟩ : ∃ x, w1.cell? ⟨g, i * 5, none⟩ = some x := ⟨ys.getD (i * 5) undef, by rw [r1.cellAt _ (by omega)]; simp [List.getD_eq_getElem?_getD, show i * 5 < ys.length by omega]⟩
        have q1 := hrr.out.below b1
        have s0 := (r1.stored (i * 5) (.string (markStr m))).1
        have q2 := (q1.store (j := i * 5) (x := .string (markStr m)) r1).set i 0 (.inl rfl) (.string (markStr m))
        rw [Nat.add_zero] at q2
        obtain ⟨zs1, hzs1⟩ : ∃ z, z = ys.set (i * 5) (.string (markStr m)) := ⟨_, rfl⟩
        rw [← hzs1] at s0 q2
        have hzl : zs1.length = xs.length * 5 := s0.1
        have CH1 : Chg S wr (w1.setCell ⟨g, i * 5, none⟩ (.string (markStr m))) := (Chg.of b1).trans (Chg.set hSg)
        obtain ⟨u0, z0, hu1, hu3, hu4⟩ := q2 i hlt 1 (by omega) (by omega)
        rw [← HP.out] at hu3
        have d1 : w1.cell? ⟨g, i * 5 + 1, none⟩ = some u0 := by
          rw [r1.cellAt _ (by omega)]
          rw [hzs1, List.getElem?_set_ne (by omega)] at hu1
          exact hu1
        obtain ⟨qu, cu, eu⟩ := owns_sliceP hu3
        have HMS := hidden (HN1.out _ _ _ hu3)
        subst eu
        have HR2 := hidden s0
        have HQ2 := hidden q2
        have HU2 := hidden hu3
        have HU4 := hidden hu4
        have HCH1 := hidden CH1
        have HZS := hidden hzs1
        clear r1 s0 q1 q2 hu1 hu3 hu4 CH1 hzs1
        go_wp2_with fail
        go_at_call 68
        refine HMS.out.mono ?_
        rintro e w2 ⟨rfl, ⟨z9, y2⟩, g2⟩
        have r3 := HR2.out.kept g2 (owns_apart HR2.out HU2.out (by decide))
        have q6 := HQ2.out.overS HU2.out y2 g2
        have HCH2 := hidden (HCH1.out.trans (Chg.grown g2 HU4.out))
        clear y2 g2 HMS HR2 HQ2 HU2 HU4 HCH1 d0 d1 f1
        obtain ⟨u1, z1, hu1, hu3, hu4⟩ := q6 i hlt 2 (by omega) (by omega)
        rw [← HP2.out] at hu3
        have d1 : w2.cell? ⟨g, i * 5 + 2, none⟩ = some u1 := by
          rw [r3.cellAt _ (by omega)]
          exact hu1
        obtain ⟨qu1, cu1, eu⟩ := owns_sliceP hu3
        have HMS := hidden (HN2.out _ _ _ hu3)
        subst eu
        have HR2 := hidden r3
        have HQ2 := hidden q6
        have HU2 := hidden hu3
        have HU4 := hidden hu4
        clear r3 q6 hu1 hu3 hu4
        go_wp2_with fail
        go_at_call 68
        refine HMS.out.mono ?_
        rintro e w3 ⟨rfl, ⟨z8, y2⟩, g2⟩
        have r3 := HR2.out.kept g2 (owns_apart HR2.out HU2.out (by decide))
        have q6 := HQ2.out.overS HU2.out y2 g2
        have HCH3 := hidden (HCH2.out.trans (Chg.grown g2 HU4.out))
        clear y2 g2 HMS HR2 HQ2 HU2 HU4 HCH2 d1
        obtain ⟨u2, z2, hu1, hu3, hu4⟩ := q6 i hlt 3 (by omega) (by omega)
        rw [← HP3.out] at hu3
        have d1 : w3.cell? ⟨g, i * 5 + 3, none⟩ = some u2 := by
          rw [r3.cellAt _ (by omega)]
          exact hu1
        obtain ⟨qu2, cu2, eu⟩ := owns_sliceP hu3
        have HMS := hidden (HN3.out _ _ _ hu3)
        subst eu
        have HR2 := hidden r3
        have HQ2 := hidden q6
        have HU2 := hidden hu3
        have HU4 := hidden hu4
        clear r3 q6 hu1 hu3 hu4
        go_wp2_with fail
        go_at_call 68
        refine HMS.out.mono ?_
        rintro e w4 ⟨rfl, ⟨z7, y2⟩, g2⟩
        have r3 := HR2.out.kept g2 (owns_apart HR2.out HU2.out (by decide))
        have q6 := HQ2.out.overS HU2.out y2 g2
        have HCH4 := hidden (HCH3.out.trans (Chg.grown g2 HU4.out))
        clear y2 g2 HMS HR2 HQ2 HU2 HU4 HCH3 d1
        have f1 := r3.frozenAt
        obtain ⟨c4, d4⟩ : ∃ x, w4.cell? ⟨g, i * 5 + 4, none⟩ = some x := ⟨zs1.getD (i * 5 + 4) undef, by rw [r3.cellAt _ (by omega)]; simp [List.getD_eq_getElem?_getD, show i * 5 + 4 < zs1.length by omega]⟩
        have HEND : Hid (∀ x, (w4.setCell ⟨g, i * 5 + 4, none⟩ x).ownsRow 0 52 5 (.slice (some ⟨g, 0, none⟩) xs.length cap) xs.length (zs1.set (i * 5 + 4) x) ∧ RuleRows (w4.setCell ⟨g, i * 5 + 4, none⟩ x) S (zs1.set (i * 5 + 4) x) xs ∧ Chg S wr (w4.setCell ⟨g, i * 5 + 4, none⟩ x)) := fun x =>
          ⟨(r3.stored (i * 5 + 4) x).1, (q6.store (j := i * 5 + 4) (x := x) r3).set i 4 (.inr rfl) x, HCH4.out.trans (Chg.set hSg)⟩
        clear r3 q6
        go_wp2_with fail
        go_roundw
        case rel => exact ⟨i + 1, K3 + 1, _, by omega, by go_num, by go_num, (by show _ = _; have := hm.out; have := HTS.out; have := HKK.out; omega), (HEND.out _).1, (HEND.out _).2.1, hchg.trans (HEND.out _).2.2⟩
        case measure => simp [intOf]; omega
      · have he : i = xs.length := by omega
        subst he
        have hmm : m = k + cntRs xs := by have := hm.out; rw [List.take_length] at this; exact this
        have HMM := hidden hmm
        clear hown hv hr hrr hmm
        go_wp2_with fail
        go_ret
        exact ⟨by rw [← HMM.out]; rfl, hchg⟩
end Go.Proofs.Ytiadcebolcdhbaa

/-! Needs and commands, and rows of them, that are the same are told so by the law's own comparison: contracts for what lies in memory and holds at most 2 to the 20. -/
namespace Go.Proofs.Ytiadcebolcdhbaa
open Go.RowKit
set_option linter.unusedSimpArgs false
set_option linter.unusedVariables false

theorem boxTwo {w w1 : World} {A R : Obj} (hb : Below ((w.alloc A).alloc R).heap.size ((w.alloc A).alloc R) w1) : w1.heap[w.heap.size]? = some A ∧ w1.heap[w.heap.size + 1]? = some R := by
  have s1 : (w.alloc A).heap.size = w.heap.size + 1 := by simp
  refine ⟨?_, ?_⟩
  · rw [hb.block _ (by simp; omega), vheap_old _ _ (by simp), vheap_new]
  · rw [hb.block _ (by simp), ← s1, vheap_new]

end Go.Proofs.Ytiadcebolcdhbaa

/-! What is the same is told so by the law's own comparison: contracts for what lies in memory and holds at most 2 to the 20. -/
namespace Go.Proofs.Ytiadcebolcdhbaa
open Go.RowKit
set_option linter.unusedSimpArgs false
set_option linter.unusedVariables false

set_option maxHeartbeats 2000000 in
set_option maxRecDepth 100000 in
theorem eqRule_c (S S' : Nat → Prop) (d : RuleD) (cs cs' : List Value) (w : World) (hd : shRule.lies S w cs d) (hd' : shRule.lies S' w cs' d) (hB : ∀ b, S b → b < w.heap.size) (hB' : ∀ b, S' b → b < w.heap.size) (hw : wtRule d ≤ 1048576) :
    Calls Try.prog 29 #[.agg cs.toArray, .agg cs'.toArray] w fun e w' => e = .returned (.bool true) ∧ Below w.heap.size w w' := by
  obtain ⟨xu0, xu1, xu2, rfl, xs_task, xr0, xp0, xr1, xp1, xr2, xp2⟩ := hd
  obtain ⟨yu0, yu1, yu2, rfl, ys_task, yr0, yp0, yr1, yp1, yr2, yp2⟩ := hd'
  have hb2 : ∀ A R, Below w.heap.size w ((w.alloc A).alloc R) := fun A R => ((Below.refl _ _).alloc (Nat.le_refl _) _).alloc (by simp) _
  unfold wtRule at hw
  have HS0 : Hid (∀ w1, Below w.heap.size w w1 → Calls Try.prog 67 #[xu0, yu0] w1 fun e w' => e = .returned (.bool true) ∧ Below w1.heap.size w1 w') := fun w1 hb => by
    have := eqStrs_c xu0 yu0 d.on d.on w1 ((xr0.keep (.of hb hB)).reads (fun b h => Nat.lt_of_lt_of_le (hB b h) hb.size)) ((yr0.keep (.of hb hB')).reads (fun b h => Nat.lt_of_lt_of_le (hB' b h) hb.size)) (by unfold bulkS at hw; omega)
    rwa [decide_eq_true rfl] at this
  have HS1 : Hid (∀ w1, Below w.heap.size w w1 → Calls Try.prog 67 #[xu1, yu1] w1 fun e w' => e = .returned (.bool true) ∧ Below w1.heap.size w1 w') := fun w1 hb => by
    have := eqStrs_c xu1 yu1 d.ins d.ins w1 ((xr1.keep (.of hb hB)).reads (fun b h => Nat.lt_of_lt_of_le (hB b h) hb.size)) ((yr1.keep (.of hb hB')).reads (fun b h => Nat.lt_of_lt_of_le (hB' b h) hb.size)) (by unfold bulkS at hw; omega)
    rwa [decide_eq_true rfl] at this
  have HS2 : Hid (∀ w1, Below w.heap.size w w1 → Calls Try.prog 67 #[xu2, yu2] w1 fun e w' => e = .returned (.bool true) ∧ Below w1.heap.size w1 w') := fun w1 hb => by
    have := eqStrs_c xu2 yu2 d.envs d.envs w1 ((xr2.keep (.of hb hB)).reads (fun b h => Nat.lt_of_lt_of_le (hB b h) hb.size)) ((yr2.keep (.of hb hB')).reads (fun b h => Nat.lt_of_lt_of_le (hB' b h) hb.size)) (by unfold bulkS at hw; omega)
    rwa [decide_eq_true rfl] at this
  obtain ⟨xa0, xc0, xe0, _⟩ := id xr0
  rw [length_strsV] at xe0
  subst xe0
  clear xr0
  obtain ⟨xa1, xc1, xe1, _⟩ := id xr1
  rw [length_strsV] at xe1
  subst xe1
  clear xr1
  obtain ⟨xa2, xc2, xe2, _⟩ := id xr2
  rw [length_strsV] at xe2
  subst xe2
  clear xr2
  obtain ⟨ya0, yc0, ye0, _⟩ := id yr0
  rw [length_strsV] at ye0
  subst ye0
  clear yr0
  obtain ⟨ya1, yc1, ye1, _⟩ := id yr1
  rw [length_strsV] at ye1
  subst ye1
  clear yr1
  obtain ⟨ya2, yc2, ye2, _⟩ := id yr2
  rw [length_strsV] at ye2
  subst ye2
  clear yr2
  go_enter Try.func29, Try.ntmps29
  go_wp2_with fail
  go_at_call 67
  refine (HS0.out _ (hb2 _ _)).mono ?_
  rintro e w1 ⟨rfl, b1⟩
  obtain ⟨hA1, hR1⟩ := boxTwo b1
  have k1 : Below w.heap.size w w1 := (hb2 _ _).trans (b1.mono (hb2 _ _).size)
  have o0 := vblk_cell hA1 0
  have q0 := vblk_cell hR1 0
  have o1 := vblk_cell hA1 1
  have q1 := vblk_cell hR1 1
  have o2 := vblk_cell hA1 2
  have q2 := vblk_cell hR1 2
  have o3 := vblk_cell hA1 3
  have q3 := vblk_cell hR1 3
  have o4 := vblk_cell hA1 4
  have q4 := vblk_cell hR1 4
  simp only [List.getElem?_toArray, List.getElem?_cons_succ, List.getElem?_cons_zero] at o0 q0 o1 q1 o2 q2 o3 q3 o4 q4
  go_wp2_with fail
  go_at_call 67
  refine (HS1.out _ k1).mono ?_
  rintro e w2 ⟨rfl, b2⟩
  have hA2 := (b2.block _ (Array.getElem?_eq_some_iff.1 hA1).1).trans hA1
  have hR2 := (b2.block _ (Array.getElem?_eq_some_iff.1 hR1).1).trans hR1
  have k2 := k1.trans (b2.mono k1.size)
  have o0 := vblk_cell hA2 0
  have q0 := vblk_cell hR2 0
  have o1 := vblk_cell hA2 1
  have q1 := vblk_cell hR2 1
  have o2 := vblk_cell hA2 2
  have q2 := vblk_cell hR2 2
  have o3 := vblk_cell hA2 3
  have q3 := vblk_cell hR2 3
  have o4 := vblk_cell hA2 4
  have q4 := vblk_cell hR2 4
  simp only [List.getElem?_toArray, List.getElem?_cons_succ, List.getElem?_cons_zero] at o0 q0 o1 q1 o2 q2 o3 q3 o4 q4
  go_wp2_with fail
  go_at_call 67
  refine (HS2.out _ k2).mono ?_
  rintro e w3 ⟨rfl, b3⟩
  have hA3 := (b3.block _ (Array.getElem?_eq_some_iff.1 hA2).1).trans hA2
  have hR3 := (b3.block _ (Array.getElem?_eq_some_iff.1 hR2).1).trans hR2
  have k3 := k2.trans (b3.mono k2.size)
  have o0 := vblk_cell hA3 0
  have q0 := vblk_cell hR3 0
  have o1 := vblk_cell hA3 1
  have q1 := vblk_cell hR3 1
  have o2 := vblk_cell hA3 2
  have q2 := vblk_cell hR3 2
  have o3 := vblk_cell hA3 3
  have q3 := vblk_cell hR3 3
  have o4 := vblk_cell hA3 4
  have q4 := vblk_cell hR3 4
  simp only [List.getElem?_toArray, List.getElem?_cons_succ, List.getElem?_cons_zero] at o0 q0 o1 q1 o2 q2 o3 q3 o4 q4
  generalize d.keep = kp at *
  cases kp
  all_goals
    go_wp2_with fail
    go_ret
    exact ⟨rfl, k3⟩

set_option maxHeartbeats 2000000 in
set_option maxRecDepth 100000 in
theorem eqRuleS_c (S S' : Nat → Prop) (v u : Value) (xs : List RuleD) (w : World) (hv : RowIn shRule S w v xs) (hv' : RowIn shRule S' w u xs) (hB : ∀ b, S b → b < w.heap.size) (hB' : ∀ b, S' b → b < w.heap.size) (hw : wtRow wtRule xs ≤ 1048576) :
    Calls Try.prog 23 #[v, u] w fun e w' => e = .returned (.bool true) ∧ Below w.heap.size w w' := by
  obtain ⟨a, cap, rfl, hl, hc, ha⟩ := hv
  obtain ⟨a', cap', rfl, _, hc', ha'⟩ := hv'
  unfold maxLen at hl
  go_enter Try.func23, Try.ntmps23
  go_wp2_with fail
  go_loopw [5] (fun vi wr => ∃ k : Nat, k ≤ xs.length ∧ vi = .int .i64 (k : Int) ∧ Below w.heap.size w wr) (fun vi _ => xs.length - (intOf vi).toNat)
  case atStart => exact ⟨0, Nat.zero_le _, rfl, Below.refl _ _⟩
  case round =>
    obtain ⟨k, hk, rfl, hbr⟩ := hrel
    by_cases hlt' : k < xs.length
    · rcases ha with rfl | ⟨b, off, rfl, hlt, ha⟩
      · simp at hlt'
      rcases ha' with rfl | ⟨b', off', rfl, hlt3, ha'⟩
      · simp at hlt'
      obtain ⟨cs, hL, hcell⟩ := ha k hlt'
      obtain ⟨cs', hL', hcell'⟩ := ha' k hlt'
      have hwt : wtRule xs[k] ≤ 1048576 := by have := wt_wtRow wtRule (List.getElem_mem hlt'); omega
      have HC := eqRule_c S S' xs[k] cs cs' wr.drew (shRule.keep (.of hbr.drew hB) hL) (shRule.keep (.of hbr.drew hB') hL') (fun b h => Nat.lt_of_lt_of_le (hB b h) hbr.size) (fun b h => Nat.lt_of_lt_of_le (hB' b h) hbr.size) hwt
      replace hL := shRule.keep (.of hbr hB) hL
      replace hL' := shRule.keep (.of hbr hB') hL'
      replace hcell := hcell.keep (.of hbr hB) hlt
      replace hcell' := hcell'.keep (.of hbr hB') hlt3
      obtain ⟨d, hd⟩ : ∃ d, d = xs[k] := ⟨_, rfl⟩
      rw [← hd] at hL hL' hwt
      clear ha ha' hd
      obtain ⟨xu0, xu1, xu2, rfl, xs_task, xr0, xp0, xr1, xp1, xr2, xp2⟩ := hL
      obtain ⟨yu0, yu1, yu2, rfl, ys_task, yr0, yp0, yr1, yp1, yr2, yp2⟩ := hL'
      clear xs_task xp0 xp1 xp2 ys_task yp0 yp1 yp2
      obtain ⟨xa0, xc0, xe0, _⟩ := id xr0
      rw [length_strsV] at xe0
      subst xe0
      clear xr0
      obtain ⟨xa1, xc1, xe1, _⟩ := id xr1
      rw [length_strsV] at xe1
      subst xe1
      clear xr1
      obtain ⟨xa2, xc2, xe2, _⟩ := id xr2
      rw [length_strsV] at xe2
      subst xe2
      clear xr2
      have xv0 : wr.cell? ⟨b, off + k * 5, none⟩ = some (.string d.task) := hcell 0 (by simp)
      have xv1 : wr.cell? ⟨b, off + k * 5 + 1, none⟩ = some (.slice xa0 d.on.length xc0) := hcell 1 (by simp)
      have xv2 : wr.cell? ⟨b, off + k * 5 + 2, none⟩ = some (.slice xa1 d.ins.length xc1) := hcell 2 (by simp)
      have xv3 : wr.cell? ⟨b, off + k * 5 + 3, none⟩ = some (.slice xa2 d.envs.length xc2) := hcell 3 (by simp)
      have xv4 : wr.cell? ⟨b, off + k * 5 + 4, none⟩ = some (.bool d.keep) := hcell 4 (by simp)
      obtain ⟨ya0, yc0, ye0, _⟩ := id yr0
      rw [length_strsV] at ye0
      subst ye0
      clear yr0
      obtain ⟨ya1, yc1, ye1, _⟩ := id yr1
      rw [length_strsV] at ye1
      subst ye1
      clear yr1
      obtain ⟨ya2, yc2, ye2, _⟩ := id yr2
      rw [length_strsV] at ye2
      subst ye2
      clear yr2
      have yv0 : wr.cell? ⟨b', off' + k * 5, none⟩ = some (.string d.task) := hcell' 0 (by simp)
      have yv1 : wr.cell? ⟨b', off' + k * 5 + 1, none⟩ = some (.slice ya0 d.on.length yc0) := hcell' 1 (by simp)
      have yv2 : wr.cell? ⟨b', off' + k * 5 + 2, none⟩ = some (.slice ya1 d.ins.length yc1) := hcell' 2 (by simp)
      have yv3 : wr.cell? ⟨b', off' + k * 5 + 3, none⟩ = some (.slice ya2 d.envs.length yc2) := hcell' 3 (by simp)
      have yv4 : wr.cell? ⟨b', off' + k * 5 + 4, none⟩ = some (.bool d.keep) := hcell' 4 (by simp)
      have HC2 := hidden HC
      have hki : (k : Int) < (xs.length : Int) := by omega
      clear hcell hcell' HC hwt
      go_wp2_with fail
      go_region_with (go_at_call 29; refine HC2.out.mono ?_; rintro e w2 ⟨rfl, hb2⟩)
      all_goals go_wp2_with fail
      all_goals go_roundw
      all_goals first
        | exact ⟨k + 1, by omega, by go_num, hbr.drew.trans (hb2.mono hbr.size)⟩
        | (simp [intOf]; omega)
    · have he : k = xs.length := by omega
      subst he
      clear ha ha'
      go_wp2_with fail
      go_ret
      exact ⟨rfl, hbr⟩

end Go.Proofs.Ytiadcebolcdhbaa

/-! A rule that was answered, in memory of its own, and marks put into it: contracts for the walks; conditions: it holds at most 2 to the 20. -/
namespace Go.Proofs.Ytiadcebolcdhbaa
open Go.RowKit
set_option linter.unusedSimpArgs false
set_option linter.unusedVariables false

/-- Two lists do not share a block. -/
def Ap (a b : Value) : Prop := ∀ g, a.ownBlock = some g → b.ownBlock ≠ some g
theorem Ap.symm {a b : Value} (h : Ap a b) : Ap b a := fun g hg k => h g k hg
theorem Ap.ne {a b : Value} (h : Ap a b) : b.ownBlock = none ∨ b.ownBlock ≠ a.ownBlock := by
  cases hb : b.ownBlock with
  | none => exact .inl rfl
  | some g => exact .inr fun k => h g k.symm hb
theorem Ap.lo {lo hi lo' hi' : Nat} {a b : Value} (ha : ∀ g, a.ownBlock = some g → Ow lo hi g) (hb : ∀ g, b.ownBlock = some g → Ow lo' hi' g) (h : hi ≤ lo') : Ap a b := fun g h1 h2 => by
  have := (ha g h1).2; have := (hb g h2).1; omega
theorem Ap.nil {b : Value} : Ap (.slice none 0 0) b := fun g h => by simp [Value.ownBlock] at h
/-- The lists of a rule that was answered. -/
structure Rec3 (lo hi : Nat) (W : World) (u0 u1 u2 : Value) (d : RuleD) : Prop where
  a0 : StrR lo hi W u0 d.on
  a1 : StrR lo hi W u1 d.ins
  a2 : StrR lo hi W u2 d.envs
  s01 : Ap u0 u1
  s02 : Ap u0 u2
  s12 : Ap u1 u2
  sn : d.task.size ≤ maxLen ∧ saneP d.on ∧ saneP d.ins ∧ saneP d.envs
theorem Rec3.below {lo hi : Nat} {W W' : World} {u0 u1 u2 : Value} {d : RuleD} (h : Rec3 lo hi W u0 u1 u2 d) (k : Below W.heap.size W W') : Rec3 lo hi W' u0 u1 u2 d := ⟨h.a0.below k, h.a1.below k, h.a2.below k, h.s01, h.s02, h.s12, h.sn⟩
theorem Rec3.chg {lo hi : Nat} {W W' : World} {u0 u1 u2 : Value} {d : RuleD} {S : Nat → Prop} (h : Rec3 lo hi W u0 u1 u2 d) (k : Chg S W W') (n : ∀ b, Ow lo hi b → ¬ S b) : Rec3 lo hi W' u0 u1 u2 d := ⟨h.a0.chg k n, h.a1.chg k n, h.a2.chg k n, h.s01, h.s02, h.s12, h.sn⟩
theorem Rec3.lies {lo hi : Nat} {W : World} {u0 u1 u2 : Value} {d : RuleD} (h : Rec3 lo hi W u0 u1 u2 d) : shRule.lies (Ow lo hi) W [.string d.task, u0, u1, u2, .bool d.keep] d := ⟨u0, u1, u2, rfl, h.sn.1, h.a0.1.plain, h.sn.2.1, h.a1.1.plain, h.sn.2.2.1, h.a2.1.plain, h.sn.2.2.2⟩
theorem Rec3.slices {lo hi : Nat} {W : World} {u0 u1 u2 : Value} {d : RuleD} (h : Rec3 lo hi W u0 u1 u2 d) : ∃ q0 c0 q1 c1 q2 c2, u0 = .slice q0 d.on.length c0 ∧ u1 = .slice q1 d.ins.length c1 ∧ u2 = .slice q2 d.envs.length c2 := by
  obtain ⟨q0, c0, e0⟩ := h.a0.1.slice
  obtain ⟨q1, c1, e1⟩ := h.a1.1.slice
  obtain ⟨q2, c2, e2⟩ := h.a2.1.slice
  exact ⟨q0, c0, q1, c1, q2, c2, e0, e1, e2⟩
/-- The marks that were put into it. -/
structure RecM (D : Nat → Prop) (W : World) (u0 u1 u2 : Value) (d : RuleD) : Prop where
  m0 : W.ownsRow 0 9 1 u0 d.on.length (strsV (marksS 1 d.on.length))
  m1 : W.ownsRow 0 9 1 u1 d.ins.length (strsV (marksS (1 + d.on.length) d.ins.length))
  m2 : W.ownsRow 0 9 1 u2 d.envs.length (strsV (marksS (1 + d.on.length + d.ins.length) d.envs.length))
  b0 : ∀ g, u0.ownBlock = some g → D g
  b1 : ∀ g, u1.ownBlock = some g → D g
  b2 : ∀ g, u2.ownBlock = some g → D g
theorem RecM.keep {D : Nat → Prop} {W W' : World} {u0 u1 u2 : Value} {d : RuleD} (h : RecM D W u0 u1 u2 d) (k : Kp D W W') : RecM D W' u0 u1 u2 d := ⟨owns_kept k h.b0 h.m0, owns_kept k h.b1 h.m1, owns_kept k h.b2 h.m2, h.b0, h.b1, h.b2⟩
theorem lens_wt {d : RuleD} (h : wtRule d ≤ 1048576) : d.on.length ≤ 1048576 ∧ d.ins.length ≤ 1048576 ∧ d.envs.length ≤ 1048576 := by
  unfold wtRule bulkS at h; omega

set_option maxHeartbeats 2000000 in
set_option maxRecDepth 100000 in
theorem markRule_c (lo hi : Nat) (u0 u1 u2 : Value) (d : RuleD) (w : World) (h : Rec3 lo hi w u0 u1 u2 d) (hw : wtRule d ≤ 1048576) :
    Calls Try.prog 30 #[.agg #[.string d.task, u0, u1, u2, .bool d.keep], .int .i64 1] w fun e w' => e = .returned (.int .i64 ((1 + d.on.length + d.ins.length + d.envs.length : Nat) : Int)) ∧ RecM (Ow lo hi) w' u0 u1 u2 d ∧ Chg (Ow lo hi) w w' := by
  obtain ⟨l0, l1, l2⟩ := lens_wt hw
  obtain ⟨q0, c0, q1, c1, q2, c2, e0, e1, e2⟩ := h.slices
  have H0 : Hid (∀ W z, W.ownsRow 0 9 1 u0 d.on.length z → Calls Try.prog 68 #[u0, .int .i64 1] W fun e w' => e = .returned (.int .i64 ((1 + d.on.length : Nat) : Int)) ∧ w'.ownsRow 0 9 1 u0 d.on.length (strsV (marksS 1 d.on.length)) ∧ W.grownBy w' u0.ownBlock) := fun W z a => by
    have h9 := markStrs_c u0 0 d.on.length z 1 W a (Nat.le_refl _) (by omega) (by omega) (Nat.zero_le _)
    rw [show ((1 : Nat) : Int) + (d.on.length : Int) = ((1 + d.on.length : Nat) : Int) by omega] at h9
    exact h9
  have H1 : Hid (∀ W z, W.ownsRow 0 9 1 u1 d.ins.length z → Calls Try.prog 68 #[u1, .int .i64 ((1 + d.on.length : Nat) : Int)] W fun e w' => e = .returned (.int .i64 ((1 + d.on.length + d.ins.length : Nat) : Int)) ∧ w'.ownsRow 0 9 1 u1 d.ins.length (strsV (marksS (1 + d.on.length) d.ins.length)) ∧ W.grownBy w' u1.ownBlock) := fun W z a => by
    have h9 := markStrs_c u1 0 d.ins.length z (1 + d.on.length) W a (by omega) (by omega) (by omega) (Nat.zero_le _)
    rw [show ((1 + d.on.length : Nat) : Int) + (d.ins.length : Int) = ((1 + d.on.length + d.ins.length : Nat) : Int) by omega] at h9
    exact h9
  have H2 : Hid (∀ W z, W.ownsRow 0 9 1 u2 d.envs.length z → Calls Try.prog 68 #[u2, .int .i64 ((1 + d.on.length + d.ins.length : Nat) : Int)] W fun e w' => e = .returned (.int .i64 ((1 + d.on.length + d.ins.length + d.envs.length : Nat) : Int)) ∧ w'.ownsRow 0 9 1 u2 d.envs.length (strsV (marksS (1 + d.on.length + d.ins.length) d.envs.length)) ∧ W.grownBy w' u2.ownBlock) := fun W z a => by
    have h9 := markStrs_c u2 0 d.envs.length z (1 + d.on.length + d.ins.length) W a (by omega) (by omega) (by omega) (Nat.zero_le _)
    rw [show ((1 + d.on.length + d.ins.length : Nat) : Int) + (d.envs.length : Int) = ((1 + d.on.length + d.ins.length + d.envs.length : Nat) : Int) by omega] at h9
    exact h9
  have HR := hidden h
  obtain ⟨K1, hK1⟩ : ∃ K, K = 1 + d.on.length := ⟨_, rfl⟩
  obtain ⟨K2, hK2⟩ : ∃ K, K = 1 + d.on.length + d.ins.length := ⟨_, rfl⟩
  obtain ⟨K3, hK3⟩ : ∃ K, K = 1 + d.on.length + d.ins.length + d.envs.length := ⟨_, rfl⟩
  have HM : Hid (∀ W, W.ownsRow 0 9 1 u0 d.on.length (strsV (marksS 1 d.on.length)) → W.ownsRow 0 9 1 u1 d.ins.length (strsV (marksS K1 d.ins.length)) → W.ownsRow 0 9 1 u2 d.envs.length (strsV (marksS K2 d.envs.length)) → RecM (Ow lo hi) W u0 u1 u2 d) := fun W a b c => by
    rw [hK1] at b; rw [hK2] at c
    exact ⟨a, b, c, h.a0.1.2, h.a1.1.2, h.a2.1.2⟩
  simp only [← hK3] at H2 ⊢
  simp only [← hK2] at H1 H2
  simp only [← hK1] at H0 H1
  have hlt : hi ≤ w.heap.size := h.a0.2
  have hbx : ∀ o, Below w.heap.size w (w.alloc o) := fun o => (Below.refl _ _).alloc (Nat.le_refl _) _
  obtain ⟨t, ht⟩ : ∃ t, t = d.task := ⟨_, rfl⟩
  obtain ⟨kp, hkp⟩ : ∃ t, t = d.keep := ⟨_, rfl⟩
  obtain ⟨n0, hn0⟩ : ∃ t, t = d.on.length := ⟨_, rfl⟩
  obtain ⟨n1, hn1⟩ : ∃ t, t = d.ins.length := ⟨_, rfl⟩
  obtain ⟨n2, hn2⟩ : ∃ t, t = d.envs.length := ⟨_, rfl⟩
  have o0 := h.a0.1.1
  have o1 := h.a1.1.1
  have o2 := h.a2.1.1
  rw [← hn0] at e0 H0 HM o0
  rw [← hn1] at e1 H1 HM o1
  rw [← hn2] at e2 H2 HM o2
  rw [← ht, ← hkp]
  obtain ⟨z0, hz0⟩ : ∃ z, z = strsV d.on := ⟨_, rfl⟩
  obtain ⟨z1, hz1⟩ : ∃ z, z = strsV d.ins := ⟨_, rfl⟩
  obtain ⟨z2, hz2⟩ : ∃ z, z = strsV d.envs := ⟨_, rfl⟩
  rw [← hz0] at o0
  rw [← hz1] at o1
  rw [← hz2] at o2
  clear h hK1 hK2 hK3 l0 l1 l2 hw ht hkp hn0 hn1 hn2 hz0 hz1 hz2
  subst e0 e1 e2
  have hA0 : (w.alloc (.cells #[.string t, .slice q0 n0 c0, .slice q1 n1 c1, .slice q2 n2 c2, .bool kp] 52 (0, 0))).heap[w.heap.size]? = some (.cells #[.string t, .slice q0 n0 c0, .slice q1 n1 c1, .slice q2 n2 c2, .bool kp] 52 (0, 0)) := vheap_new _ _
  have HO := hidden (And.intro (owns_of_belowN o0 (hbx (.cells #[.string t, .slice q0 n0 c0, .slice q1 n1 c1, .slice q2 n2 c2, .bool kp] 52 (0, 0)))) (And.intro (owns_of_belowN o1 (hbx (.cells #[.string t, .slice q0 n0 c0, .slice q1 n1 c1, .slice q2 n2 c2, .bool kp] 52 (0, 0)))) (owns_of_belowN o2 (hbx (.cells #[.string t, .slice q0 n0 c0, .slice q1 n1 c1, .slice q2 n2 c2, .bool kp] 52 (0, 0))))))
  have hlo0 := HR.out.a0.1.2
  have hlo1 := HR.out.a1.1.2
  have hlo2 := HR.out.a2.1.2
  have HS := hidden (And.intro HR.out.s01 (And.intro HR.out.s02 HR.out.s12))
  have HL := hidden (And.intro hlo0 (And.intro hlo1 hlo2))
  clear o0 o1 o2 HR hlo0 hlo1 hlo2
  go_enter Try.func30, Try.ntmps30
  go_wp2_with fail
  go_at_call 68
  refine (H0.out _ _ HO.out.1).mono ?_
  rintro e w1 ⟨rfl, r0, g1⟩
  have hA1 := (g1.block w.heap.size (by simp) (fun e => by have := (HL.out.1 _ e.symm).2; omega)).trans hA0
  have x0 := vblk_cell hA1 0
  have x1 := vblk_cell hA1 1
  have x2 := vblk_cell hA1 2
  have x3 := vblk_cell hA1 3
  have x4 := vblk_cell hA1 4
  simp only [List.getElem?_toArray, List.getElem?_cons_succ, List.getElem?_cons_zero] at x0 x1 x2 x3 x4
  have HO1 := hidden (And.intro r0 (And.intro (HO.out.2.1.kept g1 HS.out.1.ne) (HO.out.2.2.kept g1 HS.out.2.1.ne)))
  have HC1 := hidden ((Chg.of (hbx (.cells #[.string t, .slice q0 n0 c0, .slice q1 n1 c1, .slice q2 n2 c2, .bool kp] 52 (0, 0)))).trans (Chg.grown g1 HL.out.1))
  have hz1 : w.heap.size < w1.heap.size := (Array.getElem?_eq_some_iff.1 hA1).1
  clear r0 g1 hA0 HO H0
  go_wp2_with fail
  go_at_call 68
  refine (H1.out _ _ HO1.out.2.1).mono ?_
  rintro e w2 ⟨rfl, r1, g2⟩
  have hA2 := (g2.block w.heap.size hz1 (fun e => by have := (HL.out.2.1 _ e.symm).2; omega)).trans hA1
  clear x0 x1 x2 x3 x4
  have x0 := vblk_cell hA2 0
  have x1 := vblk_cell hA2 1
  have x2 := vblk_cell hA2 2
  have x3 := vblk_cell hA2 3
  have x4 := vblk_cell hA2 4
  simp only [List.getElem?_toArray, List.getElem?_cons_succ, List.getElem?_cons_zero] at x0 x1 x2 x3 x4
  have HO2 := hidden (And.intro (HO1.out.1.kept g2 HS.out.1.symm.ne) (And.intro r1 (HO1.out.2.2.kept g2 HS.out.2.2.ne)))
  have HC2 := hidden (HC1.out.trans (Chg.grown g2 HL.out.2.1))
  clear r1 g2 hA1 HO1 H1 HC1
  go_wp2_with fail
  go_at_call 68
  refine (H2.out _ _ HO2.out.2.2).mono ?_
  rintro e w3 ⟨rfl, r2, g3⟩
  have HF := hidden (And.intro (HM.out _ (HO2.out.1.kept g3 HS.out.2.1.symm.ne) (HO2.out.2.1.kept g3 HS.out.2.2.symm.ne) r2) (HC2.out.trans (Chg.grown g3 HL.out.2.2)))
  clear r2 g3 hA2 HO2 H2 HC2 x0 x1 x2 x3 x4
  go_wp2_with fail
  go_ret
  exact ⟨rfl, HF.out.1, HF.out.2⟩

set_option maxHeartbeats 2000000 in
set_option maxRecDepth 100000 in
theorem heldRule_c (D : Nat → Prop) (u0 u1 u2 : Value) (d : RuleD) (w : World) (h : RecM D w u0 u1 u2 d) (hw : wtRule d ≤ 1048576) :
    Calls Try.prog 36 #[.agg #[.string d.task, u0, u1, u2, .bool d.keep], .int .i64 1] w fun e w' => e = .returned (.int .i64 ((1 + d.on.length + d.ins.length + d.envs.length : Nat) : Int)) ∧ Below w.heap.size w w' := by
  obtain ⟨l0, l1, l2⟩ := lens_wt hw
  have hbx : ∀ o, Below w.heap.size w (w.alloc o) := fun o => (Below.refl _ _).alloc (Nat.le_refl _) _
  have H0 : Hid (∀ W, Below w.heap.size w W → Calls Try.prog 71 #[u0, .int .i64 1] W fun e w' => e = .returned (.int .i64 ((1 + d.on.length : Nat) : Int)) ∧ Below W.heap.size W w') := fun W k => by
    have h9 := heldStrs_c u0 d.on.length 1 W (reads_of_owns (owns_of_belowN h.m0 k)) (Nat.le_refl _) (by omega) (by omega)
    rw [show ((1 : Nat) : Int) + (d.on.length : Int) = ((1 + d.on.length : Nat) : Int) by omega] at h9
    exact h9
  have H1 : Hid (∀ W, Below w.heap.size w W → Calls Try.prog 71 #[u1, .int .i64 ((1 + d.on.length : Nat) : Int)] W fun e w' => e = .returned (.int .i64 ((1 + d.on.length + d.ins.length : Nat) : Int)) ∧ Below W.heap.size W w') := fun W k => by
    have h9 := heldStrs_c u1 d.ins.length (1 + d.on.length) W (reads_of_owns (owns_of_belowN h.m1 k)) (by omega) (by omega) (by omega)
    rw [show ((1 + d.on.length : Nat) : Int) + (d.ins.length : Int) = ((1 + d.on.length + d.ins.length : Nat) : Int) by omega] at h9
    exact h9
  have H2 : Hid (∀ W, Below w.heap.size w W → Calls Try.prog 71 #[u2, .int .i64 ((1 + d.on.length + d.ins.length : Nat) : Int)] W fun e w' => e = .returned (.int .i64 ((1 + d.on.length + d.ins.length + d.envs.length : Nat) : Int)) ∧ Below W.heap.size W w') := fun W k => by
    have h9 := heldStrs_c u2 d.envs.length (1 + d.on.length + d.ins.length) W (reads_of_owns (owns_of_belowN h.m2 k)) (by omega) (by omega) (by omega)
    rw [show ((1 + d.on.length + d.ins.length : Nat) : Int) + (d.envs.length : Int) = ((1 + d.on.length + d.ins.length + d.envs.length : Nat) : Int) by omega] at h9
    exact h9
  obtain ⟨q0, c0, e0⟩ := owns_sliceP h.m0
  obtain ⟨q1, c1, e1⟩ := owns_sliceP h.m1
  obtain ⟨q2, c2, e2⟩ := owns_sliceP h.m2
  obtain ⟨K1, hK1⟩ : ∃ K, K = 1 + d.on.length := ⟨_, rfl⟩
  obtain ⟨K2, hK2⟩ : ∃ K, K = 1 + d.on.length + d.ins.length := ⟨_, rfl⟩
  obtain ⟨K3, hK3⟩ : ∃ K, K = 1 + d.on.length + d.ins.length + d.envs.length := ⟨_, rfl⟩
  simp only [← hK3] at H2 ⊢
  simp only [← hK2] at H1 H2
  simp only [← hK1] at H0 H1
  have g1 : ¬ (K1 : Int) < 0 := by omega
  have g2 : ¬ (K2 : Int) < 0 := by omega
  have g3 : ¬ (K3 : Int) < 0 := by omega
  obtain ⟨t, ht⟩ : ∃ t, t = d.task := ⟨_, rfl⟩
  obtain ⟨kp, hkp⟩ : ∃ t, t = d.keep := ⟨_, rfl⟩
  obtain ⟨n0, hn0⟩ : ∃ t, t = d.on.length := ⟨_, rfl⟩
  obtain ⟨n1, hn1⟩ : ∃ t, t = d.ins.length := ⟨_, rfl⟩
  obtain ⟨n2, hn2⟩ : ∃ t, t = d.envs.length := ⟨_, rfl⟩
  rw [← hn0] at e0
  rw [← hn1] at e1
  rw [← hn2] at e2
  rw [← ht, ← hkp]
  clear h hK1 hK2 hK3 l0 l1 l2 hw ht hkp hn0 hn1 hn2
  subst e0 e1 e2
  have hA0 : (w.alloc (.cells #[.string t, .slice q0 n0 c0, .slice q1 n1 c1, .slice q2 n2 c2, .bool kp] 52 (0, 0))).heap[w.heap.size]? = some (.cells #[.string t, .slice q0 n0 c0, .slice q1 n1 c1, .slice q2 n2 c2, .bool kp] 52 (0, 0)) := vheap_new _ _
  have k0 := hbx (.cells #[.string t, .slice q0 n0 c0, .slice q1 n1 c1, .slice q2 n2 c2, .bool kp] 52 (0, 0))
  go_enter Try.func36, Try.ntmps36
  go_wp2_with fail
  go_at_call 71
  refine (H0.out _ k0).mono ?_
  rintro e w1 ⟨rfl, b1⟩
  have hA1 := box_below hA0 b1
  have k1 := k0.trans (b1.mono k0.size)
  have x0 := vblk_cell hA1 0
  have x1 := vblk_cell hA1 1
  have x2 := vblk_cell hA1 2
  have x3 := vblk_cell hA1 3
  have x4 := vblk_cell hA1 4
  simp only [List.getElem?_toArray, List.getElem?_cons_succ, List.getElem?_cons_zero] at x0 x1 x2 x3 x4
  clear b1 hA0 H0 k0
  go_wp2_with fail
  go_at_call 71
  refine (H1.out _ k1).mono ?_
  rintro e w2 ⟨rfl, b2⟩
  have hA2 := box_below hA1 b2
  have k2 := k1.trans (b2.mono k1.size)
  clear x0 x1 x2 x3 x4
  have x0 := vblk_cell hA2 0
  have x1 := vblk_cell hA2 1
  have x2 := vblk_cell hA2 2
  have x3 := vblk_cell hA2 3
  have x4 := vblk_cell hA2 4
  simp only [List.getElem?_toArray, List.getElem?_cons_succ, List.getElem?_cons_zero] at x0 x1 x2 x3 x4
  clear b2 hA1 H1 k1
  go_wp2_with fail
  go_at_call 71
  refine (H2.out _ k2).mono ?_
  rintro e w3 ⟨rfl, b3⟩
  have k3 := k2.trans (b3.mono k2.size)
  go_wp2_with fail
  go_ret
  exact ⟨rfl, k3⟩
end Go.Proofs.Ytiadcebolcdhbaa
