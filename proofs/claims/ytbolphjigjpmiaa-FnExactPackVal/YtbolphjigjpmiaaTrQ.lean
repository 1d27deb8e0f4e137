/-
  A tree of values put together out of its row and its parts, no two rows of which are the same: pure facts on memory, no condition but those told.
-/
import Derived.Test.YtbolphjigjpmiaaPvC
namespace Go.Proofs.Ytbolphjigjpmiaa
open Go.RowKit
set_option linter.unusedSimpArgs false
set_option linter.unusedVariables false

def Tree.kind : Tree → Int
  | .mk k _ _ _ _ => k
def Tree.num : Tree → Int
  | .mk _ n _ _ _ => n
def Tree.str : Tree → ByteArray
  | .mk _ _ s _ _ => s
def textT (s : ByteArray) : Tree := .mk 3 0 s [] []

theorem readsB_in {S : Nat → Prop} {w : World} {lo : Nat} {e : TypeId} {v : Value} {n : Nat} {xs : List Value} (h : w.ownsRow lo e 1 v n xs) (hs : ∀ g, v.ownBlock = some g → S g) : ReadsB S w v xs := by
  obtain ⟨a, cap, hv, hc, hx⟩ := reads_of_owns h
  refine ⟨a, cap, hv, hc, ?_⟩
  rcases hx with hx | ⟨b, off, rfl, hlt, hx⟩
  · exact .inl hx
  · exact .inr ⟨b, off, rfl, hs b (by rw [hv]; rfl), hx⟩

theorem tree_row {w : World} {S : Nat → Prop} {v : Value} {l : List Tree} {ys : List Value} {C U : Nat → Value} {B K : Nat → Nat → Prop}
    (hrow : w.ownsRow 0 30 5 v l.length ys) (hl : l.length ≤ maxLen)
    (hg : ∀ g, v.ownBlock = some g → S g ∧ ∀ i, ¬ B i g ∧ ¬ K i g)
    (hc : ∀ i (h : i < l.length), ys[i * 5]? = some (.int .i64 l[i].kind) ∧ ys[i * 5 + 1]? = some (.int .i64 l[i].num) ∧ ys[i * 5 + 2]? = some (.string l[i].str) ∧ ys[i * 5 + 3]? = some (C i) ∧ ys[i * 5 + 4]? = some (U i))
    (hs : ∀ i (h : i < l.length), l[i].str.size ≤ maxLen ∧ saneS l[i].keys)
    (hB : ∀ i b, B i b → S b) (hK : ∀ i b, K i b → S b) (hBB : ∀ i j b, i ≠ j → B i b → ¬ B j b) (hBK : ∀ i j b, B i b → ¬ K j b) (hKK : ∀ i j b, i ≠ j → K i b → ¬ K j b)
    (hC : ∀ i (h : i < l.length), OwnL w (B i) (C i) l[i].kids ∧ LiesL (B i) w (C i) l[i].kids)
    (hU : ∀ i (h : i < l.length), w.ownsRow 0 9 1 (U i) l[i].keys.length (strsV l[i].keys) ∧ ∀ g, (U i).ownBlock = some g → K i g) :
    OwnL w S v l ∧ LiesL S w v l := by
  refine ⟨.mk S v l ys C U B K hrow hg (fun i hi => ?_) hB hK hBB hBK hKK (fun i h => (hC i h).1) (fun i h => ⟨_, (hU i h).1, (hU i h).2⟩), ?_⟩
  · obtain ⟨a, b, c, d, e⟩ := hc i hi
    exact ⟨⟨_, _, _, a, b, c⟩, d, e⟩
  · have hlies : ∀ i (h : i < l.length), Lies S w (.agg #[ys.getD (i * 5 + 0) undef, ys.getD (i * 5 + 1) undef, ys.getD (i * 5 + 2) undef, ys.getD (i * 5 + 3) undef, ys.getD (i * 5 + 4) undef]) l[i] := fun i h => by
      obtain ⟨a, b, c, d, e⟩ := hc i h
      obtain ⟨h1, h2⟩ := hs i h
      obtain ⟨_, h3⟩ := hC i h
      obtain ⟨h4, h5⟩ := hU i h
      simp only [List.getD_eq_getElem?_getD, Nat.add_zero, a, b, c, d, e, Option.getD_some]
      have e9 : l[i] = .mk l[i].kind l[i].num l[i].str l[i].kids l[i].keys := by cases l[i]; rfl
      rw [e9]
      exact Lies.of h1 h2 (h3.mono (hB i)) ((readsB_in h4 h5).mono (hK i))
    rcases id hrow.2 with ⟨rfl, h0⟩ | ⟨g, cap, cur, rfl, _, hgb, hcap, _⟩
    · have hl0 := List.eq_nil_of_length_eq_zero h0
      subst hl0
      exact ⟨none, 0, fun _ _ => undef, rfl, hl, Nat.le_refl _, .inl rfl, fun i h => by simp at h⟩
    · refine ⟨_, _, fun i j => ys.getD (i * 5 + j) undef, rfl, hl, hcap, .inr ⟨g, 0, rfl, (hg g rfl).1, fun i hi j hj => ?_⟩, hlies⟩
      rw [Nat.zero_add, hrow.cellAt _ (by omega)]
      have hlen := hrow.1
      simp [List.getD_eq_getElem?_getD, show i * 5 + j < ys.length by omega]

theorem nil_own (w : World) (S : Nat → Prop) : OwnL w S (.slice none 0 0) [] ∧ LiesL S w (.slice none 0 0) [] :=
  ⟨.mk S _ [] [] (fun _ => undef) (fun _ => undef) (fun _ _ => False) (fun _ _ => False) ⟨rfl, .inl ⟨rfl, rfl⟩⟩ (fun g h => by simp [Value.ownBlock] at h) (fun i h => by simp at h) (fun _ _ h => h.elim) (fun _ _ h => h.elim) (fun _ _ _ _ h => h.elim) (fun _ _ _ h => h.elim) (fun _ _ _ _ h => h.elim) (fun i h => by simp at h) (fun i h => by simp at h),
   ⟨none, 0, fun _ _ => undef, rfl, by simp, Nat.le_refl _, .inl rfl, fun i h => by simp at h⟩⟩

theorem textsV_at (ss : List ByteArray) : ∀ (i : Nat) (h : i < ss.length), (textsV ss)[i * 5]? = some (.int .i64 3) ∧ (textsV ss)[i * 5 + 1]? = some (.int .i64 0) ∧ (textsV ss)[i * 5 + 2]? = some (.string ss[i]) ∧ (textsV ss)[i * 5 + 3]? = some (.slice none 0 0) ∧ (textsV ss)[i * 5 + 4]? = some (.slice none 0 0) := by
  induction ss with
  | nil => intro i h; simp at h
  | cons s ss ih =>
    intro i h
    have e : textsV (s :: ss) = textV s ++ textsV ss := by simp [textsV]
    have hl : (textV s).length = 5 := rfl
    cases i with
    | zero => rw [e]; simp [textV]
    | succ i =>
      have h' := ih i (by simpa using h)
      rw [e, List.getElem?_append_right (by omega), List.getElem?_append_right (by omega), List.getElem?_append_right (by omega), List.getElem?_append_right (by omega), List.getElem?_append_right (by omega), hl]
      rw [show (i + 1) * 5 - 5 = i * 5 by omega, show (i + 1) * 5 + 1 - 5 = i * 5 + 1 by omega, show (i + 1) * 5 + 2 - 5 = i * 5 + 2 by omega, show (i + 1) * 5 + 3 - 5 = i * 5 + 3 by omega, show (i + 1) * 5 + 4 - 5 = i * 5 + 4 by omega]
      simpa using h'

/-- A row of texts as values. -/
theorem texts_own {w : World} {lo : Nat} {c : Value} {ss : List ByteArray} (h : w.ownsRow lo 30 5 c ss.length (textsV ss)) (hn : ss.length ≤ maxLen) (hs : ∀ s ∈ ss, s.size ≤ maxLen) :
    OwnL w (fun b => c.ownBlock = some b) c (ss.map textT) ∧ LiesL (fun b => c.ownBlock = some b) w c (ss.map textT) := by
  refine tree_row (ys := textsV ss) (C := fun _ => .slice none 0 0) (U := fun _ => .slice none 0 0) (B := fun _ _ => False) (K := fun _ _ => False) ?_ (by simpa using hn) (fun g h => ⟨h, fun i => ⟨id, id⟩⟩) (fun i hi => ?_) (fun i hi => ?_) (fun _ _ h => h.elim) (fun _ _ h => h.elim) (fun _ _ _ _ h => h.elim) (fun _ _ _ h => h.elim) (fun _ _ _ _ h => h.elim) (fun i hi => ?_) (fun i hi => ?_)
  · rw [List.length_map]; exact owns_lo (Nat.zero_le _) h
  · have hi' : i < ss.length := by simpa using hi
    obtain ⟨a, b, d, e, f⟩ := textsV_at ss i hi'
    simp only [List.getElem_map, textT, Tree.kind, Tree.num, Tree.str]
    exact ⟨a, b, d, e, f⟩
  · have hi' : i < ss.length := by simpa using hi
    simp only [List.getElem_map, textT, Tree.str, Tree.keys]
    exact ⟨hs _ (List.getElem_mem hi'), by simp [saneS]⟩
  · simp only [List.getElem_map, textT, Tree.kids]
    exact nil_own w _
  · simp only [List.getElem_map, textT, Tree.keys]
    exact ⟨⟨rfl, .inl ⟨rfl, rfl⟩⟩, fun g h => by simp [Value.ownBlock] at h⟩
end Go.Proofs.Ytbolphjigjpmiaa
