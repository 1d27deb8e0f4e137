/-
  Contracts for the walks, several texts in one: each part says what it proves, and under which conditions.
-/
import Derived.Deep.RegionHeld
import Derived.Handy
import Derived.Test.YtkkhnldhipfneaaQ1

/-! A graph by numbers, told as plain lists: names are numbered, what is used is laid over them; no condition. -/
namespace Go.Proofs.Ytkkhnldhipfneaa
open Go.RowKit
set_option linter.unusedSimpArgs false
set_option linter.unusedVariables false

/-- The place of a name, or how many there are. -/
def posN (N : List ByteArray) (s : ByteArray) : Nat := N.findIdx fun d => decide (d = s)
theorem posN_lt {N : List ByteArray} {s : ByteArray} : posN N s < N.length ↔ s ∈ N := by
  unfold posN
  rw [List.findIdx_lt_length]
  exact ⟨fun ⟨x, hx, h⟩ => by have := of_decide_eq_true h; subst this; exact hx, fun h => ⟨s, h, by simp⟩⟩
theorem posN_get {N : List ByteArray} {s : ByteArray} (h : posN N s < N.length) : N[posN N s] = s := by
  have := List.findIdx_getElem (xs := N) (p := fun d => decide (d = s)) (w := h)
  exact of_decide_eq_true this
theorem posN_le (N : List ByteArray) (s : ByteArray) : posN N s ≤ N.length := List.findIdx_le_length
theorem posN_not {N : List ByteArray} {s : ByteArray} (h : s ∉ N) : posN N s = N.length := by
  have h1 := posN_le N s
  have h2 : ¬ posN N s < N.length := fun h3 => h (posN_lt.1 h3)
  omega
theorem nodup_inj {N : List ByteArray} (hn : N.Nodup) {i j : Nat} (hi : i < N.length) (hj : j < N.length) (h : N[i] = N[j]) : i = j := by
  rw [List.nodup_iff_pairwise_ne, List.pairwise_iff_getElem] at hn
  rcases Nat.lt_trichotomy i j with h1 | h1 | h1
  · exact absurd h (hn i j hi hj h1)
  · exact h1
  · exact absurd h.symm (hn j i hj hi h1)
theorem posN_at {N : List ByteArray} (hn : N.Nodup) {i : Nat} (hi : i < N.length) : posN N N[i] = i := by
  have h : posN N N[i] < N.length := posN_lt.2 (List.getElem_mem hi)
  exact nodup_inj hn h hi (posN_get h)
theorem posN_app {N M : List ByteArray} {s : ByteArray} (h : s ∈ N) : posN (N ++ M) s = posN N s := by
  have h1 := posN_lt.2 h
  unfold posN at *
  rw [List.findIdx_append, if_pos h1]
/-- A graph by numbers: names, of each what it uses, and by what it is used. -/
structure GD where
  N : List ByteArray
  U : List (List Nat)
  B : List (List Nat)
open Classical in
/-- A name is numbered. -/
noncomputable def GD.add (g : GD) (s : ByteArray) : GD := if s ∈ g.N then g else ⟨g.N ++ [s], g.U ++ [[]], g.B ++ [[]]⟩
/-- What stands at a place. -/
def rowAt (L : List (List Nat)) (i : Nat) : List Nat := (L[i]?).getD []
/-- One more at a place. -/
def putAt (L : List (List Nat)) (i x : Nat) : List (List Nat) := L.set i (rowAt L i ++ [x])
theorem putAt_len (L : List (List Nat)) (i x : Nat) : (putAt L i x).length = L.length := by unfold putAt; simp
theorem rowAt_put (L : List (List Nat)) (i x j : Nat) (hi : i < L.length) : rowAt (putAt L i x) j = if i = j then rowAt L j ++ [x] else rowAt L j := by
  unfold rowAt putAt
  by_cases h : i = j
  · subst h; simp [hi, rowAt]
  · simp [List.getElem?_set, h]
theorem rowAt_app (L : List (List Nat)) (j : Nat) : rowAt (L ++ [[]]) j = rowAt L j := by
  unfold rowAt
  rcases Nat.lt_trichotomy j L.length with h | h | h
  · rw [List.getElem?_append_left h]
  · subst h; simp
  · rw [List.getElem?_eq_none (by simp; omega), List.getElem?_eq_none (by omega)]
/-- One uses another. -/
def GD.edge (g : GD) (a b : Nat) : GD := ⟨g.N, putAt g.U a b, putAt g.B b a⟩
/-- One more that is used. -/
noncomputable def GD.use (a : Nat) (g : GD) (o : ByteArray) : GD := (g.add o).edge a (posN (g.add o).N o)
/-- All that a pack uses. -/
noncomputable def GD.uses (g : GD) (s : ByteArray) (os : List ByteArray) : GD := os.foldl (GD.use (posN (g.add s).N s)) (g.add s)
/-- Names and lists are as many, no name is there twice, and numbers are numbers of names; what uses is told as often as it is used. -/
structure GD.ok (g : GD) : Prop where
  nd : g.N.Nodup
  u : g.U.length = g.N.length
  b : g.B.length = g.N.length
  lt : ∀ i, ∀ t ∈ rowAt g.U i, t < g.N.length
  cnt : ∀ i t, (rowAt g.U i).count t = (rowAt g.B t).count i
theorem rowAt_out {L : List (List Nat)} {i : Nat} (h : L.length ≤ i) : rowAt L i = [] := by unfold rowAt; rw [List.getElem?_eq_none h]; rfl
theorem GD.ok.blt {g : GD} (h : g.ok) {t i : Nat} (hi : i ∈ rowAt g.B t) : i < g.N.length := by
  have h1 := List.count_pos_iff.2 hi
  rw [← h.cnt] at h1
  refine Classical.byContradiction fun hn => ?_
  rw [rowAt_out (by rw [h.u]; omega)] at h1
  simp at h1
theorem GD.ok.iff {g : GD} (h : g.ok) {t i : Nat} : i ∈ rowAt g.B t ↔ t ∈ rowAt g.U i := by
  rw [← List.count_pos_iff, ← List.count_pos_iff, h.cnt]
theorem GD.add_N (g : GD) (s : ByteArray) : ∃ M, (g.add s).N = g.N ++ M := by
  unfold GD.add
  split
  · exact ⟨[], by simp⟩
  · exact ⟨[s], rfl⟩
theorem GD.add_mem (g : GD) (s : ByteArray) : s ∈ (g.add s).N := by
  unfold GD.add
  split
  · assumption
  · simp
theorem GD.add_row (g : GD) (s : ByteArray) (i : Nat) : rowAt (g.add s).U i = rowAt g.U i ∧ rowAt (g.add s).B i = rowAt g.B i := by
  unfold GD.add
  split
  · exact ⟨rfl, rfl⟩
  · exact ⟨rowAt_app _ _, rowAt_app _ _⟩
theorem GD.ok.add {g : GD} (h : g.ok) (s : ByteArray) : (g.add s).ok := by
  have hr := GD.add_row g s
  obtain ⟨M, hM⟩ := GD.add_N g s
  refine ⟨?_, ?_, ?_, fun i t ht => ?_, fun i t => ?_⟩
  · unfold GD.add
    split
    · exact h.nd
    · rename_i hs
      rw [List.nodup_append]
      exact ⟨h.nd, by simp, fun a ha b hb e => by simp at hb; subst hb; subst e; exact hs ha⟩
  · unfold GD.add; split
    · exact h.u
    · simp [h.u]
  · unfold GD.add; split
    · exact h.b
    · simp [h.b]
  · rw [(hr i).1] at ht
    have := h.lt i t ht
    rw [hM, List.length_append]; omega
  · rw [(hr i).1, (hr t).2]; exact h.cnt i t
theorem GD.ok.edge {g : GD} (h : g.ok) {a b : Nat} (ha : a < g.N.length) (hb : b < g.N.length) : (g.edge a b).ok := by
  refine ⟨h.nd, by unfold GD.edge; rw [putAt_len]; exact h.u, by unfold GD.edge; rw [putAt_len]; exact h.b, fun i t ht => ?_, fun i t => ?_⟩
  · unfold GD.edge at ht
    rw [rowAt_put _ _ _ _ (by rw [h.u]; exact ha)] at ht
    by_cases e : a = i
    · rw [if_pos e] at ht
      rcases List.mem_append.1 ht with ht | ht
      · exact h.lt i t ht
      · simp at ht; subst ht; exact hb
    · rw [if_neg e] at ht; exact h.lt i t ht
  · unfold GD.edge
    rw [rowAt_put _ _ _ _ (by rw [h.u]; exact ha), rowAt_put _ _ _ _ (by rw [h.b]; exact hb)]
    have hc := h.cnt i t
    by_cases e1 : a = i <;> by_cases e2 : b = t
    · subst e1; subst e2; simp [hc]
    · rw [if_pos e1, if_neg e2, List.count_append, hc]
      have : List.count t [b] = 0 := by rw [List.count_eq_zero]; simp; exact fun e => e2 e.symm
      omega
    · rw [if_neg e1, if_pos e2, List.count_append, hc]
      have : List.count i [a] = 0 := by rw [List.count_eq_zero]; simp; exact fun e => e1 e.symm
      omega
    · rw [if_neg e1, if_neg e2]; exact hc
theorem GD.ok.use {g : GD} (h : g.ok) {a : Nat} (ha : a < g.N.length) (o : ByteArray) : (GD.use a g o).ok ∧ a < (GD.use a g o).N.length := by
  obtain ⟨M, hM⟩ := GD.add_N g o
  have h1 : a < (g.add o).N.length := by rw [hM, List.length_append]; omega
  exact ⟨(h.add o).edge h1 (posN_lt.2 (GD.add_mem g o)), h1⟩
/-- The names by which numbers go. -/
def nmOf (N : List ByteArray) (i : Nat) : ByteArray := (N[i]?).getD ⟨#[]⟩
theorem nmOf_app {N M : List ByteArray} {i : Nat} (h : i < N.length) : nmOf (N ++ M) i = nmOf N i := by unfold nmOf; rw [List.getElem?_append_left h]
theorem nmOf_lt {N : List ByteArray} {i : Nat} (h : i < N.length) : nmOf N i = N[i] := by unfold nmOf; simp [h]
theorem nmOf_pos {N : List ByteArray} {s : ByteArray} (h : s ∈ N) : nmOf N (posN N s) = s := by
  have := posN_lt.2 h
  rw [nmOf_lt this, posN_get this]
theorem map_nm_app {N M : List ByteArray} {l : List Nat} (h : ∀ t ∈ l, t < N.length) : l.map (nmOf (N ++ M)) = l.map (nmOf N) := List.map_congr_left fun t ht => nmOf_app (h t ht)
/-- A fold over what a pack uses: names are added behind, and its own list grows by what it uses. -/
theorem GD.fold_use (a : Nat) (os : List ByteArray) : ∀ (g : GD), g.ok → a < g.N.length → (os.foldl (GD.use a) g).ok ∧ (∃ M, (os.foldl (GD.use a) g).N = g.N ++ M) ∧ (∀ i, (rowAt (os.foldl (GD.use a) g).U i).map (nmOf (os.foldl (GD.use a) g).N) = (rowAt g.U i).map (nmOf g.N) ++ (if a = i then os else [])) ∧ (∀ x ∈ (os.foldl (GD.use a) g).N, x ∈ g.N ∨ x ∈ os) := by
  induction os with
  | nil => intro g h ha; exact ⟨h, ⟨[], by simp⟩, fun i => by simp, fun x hx => .inl hx⟩
  | cons o os ih =>
    intro g h ha
    obtain ⟨h1, h2⟩ := h.use ha o
    obtain ⟨i1, ⟨M, i2⟩, i3, i4⟩ := ih (GD.use a g o) h1 h2
    obtain ⟨M1, hM1⟩ := GD.add_N g o
    have hN : (GD.use a g o).N = g.N ++ M1 := hM1
    have ha1 : a < (g.add o).U.length := by rw [(h.add o).u, hM1, List.length_append]; omega
    refine ⟨i1, ⟨M1 ++ M, by rw [List.foldl_cons, i2, hN, List.append_assoc]⟩, fun i => ?_, fun x hx => ?_⟩
    · rw [List.foldl_cons, i3 i]
      have e1 : rowAt (GD.use a g o).U i = if a = i then rowAt g.U i ++ [posN (g.add o).N o] else rowAt g.U i := by
        show rowAt (putAt (g.add o).U a _) i = _
        rw [rowAt_put _ _ _ _ ha1, (GD.add_row g o i).1]
      have e2 : (rowAt g.U i).map (nmOf (g.N ++ M1)) = (rowAt g.U i).map (nmOf g.N) := map_nm_app (h.lt i)
      rw [e1, hN]
      by_cases e : a = i
      · rw [if_pos e, if_pos e, if_pos e, List.map_append, e2, List.append_assoc]
        have e3 : nmOf (g.N ++ M1) (posN (g.add o).N o) = o := by rw [← hM1]; exact nmOf_pos (GD.add_mem g o)
        simp [e3]
      · rw [if_neg e, if_neg e, if_neg e, e2]
    · rcases i4 x hx with hx | hx
      · have hx2 : x ∈ (g.add o).N := hx
        unfold GD.add at hx2
        split at hx2
        · exact .inl hx2
        · rcases List.mem_append.1 hx2 with h3 | h3
          · exact .inl h3
          · simp at h3; subst h3; exact .inr (by simp)
      · exact .inr (by simp [hx])
end Go.Proofs.Ytkkhnldhipfneaa

/-! The graph of packs, told as plain lists: what its names, and what its numbers lead to, are; no condition. -/
namespace Go.Proofs.Ytkkhnldhipfneaa
open Go.RowKit
set_option linter.unusedSimpArgs false
set_option linter.unusedVariables false

/-- Packs as names and what they use. -/
abbrev PL := List (ByteArray × List ByteArray)
/-- All that the packs of one name use. -/
def flatU (P : PL) (s : ByteArray) : List ByteArray := (P.filter fun d => decide (d.1 = s)).flatMap (·.2)
theorem flatU_snoc (P : PL) (d : ByteArray × List ByteArray) (s : ByteArray) : flatU (P ++ [d]) s = flatU P s ++ (if d.1 = s then d.2 else []) := by
  unfold flatU
  rw [List.filter_append, List.flatMap_append]
  by_cases e : d.1 = s
  · rw [if_pos e, List.filter_cons_of_pos (by simpa using e)]; simp
  · rw [if_neg e, List.filter_cons_of_neg (by simpa using e)]; simp
theorem flatU_none {P : PL} {s : ByteArray} (h : s ∉ P.map (·.1)) : flatU P s = [] := by
  unfold flatU
  rw [List.filter_eq_nil_iff.2]
  · rfl
  · intro d hd hs
    exact h (List.mem_map.2 ⟨d, hd, of_decide_eq_true hs⟩)
theorem mem_flatU {P : PL} {s x : ByteArray} : x ∈ flatU P s ↔ ∃ d ∈ P, d.1 = s ∧ x ∈ d.2 := by
  unfold flatU
  rw [List.mem_flatMap]
  constructor
  · rintro ⟨d, hd, hx⟩
    obtain ⟨h1, h2⟩ := List.mem_filter.1 hd
    exact ⟨d, h1, of_decide_eq_true h2, hx⟩
  · rintro ⟨d, h1, h2, h3⟩
    exact ⟨d, List.mem_filter.2 ⟨h1, by simpa using h2⟩, h3⟩
/-- Names are numbered. -/
noncomputable def gNames (ns : List ByteArray) : GD := ns.foldl GD.add ⟨[], [], []⟩
theorem gNames_snoc (ns : List ByteArray) (s : ByteArray) : gNames (ns ++ [s]) = (gNames ns).add s := by unfold gNames; rw [List.foldl_append]; rfl
theorem nil_ok : (⟨[], [], []⟩ : GD).ok := ⟨List.nodup_nil, rfl, rfl, fun i t ht => by simp [rowAt] at ht, fun i t => by simp [rowAt]⟩
theorem rev_ind {α : Type} {p : List α → Prop} (h0 : p []) (h1 : ∀ l a, p l → p (l ++ [a])) (l : List α) : p l := by
  rw [← List.reverse_reverse l]
  induction l.reverse with
  | nil => exact h0
  | cons a l ih => rw [List.reverse_cons]; exact h1 _ _ ih
theorem gNames_ok (ns : List ByteArray) : (gNames ns).ok ∧ (∀ x, x ∈ (gNames ns).N ↔ x ∈ ns) ∧ ((gNames ns).N = ns ∨ (gNames ns).N.length < ns.length) ∧ ∀ i, rowAt (gNames ns).U i = [] := by
  refine rev_ind (p := fun ns => (gNames ns).ok ∧ (∀ x, x ∈ (gNames ns).N ↔ x ∈ ns) ∧ ((gNames ns).N = ns ∨ (gNames ns).N.length < ns.length) ∧ ∀ i, rowAt (gNames ns).U i = []) ⟨nil_ok, fun x => Iff.rfl, .inl rfl, fun i => by simp [gNames, rowAt]⟩ (fun l a ⟨h1, h2, h3, h4⟩ => ?_) ns
  rw [gNames_snoc]
  refine ⟨h1.add a, fun x => ?_, ?_, fun i => by rw [(GD.add_row _ _ _).1]; exact h4 i⟩
  · unfold GD.add
    split
    · rename_i ha
      rw [h2 x, List.mem_append]
      have ha2 := (h2 a).1 ha
      exact ⟨.inl, fun h => h.elim id fun e => by simp at e; subst e; exact ha2⟩
    · rw [List.mem_append, List.mem_append, h2 x]
  · unfold GD.add
    split
    · rename_i ha
      right
      rcases h3 with h3 | h3
      · rw [h3, List.length_append]; simp
      · rw [List.length_append]; omega
    · rcases h3 with h3 | h3
      · left; show (gNames l).N ++ [a] = _; rw [h3]
      · right; show ((gNames l).N ++ [a]).length < _; rw [List.length_append, List.length_append]; omega
/-- What packs use is laid over their names. -/
noncomputable def gUses (g : GD) (P : PL) : GD := P.foldl (fun g d => g.uses d.1 d.2) g
theorem gUses_snoc (g : GD) (P : PL) (d : ByteArray × List ByteArray) : gUses g (P ++ [d]) = (gUses g P).uses d.1 d.2 := by unfold gUses; rw [List.foldl_append]; rfl
theorem GD.add_id {g : GD} {s : ByteArray} (h : s ∈ g.N) : g.add s = g := by unfold GD.add; rw [if_pos h]
theorem gUses_ok (g : GD) (hg : g.ok) (h0 : ∀ i, rowAt g.U i = []) (P : PL) (hP : ∀ d ∈ P, d.1 ∈ g.N) :
    (gUses g P).ok ∧ (∃ M, (gUses g P).N = g.N ++ M) ∧ (∀ i, i < (gUses g P).N.length → (rowAt (gUses g P).U i).map (nmOf (gUses g P).N) = flatU P (nmOf (gUses g P).N i)) ∧ (∀ i, ∀ t ∈ rowAt (gUses g P).U i, i < g.N.length) ∧ (∀ x ∈ (gUses g P).N, x ∈ g.N ∨ ∃ d ∈ P, x ∈ d.2) := by
  revert hP
  refine rev_ind (p := fun P => (∀ d ∈ P, d.1 ∈ g.N) → (gUses g P).ok ∧ (∃ M, (gUses g P).N = g.N ++ M) ∧ (∀ i, i < (gUses g P).N.length → (rowAt (gUses g P).U i).map (nmOf (gUses g P).N) = flatU P (nmOf (gUses g P).N i)) ∧ (∀ i, ∀ t ∈ rowAt (gUses g P).U i, i < g.N.length) ∧ (∀ x ∈ (gUses g P).N, x ∈ g.N ∨ ∃ d ∈ P, x ∈ d.2)) (fun _ => ⟨hg, ⟨[], by simp [gUses]⟩, fun i _ => by simp [gUses, h0 i, flatU], fun i t ht => by simp [gUses, h0 i] at ht, fun x hx => .inl hx⟩) (fun P d ih hP => ?_) P
  obtain ⟨i1, ⟨M, i2⟩, i3, i4, i5⟩ := ih (fun d hd => hP d (by simp [hd]))
  have hd := hP d (by simp)
  rw [gUses_snoc]
  obtain ⟨G, hG⟩ : ∃ G, G = gUses g P := ⟨_, rfl⟩
  rw [← hG] at i1 i2 i3 i4 i5 ⊢
  have hd1 : d.1 ∈ G.N := by rw [i2]; exact List.mem_append.2 (.inl hd)
  unfold GD.uses
  rw [GD.add_id hd1]
  obtain ⟨a, ha⟩ : ∃ a, a = posN G.N d.1 := ⟨_, rfl⟩
  rw [← ha]
  have halt : a < G.N.length := by rw [ha]; exact posN_lt.2 hd1
  have haown : a < g.N.length := by rw [ha, i2, posN_app hd]; exact posN_lt.2 hd
  obtain ⟨j1, ⟨M2, j2⟩, j3, j4⟩ := GD.fold_use a d.2 G i1 halt
  refine ⟨j1, ⟨M ++ M2, by rw [j2, i2, List.append_assoc]⟩, fun i hi => ?_, fun i t ht => ?_, fun x hx => ?_⟩
  · rw [j3 i, flatU_snoc]
    by_cases hiG : i < G.N.length
    · rw [i3 i hiG]
      have e : nmOf (List.foldl (GD.use a) G d.2).N i = nmOf G.N i := by rw [j2]; exact nmOf_app hiG
      rw [e]
      have e2 : (d.1 = nmOf G.N i) ↔ a = i := by
        rw [nmOf_lt hiG]
        constructor
        · intro h; rw [ha, h]; exact posN_at i1.nd hiG
        · intro h; subst h; subst ha; exact (posN_get halt).symm
      by_cases ea : a = i
      · rw [if_pos ea, if_pos (e2.2 ea)]
      · rw [if_neg ea, if_neg (fun h => ea (e2.1 h))]
    · have e1 : rowAt G.U i = [] := rowAt_out (by rw [i1.u]; omega)
      have hnn : ∀ x ∈ g.N, nmOf (List.foldl (GD.use a) G d.2).N i ≠ x := by
        intro x hx e
        have hx2 : x ∈ G.N := by rw [i2]; exact List.mem_append.2 (.inl hx)
        have h1 := posN_lt.2 hx2
        have h2 : nmOf (List.foldl (GD.use a) G d.2).N (posN G.N x) = x := by rw [j2, nmOf_app h1]; exact nmOf_pos hx2
        rw [nmOf_lt hi] at e
        have h3 : posN G.N x < (List.foldl (GD.use a) G d.2).N.length := by rw [j2, List.length_append]; omega
        rw [nmOf_lt h3] at h2
        have := nodup_inj j1.nd hi h3 (e.trans h2.symm)
        omega
      rw [e1, if_neg (by omega), if_neg (fun h => hnn d.1 hd h.symm), flatU_none]
      · rfl
      · intro hm
        obtain ⟨d', hd', e⟩ := List.mem_map.1 hm
        exact hnn d'.1 (hP d' (by simp [hd'])) e.symm
  · by_cases ea : a = i
    · omega
    · have h1 := j3 i
      rw [if_neg ea, List.append_nil] at h1
      have h2 : (rowAt (List.foldl (GD.use a) G d.2).U i).length = (rowAt G.U i).length := by have := congrArg List.length h1; simpa using this
      have h3 : rowAt G.U i ≠ [] := fun e => by rw [e] at h2; have := List.length_pos_of_mem ht; simp at h2; rw [h2] at this; simp at this
      obtain ⟨t', ht'⟩ := List.exists_mem_of_ne_nil _ h3
      exact i4 i t' ht'
  · rcases j4 x hx with h | h
    · rcases i5 x h with h | ⟨d', h1, h2⟩
      · exact .inl h
      · exact .inr ⟨d', by simp [h1], h2⟩
    · exact .inr ⟨d, by simp, h⟩
/-- The graph of packs. -/
noncomputable def gOf (P : PL) : GD := gUses (gNames (P.map (·.1))) P
/-- How many names are those of packs. -/
noncomputable def ownOf (P : PL) : Nat := (gNames (P.map (·.1))).N.length
theorem gOf_ok (P : PL) : (gOf P).ok ∧ (∃ M, (gOf P).N = (gNames (P.map (·.1))).N ++ M) ∧ (∀ i, i < (gOf P).N.length → (rowAt (gOf P).U i).map (nmOf (gOf P).N) = flatU P (nmOf (gOf P).N i)) ∧ (∀ i, ∀ t ∈ rowAt (gOf P).U i, i < ownOf P) ∧ (∀ x ∈ (gOf P).N, x ∈ P.map (·.1) ∨ ∃ d ∈ P, x ∈ d.2) := by
  obtain ⟨h1, h2, h3, h4⟩ := gNames_ok (P.map (·.1))
  obtain ⟨k1, k2, k3, k4, k5⟩ := gUses_ok _ h1 h4 P (fun d hd => (h2 _).2 (List.mem_map.2 ⟨d, hd, rfl⟩))
  exact ⟨k1, k2, k3, k4, fun x hx => (k5 x hx).imp_left fun h => (h2 x).1 h⟩
/-- Who uses whom, by numbers and by names. -/
theorem gOf_edge (P : PL) {i t : Nat} (hi : i < (gOf P).N.length) (ht : t < (gOf P).N.length) : t ∈ rowAt (gOf P).U i ↔ ∃ d ∈ P, d.1 = (gOf P).N[i] ∧ (gOf P).N[t] ∈ d.2 := by
  obtain ⟨k1, k2, k3, k4, k5⟩ := gOf_ok P
  have h := k3 i hi
  rw [nmOf_lt hi] at h
  rw [← mem_flatU, ← h, List.mem_map]
  constructor
  · intro hm; exact ⟨t, hm, nmOf_lt ht⟩
  · rintro ⟨t', hm, e⟩
    have ht' := k1.lt i t' hm
    rw [nmOf_lt ht'] at e
    have := nodup_inj k1.nd ht' ht e
    subst this
    exact hm
end Go.Proofs.Ytkkhnldhipfneaa

/-! The program's graph of packs in memory: names, numbers by names, lists of numbers that each lie in a block of their own; what an append, a store and a new block leave of it: laws for the walks; conditions as each says. -/
namespace Go.Proofs.Ytkkhnldhipfneaa
open Go.RowKit
set_option linter.unusedSimpArgs false
set_option linter.unusedVariables false

/-- An append, told with where the new row lies: where the old one was, or in a new block. -/
theorem append_loc {P : Program} (w : World) (base : Nat) (t ty e : TypeId) (i : TypeInfo) (z : Value) (size bytes : Nat) (ht : P.underlying t = some (.slice e)) (hi : P.info? e = some i) (hz : i.zero = some z)
    (hsize : i.size = size) (hby : i.bytes = bytes) (hzs : z.cells.size = size) (hsz : 0 < size) (v : Value) (n : Nat) (xs : List Value) (hown : w.ownsRow base e size v n xs)
    (a : Addr) (m c : Nat) (news : List Value) (hl : news.length = m * size) (hnews : ∀ j u, news[j]? = some u → w.cell? (a.add j) = some u) (h1 : ∀ u ∈ news, u.oneCell' = true)
    (h63 : n + m ≤ maxLen) (hbytes : (n + m) * bytes ≤ 140737488355328) (v' : Value) (w' : World)
    (hr : (Builtin.append_ #[t, t] ty #[v, .slice (some a) m c]).run P w = .ok v' w') : ∀ g, v'.ownBlock = some g → v.ownBlock = some g ∨ w.heap.size ≤ g := by
  intro g hg
  rcases id hown.2 with ⟨rfl, rfl⟩ | ⟨g', cap', cur, rfl, _⟩
  · have hx : xs = [] := List.eq_nil_of_length_eq_zero (by rw [hown.1]; omega)
    subst hx
    obtain ⟨v2, w2, hr2, ho2, _, _⟩ := run_append_own (P := P) w w.heap.size t ty e i z size bytes ht hi hz hsize hby hzs hsz _ 0 [] (World.ownsRow_nil w _ e size) a m c news hl hnews h1 h63 hbytes (Nat.le_refl _)
    rw [hr] at hr2
    obtain ⟨rfl, rfl⟩ := (Result.ok.injEq ..).mp hr2
    exact .inr (ho2.lt g hg).1
  · rcases append_blk w base t ty e i z size bytes ht hi hz hsize hby hzs hsz g' n cap' xs hown a m c news hl hnews h1 h63 hbytes v' w' hr with h | h
    · rw [h] at hg; exact .inl (by rw [← hg]; rfl)
    · rw [h] at hg; exact .inr (by have := Option.some.inj hg; omega)
/-- The same, at an operation that comes up. -/
theorem wp_append_loc {P : Program} {w : World} {o : Oper} {a : Act} {K : Act → World → Prop} {Q : Exit → Act → World → Prop} (s x : Operand) (t : TypeId)
    (ho : o.op = .call { callee := .builtin .append, args := #[s, x], argTypes := #[t, t] })
    (base : Nat) (e : TypeId) (i : TypeInfo) (z : Value) (size bytes : Nat) (ht : P.underlying t = some (.slice e)) (hi : P.info? e = some i) (hz : i.zero = some z)
    (hsize : i.size = size) (hby : i.bytes = bytes) (hzs : z.cells.size = size) (hsz : 0 < size)
    (v : Value) (n : Nat) (xs : List Value) (hs : a.eval s = v) (hown : w.ownsRow base e size v n xs)
    (ad : Addr) (m c : Nat) (news : List Value) (hx : a.eval x = .slice (some ad) m c) (hl : news.length = m * size) (hnews : ∀ j u, news[j]? = some u → w.cell? (ad.add j) = some u) (h1 : ∀ u ∈ news, u.oneCell' = true)
    (h63 : n + m ≤ maxLen) (hbytes : (n + m) * bytes ≤ 140737488355328) (hbase : base ≤ w.heap.size)
    (h : ∀ v' w', w'.ownsRow base e size v' (n + m) (xs ++ news) → w.grownBy w' v.ownBlock → (∀ g, v'.ownBlock = some g → v.ownBlock = some g ∨ w.heap.size ≤ g) → K (a.put o.dst v') w') : o.wp P a w K Q := by
  obtain ⟨v', w', hr, h2, h3, _⟩ := run_append_own (P := P) w base t o.type e i z size bytes ht hi hz hsize hby hzs hsz v n xs hown ad m c news hl hnews h1 h63 hbytes hbase
  have h4 := append_loc w base t o.type e i z size bytes ht hi hz hsize hby hzs hsz v n xs hown ad m c news hl hnews h1 h63 hbytes v' w' hr
  unfold Oper.wp execOp
  simp only [ho, resolve, invoke, builtin, Sem.run_bind, Sem.run_pure, Result.andThen_ok, List.map_toArray, List.map_cons, List.map_nil, hs, hx, hr]
  exact h v' w' h2 h3 h4

/-- Numbers as values. -/
def intsV (l : List Nat) : List Value := l.map fun (n : Nat) => .int .i64 (n : Int)
@[simp] theorem length_intsV (l : List Nat) : (intsV l).length = l.length := by simp [intsV]
theorem intsV_app (l : List Nat) (n : Nat) : intsV (l ++ [n]) = intsV l ++ [.int .i64 (n : Int)] := by simp [intsV]
theorem intsV_at {l : List Nat} {j : Nat} (h : j < l.length) : (intsV l)[j]? = some (.int .i64 (l[j] : Int)) := by simp [intsV, h]
theorem infoI : (Try.prog.info? 3).map (fun i => (i.zero, i.size, i.bytes)) = some (some (.int .i64 0), 1, 8) := by kernel_rfl
theorem infoIs : (Try.prog.info? 69).map (fun i => (i.zero, i.size, i.bytes)) = some (some (.slice none 0 0), 1, 24) := by kernel_rfl
theorem rows_apart {w : World} {lo lo' sz sz' n n' : Nat} {e e' : TypeId} {v v' : Value} {xs xs' : List Value} (h : w.ownsRow lo e sz v n xs) (h' : w.ownsRow lo' e' sz' v' n' xs') (he : e ≠ e') {g : Nat} (hg : v.ownBlock = some g) : v'.ownBlock ≠ some g := fun hg' => by
  rcases h.2 with ⟨rfl, _⟩ | ⟨g1, _, _, rfl, _, hh, _⟩
  · cases hg
  rcases h'.2 with ⟨rfl, _⟩ | ⟨g2, _, _, rfl, _, hh', _⟩
  · cases hg'
  obtain rfl : g1 = g := Option.some.inj hg
  obtain rfl : g2 = g1 := Option.some.inj hg'
  rw [hh] at hh'
  simp at hh'
  exact he hh'.2
theorem row_block {w : World} {lo sz n : Nat} {e : TypeId} {v : Value} {xs : List Value} (h : w.ownsRow lo e sz v n xs) {g : Nat} (hg : v.ownBlock = some g) : ∃ cur, w.heap[g]? = some (.cells cur e (0, 0)) := by
  rcases h.2 with ⟨rfl, _⟩ | ⟨g1, _, cur, rfl, _, hh, _⟩
  · cases hg
  obtain rfl : g1 = g := Option.some.inj hg
  exact ⟨cur, hh⟩
/-- What numbers a map holds. -/
noncomputable def mOf (N : List ByteArray) (s : ByteArray) : Option Value := open Classical in if s ∈ N then some (.int .i64 (posN N s : Int)) else none
/-- Blocks that are lists' own: none of two. -/
structure ApartL (us bs : List Value) : Prop where
  uu : ∀ (i j g : Nat) (u v : Value), us[i]? = some u → us[j]? = some v → u.ownBlock = some g → v.ownBlock = some g → i = j
  bb : ∀ (i j g : Nat) (u v : Value), bs[i]? = some u → bs[j]? = some v → u.ownBlock = some g → v.ownBlock = some g → i = j
  ub : ∀ (i j g : Nat) (u v : Value), us[i]? = some u → bs[j]? = some v → u.ownBlock = some g → v.ownBlock ≠ some g
/-- The graph in memory: its map, its names, its lists of lists; 'xa', 'xb': places that are left out. -/
structure GrC (lo : Nat) (w : World) (mb : Nat) (vn vu vb : Value) (us bs : List Value) (M N : List ByteArray) (U B : List (List Nat)) (xa xb : Nat → Prop) : Prop where
  map : ∃ s, MapI w mb M.length s (mOf M)
  mlo : lo ≤ mb
  names : w.ownsRow lo 9 1 vn N.length (strsV N)
  ru : w.ownsRow lo 69 1 vu U.length us
  rb : w.ownsRow lo 69 1 vb B.length bs
  eu : ∀ i u, ¬ xa i → us[i]? = some u → w.ownsRow lo 3 1 u (rowAt U i).length (intsV (rowAt U i))
  eb : ∀ i u, ¬ xb i → bs[i]? = some u → w.ownsRow lo 3 1 u (rowAt B i).length (intsV (rowAt B i))
  vv : ∀ g, vu.ownBlock = some g → vb.ownBlock ≠ some g
  ap : ApartL us bs
  ltu : ∀ (i g : Nat) (u : Value), us[i]? = some u → u.ownBlock = some g → g < w.heap.size
  ltb : ∀ (i g : Nat) (u : Value), bs[i]? = some u → u.ownBlock = some g → g < w.heap.size
theorem block_ne {w : World} {g : Nat} {cur : Array Value} {t : TypeId} {fz : Nat × Nat} {es : _} {c : _} (h : w.heap[g]? = some (.cells cur t fz)) (h' : w.heap[g]? = some (.map es c)) : False := by rw [h] at h'; cases h'
section
variable {lo : Nat} {w w' : World} {mb : Nat} {vn vu vb : Value} {us bs : List Value} {M N : List ByteArray} {U B : List (List Nat)} {xa xb : Nat → Prop}
/-- What changes one block that is none of the graph's leaves it as it is. -/
theorem GrC.kept {r : Option Nat} (h : GrC lo w mb vn vu vb us bs M N U B xa xb) (hg : w.grownBy w' r) (h1 : r ≠ some mb) (h2 : vn.ownBlock = none ∨ vn.ownBlock ≠ r) (h3 : vu.ownBlock = none ∨ vu.ownBlock ≠ r) (h4 : vb.ownBlock = none ∨ vb.ownBlock ≠ r)
    (h5 : ∀ (i : Nat) (u : Value), ¬ xa i → us[i]? = some u → u.ownBlock = none ∨ u.ownBlock ≠ r) (h6 : ∀ (i : Nat) (u : Value), ¬ xb i → bs[i]? = some u → u.ownBlock = none ∨ u.ownBlock ≠ r) : GrC lo w' mb vn vu vb us bs M N U B xa xb :=
  ⟨h.map.imp fun s hs => hs.kept hg h1, h.mlo, h.names.kept hg h2, h.ru.kept hg h3, h.rb.kept hg h4, fun i u hx hi => (h.eu i u hx hi).kept hg (h5 i u hx hi), fun i u hx hi => (h.eb i u hx hi).kept hg (h6 i u hx hi), h.vv, h.ap, fun i g u hu hb => Nat.lt_of_lt_of_le (h.ltu i g u hu hb) hg.size, fun i g u hu hb => Nat.lt_of_lt_of_le (h.ltb i g u hu hb) hg.size⟩
/-- .. a block of another type than any of the graph's. -/
theorem GrC.other {q : Nat} {cs : Array Value} {t : TypeId} {fz : Nat × Nat} (h : GrC lo w mb vn vu vb us bs M N U B xa xb) (hg : w.grownBy w' (some q)) (hq : w.heap[q]? = some (.cells cs t fz)) (ht : t ≠ 9 ∧ t ≠ 69 ∧ t ≠ 3) : GrC lo w' mb vn vu vb us bs M N U B xa xb := by
  have hr : ∀ {l sz n : Nat} {e : TypeId} {v : Value} {xs : List Value}, w.ownsRow l e sz v n xs → t ≠ e → v.ownBlock = none ∨ v.ownBlock ≠ some q := fun h he => .inr fun e => by
    obtain ⟨cur, hc⟩ := row_block h e
    rw [hq] at hc
    simp at hc
    exact he hc.2.1
  refine h.kept hg (fun e => ?_) (hr h.names ht.1) (hr h.ru ht.2.1) (hr h.rb ht.2.1) (fun i u hx hi => hr (h.eu i u hx hi) ht.2.2) (fun i u hx hi => hr (h.eb i u hx hi) ht.2.2)
  obtain ⟨s, hm⟩ := h.map
  obtain ⟨es, c, hh⟩ := hm.heap
  obtain rfl : q = mb := Option.some.inj e
  exact block_ne hq hh
/-- .. a new block. -/
theorem GrC.new {r : Option Nat} (h : GrC lo w mb vn vu vb us bs M N U B xa xb) (hg : w.grownBy w' r) (hq : ∀ q, r = some q → w.heap.size ≤ q) : GrC lo w' mb vn vu vb us bs M N U B xa xb := by
  have hr : ∀ {l sz n : Nat} {e : TypeId} {v : Value} {xs : List Value}, w.ownsRow l e sz v n xs → v.ownBlock = none ∨ v.ownBlock ≠ r := fun {l sz n e v xs} h => by
    cases hv : v.ownBlock with
    | none => exact .inl rfl
    | some g => exact .inr fun e => by have := (h.lt g hv).2; have := hq g e.symm; omega
  refine h.kept hg (fun e => ?_) (hr h.names) (hr h.ru) (hr h.rb) (fun i u hx hi => hr (h.eu i u hx hi)) (fun i u hx hi => hr (h.eb i u hx hi))
  obtain ⟨s, hm⟩ := h.map
  have := hm.lt
  have := hq _ e
  omega
/-- A name more. -/
theorem GrC.addN {v' : Value} {s : ByteArray} (h : GrC lo w mb vn vu vb us bs M N U B xa xb) (o : w'.ownsRow lo 9 1 v' (N.length + 1) (strsV N ++ strsV [s])) (gr : w.grownBy w' vn.ownBlock) : GrC lo w' mb v' vu vb us bs M (N ++ [s]) U B xa xb := by
  have hr : ∀ {l sz n : Nat} {e : TypeId} {v : Value} {xs : List Value}, w.ownsRow l e sz v n xs → 9 ≠ e → v.ownBlock = none ∨ v.ownBlock ≠ vn.ownBlock := fun {l sz n e v xs} hv he => by
    cases hq : v.ownBlock with
    | none => exact .inl rfl
    | some g => exact .inr fun e => rows_apart hv h.names (fun e' => he e'.symm) hq e.symm
  have hm : vn.ownBlock ≠ some mb := fun e => by
    obtain ⟨s, hm⟩ := h.map
    obtain ⟨es, c, hh⟩ := hm.heap
    obtain ⟨cur, hc⟩ := row_block h.names e
    exact block_ne hc hh
  refine ⟨h.map.imp fun s hs => hs.kept gr hm, h.mlo, ?_, h.ru.kept gr (hr h.ru (by decide)), h.rb.kept gr (hr h.rb (by decide)), fun i u hx hi => (h.eu i u hx hi).kept gr (hr (h.eu i u hx hi) (by decide)), fun i u hx hi => (h.eb i u hx hi).kept gr (hr (h.eb i u hx hi) (by decide)), h.vv, h.ap, fun i g u hu hb => Nat.lt_of_lt_of_le (h.ltu i g u hu hb) gr.size, fun i g u hu hb => Nat.lt_of_lt_of_le (h.ltb i g u hu hb) gr.size⟩
  rw [List.length_append, List.length_singleton]
  have : strsV (N ++ [s]) = strsV N ++ strsV [s] := by simp [strsV]
  rw [this]
  exact o
theorem GrC.swap (h : GrC lo w mb vn vu vb us bs M N U B xa xb) : GrC lo w mb vn vb vu bs us M N B U xb xa :=
  ⟨h.map, h.mlo, h.names, h.rb, h.ru, h.eb, h.eu, fun g hb hu => h.vv g hu hb, ⟨h.ap.bb, h.ap.uu, fun i j g u v hu hv h1 h2 => h.ap.ub j i g v u hv hu h2 h1⟩, h.ltb, h.ltu⟩
theorem GrC.len_u (h : GrC lo w mb vn vu vb us bs M N U B xa xb) : us.length = U.length := by have := h.ru.1; omega
theorem GrC.len_b (h : GrC lo w mb vn vu vb us bs M N U B xa xb) : bs.length = B.length := by have := h.rb.1; omega
theorem at_snoc {us : List Value} {i : Nat} {u x : Value} (h : (us ++ [x])[i]? = some u) : us[i]? = some u ∨ (i = us.length ∧ u = x) := by
  rcases Nat.lt_trichotomy i us.length with hl | hl | hl
  · rw [List.getElem?_append_left hl] at h; exact .inl h
  · subst hl; simp at h; exact .inr ⟨rfl, h.symm⟩
  · rw [List.getElem?_eq_none (by simp; omega)] at h; cases h
theorem GrC.ne_map {lo' sz n : Nat} {e : TypeId} {v : Value} {xs : List Value} (h : GrC lo w mb vn vu vb us bs M N U B xa xb) (hv : w.ownsRow lo' e sz v n xs) : v.ownBlock ≠ some mb := fun e => by
  obtain ⟨s, hm⟩ := h.map
  obtain ⟨es, c, hh⟩ := hm.heap
  obtain ⟨cur, hc⟩ := row_block hv e
  exact block_ne hc hh
theorem apart_r {lo1 lo2 sz1 sz2 n1 n2 : Nat} {e1 e2 : TypeId} {v1 v2 : Value} {xs1 xs2 : List Value} (h1 : w.ownsRow lo1 e1 sz1 v1 n1 xs1) (h2 : w.ownsRow lo2 e2 sz2 v2 n2 xs2) (he : e1 ≠ e2) : v1.ownBlock = none ∨ v1.ownBlock ≠ v2.ownBlock := by
  cases hq : v1.ownBlock with
  | none => exact .inl rfl
  | some g => exact .inr fun e => rows_apart h1 h2 he hq e.symm
/-- A list more, empty. -/
theorem GrC.addU {v' : Value} (h : GrC lo w mb vn vu vb us bs M N U B xa xb) (hx : ¬ xa U.length) (o : w'.ownsRow lo 69 1 v' (U.length + 1) (us ++ [.slice none 0 0])) (gr : w.grownBy w' vu.ownBlock) (hl : ∀ g, v'.ownBlock = some g → vu.ownBlock = some g ∨ w.heap.size ≤ g) : GrC lo w' mb vn v' vb (us ++ [.slice none 0 0]) bs M N (U ++ [[]]) B xa xb := by
  refine ⟨h.map.imp fun s hs => hs.kept gr (h.ne_map h.ru), h.mlo, h.names.kept gr (apart_r h.names h.ru (by decide)), by rw [List.length_append, List.length_singleton]; exact o, h.rb.kept gr ?_, fun i u hx hi => ?_, fun i u hx hi => (h.eb i u hx hi).kept gr (apart_r (h.eb i u hx hi) h.ru (by decide)), fun g hg hb => ?_, ⟨fun i j g u v hu hv h1 h2 => ?_, h.ap.bb, fun i j g u v hu hv h1 => ?_⟩, fun i g u hu hb => ?_, fun i g u hu hb => Nat.lt_of_lt_of_le (h.ltb i g u hu hb) gr.size⟩
  · cases hq : vb.ownBlock with
    | none => exact .inl rfl
    | some g => exact .inr fun e => h.vv g e.symm hq
  · rw [rowAt_app]
    rcases at_snoc hi with hi | ⟨hi', rfl⟩
    · exact (h.eu i u hx hi).kept gr (apart_r (h.eu i u hx hi) h.ru (by decide))
    · rw [rowAt_out (by have := h.len_u; omega)]
      exact World.ownsRow_nil _ _ _ _
  · rcases hl g hg with hg | hg
    · exact h.vv g hg hb
    · have := (h.rb.lt g hb).2; omega
  · rcases at_snoc hu with hu | ⟨_, rfl⟩
    · rcases at_snoc hv with hv | ⟨_, rfl⟩
      · exact h.ap.uu i j g u v hu hv h1 h2
      · cases h2
    · cases h1
  · rcases at_snoc hu with hu | ⟨_, rfl⟩
    · exact h.ap.ub i j g u v hu hv h1
    · cases h1
  · rcases at_snoc hu with hu | ⟨_, rfl⟩
    · exact Nat.lt_of_lt_of_le (h.ltu i g u hu hb) gr.size
    · cases hb
theorem GrC.addB {v' : Value} (h : GrC lo w mb vn vu vb us bs M N U B xa xb) (hx : ¬ xb B.length) (o : w'.ownsRow lo 69 1 v' (B.length + 1) (bs ++ [.slice none 0 0])) (gr : w.grownBy w' vb.ownBlock) (hl : ∀ g, v'.ownBlock = some g → vb.ownBlock = some g ∨ w.heap.size ≤ g) : GrC lo w' mb vn vu v' us (bs ++ [.slice none 0 0]) M N U (B ++ [[]]) xa xb := (h.swap.addU hx o gr hl).swap
/-- A list that is left out, and what is done to its block. -/
theorem GrC.out {a : Nat} {u : Value} {n : Nat} {xs : List Value} (h : GrC lo w mb vn vu vb us bs M N U B xa xb) (hu : us[a]? = some u) (hr : w.ownsRow lo 3 1 u n xs) (gr : w.grownBy w' u.ownBlock) : GrC lo w' mb vn vu vb us bs M N U B (fun i => xa i ∨ i = a) xb := by
  refine ⟨h.map.imp fun s hs => hs.kept gr (h.ne_map hr), h.mlo, h.names.kept gr (apart_r h.names hr (by decide)), h.ru.kept gr (apart_r h.ru hr (by decide)), h.rb.kept gr (apart_r h.rb hr (by decide)), fun i v hx hi => (h.eu i v (fun e => hx (.inl e)) hi).kept gr ?_, fun i v hx hi => (h.eb i v hx hi).kept gr ?_, h.vv, h.ap, fun i g u hu hb => Nat.lt_of_lt_of_le (h.ltu i g u hu hb) gr.size, fun i g u hu hb => Nat.lt_of_lt_of_le (h.ltb i g u hu hb) gr.size⟩
  · cases hq : v.ownBlock with
    | none => exact .inl rfl
    | some g => exact .inr fun e => hx (.inr (h.ap.uu i a g v u hi hu hq e.symm))
  · cases hq : v.ownBlock with
    | none => exact .inl rfl
    | some g => exact .inr fun e => h.ap.ub a i g u v hu hi e.symm hq
theorem at_set {us : List Value} {a i : Nat} {u x : Value} (h : (us.set a x)[i]? = some u) : (i ≠ a ∧ us[i]? = some u) ∨ (i = a ∧ u = x) := by
  by_cases e : i = a
  · subst e
    by_cases hl : i < us.length
    · rw [List.getElem?_set_self hl] at h; exact .inr ⟨rfl, (Option.some.inj h).symm⟩
    · rw [List.getElem?_eq_none (by simp; omega)] at h; cases h
  · rw [List.getElem?_set_ne (fun e' => e e'.symm)] at h; exact .inl ⟨e, h⟩
theorem grown_set (w : World) (g j : Nat) (v : Value) : w.grownBy (w.setCell ⟨g, j, none⟩ v) (some g) := by
  have h : Kp (· ≠ g) w (w.setCell ⟨g, j, none⟩ v) := Kp.set (by simp)
  exact ⟨rfl, rfl, rfl, by simp [World.setCell], fun k _ hk => h k (fun e => hk (by rw [e]))⟩
/-- The list is stored. -/
theorem GrC.fill {a x gg cap : Nat} {u' : Value} (h : GrC lo w mb vn (.slice (some ⟨gg, 0, none⟩) U.length cap) vb us bs M N U B xa xb) (ha : a < U.length) (hxa : ∀ i, xa i → i = a) (hu : w.ownsRow lo 3 1 u' ((rowAt U a).length + 1) (intsV (rowAt U a ++ [x])))
    (c1 : ∀ (j g : Nat) (u : Value), j ≠ a → us[j]? = some u → u.ownBlock = some g → u'.ownBlock ≠ some g) (c2 : ∀ (j g : Nat) (u : Value), bs[j]? = some u → u.ownBlock = some g → u'.ownBlock ≠ some g) :
    GrC lo (w.setCell ⟨gg, a, none⟩ u') mb vn (.slice (some ⟨gg, 0, none⟩) U.length cap) vb (us.set a u') bs M N (putAt U a x) B (fun _ => False) xb := by
  obtain ⟨o, gr⟩ := h.ru.stored a u'
  have hsz : (w.setCell ⟨gg, a, none⟩ u').heap.size = w.heap.size := by simp [World.setCell]
  have hr := rowAt_put U a x
  refine ⟨h.map.imp fun s hs => hs.kept gr (h.ne_map h.ru), h.mlo, h.names.kept gr (apart_r h.names h.ru (by decide)), by rw [putAt_len]; exact o, h.rb.kept gr ?_, fun i v hx hi => ?_, fun i v hx hi => (h.eb i v hx hi).kept gr (apart_r (h.eb i v hx hi) h.ru (by decide)), h.vv, ⟨fun i j g u v hu hv h1 h2 => ?_, h.ap.bb, fun i j g u v hu hv h1 => ?_⟩, fun i g v hv hb => ?_, fun i g v hv hb => by rw [hsz]; exact h.ltb i g v hv hb⟩
  · cases hq : vb.ownBlock with
    | none => exact .inl rfl
    | some g => exact .inr fun e => h.vv g e.symm hq
  · rw [hr i ha]
    rcases at_set hi with ⟨hne, hi⟩ | ⟨rfl, rfl⟩
    · rw [if_neg (fun e => hne e.symm)]
      have hi2 := h.eu i v (fun e => hne (hxa i e)) hi
      exact hi2.kept gr (apart_r hi2 h.ru (by decide))
    · rw [if_pos rfl, List.length_append, List.length_singleton]
      exact hu.kept gr (apart_r hu h.ru (by decide))
  · rcases at_set hu with ⟨hne, hu9⟩ | ⟨e9, e8⟩ <;> rcases at_set hv with ⟨hne2, hv9⟩ | ⟨e7, e6⟩
    · exact h.ap.uu i j g u v hu9 hv9 h1 h2
    · subst e6; exact (c1 i g u hne hu9 h1 h2).elim
    · subst e8; exact (c1 j g v hne2 hv9 h2 h1).elim
    · rw [e9, e7]
  · rcases at_set hu with ⟨hne, hu⟩ | ⟨rfl, rfl⟩
    · exact h.ap.ub i j g u v hu hv h1
    · exact fun h2 => c2 j g v hv h2 h1
  · rw [hsz]
    rcases at_set hv with ⟨hne, hv⟩ | ⟨rfl, rfl⟩
    · exact h.ltu i g v hv hb
    · exact (hu.lt g hb).2
theorem GrC.weak {xa' xb' : Nat → Prop} (h : GrC lo w mb vn vu vb us bs M N U B xa xb) (h1 : ∀ i, xa i → xa' i) (h2 : ∀ i, xb i → xb' i) : GrC lo w mb vn vu vb us bs M N U B xa' xb' :=
  ⟨h.map, h.mlo, h.names, h.ru, h.rb, fun i u hx hi => h.eu i u (fun e => hx (h1 i e)) hi, fun i u hx hi => h.eb i u (fun e => hx (h2 i e)) hi, h.vv, h.ap, h.ltu, h.ltb⟩
end
end Go.Proofs.Ytkkhnldhipfneaa

/-! A drawn region whose last operations write what the first ones read: what reads may be taken first where a condition on the world holds until a certain operation has come up, and that operation waits for what reads: laws for the walks; conditions as each says. -/
namespace Go.Proofs.Ytkkhnldhipfneaa
open Go.RowKit
set_option linter.unusedSimpArgs false
set_option linter.unusedVariables false

section
variable {P : Program} {ops : Array Oper} {Q : Exit → Act → World → Prop} {md : Region.Mode} {S : World → Prop} {stop : Nat}

/-- Whatever order is picked: until number 'stop' has come up, S holds behind each operation. -/
def Till (P : Program) (md : Region.Mode) (ops : Array Oper) (Q : Exit → Act → World → Prop) (S : World → Prop) (stop : Nat) : Nat → Array Bool → Act → World → Prop
  | 0, l, a, w => Region.ready md ops l = [] ∧ Q .normal a w
  | k + 1, l, a, w => (Region.ready md ops l = [] → Q .normal a w) ∧ ∀ i ∈ Region.ready md ops l, wpOp P ops Q i (fun a' w' => ((l.setIfInBounds i true).getD stop true = false → S w') ∧ Till P md ops Q S stop k (l.setIfInBounds i true) a' w') a w
theorem till_any : ∀ (k : Nat) (l : Array Bool) (a : Act) (w : World), Till P md ops Q S stop k l a w → wpAny P md ops Q k l a w
  | 0, _, _, _, h => h
  | k + 1, _, _, _, h => ⟨h.1, fun i hi => wpOp_mono (fun a' w' h' => till_any k _ a' w' h'.2) (h.2 i hi)⟩
/-- Does one operation wait for another? -/
def waitsB (md : Region.Mode) (ops : Array Oper) (j i : Nat) : Bool := (ops[j]?).all fun o => o.after.any fun e => Region.binds md e && e.on == i
theorem waits_of {i j : Nat} (h : waitsB md ops j i = true) {o : Oper} (ho : ops[j]? = some o) : ∃ e ∈ o.after, Region.binds md e = true ∧ e.on = i := by
  unfold waitsB at h
  rw [ho] at h
  simp only [Option.all_some, Array.any_eq_true] at h
  obtain ⟨n, hn, hb⟩ := h
  simp only [Bool.and_eq_true, beq_iff_eq] at hb
  exact ⟨_, Array.getElem_mem hn, hb.1, hb.2⟩
theorem till_first {i : Nat} {oi : Oper} {v : Value} (hi : ops[i]? = some oi) (hsel : ∀ (j : Nat) (o : Oper) cs b, ops[j]? = some o → o.op ≠ .select cs b) (hQ : ∀ c a w, Q (.panic c) (a.put oi.dst v) w → Q (.panic c) a w) (hne : i ≠ stop) (hwt : waitsB md ops stop i = true) :
    ∀ (k : Nat) (l : Array Bool) (a : Act) (w : World), (∀ j oj, ops[j]? = some oj → j ≠ i → l.getD j true = false → (∀ e ∈ oj.after, Region.binds md e = true → e.on ≠ i) → oi.apart ops oj = true) →
      i ∈ Region.ready md ops l → YieldsIf P ops S oi v a → l.getD stop true = false → S w → Till P md ops Q S stop k (l.setIfInBounds i true) (a.put oi.dst v) w → Till P md ops Q S stop (k + 1) l a w := by
  have none_ready : ∀ {l : Array Bool}, i ∈ Region.ready md ops l → Region.ready md ops l = [] → False := fun h e => by rw [e] at h; cases h
  intro k
  induction k with
  | zero =>
    intro l a w _ hr hy _ hS H
    refine ⟨fun e => (none_ready hr e).elim, fun j hj => ?_⟩
    by_cases e : j = i
    · subst e; exact hy.wpOp hi hS ⟨fun _ => hS, H⟩
    · have := ready_mono hj e
      rw [H.1] at this
      cases this
  | succ k ih =>
    intro l a w hap hr hy hst hS H
    refine ⟨fun e => (none_ready hr e).elim, fun j hj => ?_⟩
    by_cases e : j = i
    · subst e; exact hy.wpOp hi hS ⟨fun _ => hS, H⟩
    obtain ⟨hju, oj, hoj, hall⟩ := mem_ready.1 hj
    have hno : ∀ d ∈ oj.after, Region.binds md d = true → d.on ≠ i := fun d hd hb he => by
      have a1 := hall d hd hb
      have a0 := (mem_ready.1 hr).1
      rw [he] at a1
      by_cases hl : i < l.size
      · simp [hl] at a0 a1; rw [a0] at a1; cases a1
      · simp [Array.getElem?_eq_none (Nat.le_of_not_lt hl)] at a1
    have hjs : j ≠ stop := fun hjs => by
      subst hjs
      obtain ⟨d, hd, hb, he⟩ := waits_of hwt hoj
      exact hno d hd hb he
    have hst2 : ((l.setIfInBounds i true).setIfInBounds j true).getD stop true = false := by rw [Go.getD_set_ne true hjs, Go.getD_set_ne true hne]; exact hst
    have hst3 : (l.setIfInBounds j true).getD stop true = false := by rw [Go.getD_set_ne true hjs]; exact hst
    refine wpOp_mono (fun a' w' h3 => ?_) (wpOp_putIf hoj (hap j oj hoj e hju hno) (fun cs b => hsel i oi cs b hi) (fun cs b => hsel j oj cs b hoj) hQ hy (H.2 j (ready_mono hj e)))
    obtain ⟨h4, h5, h6⟩ := h3
    refine ⟨fun _ => h5 hst2, ih _ a' w' (fun n on hn hni hun hw => hap n on hn hni ?_ hw) (ready_mono hr (Ne.symm e)) h4 hst3 (h5 hst2) (by rw [Array.setIfInBounds_comm _ _ e]; exact h6)⟩
    by_cases hjn : j = n
    · subst hjn; exact hju
    · rw [Go.getD_set_ne true hjn] at hun; exact hun
/-- Take number i first. -/
theorem tu (i : Nat) {oi : Oper} {v : Value} {k : Nat} {l l' : Array Bool} {a a' : Act} {w : World} (hS : S w)
    (hi : ops[i]? = some oi := by rfl) (hs : Region.noSelect ops = true := by kernel_rfl) (hf : Region.free md ops l i = true := by kernel_rfl) (hr : (Region.ready md ops l).contains i = true := by kernel_rfl) (hne : i ≠ stop := by decide) (hwt : waitsB md ops stop i = true := by kernel_rfl) (hst : l.getD stop true = false := by kernel_rfl)
    (hQ : ∀ c a w, Q (.panic c) (a.put oi.dst v) w → Q (.panic c) a w := by exact fun _ _ _ h => h) (hy : YieldsIf P ops S oi v a := by exact Or.inl ⟨by rfl, by (intro w hSw; (try dsimp only at hSw); go_simp <;> with_reducible rfl)⟩)
    (hl : l.setIfInBounds i true = l' := by (try simp only [List.setIfInBounds_toArray, List.set_cons_zero, List.set_cons_succ]); with_reducible rfl)
    (ha : a.put oi.dst v = a' := by (try simp only [Act.put, List.getElem_toArray, List.getElem_cons_zero, List.getElem_cons_succ, List.setIfInBounds_toArray, List.set_cons_zero, List.set_cons_succ]); with_reducible rfl)
    (h : Till P md ops Q S stop k l' a' w) : Till P md ops Q S stop (k + 1) l a w := till_first hi (Region.noSelect_spec hs) hQ hne hwt k l a w (Region.free_spec hi hf) (by simpa using hr) hy hst hS (by rw [hl, ha]; exact h)
theorem till_firstV {i : Nat} {oi : Oper} {v : Value} (hi : ops[i]? = some oi) (hsel : ∀ (j : Nat) (o : Oper) cs b, ops[j]? = some o → o.op ≠ .select cs b) (hQ : ∀ c a w, Q (.panic c) (a.put oi.dst v) w → Q (.panic c) a w) (hne : i ≠ stop) :
    ∀ (k : Nat) (l : Array Bool) (a : Act) (w : World), (∀ j oj, ops[j]? = some oj → j ≠ i → l.getD j true = false → (∀ e ∈ oj.after, Region.binds md e = true → e.on ≠ i) → oi.apart ops oj = true) →
      i ∈ Region.ready md ops l → YieldsIf P ops (fun _ => True) oi v a → (l.getD stop true = false → S w) → Till P md ops Q S stop k (l.setIfInBounds i true) (a.put oi.dst v) w → Till P md ops Q S stop (k + 1) l a w := by
  have none_ready : ∀ {l : Array Bool}, i ∈ Region.ready md ops l → Region.ready md ops l = [] → False := fun h e => by rw [e] at h; cases h
  have hst : ∀ (l : Array Bool) (j : Nat), ((l.setIfInBounds i true).setIfInBounds j true).getD stop true = (l.setIfInBounds j true).getD stop true := fun l j => by
    by_cases e : j = i
    · subst e; simp only [Go.getD_set_ne true hne]
    · rw [Array.setIfInBounds_comm _ _ (fun e' => e e'.symm), Go.getD_set_ne true hne]
  intro k
  induction k with
  | zero =>
    intro l a w _ hr hy hS H
    refine ⟨fun e => (none_ready hr e).elim, fun j hj => ?_⟩
    by_cases e : j = i
    · subst e; exact hy.wpOp hi trivial ⟨fun h => hS (by rw [Go.getD_set_ne true hne] at h; exact h), H⟩
    · have := ready_mono hj e
      rw [H.1] at this
      cases this
  | succ k ih =>
    intro l a w hap hr hy hS H
    refine ⟨fun e => (none_ready hr e).elim, fun j hj => ?_⟩
    by_cases e : j = i
    · subst e; exact hy.wpOp hi trivial ⟨fun h => hS (by rw [Go.getD_set_ne true hne] at h; exact h), H⟩
    obtain ⟨hju, oj, hoj, hall⟩ := mem_ready.1 hj
    have hno : ∀ d ∈ oj.after, Region.binds md d = true → d.on ≠ i := fun d hd hb he => by
      have a1 := hall d hd hb
      have a0 := (mem_ready.1 hr).1
      rw [he] at a1
      by_cases hl : i < l.size
      · simp [hl] at a0 a1; rw [a0] at a1; cases a1
      · simp [Array.getElem?_eq_none (Nat.le_of_not_lt hl)] at a1
    refine wpOp_mono (fun a' w' h3 => ?_) (wpOp_putIf hoj (hap j oj hoj e hju hno) (fun cs b => hsel i oi cs b hi) (fun cs b => hsel j oj cs b hoj) hQ hy (H.2 j (ready_mono hj e)))
    obtain ⟨h4, h5, h6⟩ := h3
    rw [hst] at h5
    refine ⟨h5, ih _ a' w' (fun n on hn hni hun hw => hap n on hn hni ?_ hw) (ready_mono hr (Ne.symm e)) h4 h5 (by rw [Array.setIfInBounds_comm _ _ e]; exact h6)⟩
    by_cases hjn : j = n
    · subst hjn; exact hju
    · rw [Go.getD_set_ne true hjn] at hun; exact hun
/-- Take number i first: what it yields hangs on no world. -/
theorem tv (i : Nat) {oi : Oper} {v : Value} {k : Nat} {l l' : Array Bool} {a a' : Act} {w : World} (hS : S w)
    (hi : ops[i]? = some oi := by rfl) (hs : Region.noSelect ops = true := by kernel_rfl) (hf : Region.free md ops l i = true := by kernel_rfl) (hr : (Region.ready md ops l).contains i = true := by kernel_rfl) (hne : i ≠ stop := by decide)
    (hQ : ∀ c a w, Q (.panic c) (a.put oi.dst v) w → Q (.panic c) a w := by exact fun _ _ _ h => h) (hy : YieldsIf P ops (fun _ => True) oi v a := by exact Or.inl ⟨by rfl, by (intro w _; go_simp <;> with_reducible rfl)⟩)
    (hl : l.setIfInBounds i true = l' := by (try simp only [List.setIfInBounds_toArray, List.set_cons_zero, List.set_cons_succ]); with_reducible rfl)
    (ha : a.put oi.dst v = a' := by (try simp only [Act.put, List.getElem_toArray, List.getElem_cons_zero, List.getElem_cons_succ, List.setIfInBounds_toArray, List.set_cons_zero, List.set_cons_succ]); with_reducible rfl)
    (h : Till P md ops Q S stop k l' a' w) : Till P md ops Q S stop (k + 1) l a w := till_firstV hi (Region.noSelect_spec hs) hQ hne k l a w (Region.free_spec hi hf) (by simpa using hr) hy (fun _ => hS) (by rw [hl, ha]; exact h)
/-- One operation comes up: behind it S, where 'stop' has not come up. -/
def AllTill (P : Program) (md : Region.Mode) (ops : Array Oper) (Q : Exit → Act → World → Prop) (S : World → Prop) (stop k : Nat) (l : Array Bool) (a : Act) (w : World) (rs : List Nat) : Prop :=
  ∀ i ∈ rs, wpOp P ops Q i (fun a' w' => ((l.setIfInBounds i true).getD stop true = false → S w') ∧ Till P md ops Q S stop k (l.setIfInBounds i true) a' w') a w
theorem AllTill.nil {k : Nat} {l : Array Bool} {a : Act} {w : World} : AllTill P md ops Q S stop k l a w [] := fun _ h => by cases h
theorem AllTill.cons {k : Nat} {l l' : Array Bool} {a : Act} {w : World} {i : Nat} {o : Oper} {rs : List Nat} (ho : ops[i]? = some o) (hl : l.setIfInBounds i true = l')
    (h : ∀ K' : Act → World → Prop, Shut (∀ a w, (l'.getD stop true = false → S w) → Till P md ops Q S stop k l' a w → K' a w) → if Region.wanted o (yielded ops a.tmps) = true then Oper.wp P o a w K' Q else K' (a.put o.dst undef) w)
    (hs : AllTill P md ops Q S stop k l a w rs) : AllTill P md ops Q S stop k l a w (i :: rs) := fun j hj => by
  subst hl
  rcases List.mem_cons.1 hj with rfl | hj
  · exact wpOp_step ho (fun K' hK => h K' (fun a w hS hW => hK a w ⟨hS, hW⟩))
  · exact hs j hj
theorem till_ready {rs : List Nat} {k : Nat} {l : Array Bool} {a : Act} {w : World} (hr : Region.ready md ops l = rs) (hne : rs ≠ []) (h : AllTill P md ops Q S stop k l a w rs) : Till P md ops Q S stop (k + 1) l a w :=
  ⟨fun e => absurd (hr.symm.trans e) hne, hr ▸ h⟩
theorem till_done {l : Array Bool} {a : Act} {w : World} (hr : Region.ready md ops l = []) (h : Q .normal a w) : ∀ k, Till P md ops Q S stop k l a w
  | 0 => ⟨hr, h⟩
  | _ + 1 => ⟨fun _ => h, by rw [hr]; simp⟩
theorem till_region {id : Nat} {a : Act} {w : World} (S : World → Prop) (stop : Nat) (hm : P.follows .mixedOrders = true) (hS : S w.drew) (h : S w.drew → Till P .any ops Q S stop ops.size (Array.replicate ops.size false) a w.drew) : (Code.region id ops true).wp P Q a w :=
  wp_region_any hm (till_any _ _ _ _ (h hS))
theorem till_phi {k : Nat} {l : Array Bool} {a : Act} {w : World} (h : ∀ Φ, Φ = Till P md ops Q S stop → Till P md ops Q S stop k l a w) : Till P md ops Q S stop k l a w := h _ rfl
theorem till_at {k k' : Nat} {l l' : Array Bool} {a : Act} {w : World} (h : Till P md ops Q S stop k' l' a w) (hk : k' = k) (hl : l' = l) : Till P md ops Q S stop k l a w := by subst hk hl; exact h
end
end Go.Proofs.Ytkkhnldhipfneaa
