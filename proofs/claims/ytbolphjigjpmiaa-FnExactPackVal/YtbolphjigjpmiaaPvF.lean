/-
  The value of a pack, by the program: a contract for the walks; conditions: the pack lies in memory and weighs at most 2 to the 20.
-/
import Derived.Test.YtbolphjigjpmiaaPvE
import Derived.Test.YtbolphjigjpmiaaPkA
import Derived.Deep.RegionHeld
namespace Go.Proofs.Ytbolphjigjpmiaa
open Go.RowKit
set_option linter.unusedSimpArgs false
set_option linter.unusedVariables false

def listT (ss : List ByteArray) : Tree := .mk 4 0 ⟨#[]⟩ (ss.map textT) []
def mapT (l : List Tree) (ks : List ByteArray) : Tree := .mk 5 0 ⟨#[]⟩ l ks
def needT (x : NeedD) : Tree := textT x.r
def cmdT (x : CmdD) : Tree := listT x.acts
def packKids (d : PackD) : List Tree := [textT d.name, mapT (d.needs.map needT) (d.needs.map (·.n)), mapT (d.cmds.map cmdT) (d.cmds.map (·.t)), listT d.uses]
def packKeys : List ByteArray := [⟨#[110, 97, 109, 101]⟩, ⟨#[110, 101, 101, 100, 115]⟩, ⟨#[116, 97, 115, 107, 115]⟩, ⟨#[117, 115, 101, 115]⟩]
theorem heap_at {W : World} {o : Obj} {g : Nat} (h : g = W.heap.size) : (W.alloc o).heap[g]? = some o := by subst h; exact vheap_new W o
/-- The blocks of the walk: the pack, the answer, the two maps that are being made. -/
structure PvS (w W : World) (bp : Obj) (c u c2 u2 : Value) : Prop where
  P : W.heap[w.heap.size]? = some bp
  R : W.heap[w.heap.size + 1]? = some boxZ
  N : W.heap[w.heap.size + 1 + 1]? = some (boxM c u)
  T : W.heap[w.heap.size + 1 + 1 + 1]? = some (boxM c2 u2)
  B : Below w.heap.size w W
theorem PvS.lt {w W : World} {bp : Obj} {c u c2 u2 : Value} (h : PvS w W bp c u c2 u2) : w.heap.size + 4 ≤ W.heap.size := by
  have := (Array.getElem?_eq_some_iff.1 h.T).1; omega
theorem PvS.below {w W W' : World} {bp : Obj} {c u c2 u2 : Value} (h : PvS w W bp c u c2 u2) (hb : Below W.heap.size W W') : PvS w W' bp c u c2 u2 := by
  have hl := h.lt
  exact ⟨(hb.block _ (by omega)).trans h.P, (hb.block _ (by omega)).trans h.R, (hb.block _ (by omega)).trans h.N, (hb.block _ (by omega)).trans h.T, h.B.trans (hb.mono h.B.size)⟩
theorem PvS.chg {w W W' : World} {bp : Obj} {c u c2 u2 : Value} {D : Nat → Prop} (h : PvS w W bp c u c2 u2) (hb : Chg D W W') (hD : ∀ b, D b → w.heap.size + 4 ≤ b) : PvS w W' bp c u c2 u2 := by
  have hl := h.lt
  have k : ∀ g, g < w.heap.size + 4 → W'.heap[g]? = W.heap[g]? := fun g hg => hb.block g (by omega) (fun k => by have := hD g k; omega)
  exact ⟨(k _ (by omega)).trans h.P, (k _ (by omega)).trans h.R, (k _ (by omega)).trans h.N, (k _ (by omega)).trans h.T,
    ⟨hb.os.trans h.B.os, hb.tape.trans h.B.tape, hb.output.trans h.B.output, Nat.le_trans h.B.size hb.size, fun b hlt => (k b (by omega)).trans (h.B.block b hlt)⟩⟩
/-- A map that is being made, written over. -/
def put5 (W : World) (g : Nat) (c u : Value) : World := ((((W.setCell ⟨g, 0, none⟩ (.int .i64 5)).setCell ⟨g, 1, none⟩ (.int .i64 0)).setCell ⟨g, 2, none⟩ (.string ⟨#[]⟩)).setCell ⟨g, 3, none⟩ c).setCell ⟨g, 4, none⟩ u
theorem put5_same {W : World} {g : Nat} {a b c u : Value} (h : W.heap[g]? = some (boxM a b)) : (put5 W g c u).heap[g]? = some (boxM c u) :=
  heap_setCell_same _ g 4 _ _ u (heap_setCell_same _ g 3 _ _ c (heap_setCell_same _ g 2 _ _ _ (heap_setCell_same _ g 1 _ _ _ (heap_setCell_same W g 0 _ _ _ h))))
theorem put5_zero {W : World} {g : Nat} {c u : Value} (h : W.heap[g]? = some boxZ) : (put5 W g c u).heap[g]? = some (boxM c u) :=
  heap_setCell_same _ g 4 _ _ u (heap_setCell_same _ g 3 _ _ c (heap_setCell_same _ g 2 _ _ _ (heap_setCell_same _ g 1 _ _ _ (heap_setCell_same W g 0 _ _ _ h))))
theorem put5_other {W : World} {g b : Nat} {c u : Value} (h : b ≠ g) : (put5 W g c u).heap[b]? = W.heap[b]? := by
  have k : ∀ (V : World) (j : Nat) (v : Value), (V.setCell ⟨g, j, none⟩ v).heap[b]? = V.heap[b]? := fun V j v => Below.heap_setCell V ⟨g, j, none⟩ v b h
  unfold put5
  rw [k, k, k, k, k]
theorem put5_below {B : Nat} {w W : World} {g : Nat} {c u : Value} (h : Below B w W) (hg : B ≤ g) : Below B w (put5 W g c u) :=
  Below.setCell (Below.setCell (Below.setCell (Below.setCell (Below.setCell h (p := ⟨g, 0, none⟩) hg _) (p := ⟨g, 1, none⟩) hg _) (p := ⟨g, 2, none⟩) hg _) (p := ⟨g, 3, none⟩) hg _) (p := ⟨g, 4, none⟩) hg _
theorem put5_size {W : World} {g : Nat} {c u : Value} : (put5 W g c u).heap.size = W.heap.size := by
  unfold put5; simp [World.setCell]
theorem PvS.putN {w W : World} {bp : Obj} {c u c2 u2 c' u' : Value} (h : PvS w W bp c u c2 u2) : PvS w (put5 W (w.heap.size + 1 + 1) c' u') bp c' u' c2 u2 :=
  ⟨(put5_other (by omega)).trans h.P, (put5_other (by omega)).trans h.R, put5_same h.N, (put5_other (by omega)).trans h.T, put5_below h.B (by omega)⟩
theorem PvS.putO {w W : World} {bp : Obj} {c u c2 u2 a b : Value} {g : Nat} (h : PvS w W bp c u c2 u2) (hg : w.heap.size + 4 ≤ g) : PvS w (put5 W g a b) bp c u c2 u2 :=
  ⟨(put5_other (by omega)).trans h.P, (put5_other (by omega)).trans h.R, (put5_other (by omega)).trans h.N, (put5_other (by omega)).trans h.T, put5_below h.B (by omega)⟩
theorem PvS.putT {w W : World} {bp : Obj} {c u c2 u2 c' u' : Value} (h : PvS w W bp c u c2 u2) : PvS w (put5 W (w.heap.size + 1 + 1 + 1) c' u') bp c u c' u' :=
  ⟨(put5_other (by omega)).trans h.P, (put5_other (by omega)).trans h.R, (put5_other (by omega)).trans h.N, put5_same h.T, put5_below h.B (by omega)⟩
theorem Mk.put {w : World} {S : Nat → Prop} {c u : Value} {l : List Tree} {ks : List ByteArray} {g : Nat} {a b : Value} (h : Mk w S c u l ks) (hg : ¬ S g) : Mk (put5 w g a b) S c u l ks :=
  h.keep (by rw [put5_size]; exact Nat.le_refl _) (fun i hi => put5_other (fun e => hg (e ▸ hi)))
theorem Mk.slices {w : World} {S : Nat → Prop} {c u : Value} {l : List Tree} {ks : List ByteArray} (h : Mk w S c u l ks) : ∃ qc cc qu cu, c = .slice qc ks.length cc ∧ u = .slice qu ks.length cu := by
  obtain ⟨ys, hy, _⟩ := h.add
  obtain ⟨qc, cc, e⟩ := owns_sl hy
  obtain ⟨qu, cu, e'⟩ := owns_sl h.keys
  exact ⟨qc, cc, qu, cu, e, e'⟩
theorem Mk.slicesN {w : World} {S : Nat → Prop} {c u : Value} {l : List Tree} {ks : List ByteArray} (h : Mk w S c u l ks) : ∃ n qc cc qu cu, n = ks.length ∧ c = .slice qc n cc ∧ u = .slice qu n cu := by
  obtain ⟨qc, cc, qu, cu, h1, h2⟩ := h.slices
  exact ⟨_, qc, cc, qu, cu, rfl, h1, h2⟩
theorem saneNil : saneS [] := ⟨by simp, by simp⟩
/-- The blocks of a map that grows. -/
def More (S R1 R2 : Nat → Prop) (n m : Nat) (b : Nat) : Prop := S b ∨ R1 b ∨ R2 b ∨ n + 3 ≤ b ∧ b < m
theorem more_low {S : Nat → Prop} {lo n m : Nat} (hn : lo ≤ n) (hS : ∀ b, S b → lo ≤ b) : ∀ b, More S (fun _ => False) (fun _ => False) n m b → lo ≤ b := by
  rintro b (h | h | h | h)
  · exact hS b h
  · exact h.elim
  · exact h.elim
  · omega
theorem more_low1 {S : Nat → Prop} {lo n m a b : Nat} (ha : lo ≤ a) (hn : lo ≤ n) (hS : ∀ b, S b → lo ≤ b) : ∀ i, More S (fun i => a ≤ i ∧ i < b) (fun _ => False) n m i → lo ≤ i := by
  rintro i (h | h | h | h)
  · exact hS i h
  · omega
  · exact h.elim
  · omega
theorem more_apart {S N : Nat → Prop} {n m a b z : Nat} (hap : ∀ i, S i → ¬ N i) (hN : ∀ i, N i → i < z) (hz : z ≤ n) (ha : z ≤ a) : ∀ i, More S (fun i => a ≤ i ∧ i < b) (fun _ => False) n m i → ¬ N i := by
  rintro i (h | h | h | h) k
  · exact hap i h k
  · have := hN i k; omega
  · exact h
  · have := hN i k; omega
theorem withKey_mk (S R1 R2 : Nat → Prop) (c u cn un : Value) (l : List Tree) (ks : List ByteArray) (key : ByteArray) (k0 n0 : Int) (s0 : ByteArray) (lT : List Tree) (kT : List ByteArray) (w : World)
    (h : Mk w S c u l ks) (hp : Part w R1 R2 cn un lT kT) (hs : s0.size ≤ maxLen) (hk : saneS kT) (h1 : ∀ b, R1 b → b < w.heap.size ∧ ¬ S b) (h2 : ∀ b, R2 b → b < w.heap.size ∧ ¬ S b) (hn : ks.length ≤ 1048576) (hkey : key.size ≤ 1048576) :
    Calls Try.prog 50 #[.agg #[.int .i64 5, .int .i64 0, .string ⟨#[]⟩, c, u], .string key, .agg #[.int .i64 k0, .int .i64 n0, .string s0, cn, un]] w fun e w' => ∃ c' u', e = .returned (.agg #[.int .i64 5, .int .i64 0, .string ⟨#[]⟩, c', u']) ∧ Mk w' (More S R1 R2 w.heap.size w'.heap.size) c' u' (l ++ [.mk k0 n0 s0 lT kT]) (ks ++ [key]) ∧ Chg (OfTwo c u) w w' := by
  obtain ⟨ys, hy, hadd⟩ := h.add
  obtain ⟨qn, cn', rfl⟩ := hp.own.slice
  obtain ⟨qm, cm, rfl⟩ := owns_sl hp.keys
  refine (withKey_c c u ks.length ys ks key k0 n0 s0 _ _ _ _ _ _ w hy h.keys hn hkey).mono ?_
  rintro e w' ⟨c', u', rfl, a1, a2, a3, a4, a5⟩
  exact ⟨c', u', rfl, hadd w' R1 R2 c' u' _ _ key (.mk k0 n0 s0 lT kT) hp hs hk h1 h2 a1 a2 a3 a4 a5, a5⟩
theorem part_text (w : World) : Part w (fun _ => False) (fun _ => False) (.slice none 0 0) (.slice none 0 0) [] [] :=
  ⟨(nil_own w _).1, (nil_own w _).2, ⟨rfl, .inl ⟨rfl, rfl⟩⟩, fun g h => by simp [Value.ownBlock] at h, fun _ h => h.elim⟩
theorem OwnL.mono {S S' : Nat → Prop} {w : World} {v : Value} {l : List Tree} (h : OwnL w S v l) (hs : ∀ b, S b → S' b) : OwnL w S' v l := by
  cases h with
  | mk _ _ _ ys C U B K hrow hg hc hB hK hBB hBK hKK hC hU => exact .mk S' v l ys C U B K hrow (fun g h => ⟨hs _ (hg g h).1, (hg g h).2⟩) hc (fun i b h => hs _ (hB i b h)) (fun i b h => hs _ (hK i b h)) hBB hBK hKK hC hU
theorem texts_part (v : Value) (ss : List ByteArray) (w : World) (hv : Reads w v (strsV ss)) (hs : bulkS ss ≤ 1048576) (hp : saneP ss) :
    Calls Try.prog 52 #[v] w fun e w' => ∃ c, e = .returned (.agg #[.int .i64 4, .int .i64 0, .string ⟨#[]⟩, c, .slice none 0 0]) ∧ Part w' (fun b => w.heap.size ≤ b ∧ b < w'.heap.size) (fun _ => False) c (.slice none 0 0) (ss.map textT) [] ∧ Below w.heap.size w w' := by
  refine (valOfTexts_c v ss w hv hs).mono ?_
  rintro e w' ⟨c, rfl, hrow, hb⟩
  have hl : ss.length ≤ 1048576 := by unfold bulkS at hs; omega
  have h := texts_own hrow (by unfold maxLen; omega) (fun s hs => hp.2 s hs)
  exact ⟨c, rfl, ⟨OwnL.mono h.1 (fun b hb => owns_in hrow b hb), h.2.mono (fun b hb => owns_in hrow b hb), ⟨rfl, .inl ⟨rfl, rfl⟩⟩, fun g h => by simp [Value.ownBlock] at h, fun _ _ h => h⟩, hb⟩
theorem Chg.none {w w' : World} (h : Chg (OfTwo (.slice none 0 0) (.slice none 0 0)) w w') : Below w.heap.size w w' :=
  ⟨h.os, h.tape, h.output, h.size, fun b hb => h.block b hb (by rintro (k | k) <;> simp [Value.ownBlock] at k)⟩
theorem Mk.of_two {w : World} {S : Nat → Prop} {c u : Value} {l : List Tree} {ks : List ByteArray} (h : Mk w S c u l ks) : ∀ b, OfTwo c u b → S b := by
  obtain ⟨len, low, ⟨ys, C, U, B, K, r1, r2, r3, _⟩, keys⟩ := h
  rintro b (k | k)
  · exact (r2 b k).1
  · exact (r3 b k).1

set_option maxHeartbeats 8000000 in
set_option maxRecDepth 100000 in
theorem packVal_c (S : Nat → Prop) (cs : List Value) (d : PackD) (w : World) (hL : shPack.lies S w cs d) (hB : ∀ b, S b → b < w.heap.size) (hw : wtPack d ≤ 1048576) :
    Calls Try.prog 15 #[.agg cs.toArray] w fun e w' => ∃ c u, e = .returned (.agg #[.int .i64 5, .int .i64 0, .string ⟨#[]⟩, c, u]) ∧ Mk w' (fun b => w.heap.size ≤ b ∧ b < w'.heap.size) c u (packKids d) packKeys ∧ Below w.heap.size w w' := by
  obtain ⟨name, uses, needs, cmds⟩ := d
  obtain ⟨u0, u1, u2, rfl, s_name, r0, p0, r1, r2⟩ := hL
  obtain ⟨q0, cap0, eu0, h0⟩ := id r0
  rw [length_strsV] at eu0
  subst eu0
  obtain ⟨q1, cap1, rfl, hl1, hc1, ha1⟩ := r1
  obtain ⟨q2, cap2, rfl, hl2, hc2, ha2⟩ := r2
  have hn1 : needs.length ≤ 1048576 := by have := len_wtRow wtNeed needs; have hw' := hw; simp only [wtPack] at hw'; omega
  have hn2 : cmds.length ≤ 1048576 := by have := len_wtRow wtCmd cmds; have hw' := hw; simp only [wtPack] at hw'; omega
  have hsaneN : saneS (needs.map (·.n)) := ⟨by simp; unfold maxLen; omega, fun s hs => by
    obtain ⟨x, hx, rfl⟩ := List.mem_map.1 hs
    have h1 := wt_wtRow wtNeed hx
    have hw' := hw
    simp only [wtPack] at hw'
    simp only [wtNeed] at h1
    unfold maxLen; omega⟩
  have hsaneT : saneS (cmds.map (·.t)) := ⟨by simp; unfold maxLen; omega, fun s hs => by
    obtain ⟨x, hx, rfl⟩ := List.mem_map.1 hs
    have h1 := wt_wtRow wtCmd hx
    have hw' := hw
    simp only [wtPack] at hw'
    simp only [wtCmd] at h1
    unfold maxLen; omega⟩
  replace hsaneN := hidden hsaneN
  replace hsaneT := hidden hsaneT
  obtain ⟨BP, hBP⟩ : ∃ BP : Obj, BP = .cells #[.string name, .slice q0 uses.length cap0, .slice q1 needs.length cap1, .slice q2 cmds.length cap2] 42 (0, 0) := ⟨_, rfl⟩
  have HBP := hidden hBP
  have hst : PvS w ((((w.alloc BP).alloc boxZ).alloc (boxM (.slice none 0 0) (.slice none 0 0))).alloc (boxM (.slice none 0 0) (.slice none 0 0))) BP (.slice none 0 0) (.slice none 0 0) (.slice none 0 0) (.slice none 0 0) := by
    have b4 : ∀ A B C D, Below w.heap.size w ((((w.alloc A).alloc B).alloc C).alloc D) := fun A B C D => ((((Below.refl _ _).alloc (Nat.le_refl _) _).alloc (by simp) _).alloc (by simp; omega) _).alloc (by simp; omega) _
    refine ⟨?_, ?_, ?_, ?_, b4 _ _ _ _⟩
    · rw [vheap_old _ _ (by simp; try omega), vheap_old _ _ (by simp; try omega), vheap_old _ _ (by simp), vheap_new]
    · rw [vheap_old _ _ (by simp; try omega), vheap_old _ _ (by simp), heap_at (by simp)]
    · rw [vheap_old _ _ (by simp), heap_at (by simp)]
    · rw [heap_at (by simp)]
  have HST := hidden hst
  clear hst hBP
  go_enter Try.func15, Try.ntmps15
  go_wp2_with fail
  go_loopw [15] (fun vi wr => ∃ (k : Nat) (c u : Value) (S1 : Nat → Prop), k ≤ needs.length ∧ vi = .int .i64 (k : Int) ∧ PvS w wr BP c u (.slice none 0 0) (.slice none 0 0) ∧ Mk wr S1 c u ((needs.take k).map needT) ((needs.take k).map (·.n)) ∧ (∀ b, S1 b → w.heap.size + 4 ≤ b)) (fun vi _ => needs.length - (intOf vi).toNat)
  case atStart =>
    refine ⟨0, .slice none 0 0, .slice none 0 0, fun _ => False, Nat.zero_le _, rfl, ?_, by simpa using Mk.nil _, fun _ h => h.elim⟩
    have := HST.out
    rw [HBP.out] at this ⊢
    exact this
  case round =>
    obtain ⟨k, c, u, S1, hk, rfl, hst, hmk, hS1⟩ := hrel
    by_cases hlt' : k < needs.length
    · rcases ha1 with rfl | ⟨b, off, rfl, hlt, ha⟩
      · simp at hlt'
      obtain ⟨cs, hL, hcl⟩ := ha k hlt'
      replace hcl := hcl.keep (.of hst.B hB) hlt
      have hxw := wt_wtRow wtNeed (List.getElem_mem hlt')
      obtain ⟨x, hx⟩ : ∃ x, x = needs[k] := ⟨_, rfl⟩
      rw [← hx] at hL hxw
      have htk : ((needs.take (k + 1)).map needT = (needs.take k).map needT ++ [.mk 3 0 x.r [] []] ∧ (needs.take (k + 1)).map (·.n) = (needs.take k).map (·.n) ++ [x.n]) := by
        rw [List.take_succ_eq_append_getElem hlt', ← hx]; simp [needT, textT]
      have HTK := hidden htk
      clear htk
      obtain ⟨rfl, s_n, s_r⟩ := hL
      have e0 : wr.cell? ⟨b, off + k * 2, none⟩ = some (.string x.n) := hcl 0 (by simp)
      have e1 : wr.cell? ⟨b, off + k * 2 + 1, none⟩ = some (.string x.r) := hcl 1 (by simp)
      have hki : (k : Int) < (needs.length : Int) := by omega
      have hrs : x.r.size ≤ 1048576 := by have hw' := hw; simp only [wtPack] at hw'; simp only [wtNeed] at hxw; omega
      have hns : x.n.size ≤ 1048576 := by have hw' := hw; simp only [wtPack] at hw'; simp only [wtNeed] at hxw; omega
      have HT := hidden (fun w1 => valOfText_c x.r hrs w1)
      clear ha hx hcl
      have HLT := hidden hlt'
      obtain ⟨n, qc, cc, qu, cu, hnl, rfl, rfl⟩ := hmk.slicesN
      clear hnl
      have hkl : (List.map (fun x => x.n) (List.take k needs)).length ≤ 1048576 := by simp; omega
      go_wp2_with fail
      obtain ⟨wz, hwz⟩ : ∃ wz, wz = wr.alloc (.cells #[.string x.n, .string x.r] 83) := ⟨_, rfl⟩
      have hzb : Below wr.heap.size wr wz := hwz ▸ (Below.refl _ _).alloc (Nat.le_refl _) _
      have hz6 : wz.heap[wr.heap.size]? = some (.cells #[.string x.n, .string x.r] 83) := hwz ▸ vheap_new _ _
      rw [← hwz]
      clear hwz
      have KEEP : Hid (∀ w1, Below wz.heap.size wz w1 → w1.cell? ⟨wr.heap.size, 0, none⟩ = some (.string x.n) ∧ w1.cell? ⟨wr.heap.size, 1, none⟩ = some (.string x.r)) := fun w1 h => by
        have hg := (h.block _ (Array.getElem?_eq_some_iff.1 hz6).1).trans hz6
        exact ⟨by simpa using vblk_cell hg 0, by simpa using vblk_cell hg 1⟩
      have hrw : w.heap.size + 4 ≤ wr.heap.size := hst.lt
      have KEEPC : Hid (∀ w1 w2, Below wz.heap.size wz w1 → Chg (OfTwo (.slice qc n cc) (.slice qu n cu)) w1 w2 → w2.cell? ⟨wr.heap.size, 0, none⟩ = some (.string x.n) ∧ w2.cell? ⟨wr.heap.size, 1, none⟩ = some (.string x.r)) := fun w1 w2 h hc => by
        have hzl := (Array.getElem?_eq_some_iff.1 hz6).1
        have hg := (hc.block wr.heap.size (Nat.lt_of_lt_of_le hzl h.size) (fun k => by have := hmk.low _ (hmk.of_two _ k); omega)).trans ((h.block _ hzl).trans hz6)
        exact ⟨by simpa using vblk_cell hg 0, by simpa using vblk_cell hg 1⟩
      have KEEPD : Hid (∀ w1 w2 {a b : Value}, Below wz.heap.size wz w1 → Chg (OfTwo (.slice qc n cc) (.slice qu n cu)) w1 w2 → (put5 w2 (w.heap.size + 1 + 1) a b).cell? ⟨wr.heap.size, 0, none⟩ = some (.string x.n) ∧ (put5 w2 (w.heap.size + 1 + 1) a b).cell? ⟨wr.heap.size, 1, none⟩ = some (.string x.r)) := fun w1 w2 a b h hc => by
        have hzl := (Array.getElem?_eq_some_iff.1 hz6).1
        have hg := (put5_other (c := a) (u := b) (show wr.heap.size ≠ (w.heap.size + 1 + 1) by omega)).trans ((hc.block wr.heap.size (Nat.lt_of_lt_of_le hzl h.size) (fun k => by have := hmk.low _ (hmk.of_two _ k); omega)).trans ((h.block _ hzl).trans hz6))
        exact ⟨by simpa using vblk_cell hg 0, by simpa using vblk_cell hg 1⟩
      replace hst := hst.below hzb
      replace hmk := hmk.keep hzb.size (Kp.of hzb hmk.low)
      have h0 : Below wz.heap.size wz wz.drew := (Below.refl _ _).drew
      refine wp_region_held_drew (S := (fun w1 => w1.cell? ⟨wr.heap.size, 0, none⟩ = some (.string x.n) ∧ w1.cell? ⟨wr.heap.size, 1, none⟩ = some (.string x.r))) (by kernel_rfl) ?S0 (fun hHeld => ?_)
      case S0 => (exact KEEP.out _ h0)
      refine wpAnyH_take (i := 1) (oi := _) (v := ?vT1) rfl (by kernel_rfl) (by kernel_rfl) (by kernel_rfl) (fun _ _ _ h => h) (Or.inl ⟨by rfl, ?yT1⟩) hHeld ?_
      case yT1 => (intro w hSw; (try dsimp only at hSw); go_simp <;> with_reducible rfl)
      try simp only [Act.put, List.getElem_toArray, List.getElem_cons_zero, List.getElem_cons_succ, List.setIfInBounds_toArray, List.set_cons_zero, List.set_cons_succ]
      refine wpAnyH_take (i := 2) (oi := _) (v := ?vT2) rfl (by kernel_rfl) (by kernel_rfl) (by kernel_rfl) (fun _ _ _ h => h) (Or.inl ⟨by rfl, ?yT2⟩) hHeld ?_
      case yT2 => (intro w hSw; (try dsimp only at hSw); go_simp <;> with_reducible rfl)
      try simp only [Act.put, List.getElem_toArray, List.getElem_cons_zero, List.getElem_cons_succ, List.setIfInBounds_toArray, List.set_cons_zero, List.set_cons_succ]
      refine wpAnyH_take (i := 3) (oi := _) (v := ?vT3) rfl (by kernel_rfl) (by kernel_rfl) (by kernel_rfl) (fun _ _ _ h => h) (Or.inl ⟨by rfl, ?yT3⟩) hHeld ?_
      case yT3 => (intro w hSw; (try dsimp only at hSw); go_simp <;> with_reducible rfl)
      try simp only [Act.put, List.getElem_toArray, List.getElem_cons_zero, List.getElem_cons_succ, List.setIfInBounds_toArray, List.set_cons_zero, List.set_cons_succ]
      refine wpAnyH_take (i := 4) (oi := _) (v := ?vT4) rfl (by kernel_rfl) (by kernel_rfl) (by kernel_rfl) (fun _ _ _ h => h) (Or.inl ⟨by rfl, ?yT4⟩) hHeld ?_
      case yT4 => (intro w hSw; (try dsimp only at hSw); go_simp <;> with_reducible rfl)
      try simp only [Act.put, List.getElem_toArray, List.getElem_cons_zero, List.getElem_cons_succ, List.setIfInBounds_toArray, List.set_cons_zero, List.set_cons_succ]
      obtain ⟨wd, hwd⟩ : ∃ wd, wd = wz.drew := ⟨_, rfl⟩
      rw [← hwd] at h0
      rw [← hwd]
      clear hwd
      refine wpAnyH_ready (rs := [0, 5]) (by kernel_rfl) (by simp) ?_
      refine AllReadyH.cons rfl (fun K hK => ?_) (AllReadyH.cons rfl (fun K hK => ?_) AllReadyH.nil)
      · have sd := hst.below h0
        have y0 := vblk_cell sd.N 0
        have y1 := vblk_cell sd.N 1
        have y2 := vblk_cell sd.N 2
        have y3 := vblk_cell sd.N 3
        have y4 := vblk_cell sd.N 4
        simp only [List.getElem?_toArray, List.getElem?_cons_succ, List.getElem?_cons_zero] at y0 y1 y2 y3 y4
        go_simp
        clear y0 y1 y2 y3 y4
        clear hHeld
        refine hK.out _ _ ?G5 (fun hHeld => ?_)
        case G5 => ((try dsimp only); exact KEEP.out _ h0)
        clear hK K
        try simp only [Act.put, List.getElem_toArray, List.getElem_cons_zero, List.getElem_cons_succ, List.setIfInBounds_toArray, List.set_cons_zero, List.set_cons_succ]
        refine wpAnyH_ready (rs := [5]) (by kernel_rfl) (by simp) ?_
        refine AllReadyH.cons rfl (fun K hK => ?_) AllReadyH.nil
        go_simp
        go_wp2_with (go_at_call 51; refine (HT.out _).mono ?_; rintro e wm ⟨rfl, bm⟩; unfold textV)
        have h1 : Below wz.heap.size wz wm := h0.trans (bm.mono h0.size)
        clear hHeld
        refine hK.out _ _ ?G6 (fun hHeld => ?_)
        case G6 => ((try dsimp only); exact KEEP.out _ h1)
        clear hK K
        try simp only [Act.put, List.getElem_toArray, List.getElem_cons_zero, List.getElem_cons_succ, List.setIfInBounds_toArray, List.set_cons_zero, List.set_cons_succ]
        have sm := hst.below h1
        have mm := hmk.keep h1.size (Kp.of h1 hmk.low)
        refine wpAnyH_ready (rs := [6]) (by kernel_rfl) (by simp) ?_
        refine AllReadyH.cons rfl (fun K hK => ?_) AllReadyH.nil
        go_simp
        go_wp2_with (go_at_call 50; refine (withKey_mk S1 (fun _ => False) (fun _ => False) _ _ _ _ _ _ _ 3 0 x.r [] [] _ mm (part_text _) s_r saneNil (fun _ h => h.elim) (fun _ h => h.elim) hkl hns).mono ?_; rintro e w2 ⟨c', u', rfl, mk2, ch2⟩)
        have lowM := more_low (m := w2.heap.size) (show w.heap.size + 4 ≤ wm.heap.size from sm.lt) hS1
        have hw2 : wz.heap.size ≤ w2.heap.size := Nat.le_trans h1.size ch2.size
        clear hHeld
        refine hK.out _ _ ?GA9 (fun hHeld => ?_)
        case GA9 => (exact KEEPC.out _ _ h1 ch2)
        clear hK K
        try simp only [Act.put, List.getElem_toArray, List.getElem_cons_zero, List.getElem_cons_succ, List.setIfInBounds_toArray, List.set_cons_zero, List.set_cons_succ]
        have s2 := sm.chg ch2 (fun b hb => hS1 b (mm.of_two b hb))
        obtain ⟨n2, qc2, cc2, qu2, cu2, hn2, ec2, eu2⟩ := mk2.slicesN
        subst ec2 eu2
        clear hn2
        refine wpAnyH_ready (rs := [7]) (by kernel_rfl) (by simp) ?_
        refine AllReadyH.cons rfl (fun K hK => ?_) AllReadyH.nil
        have y0 := vblk_cell s2.N 0
        have y1 := vblk_cell s2.N 1
        have y2 := vblk_cell s2.N 2
        have y3 := vblk_cell s2.N 3
        have y4 := vblk_cell s2.N 4
        simp only [List.getElem?_toArray, List.getElem?_cons_succ, List.getElem?_cons_zero] at y0 y1 y2 y3 y4
        have fx := vblk_frozen s2.N
        go_simp
        clear y0 y1 y2 y3 y4 fx
        clear hHeld
        refine hK.out _ (put5 w2 (w.heap.size + 1 + 1) (.slice qc2 n2 cc2) (.slice qu2 n2 cu2)) ?GB10 (fun hHeld => ?_)
        case GB10 => (exact KEEPD.out _ _ h1 ch2)
        clear hK K
        try simp only [Act.put, List.getElem_toArray, List.getElem_cons_zero, List.getElem_cons_succ, List.setIfInBounds_toArray, List.set_cons_zero, List.set_cons_succ]
        refine wpAnyH_done (by kernel_rfl) ?_ _
        clear hHeld
        have s3 := s2.putN (c' := .slice qc2 n2 cc2) (u' := .slice qu2 n2 cu2)
        have m3 := mk2.put (g := (w.heap.size + 1 + 1)) (a := .slice qc2 n2 cc2) (b := .slice qu2 n2 cu2) (fun k => by have := lowM _ k; omega)
        rw [← HTK.out.1, ← HTK.out.2] at m3
        have HF := hidden (And.intro s3 (And.intro m3 lowM))
        clear s3 m3 s2 mk2 mm sm ch2 h1 lowM
        go_wp2_with fail
        go_roundw
        case rel => exact ⟨k + 1, _, _, _, HLT.out, by go_num, HF.out.1, HF.out.2.1, HF.out.2.2⟩
        case measure => (have hlt9 := HLT.out; simp [intOf]; omega)
      · go_simp
        go_wp2_with (go_at_call 51; refine (HT.out _).mono ?_; rintro e wm ⟨rfl, bm⟩; unfold textV)
        have h1 : Below wz.heap.size wz wm := h0.trans (bm.mono h0.size)
        clear hHeld
        refine hK.out _ _ ?G7 (fun hHeld => ?_)
        case G7 => ((try dsimp only); exact KEEP.out _ h1)
        clear hK K
        try simp only [Act.put, List.getElem_toArray, List.getElem_cons_zero, List.getElem_cons_succ, List.setIfInBounds_toArray, List.set_cons_zero, List.set_cons_succ]
        have sm := hst.below h1
        refine wpAnyH_ready (rs := [0]) (by kernel_rfl) (by simp) ?_
        refine AllReadyH.cons rfl (fun K hK => ?_) AllReadyH.nil
        have y0 := vblk_cell sm.N 0
        have y1 := vblk_cell sm.N 1
        have y2 := vblk_cell sm.N 2
        have y3 := vblk_cell sm.N 3
        have y4 := vblk_cell sm.N 4
        simp only [List.getElem?_toArray, List.getElem?_cons_succ, List.getElem?_cons_zero] at y0 y1 y2 y3 y4
        go_simp
        clear y0 y1 y2 y3 y4
        clear hHeld
        refine hK.out _ _ ?G8 (fun hHeld => ?_)
        case G8 => ((try dsimp only); exact KEEP.out _ h1)
        clear hK K
        try simp only [Act.put, List.getElem_toArray, List.getElem_cons_zero, List.getElem_cons_succ, List.setIfInBounds_toArray, List.set_cons_zero, List.set_cons_succ]
        have sm := hst.below h1
        have mm := hmk.keep h1.size (Kp.of h1 hmk.low)
        refine wpAnyH_ready (rs := [6]) (by kernel_rfl) (by simp) ?_
        refine AllReadyH.cons rfl (fun K hK => ?_) AllReadyH.nil
        go_simp
        go_wp2_with (go_at_call 50; refine (withKey_mk S1 (fun _ => False) (fun _ => False) _ _ _ _ _ _ _ 3 0 x.r [] [] _ mm (part_text _) s_r saneNil (fun _ h => h.elim) (fun _ h => h.elim) hkl hns).mono ?_; rintro e w2 ⟨c', u', rfl, mk2, ch2⟩)
        have lowM := more_low (m := w2.heap.size) (show w.heap.size + 4 ≤ wm.heap.size from sm.lt) hS1
        have hw2 : wz.heap.size ≤ w2.heap.size := Nat.le_trans h1.size ch2.size
        clear hHeld
        refine hK.out _ _ ?GA11 (fun hHeld => ?_)
        case GA11 => (exact KEEPC.out _ _ h1 ch2)
        clear hK K
        try simp only [Act.put, List.getElem_toArray, List.getElem_cons_zero, List.getElem_cons_succ, List.setIfInBounds_toArray, List.set_cons_zero, List.set_cons_succ]
        have s2 := sm.chg ch2 (fun b hb => hS1 b (mm.of_two b hb))
        obtain ⟨n2, qc2, cc2, qu2, cu2, hn2, ec2, eu2⟩ := mk2.slicesN
        subst ec2 eu2
        clear hn2
        refine wpAnyH_ready (rs := [7]) (by kernel_rfl) (by simp) ?_
        refine AllReadyH.cons rfl (fun K hK => ?_) AllReadyH.nil
        have y0 := vblk_cell s2.N 0
        have y1 := vblk_cell s2.N 1
        have y2 := vblk_cell s2.N 2
        have y3 := vblk_cell s2.N 3
        have y4 := vblk_cell s2.N 4
        simp only [List.getElem?_toArray, List.getElem?_cons_succ, List.getElem?_cons_zero] at y0 y1 y2 y3 y4
        have fx := vblk_frozen s2.N
        go_simp
        clear y0 y1 y2 y3 y4 fx
        clear hHeld
        refine hK.out _ (put5 w2 (w.heap.size + 1 + 1) (.slice qc2 n2 cc2) (.slice qu2 n2 cu2)) ?GB12 (fun hHeld => ?_)
        case GB12 => (exact KEEPD.out _ _ h1 ch2)
        clear hK K
        try simp only [Act.put, List.getElem_toArray, List.getElem_cons_zero, List.getElem_cons_succ, List.setIfInBounds_toArray, List.set_cons_zero, List.set_cons_succ]
        refine wpAnyH_done (by kernel_rfl) ?_ _
        clear hHeld
        have s3 := s2.putN (c' := .slice qc2 n2 cc2) (u' := .slice qu2 n2 cu2)
        have m3 := mk2.put (g := (w.heap.size + 1 + 1)) (a := .slice qc2 n2 cc2) (b := .slice qu2 n2 cu2) (fun k => by have := lowM _ k; omega)
        rw [← HTK.out.1, ← HTK.out.2] at m3
        have HF := hidden (And.intro s3 (And.intro m3 lowM))
        clear s3 m3 s2 mk2 mm sm ch2 h1 lowM
        go_wp2_with fail
        go_roundw
        case rel => exact ⟨k + 1, _, _, _, HLT.out, by go_num, HF.out.1, HF.out.2.1, HF.out.2.2⟩
        case measure => (have hlt9 := HLT.out; simp [intOf]; omega)
    · have hk' : k = needs.length := by omega
      rw [hk', List.take_length] at hmk
      have hki : ¬ ((k : Int) < (needs.length : Int)) := by omega
      have x2 := vblk_cell (HBP.out ▸ hst.P) 2
      have x3 := vblk_cell (HBP.out ▸ hst.P) 3
      simp only [List.getElem?_toArray, List.getElem?_cons_succ, List.getElem?_cons_zero] at x2 x3
      obtain ⟨wo, hwo⟩ : ∃ wo, wo = wr := ⟨_, rfl⟩
      have HS0 := hidden (And.intro hst (And.intro hmk hS1))
      clear hmk hst hS1
      go_wp2_with fail
      go_loopw [30] (fun vi wr => ∃ (k2 : Nat) (c2 u2 : Value) (S2 : Nat → Prop), k2 ≤ cmds.length ∧ vi = .int .i64 (k2 : Int) ∧ PvS w wr BP c u c2 u2 ∧ Mk wr S2 c2 u2 ((cmds.take k2).map cmdT) ((cmds.take k2).map (·.t)) ∧ (∀ b, S2 b → w.heap.size + 4 ≤ b) ∧ Mk wr S1 c u (needs.map needT) (needs.map (·.n)) ∧ (∀ b, S2 b → ¬ S1 b)) (fun vi _ => cmds.length - (intOf vi).toNat)
      case atStart =>
        exact ⟨0, .slice none 0 0, .slice none 0 0, fun _ => False, Nat.zero_le _, rfl, HS0.out.1, by simpa using Mk.nil _, fun _ h => h.elim, HS0.out.2.1, fun _ h => h.elim⟩
      case round =>
        obtain ⟨k2, c2, u2, S2, hk2, rfl, hst, hmk, hS2, hmN, hap⟩ := hrel
        have hS1 := hidden HS0.out.2.2
        clear HS0 x2 x3
        by_cases hlt' : k2 < cmds.length
        · rcases ha2 with rfl | ⟨b, off, rfl, hlt, ha⟩
          · simp at hlt'
          obtain ⟨cs, hL, hcl⟩ := ha k2 hlt'
          replace hcl := hcl.keep (.of hst.B hB) hlt
          have hxw := wt_wtRow wtCmd (List.getElem_mem hlt')
          obtain ⟨x, hx⟩ : ∃ x, x = cmds[k2] := ⟨_, rfl⟩
          rw [← hx] at hL hxw
          have htk : ((cmds.take (k2 + 1)).map cmdT = (cmds.take k2).map cmdT ++ [.mk 4 0 ⟨#[]⟩ (x.acts.map textT) []] ∧ (cmds.take (k2 + 1)).map (·.t) = (cmds.take k2).map (·.t) ++ [x.t]) := by
            rw [List.take_succ_eq_append_getElem hlt', ← hx]; simp [cmdT, listT]
          have HTK := hidden htk
          clear htk
          obtain ⟨ua, rfl, s_t, ra, pa⟩ := hL
          obtain ⟨qa, capa, eua, _⟩ := id ra
          rw [length_strsV] at eua
          subst eua
          have e0 : wr.cell? ⟨b, off + k2 * 2, none⟩ = some (.string x.t) := hcl 0 (by simp)
          have e1 : wr.cell? ⟨b, off + k2 * 2 + 1, none⟩ = some (.slice qa x.acts.length capa) := hcl 1 (by simp)
          have hki2 : (k2 : Int) < (cmds.length : Int) := by omega
          have hrs : bulkS x.acts ≤ 1048576 := by have hw' := hw; simp only [wtPack] at hw'; simp only [wtCmd] at hxw; omega
          have hts : x.t.size ≤ 1048576 := by have hw' := hw; simp only [wtPack] at hw'; simp only [wtCmd] at hxw; omega
          have HT : Hid (∀ w1, Below w.heap.size w w1 → Calls Try.prog 52 #[.slice qa x.acts.length capa] w1 fun e w' => ∃ c, e = .returned (.agg #[.int .i64 4, .int .i64 0, .string ⟨#[]⟩, c, .slice none 0 0]) ∧ Part w' (fun b => w1.heap.size ≤ b ∧ b < w'.heap.size) (fun _ => False) c (.slice none 0 0) (x.acts.map textT) [] ∧ Below w1.heap.size w1 w') := fun w1 h1 =>
            texts_part _ _ w1 ((ra.keep (.of h1 hB)).reads (fun b hb => Nat.lt_of_lt_of_le (hB b hb) h1.size)) hrs pa
          clear ha hx hcl ra
          have HLT := hidden hlt'
          obtain ⟨n, qc, cc, qu, cu, hnl, rfl, rfl⟩ := hmk.slicesN
          clear hnl
          have hkl : (List.map (fun x => x.t) (List.take k2 cmds)).length ≤ 1048576 := by simp; omega
          go_wp2_with fail
          obtain ⟨wz, hwz⟩ : ∃ wz, wz = wr.alloc (.cells #[.string x.t, .slice qa x.acts.length capa] 86) := ⟨_, rfl⟩
          have hzb : Below wr.heap.size wr wz := hwz ▸ (Below.refl _ _).alloc (Nat.le_refl _) _
          have hz6 : wz.heap[wr.heap.size]? = some (.cells #[.string x.t, .slice qa x.acts.length capa] 86) := hwz ▸ vheap_new _ _
          rw [← hwz]
          clear hwz
          have KEEP : Hid (∀ w1, Below wz.heap.size wz w1 → w1.cell? ⟨wr.heap.size, 0, none⟩ = some (.string x.t) ∧ w1.cell? ⟨wr.heap.size, 1, none⟩ = some (.slice qa x.acts.length capa)) := fun w1 h => by
            have hg := (h.block _ (Array.getElem?_eq_some_iff.1 hz6).1).trans hz6
            exact ⟨by simpa using vblk_cell hg 0, by simpa using vblk_cell hg 1⟩
          have hrw : w.heap.size + 4 ≤ wr.heap.size := hst.lt
          have KEEPC : Hid (∀ w1 w2, Below wz.heap.size wz w1 → Chg (OfTwo (.slice qc n cc) (.slice qu n cu)) w1 w2 → w2.cell? ⟨wr.heap.size, 0, none⟩ = some (.string x.t) ∧ w2.cell? ⟨wr.heap.size, 1, none⟩ = some (.slice qa x.acts.length capa)) := fun w1 w2 h hc => by
            have hzl := (Array.getElem?_eq_some_iff.1 hz6).1
            have hg := (hc.block wr.heap.size (Nat.lt_of_lt_of_le hzl h.size) (fun k => by have := hmk.low _ (hmk.of_two _ k); omega)).trans ((h.block _ hzl).trans hz6)
            exact ⟨by simpa using vblk_cell hg 0, by simpa using vblk_cell hg 1⟩
          have KEEPD : Hid (∀ w1 w2 {a b : Value}, Below wz.heap.size wz w1 → Chg (OfTwo (.slice qc n cc) (.slice qu n cu)) w1 w2 → (put5 w2 (w.heap.size + 1 + 1 + 1) a b).cell? ⟨wr.heap.size, 0, none⟩ = some (.string x.t) ∧ (put5 w2 (w.heap.size + 1 + 1 + 1) a b).cell? ⟨wr.heap.size, 1, none⟩ = some (.slice qa x.acts.length capa)) := fun w1 w2 a b h hc => by
            have hzl := (Array.getElem?_eq_some_iff.1 hz6).1
            have hg := (put5_other (c := a) (u := b) (show wr.heap.size ≠ (w.heap.size + 1 + 1 + 1) by omega)).trans ((hc.block wr.heap.size (Nat.lt_of_lt_of_le hzl h.size) (fun k => by have := hmk.low _ (hmk.of_two _ k); omega)).trans ((h.block _ hzl).trans hz6))
            exact ⟨by simpa using vblk_cell hg 0, by simpa using vblk_cell hg 1⟩
          replace hst := hst.below hzb
          replace hmk := hmk.keep hzb.size (Kp.of hzb hmk.low)
          have h0 : Below wz.heap.size wz wz.drew := (Below.refl _ _).drew
          replace hmN := hmN.keep hzb.size (Kp.of hzb hmN.low)
          refine wp_region_held_drew (S := (fun w1 => w1.cell? ⟨wr.heap.size, 0, none⟩ = some (.string x.t) ∧ w1.cell? ⟨wr.heap.size, 1, none⟩ = some (.slice qa x.acts.length capa))) (by kernel_rfl) ?S0 (fun hHeld => ?_)
          case S0 => (exact KEEP.out _ h0)
          refine wpAnyH_take (i := 1) (oi := _) (v := ?vT13) rfl (by kernel_rfl) (by kernel_rfl) (by kernel_rfl) (fun _ _ _ h => h) (Or.inl ⟨by rfl, ?yT13⟩) hHeld ?_
          case yT13 => (intro w hSw; (try dsimp only at hSw); go_simp <;> with_reducible rfl)
          try simp only [Act.put, List.getElem_toArray, List.getElem_cons_zero, List.getElem_cons_succ, List.setIfInBounds_toArray, List.set_cons_zero, List.set_cons_succ]
          refine wpAnyH_take (i := 2) (oi := _) (v := ?vT14) rfl (by kernel_rfl) (by kernel_rfl) (by kernel_rfl) (fun _ _ _ h => h) (Or.inl ⟨by rfl, ?yT14⟩) hHeld ?_
          case yT14 => (intro w hSw; (try dsimp only at hSw); go_simp <;> with_reducible rfl)
          try simp only [Act.put, List.getElem_toArray, List.getElem_cons_zero, List.getElem_cons_succ, List.setIfInBounds_toArray, List.set_cons_zero, List.set_cons_succ]
          refine wpAnyH_take (i := 3) (oi := _) (v := ?vT15) rfl (by kernel_rfl) (by kernel_rfl) (by kernel_rfl) (fun _ _ _ h => h) (Or.inl ⟨by rfl, ?yT15⟩) hHeld ?_
          case yT15 => (intro w hSw; (try dsimp only at hSw); go_simp <;> with_reducible rfl)
          try simp only [Act.put, List.getElem_toArray, List.getElem_cons_zero, List.getElem_cons_succ, List.setIfInBounds_toArray, List.set_cons_zero, List.set_cons_succ]
          refine wpAnyH_take (i := 4) (oi := _) (v := ?vT16) rfl (by kernel_rfl) (by kernel_rfl) (by kernel_rfl) (fun _ _ _ h => h) (Or.inl ⟨by rfl, ?yT16⟩) hHeld ?_
          case yT16 => (intro w hSw; (try dsimp only at hSw); go_simp <;> with_reducible rfl)
          try simp only [Act.put, List.getElem_toArray, List.getElem_cons_zero, List.getElem_cons_succ, List.setIfInBounds_toArray, List.set_cons_zero, List.set_cons_succ]
          obtain ⟨wd, hwd⟩ : ∃ wd, wd = wz.drew := ⟨_, rfl⟩
          rw [← hwd] at h0
          rw [← hwd]
          clear hwd
          refine wpAnyH_ready (rs := [0, 5]) (by kernel_rfl) (by simp) ?_
          refine AllReadyH.cons rfl (fun K hK => ?_) (AllReadyH.cons rfl (fun K hK => ?_) AllReadyH.nil)
          · have sd := hst.below h0
            have y0 := vblk_cell sd.T 0
            have y1 := vblk_cell sd.T 1
            have y2 := vblk_cell sd.T 2
            have y3 := vblk_cell sd.T 3
            have y4 := vblk_cell sd.T 4
            simp only [List.getElem?_toArray, List.getElem?_cons_succ, List.getElem?_cons_zero] at y0 y1 y2 y3 y4
            go_simp
            clear y0 y1 y2 y3 y4
            clear hHeld
            refine hK.out _ _ ?G17 (fun hHeld => ?_)
            case G17 => ((try dsimp only); exact KEEP.out _ h0)
            clear hK K
            try simp only [Act.put, List.getElem_toArray, List.getElem_cons_zero, List.getElem_cons_succ, List.setIfInBounds_toArray, List.set_cons_zero, List.set_cons_succ]
            refine wpAnyH_ready (rs := [5]) (by kernel_rfl) (by simp) ?_
            refine AllReadyH.cons rfl (fun K hK => ?_) AllReadyH.nil
            go_simp
            go_wp2_with (go_at_call 52; refine (HT.out _ (hst.B.trans (h0.mono hst.B.size))).mono ?_; rintro e wm ⟨ca, rfl, pt, bm⟩)
            have h1 : Below wz.heap.size wz wm := h0.trans (bm.mono h0.size)
            clear hHeld
            refine hK.out _ _ ?G18 (fun hHeld => ?_)
            case G18 => ((try dsimp only); exact KEEP.out _ h1)
            clear hK K
            try simp only [Act.put, List.getElem_toArray, List.getElem_cons_zero, List.getElem_cons_succ, List.setIfInBounds_toArray, List.set_cons_zero, List.set_cons_succ]
            have sm := hst.below h1
            have mm := hmk.keep h1.size (Kp.of h1 hmk.low)
            refine wpAnyH_ready (rs := [6]) (by kernel_rfl) (by simp) ?_
            refine AllReadyH.cons rfl (fun K hK => ?_) AllReadyH.nil
            go_simp
            go_wp2_with (go_at_call 50; refine (withKey_mk S2 (fun b => wd.heap.size ≤ b ∧ b < wm.heap.size) (fun _ => False) _ _ _ _ _ _ _ 4 0 ⟨#[]⟩ (x.acts.map textT) [] _ mm pt (Nat.zero_le _) saneNil (fun b h => ⟨h.2, fun k => by have := hmk.low b k; have := h0.size; omega⟩) (fun _ h => h.elim) hkl hts).mono ?_; rintro e w2 ⟨c', u', rfl, mk2, ch2⟩)
            have lowM := more_low1 (m := w2.heap.size) (a := wd.heap.size) (b := wm.heap.size) (by have := hst.lt; have := h0.size; omega) (show w.heap.size + 4 ≤ wm.heap.size from sm.lt) hS2
            have hw2 : wz.heap.size ≤ w2.heap.size := Nat.le_trans h1.size ch2.size
            clear hHeld
            refine hK.out _ _ ?GA21 (fun hHeld => ?_)
            case GA21 => (exact KEEPC.out _ _ h1 ch2)
            clear hK K
            try simp only [Act.put, List.getElem_toArray, List.getElem_cons_zero, List.getElem_cons_succ, List.setIfInBounds_toArray, List.set_cons_zero, List.set_cons_succ]
            have s2 := sm.chg ch2 (fun b hb => hS2 b (mm.of_two b hb))
            obtain ⟨n2, qc2, cc2, qu2, cu2, hn2, ec2, eu2⟩ := mk2.slicesN
            subst ec2 eu2
            clear hn2
            refine wpAnyH_ready (rs := [7]) (by kernel_rfl) (by simp) ?_
            refine AllReadyH.cons rfl (fun K hK => ?_) AllReadyH.nil
            have y0 := vblk_cell s2.T 0
            have y1 := vblk_cell s2.T 1
            have y2 := vblk_cell s2.T 2
            have y3 := vblk_cell s2.T 3
            have y4 := vblk_cell s2.T 4
            simp only [List.getElem?_toArray, List.getElem?_cons_succ, List.getElem?_cons_zero] at y0 y1 y2 y3 y4
            have fx := vblk_frozen s2.T
            go_simp
            clear y0 y1 y2 y3 y4 fx
            clear hHeld
            refine hK.out _ (put5 w2 (w.heap.size + 1 + 1 + 1) (.slice qc2 n2 cc2) (.slice qu2 n2 cu2)) ?GB22 (fun hHeld => ?_)
            case GB22 => (exact KEEPD.out _ _ h1 ch2)
            clear hK K
            try simp only [Act.put, List.getElem_toArray, List.getElem_cons_zero, List.getElem_cons_succ, List.setIfInBounds_toArray, List.set_cons_zero, List.set_cons_succ]
            refine wpAnyH_done (by kernel_rfl) ?_ _
            clear hHeld
            have s3 := s2.putT (c' := .slice qc2 n2 cc2) (u' := .slice qu2 n2 cu2)
            have m3 := mk2.put (g := (w.heap.size + 1 + 1 + 1)) (a := .slice qc2 n2 cc2) (b := .slice qu2 n2 cu2) (fun k => by have := lowM _ k; omega)
            have mN1 := hmN.keep h1.size (Kp.of h1 hmN.low)
            have mN2 := mN1.keep ch2.size (ch2.kp (fun b hb => ⟨mN1.low b hb, fun k => hap b (mm.of_two b k) hb⟩))
            have mN3 := mN2.put (g := (w.heap.size + 1 + 1 + 1)) (a := .slice qc2 n2 cc2) (b := .slice qu2 n2 cu2) (fun k => by have := hS1.out _ k; omega)
            have apM := more_apart (m := w2.heap.size) hap hmN.low (Nat.le_trans h0.size bm.size) (a := wd.heap.size) (b := wm.heap.size) h0.size
            rw [← HTK.out.1, ← HTK.out.2] at m3
            have HF := hidden (And.intro s3 (And.intro m3 (And.intro lowM (And.intro mN3 apM))))
            clear s3 m3 s2 mk2 mm sm ch2 h1 lowM mN1 mN2 mN3 apM
            go_wp2_with fail
            go_roundw
            case rel => exact ⟨k2 + 1, _, _, _, HLT.out, by go_num, HF.out.1, HF.out.2.1, HF.out.2.2.1, HF.out.2.2.2.1, HF.out.2.2.2.2⟩
            case measure => (have hlt9 := HLT.out; simp [intOf]; omega)
          · go_simp
            go_wp2_with (go_at_call 52; refine (HT.out _ (hst.B.trans (h0.mono hst.B.size))).mono ?_; rintro e wm ⟨ca, rfl, pt, bm⟩)
            have h1 : Below wz.heap.size wz wm := h0.trans (bm.mono h0.size)
            clear hHeld
            refine hK.out _ _ ?G19 (fun hHeld => ?_)
            case G19 => ((try dsimp only); exact KEEP.out _ h1)
            clear hK K
            try simp only [Act.put, List.getElem_toArray, List.getElem_cons_zero, List.getElem_cons_succ, List.setIfInBounds_toArray, List.set_cons_zero, List.set_cons_succ]
            have sm := hst.below h1
            refine wpAnyH_ready (rs := [0]) (by kernel_rfl) (by simp) ?_
            refine AllReadyH.cons rfl (fun K hK => ?_) AllReadyH.nil
            have y0 := vblk_cell sm.T 0
            have y1 := vblk_cell sm.T 1
            have y2 := vblk_cell sm.T 2
            have y3 := vblk_cell sm.T 3
            have y4 := vblk_cell sm.T 4
            simp only [List.getElem?_toArray, List.getElem?_cons_succ, List.getElem?_cons_zero] at y0 y1 y2 y3 y4
            go_simp
            clear y0 y1 y2 y3 y4
            clear hHeld
            refine hK.out _ _ ?G20 (fun hHeld => ?_)
            case G20 => ((try dsimp only); exact KEEP.out _ h1)
            clear hK K
            try simp only [Act.put, List.getElem_toArray, List.getElem_cons_zero, List.getElem_cons_succ, List.setIfInBounds_toArray, List.set_cons_zero, List.set_cons_succ]
            have sm := hst.below h1
            have mm := hmk.keep h1.size (Kp.of h1 hmk.low)
            refine wpAnyH_ready (rs := [6]) (by kernel_rfl) (by simp) ?_
            refine AllReadyH.cons rfl (fun K hK => ?_) AllReadyH.nil
            go_simp
            go_wp2_with (go_at_call 50; refine (withKey_mk S2 (fun b => wd.heap.size ≤ b ∧ b < wm.heap.size) (fun _ => False) _ _ _ _ _ _ _ 4 0 ⟨#[]⟩ (x.acts.map textT) [] _ mm pt (Nat.zero_le _) saneNil (fun b h => ⟨h.2, fun k => by have := hmk.low b k; have := h0.size; omega⟩) (fun _ h => h.elim) hkl hts).mono ?_; rintro e w2 ⟨c', u', rfl, mk2, ch2⟩)
            have lowM := more_low1 (m := w2.heap.size) (a := wd.heap.size) (b := wm.heap.size) (by have := hst.lt; have := h0.size; omega) (show w.heap.size + 4 ≤ wm.heap.size from sm.lt) hS2
            have hw2 : wz.heap.size ≤ w2.heap.size := Nat.le_trans h1.size ch2.size
            clear hHeld
            refine hK.out _ _ ?GA23 (fun hHeld => ?_)
            case GA23 => (exact KEEPC.out _ _ h1 ch2)
            clear hK K
            try simp only [Act.put, List.getElem_toArray, List.getElem_cons_zero, List.getElem_cons_succ, List.setIfInBounds_toArray, List.set_cons_zero, List.set_cons_succ]
            have s2 := sm.chg ch2 (fun b hb => hS2 b (mm.of_two b hb))
            obtain ⟨n2, qc2, cc2, qu2, cu2, hn2, ec2, eu2⟩ := mk2.slicesN
            subst ec2 eu2
            clear hn2
            refine wpAnyH_ready (rs := [7]) (by kernel_rfl) (by simp) ?_
            refine AllReadyH.cons rfl (fun K hK => ?_) AllReadyH.nil
            have y0 := vblk_cell s2.T 0
            have y1 := vblk_cell s2.T 1
            have y2 := vblk_cell s2.T 2
            have y3 := vblk_cell s2.T 3
            have y4 := vblk_cell s2.T 4
            simp only [List.getElem?_toArray, List.getElem?_cons_succ, List.getElem?_cons_zero] at y0 y1 y2 y3 y4
            have fx := vblk_frozen s2.T
            go_simp
            clear y0 y1 y2 y3 y4 fx
            clear hHeld
            refine hK.out _ (put5 w2 (w.heap.size + 1 + 1 + 1) (.slice qc2 n2 cc2) (.slice qu2 n2 cu2)) ?GB24 (fun hHeld => ?_)
            case GB24 => (exact KEEPD.out _ _ h1 ch2)
            clear hK K
            try simp only [Act.put, List.getElem_toArray, List.getElem_cons_zero, List.getElem_cons_succ, List.setIfInBounds_toArray, List.set_cons_zero, List.set_cons_succ]
            refine wpAnyH_done (by kernel_rfl) ?_ _
            clear hHeld
            have s3 := s2.putT (c' := .slice qc2 n2 cc2) (u' := .slice qu2 n2 cu2)
            have m3 := mk2.put (g := (w.heap.size + 1 + 1 + 1)) (a := .slice qc2 n2 cc2) (b := .slice qu2 n2 cu2) (fun k => by have := lowM _ k; omega)
            have mN1 := hmN.keep h1.size (Kp.of h1 hmN.low)
            have mN2 := mN1.keep ch2.size (ch2.kp (fun b hb => ⟨mN1.low b hb, fun k => hap b (mm.of_two b k) hb⟩))
            have mN3 := mN2.put (g := (w.heap.size + 1 + 1 + 1)) (a := .slice qc2 n2 cc2) (b := .slice qu2 n2 cu2) (fun k => by have := hS1.out _ k; omega)
            have apM := more_apart (m := w2.heap.size) hap hmN.low (Nat.le_trans h0.size bm.size) (a := wd.heap.size) (b := wm.heap.size) h0.size
            rw [← HTK.out.1, ← HTK.out.2] at m3
            have HF := hidden (And.intro s3 (And.intro m3 (And.intro lowM (And.intro mN3 apM))))
            clear s3 m3 s2 mk2 mm sm ch2 h1 lowM mN1 mN2 mN3 apM
            go_wp2_with fail
            go_roundw
            case rel => exact ⟨k2 + 1, _, _, _, HLT.out, by go_num, HF.out.1, HF.out.2.1, HF.out.2.2.1, HF.out.2.2.2.1, HF.out.2.2.2.2⟩
            case measure => (have hlt9 := HLT.out; simp [intOf]; omega)
        · have hk9 : k2 = cmds.length := by omega
          rw [hk9, List.take_length] at hmk
          have hki2 : ¬ ((k2 : Int) < (cmds.length : Int)) := by omega
          have p1 := vblk_cell (HBP.out ▸ hst.P) 0
          simp only [List.getElem?_toArray, List.getElem?_cons_succ, List.getElem?_cons_zero] at p1
          have hnm : name.size ≤ 1048576 := by have hw' := hw; simp only [wtPack] at hw'; omega
          have HTN := hidden (fun w1 => valOfText_c name hnm w1)
          obtain ⟨nN, qc, cc, qu, cu, hnl, rfl, rfl⟩ := hmN.slicesN
          clear hnl
          obtain ⟨nT, qt, ct, qv, cv, hnl, rfl, rfl⟩ := hmk.slicesN
          clear hnl
          have HA := hidden (And.intro hst (And.intro hmk (And.intro hmN (And.intro hap hS2))))
          clear hst hmk hmN hap hS2
          go_wp2_with fail
          go_at_call 51
          refine (HTN.out _).mono ?_
          rintro e wA ⟨rfl, bA⟩
          unfold textV
          clear p1
          go_wp2_with fail
          go_at_call 50
          refine (withKey_mk (fun _ => False) (fun _ => False) (fun _ => False) _ _ _ _ [] [] _ 3 0 name [] [] _ (Mk.nil _) (part_text _) s_name saneNil (fun _ h => h.elim) (fun _ h => h.elim) (Nat.zero_le _) (by decide)).mono ?_
          rintro e wB ⟨c3, u3, rfl, mk3, ch3⟩
          have bB : Below wA.heap.size wA wB := ch3.none
          obtain ⟨n3, q3, d3, r3, f3, hnl, rfl, rfl⟩ := mk3.slicesN
          clear hnl ch3
          have hbz : Below wr.heap.size wr wB := bA.trans (bB.mono bA.size)
          have sB := HA.out.1.below hbz
          obtain ⟨wC, hwC⟩ : ∃ wC, wC = wB.alloc (.cells #[.int .i64 5, .int .i64 0, .string ⟨#[]⟩, .slice q3 n3 d3, .slice r3 n3 f3] 30) := ⟨_, rfl⟩
          have bC : Below wB.heap.size wB wC := hwC ▸ (Below.refl _ _).alloc (Nat.le_refl _) _
          have z9 : wC.heap[wB.heap.size]? = some (boxM (.slice q3 n3 d3) (.slice r3 n3 f3)) := hwC ▸ vheap_new _ _
          have sC := sB.below bC
          have z0 := vblk_cell z9 0
          have z1 := vblk_cell z9 1
          have z2 := vblk_cell z9 2
          have z3 := vblk_cell z9 3
          have z4 := vblk_cell z9 4
          simp only [List.getElem?_toArray, List.getElem?_cons_succ, List.getElem?_cons_zero] at z0 z1 z2 z3 z4
          have y0 := vblk_cell sC.N 0
          have y1 := vblk_cell sC.N 1
          have y2 := vblk_cell sC.N 2
          have y3 := vblk_cell sC.N 3
          have y4 := vblk_cell sC.N 4
          simp only [List.getElem?_toArray, List.getElem?_cons_succ, List.getElem?_cons_zero] at y0 y1 y2 y3 y4
          have HC := hidden (And.intro sC z9)
          clear sC z9 sB
          simp only [hwC] at z0 z1 z2 z3 z4 y0 y1 y2 y3 y4
          go_wp2_with fail
          rw [← hwC]
          clear z0 z1 z2 z3 z4 y0 y1 y2 y3 y4 hwC
          have bzC : Below wr.heap.size wr wC := hbz.trans (bC.mono hbz.size)
          have l3 := more_low (m := wB.heap.size) (lo := wr.heap.size) bA.size (fun _ (h : False) => h.elim)
          have mkC := mk3.keep bC.size (Kp.of bC mk3.low)
          have mNC := HA.out.2.2.1.keep bzC.size (Kp.of bzC HA.out.2.2.1.low)
          obtain ⟨R1, R2, ptN, hR1, hR2⟩ := mNC.part (by simp; unfold maxLen; omega)
          refine (withKey_mk _ R1 R2 _ _ _ _ _ _ _ 5 0 ⟨#[]⟩ (needs.map needT) (needs.map (·.n)) _ mkC ptN (Nat.zero_le _) hsaneN.out (fun b h => ⟨mNC.low b (hR1 b h), fun k => by have := l3 b k; have := HA.out.2.2.1.low b (hR1 b h); omega⟩) (fun b h => ⟨mNC.low b (hR2 b h), fun k => by have := l3 b k; have := HA.out.2.2.1.low b (hR2 b h); omega⟩) (by simp) (by decide)).mono ?_
          rintro e wD ⟨c4, u4, rfl, mk4, ch4⟩
          obtain ⟨n4, q4, d4, r4, f4, hnl, rfl, rfl⟩ := mk4.slicesN
          clear hnl
          have l4 : ∀ b, More (More (fun _ => False) (fun _ => False) (fun _ => False) wA.heap.size wB.heap.size) R1 R2 wC.heap.size wD.heap.size b → (b ≠ wB.heap.size ∧ w.heap.size + 4 ≤ b) ∧ ¬ S2 b := by
            have hh := HA.out.1.lt
            have e9 := (Array.getElem?_eq_some_iff.1 HC.out.2).1
            rintro b (k | k | k | k)
            · have h1 := l3 b k
              have h2 := mk3.low b k
              exact ⟨⟨by omega, by omega⟩, fun k2 => by have := HA.out.2.1.low b k2; omega⟩
            · have h1 := hR1 b k
              have h2 := HA.out.2.2.1.low b h1
              have h3 := hS1.out b h1
              have h4 := hbz.size
              exact ⟨⟨by omega, h3⟩, fun k2 => HA.out.2.2.2.1 b k2 h1⟩
            · have h1 := hR2 b k
              have h2 := HA.out.2.2.1.low b h1
              have h3 := hS1.out b h1
              have h4 := hbz.size
              exact ⟨⟨by omega, h3⟩, fun k2 => HA.out.2.2.2.1 b k2 h1⟩
            · have h4 := hbz.size
              exact ⟨⟨by omega, by omega⟩, fun k2 => by have := HA.out.2.1.low b k2; omega⟩
          have hof : ∀ b, OfTwo (.slice q3 n3 d3) (.slice r3 n3 f3) b → wr.heap.size ≤ b ∧ b < wB.heap.size := fun b k => ⟨l3 b (mk3.of_two b k), mk3.low b (mk3.of_two b k)⟩
          have sD := HC.out.1.chg ch4 (fun b k => by have := (hof b k).1; have := HA.out.1.lt; omega)
          have e9 := (Array.getElem?_eq_some_iff.1 HC.out.2).1
          have z9 := (ch4.block wB.heap.size e9 (fun k => by have := (hof _ k).2; omega)).trans HC.out.2
          have mTC := HA.out.2.1.keep bzC.size (Kp.of bzC HA.out.2.1.low)
          have mTD := mTC.keep ch4.size (ch4.kp (fun b hb => ⟨mTC.low b hb, fun k => by have := (hof b k).1; have := HA.out.2.1.low b hb; omega⟩))
          have hne : ¬ (w.heap.size + 1 + 1 + 1 = wB.heap.size) := by have := HA.out.1.lt; have := hbz.size; omega
          have hne' : ¬ (wB.heap.size = w.heap.size + 1 + 1 + 1) := fun e => hne e.symm
          have z0 := vblk_cell z9 0
          have z1 := vblk_cell z9 1
          have z2 := vblk_cell z9 2
          have z3 := vblk_cell z9 3
          have z4 := vblk_cell z9 4
          simp only [List.getElem?_toArray, List.getElem?_cons_succ, List.getElem?_cons_zero] at z0 z1 z2 z3 z4
          have y0 := vblk_cell sD.T 0
          have y1 := vblk_cell sD.T 1
          have y2 := vblk_cell sD.T 2
          have y3 := vblk_cell sD.T 3
          have y4 := vblk_cell sD.T 4
          simp only [List.getElem?_toArray, List.getElem?_cons_succ, List.getElem?_cons_zero] at y0 y1 y2 y3 y4
          have fz := vblk_frozen z9
          obtain ⟨S4, eS4⟩ : ∃ S4, S4 = More (More (fun _ => False) (fun _ => False) (fun _ => False) wA.heap.size wB.heap.size) R1 R2 wC.heap.size wD.heap.size := ⟨_, rfl⟩
          rw [← eS4] at mk4 l4
          clear eS4
          have HD := hidden (And.intro sD (And.intro z9 (And.intro mTD (And.intro mk4 l4))))
          have hS2 := hidden HA.out.2.2.2.2
          have hTlow := hidden HA.out.2.1.low
          have hrC := hidden bzC.size
          have hrB := hidden hbz.size
          have HZ := hidden (show w.heap.size + 4 ≤ wB.heap.size by have := HA.out.1.lt; have := hbz.size; omega)
          clear sD z9 mTD mk4 l4 hof e9 mTC ptN hR1 hR2 mNC mkC l3 mk3 HA HC ch4 bA bB bC hbz bzC
          go_wp2_with fail
          clear z0 z1 z2 z3 z4 y0 y1 y2 y3 y4 fz
          obtain ⟨wE, hwE⟩ : ∃ wE, wE = put5 wD wB.heap.size (.slice q4 n4 d4) (.slice r4 n4 f4) := ⟨_, rfl⟩
          change Calls _ _ _ (put5 wD wB.heap.size (.slice q4 n4 d4) (.slice r4 n4 f4)) _
          rw [← hwE]
          have g4 : w.heap.size + 4 ≤ wB.heap.size := HZ.out
          have sE : PvS w wE BP _ _ _ _ := hwE ▸ HD.out.1.putO g4
          have z9E : wE.heap[wB.heap.size]? = some (boxM (.slice q4 n4 d4) (.slice r4 n4 f4)) := hwE ▸ put5_same HD.out.2.1
          have hS2g : ¬ S2 wB.heap.size := fun k => by have := hTlow.out _ k; have := hrB.out; omega
          have mTE : Mk wE S2 _ _ _ _ := hwE ▸ HD.out.2.2.1.put hS2g
          have mkE : Mk wE _ _ _ _ _ := hwE ▸ HD.out.2.2.2.1.put (fun k => (HD.out.2.2.2.2 _ k).1.1 rfl)
          have l4 := HD.out.2.2.2.2
          obtain ⟨R3, R4, ptT, hR3, hR4⟩ := mTE.part (by simp; unfold maxLen; omega)
          refine (withKey_mk _ R3 R4 _ _ _ _ _ _ _ 5 0 ⟨#[]⟩ (cmds.map cmdT) (cmds.map (·.t)) _ mkE ptT (Nat.zero_le _) hsaneT.out (fun b h => ⟨mTE.low b (hR3 b h), fun k => (l4 b k).2 (hR3 b h)⟩) (fun b h => ⟨mTE.low b (hR4 b h), fun k => (l4 b k).2 (hR4 b h)⟩) (by simp) (by decide)).mono ?_
          rintro e wF ⟨c5, u5, rfl, mk5, ch5⟩
          obtain ⟨n5, q5, d5, r5, f5, hnl, rfl, rfl⟩ := mk5.slicesN
          clear hnl hwE
          have e9 := (Array.getElem?_eq_some_iff.1 z9E).1
          have l5 : ∀ b, More S4 R3 R4 wE.heap.size wF.heap.size b → b ≠ wB.heap.size ∧ w.heap.size + 4 ≤ b := by
            rintro b (k | k | k | k)
            · exact (l4 b k).1
            · have h1 := hR3 b k
              exact ⟨fun e => hS2g (e ▸ h1), hS2.out b h1⟩
            · have h1 := hR4 b k
              exact ⟨fun e => hS2g (e ▸ h1), hS2.out b h1⟩
            · exact ⟨by omega, by omega⟩
          have sF := sE.chg ch5 (fun b k => (l4 b (mkE.of_two b k)).1.2)
          have z9F := (ch5.block wB.heap.size e9 (fun k => (l4 _ (mkE.of_two _ k)).1.1 rfl)).trans z9E
          have fz := vblk_frozen z9F
          have z0 := vblk_cell z9F 0
          have z1 := vblk_cell z9F 1
          have z2 := vblk_cell z9F 2
          have z3 := vblk_cell z9F 3
          have z4 := vblk_cell z9F 4
          simp only [List.getElem?_toArray, List.getElem?_cons_succ, List.getElem?_cons_zero] at z0 z1 z2 z3 z4
          obtain ⟨S5, eS5⟩ : ∃ S5, S5 = More S4 R3 R4 wE.heap.size wF.heap.size := ⟨_, rfl⟩
          rw [← eS5] at mk5 l5
          clear eS5
          have HE := hidden (And.intro sF (And.intro z9F (And.intro mk5 (And.intro l5 g4))))
          clear sF z9F mk5 l5 e9 mTE mkE ptT hR3 hR4 l4 HD ch5 sE z9E hne hne'
          go_wp2_with fail
          clear z0 z1 z2 z3 z4 fz
          obtain ⟨wz, hwz⟩ : ∃ wz, wz = put5 wF wB.heap.size (.slice q5 n5 d5) (.slice r5 n5 f5) := ⟨_, rfl⟩
          change Code.wp _ _ _ _ (put5 wF wB.heap.size (.slice q5 n5 d5) (.slice r5 n5 f5))
          rw [← hwz]
          have g4 := HE.out.2.2.2.2
          have hst : PvS w wz BP _ _ _ _ := hwz ▸ HE.out.1.putO g4
          have z9 : wz.heap[wB.heap.size]? = some (boxM (.slice q5 n5 d5) (.slice r5 n5 f5)) := hwz ▸ put5_same HE.out.2.1
          have l5 := HE.out.2.2.2.1
          have hmk : Mk wz S5 (.slice q5 n5 d5) (.slice r5 n5 f5) _ _ := hwz ▸ HE.out.2.2.1.put (fun k => (l5 _ k).1 rfl)
          clear hwz HE
          have hP : wz.heap[w.heap.size]? = some (.cells #[.string name, .slice q0 uses.length cap0, .slice q1 needs.length cap1, .slice q2 cmds.length cap2] 42 (0, 0)) := HBP.out ▸ hst.P
          have KEEP : Hid (∀ w1, Below wz.heap.size wz w1 → w1.cell? ⟨w.heap.size, 1, none⟩ = some (.slice q0 uses.length cap0)) := fun w1 h => by
            have hg := (h.block _ (Array.getElem?_eq_some_iff.1 hP).1).trans hP
            simpa using vblk_cell hg 1
          have KEEPC : Hid (∀ w1 w2, Below wz.heap.size wz w1 → Chg (OfTwo (.slice q5 n5 d5) (.slice r5 n5 f5)) w1 w2 → w2.cell? ⟨w.heap.size, 1, none⟩ = some (.slice q0 uses.length cap0)) := fun w1 w2 h hc => by
            have hzl := (Array.getElem?_eq_some_iff.1 hP).1
            have hg := (hc.block w.heap.size (Nat.lt_of_lt_of_le hzl h.size) (fun k => by have := (l5 _ (hmk.of_two _ k)).2; omega)).trans ((h.block _ hzl).trans hP)
            simpa using vblk_cell hg 1
          have KEEPD : Hid (∀ w1 w2 {a b : Value}, Below wz.heap.size wz w1 → Chg (OfTwo (.slice q5 n5 d5) (.slice r5 n5 f5)) w1 w2 → (put5 w2 (w.heap.size + 1) a b).cell? ⟨w.heap.size, 1, none⟩ = some (.slice q0 uses.length cap0)) := fun w1 w2 a b h hc => by
            have hzl := (Array.getElem?_eq_some_iff.1 hP).1
            have hg := (put5_other (c := a) (u := b) (show w.heap.size ≠ w.heap.size + 1 by omega)).trans ((hc.block w.heap.size (Nat.lt_of_lt_of_le hzl h.size) (fun k => by have := (l5 _ (hmk.of_two _ k)).2; omega)).trans ((h.block _ hzl).trans hP))
            simpa using vblk_cell hg 1
          have hus : bulkS uses ≤ 1048576 := by have hw' := hw; simp only [wtPack] at hw'; omega
          have HT : Hid (∀ w1, Below w.heap.size w w1 → Calls Try.prog 52 #[.slice q0 uses.length cap0] w1 fun e w' => ∃ c, e = .returned (.agg #[.int .i64 4, .int .i64 0, .string ⟨#[]⟩, c, .slice none 0 0]) ∧ Part w' (fun b => w1.heap.size ≤ b ∧ b < w'.heap.size) (fun _ => False) c (.slice none 0 0) (uses.map textT) [] ∧ Below w1.heap.size w1 w') := fun w1 h1 =>
            texts_part _ _ w1 ((r0.keep (.of h1 hB)).reads (fun b hb => Nat.lt_of_lt_of_le (hB b hb) h1.size)) hus p0
          have h0 : Below wz.heap.size wz wz.drew := (Below.refl _ _).drew
          refine wp_region_held_drew (S := (fun w1 => w1.cell? ⟨w.heap.size, 1, none⟩ = some (.slice q0 uses.length cap0))) (by kernel_rfl) ?S0 (fun hHeld => ?_)
          case S0 => (exact KEEP.out _ h0)
          refine wpAnyH_take (i := 1) (oi := _) (v := ?vT25) rfl (by kernel_rfl) (by kernel_rfl) (by kernel_rfl) (fun _ _ _ h => h) (Or.inl ⟨by rfl, ?yT25⟩) hHeld ?_
          case yT25 => (intro w hSw; (try dsimp only at hSw); go_simp <;> with_reducible rfl)
          try simp only [Act.put, List.getElem_toArray, List.getElem_cons_zero, List.getElem_cons_succ, List.setIfInBounds_toArray, List.set_cons_zero, List.set_cons_succ]
          refine wpAnyH_take (i := 2) (oi := _) (v := ?vT26) rfl (by kernel_rfl) (by kernel_rfl) (by kernel_rfl) (fun _ _ _ h => h) (Or.inl ⟨by rfl, ?yT26⟩) hHeld ?_
          case yT26 => (intro w hSw; (try dsimp only at hSw); go_simp <;> with_reducible rfl)
          try simp only [Act.put, List.getElem_toArray, List.getElem_cons_zero, List.getElem_cons_succ, List.setIfInBounds_toArray, List.set_cons_zero, List.set_cons_succ]
          obtain ⟨wd, hwd⟩ : ∃ wd, wd = wz.drew := ⟨_, rfl⟩
          rw [← hwd] at h0
          rw [← hwd]
          clear hwd
          refine wpAnyH_ready (rs := [0, 3]) (by kernel_rfl) (by simp) ?_
          refine AllReadyH.cons rfl (fun K hK => ?_) (AllReadyH.cons rfl (fun K hK => ?_) AllReadyH.nil)
          · have zz := (h0.block _ (Array.getElem?_eq_some_iff.1 z9).1).trans z9
            have y0 := vblk_cell zz 0
            have y1 := vblk_cell zz 1
            have y2 := vblk_cell zz 2
            have y3 := vblk_cell zz 3
            have y4 := vblk_cell zz 4
            simp only [List.getElem?_toArray, List.getElem?_cons_succ, List.getElem?_cons_zero] at y0 y1 y2 y3 y4
            go_simp
            clear y0 y1 y2 y3 y4
            clear hHeld
            refine hK.out _ _ ?G27 (fun hHeld => ?_)
            case G27 => ((try dsimp only); exact KEEP.out _ h0)
            clear hK K
            try simp only [Act.put, List.getElem_toArray, List.getElem_cons_zero, List.getElem_cons_succ, List.setIfInBounds_toArray, List.set_cons_zero, List.set_cons_succ]
            refine wpAnyH_ready (rs := [3]) (by kernel_rfl) (by simp) ?_
            refine AllReadyH.cons rfl (fun K hK => ?_) AllReadyH.nil
            go_simp
            go_wp2_with (go_at_call 52; refine (HT.out _ (hst.B.trans (h0.mono hst.B.size))).mono ?_; rintro e wm ⟨ca, rfl, pt, bm⟩)
            have h1 : Below wz.heap.size wz wm := h0.trans (bm.mono h0.size)
            clear hHeld
            refine hK.out _ _ ?G28 (fun hHeld => ?_)
            case G28 => ((try dsimp only); exact KEEP.out _ h1)
            clear hK K
            try simp only [Act.put, List.getElem_toArray, List.getElem_cons_zero, List.getElem_cons_succ, List.setIfInBounds_toArray, List.set_cons_zero, List.set_cons_succ]
            have sm := hst.below h1
            have mm := hmk.keep h1.size (Kp.of h1 hmk.low)
            refine wpAnyH_ready (rs := [4]) (by kernel_rfl) (by simp) ?_
            refine AllReadyH.cons rfl (fun K hK => ?_) AllReadyH.nil
            go_simp
            go_wp2_with (go_at_call 50; refine (withKey_mk S5 (fun b => wd.heap.size ≤ b ∧ b < wm.heap.size) (fun _ => False) _ _ _ _ _ _ _ 4 0 ⟨#[]⟩ (uses.map textT) [] _ mm pt (Nat.zero_le _) saneNil (fun b h => ⟨h.2, fun k => by have := hmk.low b k; have := h0.size; omega⟩) (fun _ h => h.elim) (by simp) (by decide)).mono ?_; rintro e w2 ⟨c', u', rfl, mk2, ch2⟩)
            have lowM := more_low1 (m := w2.heap.size) (a := wd.heap.size) (b := wm.heap.size) (by have := hst.lt; have := h0.size; omega) (show w.heap.size + 4 ≤ wm.heap.size from sm.lt) (fun b h => (l5 b h).2)
            clear hHeld
            refine hK.out _ _ ?GA31 (fun hHeld => ?_)
            case GA31 => (exact KEEPC.out _ _ h1 ch2)
            clear hK K
            try simp only [Act.put, List.getElem_toArray, List.getElem_cons_zero, List.getElem_cons_succ, List.setIfInBounds_toArray, List.set_cons_zero, List.set_cons_succ]
            have s2 := sm.chg ch2 (fun b hb => (l5 b (mm.of_two b hb)).2)
            obtain ⟨n2, qc2, cc2, qu2, cu2, hn2, ec2, eu2⟩ := mk2.slicesN
            subst ec2 eu2
            clear hn2
            refine wpAnyH_ready (rs := [5]) (by kernel_rfl) (by simp) ?_
            refine AllReadyH.cons rfl (fun K hK => ?_) AllReadyH.nil
            have y0 := vblk_cell s2.R 0
            have y1 := vblk_cell s2.R 1
            have y2 := vblk_cell s2.R 2
            have y3 := vblk_cell s2.R 3
            have y4 := vblk_cell s2.R 4
            simp only [List.getElem?_toArray, List.getElem?_cons_succ, List.getElem?_cons_zero] at y0 y1 y2 y3 y4
            have fx := vblk_frozen s2.R
            go_simp
            clear y0 y1 y2 y3 y4 fx
            clear hHeld
            refine hK.out _ (put5 w2 (w.heap.size + 1) (.slice qc2 n2 cc2) (.slice qu2 n2 cu2)) ?GB31 (fun hHeld => ?_)
            case GB31 => (exact KEEPD.out _ _ h1 ch2)
            clear hK K
            try simp only [Act.put, List.getElem_toArray, List.getElem_cons_zero, List.getElem_cons_succ, List.setIfInBounds_toArray, List.set_cons_zero, List.set_cons_succ]
            refine wpAnyH_done (by kernel_rfl) ?_ _
            clear hHeld
            have zR := put5_zero (c := .slice qc2 n2 cc2) (u := .slice qu2 n2 cu2) s2.R
            have m3 := (mk2.put (g := w.heap.size + 1) (a := .slice qc2 n2 cc2) (b := .slice qu2 n2 cu2) (fun k => by have := lowM _ k; omega)).mono (S' := fun b => w.heap.size ≤ b ∧ b < (put5 w2 (w.heap.size + 1) (.slice qc2 n2 cc2) (.slice qu2 n2 cu2)).heap.size) (fun b k => ⟨by have := lowM b k; omega, by rw [put5_size]; exact mk2.low b k⟩) (fun b k => k.2)
            have b3 := put5_below (g := w.heap.size + 1) (c := .slice qc2 n2 cc2) (u := .slice qu2 n2 cu2) s2.B (by omega)
            obtain ⟨w9, hw9⟩ : ∃ w9, w9 = put5 w2 (w.heap.size + 1) (.slice qc2 n2 cc2) (.slice qu2 n2 cu2) := ⟨_, rfl⟩
            rw [← hw9] at zR m3 b3
            rw [← hw9]
            clear hw9
            have y0 := vblk_cell zR 0
            have y1 := vblk_cell zR 1
            have y2 := vblk_cell zR 2
            have y3 := vblk_cell zR 3
            have y4 := vblk_cell zR 4
            simp only [List.getElem?_toArray, List.getElem?_cons_succ, List.getElem?_cons_zero] at y0 y1 y2 y3 y4
            have HF := hidden (And.intro m3 b3)
            clear m3 b3 zR s2 mk2 ch2 lowM mm sm
            go_wp2_with fail
            refine bodyPost_ret (v := .agg #[.int .i64 5, .int .i64 0, .string ⟨#[]⟩, .slice qc2 n2 cc2, .slice qu2 n2 cu2]) (by simp [results, Try.results15, go_sem, y0, y1, y2, y3, y4]) rfl ⟨_, _, rfl, HF.out.1, HF.out.2⟩
          · go_simp
            go_wp2_with (go_at_call 52; refine (HT.out _ (hst.B.trans (h0.mono hst.B.size))).mono ?_; rintro e wm ⟨ca, rfl, pt, bm⟩)
            have h1 : Below wz.heap.size wz wm := h0.trans (bm.mono h0.size)
            clear hHeld
            refine hK.out _ _ ?G29 (fun hHeld => ?_)
            case G29 => ((try dsimp only); exact KEEP.out _ h1)
            clear hK K
            try simp only [Act.put, List.getElem_toArray, List.getElem_cons_zero, List.getElem_cons_succ, List.setIfInBounds_toArray, List.set_cons_zero, List.set_cons_succ]
            have zz := (h1.block _ (Array.getElem?_eq_some_iff.1 z9).1).trans z9
            refine wpAnyH_ready (rs := [0]) (by kernel_rfl) (by simp) ?_
            refine AllReadyH.cons rfl (fun K hK => ?_) AllReadyH.nil
            have y0 := vblk_cell zz 0
            have y1 := vblk_cell zz 1
            have y2 := vblk_cell zz 2
            have y3 := vblk_cell zz 3
            have y4 := vblk_cell zz 4
            simp only [List.getElem?_toArray, List.getElem?_cons_succ, List.getElem?_cons_zero] at y0 y1 y2 y3 y4
            go_simp
            clear y0 y1 y2 y3 y4
            clear hHeld
            refine hK.out _ _ ?G30 (fun hHeld => ?_)
            case G30 => ((try dsimp only); exact KEEP.out _ h1)
            clear hK K
            try simp only [Act.put, List.getElem_toArray, List.getElem_cons_zero, List.getElem_cons_succ, List.setIfInBounds_toArray, List.set_cons_zero, List.set_cons_succ]
            have sm := hst.below h1
            have mm := hmk.keep h1.size (Kp.of h1 hmk.low)
            refine wpAnyH_ready (rs := [4]) (by kernel_rfl) (by simp) ?_
            refine AllReadyH.cons rfl (fun K hK => ?_) AllReadyH.nil
            go_simp
            go_wp2_with (go_at_call 50; refine (withKey_mk S5 (fun b => wd.heap.size ≤ b ∧ b < wm.heap.size) (fun _ => False) _ _ _ _ _ _ _ 4 0 ⟨#[]⟩ (uses.map textT) [] _ mm pt (Nat.zero_le _) saneNil (fun b h => ⟨h.2, fun k => by have := hmk.low b k; have := h0.size; omega⟩) (fun _ h => h.elim) (by simp) (by decide)).mono ?_; rintro e w2 ⟨c', u', rfl, mk2, ch2⟩)
            have lowM := more_low1 (m := w2.heap.size) (a := wd.heap.size) (b := wm.heap.size) (by have := hst.lt; have := h0.size; omega) (show w.heap.size + 4 ≤ wm.heap.size from sm.lt) (fun b h => (l5 b h).2)
            clear hHeld
            refine hK.out _ _ ?GA32 (fun hHeld => ?_)
            case GA32 => (exact KEEPC.out _ _ h1 ch2)
            clear hK K
            try simp only [Act.put, List.getElem_toArray, List.getElem_cons_zero, List.getElem_cons_succ, List.setIfInBounds_toArray, List.set_cons_zero, List.set_cons_succ]
            have s2 := sm.chg ch2 (fun b hb => (l5 b (mm.of_two b hb)).2)
            obtain ⟨n2, qc2, cc2, qu2, cu2, hn2, ec2, eu2⟩ := mk2.slicesN
            subst ec2 eu2
            clear hn2
            refine wpAnyH_ready (rs := [5]) (by kernel_rfl) (by simp) ?_
            refine AllReadyH.cons rfl (fun K hK => ?_) AllReadyH.nil
            have y0 := vblk_cell s2.R 0
            have y1 := vblk_cell s2.R 1
            have y2 := vblk_cell s2.R 2
            have y3 := vblk_cell s2.R 3
            have y4 := vblk_cell s2.R 4
            simp only [List.getElem?_toArray, List.getElem?_cons_succ, List.getElem?_cons_zero] at y0 y1 y2 y3 y4
            have fx := vblk_frozen s2.R
            go_simp
            clear y0 y1 y2 y3 y4 fx
            clear hHeld
            refine hK.out _ (put5 w2 (w.heap.size + 1) (.slice qc2 n2 cc2) (.slice qu2 n2 cu2)) ?GB32 (fun hHeld => ?_)
            case GB32 => (exact KEEPD.out _ _ h1 ch2)
            clear hK K
            try simp only [Act.put, List.getElem_toArray, List.getElem_cons_zero, List.getElem_cons_succ, List.setIfInBounds_toArray, List.set_cons_zero, List.set_cons_succ]
            refine wpAnyH_done (by kernel_rfl) ?_ _
            clear hHeld
            have zR := put5_zero (c := .slice qc2 n2 cc2) (u := .slice qu2 n2 cu2) s2.R
            have m3 := (mk2.put (g := w.heap.size + 1) (a := .slice qc2 n2 cc2) (b := .slice qu2 n2 cu2) (fun k => by have := lowM _ k; omega)).mono (S' := fun b => w.heap.size ≤ b ∧ b < (put5 w2 (w.heap.size + 1) (.slice qc2 n2 cc2) (.slice qu2 n2 cu2)).heap.size) (fun b k => ⟨by have := lowM b k; omega, by rw [put5_size]; exact mk2.low b k⟩) (fun b k => k.2)
            have b3 := put5_below (g := w.heap.size + 1) (c := .slice qc2 n2 cc2) (u := .slice qu2 n2 cu2) s2.B (by omega)
            obtain ⟨w9, hw9⟩ : ∃ w9, w9 = put5 w2 (w.heap.size + 1) (.slice qc2 n2 cc2) (.slice qu2 n2 cu2) := ⟨_, rfl⟩
            rw [← hw9] at zR m3 b3
            rw [← hw9]
            clear hw9
            have y0 := vblk_cell zR 0
            have y1 := vblk_cell zR 1
            have y2 := vblk_cell zR 2
            have y3 := vblk_cell zR 3
            have y4 := vblk_cell zR 4
            simp only [List.getElem?_toArray, List.getElem?_cons_succ, List.getElem?_cons_zero] at y0 y1 y2 y3 y4
            have HF := hidden (And.intro m3 b3)
            clear m3 b3 zR s2 mk2 ch2 lowM mm sm
            go_wp2_with fail
            refine bodyPost_ret (v := .agg #[.int .i64 5, .int .i64 0, .string ⟨#[]⟩, .slice qc2 n2 cc2, .slice qu2 n2 cu2]) (by simp [results, Try.results15, go_sem, y0, y1, y2, y3, y4]) rfl ⟨_, _, rfl, HF.out.1, HF.out.2⟩
end Go.Proofs.Ytbolphjigjpmiaa
