/-
  Lists of Cmps and lists of such lists that lie in memory, in blocks of a set S: what they are, and that they are kept; no condition.
-/
import Derived.Test.YtdnpfkknnaepoaaRgB
namespace Go.Proofs.Ytdnpfkknnaepoaa
open Go.RowKit
set_option linter.unusedSimpArgs false
set_option linter.unusedVariables false

/-- In blocks of S the world w' is as w was. -/
def Kp (S : Nat → Prop) (w w' : World) : Prop := ∀ b, S b → w'.heap[b]? = w.heap[b]?
theorem Kp.cell {S : Nat → Prop} {w w' : World} (h : Kp S w w') {b : Nat} (hb : S b) (o : Nat) : w'.cell? ⟨b, o, none⟩ = w.cell? ⟨b, o, none⟩ := World.cell?_of_block (w := w) (h b hb)
theorem Kp.trans {S : Nat → Prop} {a b c : World} (h : Kp S a b) (k : Kp S b c) : Kp S a c := fun i hi => (k i hi).trans (h i hi)
theorem Kp.of {S : Nat → Prop} {B : Nat} {w w' : World} (hb : Below B w w') (hS : ∀ b, S b → b < B) : Kp S w w' := fun b h => hb.block b (hS b h)
theorem Kp.set {S : Nat → Prop} {w : World} {g j : Nat} {v : Value} (h : ¬ S g) : Kp S w (w.setCell ⟨g, j, none⟩ v) := fun b hb => Below.heap_setCell w ⟨g, j, none⟩ v b (fun e => by have e' : b = g := e; subst e'; exact h hb)

/-- The blocks from lo on, below hi. -/
def Ow (lo hi : Nat) (b : Nat) : Prop := lo ≤ b ∧ b < hi
theorem Ow.mono {lo lo' hi hi' : Nat} (h1 : lo' ≤ lo) (h2 : hi ≤ hi') : ∀ b, Ow lo hi b → Ow lo' hi' b := fun b h => ⟨Nat.le_trans h1 h.1, Nat.lt_of_lt_of_le h.2 h2⟩
theorem Ow.below {lo : Nat} {w w' : World} (h : Below w.heap.size w w') : Kp (Ow lo w.heap.size) w w' := fun b hb => h.block b hb.2
theorem Ow.not {lo hi g : Nat} (h : g < lo) : ¬ Ow lo hi g := fun k => by have := k.1; omega

/-- A list of texts that lies in blocks of S. -/
def RdB (S : Nat → Prop) (w : World) (v : Value) (xs : List Value) : Prop :=
  ∃ a cap, v = .slice a xs.length cap ∧ xs.length ≤ cap ∧ (xs = [] ∨ ∃ b off, a = some ⟨b, off, none⟩ ∧ S b ∧ ∀ k (h : k < xs.length), w.cell? ⟨b, off + k, none⟩ = some xs[k])
theorem RdB.reads {S : Nat → Prop} {w : World} {v : Value} {xs : List Value} (h : RdB S w v xs) (hS : ∀ b, S b → b < w.heap.size) : Reads w v xs := by
  obtain ⟨a, cap, hv, hc, h⟩ := h
  refine ⟨a, cap, hv, hc, ?_⟩
  rcases h with h | ⟨b, off, ha, hb, h⟩
  · exact .inl h
  · exact .inr ⟨b, off, ha, hS b hb, h⟩
theorem RdB.of {w : World} {v : Value} {xs : List Value} (h : Reads w v xs) : RdB (· < w.heap.size) w v xs := h
theorem RdB.keep {S : Nat → Prop} {w w' : World} {v : Value} {xs : List Value} (hb : Kp S w w') (h : RdB S w v xs) : RdB S w' v xs := by
  obtain ⟨a, cap, hv, hc, h⟩ := h
  refine ⟨a, cap, hv, hc, ?_⟩
  rcases h with h | ⟨b, off, ha, hlt, h⟩
  · exact .inl h
  · exact .inr ⟨b, off, ha, hlt, fun k hk => (hb.cell hlt _).trans (h k hk)⟩
theorem RdB.mono {S S' : Nat → Prop} {w : World} {v : Value} {xs : List Value} (hB : ∀ b, S b → S' b) (h : RdB S w v xs) : RdB S' w v xs := by
  obtain ⟨a, cap, hv, hc, h⟩ := h
  refine ⟨a, cap, hv, hc, ?_⟩
  rcases h with h | ⟨b, off, ha, hlt, h⟩
  · exact .inl h
  · exact .inr ⟨b, off, ha, hB b hlt, h⟩
theorem rdB_owns {w : World} {base : Nat} {e : TypeId} {v : Value} {n : Nat} {xs : List Value} (h : w.ownsRow base e 1 v n xs) : RdB (Ow base w.heap.size) w v xs := by
  have h0 := reads_of_owns h
  obtain ⟨a, cap, hv, hc, hx⟩ := h0
  refine ⟨a, cap, hv, hc, ?_⟩
  rcases hx with hx | ⟨b, off, rfl, hlt, hx⟩
  · exact .inl hx
  · refine .inr ⟨b, off, rfl, ⟨?_, hlt⟩, hx⟩
    rcases h.2 with ⟨hn, _⟩ | ⟨g, cap', cur, hv', hg, _⟩
    · rw [hn] at hv; simp at hv
    · rw [hv'] at hv
      simp only [Value.slice.injEq, Option.some.injEq, Addr.mk.injEq] at hv
      omega

/-- A Cmp: its Op, and its version. -/
structure CmpD where
  o : Int
  a : Int
  b : Int
  c : Int
  ps : List ByteArray

/-- The five cells from place j on in block b are the Cmp d; its texts are read at u. -/
def CmpAt (S : Nat → Prop) (w : World) (b j : Nat) (u : Value) (d : CmpD) : Prop :=
  w.cell? ⟨b, j, none⟩ = some (.int .i64 d.o) ∧ w.cell? ⟨b, j + 1, none⟩ = some (.int .i64 d.a) ∧ w.cell? ⟨b, j + 2, none⟩ = some (.int .i64 d.b) ∧ w.cell? ⟨b, j + 3, none⟩ = some (.int .i64 d.c) ∧ w.cell? ⟨b, j + 4, none⟩ = some u ∧ RdB S w u (strsV d.ps) ∧ saneP d.ps

theorem CmpAt.keep {S : Nat → Prop} {w w' : World} {b j : Nat} {u : Value} {d : CmpD} (hk : Kp S w w') (hb : S b) (h : CmpAt S w b j u d) : CmpAt S w' b j u d := by
  obtain ⟨h0, h1, h2, h3, h4, h5, h6⟩ := h
  exact ⟨(hk.cell hb _).trans h0, (hk.cell hb _).trans h1, (hk.cell hb _).trans h2, (hk.cell hb _).trans h3, (hk.cell hb _).trans h4, h5.keep hk, h6⟩
theorem CmpAt.mono {S S' : Nat → Prop} {w : World} {b j : Nat} {u : Value} {d : CmpD} (hS : ∀ b, S b → S' b) (h : CmpAt S w b j u d) : CmpAt S' w b j u d := by
  obtain ⟨h0, h1, h2, h3, h4, h5, h6⟩ := h
  exact ⟨h0, h1, h2, h3, h4, h5.mono hS, h6⟩

/-- The list of Cmps v is ds. -/
def CmpsIn (S : Nat → Prop) (w : World) (v : Value) (ds : List CmpD) : Prop :=
  ∃ q cap, v = .slice q ds.length cap ∧ ds.length ≤ maxLen ∧ ds.length ≤ cap ∧ (ds = [] ∨ ∃ (b off : Nat) (us : Nat → Value), q = some ⟨b, off, none⟩ ∧ S b ∧ ∀ k (h : k < ds.length), CmpAt S w b (off + k * 5) (us k) ds[k])
theorem CmpsIn.keep {S : Nat → Prop} {w w' : World} {v : Value} {ds : List CmpD} (hk : Kp S w w') (h : CmpsIn S w v ds) : CmpsIn S w' v ds := by
  obtain ⟨q, cap, hv, hm, hc, h⟩ := h
  refine ⟨q, cap, hv, hm, hc, ?_⟩
  rcases h with h | ⟨b, off, us, hq, hb, h⟩
  · exact .inl h
  · exact .inr ⟨b, off, us, hq, hb, fun k hh => (h k hh).keep hk hb⟩
theorem CmpsIn.mono {S S' : Nat → Prop} {w : World} {v : Value} {ds : List CmpD} (hS : ∀ b, S b → S' b) (h : CmpsIn S w v ds) : CmpsIn S' w v ds := by
  obtain ⟨q, cap, hv, hm, hc, h⟩ := h
  refine ⟨q, cap, hv, hm, hc, ?_⟩
  rcases h with h | ⟨b, off, us, hq, hb, h⟩
  · exact .inl h
  · exact .inr ⟨b, off, us, hq, hS b hb, fun k hh => (h k hh).mono hS⟩

/-- The list of lists of Cmps v is dss. -/
def RangeIn (S : Nat → Prop) (w : World) (v : Value) (dss : List (List CmpD)) : Prop :=
  ∃ q cap, v = .slice q dss.length cap ∧ dss.length ≤ maxLen ∧ dss.length ≤ cap ∧ (dss = [] ∨ ∃ (b off : Nat) (vs : Nat → Value), q = some ⟨b, off, none⟩ ∧ S b ∧ ∀ k (h : k < dss.length), w.cell? ⟨b, off + k, none⟩ = some (vs k) ∧ CmpsIn S w (vs k) dss[k])
theorem RangeIn.keep {S : Nat → Prop} {w w' : World} {v : Value} {dss : List (List CmpD)} (hk : Kp S w w') (h : RangeIn S w v dss) : RangeIn S w' v dss := by
  obtain ⟨q, cap, hv, hm, hc, h⟩ := h
  refine ⟨q, cap, hv, hm, hc, ?_⟩
  rcases h with h | ⟨b, off, vs, hq, hb, h⟩
  · exact .inl h
  · exact .inr ⟨b, off, vs, hq, hb, fun k hh => ⟨(hk.cell hb _).trans (h k hh).1, (h k hh).2.keep hk⟩⟩
theorem RangeIn.mono {S S' : Nat → Prop} {w : World} {v : Value} {dss : List (List CmpD)} (hS : ∀ b, S b → S' b) (h : RangeIn S w v dss) : RangeIn S' w v dss := by
  obtain ⟨q, cap, hv, hm, hc, h⟩ := h
  refine ⟨q, cap, hv, hm, hc, ?_⟩
  rcases h with h | ⟨b, off, vs, hq, hb, h⟩
  · exact .inl h
  · exact .inr ⟨b, off, vs, hq, hS b hb, fun k hh => ⟨(h k hh).1, (h k hh).2.mono hS⟩⟩

/-- How much a list of Cmps holds, as the law counts it. -/
def wtC (ds : List CmpD) : Nat := (ds.map fun d => 1 + bulkS d.ps).sum
def wtR (dss : List (List CmpD)) : Nat := (dss.map fun ds => 1 + wtC ds).sum
theorem wtC_take (ds : List CmpD) (k : Nat) (h : k < ds.length) : wtC (ds.take (k + 1)) = wtC (ds.take k) + (1 + bulkS ds[k].ps) := by
  rw [wtC, wtC, List.take_succ_eq_append_getElem h]; simp only [List.map_append, List.sum_append, List.map_cons, List.map_nil, List.sum_cons, List.sum_nil, Nat.add_zero]
theorem wtR_take (dss : List (List CmpD)) (k : Nat) (h : k < dss.length) : wtR (dss.take (k + 1)) = wtR (dss.take k) + (1 + wtC dss[k]) := by
  rw [wtR, wtR, List.take_succ_eq_append_getElem h]; simp only [List.map_append, List.sum_append, List.map_cons, List.map_nil, List.sum_cons, List.sum_nil, Nat.add_zero]
theorem wtC_split (ds : List CmpD) (k : Nat) : wtC ds = wtC (ds.take k) + wtC (ds.drop k) := by
  rw [wtC, wtC, wtC, ← List.sum_append, ← List.map_append, List.take_append_drop]
theorem wtR_split (dss : List (List CmpD)) (k : Nat) : wtR dss = wtR (dss.take k) + wtR (dss.drop k) := by
  rw [wtR, wtR, wtR, ← List.sum_append, ← List.map_append, List.take_append_drop]
theorem len_wtC (ds : List CmpD) : ds.length ≤ wtC ds := by
  induction ds with
  | nil => simp [wtC]
  | cons d ds ih => simp [wtC] at ih ⊢; omega
theorem len_wtR (dss : List (List CmpD)) : dss.length ≤ wtR dss := by
  induction dss with
  | nil => simp [wtR]
  | cons d ds ih => simp [wtR] at ih ⊢; omega
theorem bulk_wtC {ds : List CmpD} {d : CmpD} (h : d ∈ ds) : bulkS d.ps ≤ wtC ds := by
  induction ds with
  | nil => simp at h
  | cons x ds ih =>
    simp [wtC] at ih ⊢
    rcases List.mem_cons.1 h with rfl | h
    · omega
    · have := ih h; omega
theorem wtC_wtR {dss : List (List CmpD)} {ds : List CmpD} (h : ds ∈ dss) : wtC ds ≤ wtR dss := by
  induction dss with
  | nil => simp at h
  | cons x dss ih =>
    simp [wtR] at ih ⊢
    rcases List.mem_cons.1 h with rfl | h
    · omega
    · have := ih h; omega

def leftW (n : Nat) (left : Int) : Int := if (n : Int) ≤ left then left - (n : Int) else -1
theorem leftW_good {n : Nat} {left : Int} (h : (n : Int) ≤ left) : leftW n left = left - (n : Int) := if_pos h
theorem leftW_bad {n : Nat} {left : Int} (h : ¬ (n : Int) ≤ left) : leftW n left = -1 := if_neg h
theorem leftS_W (ps : List ByteArray) (left : Int) : leftS ps left = leftW (bulkS ps) left := rfl
end Go.Proofs.Ytdnpfkknnaepoaa
