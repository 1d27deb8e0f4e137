/-
  Two values that are the same tree are told so by the law's own comparison: a contract for every two that lie in memory.
-/
import Derived.Test.YtbolphjigjpmiaaDoorTreeToL
namespace Go.Proofs.YtbolphjigjpmiaaDoor
open Go.RowKit
set_option linter.unusedSimpArgs false
set_option linter.unusedVariables false

def EqC (T : Tree) : Prop := ∀ (S S' : Nat → Prop) (v u : Value) (w : World), Lies S w v T → Lies S' w u T → (∀ b, S b → b < w.heap.size) → (∀ b, S' b → b < w.heap.size) → T.wt ≤ 1048576 →
  Calls Tryd.prog 8 #[v, u] w fun e w' => e = .returned (.bool true) ∧ Below w.heap.size w w'
def EqLC (l : List Tree) : Prop := ∀ (S S' : Nat → Prop) (v u : Value) (w : World), LiesL S w v l → LiesL S' w u l → (∀ b, S b → b < w.heap.size) → (∀ b, S' b → b < w.heap.size) → wtL l ≤ 1048576 →
  Calls Tryd.prog 17 #[v, u] w fun e w' => e = .returned (.bool true) ∧ Below w.heap.size w w'

theorem two5 {w w1 : World} {c0 c1 c2 c3 c4 d0 d1 d2 d3 d4 : Value} {t : TypeId} (hb : Below ((w.alloc (.cells #[c0, c1, c2, c3, c4] t)).alloc (.cells #[d0, d1, d2, d3, d4] t)).heap.size ((w.alloc (.cells #[c0, c1, c2, c3, c4] t)).alloc (.cells #[d0, d1, d2, d3, d4] t)) w1) :
    w1.cell? ⟨w.heap.size, 4, none⟩ = some c4 ∧ w1.cell? ⟨w.heap.size + 1, 4, none⟩ = some d4 := by
  have s1 : (w.alloc (.cells #[c0, c1, c2, c3, c4] t)).heap.size = w.heap.size + 1 := by simp
  have h1 : w1.heap[w.heap.size]? = some (.cells #[c0, c1, c2, c3, c4] t) := by rw [hb.block _ (by simp; omega), heap_old _ _ (by simp), heap_new]
  have h2 : w1.heap[w.heap.size + 1]? = some (.cells #[d0, d1, d2, d3, d4] t) := by rw [hb.block _ (by simp), ← s1, heap_new]
  exact ⟨blk_cell h1 4, blk_cell h2 4⟩

set_option maxHeartbeats 2000000 in
set_option maxRecDepth 100000 in
theorem eqVal_step (k n : Int) (s : ByteArray) (l : List Tree) (ks : List ByteArray) (ih : EqLC l) : EqC (.mk k n s l ks) := by
  intro S S' v u w hv hv' hB hB' hw
  rw [wt_mk] at hw
  obtain ⟨c, u, rfl, hs, hk, hl, hu⟩ := hv.out
  obtain ⟨c', u', rfl, _, _, hl', hu'⟩ := hv'.out
  clear hv hv'
  have hwl : wtL l ≤ 1048576 := by omega
  have hkn : ks.length ≤ 1099511627776 := by unfold bulkS at hw; omega
  have hb2 : ∀ A R, Below w.heap.size w ((w.alloc A).alloc R) := fun A R => ((Below.refl _ _).alloc (Nat.le_refl _) _).alloc (by simp) _
  have hlA : ∀ A R, LiesL S ((w.alloc A).alloc R) c l := fun A R => hl.keep (.of (hb2 A R) hB)
  have hlA' : ∀ A R, LiesL S' ((w.alloc A).alloc R) c' l := fun A R => hl'.keep (.of (hb2 A R) hB')
  have huA : ∀ w1, Below w.heap.size w w1 → Reads w1 u (strsV ks) := fun w1 h1 => (hu.keep (.of h1 hB)).reads (fun b h => Nat.lt_of_lt_of_le (hB b h) h1.size)
  have huA' : ∀ w1, Below w.heap.size w w1 → Reads w1 u' (strsV ks) := fun w1 h1 => (hu'.keep (.of h1 hB')).reads (fun b h => Nat.lt_of_lt_of_le (hB' b h) h1.size)
  have hBA : ∀ A R b, S b → b < ((w.alloc A).alloc R).heap.size := fun A R b h => Nat.lt_of_lt_of_le (hB b h) (hb2 A R).size
  have hBA' : ∀ A R b, S' b → b < ((w.alloc A).alloc R).heap.size := fun A R b h => Nat.lt_of_lt_of_le (hB' b h) (hb2 A R).size
  go_enter Tryd.func8, Tryd.ntmps8
  go_wp2_with (first
    | (go_at_call 17; refine (ih S S' c c' _ (hlA _ _) (hlA' _ _) (hBA _ _) (hBA' _ _) hwl).mono ?_; rintro e w1 ⟨rfl, hb1⟩; obtain ⟨x4, y4⟩ := two5 hb1)
    | (go_at_call 18; refine (eqStrs_c u u' ks ks _ (huA _ ((hb2 _ _).trans (hb1.mono (by simp; omega)))) (huA' _ ((hb2 _ _).trans (hb1.mono (by simp; omega)))) hkn).mono ?_; rintro e w3 ⟨rfl, hb3⟩; rw [decide_eq_true (rfl : ks = ks)]))
  go_ret
  exact ⟨rfl, ((hb2 _ _).trans (hb1.mono (by simp; omega))).trans (hb3.mono (by have := hb1.size; simp at this; omega))⟩

set_option maxHeartbeats 2000000 in
set_option maxRecDepth 100000 in
theorem eqValS_step (l : List Tree) (ih : ∀ U ∈ l, EqC U) : EqLC l := by
  intro S S' v u w hv hv' hB hB' hw
  obtain ⟨a, cap, rfl, hl, hc, ha⟩ := hv.at
  obtain ⟨a', cap', rfl, _, hc', ha'⟩ := hv'.at
  unfold maxLen at hl
  go_enter Tryd.func17, Tryd.ntmps17
  go_wp2_with fail
  go_loopw [5] (fun vi wr => ∃ k : Nat, k ≤ l.length ∧ vi = .int .i64 (k : Int) ∧ Below w.heap.size w wr) (fun vi _ => l.length - (intOf vi).toNat)
  case atStart => exact ⟨0, Nat.zero_le _, rfl, Below.refl _ _⟩
  case round =>
    obtain ⟨k, hk, rfl, hbr⟩ := hrel
    by_cases hlt' : k < l.length
    · rcases ha with rfl | ⟨b, off, rfl, hlt, ha⟩
      · simp at hlt'
      rcases ha' with rfl | ⟨b', off', rfl, hlt3, ha'⟩
      · simp at hlt'
      obtain ⟨c0, c1, c2, c3, c4, e0, e1, e2, e3, e4, hT⟩ := ha k hlt'
      obtain ⟨d0, d1, d2, d3, d4, g0, g1, g2, g3, g4, hT2⟩ := ha' k hlt'
      have hlt2 : b < w.heap.size := hB b hlt
      have hlt4 : b' < w.heap.size := hB' b' hlt3
      rw [← hbr.cell (by simpa using hlt2)] at e0 e1 e2 e3 e4
      rw [← hbr.cell (by simpa using hlt4)] at g0 g1 g2 g3 g4
      have ihk := ih _ (List.getElem_mem hlt')
      have hwt : (l[k]).wt ≤ 1048576 := by have := wt_le_wtL (List.getElem_mem hlt'); omega
      obtain ⟨U, hU⟩ : ∃ U, U = l[k] := ⟨_, rfl⟩
      rw [← hU] at hT hT2 ihk hwt
      have hki : (k : Int) < (l.length : Int) := by omega
      have hBr : ∀ b, S b → b < wr.heap.size := fun b h => Nat.lt_of_lt_of_le (hB b h) hbr.size
      have hBr' : ∀ b, S' b → b < wr.heap.size := fun b h => Nat.lt_of_lt_of_le (hB' b h) hbr.size
      have hT3 : Lies S wr.drew _ U := (hT.keep (.of hbr.drew hB))
      have hT4 : Lies S' wr.drew _ U := (hT2.keep (.of hbr.drew hB'))
      clear ha ha' ih hU hT hT2 hv hv'
      go_wp2_with fail
      go_region_with (go_at_call 8; refine (ihk S S' _ _ wr.drew hT3 hT4 hBr hBr' hwt).mono ?_; rintro e w2 ⟨rfl, hb2⟩)
      all_goals go_wp2_with fail
      all_goals go_roundw
      all_goals first
        | exact ⟨k + 1, by omega, by go_num, hbr.drew.trans (hb2.mono hbr.size)⟩
        | (simp [intOf]; omega)
    · have he : k = l.length := by omega
      subst he
      clear ha ha'
      go_wp2_with fail
      go_ret
      exact ⟨rfl, hbr⟩

theorem eqVal_all : ∀ T, EqC T := by
  refine Tree.ind ?_
  intro k n s l ks ih
  exact eqVal_step k n s l ks (eqValS_step l ih)
#print axioms eqVal_all
end Go.Proofs.YtbolphjigjpmiaaDoor
