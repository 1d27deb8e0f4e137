/-
  How many values there are in a value, as the specification counts: for every value that lies in memory.
-/
import Derived.Test.YtbolphjigjpmiaaDoorValB2
namespace Go.Proofs.YtbolphjigjpmiaaDoor
open Go.RowKit
set_option linter.unusedSimpArgs false
set_option linter.unusedVariables false

mutual
def Tree.nodes : Tree → Nat
  | .mk _ _ _ l _ => 1 + nodesL l
def nodesL : List Tree → Nat
  | [] => 0
  | t :: r => t.nodes + nodesL r
end
mutual
def Tree.good : Tree → Nat → Bool
  | .mk k n s l ks, d => decide (d ≤ 6) && hereB k n s l.length ks && goodL l (d + 1)
def goodL : List Tree → Nat → Bool
  | [], _ => true
  | t :: r, d => t.good d && goodL r d
end
theorem nodes_mk (k n : Int) (s : ByteArray) (l : List Tree) (ks : List ByteArray) : (Tree.mk k n s l ks).nodes = 1 + nodesL l := by rw [Tree.nodes]
theorem good_mk (k n : Int) (s : ByteArray) (l : List Tree) (ks : List ByteArray) (d : Nat) : (Tree.mk k n s l ks).good d = (decide (d ≤ 6) && hereB k n s l.length ks && goodL l (d + 1)) := by rw [Tree.good]
theorem nodesL_append (a b : List Tree) : nodesL (a ++ b) = nodesL a + nodesL b := by
  induction a with
  | nil => simp [nodesL]
  | cons t r ih => simp only [List.cons_append, nodesL, ih]; omega
theorem goodL_append (a b : List Tree) (d : Nat) : goodL (a ++ b) d = (goodL a d && goodL b d) := by
  induction a with
  | nil => simp [goodL]
  | cons t r ih => simp only [List.cons_append, goodL, ih, Bool.and_assoc]
theorem nodesL_take_succ (l : List Tree) (k : Nat) (h : k < l.length) : nodesL (l.take (k + 1)) = nodesL (l.take k) + (l[k]).nodes := by
  rw [List.take_succ_eq_append_getElem h, nodesL_append]; simp [nodesL]
theorem goodL_take_succ (l : List Tree) (k d : Nat) (h : k < l.length) : goodL (l.take (k + 1)) d = (goodL (l.take k) d && (l[k]).good d) := by
  rw [List.take_succ_eq_append_getElem h, goodL_append]; simp [goodL]
theorem nodesL_take_le (l : List Tree) (k : Nat) : nodesL (l.take k) ≤ nodesL l := by
  conv => rhs; rw [← List.take_append_drop k l, nodesL_append]
  omega
theorem goodL_take (l : List Tree) (k d : Nat) (h : goodL l d = true) : goodL (l.take k) d = true := by
  rw [← List.take_append_drop k l, goodL_append] at h
  simp at h
  exact h.1
theorem nodes_pos (T : Tree) : 1 ≤ T.nodes := by cases T; rw [nodes_mk]; omega

theorem here_c (k n : Int) (s : ByteArray) (l : List Tree) (ks : List ByteArray) (S : Nat → Prop) (c u : Value) (w : World) (hs : s.size ≤ maxLen) (hk : saneS ks) (hl : ∃ a cap, c = .slice a l.length cap) (hu : Reads w u (strsV ks)) :
    Calls Tryd.prog 28 #[.agg #[.int .i64 k, .int .i64 n, .string s, c, u]] w fun e w' => e = .returned (.bool (hereB k n s l.length ks)) ∧ Below w.heap.size w w' := by
  obtain ⟨a, cap, rfl⟩ := hl
  by_cases h5 : k = 5
  · subst h5; exact here_map n s a l.length cap u ks w hs hk hu
  · obtain ⟨a', cap', rfl, _⟩ := reads_strs hu
    exact here_flat k n s a a' l.length cap cap' ks w hs h5

/-- What the count r tells of T at depth d. -/
def Tells (T : Tree) (d : Nat) (r : Int) : Prop := 1 ≤ r ∧ r ≤ 1000 - 100 * (d : Int) ∧ ((T.good d = true ∧ T.nodes ≤ 80 ∧ r = (T.nodes : Int)) ∨ (¬ (T.good d = true ∧ T.nodes ≤ 80) ∧ 80 < r))

def CountC (T : Tree) : Prop := ∀ (S : Nat → Prop) (v : Value) (w : World) (d : Nat), Lies S w v T → (∀ b, S b → b < w.heap.size) → 1 ≤ d → d ≤ 7 →
  Calls Tryd.prog 19 #[v, .int .i64 (d : Int)] w fun e w' => ∃ r : Int, e = .returned (.int .i64 r) ∧ Tells T d r ∧ Below w.heap.size w w'

set_option maxHeartbeats 4000000 in
set_option maxRecDepth 100000 in
theorem count_step (k n : Int) (s : ByteArray) (l : List Tree) (ks : List ByteArray) (ih : ∀ U ∈ l, CountC U) : CountC (.mk k n s l ks) := by
  intro S v w d hv hB hd1 hd7
  obtain ⟨c, u, rfl, hs, hk, hl, hu⟩ := hv.out
  clear hv
  have hbx : ∀ o, Below w.heap.size w (w.alloc o) := fun o => (Below.refl _ _).alloc (Nat.le_refl _) _
  by_cases hd : (6 : Int) < (d : Int)
  · have HT : Hid (Tells (.mk k n s l ks) d 100) := by
      refine ⟨by omega, by omega, .inr ⟨fun h => ?_, by omega⟩⟩
      rw [good_mk, show decide (d ≤ 6) = false by simp; omega] at h
      simp at h
    go_enter Tryd.func19, Tryd.ntmps19
    go_wp2_with fail
    go_ret
    exact ⟨100, rfl, HT.out, hbx _⟩
  have hlx : ∃ a cap, c = .slice a l.length cap := by obtain ⟨a, cap, C, h, _⟩ := hl; exact ⟨a, cap, h⟩
  have huA : ∀ w1, Below w.heap.size w w1 → Reads w1 u (strsV ks) := fun w1 h1 => (hu.keep (.of h1 hB)).reads (fun b h => Nat.lt_of_lt_of_le (hB b h) h1.size)
  have HH : Hid (∀ w1, Below w.heap.size w w1 → Calls Tryd.prog 28 #[.agg #[.int .i64 k, .int .i64 n, .string s, c, u]] w1 fun e w' => e = .returned (.bool (hereB k n s l.length ks)) ∧ Below w1.heap.size w1 w') := fun w1 h1 => here_c k n s l ks S c u w1 hs hk hlx (huA w1 h1)
  clear huA
  by_cases hh : hereB k n s l.length ks = true
  case neg =>
    have hh' : hereB k n s l.length ks = false := by simpa using hh
    rw [hh'] at HH
    have HT : Hid (Tells (.mk k n s l ks) d 100) := by
      refine ⟨by omega, by omega, .inr ⟨fun h => ?_, by omega⟩⟩
      rw [good_mk, hh'] at h
      simp at h
    go_enter Tryd.func19, Tryd.ntmps19
    go_wp2_with (go_at_call 28; refine (HH.out _ (hbx _)).mono ?_; rintro e w1 ⟨rfl, hb1⟩)
    go_ret
    exact ⟨100, rfl, HT.out, (hbx _).trans (hb1.mono (by simp))⟩
  rw [hh] at HH
  have hgood : (Tree.mk k n s l ks).good d = goodL l (d + 1) := by rw [good_mk, hh, show decide (d ≤ 6) = true by simp; omega]; simp
  have HG : Hid ((Tree.mk k n s l ks).good d = goodL l (d + 1)) := hgood
  clear hgood hh
  go_enter Tryd.func19, Tryd.ntmps19
  go_wp2_with (go_at_call 28; refine (HH.out _ (hbx _)).mono ?_; rintro e w1 ⟨rfl, hb1⟩; obtain ⟨x0, x1, x2, x3, x4⟩ := box5 hb1)
  have hbw : Below w.heap.size w w1 := (hbx _).trans (hb1.mono (by simp))
  have hN : w.heap.size < w1.heap.size := by have := hb1.size; simp at this; omega
  clear HH hb1 x0 x1 x2 x4
  obtain ⟨a, cap, rfl, hlm, hcp, ha⟩ := hl.at
  unfold maxLen at hlm
  go_loopw [5, 6] (fun vk vi wr => ∃ (i : Nat) (q : Int), i ≤ l.length ∧ vi = .int .i64 (i : Int) ∧ vk = .int .i64 q ∧ Below w1.heap.size w1 wr ∧ 1 ≤ q ∧ q ≤ 1000 - 100 * (d : Int) ∧ Hid ((goodL (l.take i) (d + 1) = true ∧ q = 1 + (nodesL (l.take i) : Int)) ∨ (80 < q ∧ ¬ (goodL l (d + 1) = true ∧ 1 + nodesL l ≤ 80)))) (fun _ vi _ => l.length - (intOf vi).toNat)
  case atStart => exact ⟨0, 1, Nat.zero_le _, rfl, rfl, Below.refl _ _, by omega, by omega, .inl ⟨by simp [goodL], by simp [nodesL]⟩⟩
  case round =>
    obtain ⟨i, q, hi, rfl, rfl, hbr, hq1, hq2, hq⟩ := hrel
    rw [← hbr.cell (by simpa using hN)] at x3
    have hbw' : Below w.heap.size w wr := hbw.trans (hbr.mono hbw.size)
    by_cases hlt : i < l.length
    · by_cases h80 : q ≤ 80
      · rcases ha with rfl | ⟨b, off, rfl, hlb, ha⟩
        · simp at hlt
        obtain ⟨c0, c1, c2, c3, c4, e0, e1, e2, e3, e4, hT⟩ := ha i hlt
        rw [← hbw'.cell (by simpa using hB b hlb)] at e0 e1 e2 e3 e4
        have ihk := ih _ (List.getElem_mem hlt)
        have hn1 := nodesL_take_succ l i hlt
        have hg1 := goodL_take_succ l i (d + 1) hlt
        obtain ⟨U, hU⟩ : ∃ U, U = l[i] := ⟨_, rfl⟩
        rw [← hU] at hT ihk hn1 hg1
        have HN : Hid (nodesL (l.take (i + 1)) = nodesL (l.take i) + U.nodes ∧ goodL (l.take (i + 1)) (d + 1) = (goodL (l.take i) (d + 1) && U.good (d + 1))) := ⟨hn1, hg1⟩
        have hki : (i : Int) < (l.length : Int) := by omega
        have hT' := hT.keep (.of hbw' hB)
        have hBr : ∀ b, S b → b < wr.heap.size := fun b h => Nat.lt_of_lt_of_le (hB b h) hbw'.size
        have hcall := ihk S _ wr (d + 1) hT' hBr (by omega) (by omega)
        rw [show (((d + 1 : Nat)) : Int) = (d : Int) + 1 by omega] at hcall
        have HCall : Hid (Calls Tryd.prog 19 #[.agg #[c0, c1, c2, c3, c4], .int .i64 ((d : Int) + 1)] wr fun e w' => ∃ r : Int, e = .returned (.int .i64 r) ∧ Tells U (d + 1) r ∧ Below wr.heap.size wr w') := hcall
        clear ha ih hU hT hn1 hg1 hcall ihk hu hl
        go_wp2_with (go_at_call 19; refine HCall.out.mono ?_; rintro e w2 ⟨r, rfl, hr, hb2⟩; have hr1 := hr.1; have hr2 := hr.2.1; have HR : Hid (Tells U (d + 1) r) := hr; clear hr)
        go_roundw
        case rel =>
          obtain ⟨hn1, hg1⟩ := HN.out
          obtain ⟨_, _, hr⟩ := HR.out
          have hle := nodesL_take_le l (i + 1)
          refine ⟨i + 1, q + r, by omega, by go_num, rfl, hbr.trans (hb2.mono hbr.size), by omega, by omega, ?_⟩
          rcases hq.out with ⟨hg, hqq⟩ | ⟨h8, _⟩
          · rcases hr with ⟨ga, gb, gc⟩ | ⟨gn, g8⟩
            · exact .inl ⟨by rw [hg1, hg, ga]; rfl, by rw [hn1]; omega⟩
            · refine .inr ⟨by omega, fun ⟨x1, x2⟩ => gn ⟨?_, by omega⟩⟩
              have := goodL_take l (i + 1) (d + 1) x1
              rw [hg1] at this
              simp at this
              exact this.2
          · omega
        case measure => simp [intOf]; omega
      · have h80' : 80 < q := by omega
        clear ha
        go_wp2_with fail
        go_ret
        refine ⟨q, rfl, ⟨hq1, hq2, ?_⟩, hbw'⟩
        rcases hq.out with ⟨hg, hqq⟩ | ⟨h8, hn⟩
        · refine .inr ⟨fun ⟨x1, x2⟩ => ?_, by omega⟩
          have := nodesL_take_le l i
          rw [nodes_mk] at x2
          omega
        · refine .inr ⟨fun ⟨x1, x2⟩ => hn ⟨by rw [← HG.out]; exact x1, by rw [nodes_mk] at x2; exact x2⟩, h8⟩
    · have he : i = l.length := by omega
      subst he
      clear ha
      go_wp2_with fail
      go_ret
      refine ⟨q, rfl, ⟨hq1, hq2, ?_⟩, hbw'⟩
      have hqo := hq.out
      rw [List.take_length] at hqo
      rcases hqo with ⟨hg, hqq⟩ | ⟨h8, hn⟩
      · by_cases h8 : q ≤ 80
        · exact .inl ⟨by rw [HG.out]; exact hg, by rw [nodes_mk]; omega, by rw [nodes_mk]; omega⟩
        · exact .inr ⟨fun ⟨x1, x2⟩ => by rw [nodes_mk] at x2; omega, by omega⟩
      · exact .inr ⟨fun ⟨x1, x2⟩ => hn ⟨by rw [← HG.out]; exact x1, by rw [nodes_mk] at x2; exact x2⟩, h8⟩

theorem count_all : ∀ T, CountC T := Tree.ind fun k n s l ks ih => count_step k n s l ks ih

/-- When a value is right. -/
def Tree.ok (T : Tree) : Bool := T.good 1 && decide (T.nodes ≤ 80)

set_option maxHeartbeats 1000000 in
theorem specValOk_c (T : Tree) (S : Nat → Prop) (v : Value) (w : World) (hv : Lies S w v T) (hB : ∀ b, S b → b < w.heap.size) :
    Calls Tryd.prog 11 #[v] w fun e w' => e = .returned (.bool T.ok) ∧ Below w.heap.size w w' := by
  have hbx : ∀ o, Below w.heap.size w (w.alloc o) := fun o => (Below.refl _ _).alloc (Nat.le_refl _) _
  have HC : Hid (∀ w1, Below w.heap.size w w1 → Calls Tryd.prog 19 #[v, .int .i64 1] w1 fun e w' => ∃ r : Int, e = .returned (.int .i64 r) ∧ Tells T 1 r ∧ Below w1.heap.size w1 w') := fun w1 h1 => count_all T S v w1 1 (hv.keep (.of h1 hB)) (fun b h => Nat.lt_of_lt_of_le (hB b h) h1.size) (by omega) (by omega)
  obtain ⟨k, n, s, a, m, cap, a', m', cap', rfl⟩ := hv.parts
  clear hv
  go_enter Tryd.func11, Tryd.ntmps11
  go_wp2_with (go_at_call 19; refine (HC.out _ (hbx _)).mono ?_; rintro e w1 ⟨r, rfl, hr, hb1⟩; have HR : Hid (Tells T 1 r) := hr; clear hr)
  go_ret
  refine ⟨?_, (hbx _).trans (hb1.mono (by simp))⟩
  have e : decide (r ≤ 80) = T.ok := by
    obtain ⟨_, _, h⟩ := HR.out
    unfold Tree.ok
    rcases h with ⟨ga, gb, gc⟩ | ⟨gn, g8⟩
    · rw [ga]; simp; omega
    · rw [show decide (r ≤ 80) = false by simp; omega]
      by_cases h1 : T.good 1 = true
      · rw [h1]; simp; have : ¬ T.nodes ≤ 80 := fun h => gn ⟨h1, h⟩; omega
      · simp at h1; rw [h1]; rfl
  rw [← e]
  rfl
#print axioms specValOk_c
end Go.Proofs.YtbolphjigjpmiaaDoor
