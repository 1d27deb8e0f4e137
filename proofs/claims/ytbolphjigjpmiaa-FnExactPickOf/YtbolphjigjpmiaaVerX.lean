/-
  What the functions that copy and draw versions answer: contracts for the walks; conditions: what comes in lies in memory as told.
-/
import Derived.Test.YtbolphjigjpmiaaVerW
import Derived.Laws.AppendOwnNone
namespace Go.Proofs.Ytbolphjigjpmiaa
open Go.RowKit
set_option linter.unusedSimpArgs false
set_option linter.unusedVariables false
attribute [local go_sem ↓] Go.wp_at_zero Go.wp_at_succ

theorem four_put4 {w : World} {R N : Nat} {t : TypeId} {c0 c1 c2 c3 : Value} (h : Four w R t c0 c1 c2 c3) (hn : R ≠ N) (v0 v1 v2 v3 : Value) : Four ((((w.setCell ⟨N, 0, none⟩ v0).setCell ⟨N, 1, none⟩ v1).setCell ⟨N, 2, none⟩ v2).setCell ⟨N, 3, none⟩ v3) R t c0 c1 c2 c3 :=
  four_far (four_far (four_far (four_far h hn v0) hn v1) hn v2) hn v3
theorem owns_put4 {w : World} {base N : Nat} {e t : TypeId} {u : Value} {n : Nat} {xs : List Value} {c0 c1 c2 c3 : Value} (hO : w.ownsRow base e 1 u n xs) (hF : Four w N t c0 c1 c2 c3) (hne : t ≠ e) (v0 v1 v2 v3 : Value) :
    ((((w.setCell ⟨N, 0, none⟩ v0).setCell ⟨N, 1, none⟩ v1).setCell ⟨N, 2, none⟩ v2).setCell ⟨N, 3, none⟩ v3).ownsRow base e 1 u n xs :=
  owns_put (owns_put (owns_put (owns_put hO hF hne v0) (four_put hF v0).1 hne v1) (four_put (four_put hF v0).1 v1).2.1 hne v2) (four_put (four_put (four_put hF v0).1 v1).2.1 v2).2.2.1 hne v3
theorem below_put4 {B : Nat} {w0 w : World} {N : Nat} (h : Below B w0 w) (hN : B ≤ N) (v0 v1 v2 v3 : Value) : Below B w0 ((((w.setCell ⟨N, 0, none⟩ v0).setCell ⟨N, 1, none⟩ v1).setCell ⟨N, 2, none⟩ v2).setCell ⟨N, 3, none⟩ v3) :=
  (((h.setCell (by simpa using hN) _).setCell (by simpa using hN) _).setCell (by simpa using hN) _).setCell (by simpa using hN) _

theorem four_three (w : World) (t : TypeId) (a0 a1 a2 a3 b0 b1 b2 b3 c0 c1 c2 c3 : Value) : Four (((w.alloc (.cells #[a0, a1, a2, a3] t)).alloc (.cells #[b0, b1, b2, b3] t)).alloc (.cells #[c0, c1, c2, c3] t)) w.heap.size t a0 a1 a2 a3 ∧ Four (((w.alloc (.cells #[a0, a1, a2, a3] t)).alloc (.cells #[b0, b1, b2, b3] t)).alloc (.cells #[c0, c1, c2, c3] t)) (w.heap.size + 1) t b0 b1 b2 b3 ∧ Four (((w.alloc (.cells #[a0, a1, a2, a3] t)).alloc (.cells #[b0, b1, b2, b3] t)).alloc (.cells #[c0, c1, c2, c3] t)) (w.heap.size + 1 + 1) t c0 c1 c2 c3 := by
  obtain ⟨h1, h2⟩ := four_two w t t a0 a1 a2 a3 b0 b1 b2 b3
  refine ⟨four_old h1 _, four_old h2 _, ?_⟩
  have h := four_new ((w.alloc (.cells #[a0, a1, a2, a3] t)).alloc (.cells #[b0, b1, b2, b3] t)) t c0 c1 c2 c3
  have s2 : ∀ o o', ((w.alloc o).alloc o').heap.size = w.heap.size + 1 + 1 := fun o o' => by simp
  rw [s2] at h
  exact h

set_option maxHeartbeats 2000000 in
set_option maxRecDepth 100000 in
theorem copy_c (a b c : Int) (u : Value) (ps : List ByteArray) (base : Nat) (w : World) (hu : w.ownsRow base 9 1 u ps.length (strsV ps)) (hn : ps.length ≤ 1048576) :
    Calls Try.prog 73 #[.agg #[.int .i64 a, .int .i64 b, .int .i64 c, u]] w fun e w' => ∃ u', e = .returned (.agg #[.int .i64 a, .int .i64 b, .int .i64 c, u']) ∧ w'.ownsRow w.heap.size 9 1 u' ps.length (strsV ps) ∧ Below w.heap.size w w' := by
  obtain ⟨i0, hi, hz0, hz1, hz2⟩ := info_parts infoS
  have hb3 : ∀ A R O, Below w.heap.size w (((w.alloc A).alloc R).alloc O) := fun A R O => (((Below.refl _ _).alloc (Nat.le_refl _) _).alloc (by simp) _).alloc (by simp; omega) _
  have hs3 : ∀ A R O, (((w.alloc A).alloc R).alloc O).heap.size = w.heap.size + 1 + 1 + 1 := fun A R O => by simp
  have LIT : Hid (∀ A R O, ((((w.alloc A).alloc R).alloc O).alloc (.cells #[] 9)).ownsRow w.heap.size 9 1 (.slice (some ⟨w.heap.size + 1 + 1 + 1, 0, none⟩) 0 0) 0 []) := fun A R O => by
    have ho := World.ownsRow_lit (((w.alloc A).alloc R).alloc O) #[] 0 (base := w.heap.size) (e := 9) (size := 1) (hb3 _ _ _).size (by unfold maxLen; omega) rfl
    rw [hs3] at ho
    exact ho
  have hb4 : ∀ A R O, Below w.heap.size w ((((w.alloc A).alloc R).alloc O).alloc (.cells #[] 9)) := fun A R O => (hb3 A R O).alloc (hb3 A R O).size _
  rcases hu.2 with ⟨rfl, h0⟩ | ⟨gu, cap, cur, rfl, hgu, hgh, _⟩
  · have hps : ps = [] := List.eq_nil_of_length_eq_zero h0
    subst hps
    clear hu
    go_enter Try.func73, Try.ntmps73
    go_wp2_with (at_builtin; refine wpList_append_own_none rfl _ _ 23 rfl w.heap.size 9 i0 1 Try.underlying23 hi (.slice (some ⟨w.heap.size + 1 + 1 + 1, 0, none⟩) 0 0) 0 [] rfl (LIT.out _ _ _) rfl ?_)
    exact bodyPost_ret (v := .agg #[.int .i64 a, .int .i64 b, .int .i64 c, .slice (some ⟨w.heap.size + 1 + 1 + 1, 0, none⟩) 0 0]) (by simp [results, Try.results73, go_sem]) rfl ⟨_, rfl, LIT.out _ _ _, hb4 _ _ _⟩
  · have hgl : gu < w.heap.size := (Array.getElem?_eq_some_iff.1 hgh).1
    obtain ⟨F0, F1, F2⟩ := four_three w 59 (.int .i64 a) (.int .i64 b) (.int .i64 c) (.slice (some ⟨gu, 0, none⟩) ps.length cap) (.int .i64 0) (.int .i64 0) (.int .i64 0) (.slice none 0 0) (.int .i64 a) (.int .i64 b) (.int .i64 c) (.slice (some ⟨gu, 0, none⟩) ps.length cap)
    have G1 := four_old F1 (.cells #[] 9)
    have G2 := four_old F2 (.cells #[] 9)
    have KB := hb4 (.cells #[.int .i64 a, .int .i64 b, .int .i64 c, .slice (some ⟨gu, 0, none⟩) ps.length cap] 59) (.cells #[.int .i64 0, .int .i64 0, .int .i64 0, .slice none 0 0] 59) (.cells #[.int .i64 a, .int .i64 b, .int .i64 c, .slice (some ⟨gu, 0, none⟩) ps.length cap] 59)
    have HN : Hid (∀ j u, (strsV ps)[j]? = some u → ((((w.alloc (.cells #[.int .i64 a, .int .i64 b, .int .i64 c, .slice (some ⟨gu, 0, none⟩) ps.length cap] 59)).alloc (.cells #[.int .i64 0, .int .i64 0, .int .i64 0, .slice none 0 0] 59)).alloc (.cells #[.int .i64 a, .int .i64 b, .int .i64 c, .slice (some ⟨gu, 0, none⟩) ps.length cap] 59)).alloc (.cells #[] 9)).cell? ((⟨gu, 0, none⟩ : Addr).add j) = some u) := fun j x hx => by
      have hj : j < ps.length := by have := (List.getElem?_eq_some_iff.1 hx).1; simpa using this
      have e : ((⟨gu, 0, none⟩ : Addr).add j) = ⟨gu, j, none⟩ := by unfold Addr.add; split <;> simp_all
      rw [e, KB.cell (p := ⟨gu, j, none⟩) hgl, hu.cellAt j (by simpa using hj), hx]
    clear F0 F1 F2 hgh
    go_enter Try.func73, Try.ntmps73
    go_wp2_with (at_builtin; refine wpList_append_own _ rfl _ _ 23 rfl w.heap.size 9 i0 (.string ⟨#[]⟩) 1 16 Try.underlying23 hi hz0 hz1 hz2 rfl (by decide) (.slice (some ⟨w.heap.size + 1 + 1 + 1, 0, none⟩) 0 0) 0 [] rfl (LIT.out _ _ _) ⟨gu, 0, none⟩ ps.length cap (strsV ps) rfl (by simp) HN.out (fun u hu => by simp [strsV] at hu; obtain ⟨t, _, rfl⟩ := hu; rfl) (by unfold maxLen; omega) (by omega) KB.size ?_)
    intro v2 w2 o2 gr2 _
    have X1 := G1.turned gr2 (fun h => by simp only [Value.ownBlock, Option.some.injEq] at h; omega)
    have X2 := G2.turned gr2 (fun h => by simp only [Value.ownBlock, Option.some.injEq] at h; omega)
    have KB2 := below_turned KB gr2 KB.size (fun k hk => by simp [Value.ownBlock] at hk; omega)
    obtain ⟨q2, n2, c2, hv2⟩ : ∃ q n c, v2 = .slice q n c := by rcases o2.2 with ⟨rfl, _⟩ | ⟨g, cap, cur, rfl, _⟩ <;> exact ⟨_, _, _, rfl⟩
    subst hv2
    have o3 : w2.ownsRow w.heap.size 9 1 (.slice q2 n2 c2) ps.length (strsV ps) := by simpa using o2
    obtain ⟨x0, x1, x2, x3⟩ := X1.cells
    have fx := X1.ice
    obtain ⟨y0, y1, y2, y3⟩ := X2.cells
    have fy := X2.ice
    clear gr2 o2 G1 G2 HN hu KB
    have O4 := owns_put (j := 3) o3 X2 (by decide) (.slice q2 n2 c2)
    have Y1 := four_far (N := w.heap.size + 1 + 1) (j := 3) X1 (by omega) (.slice q2 n2 c2)
    have KB3 := KB2.setCell (p := ⟨w.heap.size + 1 + 1, 3, none⟩) (by simp; omega) (.slice q2 n2 c2)
    go_wp2_with fail
    refine bodyPost_ret (v := .agg #[.int .i64 a, .int .i64 b, .int .i64 c, .slice q2 n2 c2]) (by simp [results, Try.results73, go_sem, x0, x1, x2, x3]) rfl ⟨_, rfl, ?_, ?_⟩
    · exact owns_put4 O4 Y1 (by decide) _ _ _ _
    · exact below_put4 KB3 (by omega) _ _ _ _

end Go.Proofs.Ytbolphjigjpmiaa
