/-
  The program's place for a new file: the first of a greater path, and a copy of a list of files; contracts for the walks; conditions: the list lies in memory, and holds at most 2 to the 20.
-/
import Derived.Test.YtlnofdlhjeomfaaFiU
import Derived.Deep.Cut
import Derived.Lib.SliceRun
namespace Go.Proofs.Ytlnofdlhjeomfaa
open Go.RowKit Go.Maps
set_option linter.unusedSimpArgs false
set_option linter.unusedVariables false

/-- The place of the first of a greater path. -/
def atF (f : FileD) (fs : List FileD) : Nat := fs.findIdx fun x => lessP f.p x.p
theorem insR_at (f : FileD) : ∀ fs : List FileD, insR f fs = fs.take (atF f fs) ++ f :: fs.drop (atF f fs)
  | [] => rfl
  | g :: fs => by
    unfold insR atF
    rw [List.findIdx_cons]
    cases h : lessP f.p g.p with
    | true => simp
    | false =>
      have := insR_at f fs
      unfold atF at this
      simp only [Bool.false_eq_true, if_false, cond_false, List.take_succ_cons, List.drop_succ_cons, List.cons_append]
      rw [← this]
theorem atF_le (f : FileD) (fs : List FileD) : atF f fs ≤ fs.length := List.findIdx_le_length
theorem atF_here {f : FileD} {fs : List FileD} {k : Nat} (h : k < fs.length) (hy : lessP f.p fs[k].p = true) (hn : ∀ j (hj : j < fs.length), j < k → lessP f.p fs[j].p = false) : atF f fs = k := by
  unfold atF
  rw [List.findIdx_eq h]
  exact ⟨hy, fun j hj => by simpa using hn j (by omega) hj⟩
theorem atF_none {f : FileD} {fs : List FileD} (hn : ∀ j (hj : j < fs.length), lessP f.p fs[j].p = false) : atF f fs = fs.length := by
  unfold atF
  rw [List.findIdx_eq_length]
  intro x hx
  obtain ⟨j, hj, rfl⟩ := List.mem_iff_getElem.1 hx
  simpa using hn j hj

set_option maxHeartbeats 1000000 in
set_option maxRecDepth 100000 in
theorem placeFn_c (d f : FileD) (B : Nat) (w : World) (hF : w.heap[B]? = some (.cells #[.string f.p, .string f.t] 26 (0, 0))) :
    Calls Try.prog 82 #[.agg #[.string d.p, .string d.t], .pointer (some ⟨B, 0, none⟩)] w fun e w' => e = .returned (.bool (lessP f.p d.p)) ∧ Below w.heap.size w w' := by
  have hX := vheap_new w (.cells #[.string d.p, .string d.t] 26)
  have x0 := vblk_cell hX 0
  simp only [List.getElem?_toArray, List.getElem?_cons_succ, List.getElem?_cons_zero] at x0
  have hBl := (Array.getElem?_eq_some_iff.1 hF).1
  have y0 : (w.alloc (.cells #[.string d.p, .string d.t] 26)).cell? ⟨B, 0, none⟩ = some (.string f.p) := by
    have : w.cell? ⟨B, 0, none⟩ = some (.string f.p) := by rw [vblk_cell hF]; rfl
    rw [← this]
    exact ((Below.refl w.heap.size w).alloc (Nat.le_refl _) _).cell (by simpa using hBl)
  have hg : (!Op.bytesLess d.p.toList f.p.toList && !d.p.toList == f.p.toList) = lessP f.p d.p := by rw [← Bool.not_or, gt_iff, lessP_eq]
  have HG : Hid ((!Op.bytesLess d.p.toList f.p.toList && !d.p.toList == f.p.toList) = lessP f.p d.p) := hg
  have kb := (Below.refl w.heap.size w).alloc (Nat.le_refl _) (.cells #[.string d.p, .string d.t] 26)
  clear hF hX hg
  go_enter Try.func82, Try.ntmps82
  go_wp2_with fail
  go_ret
  exact ⟨by rw [← HG.out]; rfl, kb⟩

set_option maxHeartbeats 2000000 in
set_option maxRecDepth 100000 in
theorem placeAt_c (S : Nat → Prop) (v : Value) (fs : List FileD) (f : FileD) (B : Nat) (w : World) (hv : FilesIn S w v fs) (hB : ∀ b, S b → b < w.heap.size) (hl : fs.length ≤ 1048576) (hF : w.heap[B]? = some (.cells #[.string f.p, .string f.t] 26 (0, 0))) :
    Calls Try.prog 81 #[v, .func (.func 82) #[] #[.pointer (some ⟨B, 0, none⟩)]] w fun e w' => e = .returned (.int .i64 (if atF f fs < fs.length then (atF f fs : Int) else -1)) ∧ Below w.heap.size w w' := by
  obtain ⟨a, cap, rfl, _, hc, _, ha⟩ := hv
  have hBlt := (Array.getElem?_eq_some_iff.1 hF).1
  obtain ⟨R, hR⟩ : ∃ R : Int, R = if atF f fs < fs.length then (atF f fs : Int) else -1 := ⟨_, rfl⟩
  rw [← hR]
  have HR : Hid (R = if atF f fs < fs.length then (atF f fs : Int) else -1) := hR
  clear hR
  go_enter Try.func81, Try.ntmps81
  go_wp2_with fail
  go_loopw [8] (fun vi wr => ∃ k : Nat, k ≤ fs.length ∧ vi = .int .i64 (k : Int) ∧ Hid (∀ j (hj : j < fs.length), j < k → lessP f.p fs[j].p = false) ∧ Below w.heap.size w wr) (fun vi _ => fs.length - (intOf vi).toNat)
  case atStart => exact ⟨0, Nat.zero_le _, rfl, (fun j hj h => by omega), Below.refl _ _⟩
  case round =>
    obtain ⟨k, hk, rfl, hno, hbr⟩ := hrel
    by_cases hlt' : k < fs.length
    · rcases ha with rfl | ⟨b, off, rfl, hlt, ha⟩
      · simp at hlt'
      obtain ⟨e0, e1⟩ := ha k hlt'
      have hltw := hB b hlt
      rw [← hbr.cell (by simpa using hltw)] at e0
      rw [← hbr.cell (by simpa using hltw)] at e1
      have HT : Hid (lessP f.p fs[k].p = true → atF f fs = k) := fun h => atF_here hlt' h hno.out
      have HN : Hid (lessP f.p fs[k].p = false → ∀ j (hj : j < fs.length), j < k + 1 → lessP f.p fs[j].p = false) := fun h j hj hjk => by
        by_cases e : j = k
        · subst e; exact h
        · exact hno.out j hj (by omega)
      obtain ⟨d, hd⟩ : ∃ d, d = fs[k] := ⟨_, rfl⟩
      rw [← hd] at e0 e1 HT HN
      obtain ⟨r, hr⟩ : ∃ r, r = lessP f.p d.p := ⟨_, rfl⟩
      rw [← hr] at HT HN
      have HC : Hid (Calls Try.prog 82 #[.agg #[.string d.p, .string d.t], .pointer (some ⟨B, 0, none⟩)] wr fun e w' => e = .returned (.bool r) ∧ Below wr.heap.size wr w') := by rw [hr]; exact placeFn_c d f B wr ((hbr.block B hBlt).trans hF)
      have hki : (k : Int) < (fs.length : Int) := by omega
      clear ha hd hr hF hno
      cases r with
      | true =>
        have HT2 : Hid (R = (k : Int)) := by show _ = _; rw [HR.out, HT.out rfl, if_pos hlt']
        clear HT HN
        go_wp2_with (go_at_call 82; refine HC.out.mono ?_; rintro e w1 ⟨rfl, b1⟩)
        go_ret
        exact ⟨by rw [HT2.out]; rfl, hbr.trans (b1.mono hbr.size)⟩
      | false =>
        have HN2 : Hid (∀ j (hj : j < fs.length), j < k + 1 → lessP f.p fs[j].p = false) := HN.out rfl
        clear HT HN
        go_wp2_with (go_at_call 82; refine HC.out.mono ?_; rintro e w1 ⟨rfl, b1⟩)
        go_roundw
        case rel => exact ⟨k + 1, by omega, by go_num, HN2.out, hbr.trans (b1.mono hbr.size)⟩
        case measure => simp [intOf]; omega
    · have he : k = fs.length := by omega
      subst he
      have HE : Hid (R = -1) := by
        show _ = _
        rw [HR.out, atF_none (fun j hj => hno.out j hj hj), if_neg (by omega)]
      clear ha hno hF
      go_wp2_with fail
      go_ret
      exact ⟨by rw [HE.out]; rfl, hbr⟩

set_option maxHeartbeats 1000000 in
set_option maxRecDepth 100000 in
theorem cloneF_c (S : Nat → Prop) (v : Value) (fs : List FileD) (w : World) (hv : FilesIn S w v fs) (hB : ∀ b, S b → b < w.heap.size) (hl : fs.length ≤ 1048576) :
    Calls Try.prog 84 #[v] w fun e w' => ∃ x, e = .returned x ∧ w'.ownsRow w.heap.size 26 2 x fs.length (cellsF fs) ∧ Below w.heap.size w w' := by
  obtain ⟨i0, hi, hz0, hz1, hz2⟩ := info_parts infoFile
  have kx := (Below.refl w.heap.size w).alloc (Nat.le_refl _) (.cells #[] 26)
  have LIT : (w.alloc (.cells #[] 26)).ownsRow w.heap.size 26 2 (.slice (some ⟨w.heap.size, 0, none⟩) 0 0) 0 [] := World.ownsRow_lit w #[] 0 (Nat.le_refl _) (by unfold maxLen; omega) rfl
  have SX := hv.keep (.of kx hB)
  have q24 : ∀ (w : World) (a : Option Addr) (n c n' c' : Nat), (binOp .eql 24 (.slice a n c) (.slice none n' c')).run Try.prog w = .ok (.bool a.isNone) w := fun w a n c n' c' => Lib.run_eql_slice_nil w _ _ a n c n' c' Try.underlying24
  obtain ⟨qv, cv, rfl, _, hcv, _, hcs⟩ := id hv
  cases qv with
  | none =>
    have he : fs = [] := by
      rcases hcs with h | ⟨b, off, h, _⟩
      · exact h
      · cases h
    subst he
    clear hv SX hcs
    go_enter Try.func84, Try.ntmps84
    go_wp2_with fail
    go_ret
    exact ⟨_, rfl, World.ownsRow_nil _ _ _ _, Below.refl _ _⟩
  | some ad =>
    clear hv hcs
    go_enter Try.func84, Try.ntmps84
    go_wp2_with (at_builtin; refine wpList_append_own _ rfl _ _ 24 rfl w.heap.size 26 i0 (.agg #[.string ⟨#[]⟩, .string ⟨#[]⟩]) 2 32 Try.underlying24 hi hz0 hz1 hz2 rfl (by decide) (.slice (some ⟨w.heap.size, 0, none⟩) 0 0) 0 [] rfl LIT ad fs.length cv (cellsF fs) rfl (cellsF_length fs) (filesIn_src SX) (cellsF_one fs) (by unfold maxLen; omega) (by omega) (by simp) ?_)
    intro v3 w3 o3 gr3 _
    have b3 : Below w.heap.size w w3 := Below.grown kx gr3 kx.size (fun j hj => by cases hj; exact Nat.le_refl _)
    go_wp2_with fail
    go_ret
    exact ⟨_, rfl, o3, b3⟩
end Go.Proofs.Ytlnofdlhjeomfaa
