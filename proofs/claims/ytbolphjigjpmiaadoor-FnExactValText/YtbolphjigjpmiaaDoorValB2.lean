/-
  When a map is right but for its parts, as the specification has it: for every list of keys that lies in memory.
-/
import Derived.Test.YtbolphjigjpmiaaDoorValB
namespace Go.Proofs.YtbolphjigjpmiaaDoor
open Go.RowKit
set_option linter.unusedSimpArgs false
set_option linter.unusedVariables false

theorem quiet_mine {P : Program} {f : FuncId} {args : Array Value} {w : World} {n : Nat} {v : Value}
    (h : Calls P f args (w.drewN n) fun e w' => e = .returned v ∧ w.drewN n = w') : Calls P f args (w.drewN n) fun e w'' => e = .returned v ∧ ∃ m, w'' = w.drewN m :=
  h.mono fun _ _ ⟨he, hm⟩ => ⟨he, n, hm.symm⟩

theorem keysUpto_bad (ks : List ByteArray) (i : Nat) (h : keysUpto ks (i + 1) = false) : ∀ j, i + 1 ≤ j → keysUpto ks j = false
  | 0, hj => by omega
  | j + 1, hj => by
    by_cases e : i = j
    · subst e; exact h
    · rw [keysUpto, keysUpto_bad ks i h j (by omega)]; rfl

theorem keys_false {ks : List ByteArray} {i : Nat} (hi : i < ks.length) (h : keysUpto ks (i + 1) = false) : keysUpto ks ks.length = false := keysUpto_bad ks i h _ (by omega)

set_option maxHeartbeats 4000000 in
set_option maxRecDepth 100000 in
theorem here_map (n : Int) (s : ByteArray) (a : Option Addr) (m cap : Nat) (u : Value) (ks : List ByteArray) (w : World) (hs : s.size ≤ maxLen) (hk : saneS ks) (hu : Reads w u (strsV ks)) :
    Calls Tryd.prog 28 #[.agg #[.int .i64 5, .int .i64 n, .string s, .slice a m cap, u]] w fun e w' => e = .returned (.bool (hereB 5 n s m ks)) ∧ Below w.heap.size w w' := by
  have hbx : ∀ o, Below w.heap.size w (w.alloc o) := fun o => (Below.refl _ _).alloc (Nat.le_refl _) _
  obtain ⟨a', cap', rfl, hcp, hc⟩ := reads_strs hu
  obtain ⟨hk1, hk2⟩ := hk
  unfold maxLen at hk1
  by_cases hse : s.toList = []
  case neg =>
    have HZ : Hid (hereB 5 n s m ks = false) := by
      show _ = _
      have : s.toList.isEmpty = false := by simpa using hse
      simp only [hereB, this]
      simp
    go_enter Tryd.func28, Tryd.ntmps28
    go_wp2_with fail
    all_goals go_ret
    all_goals (refine ⟨?_, hbx _⟩; have := HZ.out; go_light; simp_all)
  have hse' : s.toList.isEmpty = true := by simpa using hse
  go_enter Tryd.func28, Tryd.ntmps28
  go_wp2_with fail
  obtain ⟨W, hW⟩ : ∃ W, W = w.alloc (.cells #[.int .i64 5, .int .i64 n, .string s, .slice a m cap, .slice a' ks.length cap'] 30) := ⟨_, rfl⟩
  have hbW : Below w.heap.size w W := by rw [hW]; exact hbx _
  have hN : w.heap.size < W.heap.size := by rw [hW]; simp
  obtain ⟨x0, x1, x2, x3, x4⟩ := box5 (w := w) (t := 30) (c0 := .int .i64 5) (c1 := .int .i64 n) (c2 := .string s) (c3 := .slice a m cap) (c4 := .slice a' ks.length cap') (w1 := W) (by rw [hW]; exact Below.refl _ _)
  rw [← hW]
  clear hW hbx
  go_loopw [3] (fun vi wr => ∃ (k : Nat), k ≤ ks.length ∧ vi = .int .i64 (k : Int) ∧ Below W.heap.size W wr ∧ Hid (keysUpto ks k = true)) (fun vi _ => ks.length - (intOf vi).toNat)
  case atStart => exact ⟨0, Nat.zero_le _, rfl, Below.refl _ _, rfl⟩
  case round =>
    obtain ⟨k, hkl, rfl, hbr, hh⟩ := hrel
    rw [← hbr.cell (by simpa using hN)] at x0 x1 x2 x3 x4
    have hbw : Below w.heap.size w wr := hbW.trans (hbr.mono hbW.size)
    by_cases hlt : k < ks.length
    · rcases hc with rfl | ⟨b, off, rfl, hlb, hc⟩
      · simp at hlt
      have c1 := hc k hlt
      rw [← hbw.cell (by simpa using hlb)] at c1
      have hsz := hk2 ks[k] (List.getElem_mem hlt)
      have hki : (k : Int) < (ks.length : Int) := by omega
      have hstep : keysUpto ks (k + 1) = (textB ks[k] && (k == 0 || Op.bytesLess (ks.getD (k - 1) ⟨#[]⟩).toList (ks[k]).toList)) := by
        rw [keysUpto, hh.out]; simp [List.getD_eq_getElem?_getD, hlt]
      obtain ⟨t, ht⟩ : ∃ t, t = ks[k] := ⟨_, rfl⟩
      rw [← ht] at c1 hsz hstep
      have HT : Hid (∀ w, Calls Tryd.prog 38 #[.string t] w fun e w' => e = .returned (.bool (textB t)) ∧ w = w') := fun w => specText_c t hsz w
      by_cases htx : textB t = true
      · rw [htx] at HT
        rcases Nat.eq_zero_or_pos k with rfl | hk0
        · have HS : Hid (keysUpto ks (0 + 1) = true) := by show _ = _; rw [hstep, htx]; rfl
          clear hc hk2 ht hstep
          simp only [Nat.add_zero] at c1
          go_wp2_with fail
          go_quiet (first | (go_at_call 38; exact quiet_mine (HT.out _)))
          go_wp2_with fail
          go_roundw
          case rel => exact ⟨1, by omega, by go_num, below_drewN' hbr _, HS⟩
          case measure => simp [intOf]; omega
        · have c0 := hc (k - 1) (by omega)
          rw [← hbw.cell (by simpa using hlb)] at c0
          obtain ⟨j, rfl⟩ : ∃ j, k = j + 1 := ⟨k - 1, by omega⟩
          simp only [Nat.add_sub_cancel] at c0 hstep
          have ej : ks.getD j ⟨#[]⟩ = ks[j] := by simp [List.getD_eq_getElem?_getD, show j < ks.length by omega]
          rw [ej] at hstep
          obtain ⟨t0, ht0⟩ : ∃ t0, t0 = ks[j] := ⟨_, rfl⟩
          rw [← ht0] at c0 hstep
          have hpj : (0 : Int) < (j : Int) + 1 := by omega
          have hj1 : (j : Int) + 1 - 1 = (j : Int) := by omega
          by_cases hless : Op.bytesLess t0.toList t.toList = true
          · have HS : Hid (keysUpto ks (j + 1 + 1) = true) := by show _ = _; rw [hstep, htx, hless]; simp
            clear hc hk2 ht hstep ht0 ej
            go_wp2_with fail
            go_quiet (first | (go_at_call 38; exact quiet_mine (HT.out _)))
            go_wp2_with fail
            go_roundw
            case rel => exact ⟨j + 1 + 1, by omega, by go_num, below_drewN' hbr _, HS⟩
            case measure => simp [intOf]; omega
          · have hless' : Op.bytesLess t0.toList t.toList = false := by simpa using hless
            have HS : Hid (keysUpto ks ks.length = false) := keys_false hlt (by rw [hstep, htx, hless']; simp)
            clear hc hk2 ht hstep ht0 ej
            go_wp2_with fail
            go_quiet (first | (go_at_call 38; exact quiet_mine (HT.out _)))
            go_wp2_with fail
            go_ret
            refine ⟨?_, below_drewN' hbw _⟩
            rw [hereB, HS.out]
            simp
      · have htx' : textB t = false := by simpa using htx
        rw [htx'] at HT
        have HS : Hid (keysUpto ks ks.length = false) := keys_false hlt (by rw [hstep, htx']; rfl)
        clear hc hk2 ht hstep
        go_wp2_with fail
        go_quiet (first | (go_at_call 38; exact quiet_mine (HT.out _)))
        go_wp2_with fail
        go_ret
        refine ⟨?_, below_drewN' hbw _⟩
        rw [hereB, HS.out]
        simp
    · have he : k = ks.length := by omega
      subst he
      clear hc
      go_wp2_with fail
      all_goals go_ret
      all_goals (refine ⟨?_, hbw⟩; have := hh.out; have e5 : ((ks.length : Int) == (m : Int)) = (ks.length == m) := by rw [Bool.eq_iff_iff]; simp; omega
                 go_light; simp_all [hereB])
#print axioms here_map
end Go.Proofs.YtbolphjigjpmiaaDoor
