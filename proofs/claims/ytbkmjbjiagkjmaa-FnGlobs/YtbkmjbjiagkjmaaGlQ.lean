/-
  What the specification's Picked answers: those files, in order, of which one pattern takes the path; a contract for the walks; conditions: the lists lie in memory, their texts have at most 2 to the 20 bytes.
-/
import Derived.Test.YtbkmjbjiagkjmaaGlM
import Derived.Test.YtbkmjbjiagkjmaaGlN
import Derived.Deep.RegionHeld
namespace Go.Proofs.Ytbkmjbjiagkjmaa
open Go.RowKit
set_option linter.unusedSimpArgs false
set_option linter.unusedVariables false

set_option maxHeartbeats 8000000 in
set_option maxRecDepth 100000 in
theorem specPicked_c (S : Nat → Prop) (v : Value) (fs : List FileD) (u : Value) (gs : List ByteArray) (w : World) (hv : FilesIn S w v fs) (hB : ∀ b, S b → b < w.heap.size) (hu : Reads w u (strsV gs)) (hl : fs.length ≤ 1048576) (hp : ∀ f ∈ fs, f.p.size ≤ 1048576) (hgl : gs.length ≤ 1048576) (hg : ∀ g ∈ gs, g.size ≤ 1048576) :
    Calls Try.prog 47 #[v, u] w fun e w' => ∃ x, e = .returned x ∧ w'.ownsRow w.heap.size 26 2 x (pickF fs gs).length (cellsF (pickF fs gs)) ∧ Below w.heap.size w w' := by
  obtain ⟨a, cap, rfl, _, hc, hsn, ha⟩ := hv
  obtain ⟨a2, cap2, rfl, _, hx2⟩ := reads_strs hu
  obtain ⟨i0, hi, hz0, hz1, hz2⟩ := info_parts infoFile
  have ho : (w.alloc (.cells #[] 26)).ownsRow w.heap.size 26 2 (.slice (some ⟨w.heap.size, 0, none⟩) 0 0) 0 [] := World.ownsRow_lit w #[] 0 (Nat.le_refl _) (by unfold maxLen; omega) rfl
  have HU : Hid (∀ (k : Nat) (h : k < gs.length), ∃ b off, a2 = some ⟨b, off, none⟩ ∧ b < w.heap.size ∧ w.cell? ⟨b, off + k, none⟩ = some (.string gs[k])) := fun k h => by
    rcases hx2 with rfl | ⟨b, off, rfl, hlt, hx⟩
    · simp at h
    · exact ⟨b, off, rfl, hlt, hx k h⟩
  have HG : Hid (∀ g ∈ gs, g.size ≤ 1048576) := hg
  clear hu hg hx2
  go_enter Try.func47, Try.ntmps47
  go_wp2_with fail
  go_loopw [5, 6] (fun vo vi wr => ∃ k : Nat, k ≤ fs.length ∧ vi = .int .i64 (k : Int) ∧ wr.ownsRow w.heap.size 26 2 vo (pickF (fs.take k) gs).length (cellsF (pickF (fs.take k) gs)) ∧ Below w.heap.size w wr) (fun _ vi _ => fs.length - (intOf vi).toNat)
  case atStart => exact ⟨0, Nat.zero_le _, rfl, ho, (Below.refl _ _).alloc (Nat.le_refl _) _⟩
  case round =>
    obtain ⟨k, hk, rfl, hown, hbr⟩ := hrel
    by_cases hlt' : k < fs.length
    · rcases ha with rfl | ⟨b, off, rfl, hlt, ha⟩
      · simp at hlt'
      obtain ⟨e0, e1⟩ := ha k hlt'
      have hlt2 : b < w.heap.size := hB b hlt
      have hpk := hp fs[k] (List.getElem_mem hlt')
      have hst : anyM gs fs[k].p = true → pickF (fs.take (k + 1)) gs = pickF (fs.take k) gs ++ [fs[k]] := fun h => pickF_step hlt' h
      have hsk : anyM gs fs[k].p = false → pickF (fs.take (k + 1)) gs = pickF (fs.take k) gs := fun h => pickF_skip hlt' h
      have hpl := pickF_len (fs.take k) gs
      rw [List.length_take] at hpl
      obtain ⟨d, hd⟩ : ∃ d, d = fs[k] := ⟨_, rfl⟩
      rw [← hd] at e0 e1 hpk hst hsk
      obtain ⟨L, hL⟩ : ∃ L, L = pickF (fs.take k) gs := ⟨_, rfl⟩
      rw [← hL] at hown hpl hst hsk
      have hki : (k : Int) < (fs.length : Int) := by omega
      have KEEPF : Hid (∀ w', Below w.heap.size w w' → w'.cell? ⟨b, off + k * 2, none⟩ = some (.string d.p) ∧ w'.cell? ⟨b, off + k * 2 + 1, none⟩ = some (.string d.t)) := fun w' h => ⟨(h.cell (by simpa using hlt2)).trans e0, (h.cell (by simpa using hlt2)).trans e1⟩
      have HST : Hid (anyM gs d.p = true → pickF (fs.take (k + 1)) gs = L ++ [d]) := hst
      have HSK : Hid (anyM gs d.p = false → pickF (fs.take (k + 1)) gs = L) := hsk
      obtain ⟨WR, hWR⟩ : ∃ WR, WR = wr := ⟨_, rfl⟩
      rw [← hWR] at hown hbr ⊢
      clear hWR
      have hbz := hbr.size
      clear ha hd hsn hp hst hsk hL e0 e1 ho
      go_wp2_with fail
      go_loopw [5, 7] (fun v5 vj wq => ∃ j : Nat, j ≤ gs.length ∧ vj = .int .i64 (j : Int) ∧ v5 = u5 ∧ Hid (anyM (gs.take j) d.p = false) ∧ Below WR.heap.size WR wq) (fun _ vj _ => gs.length - (intOf vj).toNat)
      case atStart => exact ⟨0, Nat.zero_le _, rfl, rfl, (by show _ = _; simp [anyM]), Below.refl _ _⟩
      case round =>
        obtain ⟨j, hj, rfl, rfl, hany, hbq⟩ := hrel
        have hbw : Below w.heap.size w wr := hbr.trans (hbq.mono hbz)
        by_cases hltj : j < gs.length
        · obtain ⟨b2, off2, rfl, hb2, f0⟩ := HU.out j hltj
          have hgk := HG.out _ (List.getElem_mem hltj)
          have HT : Hid (matchB gs[j] d.p = true → anyM gs d.p = true) := fun h => anyM_at _ _ j hltj h
          have HN : Hid (matchB gs[j] d.p = false → anyM (gs.take (j + 1)) d.p = false) := fun h => by rw [anyM_take _ _ _ hltj, hany.out, h]; rfl
          obtain ⟨q, hq⟩ : ∃ q, q = gs[j] := ⟨_, rfl⟩
          rw [← hq] at f0 hgk HT HN
          obtain ⟨r, hr⟩ : ∃ r, r = matchB q d.p := ⟨_, rfl⟩
          rw [← hr] at HT HN
          have HC : Hid (∀ w, Calls Try.prog 37 #[.string q, .string d.p] w fun e w' => e = .returned (.bool r) ∧ Below w.heap.size w w') := fun w => by rw [hr]; exact specMatches_c q d.p w hgk hpk
          have hji : (j : Int) < (gs.length : Int) := by omega
          have KEEP : Hid (∀ w', Below w.heap.size w w' → w'.cell? ⟨b2, off2 + j, none⟩ = some (.string q) ∧ w'.cell? ⟨b, off + k * 2, none⟩ = some (.string d.p)) := fun w' h => ⟨(h.cell (by simpa using hb2)).trans f0, (KEEPF.out w' h).1⟩
          have hd0 : Below w.heap.size w wr.drew := hbw.drew
          have hq0 : Below WR.heap.size WR wr.drew := hbq.drew
          clear hq hr f0 hany
          cases r with
          | true =>
            have HT2 : Hid (cellsF (pickF (fs.take (k + 1)) gs) = cellsF L ++ [.string d.p, .string d.t] ∧ (pickF (fs.take (k + 1)) gs).length = L.length + 1) := by rw [HST.out (HT.out rfl)]; exact ⟨by rw [cellsF_append]; rfl, by simp⟩
            clear HT HN HST HSK
            go_wp2_with fail
            refine wp_region_held_drew (S := (fun w' => w'.cell? ⟨b2, off2 + j, none⟩ = some (.string q) ∧ w'.cell? ⟨b, off + k * 2, none⟩ = some (.string d.p))) (by kernel_rfl) ?SR10 (fun hHeld => ?_)
            case SR10 => (first | (with_reducible exact KEEP.out _ hd0) | (with_reducible exact KEEP.out _ hd1))
            refine wpAnyH_take (i := 0) (oi := _) (v := ?vR10) rfl (by kernel_rfl) (by kernel_rfl) (by kernel_rfl) (fun _ _ _ h => h) (Or.inl ⟨by rfl, ?yR10⟩) hHeld ?_
            case yR10 => (intro w hSw; (try dsimp only at hSw); go_simp <;> with_reducible rfl)
            try simp only [Act.put, List.getElem_toArray, List.getElem_cons_zero, List.getElem_cons_succ, List.setIfInBounds_toArray, List.set_cons_zero, List.set_cons_succ]
            refine wpAnyH_take (i := 1) (oi := _) (v := ?vR11) rfl (by kernel_rfl) (by kernel_rfl) (by kernel_rfl) (fun _ _ _ h => h) (Or.inl ⟨by rfl, ?yR11⟩) hHeld ?_
            case yR11 => (intro w hSw; (try dsimp only at hSw); go_simp <;> with_reducible rfl)
            try simp only [Act.put, List.getElem_toArray, List.getElem_cons_zero, List.getElem_cons_succ, List.setIfInBounds_toArray, List.set_cons_zero, List.set_cons_succ]
            refine wpAnyH_take (i := 2) (oi := _) (v := ?vR12) rfl (by kernel_rfl) (by kernel_rfl) (by kernel_rfl) (fun _ _ _ h => h) (Or.inl ⟨by rfl, ?yR12⟩) hHeld ?_
            case yR12 => (intro w hSw; (try dsimp only at hSw); go_simp <;> with_reducible rfl)
            try simp only [Act.put, List.getElem_toArray, List.getElem_cons_zero, List.getElem_cons_succ, List.setIfInBounds_toArray, List.set_cons_zero, List.set_cons_succ]
            refine wpAnyH_take (i := 3) (oi := _) (v := ?vR13) rfl (by kernel_rfl) (by kernel_rfl) (by kernel_rfl) (fun _ _ _ h => h) (Or.inl ⟨by rfl, ?yR13⟩) hHeld ?_
            case yR13 => (intro w hSw; (try dsimp only at hSw); go_simp <;> with_reducible rfl)
            try simp only [Act.put, List.getElem_toArray, List.getElem_cons_zero, List.getElem_cons_succ, List.setIfInBounds_toArray, List.set_cons_zero, List.set_cons_succ]
            refine wpAnyH_take (i := 4) (oi := _) (v := ?vR14) rfl (by kernel_rfl) (by kernel_rfl) (by kernel_rfl) (fun _ _ _ h => h) (Or.inl ⟨by rfl, ?yR14⟩) hHeld ?_
            case yR14 => (intro w hSw; (try dsimp only at hSw); go_simp <;> with_reducible rfl)
            try simp only [Act.put, List.getElem_toArray, List.getElem_cons_zero, List.getElem_cons_succ, List.setIfInBounds_toArray, List.set_cons_zero, List.set_cons_succ]
            refine wpAnyH_take (i := 5) (oi := _) (v := ?vR15) rfl (by kernel_rfl) (by kernel_rfl) (by kernel_rfl) (fun _ _ _ h => h) (Or.inl ⟨by rfl, ?yR15⟩) hHeld ?_
            case yR15 => (intro w hSw; (try dsimp only at hSw); go_simp <;> with_reducible rfl)
            try simp only [Act.put, List.getElem_toArray, List.getElem_cons_zero, List.getElem_cons_succ, List.setIfInBounds_toArray, List.set_cons_zero, List.set_cons_succ]
            refine wpAnyH_take (i := 6) (oi := _) (v := ?vR16) rfl (by kernel_rfl) (by kernel_rfl) (by kernel_rfl) (fun _ _ _ h => h) (Or.inl ⟨by rfl, ?yR16⟩) hHeld ?_
            case yR16 => (intro w hSw; (try dsimp only at hSw); go_simp <;> with_reducible rfl)
            try simp only [Act.put, List.getElem_toArray, List.getElem_cons_zero, List.getElem_cons_succ, List.setIfInBounds_toArray, List.set_cons_zero, List.set_cons_succ]
            refine wpAnyH_take (i := 7) (oi := _) (v := ?vR17) rfl (by kernel_rfl) (by kernel_rfl) (by kernel_rfl) (fun _ _ _ h => h) (Or.inl ⟨by rfl, ?yR17⟩) hHeld ?_
            case yR17 => (intro w hSw; (try dsimp only at hSw); go_simp <;> with_reducible rfl)
            try simp only [Act.put, List.getElem_toArray, List.getElem_cons_zero, List.getElem_cons_succ, List.setIfInBounds_toArray, List.set_cons_zero, List.set_cons_succ]
            refine wpAnyH_take (i := 8) (oi := _) (v := ?vR18) rfl (by kernel_rfl) (by kernel_rfl) (by kernel_rfl) (fun _ _ _ h => h) (Or.inl ⟨by rfl, ?yR18⟩) hHeld ?_
            case yR18 => (intro w hSw; (try dsimp only at hSw); go_simp <;> with_reducible rfl)
            try simp only [Act.put, List.getElem_toArray, List.getElem_cons_zero, List.getElem_cons_succ, List.setIfInBounds_toArray, List.set_cons_zero, List.set_cons_succ]
            refine wpAnyH_ready (rs := [9]) (by kernel_rfl) (by simp) ?_
            refine AllReadyH.cons rfl (fun K hK => ?_) AllReadyH.nil
            go_simp
            go_wp2_with (go_at_call 37; refine (HC.out _).mono ?_; rintro e w1 ⟨rfl, b1⟩; have hd1 : Below w.heap.size w w1 := hd0.trans (b1.mono hd0.size); have hq1 : Below WR.heap.size WR w1 := hq0.trans (b1.mono hq0.size))
            clear hHeld
            refine hK.out _ _ ?SR110 (fun hHeld => ?_)
            case SR110 => ((try dsimp only); first | (with_reducible exact KEEP.out _ hd0) | (with_reducible exact KEEP.out _ hd1))
            clear hK K
            refine wpAnyH_done (by kernel_rfl) ?_ _
            clear hHeld
            obtain ⟨c0, c1⟩ := KEEPF.out w1 hd1
            have hown1 := owns2_below hown hq1
            go_wp2_with (at_builtin; refine wpList_append_own _ rfl _ _ 24 rfl w.heap.size 26 i0 (.agg #[.string ⟨#[]⟩, .string ⟨#[]⟩]) 2 32 Try.underlying24 hi hz0 hz1 hz2 rfl (by decide) _ L.length (cellsF L) rfl (hown1.alloc _) ⟨w1.heap.size, 0, none⟩ 1 1 [.string d.p, .string d.t] rfl rfl (cell_two_c _ _ _ _) (fun u hu => by simp at hu; rcases hu with rfl | rfl <;> rfl) (by unfold maxLen; omega) (by omega) (by have := hd1.size; simp; omega) ?_)
            intro v3 w3 o3 gr3 _
            rw [← HT2.out.1, ← HT2.out.2] at o3
            have hb3 : Below w.heap.size w w3 := Below.grown (hd1.alloc hd1.size _) gr3 (by have := hd1.size; simp; omega) (fun j hj => (hown1.lt _ hj).1)
            clear gr3 hown1
            go_wp2_with fail
            go_roundw
            case rel => exact ⟨k + 1, by omega, by go_num, o3, hb3⟩
            case measure => simp [intOf]; omega
          | false =>
            have HN2 : Hid (anyM (gs.take (j + 1)) d.p = false) := HN.out rfl
            clear HT HN
            go_wp2_with fail
            refine wp_region_held_drew (S := (fun w' => w'.cell? ⟨b2, off2 + j, none⟩ = some (.string q) ∧ w'.cell? ⟨b, off + k * 2, none⟩ = some (.string d.p))) (by kernel_rfl) ?SR20 (fun hHeld => ?_)
            case SR20 => (first | (with_reducible exact KEEP.out _ hd0) | (with_reducible exact KEEP.out _ hd1))
            refine wpAnyH_take (i := 0) (oi := _) (v := ?vR20) rfl (by kernel_rfl) (by kernel_rfl) (by kernel_rfl) (fun _ _ _ h => h) (Or.inl ⟨by rfl, ?yR20⟩) hHeld ?_
            case yR20 => (intro w hSw; (try dsimp only at hSw); go_simp <;> with_reducible rfl)
            try simp only [Act.put, List.getElem_toArray, List.getElem_cons_zero, List.getElem_cons_succ, List.setIfInBounds_toArray, List.set_cons_zero, List.set_cons_succ]
            refine wpAnyH_take (i := 1) (oi := _) (v := ?vR21) rfl (by kernel_rfl) (by kernel_rfl) (by kernel_rfl) (fun _ _ _ h => h) (Or.inl ⟨by rfl, ?yR21⟩) hHeld ?_
            case yR21 => (intro w hSw; (try dsimp only at hSw); go_simp <;> with_reducible rfl)
            try simp only [Act.put, List.getElem_toArray, List.getElem_cons_zero, List.getElem_cons_succ, List.setIfInBounds_toArray, List.set_cons_zero, List.set_cons_succ]
            refine wpAnyH_take (i := 2) (oi := _) (v := ?vR22) rfl (by kernel_rfl) (by kernel_rfl) (by kernel_rfl) (fun _ _ _ h => h) (Or.inl ⟨by rfl, ?yR22⟩) hHeld ?_
            case yR22 => (intro w hSw; (try dsimp only at hSw); go_simp <;> with_reducible rfl)
            try simp only [Act.put, List.getElem_toArray, List.getElem_cons_zero, List.getElem_cons_succ, List.setIfInBounds_toArray, List.set_cons_zero, List.set_cons_succ]
            refine wpAnyH_take (i := 3) (oi := _) (v := ?vR23) rfl (by kernel_rfl) (by kernel_rfl) (by kernel_rfl) (fun _ _ _ h => h) (Or.inl ⟨by rfl, ?yR23⟩) hHeld ?_
            case yR23 => (intro w hSw; (try dsimp only at hSw); go_simp <;> with_reducible rfl)
            try simp only [Act.put, List.getElem_toArray, List.getElem_cons_zero, List.getElem_cons_succ, List.setIfInBounds_toArray, List.set_cons_zero, List.set_cons_succ]
            refine wpAnyH_take (i := 4) (oi := _) (v := ?vR24) rfl (by kernel_rfl) (by kernel_rfl) (by kernel_rfl) (fun _ _ _ h => h) (Or.inl ⟨by rfl, ?yR24⟩) hHeld ?_
            case yR24 => (intro w hSw; (try dsimp only at hSw); go_simp <;> with_reducible rfl)
            try simp only [Act.put, List.getElem_toArray, List.getElem_cons_zero, List.getElem_cons_succ, List.setIfInBounds_toArray, List.set_cons_zero, List.set_cons_succ]
            refine wpAnyH_take (i := 5) (oi := _) (v := ?vR25) rfl (by kernel_rfl) (by kernel_rfl) (by kernel_rfl) (fun _ _ _ h => h) (Or.inl ⟨by rfl, ?yR25⟩) hHeld ?_
            case yR25 => (intro w hSw; (try dsimp only at hSw); go_simp <;> with_reducible rfl)
            try simp only [Act.put, List.getElem_toArray, List.getElem_cons_zero, List.getElem_cons_succ, List.setIfInBounds_toArray, List.set_cons_zero, List.set_cons_succ]
            refine wpAnyH_take (i := 6) (oi := _) (v := ?vR26) rfl (by kernel_rfl) (by kernel_rfl) (by kernel_rfl) (fun _ _ _ h => h) (Or.inl ⟨by rfl, ?yR26⟩) hHeld ?_
            case yR26 => (intro w hSw; (try dsimp only at hSw); go_simp <;> with_reducible rfl)
            try simp only [Act.put, List.getElem_toArray, List.getElem_cons_zero, List.getElem_cons_succ, List.setIfInBounds_toArray, List.set_cons_zero, List.set_cons_succ]
            refine wpAnyH_take (i := 7) (oi := _) (v := ?vR27) rfl (by kernel_rfl) (by kernel_rfl) (by kernel_rfl) (fun _ _ _ h => h) (Or.inl ⟨by rfl, ?yR27⟩) hHeld ?_
            case yR27 => (intro w hSw; (try dsimp only at hSw); go_simp <;> with_reducible rfl)
            try simp only [Act.put, List.getElem_toArray, List.getElem_cons_zero, List.getElem_cons_succ, List.setIfInBounds_toArray, List.set_cons_zero, List.set_cons_succ]
            refine wpAnyH_take (i := 8) (oi := _) (v := ?vR28) rfl (by kernel_rfl) (by kernel_rfl) (by kernel_rfl) (fun _ _ _ h => h) (Or.inl ⟨by rfl, ?yR28⟩) hHeld ?_
            case yR28 => (intro w hSw; (try dsimp only at hSw); go_simp <;> with_reducible rfl)
            try simp only [Act.put, List.getElem_toArray, List.getElem_cons_zero, List.getElem_cons_succ, List.setIfInBounds_toArray, List.set_cons_zero, List.set_cons_succ]
            refine wpAnyH_ready (rs := [9]) (by kernel_rfl) (by simp) ?_
            refine AllReadyH.cons rfl (fun K hK => ?_) AllReadyH.nil
            go_simp
            go_wp2_with (go_at_call 37; refine (HC.out _).mono ?_; rintro e w1 ⟨rfl, b1⟩; have hd1 : Below w.heap.size w w1 := hd0.trans (b1.mono hd0.size); have hq1 : Below WR.heap.size WR w1 := hq0.trans (b1.mono hq0.size))
            clear hHeld
            refine hK.out _ _ ?SR210 (fun hHeld => ?_)
            case SR210 => ((try dsimp only); first | (with_reducible exact KEEP.out _ hd0) | (with_reducible exact KEEP.out _ hd1))
            clear hK K
            refine wpAnyH_done (by kernel_rfl) ?_ _
            clear hHeld
            go_wp2_with fail
            go_roundw
            case rel => exact ⟨j + 1, by omega, by go_num, rfl, HN2, hq1⟩
            case measure => simp [intOf]; omega
        · have hji : ¬ (j : Int) < (gs.length : Int) := by omega
          have hje : j = gs.length := by omega
          have HE : Hid (pickF (fs.take (k + 1)) gs = L) := HSK.out (by have := hany.out; rw [hje, List.take_length] at this; exact this)
          clear hje hany
          go_wp2_with fail
          go_roundw
          case rel => exact ⟨k + 1, by omega, by go_num, by rw [HE.out]; exact owns2_below hown hbq, hbw⟩
          case measure => simp [intOf]; omega
    · have he : k = fs.length := by omega
      subst he
      rw [List.take_length] at hown
      clear ha hsn hp ho
      go_wp2_with fail
      go_ret
      exact ⟨_, rfl, hown, hbr⟩
end Go.Proofs.Ytbkmjbjiagkjmaa
