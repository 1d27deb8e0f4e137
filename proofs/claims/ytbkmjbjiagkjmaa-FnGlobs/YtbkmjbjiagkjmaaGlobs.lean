/-
  At every code the drawn patterns, paths and files are as the law says: two stars take all paths and no other text, a path without signs takes itself alone, what is picked is what matches, in order; no condition (a code of more than 2 to the 20 bytes is passed by, as the law says).
-/
import Derived.Test.YtbkmjbjiagkjmaaRows
import Derived.WalkKit
import Derived.Test.YtbkmjbjiagkjmaaGlS
import Derived.Test.YtbkmjbjiagkjmaaGlQ
import Derived.Test.YtbkmjbjiagkjmaaBigA
import Derived.Deep.RegionHeld
import Derived.ProofKit
import Derived.OpenShut
import Derived.ShutString
import Derived.SliceStrings
import Derived.ChangeOld
import Derived.Below
namespace Go.Proofs.Ytbkmjbjiagkjmaa.fnGlobs
open Go.ChangeShapes Go.WideShapes Go.ChangeAt Go.RowKit
open Go.ChangeMaps (open_string shut_string)
set_option linter.unusedVariables false
set_option linter.unusedSimpArgs false

theorem own : ownKnob Try.prog.godebug = none := by kernel_rfl
theorem laidOut : laidOutB Try.prog = true := by kernel_rfl

theorem addr_add (b off i : Nat) : ((⟨b, off, none⟩ : Addr).add i) = ⟨b, off + i, none⟩ := by unfold Addr.add; split <;> simp_all
theorem reads_mk {w : World} {x : Addr} {len cap : Nat} {xs : List Value} (hl : xs.length = len) (hc : len ≤ cap) (hcell : ∀ i (h : i < xs.length), w.cell? (x.add i) = some xs[i]) : Reads w (.slice (some x) len cap) xs := by
  subst hl
  by_cases h0 : xs.length = 0
  · exact ⟨some x, cap, rfl, hc, .inl (List.eq_nil_of_length_eq_zero h0)⟩
  · obtain ⟨b, off, spot⟩ := x
    have hc0 := hcell 0 (by omega)
    have hspot : spot = none := by simpa [Addr.add] using World.cell?_spot hc0
    subst hspot
    refine ⟨some ⟨b, off, none⟩, cap, rfl, hc, .inr ⟨b, off, rfl, ?_, fun i hi => ?_⟩⟩
    · rw [addr_add] at hc0; exact World.block_lt_of_cell? w _ hc0
    · have := hcell i hi; rw [addr_add] at this; exact this


theorem pl_facts : PL.all (fun p => decide (p.size ≤ 20) && ((matchB ⟨#[42, 42]⟩ p == pathB p) && ((matchB p p == pathB p) && (!pathB p || (!matchB p (p ++ ⟨#[120]⟩) && matchB ⟨#[42, 42, 47, 42]⟩ p))))) = true := by kernel_rfl
theorem pick_at {L : List FileD} {G : List ByteArray} {i : Nat} (h : i < L.length) (hm : anyM G L[i].p = true) : ∃ hk : (pickF (L.take i) G).length < (pickF L G).length, (pickF L G)[(pickF (L.take i) G).length] = L[i] := by
  have e : pickF L G = pickF (L.take (i + 1)) G ++ pickF (L.drop (i + 1)) G := by
    unfold pickF
    rw [← List.filter_append, List.take_append_drop]
  rw [pickF_step h hm] at e
  have hk : (pickF (L.take i) G).length < (pickF L G).length := by rw [e, List.length_append, List.length_append, List.length_cons]; omega
  refine ⟨hk, ?_⟩
  simp only [e]
  rw [List.getElem_append_left (by simp), List.getElem_append_right (Nat.le_refl _)]
  simp
set_option maxHeartbeats 4000000 in
set_option maxRecDepth 100000 in
theorem walk (a0 : Value) (z0 : List Int) (w : World) (r0 : Reads w a0 (bytesV z0)) (w0 : ∀ z ∈ z0, 0 ≤ z ∧ z ≤ 255) (l0 : z0.length ≤ maxLen) :
    Calls Try.prog 5 #[a0] w fun e w' => e = .returned (.bool true) ∧ Below w.heap.size w w' := by
  by_cases hbig : (1048576 : Int) < (z0.length : Int)
  · have HBG := bigYes_c a0 z0 w r0 hbig
    go_enter Try.func5, Try.ntmps5
    go_wp2_with (go_at_call 10; refine HBG.mono ?_; rintro e w1 ⟨rfl, rfl⟩)
    go_ret
    exact ⟨rfl, Below.refl _ _⟩
  have HBG := bigNo_c a0 z0 w r0 hbig
  have hn : z0.length ≤ 1048576 := by omega
  have HR : Hid (∀ w', Below w.heap.size w w' → Reads w' a0 (bytesV z0)) := fun w' h => r0.below h
  have HZ : Hid (∀ z ∈ z0, 0 ≤ z ∧ z ≤ 255) := w0
  clear r0 w0 hbig
  go_enter Try.func5, Try.ntmps5
  go_wp2_with fail
  go_at_call 10
  refine HBG.mono ?_
  rintro e w1 ⟨rfl, rfl⟩
  clear HBG
  go_wp2_with fail
  go_at_call 32
  refine (drawMatches_c a0 z0 _ (HR.out _ (Below.refl _ _)) hn HZ.out).mono ?_
  rintro e w2 ⟨g, p, hgz, hpL, rfl, k2⟩
  go_wp2_with fail
  go_at_call 33
  refine (drawPicked_c a0 z0 _ (HR.out _ k2) hn HZ.out).mono ?_
  rintro e w3 ⟨xl, yl, L, G, rfl, oL, hL, oG, hGs, hGl, b3⟩
  have k3 := k2.trans (b3.mono k2.size)
  go_wp2_with fail
  go_at_call 34
  refine (drawGlobOk_c a0 z0 _ (HR.out _ k3) hn HZ.out).mono ?_
  rintro e w4 ⟨h, hhz, rfl, b4⟩
  have k4 := k3.trans (b4.mono k3.size)
  obtain ⟨hLs, hLl⟩ := anyF_small hL
  have hLsn : ∀ f ∈ L, saneF f := fun f hf => smallF_sane (hLs f hf)
  have FL : FilesIn (Ow w2.heap.size w4.heap.size) w4 xl L := filesIn_owns (owns2_below oL b4) hLsn
  have RG : Reads w4 yl (strsV G) := reads_of_owns (owns_of_below oG b4)
  clear oL oG b3 b4 hL
  go_wp2_with fail
  go_at_call 35
  refine (implPicked_c _ _ L _ G w4 FL (fun b h => h.2) RG (by omega) (fun f hf => by have := (hLs f hf).1; omega) (fun f hf => by have := (hLs f hf).2; omega) (by omega) (fun t ht => by have := hGs t ht; omega)).mono ?_
  rintro e W5 ⟨xx, rfl, oX, b5⟩
  have k5 := k4.trans (b5.mono k4.size)
  have HPS : Hid (∀ f ∈ pickF L G, saneF f) := fun f hf => hLsn f (pickF_mem hf)
  have FX := filesIn_owns oX HPS.out
  have FL5 := FL.keep (Kp.of b5 (fun b h => h.2))
  have RG5 := RG.below b5
  obtain ⟨ql, capl, rfl, _, hcl, _, hal⟩ := FL5
  obtain ⟨qx, capx, rfl, _, hcx, _, hax⟩ := FX
  obtain ⟨qg, capg, rfl, hcg, hag⟩ := reads_strs RG5
  have HAL : Hid (∀ i (hi : i < L.length), ∃ b off, ql = some ⟨b, off, none⟩ ∧ ∀ w', Below W5.heap.size W5 w' → w'.cell? ⟨b, off + i * 2, none⟩ = some (.string L[i].p) ∧ w'.cell? ⟨b, off + i * 2 + 1, none⟩ = some (.string L[i].t)) := fun i hi => by
    rcases hal with rfl | ⟨b, off, rfl, hlt, hc⟩
    · simp at hi
    · have hlt2 : b < W5.heap.size := Nat.lt_of_lt_of_le hlt.2 b5.size
      exact ⟨b, off, rfl, fun w' hw => ⟨(hw.cell (by simpa using hlt2)).trans (hc i hi).1, (hw.cell (by simpa using hlt2)).trans (hc i hi).2⟩⟩
  have HAX : Hid (∀ i (hi : i < (pickF L G).length), ∃ b off, qx = some ⟨b, off, none⟩ ∧ ∀ w', Below W5.heap.size W5 w' → w'.cell? ⟨b, off + i * 2, none⟩ = some (.string (pickF L G)[i].p) ∧ w'.cell? ⟨b, off + i * 2 + 1, none⟩ = some (.string (pickF L G)[i].t)) := fun i hi => by
    rcases hax with he | ⟨b, off, rfl, hlt, hc⟩
    · rw [he] at hi; simp at hi
    · have hlt2 : b < W5.heap.size := hlt.2
      exact ⟨b, off, rfl, fun w' hw => ⟨(hw.cell (by simpa using hlt2)).trans (hc i hi).1, (hw.cell (by simpa using hlt2)).trans (hc i hi).2⟩⟩
  have HAG : Hid (∀ j (hj : j < G.length), ∃ b off, qg = some ⟨b, off, none⟩ ∧ ∀ w', Below W5.heap.size W5 w' → w'.cell? ⟨b, off + j, none⟩ = some (.string G[j])) := fun j hj => by
    rcases hag with rfl | ⟨b, off, rfl, hlt, hc⟩
    · simp at hj
    · exact ⟨b, off, rfl, fun w' hw => (hw.cell (by simpa using hlt)).trans (hc j hj)⟩
  have HLS : Hid (∀ f ∈ L, smallF f) := hLs
  have HGS : Hid (∀ t ∈ G, t.size ≤ 20) := hGs
  have hPl : (pickF L G).length ≤ 33 := by have := pickF_len L G; omega
  have HM : Hid (∀ a b w', a.size ≤ 1048576 → b.size ≤ 1048576 → Calls Try.prog 36 #[.string a, .string b] w' fun e w'' => e = .returned (.bool (matchB a b)) ∧ Below w'.heap.size w' w'') := fun a b w' h1 h2 => implMatches_c a b w' h1 h2
  obtain ⟨P, hP⟩ : ∃ P, P = (pickF L G).length := ⟨_, rfl⟩
  rw [← hP] at hPl hcx
  have HP : Hid (P = (pickF L G).length) := hP
  clear hal hax hag FL RG oX HPS hLsn hLs hGs hP
  go_wp2_with fail
  simp only [← HP.out]
  go_loopw [9, 10, 11, 12] (fun vk vi _ _ wr => ∃ i k : Nat, i ≤ L.length ∧ vi = .int .i64 (i : Int) ∧ vk = .int .i64 (k : Int) ∧ k ≤ i ∧ Hid (k = (pickF (L.take i) G).length) ∧ Below W5.heap.size W5 wr) (fun _ vi _ _ _ => L.length - (intOf vi).toNat)
  case atStart => exact ⟨0, 0, Nat.zero_le _, rfl, rfl, Nat.le_refl _, rfl, Below.refl _ _⟩
  case round =>
    obtain ⟨i, k, hi, rfl, rfl, hki, hk, hbr⟩ := hrel
    by_cases hlt : i < L.length
    · have hii : (i : Int) < (L.length : Int) := by omega
      obtain ⟨bl, offl, rfl, hcellL⟩ := HAL.out i hlt
      have hst : anyM G L[i].p = true → (pickF (L.take (i + 1)) G).length = k + 1 := fun h => by rw [pickF_step hlt h]; simp [hk.out]
      have hsk : anyM G L[i].p = false → (pickF (L.take (i + 1)) G).length = k := fun h => by rw [pickF_skip hlt h]; exact hk.out.symm
      have hat : anyM G L[i].p = true → ∃ hkk : k < (pickF L G).length, (pickF L G)[k] = L[i] := fun h => by
        obtain ⟨q1, q2⟩ := pick_at hlt h
        have hk' := hk.out
        subst hk'
        exact ⟨q1, q2⟩
      have hsm := HLS.out _ (List.getElem_mem hlt)
      obtain ⟨d, hd⟩ : ∃ d, d = L[i] := ⟨_, rfl⟩
      rw [← hd] at hst hsk hat hsm
      simp only [← hd] at hcellL
      have HCL : Hid (∀ w', Below W5.heap.size W5 w' → w'.cell? ⟨bl, offl + i * 2, none⟩ = some (.string d.p) ∧ w'.cell? ⟨bl, offl + i * 2 + 1, none⟩ = some (.string d.t)) := hcellL
      have HST : Hid ((anyM G d.p = true → (pickF (L.take (i + 1)) G).length = k + 1) ∧ (anyM G d.p = false → (pickF (L.take (i + 1)) G).length = k)) := ⟨hst, hsk⟩
      have HAT : Hid (anyM G d.p = true → ∃ hkk : k < (pickF L G).length, (pickF L G)[k] = d) := hat
      have hdp : d.p.size ≤ 1048576 := by have := hsm.1; omega
      clear hcellL hd hst hsk hat hsm
      go_wp2_with fail
      go_loopw [11, 12] (fun vm vj wq => ∃ (j : Nat) (m : Bool), j ≤ G.length ∧ vj = .int .i64 (j : Int) ∧ vm = .bool m ∧ Hid (m = anyM (G.take j) d.p) ∧ Below W5.heap.size W5 wq) (fun _ vj _ => G.length - (intOf vj).toNat)
      case atStart => exact ⟨0, false, Nat.zero_le _, rfl, rfl, (by show _ = _; simp [anyM]), hbr⟩
      case round =>
        obtain ⟨j, m, hj, rfl, rfl, hm, hbq⟩ := hrel
        by_cases hltj : j < G.length
        · have hji : (j : Int) < (G.length : Int) := by omega
          have hstep := anyM_take G d.p j hltj
          obtain ⟨bg, offg, rfl, hcellG⟩ := HAG.out j hltj
          have hgz' := HGS.out _ (List.getElem_mem hltj)
          obtain ⟨q, hq⟩ : ∃ q, q = G[j] := ⟨_, rfl⟩
          rw [← hq] at hstep hgz'
          simp only [← hq] at hcellG
          obtain ⟨r, hr⟩ : ∃ r, r = matchB q d.p := ⟨_, rfl⟩
          have HC : Hid (∀ w', Calls Try.prog 36 #[.string q, .string d.p] w' fun e w'' => e = .returned (.bool r) ∧ Below w'.heap.size w' w'') := fun w' => by rw [hr]; exact HM.out q d.p w' (by omega) hdp
          rw [← hr, ← hm.out] at hstep
          have HSTEP : Hid (anyM (G.take (j + 1)) d.p = (m || r)) := hstep
          have KEEP : Hid (∀ w', Below W5.heap.size W5 w' → w'.cell? ⟨bg, offg + j, none⟩ = some (.string q) ∧ w'.cell? ⟨bl, offl + i * 2, none⟩ = some (.string d.p)) := fun w' hw => ⟨hcellG w' hw, (HCL.out w' hw).1⟩
          have hd0 : Below W5.heap.size W5 wr.drew := hbq.drew
          clear hq hr hstep hcellG
          cases m with
          | true =>
            go_wp2_with fail
            refine wp_region_held_drew (S := (fun _ => True)) (by kernel_rfl) ?SR20 (fun hHeld => ?_)
            case SR20 => (first | exact True.intro | done)
            refine wpAnyH_take (i := 0) (oi := _) (v := ?vR20) rfl (by kernel_rfl) (by kernel_rfl) (by kernel_rfl) (fun _ _ _ h => h) (Or.inl ⟨by rfl, ?yR20⟩) hHeld ?_
            case yR20 => (intro w hSw; (try dsimp only at hSw); go_simp <;> with_reducible rfl)
            try simp only [Act.put, List.getElem_toArray, List.getElem_cons_zero, List.getElem_cons_succ, List.setIfInBounds_toArray, List.set_cons_zero, List.set_cons_succ]
            refine wpAnyH_take (i := 1) (oi := _) (v := ?vR21) rfl (by kernel_rfl) (by kernel_rfl) (by kernel_rfl) (fun _ _ _ h => h) (Or.inl ⟨by rfl, ?yR21⟩) hHeld ?_
            case yR21 => (intro w hSw; (try dsimp only at hSw); go_simp <;> with_reducible rfl)
            try simp only [Act.put, List.getElem_toArray, List.getElem_cons_zero, List.getElem_cons_succ, List.setIfInBounds_toArray, List.set_cons_zero, List.set_cons_succ]
            refine wpAnyH_take (i := 2) (oi := _) (v := undef) rfl (by kernel_rfl) (by kernel_rfl) (by kernel_rfl) (fun _ _ _ h => h) (Or.inr ⟨by rfl, rfl⟩) hHeld ?_
            try simp only [Act.put, List.getElem_toArray, List.getElem_cons_zero, List.getElem_cons_succ, List.setIfInBounds_toArray, List.set_cons_zero, List.set_cons_succ]
            refine wpAnyH_take (i := 3) (oi := _) (v := undef) rfl (by kernel_rfl) (by kernel_rfl) (by kernel_rfl) (fun _ _ _ h => h) (Or.inr ⟨by rfl, rfl⟩) hHeld ?_
            try simp only [Act.put, List.getElem_toArray, List.getElem_cons_zero, List.getElem_cons_succ, List.setIfInBounds_toArray, List.set_cons_zero, List.set_cons_succ]
            refine wpAnyH_take (i := 4) (oi := _) (v := undef) rfl (by kernel_rfl) (by kernel_rfl) (by kernel_rfl) (fun _ _ _ h => h) (Or.inr ⟨by rfl, rfl⟩) hHeld ?_
            try simp only [Act.put, List.getElem_toArray, List.getElem_cons_zero, List.getElem_cons_succ, List.setIfInBounds_toArray, List.set_cons_zero, List.set_cons_succ]
            refine wpAnyH_take (i := 5) (oi := _) (v := undef) rfl (by kernel_rfl) (by kernel_rfl) (by kernel_rfl) (fun _ _ _ h => h) (Or.inr ⟨by rfl, rfl⟩) hHeld ?_
            try simp only [Act.put, List.getElem_toArray, List.getElem_cons_zero, List.getElem_cons_succ, List.setIfInBounds_toArray, List.set_cons_zero, List.set_cons_succ]
            refine wpAnyH_take (i := 6) (oi := _) (v := undef) rfl (by kernel_rfl) (by kernel_rfl) (by kernel_rfl) (fun _ _ _ h => h) (Or.inr ⟨by rfl, rfl⟩) hHeld ?_
            try simp only [Act.put, List.getElem_toArray, List.getElem_cons_zero, List.getElem_cons_succ, List.setIfInBounds_toArray, List.set_cons_zero, List.set_cons_succ]
            refine wpAnyH_take (i := 7) (oi := _) (v := undef) rfl (by kernel_rfl) (by kernel_rfl) (by kernel_rfl) (fun _ _ _ h => h) (Or.inr ⟨by rfl, rfl⟩) hHeld ?_
            try simp only [Act.put, List.getElem_toArray, List.getElem_cons_zero, List.getElem_cons_succ, List.setIfInBounds_toArray, List.set_cons_zero, List.set_cons_succ]
            refine wpAnyH_take (i := 8) (oi := _) (v := undef) rfl (by kernel_rfl) (by kernel_rfl) (by kernel_rfl) (fun _ _ _ h => h) (Or.inr ⟨by rfl, rfl⟩) hHeld ?_
            try simp only [Act.put, List.getElem_toArray, List.getElem_cons_zero, List.getElem_cons_succ, List.setIfInBounds_toArray, List.set_cons_zero, List.set_cons_succ]
            refine wpAnyH_take (i := 9) (oi := _) (v := undef) rfl (by kernel_rfl) (by kernel_rfl) (by kernel_rfl) (fun _ _ _ h => h) (Or.inr ⟨by rfl, rfl⟩) hHeld ?_
            try simp only [Act.put, List.getElem_toArray, List.getElem_cons_zero, List.getElem_cons_succ, List.setIfInBounds_toArray, List.set_cons_zero, List.set_cons_succ]
            refine wpAnyH_take (i := 10) (oi := _) (v := undef) rfl (by kernel_rfl) (by kernel_rfl) (by kernel_rfl) (fun _ _ _ h => h) (Or.inr ⟨by rfl, rfl⟩) hHeld ?_
            try simp only [Act.put, List.getElem_toArray, List.getElem_cons_zero, List.getElem_cons_succ, List.setIfInBounds_toArray, List.set_cons_zero, List.set_cons_succ]
            refine wpAnyH_take (i := 11) (oi := _) (v := undef) rfl (by kernel_rfl) (by kernel_rfl) (by kernel_rfl) (fun _ _ _ h => h) (Or.inr ⟨by rfl, rfl⟩) hHeld ?_
            try simp only [Act.put, List.getElem_toArray, List.getElem_cons_zero, List.getElem_cons_succ, List.setIfInBounds_toArray, List.set_cons_zero, List.set_cons_succ]
            refine wpAnyH_take (i := 12) (oi := _) (v := ?vR212) rfl (by kernel_rfl) (by kernel_rfl) (by kernel_rfl) (fun _ _ _ h => h) (Or.inl ⟨by rfl, ?yR212⟩) hHeld ?_
            case yR212 => (intro w hSw; (try dsimp only at hSw); go_simp <;> with_reducible rfl)
            try simp only [Act.put, List.getElem_toArray, List.getElem_cons_zero, List.getElem_cons_succ, List.setIfInBounds_toArray, List.set_cons_zero, List.set_cons_succ]
            refine wpAnyH_take (i := 13) (oi := _) (v := ?vR213) rfl (by kernel_rfl) (by kernel_rfl) (by kernel_rfl) (fun _ _ _ h => h) (Or.inl ⟨by rfl, ?yR213⟩) hHeld ?_
            case yR213 => (intro w hSw; (try dsimp only at hSw); go_simp <;> with_reducible rfl)
            try simp only [Act.put, List.getElem_toArray, List.getElem_cons_zero, List.getElem_cons_succ, List.setIfInBounds_toArray, List.set_cons_zero, List.set_cons_succ]
            refine wpAnyH_done (by kernel_rfl) ?_ _
            clear hHeld
            go_wp2_with fail
            go_roundw
            case rel => exact ⟨j + 1, true, by omega, by go_num, rfl, (by show _ = _; rw [HSTEP.out]; rfl), hd0⟩
            case measure => simp [intOf]; omega
          | false =>
            go_wp2_with fail
            refine wp_region_held_drew (S := (fun w' => w'.cell? ⟨bg, offg + j, none⟩ = some (.string q) ∧ w'.cell? ⟨bl, offl + i * 2, none⟩ = some (.string d.p))) (by kernel_rfl) ?SR10 (fun hHeld => ?_)
            case SR10 => (first | (with_reducible exact KEEP.out _ hd0) | (with_reducible exact KEEP.out _ hd1))
            refine wpAnyH_take (i := 0) (oi := _) (v := ?vR10) rfl (by kernel_rfl) (by kernel_rfl) (by kernel_rfl) (fun _ _ _ h => h) (Or.inl ⟨by rfl, ?yR10⟩) hHeld ?_
            case yR10 => (intro w hSw; (try dsimp only at hSw); go_simp <;> with_reducible rfl)
            try simp only [Act.put, List.getElem_toArray, List.getElem_cons_zero, List.getElem_cons_succ, List.setIfInBounds_toArray, List.set_cons_zero, List.set_cons_succ]
            refine wpAnyH_take (i := 1) (oi := _) (v := ?vR11) rfl (by kernel_rfl) (by kernel_rfl) (by kernel_rfl) (fun _ _ _ h => h) (Or.inl ⟨by rfl, ?yR11⟩) hHeld ?_
            case yR11 => (intro w hSw; (try dsimp only at hSw); go_simp <;> with_reducible rfl)
            try simp only [Act.put, List.getElem_toArray, List.getElem_cons_zero, List.getElem_cons_succ, List.setIfInBounds_toArray, List.set_cons_zero, List.set_cons_succ]
            refine wpAnyH_take (i := 2) (oi := _) (v := ?vR12) rfl (by kernel_rfl) (by kernel_rfl) (by kernel_rfl) (fun _ _ _ h => h) (Or.inl ⟨by rfl, ?yR12⟩) hHeld ?_
            case yR12 => (intro w hSw; (try dsimp only at hSw); go_simp <;> with_reducible rfl)
            try simp only [Act.put, List.getElem_toArray, List.getElem_cons_zero, List.getElem_cons_succ, List.setIfInBounds_toArray, List.set_cons_zero, List.set_cons_succ]
            refine wpAnyH_take (i := 3) (oi := _) (v := ?vR13) rfl (by kernel_rfl) (by kernel_rfl) (by kernel_rfl) (fun _ _ _ h => h) (Or.inl ⟨by rfl, ?yR13⟩) hHeld ?_
            case yR13 => (intro w hSw; (try dsimp only at hSw); go_simp <;> with_reducible rfl)
            try simp only [Act.put, List.getElem_toArray, List.getElem_cons_zero, List.getElem_cons_succ, List.setIfInBounds_toArray, List.set_cons_zero, List.set_cons_succ]
            refine wpAnyH_take (i := 4) (oi := _) (v := ?vR14) rfl (by kernel_rfl) (by kernel_rfl) (by kernel_rfl) (fun _ _ _ h => h) (Or.inl ⟨by rfl, ?yR14⟩) hHeld ?_
            case yR14 => (intro w hSw; (try dsimp only at hSw); go_simp <;> with_reducible rfl)
            try simp only [Act.put, List.getElem_toArray, List.getElem_cons_zero, List.getElem_cons_succ, List.setIfInBounds_toArray, List.set_cons_zero, List.set_cons_succ]
            refine wpAnyH_take (i := 5) (oi := _) (v := ?vR15) rfl (by kernel_rfl) (by kernel_rfl) (by kernel_rfl) (fun _ _ _ h => h) (Or.inl ⟨by rfl, ?yR15⟩) hHeld ?_
            case yR15 => (intro w hSw; (try dsimp only at hSw); go_simp <;> with_reducible rfl)
            try simp only [Act.put, List.getElem_toArray, List.getElem_cons_zero, List.getElem_cons_succ, List.setIfInBounds_toArray, List.set_cons_zero, List.set_cons_succ]
            refine wpAnyH_take (i := 6) (oi := _) (v := ?vR16) rfl (by kernel_rfl) (by kernel_rfl) (by kernel_rfl) (fun _ _ _ h => h) (Or.inl ⟨by rfl, ?yR16⟩) hHeld ?_
            case yR16 => (intro w hSw; (try dsimp only at hSw); go_simp <;> with_reducible rfl)
            try simp only [Act.put, List.getElem_toArray, List.getElem_cons_zero, List.getElem_cons_succ, List.setIfInBounds_toArray, List.set_cons_zero, List.set_cons_succ]
            refine wpAnyH_take (i := 7) (oi := _) (v := ?vR17) rfl (by kernel_rfl) (by kernel_rfl) (by kernel_rfl) (fun _ _ _ h => h) (Or.inl ⟨by rfl, ?yR17⟩) hHeld ?_
            case yR17 => (intro w hSw; (try dsimp only at hSw); go_simp <;> with_reducible rfl)
            try simp only [Act.put, List.getElem_toArray, List.getElem_cons_zero, List.getElem_cons_succ, List.setIfInBounds_toArray, List.set_cons_zero, List.set_cons_succ]
            refine wpAnyH_take (i := 8) (oi := _) (v := ?vR18) rfl (by kernel_rfl) (by kernel_rfl) (by kernel_rfl) (fun _ _ _ h => h) (Or.inl ⟨by rfl, ?yR18⟩) hHeld ?_
            case yR18 => (intro w hSw; (try dsimp only at hSw); go_simp <;> with_reducible rfl)
            try simp only [Act.put, List.getElem_toArray, List.getElem_cons_zero, List.getElem_cons_succ, List.setIfInBounds_toArray, List.set_cons_zero, List.set_cons_succ]
            refine wpAnyH_take (i := 9) (oi := _) (v := ?vR19) rfl (by kernel_rfl) (by kernel_rfl) (by kernel_rfl) (fun _ _ _ h => h) (Or.inl ⟨by rfl, ?yR19⟩) hHeld ?_
            case yR19 => (intro w hSw; (try dsimp only at hSw); go_simp <;> with_reducible rfl)
            try simp only [Act.put, List.getElem_toArray, List.getElem_cons_zero, List.getElem_cons_succ, List.setIfInBounds_toArray, List.set_cons_zero, List.set_cons_succ]
            refine wpAnyH_take (i := 10) (oi := _) (v := ?vR110) rfl (by kernel_rfl) (by kernel_rfl) (by kernel_rfl) (fun _ _ _ h => h) (Or.inl ⟨by rfl, ?yR110⟩) hHeld ?_
            case yR110 => (intro w hSw; (try dsimp only at hSw); go_simp <;> with_reducible rfl)
            try simp only [Act.put, List.getElem_toArray, List.getElem_cons_zero, List.getElem_cons_succ, List.setIfInBounds_toArray, List.set_cons_zero, List.set_cons_succ]
            refine wpAnyH_ready (rs := [11]) (by kernel_rfl) (by simp) ?_
            refine AllReadyH.cons rfl (fun K hK => ?_) AllReadyH.nil
            go_simp
            go_wp2_with (go_at_call 36; refine (HC.out _).mono ?_; rintro e wm ⟨rfl, bm⟩; have hd1 : Below W5.heap.size W5 wm := hd0.trans (bm.mono hd0.size))
            clear hHeld
            refine hK.out _ _ ?SR112 (fun hHeld => ?_)
            case SR112 => ((try dsimp only); first | (with_reducible exact KEEP.out _ hd0) | (with_reducible exact KEEP.out _ hd1))
            clear hK K
            refine wpAnyH_take (i := 12) (oi := _) (v := ?vR112) rfl (by kernel_rfl) (by kernel_rfl) (by kernel_rfl) (fun _ _ _ h => h) (Or.inl ⟨by rfl, ?yR112⟩) hHeld ?_
            case yR112 => (intro w hSw; (try dsimp only at hSw); go_simp <;> with_reducible rfl)
            try simp only [Act.put, List.getElem_toArray, List.getElem_cons_zero, List.getElem_cons_succ, List.setIfInBounds_toArray, List.set_cons_zero, List.set_cons_succ]
            refine wpAnyH_take (i := 13) (oi := _) (v := ?vR113) rfl (by kernel_rfl) (by kernel_rfl) (by kernel_rfl) (fun _ _ _ h => h) (Or.inl ⟨by rfl, ?yR113⟩) hHeld ?_
            case yR113 => (intro w hSw; (try dsimp only at hSw); go_simp <;> with_reducible rfl)
            try simp only [Act.put, List.getElem_toArray, List.getElem_cons_zero, List.getElem_cons_succ, List.setIfInBounds_toArray, List.set_cons_zero, List.set_cons_succ]
            refine wpAnyH_done (by kernel_rfl) ?_ _
            clear hHeld
            go_wp2_with fail
            go_roundw
            case rel => exact ⟨j + 1, r, by omega, by go_num, rfl, (by show _ = _; rw [HSTEP.out]; rfl), hd1⟩
            case measure => simp [intOf]; omega
        · have hji : ¬ (j : Int) < (G.length : Int) := by omega
          have hje : j = G.length := by omega
          have HA : Hid (m = anyM G d.p) := by have := hm.out; rw [hje, List.take_length] at this; exact this
          clear hje hm
          cases m with
          | false =>
            have HN : Hid ((pickF (L.take (i + 1)) G).length = k) := HST.out.2 HA.out.symm
            go_wp2_with fail
            go_roundw
            case rel => exact ⟨i + 1, k, by omega, by go_num, rfl, by omega, HN.out.symm, hbq⟩
            case measure => simp [intOf]; omega
          | true =>
            have HN : Hid ((pickF (L.take (i + 1)) G).length = k + 1) := HST.out.1 HA.out.symm
            obtain ⟨hkk, hkd⟩ := HAT.out HA.out.symm
            obtain ⟨bx, offx, rfl, hcellX⟩ := HAX.out k hkk
            simp only [hkd] at hcellX
            have KEEP2 : Hid (∀ w', Below W5.heap.size W5 w' → w'.cell? ⟨bx, offx + k * 2, none⟩ = some (.string d.p) ∧ w'.cell? ⟨bx, offx + k * 2 + 1, none⟩ = some (.string d.t) ∧ w'.cell? ⟨bl, offl + i * 2, none⟩ = some (.string d.p) ∧ w'.cell? ⟨bl, offl + i * 2 + 1, none⟩ = some (.string d.t)) := fun w' hw => ⟨(hcellX w' hw).1, (hcellX w' hw).2, (HCL.out w' hw).1, (HCL.out w' hw).2⟩
            have hkP : k < P := by rw [HP.out]; exact hkk
            have hki2 : (k : Int) < (P : Int) := by omega
            have hkge : ¬ (P : Int) ≤ (k : Int) := by omega
            have hkgd : decide ((P : Int) ≤ (k : Int)) = false := decide_eq_false hkge
            have hkgn : decide (P ≤ k) = false := decide_eq_false (by omega)
            have hd0 : Below W5.heap.size W5 wr.drew := hbq.drew
            clear hcellX hkd hkk
            go_wp2_with fail
            refine wp_region_held_drew (S := (fun w' => w'.cell? ⟨bx, offx + k * 2, none⟩ = some (.string d.p) ∧ w'.cell? ⟨bx, offx + k * 2 + 1, none⟩ = some (.string d.t) ∧ w'.cell? ⟨bl, offl + i * 2, none⟩ = some (.string d.p) ∧ w'.cell? ⟨bl, offl + i * 2 + 1, none⟩ = some (.string d.t))) (by kernel_rfl) ?SR30 (fun hHeld => ?_)
            case SR30 => (first | (with_reducible exact KEEP2.out _ hd0) | (with_reducible exact KEEP2.out _ hd1))
            refine wpAnyH_take (i := 0) (oi := _) (v := ?vR30) rfl (by kernel_rfl) (by kernel_rfl) (by kernel_rfl) (fun _ _ _ h => h) (Or.inl ⟨by rfl, ?yR30⟩) hHeld ?_
            case yR30 => (intro w hSw; (try dsimp only at hSw); go_simp <;> with_reducible rfl)
            try simp only [Act.put, List.getElem_toArray, List.getElem_cons_zero, List.getElem_cons_succ, List.setIfInBounds_toArray, List.set_cons_zero, List.set_cons_succ]
            refine wpAnyH_take (i := 1) (oi := _) (v := ?vR31) rfl (by kernel_rfl) (by kernel_rfl) (by kernel_rfl) (fun _ _ _ h => h) (Or.inl ⟨by rfl, ?yR31⟩) hHeld ?_
            case yR31 => (intro w hSw; (try dsimp only at hSw); go_simp <;> with_reducible rfl)
            try simp only [Act.put, List.getElem_toArray, List.getElem_cons_zero, List.getElem_cons_succ, List.setIfInBounds_toArray, List.set_cons_zero, List.set_cons_succ]
            refine wpAnyH_take (i := 2) (oi := _) (v := ?vR32) rfl (by kernel_rfl) (by kernel_rfl) (by kernel_rfl) (fun _ _ _ h => h) (Or.inl ⟨by rfl, ?yR32⟩) hHeld ?_
            case yR32 => (intro w hSw; (try dsimp only at hSw); go_simp <;> with_reducible rfl)
            try simp only [Act.put, List.getElem_toArray, List.getElem_cons_zero, List.getElem_cons_succ, List.setIfInBounds_toArray, List.set_cons_zero, List.set_cons_succ]
            refine wpAnyH_take (i := 3) (oi := _) (v := ?vR33) rfl (by kernel_rfl) (by kernel_rfl) (by kernel_rfl) (fun _ _ _ h => h) (Or.inl ⟨by rfl, ?yR33⟩) hHeld ?_
            case yR33 => (intro w hSw; (try dsimp only at hSw); go_simp <;> with_reducible rfl)
            try simp only [Act.put, List.getElem_toArray, List.getElem_cons_zero, List.getElem_cons_succ, List.setIfInBounds_toArray, List.set_cons_zero, List.set_cons_succ]
            refine wpAnyH_take (i := 4) (oi := _) (v := ?vR34) rfl (by kernel_rfl) (by kernel_rfl) (by kernel_rfl) (fun _ _ _ h => h) (Or.inl ⟨by rfl, ?yR34⟩) hHeld ?_
            case yR34 => (intro w hSw; (try dsimp only at hSw); go_simp <;> with_reducible rfl)
            try simp only [Act.put, List.getElem_toArray, List.getElem_cons_zero, List.getElem_cons_succ, List.setIfInBounds_toArray, List.set_cons_zero, List.set_cons_succ]
            refine wpAnyH_take (i := 5) (oi := _) (v := ?vR35) rfl (by kernel_rfl) (by kernel_rfl) (by kernel_rfl) (fun _ _ _ h => h) (Or.inl ⟨by rfl, ?yR35⟩) hHeld ?_
            case yR35 => (intro w hSw; (try dsimp only at hSw); go_simp <;> with_reducible rfl)
            try simp only [Act.put, List.getElem_toArray, List.getElem_cons_zero, List.getElem_cons_succ, List.setIfInBounds_toArray, List.set_cons_zero, List.set_cons_succ]
            refine wpAnyH_take (i := 6) (oi := _) (v := ?vR36) rfl (by kernel_rfl) (by kernel_rfl) (by kernel_rfl) (fun _ _ _ h => h) (Or.inl ⟨by rfl, ?yR36⟩) hHeld ?_
            case yR36 => (intro w hSw; (try dsimp only at hSw); go_simp <;> with_reducible rfl)
            try simp only [Act.put, List.getElem_toArray, List.getElem_cons_zero, List.getElem_cons_succ, List.setIfInBounds_toArray, List.set_cons_zero, List.set_cons_succ]
            refine wpAnyH_take (i := 7) (oi := _) (v := ?vR37) rfl (by kernel_rfl) (by kernel_rfl) (by kernel_rfl) (fun _ _ _ h => h) (Or.inl ⟨by rfl, ?yR37⟩) hHeld ?_
            case yR37 => (intro w hSw; (try dsimp only at hSw); go_simp <;> with_reducible rfl)
            try simp only [Act.put, List.getElem_toArray, List.getElem_cons_zero, List.getElem_cons_succ, List.setIfInBounds_toArray, List.set_cons_zero, List.set_cons_succ]
            refine wpAnyH_take (i := 8) (oi := _) (v := ?vR38) rfl (by kernel_rfl) (by kernel_rfl) (by kernel_rfl) (fun _ _ _ h => h) (Or.inl ⟨by rfl, ?yR38⟩) hHeld ?_
            case yR38 => (intro w hSw; (try dsimp only at hSw); go_simp <;> with_reducible rfl)
            try simp only [Act.put, List.getElem_toArray, List.getElem_cons_zero, List.getElem_cons_succ, List.setIfInBounds_toArray, List.set_cons_zero, List.set_cons_succ]
            refine wpAnyH_take (i := 9) (oi := _) (v := ?vR39) rfl (by kernel_rfl) (by kernel_rfl) (by kernel_rfl) (fun _ _ _ h => h) (Or.inl ⟨by rfl, ?yR39⟩) hHeld ?_
            case yR39 => (intro w hSw; (try dsimp only at hSw); go_simp <;> with_reducible rfl)
            try simp only [Act.put, List.getElem_toArray, List.getElem_cons_zero, List.getElem_cons_succ, List.setIfInBounds_toArray, List.set_cons_zero, List.set_cons_succ]
            refine wpAnyH_take (i := 10) (oi := _) (v := ?vR310) rfl (by kernel_rfl) (by kernel_rfl) (by kernel_rfl) (fun _ _ _ h => h) (Or.inl ⟨by rfl, ?yR310⟩) hHeld ?_
            case yR310 => (intro w hSw; (try dsimp only at hSw); go_simp <;> with_reducible rfl)
            try simp only [Act.put, List.getElem_toArray, List.getElem_cons_zero, List.getElem_cons_succ, List.setIfInBounds_toArray, List.set_cons_zero, List.set_cons_succ]
            refine wpAnyH_take (i := 11) (oi := _) (v := ?vR311) rfl (by kernel_rfl) (by kernel_rfl) (by kernel_rfl) (fun _ _ _ h => h) (Or.inl ⟨by rfl, ?yR311⟩) hHeld ?_
            case yR311 => (intro w hSw; (try dsimp only at hSw); go_simp <;> with_reducible rfl)
            try simp only [Act.put, List.getElem_toArray, List.getElem_cons_zero, List.getElem_cons_succ, List.setIfInBounds_toArray, List.set_cons_zero, List.set_cons_succ]
            refine wpAnyH_take (i := 12) (oi := _) (v := ?vR312) rfl (by kernel_rfl) (by kernel_rfl) (by kernel_rfl) (fun _ _ _ h => h) (Or.inl ⟨by rfl, ?yR312⟩) hHeld ?_
            case yR312 => (intro w hSw; (try dsimp only at hSw); go_simp <;> with_reducible rfl)
            try simp only [Act.put, List.getElem_toArray, List.getElem_cons_zero, List.getElem_cons_succ, List.setIfInBounds_toArray, List.set_cons_zero, List.set_cons_succ]
            refine wpAnyH_take (i := 13) (oi := _) (v := ?vR313) rfl (by kernel_rfl) (by kernel_rfl) (by kernel_rfl) (fun _ _ _ h => h) (Or.inl ⟨by rfl, ?yR313⟩) hHeld ?_
            case yR313 => (intro w hSw; (try dsimp only at hSw); go_simp <;> with_reducible rfl)
            try simp only [Act.put, List.getElem_toArray, List.getElem_cons_zero, List.getElem_cons_succ, List.setIfInBounds_toArray, List.set_cons_zero, List.set_cons_succ]
            refine wpAnyH_take (i := 14) (oi := _) (v := ?vR314) rfl (by kernel_rfl) (by kernel_rfl) (by kernel_rfl) (fun _ _ _ h => h) (Or.inl ⟨by rfl, ?yR314⟩) hHeld ?_
            case yR314 => (intro w hSw; (try dsimp only at hSw); go_simp <;> with_reducible rfl)
            try simp only [Act.put, List.getElem_toArray, List.getElem_cons_zero, List.getElem_cons_succ, List.setIfInBounds_toArray, List.set_cons_zero, List.set_cons_succ]
            refine wpAnyH_done (by kernel_rfl) ?_ _
            clear hHeld
            go_wp2_with fail
            go_roundw
            case rel => exact ⟨i + 1, k + 1, by omega, by go_num, by go_num, by omega, HN.out.symm, hd0⟩
            case measure => simp [intOf]; omega
    · have hii : ¬ (i : Int) < (L.length : Int) := by omega
      have hie : i = L.length := by omega
      have hkP : k = P := by rw [hk.out, hie, List.take_length, HP.out]
      subst hkP
      have hkw : Below w.heap.size w wr := k5.trans (hbr.mono k5.size)
      have hpf := List.all_eq_true.1 pl_facts p hpL
      simp only [Bool.and_eq_true] at hpf
      obtain ⟨f0, f1, f2, f3⟩ := hpf
      have hpz : p.size ≤ 20 := of_decide_eq_true f0
      have hpx : (p ++ ⟨#[120]⟩).size ≤ 1048576 := by rw [ByteArray.size_append]; have : (⟨#[120]⟩ : ByteArray).size = 1 := rfl; omega
      have hx1 : (⟨#[120]⟩ : ByteArray).size = 1 := rfl
      obtain ⟨r1, hr1⟩ : ∃ r, r = matchB g p := ⟨_, rfl⟩
      obtain ⟨r2, hr2⟩ : ∃ r, r = globB h := ⟨_, rfl⟩
      obtain ⟨ok, hok⟩ : ∃ r, r = pathB p := ⟨_, rfl⟩
      have H1 : Hid (∀ w', Calls Try.prog 36 #[.string g, .string p] w' fun e w'' => e = .returned (.bool r1) ∧ Below w'.heap.size w' w'') := fun w' => by rw [hr1]; exact HM.out g p w' (by omega) (by omega)
      have H2 : Hid (∀ w', Calls Try.prog 37 #[.string g, .string p] w' fun e w'' => e = .returned (.bool r1) ∧ Below w'.heap.size w' w'') := fun w' => by rw [hr1]; exact specMatches_c g p w' (by omega) (by omega)
      have H3 : Hid (∀ w', Calls Try.prog 38 #[.string h] w' fun e w'' => e = .returned (.bool r2) ∧ Below w'.heap.size w' w'') := fun w' => by rw [hr2]; exact implGlob_c h w' (by omega)
      have H4 : Hid (∀ w', Calls Try.prog 39 #[.string h] w' fun e w'' => e = .returned (.bool r2) ∧ Below w'.heap.size w' w'') := fun w' => by rw [hr2]; exact specGlob_c h w' (by omega)
      have H5 : Hid (∀ w', Calls Try.prog 27 #[.string p] w' fun e w'' => e = .returned (.bool ok) ∧ Below w'.heap.size w' w'') := fun w' => by rw [hok]; exact implPath_c p w' (by omega)
      have H6 : Hid (∀ w', Calls Try.prog 36 #[.string ⟨#[42, 42]⟩, .string p] w' fun e w'' => e = .returned (.bool ok) ∧ Below w'.heap.size w' w'') := fun w' => by
        have := HM.out ⟨#[42, 42]⟩ p w' (by decide) (by omega)
        rw [beq_iff_eq.1 f1, ← hok] at this
        exact this
      have H7 : Hid (∀ w', Calls Try.prog 36 #[.string p, .string p] w' fun e w'' => e = .returned (.bool ok) ∧ Below w'.heap.size w' w'') := fun w' => by
        have := HM.out p p w' (by omega) (by omega)
        rw [beq_iff_eq.1 f2, ← hok] at this
        exact this
      have H8 : Hid (ok = true → ∀ w', Calls Try.prog 36 #[.string p, .string (p ++ ⟨#[120]⟩)] w' fun e w'' => e = .returned (.bool false) ∧ Below w'.heap.size w' w'') := fun ho w' => by
        have h3 := f3
        rw [← hok, ho] at h3
        simp only [Bool.not_true, Bool.false_or, Bool.and_eq_true, Bool.not_eq_true'] at h3
        have := HM.out p (p ++ ⟨#[120]⟩) w' (by omega) hpx
        rw [h3.1] at this
        exact this
      have H9 : Hid (ok = true → ∀ w', Calls Try.prog 36 #[.string ⟨#[42, 42, 47, 42]⟩, .string p] w' fun e w'' => e = .returned (.bool true) ∧ Below w'.heap.size w' w'') := fun ho w' => by
        have h3 := f3
        rw [← hok, ho] at h3
        simp only [Bool.not_true, Bool.false_or, Bool.and_eq_true, Bool.not_eq_true'] at h3
        have := HM.out ⟨#[42, 42, 47, 42]⟩ p w' (by decide) (by omega)
        rw [h3.2] at this
        exact this
      clear f0 f1 f2 f3 hr1 hr2 hok HAL HAX HAG HLS HGS hie hk hpL hpx
      go_wp2_with fail
      go_at_call 27
      refine (H5.out _).mono ?_
      rintro e v1 ⟨rfl, c1⟩
      have m1 := hkw.trans (c1.mono hkw.size)
      go_wp2_with fail
      go_at_call 36
      refine (H1.out _).mono ?_
      rintro e v2 ⟨rfl, c2⟩
      have m2 := m1.trans (c2.mono m1.size)
      go_wp2_with fail
      go_at_call 37
      refine (H2.out _).mono ?_
      rintro e v3 ⟨rfl, c3⟩
      have m3 := m2.trans (c3.mono m2.size)
      have hrr1 : (r1 == r1) = true := by simp
      go_wp2_with fail
      go_at_call 38
      refine (H3.out _).mono ?_
      rintro e v4 ⟨rfl, c4⟩
      have m4 := m3.trans (c4.mono m3.size)
      go_wp2_with fail
      go_at_call 39
      refine (H4.out _).mono ?_
      rintro e v5 ⟨rfl, c5⟩
      have m5 := m4.trans (c5.mono m4.size)
      go_wp2_with fail
      go_at_call 36
      refine (H6.out _).mono ?_
      rintro e v6 ⟨rfl, c6⟩
      have m6 := m5.trans (c6.mono m5.size)
      go_wp2_with fail
      go_at_call 36
      refine (H7.out _).mono ?_
      rintro e v7 ⟨rfl, c7⟩
      have m7 := m6.trans (c7.mono m6.size)
      clear H1 H2 H3 H4 H5 H6 H7 c1 c2 c3 c4 c5 c6 c7
      cases ok with
      | false =>
        clear H8 H9
        go_wp2_with fail
        go_ret
        exact ⟨by rfl, m7⟩
      | true =>
        go_wp2_with fail
        go_at_call 36
        refine ((H8.out (by first | rfl | exact True.intro)) _).mono ?_
        rintro e v8 ⟨rfl, c8⟩
        have m8 := m7.trans (c8.mono m7.size)
        go_wp2_with fail
        go_at_call 36
        refine ((H9.out (by first | rfl | exact True.intro)) _).mono ?_
        rintro e v9 ⟨rfl, c9⟩
        have m9 := m8.trans (c9.mono m8.size)
        go_wp2_with fail
        go_ret
        exact ⟨by rfl, m9⟩

set_option maxRecDepth 100000 in
theorem lifted (os : Os) (started : os.Started) (H : Type) (enc : TypeId × Value → H) :
    ReturnsInHanded {} Try.checked os 5 .any (Rows.fnGlobsSpec.pre6 enc Try.prog Try.f5 Rows.fnGlobsRow.domain false) (Rows.fnGlobsSpec.post enc Try.prog Try.f5 false true false false) := by
  refine returnsInHanded_of_change (C := Try.checked) own started (by kernel_rfl) Try.func5
    (ChangeSpec.witness6 (enc := enc) (C := Try.checked) false ⟨#[], #[.slice none 0 0], []⟩ 8 (by kernel_rfl) (by kernel_rfl) (by kernel_rfl) (by kernel_rfl)) ?_
  intro W base args ds gs before hval0 hW hcnd _
  have hval : ∀ (j : Nat) t v, Try.f5.params[j]? = some t → args[j]? = some v → Value.okWide Try.prog W .any base t v := hval0
  have hW' := hW
  obtain ⟨p, q, hA0, hV, rfl, hfz, hnd⟩ := hW
  have hA : DataW.TrodAll enc Try.prog W 0 (fun _ => true) true Try.f5.params.toList args.toList ds p := hA0
  rw [Try.params5] at hA hval
  obtain ⟨v0, vs0, d0, ds0, p0, q0, hargs, rfl, rfl, h0, r0⟩ := trodAll_cons hA
  obtain ⟨rfl, rfl, rfl⟩ := trodAll_nil r0
  obtain rfl : args = #[v0] := by cases args; simp_all
  obtain ⟨rfl, rfl⟩ := trodVars_none hV
  obtain ⟨a0, len0, cap0, rfl⟩ := okWide_slice Try.underlying22 (hval 0 22 v0 rfl rfl)
  have k0 := h0
  have lt0 : ∀ x ∈ p0, x.block < W.heap.size := by obtain ⟨m, hm⟩ := k0; exact DataW.trod_lt m _ _ _ hm
  obtain ⟨z0, t0, w0, l0⟩ : ∃ zs : List Int, Reads W (.slice a0 len0 cap0) (bytesV zs) ∧ (∀ z ∈ zs, 0 ≤ z ∧ z ≤ 255) ∧ zs.length ≤ maxLen := by
    obtain ⟨fuel, hf⟩ := h0
    rcases open_ints Try.underlying22 Try.underlying5 (by kernel_rfl) hf with ⟨hcs, _⟩ | ⟨x, l, c, zs, hcs, _, hl, hm, hz, _, hcell, hwz⟩
    · simp [Value.cells] at hcs
      obtain ⟨rfl, rfl, rfl⟩ := hcs
      exact ⟨[], ⟨none, 0, rfl, Nat.le_refl _, .inl rfl⟩, by simp, by simp⟩
    · simp [Value.cells] at hcs
      obtain ⟨rfl, rfl, rfl⟩ := hcs
      have hz' : zs.length = cap0 := by simpa using hz
      refine ⟨zs.take len0, reads_mk (by simp; omega) hl (fun i hi => ?_), fun z hzm => ?_, by simp; omega⟩
      · simp at hi
        rw [hcell i (by omega)]
        simp [bytesV, List.getD_eq_getElem?_getD, show i < zs.length by omega]
      · have := hwz z (List.mem_of_mem_take hzm)
        simpa [Lit.wf, IntKind.min, IntKind.max, IntKind.signed, IntKind.bits] using this
  clear hA0 hval0
  refine (walk _ z0 W t0 w0 l0).mono fun e W' ⟨he, bel⟩ => ?_
  subst he
  exact ⟨_, rfl, _, _, _, [], _, [], hW', trodAll_mk1 (shut_bool Try.underlying4 _), (trodAll_cons_mk (Below.trod laidOut (by kernel_rfl) (of_decide_eq_true (by kernel_rfl)) k0 bel lt0) trodAll_mk0), rfl, bel.frame _, fun h => by cases h⟩

theorem over : Rows.fnGlobsRow.holds Try.pinned (OpenSpec.ofChange Rows.fnGlobsSpec) :=
  OpenClaim.holds_of_wide 5 Try.f5 rfl rfl rfl rfl rfl rfl rfl ⟨rfl, rfl, rfl, rfl, rfl⟩ rfl rfl rfl rfl rfl (by kernel_rfl) Try.func5 (by kernel_rfl)
    (of_decide_eq_true (by kernel_rfl)) (by unfold Func.isWrapper; first | (rw [if_pos (by decide +kernel)]; kernel_rfl) | (rw [if_neg (by decide +kernel)]; exact ⟨rfl, rfl⟩))
    (fun os started H enc _ => lifted os started H enc)

theorem proved : Rows.FnGlobsSaid := over
end Go.Proofs.Ytbkmjbjiagkjmaa.fnGlobs
namespace Go.Proofs.Ytbkmjbjiagkjmaa
theorem fnGlobs_holds : Rows.FnGlobsSaid := fnGlobs.proved
#print axioms fnGlobs_holds
end Go.Proofs.Ytbkmjbjiagkjmaa
