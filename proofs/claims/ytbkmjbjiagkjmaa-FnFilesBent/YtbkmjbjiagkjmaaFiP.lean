/-
  A file dropped, the specification's: a contract for the walks; conditions: the list lies in memory, and holds at most 2 to the 20.
-/
import Derived.Test.YtbkmjbjiagkjmaaFiI
import Derived.Deep.RegionHeld
namespace Go.Proofs.Ytbkmjbjiagkjmaa
open Go.RowKit Go.Maps
set_option linter.unusedSimpArgs false
set_option linter.unusedVariables false

def dropS (fs : List FileD) (p : ByteArray) : List FileD := fs.eraseP fun f => decide (f.p = p)
def dropSOk (fs : List FileD) (p : ByteArray) : Bool := (getF fs p).isSome && filesB (dropS fs p)
def dropSO (fs : List FileD) (p : ByteArray) : List FileD := if dropSOk fs p then dropS fs p else fs
theorem dropS_at {fs : List FileD} {p : ByteArray} {k : Nat} (h : k < fs.length) (hp : fs[k].p = p) (hn : ∀ j (hj : j < fs.length), j < k → ¬ fs[j].p = p) : dropS fs p = fs.take k ++ fs.drop (k + 1) := by
  have hi : fs.findIdx? (fun f => decide (f.p = p)) = some k := by
    rw [List.findIdx?_eq_some_iff_getElem]
    exact ⟨h, by simpa using hp, fun j hj => by simpa using hn j (by omega) hj⟩
  unfold dropS
  rw [List.eraseP_eq_eraseIdx, hi]
  exact List.eraseIdx_eq_take_drop_succ _ _
theorem dropS_mem {fs : List FileD} {p : ByteArray} {f : FileD} (h : f ∈ dropS fs p) : f ∈ fs := List.mem_of_mem_eraseP h
theorem cells_part {w : World} {b off : Nat} {fs : List FileD} (ha : ∀ j (h : j < fs.length), FileAt w b (off + j * 2) fs[j]) : ∀ j u, (cellsF fs)[j]? = some u → w.cell? ((⟨b, off, none⟩ : Addr).add j) = some u := fun j u hj => by
  have hlt : j < fs.length * 2 := by rw [← cellsF_length]; exact (List.getElem?_eq_some_iff.1 hj).1
  rw [addr_addF]
  have hk : j / 2 < fs.length := by omega
  obtain ⟨h1, h2⟩ := ha (j / 2) hk
  obtain ⟨g1, g2⟩ := cellsF_at fs (j / 2) hk
  rcases Nat.mod_two_eq_zero_or_one j with hm | hm
  · have e : j = j / 2 * 2 := by omega
    rw [← e] at h1 g1
    rw [hj] at g1
    rw [h1, g1]
  · have e : j = j / 2 * 2 + 1 := by omega
    have e2 : off + j / 2 * 2 + 1 = off + j := by omega
    rw [e2] at h2
    rw [← e] at g2
    rw [hj] at g2
    rw [h2, g2]
theorem cells_take {w : World} {b off k : Nat} {fs : List FileD} (ha : ∀ j (h : j < fs.length), FileAt w b (off + j * 2) fs[j]) : ∀ j u, (cellsF (fs.take k))[j]? = some u → w.cell? ((⟨b, off, none⟩ : Addr).add j) = some u :=
  cells_part fun j h => by rw [List.length_take] at h; rw [List.getElem_take]; exact ha j (by omega)
theorem cells_drop {w : World} {b off k cap : Nat} {fs : List FileD} (hc : fs.length ≤ cap) {ad : Addr} (had : (if cap = k then some ⟨b, off, none⟩ else some ⟨b, off + k * 2, none⟩ : Option Addr) = some ad) (ha : ∀ j (h : j < fs.length), FileAt w b (off + j * 2) fs[j]) : ∀ j u, (cellsF (fs.drop k))[j]? = some u → w.cell? (ad.add j) = some u := by
  by_cases e : cap = k
  · rw [List.drop_eq_nil_of_le (by omega)]
    intro j u h
    simp [cellsF] at h
  · rw [if_neg e] at had
    obtain ⟨rfl⟩ := Option.some.inj had
    refine cells_part fun j h => ?_
    rw [List.length_drop] at h
    rw [List.getElem_drop]
    have := ha (k + j) (by omega)
    rw [show off + k * 2 + j * 2 = off + (k + j) * 2 by omega]
    exact this

set_option maxHeartbeats 4000000 in
set_option maxRecDepth 100000 in
theorem specDrop_c (S : Nat → Prop) (v : Value) (fs : List FileD) (p : ByteArray) (w : World) (hv : FilesIn S w v fs) (hB : ∀ b, S b → b < w.heap.size) (hl : fs.length ≤ 1048576) (hp : ∀ g ∈ fs, g.p.size ≤ 1048576) :
    Calls Try.prog 25 #[v, .string p] w fun e w' => ∃ x, e = .returned (.tuple #[x, .bool (dropSOk fs p)]) ∧ w'.ownsRow w.heap.size 26 2 x (dropSO fs p).length (cellsF (dropSO fs p)) ∧ Below w.heap.size w w' := by
  obtain ⟨i0, hi, hz0, hz1, hz2⟩ := info_parts infoFile
  have HV : ∀ w1, Below w.heap.size w w1 → FilesIn S w1 v fs ∧ ∀ b, S b → b < w1.heap.size := fun w1 h => ⟨hv.keep (.of h hB), fun b hb => Nat.lt_of_lt_of_le (hB b hb) h.size⟩
  have HA : Hid (∀ w1, Below w.heap.size w w1 → Calls Try.prog 69 #[v, .string p] w1 fun e w' => e = .returned (.int .i64 (posF fs p)) ∧ w1 = w') := fun w1 h => at5_c S v fs p w1 (HV w1 h).1 (HV w1 h).2
  have hsn : ∀ g ∈ fs, saneF g := by obtain ⟨_, _, _, _, _, h, _⟩ := hv; exact h
  have SRC : Hid (∀ w1, Below w.heap.size w w1 → FilesIn S w1 v fs) := fun w1 h => (HV w1 h).1
  obtain ⟨qv, cv, rfl, _, hcv, _, hcs⟩ := id hv
  have kx := (Below.refl w.heap.size w).alloc (Nat.le_refl _) (.cells #[] 26)
  have LIT : (w.alloc (.cells #[] 26)).ownsRow w.heap.size 26 2 (.slice (some ⟨w.heap.size, 0, none⟩) 0 0) 0 [] := World.ownsRow_lit w #[] 0 (Nat.le_refl _) (by unfold maxLen; omega) rfl
  cases qv with
  | none =>
    have he : fs = [] := by
      rcases hcs with h | ⟨b, off, h, _⟩
      · exact h
      · cases h
    subst he
    have hok : dropSOk [] p = false := by simp [dropSOk, getF]
    have hO : dropSO [] p = [] := by simp [dropSO, hok]
    have hpos : posF [] p = -1 := posF_none (fun j hj => by simp at hj)
    rw [hok, hO]
    rw [hpos] at HA
    clear HV hv hsn hcs hpos hok hO hp hB SRC
    go_enter Try.func25, Try.ntmps25
    go_wp2_with (first
      | (at_builtin; refine wpList_append_own_none rfl _ _ 24 rfl w.heap.size 26 i0 2 Try.underlying24 hi (.slice (some ⟨w.heap.size, 0, none⟩) 0 0) 0 [] rfl LIT rfl ?_)
      | (go_at_call 69; refine (HA.out _ kx).mono ?_; rintro e w1 ⟨rfl, rfl⟩))
    go_ret2
    exact ⟨_, rfl, LIT, kx⟩
  | some ad =>
    have SX := SRC.out _ kx
    rcases posF_cases fs p with ⟨k, hk, h1, hkp, hg, hn⟩ | ⟨h1, hg, _⟩
    · have hcs : ∃ (b off : Nat), ad = ⟨b, off, none⟩ ∧ S b ∧ ∀ k (h : k < fs.length), FileAt w b (off + k * 2) fs[k] := by
        rcases hcs with rfl | ⟨b, off, hq, hb, ha⟩
        · simp at hk
        · cases hq; exact ⟨b, off, rfl, hb, ha⟩
      obtain ⟨b, off, rfl, hbS, ha⟩ := hcs
      have hds := dropS_at hk hkp hn
      obtain ⟨k1, hk1⟩ : ∃ m, m = k + 1 := ⟨_, rfl⟩
      rw [← hk1] at hds
      have HS : Hid (dropS fs p = fs.take k ++ fs.drop k1) := hds
      have hwr : IntKind.i64.wrap ((k : Int) + 1) = (k1 : Int) := (IntWalk.i64_in _ ⟨by omega, by omega⟩).trans (by omega)
      have hk1a : (0 : Int) ≤ (k1 : Int) := by omega
      have hk1b : (k1 : Int) ≤ (fs.length : Int) := by omega
      have hk1c : ((k1 : Int)).toNat = k1 := by omega
      have SRCA : Hid (∀ w1, Below w.heap.size w w1 → ∀ j (h : j < fs.length), FileAt w1 b (off + j * 2) fs[j]) := fun w1 h => by
        obtain ⟨q, c, hq, _, _, _, h⟩ := SRC.out w1 h
        simp only [Value.slice.injEq] at hq
        rcases h with rfl | ⟨b', off', rfl, _, h⟩
        · simp at hk
        · have := hq.1; simp only [Option.some.injEq, Addr.mk.injEq] at this; obtain ⟨rfl, rfl, _⟩ := this; exact h
      have hok : dropSOk fs p = filesB (dropS fs p) := by simp [dropSOk, hg]
      obtain ⟨r, hr⟩ : ∃ r, r = filesB (dropS fs p) := ⟨_, rfl⟩
      have hO : dropSO fs p = if r then dropS fs p else fs := by unfold dropSO; rw [hok, hr]
      have HO : Hid (dropSO fs p = if r then dropS fs p else fs) := hO
      have HF : Hid (∀ w1 lo u n, w1.ownsRow lo 26 2 u n (cellsF (fs.take k) ++ cellsF (fs.drop k1)) → Calls Try.prog 29 #[u] w1 fun e w' => e = .returned (.bool r) ∧ Below w1.heap.size w1 w') := fun w1 lo u n h => by
        rw [← cellsF_append, ← hds] at h
        rw [hr]
        exact specFilesOk_c _ u _ w1 (filesIn_owns h (fun g hg => hsn g (dropS_mem hg))) (fun b h => h.2) (fun g hg => hp g (dropS_mem hg))
      rw [h1] at HA
      rw [hok, ← hr]
      have hk0 : ¬ (k : Int) < 0 := by omega
      have hkn : (k : Int) ≤ (cv : Int) := by omega
      obtain ⟨q2, hq2⟩ : ∃ q, (if cv = k1 then some ⟨b, off, none⟩ else some ⟨b, off + k1 * 2, none⟩ : Option Addr) = some q := by
        by_cases e : cv = k1
        · exact ⟨_, if_pos e⟩
        · exact ⟨_, if_neg e⟩
      have HLEN : Hid (0 + k + (fs.length - k1) = (dropS fs p).length) := by show _ = _; rw [hds, List.length_append, List.length_take, List.length_drop]; omega
      clear HV hv hsn hp hB SRC hds hok hO hr hg hn hkp h1 ha hk1
      go_enter Try.func25, Try.ntmps25
      go_wp2_with (at_builtin; refine wpList_append_own _ rfl _ _ 24 rfl w.heap.size 26 i0 (.agg #[.string ⟨#[]⟩, .string ⟨#[]⟩]) 2 32 Try.underlying24 hi hz0 hz1 hz2 rfl (by decide) (.slice (some ⟨w.heap.size, 0, none⟩) 0 0) 0 [] rfl LIT ⟨b, off, none⟩ fs.length cv (cellsF fs) rfl (cellsF_length fs) (filesIn_src SX) (cellsF_one fs) (by unfold maxLen; omega) (by omega) (by simp) ?_)
      intro v3 w3 o3 gr3 _
      have b3 : Below w.heap.size w w3 := Below.grown kx gr3 kx.size (fun j hj => by cases hj; exact Nat.le_refl _)
      go_wp2_with (go_at_call 69; refine (HA.out _ b3).mono ?_; rintro e w1 ⟨rfl, rfl⟩)
      have hHeld0 : Below w.heap.size w w3.drew := b3.drew
      refine wp_region_held_drew (S := (fun w' => Below w.heap.size w w')) (by kernel_rfl) ?SR10 (fun hHeld => ?_)
      case SR10 => (exact b3.drew)
      refine wpAnyH_take (i := 1) (oi := _) (v := ?vR10) rfl (by kernel_rfl) (by kernel_rfl) (by kernel_rfl) (fun _ _ _ h => h) (Or.inl ⟨by rfl, ?yR10⟩) hHeld ?_
      case yR10 => (intro w hSw; (try dsimp only at hSw); go_simp <;> with_reducible rfl)
      try simp only [Act.put, List.getElem_toArray, List.getElem_cons_zero, List.getElem_cons_succ, List.setIfInBounds_toArray, List.set_cons_zero, List.set_cons_succ]
      refine wpAnyH_take (i := 2) (oi := _) (v := ?vR11) rfl (by kernel_rfl) (by kernel_rfl) (by kernel_rfl) (fun _ _ _ h => h) (Or.inl ⟨by rfl, ?yR11⟩) hHeld ?_
      case yR11 => (intro w hSw; (try dsimp only at hSw); go_simp <;> with_reducible rfl)
      try simp only [Act.put, List.getElem_toArray, List.getElem_cons_zero, List.getElem_cons_succ, List.setIfInBounds_toArray, List.set_cons_zero, List.set_cons_succ]
      refine wpAnyH_take (i := 3) (oi := _) (v := ?vR12) rfl (by kernel_rfl) (by kernel_rfl) (by kernel_rfl) (fun _ _ _ h => h) (Or.inl ⟨by rfl, ?yR12⟩) hHeld ?_
      case yR12 => (intro w hSw; (try dsimp only at hSw); go_simp <;> with_reducible rfl)
      try simp only [Act.put, List.getElem_toArray, List.getElem_cons_zero, List.getElem_cons_succ, List.setIfInBounds_toArray, List.set_cons_zero, List.set_cons_succ]
      refine wpAnyH_take (i := 5) (oi := _) (v := ?vR13) rfl (by kernel_rfl) (by kernel_rfl) (by kernel_rfl) (fun _ _ _ h => h) (Or.inl ⟨by rfl, ?yR13⟩) hHeld ?_
      case yR13 => (intro w hSw; (try dsimp only at hSw); go_simp <;> with_reducible rfl)
      try simp only [Act.put, List.getElem_toArray, List.getElem_cons_zero, List.getElem_cons_succ, List.setIfInBounds_toArray, List.set_cons_zero, List.set_cons_succ]
      refine wpAnyH_take (i := 6) (oi := _) (v := ?vR14) rfl (by kernel_rfl) (by kernel_rfl) (by kernel_rfl) (fun _ _ _ h => h) (Or.inl ⟨by rfl, ?yR14⟩) hHeld ?_
      case yR14 => (intro w hSw; (try dsimp only at hSw); go_simp <;> with_reducible rfl)
      try simp only [Act.put, List.getElem_toArray, List.getElem_cons_zero, List.getElem_cons_succ, List.setIfInBounds_toArray, List.set_cons_zero, List.set_cons_succ]
      refine wpAnyH_take (i := 7) (oi := _) (v := ?vR15) rfl (by kernel_rfl) (by kernel_rfl) (by kernel_rfl) (fun _ _ _ h => h) (Or.inl ⟨by rfl, ?yR15⟩) hHeld ?_
      case yR15 => (intro w hSw; (try dsimp only at hSw); go_simp <;> with_reducible rfl)
      try simp only [Act.put, List.getElem_toArray, List.getElem_cons_zero, List.getElem_cons_succ, List.setIfInBounds_toArray, List.set_cons_zero, List.set_cons_succ]
      refine wpAnyH_take (i := 8) (oi := _) (v := ?vR16) rfl (by kernel_rfl) (by kernel_rfl) (by kernel_rfl) (fun _ _ _ h => h) (Or.inl ⟨by rfl, ?yR16⟩) hHeld ?_
      case yR16 => (intro w hSw; (try dsimp only at hSw); go_simp <;> with_reducible rfl)
      try simp only [Act.put, List.getElem_toArray, List.getElem_cons_zero, List.getElem_cons_succ, List.setIfInBounds_toArray, List.set_cons_zero, List.set_cons_succ]
      refine wpAnyH_ready (rs := [0]) (by kernel_rfl) (by simp) ?_
      refine AllReadyH.cons rfl (fun K hK => ?_) AllReadyH.nil
      go_simp
      clear hHeld
      refine hK.out _ _ ?SR18 (fun hHeld => ?_)
      case SR18 => ((try dsimp only); exact hHeld0.alloc hHeld0.size _)
      clear hK K
      have LIT2 : (w3.drew.alloc (.cells #[] 26)).ownsRow w3.heap.size 26 2 (.slice (some ⟨w3.heap.size, 0, none⟩) 0 0) 0 [] := World.ownsRow_lit w3.drew #[] 0 (Nat.le_refl _) (by unfold maxLen; omega) rfl
      have kx2 : Below w3.heap.size w3 (w3.drew.alloc (.cells #[] 26)) := ((Below.refl w3.heap.size w3).drew).alloc (Nat.le_refl _) _
      refine wpAnyH_ready (rs := [4]) (by kernel_rfl) (by simp) ?_
      refine AllReadyH.cons rfl (fun K hK => ?_) AllReadyH.nil
      rw [if_pos (by rfl)]
      refine wp_append_own _ _ _ 24 rfl w3.heap.size 26 i0 (.agg #[.string ⟨#[]⟩, .string ⟨#[]⟩]) 2 32 Try.underlying24 hi hz0 hz1 hz2 rfl (by decide) (.slice (some ⟨w3.heap.size, 0, none⟩) 0 0) 0 _ rfl LIT2 ⟨b, off, none⟩ k cv (cellsF (fs.take k)) rfl (by rw [cellsF_length, List.length_take]; omega) (cells_take (SRCA.out _ hHeld)) (cellsF_one _) (by unfold maxLen; omega) (by omega) kx2.size ?_
      intro v5 wv5 ov5 grv5 _
      have b35 : Below w3.heap.size w3 wv5 := Below.grown kx2 grv5 kx2.size (fun j hj => by cases hj; exact Nat.le_refl _)
      have bv5 : Below w.heap.size w wv5 := b3.trans (b35.mono b3.size)
      clear hHeld
      refine hK.out _ _ bv5 (fun hHeld => ?_)
      clear hK K
      try simp only [Act.put, List.getElem_toArray, List.getElem_cons_zero, List.getElem_cons_succ, List.setIfInBounds_toArray, List.set_cons_zero, List.set_cons_succ]
      refine wpAnyH_ready (rs := [9]) (by kernel_rfl) (by simp) ?_
      refine AllReadyH.cons rfl (fun K hK => ?_) AllReadyH.nil
      rw [if_pos (by rfl)]
      refine wp_append_own _ _ _ 24 rfl w3.heap.size 26 i0 (.agg #[.string ⟨#[]⟩, .string ⟨#[]⟩]) 2 32 Try.underlying24 hi hz0 hz1 hz2 rfl (by decide) _ (0 + k) _ rfl ov5 q2 (fs.length - k1) (cv - k1) (cellsF (fs.drop k1)) rfl (by rw [cellsF_length, List.length_drop]) (cells_drop hcv hq2 (SRCA.out _ hHeld)) (cellsF_one _) (by unfold maxLen; omega) (by omega) b35.size ?_
      intro v6 wv6 ov6 grv6 _
      have b36 : Below w3.heap.size w3 wv6 := Below.grown b35 grv6 b35.size (fun j hj => (ov5.lt _ hj).1)
      have bv6 : Below w.heap.size w wv6 := b3.trans (b36.mono b3.size)
      clear hHeld
      refine hK.out _ _ bv6 (fun hHeld => ?_)
      clear hK K
      try simp only [Act.put, List.getElem_toArray, List.getElem_cons_zero, List.getElem_cons_succ, List.setIfInBounds_toArray, List.set_cons_zero, List.set_cons_succ]
      refine wpAnyH_take (i := 10) (oi := _) (v := ?vRa10) rfl (by kernel_rfl) (by kernel_rfl) (by kernel_rfl) (fun _ _ _ h => h) (Or.inl ⟨by rfl, ?yRa10⟩) hHeld ?_
      case yRa10 => (intro w hSw; (try dsimp only at hSw); go_simp <;> with_reducible rfl)
      try simp only [Act.put, List.getElem_toArray, List.getElem_cons_zero, List.getElem_cons_succ, List.setIfInBounds_toArray, List.set_cons_zero, List.set_cons_succ]
      refine wpAnyH_done (by kernel_rfl) ?_ _
      rw [List.nil_append] at ov6
      obtain ⟨q6, m6, c6, hu6⟩ : ∃ q m c, v6 = .slice q m c := by rcases ov6.2 with ⟨rfl, _⟩ | ⟨g, c, cur, rfl, _⟩ <;> exact ⟨_, _, _, rfl⟩
      subst hu6
      have HF6 := HF.out _ _ _ _ ov6
      clear HF
      cases r with
      | true =>
        go_wp2_with (go_at_call 29; refine HF6.mono ?_; rintro e w7 ⟨rfl, b7⟩)
        go_ret2
        refine ⟨_, rfl, ?_, bv6.trans (b7.mono bv6.size)⟩
        rw [show dropSO fs p = dropS fs p from by simpa using HO.out, ← HLEN.out, HS.out, cellsF_append]
        exact owns2_below (owns_lower2 ov6 b3.size) b7
      | false =>
        go_wp2_with (first
          | (go_at_call 29; refine HF6.mono ?_; rintro e w7 ⟨rfl, b7⟩
             have k7 : Below w.heap.size w w7 := bv6.trans (b7.mono bv6.size)
             have kx7 := k7.alloc k7.size (.cells #[] 26)
             have LIT7 : (w7.alloc (.cells #[] 26)).ownsRow w7.heap.size 26 2 (.slice (some ⟨w7.heap.size, 0, none⟩) 0 0) 0 [] := World.ownsRow_lit w7 #[] 0 (Nat.le_refl _) (by unfold maxLen; omega) rfl
             have SX7 := cells_part (SRCA.out _ kx7))
          | (at_builtin; refine wpList_append_own _ rfl _ _ 24 rfl w7.heap.size 26 i0 (.agg #[.string ⟨#[]⟩, .string ⟨#[]⟩]) 2 32 Try.underlying24 hi hz0 hz1 hz2 rfl (by decide) (.slice (some ⟨w7.heap.size, 0, none⟩) 0 0) 0 [] rfl LIT7 ⟨b, off, none⟩ fs.length cv (cellsF fs) rfl (cellsF_length fs) SX7 (cellsF_one fs) (by unfold maxLen; omega) (by omega) (by simp) ?_))
        intro v8 w8 o8 gr8 _
        have hb8 : Below w.heap.size w w8 := Below.grown kx7 gr8 kx7.size (fun j hj => by cases hj; exact k7.size)
        go_wp2_with fail
        go_ret2
        refine ⟨_, rfl, ?_, hb8⟩
        rw [show dropSO fs p = fs from by simpa using HO.out]
        exact owns_lower2 o8 k7.size
    · have hok : dropSOk fs p = false := by simp [dropSOk, hg]
      have hO : dropSO fs p = fs := by simp [dropSO, hok]
      rw [h1] at HA
      rw [hok, hO]
      clear HV hv hsn hcs hok hO hp hB SRC h1 hg
      go_enter Try.func25, Try.ntmps25
      go_wp2_with (at_builtin; refine wpList_append_own _ rfl _ _ 24 rfl w.heap.size 26 i0 (.agg #[.string ⟨#[]⟩, .string ⟨#[]⟩]) 2 32 Try.underlying24 hi hz0 hz1 hz2 rfl (by decide) (.slice (some ⟨w.heap.size, 0, none⟩) 0 0) 0 [] rfl LIT ad fs.length cv (cellsF fs) rfl (cellsF_length fs) (filesIn_src SX) (cellsF_one fs) (by unfold maxLen; omega) (by omega) (by simp) ?_)
      intro v3 w3 o3 gr3 _
      have b3 : Below w.heap.size w w3 := Below.grown kx gr3 kx.size (fun j hj => by cases hj; exact Nat.le_refl _)
      go_wp2_with (go_at_call 69; refine (HA.out _ b3).mono ?_; rintro e w1 ⟨rfl, rfl⟩)
      go_ret2
      exact ⟨_, rfl, o3, b3⟩
end Go.Proofs.Ytbkmjbjiagkjmaa
