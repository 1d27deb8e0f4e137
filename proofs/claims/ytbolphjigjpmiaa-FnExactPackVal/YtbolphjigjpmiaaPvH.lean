/-
  The value of a pack, by the specification: a contract for the walks; conditions: the pack lies in memory and weighs at most 2 to the 20.
-/
import Derived.Test.YtbolphjigjpmiaaPvI
namespace Go.Proofs.Ytbolphjigjpmiaa
open Go.RowKit
set_option linter.unusedSimpArgs false
set_option linter.unusedVariables false

/-- The blocks of the walk: the pack and the answer. -/
structure SvS (w W : World) (bp : Obj) : Prop where
  P : W.heap[w.heap.size]? = some bp
  R : W.heap[w.heap.size + 1]? = some boxZ
  B : Below w.heap.size w W
theorem SvS.chg {w W W' : World} {bp : Obj} {D : Nat → Prop} (h : SvS w W bp) (hb : Chg D W W') (hD : ∀ b, D b → w.heap.size + 1 + 1 ≤ b) : SvS w W' bp := by
  have hl := (Array.getElem?_eq_some_iff.1 h.R).1
  have k : ∀ g, g < w.heap.size + 1 + 1 → W'.heap[g]? = W.heap[g]? := fun g hg => hb.block g (by omega) (fun k => by have := hD g k; omega)
  exact ⟨(k _ (by omega)).trans h.P, (k _ (by omega)).trans h.R,
    ⟨hb.os.trans h.B.os, hb.tape.trans h.B.tape, hb.output.trans h.B.output, Nat.le_trans h.B.size hb.size, fun b hlt => (k b (by omega)).trans (h.B.block b hlt)⟩⟩
theorem texts_partS (v : Value) (ss : List ByteArray) (w : World) (hv : Reads w v (strsV ss)) (hs : bulkS ss ≤ 1048576) (hp : saneP ss) :
    Calls Try.prog 47 #[v] w fun e w' => ∃ c, e = .returned (.agg #[.int .i64 4, .int .i64 0, .string ⟨#[]⟩, c, .slice none 0 0]) ∧ Part w' (fun b => w.heap.size ≤ b ∧ b < w'.heap.size) (fun _ => False) c (.slice none 0 0) (ss.map textT) [] ∧ Below w.heap.size w w' := by
  refine (listVal_c v ss w hv hs).mono ?_
  rintro e w' ⟨c, rfl, hrow, hb⟩
  have hl : ss.length ≤ 1048576 := by unfold bulkS at hs; omega
  have h := texts_own hrow (by unfold maxLen; omega) (fun s hs => hp.2 s hs)
  exact ⟨c, rfl, ⟨OwnL.mono h.1 (fun b hb => owns_in hrow b hb), h.2.mono (fun b hb => owns_in hrow b hb), ⟨rfl, .inl ⟨rfl, rfl⟩⟩, fun g h => by simp [Value.ownBlock] at h, fun _ _ h => h⟩, hb⟩
theorem lowS1 {S : Nat → Prop} {lo n m a b : Nat} (hS : ∀ b, S b → lo ≤ b) (hn : lo ≤ n) (ha : lo ≤ a) : ∀ i, (S i ∨ (a ≤ i ∧ i < b) ∨ False ∨ n ≤ i ∧ i < m) → lo ≤ i := by
  rintro i (h | h | h | h)
  · exact hS i h
  · omega
  · exact h.elim
  · omega
theorem Part.sliceN {w : World} {R1 R2 : Nat → Prop} {c u : Value} {l : List Tree} {ks : List ByteArray} (h : Part w R1 R2 c u l ks) : ∃ nz qz cz, nz = l.length ∧ c = .slice qz nz cz := by
  obtain ⟨q, cap, e⟩ := h.own.slice
  exact ⟨_, q, cap, rfl, e⟩
theorem lowS {S : Nat → Prop} {lo n m : Nat} (hS : ∀ b, S b → lo ≤ b) (hn : lo ≤ n) : ∀ b, (S b ∨ False ∨ False ∨ n ≤ b ∧ b < m) → lo ≤ b := by
  rintro b (h | h | h | h)
  · exact hS b h
  · exact h.elim
  · exact h.elim
  · omega
/-- What a round may change: the two rows and the box. -/
def Dd (c u : Value) (G : Nat) (b : Nat) : Prop := OfTwo c u b ∨ b = G

set_option maxHeartbeats 8000000 in
set_option maxRecDepth 100000 in
theorem specPackVal_c (S : Nat → Prop) (cs : List Value) (d : PackD) (w : World) (hL : shPack.lies S w cs d) (hB : ∀ b, S b → b < w.heap.size) (hw : wtPack d ≤ 1048576) :
    Calls Try.prog 13 #[.agg cs.toArray] w fun e w' => ∃ c u, e = .returned (.agg #[.int .i64 5, .int .i64 0, .string ⟨#[]⟩, c, u]) ∧ Mk w' (fun b => w.heap.size ≤ b ∧ b < w'.heap.size) c u (packKids d) packKeys ∧ Below w.heap.size w w' := by
  obtain ⟨name, uses, needs, cmds⟩ := d
  obtain ⟨u0, u1, u2, rfl, s_name, r0, p0, r1, r2⟩ := hL
  obtain ⟨q0, cap0, eu0, h0⟩ := id r0
  rw [length_strsV] at eu0
  subst eu0
  clear h0
  obtain ⟨q1, cap1, rfl, hl1, hc1, ha1⟩ := r1
  obtain ⟨q2, cap2, rfl, hl2, hc2, ha2⟩ := r2
  obtain ⟨i0, hi, hz0, hz1, hz2⟩ := info_parts infoVal
  obtain ⟨j0, hj, hy0, hy1, hy2⟩ := info_parts infoS
  have hn1 : needs.length ≤ 1048576 := by have := len_wtRow wtNeed needs; have hw' := hw; simp only [wtPack] at hw'; omega
  have hn2 : cmds.length ≤ 1048576 := by have := len_wtRow wtCmd cmds; have hw' := hw; simp only [wtPack] at hw'; omega
  have hsaneN : saneS (needs.map (·.n)) := ⟨by simp; unfold maxLen; omega, fun s hs => by
    obtain ⟨x, hx, rfl⟩ := List.mem_map.1 hs
    have h1 := wt_wtRow wtNeed hx
    have hw' := hw
    simp only [wtPack] at hw'
    simp only [wtNeed] at h1
    unfold maxLen; omega⟩
  have hsaneT : saneS (cmds.map (·.t)) := ⟨by simp; unfold maxLen; omega, fun s hs => by
    obtain ⟨x, hx, rfl⟩ := List.mem_map.1 hs
    have h1 := wt_wtRow wtCmd hx
    have hw' := hw
    simp only [wtPack] at hw'
    simp only [wtCmd] at h1
    unfold maxLen; omega⟩
  replace hsaneN := hidden hsaneN
  replace hsaneT := hidden hsaneT
  obtain ⟨BP, hBP⟩ : ∃ BP : Obj, BP = .cells #[.string name, .slice q0 uses.length cap0, .slice q1 needs.length cap1, .slice q2 cmds.length cap2] 42 (0, 0) := ⟨_, rfl⟩
  have HBP := hidden hBP
  have hst : SvS w (((w.alloc BP).alloc boxZ).alloc (boxM (.slice none 0 0) (.slice none 0 0))) BP ∧ (((w.alloc BP).alloc boxZ).alloc (boxM (.slice none 0 0) (.slice none 0 0))).heap[w.heap.size + 1 + 1]? = some (boxM (.slice none 0 0) (.slice none 0 0)) := by
    have b3 : ∀ A B C, Below w.heap.size w (((w.alloc A).alloc B).alloc C) := fun A B C => (((Below.refl _ _).alloc (Nat.le_refl _) _).alloc (by simp) _).alloc (by simp; omega) _
    refine ⟨⟨?_, ?_, b3 _ _ _⟩, ?_⟩
    · rw [vheap_old _ _ (by simp; try omega), vheap_old _ _ (by simp), vheap_new]
    · rw [vheap_old _ _ (by simp), heap_at (by simp)]
    · rw [heap_at (by simp)]
  have HST := hidden hst
  clear hst hBP
  go_enter Try.func13, Try.ntmps13
  go_wp2_with fail
  go_loopw [4] (fun vi wr => ∃ (k : Nat) (c u : Value) (S1 : Nat → Prop), k ≤ needs.length ∧ vi = .int .i64 (k : Int) ∧ SvS w wr BP ∧ wr.heap[w.heap.size + 1 + 1]? = some (boxM c u) ∧ Mk wr S1 c u ((needs.take k).map needT) ((needs.take k).map (·.n)) ∧ (∀ b, S1 b → w.heap.size + 3 ≤ b)) (fun vi _ => needs.length - (intOf vi).toNat)
  case atStart =>
    have h := HST.out
    rw [HBP.out] at h ⊢
    exact ⟨0, .slice none 0 0, .slice none 0 0, fun _ => False, Nat.zero_le _, rfl, h.1, h.2, by simpa using Mk.nil _, fun _ h => h.elim⟩
  case round =>
    obtain ⟨k, c, u, S1, hk, rfl, hst, hO, hmk, hS1⟩ := hrel
    have hP : wr.heap[w.heap.size]? = some (.cells #[.string name, .slice q0 uses.length cap0, .slice q1 needs.length cap1, .slice q2 cmds.length cap2] 42 (0, 0)) := HBP.out ▸ hst.P
    have p2 := vblk_cell hP 2
    simp only [List.getElem?_toArray, List.getElem?_cons_succ, List.getElem?_cons_zero] at p2
    by_cases hlt' : k < needs.length
    · rcases ha1 with rfl | ⟨b, off, rfl, hlt, ha⟩
      · simp at hlt'
      obtain ⟨cs, hL, hcl⟩ := ha k hlt'
      replace hcl := hcl.keep (.of hst.B hB) hlt
      have hxw := wt_wtRow wtNeed (List.getElem_mem hlt')
      obtain ⟨x, hx⟩ : ∃ x, x = needs[k] := ⟨_, rfl⟩
      rw [← hx] at hL hxw
      have htk : ((needs.take (k + 1)).map needT = (needs.take k).map needT ++ [.mk 3 0 x.r [] []] ∧ (needs.take (k + 1)).map (·.n) = (needs.take k).map (·.n) ++ [x.n]) := by
        rw [List.take_succ_eq_append_getElem hlt', ← hx]; simp [needT, textT]
      have HTK := hidden htk
      clear htk
      obtain ⟨rfl, s_n, s_r⟩ := hL
      have e0 : wr.cell? ⟨b, off + k * 2, none⟩ = some (.string x.n) := hcl 0 (by simp)
      have e1 : wr.cell? ⟨b, off + k * 2 + 1, none⟩ = some (.string x.r) := hcl 1 (by simp)
      have hki : (k : Int) < (needs.length : Int) := by omega
      have HT := hidden (fun w1 => textVal_c x.r w1)
      clear ha hx hcl
      have HLT := hidden hlt'
      have hmk0 := hmk
      obtain ⟨n, qc, cc, qu, cu, hnl, rfl, rfl⟩ := hmk0.slicesN
      have hn : n ≤ 1048576 := by rw [hnl]; simp; omega
      obtain ⟨ys, hys, hadd⟩ := hmk.addS
      have hkeys := hmk.keys
      rw [← hnl] at hys hkeys
      rw [← hnl] at hadd
      have HADD := hidden hadd
      clear hadd hmk0
      obtain ⟨KS, hKS⟩ : ∃ KS, KS = (needs.take k).map (·.n) := ⟨_, rfl⟩
      have HNL := hidden hnl
      clear hnl hKS KS
      obtain ⟨XS, hXS⟩ : ∃ XS, XS = strsV ((needs.take k).map (·.n)) := ⟨_, rfl⟩
      have HXS := hidden hXS
      rw [← hXS] at hkeys
      clear hXS
      have hSG : ¬ S1 (w.heap.size + 1 + 1) := fun h => by have := hS1 _ h; omega
      have neC : Hid (∀ g, (Value.slice qc n cc).ownBlock = some g → g ≠ (w.heap.size + 1 + 1)) := fun g h e => hSG (e ▸ hmk.of_two g (.inl h))
      have neU : Hid (∀ g, (Value.slice qu n cu).ownBlock = some g → g ≠ (w.heap.size + 1 + 1)) := fun g h e => hSG (e ▸ hmk.of_two g (.inr h))
      have hGw : Hid ((w.heap.size + 1 + 1) < wr.heap.size) := (Array.getElem?_eq_some_iff.1 hO).1
      have HSG := hidden hSG
      have HLOW := hidden hmk.low
      have HS1 := hidden hS1
      have HSR := hidden s_r
      have HHW : Hid (w.heap.size + 3 ≤ wr.heap.size) := by have := hGw.out; exact (by omega : w.heap.size + 3 ≤ wr.heap.size)
      have HST9 : Hid (∀ W, Chg (Dd (.slice qc n cc) (.slice qu n cu) (w.heap.size + 1 + 1)) wr W → SvS w W BP) := fun W h => hst.chg h (fun b k => by
        rcases k with k | k
        · have := hS1 b (hmk.of_two b k); omega
        · omega)
      obtain ⟨SS, hSS⟩ : ∃ SS : World → Prop, SS = (fun w1 => w1.cell? ⟨w.heap.size, 2, none⟩ = some (.slice (some ⟨b, off, none⟩) needs.length cap1) ∧ w1.cell? ⟨b, off + k * 2, none⟩ = some (.string x.n) ∧ w1.cell? ⟨b, off + k * 2 + 1, none⟩ = some (.string x.r)) := ⟨_, rfl⟩
      have hDn : ∀ i, Dd (.slice qc n cc) (.slice qu n cu) (w.heap.size + 1 + 1) i → w.heap.size + 1 + 1 ≤ i := fun i k => by
        rcases k with k | k
        · have := hS1 i (hmk.of_two i k); omega
        · omega
      have KEEP : Hid (∀ W, Chg (Dd (.slice qc n cc) (.slice qu n cu) (w.heap.size + 1 + 1)) wr W → SS W) := fun W h => by
        rw [hSS]
        have hbw := hB b hlt
        have kk : ∀ i, i < w.heap.size + 1 → W.heap[i]? = wr.heap[i]? := fun i hi => h.block i (by have := HHW.out; omega) (fun k => by have := hDn i k; omega)
        exact ⟨(World.cell?_of_block (w := wr) (kk w.heap.size (by omega))).trans p2, (World.cell?_of_block (w := wr) (kk b (by omega))).trans e0, (World.cell?_of_block (w := wr) (kk b (by omega))).trans e1⟩
      have hC : Chg (Dd (.slice qc n cc) (.slice qu n cu) (w.heap.size + 1 + 1)) wr wr.drew := Chg.of (Below.refl _ _).drew
      have hOd : wr.drew.heap[(w.heap.size + 1 + 1)]? = some (boxM (.slice qc n cc) (.slice qu n cu)) := hO
      have hc := owns_below hys (Below.refl _ wr).drew
      have hu := owns_below hkeys (Below.refl _ wr).drew
      have HZ := hidden (And.intro hC (And.intro hOd (And.intro hc hu)))
      clear hC hOd hc hu hO hys hkeys hmk hst hS1 hSG hDn hP
      go_wp2_with fail
      clear p2 e0 e1
      obtain ⟨hC, hO, hc, hu⟩ := HZ.out
      clear HZ
      subst hSS
      refine wp_region_held_drew (S := (fun w1 => w1.cell? ⟨w.heap.size, 2, none⟩ = some (.slice (some ⟨b, off, none⟩) needs.length cap1) ∧ w1.cell? ⟨b, off + k * 2, none⟩ = some (.string x.n) ∧ w1.cell? ⟨b, off + k * 2 + 1, none⟩ = some (.string x.r))) (by kernel_rfl) ?S01 (fun hHeld => ?_)
      case S01 => (exact KEEP.out _ hC)
      refine wpAnyH_take (i := 0) (oi := _) (v := ?vT1) rfl (by kernel_rfl) (by kernel_rfl) (by kernel_rfl) (fun _ _ _ h => h) (Or.inl ⟨by rfl, ?yT1⟩) hHeld ?_
      case yT1 => (intro w hSw; (try dsimp only at hSw); go_simp <;> with_reducible rfl)
      try simp only [Act.put, List.getElem_toArray, List.getElem_cons_zero, List.getElem_cons_succ, List.setIfInBounds_toArray, List.set_cons_zero, List.set_cons_succ]
      refine wpAnyH_take (i := 2) (oi := _) (v := ?vT2) rfl (by kernel_rfl) (by kernel_rfl) (by kernel_rfl) (fun _ _ _ h => h) (Or.inl ⟨by rfl, ?yT2⟩) hHeld ?_
      case yT2 => (intro w hSw; (try dsimp only at hSw); go_simp <;> with_reducible rfl)
      try simp only [Act.put, List.getElem_toArray, List.getElem_cons_zero, List.getElem_cons_succ, List.setIfInBounds_toArray, List.set_cons_zero, List.set_cons_succ]
      refine wpAnyH_take (i := 3) (oi := _) (v := ?vT3) rfl (by kernel_rfl) (by kernel_rfl) (by kernel_rfl) (fun _ _ _ h => h) (Or.inl ⟨by rfl, ?yT3⟩) hHeld ?_
      case yT3 => (intro w hSw; (try dsimp only at hSw); go_simp <;> with_reducible rfl)
      try simp only [Act.put, List.getElem_toArray, List.getElem_cons_zero, List.getElem_cons_succ, List.setIfInBounds_toArray, List.set_cons_zero, List.set_cons_succ]
      refine wpAnyH_take (i := 4) (oi := _) (v := ?vT4) rfl (by kernel_rfl) (by kernel_rfl) (by kernel_rfl) (fun _ _ _ h => h) (Or.inl ⟨by rfl, ?yT4⟩) hHeld ?_
      case yT4 => (intro w hSw; (try dsimp only at hSw); go_simp <;> with_reducible rfl)
      try simp only [Act.put, List.getElem_toArray, List.getElem_cons_zero, List.getElem_cons_succ, List.setIfInBounds_toArray, List.set_cons_zero, List.set_cons_succ]
      refine wpAnyH_take (i := 5) (oi := _) (v := ?vT5) rfl (by kernel_rfl) (by kernel_rfl) (by kernel_rfl) (fun _ _ _ h => h) (Or.inl ⟨by rfl, ?yT5⟩) hHeld ?_
      case yT5 => (intro w hSw; (try dsimp only at hSw); go_simp <;> with_reducible rfl)
      try simp only [Act.put, List.getElem_toArray, List.getElem_cons_zero, List.getElem_cons_succ, List.setIfInBounds_toArray, List.set_cons_zero, List.set_cons_succ]
      refine wpAnyH_take (i := 6) (oi := _) (v := ?vT6) rfl (by kernel_rfl) (by kernel_rfl) (by kernel_rfl) (fun _ _ _ h => h) (Or.inl ⟨by rfl, ?yT6⟩) hHeld ?_
      case yT6 => (intro w hSw; (try dsimp only at hSw); go_simp <;> with_reducible rfl)
      try simp only [Act.put, List.getElem_toArray, List.getElem_cons_zero, List.getElem_cons_succ, List.setIfInBounds_toArray, List.set_cons_zero, List.set_cons_succ]
      refine wpAnyH_take (i := 7) (oi := _) (v := ?vT7) rfl (by kernel_rfl) (by kernel_rfl) (by kernel_rfl) (fun _ _ _ h => h) (Or.inl ⟨by rfl, ?yT7⟩) hHeld ?_
      case yT7 => (intro w hSw; (try dsimp only at hSw); go_simp <;> with_reducible rfl)
      try simp only [Act.put, List.getElem_toArray, List.getElem_cons_zero, List.getElem_cons_succ, List.setIfInBounds_toArray, List.set_cons_zero, List.set_cons_succ]
      obtain ⟨wd, hwd⟩ : ∃ wd, wd = wr.drew := ⟨_, rfl⟩
      rw [← hwd] at hC hO hc hu
      rw [← hwd]
      clear hwd
      refine wpAnyH_ready (rs := [1, 8]) (by kernel_rfl) (by simp) ?_
      refine AllReadyH.cons rfl (fun K hK => ?_) (AllReadyH.cons rfl (fun K hK => ?_) AllReadyH.nil)
      · have z := vblk_cell hO 4
        simp only [List.getElem?_toArray, List.getElem?_cons_succ, List.getElem?_cons_zero] at z
        go_simp
        clear z
        clear hHeld
        refine hK.out _ _ ?G8 (fun hHeld => ?_)
        case G8 => ((try dsimp only); exact KEEP.out _ hC)
        clear hK K
        try simp only [Act.put, List.getElem_toArray, List.getElem_cons_zero, List.getElem_cons_succ, List.setIfInBounds_toArray, List.set_cons_zero, List.set_cons_succ]
        refine wpAnyH_ready (rs := [8]) (by kernel_rfl) (by simp) ?_
        refine AllReadyH.cons rfl (fun K hK => ?_) AllReadyH.nil
        go_simp
        have ka : Below wd.heap.size wd (wd.alloc (.cells #[.string x.n] 9)) := (Below.refl _ _).alloc (Nat.le_refl _) _
        have hO := (ka.block _ (Array.getElem?_eq_some_iff.1 hO).1).trans hO
        have hc := owns_below hc ka
        have hu := owns_below hu ka
        have hC := hC.trans (Chg.of ka)
        have hbb : (wd.alloc (.cells #[.string x.n] 9)).ownsRow 0 9 1 (.slice (some ⟨wd.heap.size, 0, none⟩) 1 1) 1 [.string x.n] := owns_lo (Nat.zero_le _) (World.ownsRow_lit wd ([.string x.n]).toArray 1 (Nat.le_refl _) (by unfold maxLen; omega) rfl)
        obtain ⟨bb, hbe⟩ : ∃ q, q = wd.heap.size := ⟨_, rfl⟩
        rw [← hbe] at hbb
        try rw [← hbe]
        clear hHeld
        refine hK.out _ (wd.alloc (.cells #[.string x.n] 9)) ?G9 (fun hHeld => ?_)
        case G9 => ((try dsimp only); exact KEEP.out _ hC)
        clear hK K
        try simp only [Act.put, List.getElem_toArray, List.getElem_cons_zero, List.getElem_cons_succ, List.setIfInBounds_toArray, List.set_cons_zero, List.set_cons_succ]
        generalize hwn : wd.alloc (.cells #[.string x.n] 9) = wda at *
        clear hwn hbe ka
        refine wpAnyH_ready (rs := [9]) (by kernel_rfl) (by simp) ?_
        refine AllReadyH.cons rfl (fun K hK => ?_) AllReadyH.nil
        rw [if_pos (by rfl)]
        have hsz := hC.size
        refine wp_append_blk _ _ _ 23 rfl 0 9 j0 (.string ⟨#[]⟩) 1 16 Try.underlying23 hj hy0 hy1 hy2 rfl (by decide) (.slice qu n cu) n _ rfl hu ⟨bb, 0, none⟩ 1 1 [.string x.n] rfl rfl (fun j q hq => lit_src hbb hq (by simp)) (by simp [Value.oneCell']) (by unfold maxLen; omega) (by omega) (Nat.zero_le _) (by omega) ?_
        intro u2 W1 hu2 g1 l1
        obtain ⟨qu2, cu2, eu2⟩ := owns_sl hu2
        subst eu2
        have nU := newAt_of hsz l1
        have hO := (g1.block _ (Array.getElem?_eq_some_iff.1 hO).1 (fun e => neU.out _ e.symm rfl)).trans hO
        have hc := hc.kept g1 (owns_apart hc hu (by decide))
        have hC := hC.trans (Chg.grown g1 (fun g h => .inl (.inr h)))
        clear hHeld
        refine hK.out _ _ ?G10 (fun hHeld => ?_)
        case G10 => ((try dsimp only); exact KEEP.out _ hC)
        clear hK K
        try simp only [Act.put, List.getElem_toArray, List.getElem_cons_zero, List.getElem_cons_succ, List.setIfInBounds_toArray, List.set_cons_zero, List.set_cons_succ]
        refine wpAnyH_take (i := 10) (oi := _) (v := ?vT11) rfl (by kernel_rfl) (by kernel_rfl) (by kernel_rfl) (fun _ _ _ h => h) (Or.inl ⟨by rfl, ?yT11⟩) hHeld ?_
        case yT11 => (intro w hSw; (try dsimp only at hSw); go_simp <;> with_reducible rfl)
        try simp only [Act.put, List.getElem_toArray, List.getElem_cons_zero, List.getElem_cons_succ, List.setIfInBounds_toArray, List.set_cons_zero, List.set_cons_succ]
        have z := vblk_cell hO 4
        have fz := vblk_frozen hO
        simp only [List.getElem?_toArray, List.getElem?_cons_succ, List.getElem?_cons_zero] at z
        refine wpAnyH_ready (rs := [11]) (by kernel_rfl) (by simp) ?_
        refine AllReadyH.cons rfl (fun K hK => ?_) AllReadyH.nil
        go_simp
        clear z fz
        have hO := heap_setCell_same W1 (w.heap.size + 1 + 1) 4 _ _ (.slice qu2 (n + 1) cu2) hO
        have hC := chg_setS (j := 4) (v := .slice qu2 (n + 1) cu2) hC (.inr rfl)
        have nUG : ∀ g, (Value.slice qu2 (n + 1) cu2).ownBlock = some g → g ≠ (w.heap.size + 1 + 1) := fun g h => by
          rcases nU with k | ⟨g', k, k'⟩
          · exact neU.out g (k.symm.trans h)
          · rw [h] at k; injection k with k; have := hGw.out; omega
        have hc := owns_kept (S := fun b => b ≠ (w.heap.size + 1 + 1)) (Kp.set (g := (w.heap.size + 1 + 1)) (j := 4) (v := .slice qu2 (n + 1) cu2) (by simp)) (fun g h => neC.out g h) hc
        have hu2 := owns_kept (S := fun b => b ≠ (w.heap.size + 1 + 1)) (Kp.set (g := (w.heap.size + 1 + 1)) (j := 4) (v := .slice qu2 (n + 1) cu2) (by simp)) nUG hu2
        clear hHeld
        refine hK.out _ (W1.setCell ⟨(w.heap.size + 1 + 1), 4, none⟩ (.slice qu2 (n + 1) cu2)) ?G12 (fun hHeld => ?_)
        case G12 => ((try dsimp only); exact KEEP.out _ hC)
        clear hK K
        try simp only [Act.put, List.getElem_toArray, List.getElem_cons_zero, List.getElem_cons_succ, List.setIfInBounds_toArray, List.set_cons_zero, List.set_cons_succ]
        refine wpAnyH_done (by kernel_rfl) ?_ _
        clear hHeld
        generalize hwn : W1.setCell ⟨(w.heap.size + 1 + 1), 4, none⟩ (.slice qu2 (n + 1) cu2) = wv at *
        clear hwn g1 l1 hbb hu
        have hO : wv.heap[(w.heap.size + 1 + 1)]? = some (boxM (.slice qc n cc) (.slice qu2 (n + 1) cu2)) := hO
        have HX := hidden (And.intro hO (And.intro hc (And.intro hu2 (And.intro hC (And.intro nU nUG)))))
        clear hO hc hu2 hC nU nUG
        go_wp2_with fail
        obtain ⟨hO, hc, hu2, hC, nU, nUG⟩ := HX.out
        clear HX
        have hC := hC.trans (Chg.of ((Below.refl _ wv).drew))
        have hO : wv.drew.heap[(w.heap.size + 1 + 1)]? = _ := hO
        have hc := owns_below hc (Below.refl _ wv).drew
        have hu2 := owns_below hu2 (Below.refl _ wv).drew
        refine wp_region_held_drew (S := (fun w1 => w1.cell? ⟨w.heap.size, 2, none⟩ = some (.slice (some ⟨b, off, none⟩) needs.length cap1) ∧ w1.cell? ⟨b, off + k * 2, none⟩ = some (.string x.n) ∧ w1.cell? ⟨b, off + k * 2 + 1, none⟩ = some (.string x.r))) (by kernel_rfl) ?S113 (fun hHeld => ?_)
        case S113 => (exact KEEP.out _ hC)
        refine wpAnyH_take (i := 0) (oi := _) (v := ?vT14) rfl (by kernel_rfl) (by kernel_rfl) (by kernel_rfl) (fun _ _ _ h => h) (Or.inl ⟨by rfl, ?yT14⟩) hHeld ?_
        case yT14 => (intro w hSw; (try dsimp only at hSw); go_simp <;> with_reducible rfl)
        try simp only [Act.put, List.getElem_toArray, List.getElem_cons_zero, List.getElem_cons_succ, List.setIfInBounds_toArray, List.set_cons_zero, List.set_cons_succ]
        refine wpAnyH_take (i := 2) (oi := _) (v := ?vT15) rfl (by kernel_rfl) (by kernel_rfl) (by kernel_rfl) (fun _ _ _ h => h) (Or.inl ⟨by rfl, ?yT15⟩) hHeld ?_
        case yT15 => (intro w hSw; (try dsimp only at hSw); go_simp <;> with_reducible rfl)
        try simp only [Act.put, List.getElem_toArray, List.getElem_cons_zero, List.getElem_cons_succ, List.setIfInBounds_toArray, List.set_cons_zero, List.set_cons_succ]
        refine wpAnyH_take (i := 3) (oi := _) (v := ?vT16) rfl (by kernel_rfl) (by kernel_rfl) (by kernel_rfl) (fun _ _ _ h => h) (Or.inl ⟨by rfl, ?yT16⟩) hHeld ?_
        case yT16 => (intro w hSw; (try dsimp only at hSw); go_simp <;> with_reducible rfl)
        try simp only [Act.put, List.getElem_toArray, List.getElem_cons_zero, List.getElem_cons_succ, List.setIfInBounds_toArray, List.set_cons_zero, List.set_cons_succ]
        refine wpAnyH_take (i := 4) (oi := _) (v := ?vT17) rfl (by kernel_rfl) (by kernel_rfl) (by kernel_rfl) (fun _ _ _ h => h) (Or.inl ⟨by rfl, ?yT17⟩) hHeld ?_
        case yT17 => (intro w hSw; (try dsimp only at hSw); go_simp <;> with_reducible rfl)
        try simp only [Act.put, List.getElem_toArray, List.getElem_cons_zero, List.getElem_cons_succ, List.setIfInBounds_toArray, List.set_cons_zero, List.set_cons_succ]
        refine wpAnyH_take (i := 5) (oi := _) (v := ?vT18) rfl (by kernel_rfl) (by kernel_rfl) (by kernel_rfl) (fun _ _ _ h => h) (Or.inl ⟨by rfl, ?yT18⟩) hHeld ?_
        case yT18 => (intro w hSw; (try dsimp only at hSw); go_simp <;> with_reducible rfl)
        try simp only [Act.put, List.getElem_toArray, List.getElem_cons_zero, List.getElem_cons_succ, List.setIfInBounds_toArray, List.set_cons_zero, List.set_cons_succ]
        refine wpAnyH_take (i := 6) (oi := _) (v := ?vT19) rfl (by kernel_rfl) (by kernel_rfl) (by kernel_rfl) (fun _ _ _ h => h) (Or.inl ⟨by rfl, ?yT19⟩) hHeld ?_
        case yT19 => (intro w hSw; (try dsimp only at hSw); go_simp <;> with_reducible rfl)
        try simp only [Act.put, List.getElem_toArray, List.getElem_cons_zero, List.getElem_cons_succ, List.setIfInBounds_toArray, List.set_cons_zero, List.set_cons_succ]
        refine wpAnyH_take (i := 7) (oi := _) (v := ?vT20) rfl (by kernel_rfl) (by kernel_rfl) (by kernel_rfl) (fun _ _ _ h => h) (Or.inl ⟨by rfl, ?yT20⟩) hHeld ?_
        case yT20 => (intro w hSw; (try dsimp only at hSw); go_simp <;> with_reducible rfl)
        try simp only [Act.put, List.getElem_toArray, List.getElem_cons_zero, List.getElem_cons_succ, List.setIfInBounds_toArray, List.set_cons_zero, List.set_cons_succ]
        generalize hwn : wv.drew = wd at *
        clear hwn
        refine wpAnyH_ready (rs := [1, 8]) (by kernel_rfl) (by simp) ?_
        refine AllReadyH.cons rfl (fun K hK => ?_) (AllReadyH.cons rfl (fun K hK => ?_) AllReadyH.nil)
        · have z := vblk_cell hO 3
          simp only [List.getElem?_toArray, List.getElem?_cons_succ, List.getElem?_cons_zero] at z
          go_simp
          clear z
          clear hHeld
          refine hK.out _ _ ?G21 (fun hHeld => ?_)
          case G21 => ((try dsimp only); exact KEEP.out _ hC)
          clear hK K
          try simp only [Act.put, List.getElem_toArray, List.getElem_cons_zero, List.getElem_cons_succ, List.setIfInBounds_toArray, List.set_cons_zero, List.set_cons_succ]
          refine wpAnyH_ready (rs := [8]) (by kernel_rfl) (by simp) ?_
          refine AllReadyH.cons rfl (fun K hK => ?_) AllReadyH.nil
          go_simp
          go_wp2_with (go_at_call 46; refine (HT.out _).mono ?_; rintro e wm ⟨rfl, b1⟩; unfold textV)
          have hO := (b1.block _ (Array.getElem?_eq_some_iff.1 hO).1).trans hO
          have hc := owns_below hc b1
          have hu2 := owns_below hu2 b1
          have hC := hC.trans (Chg.of b1)
          clear b1
          clear hHeld
          refine hK.out _ _ ?G22 (fun hHeld => ?_)
          case G22 => ((try dsimp only); exact KEEP.out _ hC)
          clear hK K
          try simp only [Act.put, List.getElem_toArray, List.getElem_cons_zero, List.getElem_cons_succ, List.setIfInBounds_toArray, List.set_cons_zero, List.set_cons_succ]
          refine wpAnyH_ready (rs := [9]) (by kernel_rfl) (by simp) ?_
          refine AllReadyH.cons rfl (fun K hK => ?_) AllReadyH.nil
          go_simp
          have ka : Below wm.heap.size wm (wm.alloc (.cells ([.int .i64 3, .int .i64 0, .string x.r, .slice none 0 0, .slice none 0 0]).toArray 30)) := (Below.refl _ _).alloc (Nat.le_refl _) _
          have hO := (ka.block _ (Array.getElem?_eq_some_iff.1 hO).1).trans hO
          have hc := owns_below hc ka
          have hu2 := owns_below hu2 ka
          have hC := hC.trans (Chg.of ka)
          have hbd : (wm.alloc (.cells ([.int .i64 3, .int .i64 0, .string x.r, .slice none 0 0, .slice none 0 0]).toArray 30)).ownsRow 0 30 5 (.slice (some ⟨wm.heap.size, 0, none⟩) 1 1) 1 [.int .i64 3, .int .i64 0, .string x.r, .slice none 0 0, .slice none 0 0] := owns_lo (Nat.zero_le _) (World.ownsRow_lit wm ([.int .i64 3, .int .i64 0, .string x.r, .slice none 0 0, .slice none 0 0]).toArray 1 (Nat.le_refl _) (by unfold maxLen; omega) rfl)
          obtain ⟨bd, hbe⟩ : ∃ q, q = wm.heap.size := ⟨_, rfl⟩
          rw [← hbe] at hbd
          try rw [← hbe]
          clear hHeld
          refine hK.out _ (wm.alloc (.cells ([.int .i64 3, .int .i64 0, .string x.r, .slice none 0 0, .slice none 0 0]).toArray 30)) ?G23 (fun hHeld => ?_)
          case G23 => ((try dsimp only); exact KEEP.out _ hC)
          clear hK K
          try simp only [Act.put, List.getElem_toArray, List.getElem_cons_zero, List.getElem_cons_succ, List.setIfInBounds_toArray, List.set_cons_zero, List.set_cons_succ]
          generalize hwn : wm.alloc (.cells ([.int .i64 3, .int .i64 0, .string x.r, .slice none 0 0, .slice none 0 0]).toArray 30) = wma at *
          clear hwn hbe ka
          refine wpAnyH_ready (rs := [10]) (by kernel_rfl) (by simp) ?_
          refine AllReadyH.cons rfl (fun K hK => ?_) AllReadyH.nil
          rw [if_pos (by rfl)]
          have hsz := hC.size
          refine wp_append_blk _ _ _ 28 rfl 0 30 i0 (.agg #[.int .i64 0, .int .i64 0, .string ⟨#[]⟩, .slice none 0 0, .slice none 0 0]) 5 80 Try.underlying28 hi hz0 hz1 hz2 rfl (by decide) (.slice qc n cc) n _ rfl hc ⟨bd, 0, none⟩ 1 1 [.int .i64 3, .int .i64 0, .string x.r, .slice none 0 0, .slice none 0 0] rfl rfl (fun j q hq => lit_src hbd hq (by simp)) (by simp [Value.oneCell']) (by unfold maxLen; omega) (by omega) (Nat.zero_le _) (by omega) ?_
          intro c2 W1 hc2 g1 l1
          obtain ⟨qc2, cc2, ec2⟩ := owns_sl hc2
          subst ec2
          have nC := newAt_of hsz l1
          have hO := (g1.block _ (Array.getElem?_eq_some_iff.1 hO).1 (fun e => neC.out _ e.symm rfl)).trans hO
          have hu2 := hu2.kept g1 (owns_apart hu2 hc (by decide))
          have hC := hC.trans (Chg.grown g1 (fun g h => .inl (.inl h)))
          clear hHeld
          refine hK.out _ _ ?G24 (fun hHeld => ?_)
          case G24 => ((try dsimp only); exact KEEP.out _ hC)
          clear hK K
          try simp only [Act.put, List.getElem_toArray, List.getElem_cons_zero, List.getElem_cons_succ, List.setIfInBounds_toArray, List.set_cons_zero, List.set_cons_succ]
          refine wpAnyH_take (i := 11) (oi := _) (v := ?vT25) rfl (by kernel_rfl) (by kernel_rfl) (by kernel_rfl) (fun _ _ _ h => h) (Or.inl ⟨by rfl, ?yT25⟩) hHeld ?_
          case yT25 => (intro w hSw; (try dsimp only at hSw); go_simp <;> with_reducible rfl)
          try simp only [Act.put, List.getElem_toArray, List.getElem_cons_zero, List.getElem_cons_succ, List.setIfInBounds_toArray, List.set_cons_zero, List.set_cons_succ]
          have z := vblk_cell hO 3
          have fz := vblk_frozen hO
          simp only [List.getElem?_toArray, List.getElem?_cons_succ, List.getElem?_cons_zero] at z
          refine wpAnyH_ready (rs := [12]) (by kernel_rfl) (by simp) ?_
          refine AllReadyH.cons rfl (fun K hK => ?_) AllReadyH.nil
          go_simp
          clear z fz
          have hO := heap_setCell_same W1 (w.heap.size + 1 + 1) 3 _ _ (.slice qc2 (n + 1) cc2) hO
          have hC := chg_setS (j := 3) (v := .slice qc2 (n + 1) cc2) hC (.inr rfl)
          have nCG : ∀ g, (Value.slice qc2 (n + 1) cc2).ownBlock = some g → g ≠ (w.heap.size + 1 + 1) := fun g h => by
            rcases nC with k | ⟨g', k, k'⟩
            · exact neC.out g (k.symm.trans h)
            · rw [h] at k; injection k with k; have := hGw.out; omega
          have hc2 := owns_kept (S := fun b => b ≠ (w.heap.size + 1 + 1)) (Kp.set (g := (w.heap.size + 1 + 1)) (j := 3) (v := .slice qc2 (n + 1) cc2) (by simp)) nCG hc2
          have hu2 := owns_kept (S := fun b => b ≠ (w.heap.size + 1 + 1)) (Kp.set (g := (w.heap.size + 1 + 1)) (j := 3) (v := .slice qc2 (n + 1) cc2) (by simp)) nUG hu2
          clear hHeld
          refine hK.out _ (W1.setCell ⟨(w.heap.size + 1 + 1), 3, none⟩ (.slice qc2 (n + 1) cc2)) ?G26 (fun hHeld => ?_)
          case G26 => ((try dsimp only); exact KEEP.out _ hC)
          clear hK K
          try simp only [Act.put, List.getElem_toArray, List.getElem_cons_zero, List.getElem_cons_succ, List.setIfInBounds_toArray, List.set_cons_zero, List.set_cons_succ]
          refine wpAnyH_done (by kernel_rfl) ?_ _
          clear hHeld
          generalize hwn : W1.setCell ⟨(w.heap.size + 1 + 1), 3, none⟩ (.slice qc2 (n + 1) cc2) = w9 at *
          clear hwn g1 l1 hbd hc
          have hO : w9.heap[(w.heap.size + 1 + 1)]? = some (boxM (.slice qc2 (n + 1) cc2) (.slice qu2 (n + 1) cu2)) := hO
          rw [HXS.out] at hu2
          have mk2 := HADD.out w9 (fun _ => False) (fun _ => False) _ _ _ _ x.n (.mk 3 0 x.r [] []) (part_text _) HSR.out saneNil (fun _ h => h.elim) (fun _ h => h.elim) hc2 hu2 nC nU hC.size (fun b h1 h2 => hC.block b (HLOW.out b h1) (fun k => k.elim h2 (fun e => HSG.out (e ▸ h1))))
          rw [← HTK.out.1, ← HTK.out.2] at mk2
          have s9 := HST9.out _ hC
          have HF := hidden (And.intro s9 (And.intro hO (And.intro mk2 (lowS (m := w9.heap.size) HS1.out HHW.out))))
          clear s9 hO mk2 hC hc2 hu2 nC nU nCG nUG
          go_wp2_with fail
          go_roundw
          case rel => exact ⟨k + 1, _, _, _, HLT.out, by go_num, HF.out.1, HF.out.2.1, HF.out.2.2.1, HF.out.2.2.2⟩
          case measure => (have hlt9 := HLT.out; simp [intOf]; omega)
        · go_simp
          go_wp2_with (go_at_call 46; refine (HT.out _).mono ?_; rintro e wm ⟨rfl, b1⟩; unfold textV)
          have hO := (b1.block _ (Array.getElem?_eq_some_iff.1 hO).1).trans hO
          have hc := owns_below hc b1
          have hu2 := owns_below hu2 b1
          have hC := hC.trans (Chg.of b1)
          clear b1
          clear hHeld
          refine hK.out _ _ ?G27 (fun hHeld => ?_)
          case G27 => ((try dsimp only); exact KEEP.out _ hC)
          clear hK K
          try simp only [Act.put, List.getElem_toArray, List.getElem_cons_zero, List.getElem_cons_succ, List.setIfInBounds_toArray, List.set_cons_zero, List.set_cons_succ]
          refine wpAnyH_ready (rs := [1, 9]) (by kernel_rfl) (by simp) ?_
          refine AllReadyH.cons rfl (fun K hK => ?_) (AllReadyH.cons rfl (fun K hK => ?_) AllReadyH.nil)
          · have z := vblk_cell hO 3
            simp only [List.getElem?_toArray, List.getElem?_cons_succ, List.getElem?_cons_zero] at z
            go_simp
            clear z
            clear hHeld
            refine hK.out _ _ ?G28 (fun hHeld => ?_)
            case G28 => ((try dsimp only); exact KEEP.out _ hC)
            clear hK K
            try simp only [Act.put, List.getElem_toArray, List.getElem_cons_zero, List.getElem_cons_succ, List.setIfInBounds_toArray, List.set_cons_zero, List.set_cons_succ]
            refine wpAnyH_ready (rs := [9]) (by kernel_rfl) (by simp) ?_
            refine AllReadyH.cons rfl (fun K hK => ?_) AllReadyH.nil
            go_simp
            have ka : Below wm.heap.size wm (wm.alloc (.cells ([.int .i64 3, .int .i64 0, .string x.r, .slice none 0 0, .slice none 0 0]).toArray 30)) := (Below.refl _ _).alloc (Nat.le_refl _) _
            have hO := (ka.block _ (Array.getElem?_eq_some_iff.1 hO).1).trans hO
            have hc := owns_below hc ka
            have hu2 := owns_below hu2 ka
            have hC := hC.trans (Chg.of ka)
            have hbd : (wm.alloc (.cells ([.int .i64 3, .int .i64 0, .string x.r, .slice none 0 0, .slice none 0 0]).toArray 30)).ownsRow 0 30 5 (.slice (some ⟨wm.heap.size, 0, none⟩) 1 1) 1 [.int .i64 3, .int .i64 0, .string x.r, .slice none 0 0, .slice none 0 0] := owns_lo (Nat.zero_le _) (World.ownsRow_lit wm ([.int .i64 3, .int .i64 0, .string x.r, .slice none 0 0, .slice none 0 0]).toArray 1 (Nat.le_refl _) (by unfold maxLen; omega) rfl)
            obtain ⟨bd, hbe⟩ : ∃ q, q = wm.heap.size := ⟨_, rfl⟩
            rw [← hbe] at hbd
            try rw [← hbe]
            clear hHeld
            refine hK.out _ (wm.alloc (.cells ([.int .i64 3, .int .i64 0, .string x.r, .slice none 0 0, .slice none 0 0]).toArray 30)) ?G29 (fun hHeld => ?_)
            case G29 => ((try dsimp only); exact KEEP.out _ hC)
            clear hK K
            try simp only [Act.put, List.getElem_toArray, List.getElem_cons_zero, List.getElem_cons_succ, List.setIfInBounds_toArray, List.set_cons_zero, List.set_cons_succ]
            generalize hwn : wm.alloc (.cells ([.int .i64 3, .int .i64 0, .string x.r, .slice none 0 0, .slice none 0 0]).toArray 30) = wma at *
            clear hwn hbe ka
            refine wpAnyH_ready (rs := [10]) (by kernel_rfl) (by simp) ?_
            refine AllReadyH.cons rfl (fun K hK => ?_) AllReadyH.nil
            rw [if_pos (by rfl)]
            have hsz := hC.size
            refine wp_append_blk _ _ _ 28 rfl 0 30 i0 (.agg #[.int .i64 0, .int .i64 0, .string ⟨#[]⟩, .slice none 0 0, .slice none 0 0]) 5 80 Try.underlying28 hi hz0 hz1 hz2 rfl (by decide) (.slice qc n cc) n _ rfl hc ⟨bd, 0, none⟩ 1 1 [.int .i64 3, .int .i64 0, .string x.r, .slice none 0 0, .slice none 0 0] rfl rfl (fun j q hq => lit_src hbd hq (by simp)) (by simp [Value.oneCell']) (by unfold maxLen; omega) (by omega) (Nat.zero_le _) (by omega) ?_
            intro c2 W1 hc2 g1 l1
            obtain ⟨qc2, cc2, ec2⟩ := owns_sl hc2
            subst ec2
            have nC := newAt_of hsz l1
            have hO := (g1.block _ (Array.getElem?_eq_some_iff.1 hO).1 (fun e => neC.out _ e.symm rfl)).trans hO
            have hu2 := hu2.kept g1 (owns_apart hu2 hc (by decide))
            have hC := hC.trans (Chg.grown g1 (fun g h => .inl (.inl h)))
            clear hHeld
            refine hK.out _ _ ?G30 (fun hHeld => ?_)
            case G30 => ((try dsimp only); exact KEEP.out _ hC)
            clear hK K
            try simp only [Act.put, List.getElem_toArray, List.getElem_cons_zero, List.getElem_cons_succ, List.setIfInBounds_toArray, List.set_cons_zero, List.set_cons_succ]
            refine wpAnyH_take (i := 11) (oi := _) (v := ?vT31) rfl (by kernel_rfl) (by kernel_rfl) (by kernel_rfl) (fun _ _ _ h => h) (Or.inl ⟨by rfl, ?yT31⟩) hHeld ?_
            case yT31 => (intro w hSw; (try dsimp only at hSw); go_simp <;> with_reducible rfl)
            try simp only [Act.put, List.getElem_toArray, List.getElem_cons_zero, List.getElem_cons_succ, List.setIfInBounds_toArray, List.set_cons_zero, List.set_cons_succ]
            have z := vblk_cell hO 3
            have fz := vblk_frozen hO
            simp only [List.getElem?_toArray, List.getElem?_cons_succ, List.getElem?_cons_zero] at z
            refine wpAnyH_ready (rs := [12]) (by kernel_rfl) (by simp) ?_
            refine AllReadyH.cons rfl (fun K hK => ?_) AllReadyH.nil
            go_simp
            clear z fz
            have hO := heap_setCell_same W1 (w.heap.size + 1 + 1) 3 _ _ (.slice qc2 (n + 1) cc2) hO
            have hC := chg_setS (j := 3) (v := .slice qc2 (n + 1) cc2) hC (.inr rfl)
            have nCG : ∀ g, (Value.slice qc2 (n + 1) cc2).ownBlock = some g → g ≠ (w.heap.size + 1 + 1) := fun g h => by
              rcases nC with k | ⟨g', k, k'⟩
              · exact neC.out g (k.symm.trans h)
              · rw [h] at k; injection k with k; have := hGw.out; omega
            have hc2 := owns_kept (S := fun b => b ≠ (w.heap.size + 1 + 1)) (Kp.set (g := (w.heap.size + 1 + 1)) (j := 3) (v := .slice qc2 (n + 1) cc2) (by simp)) nCG hc2
            have hu2 := owns_kept (S := fun b => b ≠ (w.heap.size + 1 + 1)) (Kp.set (g := (w.heap.size + 1 + 1)) (j := 3) (v := .slice qc2 (n + 1) cc2) (by simp)) nUG hu2
            clear hHeld
            refine hK.out _ (W1.setCell ⟨(w.heap.size + 1 + 1), 3, none⟩ (.slice qc2 (n + 1) cc2)) ?G32 (fun hHeld => ?_)
            case G32 => ((try dsimp only); exact KEEP.out _ hC)
            clear hK K
            try simp only [Act.put, List.getElem_toArray, List.getElem_cons_zero, List.getElem_cons_succ, List.setIfInBounds_toArray, List.set_cons_zero, List.set_cons_succ]
            refine wpAnyH_done (by kernel_rfl) ?_ _
            clear hHeld
            generalize hwn : W1.setCell ⟨(w.heap.size + 1 + 1), 3, none⟩ (.slice qc2 (n + 1) cc2) = w9 at *
            clear hwn g1 l1 hbd hc
            have hO : w9.heap[(w.heap.size + 1 + 1)]? = some (boxM (.slice qc2 (n + 1) cc2) (.slice qu2 (n + 1) cu2)) := hO
            rw [HXS.out] at hu2
            have mk2 := HADD.out w9 (fun _ => False) (fun _ => False) _ _ _ _ x.n (.mk 3 0 x.r [] []) (part_text _) HSR.out saneNil (fun _ h => h.elim) (fun _ h => h.elim) hc2 hu2 nC nU hC.size (fun b h1 h2 => hC.block b (HLOW.out b h1) (fun k => k.elim h2 (fun e => HSG.out (e ▸ h1))))
            rw [← HTK.out.1, ← HTK.out.2] at mk2
            have s9 := HST9.out _ hC
            have HF := hidden (And.intro s9 (And.intro hO (And.intro mk2 (lowS (m := w9.heap.size) HS1.out HHW.out))))
            clear s9 hO mk2 hC hc2 hu2 nC nU nCG nUG
            go_wp2_with fail
            go_roundw
            case rel => exact ⟨k + 1, _, _, _, HLT.out, by go_num, HF.out.1, HF.out.2.1, HF.out.2.2.1, HF.out.2.2.2⟩
            case measure => (have hlt9 := HLT.out; simp [intOf]; omega)
          · go_simp
            have ka : Below wm.heap.size wm (wm.alloc (.cells ([.int .i64 3, .int .i64 0, .string x.r, .slice none 0 0, .slice none 0 0]).toArray 30)) := (Below.refl _ _).alloc (Nat.le_refl _) _
            have hO := (ka.block _ (Array.getElem?_eq_some_iff.1 hO).1).trans hO
            have hc := owns_below hc ka
            have hu2 := owns_below hu2 ka
            have hC := hC.trans (Chg.of ka)
            have hbd : (wm.alloc (.cells ([.int .i64 3, .int .i64 0, .string x.r, .slice none 0 0, .slice none 0 0]).toArray 30)).ownsRow 0 30 5 (.slice (some ⟨wm.heap.size, 0, none⟩) 1 1) 1 [.int .i64 3, .int .i64 0, .string x.r, .slice none 0 0, .slice none 0 0] := owns_lo (Nat.zero_le _) (World.ownsRow_lit wm ([.int .i64 3, .int .i64 0, .string x.r, .slice none 0 0, .slice none 0 0]).toArray 1 (Nat.le_refl _) (by unfold maxLen; omega) rfl)
            obtain ⟨bd, hbe⟩ : ∃ q, q = wm.heap.size := ⟨_, rfl⟩
            rw [← hbe] at hbd
            try rw [← hbe]
            clear hHeld
            refine hK.out _ (wm.alloc (.cells ([.int .i64 3, .int .i64 0, .string x.r, .slice none 0 0, .slice none 0 0]).toArray 30)) ?G33 (fun hHeld => ?_)
            case G33 => ((try dsimp only); exact KEEP.out _ hC)
            clear hK K
            try simp only [Act.put, List.getElem_toArray, List.getElem_cons_zero, List.getElem_cons_succ, List.setIfInBounds_toArray, List.set_cons_zero, List.set_cons_succ]
            generalize hwn : wm.alloc (.cells ([.int .i64 3, .int .i64 0, .string x.r, .slice none 0 0, .slice none 0 0]).toArray 30) = wma at *
            clear hwn hbe ka
            refine wpAnyH_ready (rs := [1]) (by kernel_rfl) (by simp) ?_
            refine AllReadyH.cons rfl (fun K hK => ?_) AllReadyH.nil
            have z := vblk_cell hO 3
            simp only [List.getElem?_toArray, List.getElem?_cons_succ, List.getElem?_cons_zero] at z
            go_simp
            clear z
            clear hHeld
            refine hK.out _ _ ?G34 (fun hHeld => ?_)
            case G34 => ((try dsimp only); exact KEEP.out _ hC)
            clear hK K
            try simp only [Act.put, List.getElem_toArray, List.getElem_cons_zero, List.getElem_cons_succ, List.setIfInBounds_toArray, List.set_cons_zero, List.set_cons_succ]
            refine wpAnyH_ready (rs := [10]) (by kernel_rfl) (by simp) ?_
            refine AllReadyH.cons rfl (fun K hK => ?_) AllReadyH.nil
            rw [if_pos (by rfl)]
            have hsz := hC.size
            refine wp_append_blk _ _ _ 28 rfl 0 30 i0 (.agg #[.int .i64 0, .int .i64 0, .string ⟨#[]⟩, .slice none 0 0, .slice none 0 0]) 5 80 Try.underlying28 hi hz0 hz1 hz2 rfl (by decide) (.slice qc n cc) n _ rfl hc ⟨bd, 0, none⟩ 1 1 [.int .i64 3, .int .i64 0, .string x.r, .slice none 0 0, .slice none 0 0] rfl rfl (fun j q hq => lit_src hbd hq (by simp)) (by simp [Value.oneCell']) (by unfold maxLen; omega) (by omega) (Nat.zero_le _) (by omega) ?_
            intro c2 W1 hc2 g1 l1
            obtain ⟨qc2, cc2, ec2⟩ := owns_sl hc2
            subst ec2
            have nC := newAt_of hsz l1
            have hO := (g1.block _ (Array.getElem?_eq_some_iff.1 hO).1 (fun e => neC.out _ e.symm rfl)).trans hO
            have hu2 := hu2.kept g1 (owns_apart hu2 hc (by decide))
            have hC := hC.trans (Chg.grown g1 (fun g h => .inl (.inl h)))
            clear hHeld
            refine hK.out _ _ ?G35 (fun hHeld => ?_)
            case G35 => ((try dsimp only); exact KEEP.out _ hC)
            clear hK K
            try simp only [Act.put, List.getElem_toArray, List.getElem_cons_zero, List.getElem_cons_succ, List.setIfInBounds_toArray, List.set_cons_zero, List.set_cons_succ]
            refine wpAnyH_take (i := 11) (oi := _) (v := ?vT36) rfl (by kernel_rfl) (by kernel_rfl) (by kernel_rfl) (fun _ _ _ h => h) (Or.inl ⟨by rfl, ?yT36⟩) hHeld ?_
            case yT36 => (intro w hSw; (try dsimp only at hSw); go_simp <;> with_reducible rfl)
            try simp only [Act.put, List.getElem_toArray, List.getElem_cons_zero, List.getElem_cons_succ, List.setIfInBounds_toArray, List.set_cons_zero, List.set_cons_succ]
            have z := vblk_cell hO 3
            have fz := vblk_frozen hO
            simp only [List.getElem?_toArray, List.getElem?_cons_succ, List.getElem?_cons_zero] at z
            refine wpAnyH_ready (rs := [12]) (by kernel_rfl) (by simp) ?_
            refine AllReadyH.cons rfl (fun K hK => ?_) AllReadyH.nil
            go_simp
            clear z fz
            have hO := heap_setCell_same W1 (w.heap.size + 1 + 1) 3 _ _ (.slice qc2 (n + 1) cc2) hO
            have hC := chg_setS (j := 3) (v := .slice qc2 (n + 1) cc2) hC (.inr rfl)
            have nCG : ∀ g, (Value.slice qc2 (n + 1) cc2).ownBlock = some g → g ≠ (w.heap.size + 1 + 1) := fun g h => by
              rcases nC with k | ⟨g', k, k'⟩
              · exact neC.out g (k.symm.trans h)
              · rw [h] at k; injection k with k; have := hGw.out; omega
            have hc2 := owns_kept (S := fun b => b ≠ (w.heap.size + 1 + 1)) (Kp.set (g := (w.heap.size + 1 + 1)) (j := 3) (v := .slice qc2 (n + 1) cc2) (by simp)) nCG hc2
            have hu2 := owns_kept (S := fun b => b ≠ (w.heap.size + 1 + 1)) (Kp.set (g := (w.heap.size + 1 + 1)) (j := 3) (v := .slice qc2 (n + 1) cc2) (by simp)) nUG hu2
            clear hHeld
            refine hK.out _ (W1.setCell ⟨(w.heap.size + 1 + 1), 3, none⟩ (.slice qc2 (n + 1) cc2)) ?G37 (fun hHeld => ?_)
            case G37 => ((try dsimp only); exact KEEP.out _ hC)
            clear hK K
            try simp only [Act.put, List.getElem_toArray, List.getElem_cons_zero, List.getElem_cons_succ, List.setIfInBounds_toArray, List.set_cons_zero, List.set_cons_succ]
            refine wpAnyH_done (by kernel_rfl) ?_ _
            clear hHeld
            generalize hwn : W1.setCell ⟨(w.heap.size + 1 + 1), 3, none⟩ (.slice qc2 (n + 1) cc2) = w9 at *
            clear hwn g1 l1 hbd hc
            have hO : w9.heap[(w.heap.size + 1 + 1)]? = some (boxM (.slice qc2 (n + 1) cc2) (.slice qu2 (n + 1) cu2)) := hO
            rw [HXS.out] at hu2
            have mk2 := HADD.out w9 (fun _ => False) (fun _ => False) _ _ _ _ x.n (.mk 3 0 x.r [] []) (part_text _) HSR.out saneNil (fun _ h => h.elim) (fun _ h => h.elim) hc2 hu2 nC nU hC.size (fun b h1 h2 => hC.block b (HLOW.out b h1) (fun k => k.elim h2 (fun e => HSG.out (e ▸ h1))))
            rw [← HTK.out.1, ← HTK.out.2] at mk2
            have s9 := HST9.out _ hC
            have HF := hidden (And.intro s9 (And.intro hO (And.intro mk2 (lowS (m := w9.heap.size) HS1.out HHW.out))))
            clear s9 hO mk2 hC hc2 hu2 nC nU nCG nUG
            go_wp2_with fail
            go_roundw
            case rel => exact ⟨k + 1, _, _, _, HLT.out, by go_num, HF.out.1, HF.out.2.1, HF.out.2.2.1, HF.out.2.2.2⟩
            case measure => (have hlt9 := HLT.out; simp [intOf]; omega)
      · go_simp
        have ka : Below wd.heap.size wd (wd.alloc (.cells #[.string x.n] 9)) := (Below.refl _ _).alloc (Nat.le_refl _) _
        have hO := (ka.block _ (Array.getElem?_eq_some_iff.1 hO).1).trans hO
        have hc := owns_below hc ka
        have hu := owns_below hu ka
        have hC := hC.trans (Chg.of ka)
        have hbb : (wd.alloc (.cells #[.string x.n] 9)).ownsRow 0 9 1 (.slice (some ⟨wd.heap.size, 0, none⟩) 1 1) 1 [.string x.n] := owns_lo (Nat.zero_le _) (World.ownsRow_lit wd ([.string x.n]).toArray 1 (Nat.le_refl _) (by unfold maxLen; omega) rfl)
        obtain ⟨bb, hbe⟩ : ∃ q, q = wd.heap.size := ⟨_, rfl⟩
        rw [← hbe] at hbb
        try rw [← hbe]
        clear hHeld
        refine hK.out _ (wd.alloc (.cells #[.string x.n] 9)) ?G38 (fun hHeld => ?_)
        case G38 => ((try dsimp only); exact KEEP.out _ hC)
        clear hK K
        try simp only [Act.put, List.getElem_toArray, List.getElem_cons_zero, List.getElem_cons_succ, List.setIfInBounds_toArray, List.set_cons_zero, List.set_cons_succ]
        generalize hwn : wd.alloc (.cells #[.string x.n] 9) = wda at *
        clear hwn hbe ka
        refine wpAnyH_ready (rs := [1]) (by kernel_rfl) (by simp) ?_
        refine AllReadyH.cons rfl (fun K hK => ?_) AllReadyH.nil
        have z := vblk_cell hO 4
        simp only [List.getElem?_toArray, List.getElem?_cons_succ, List.getElem?_cons_zero] at z
        go_simp
        clear z
        clear hHeld
        refine hK.out _ _ ?G39 (fun hHeld => ?_)
        case G39 => ((try dsimp only); exact KEEP.out _ hC)
        clear hK K
        try simp only [Act.put, List.getElem_toArray, List.getElem_cons_zero, List.getElem_cons_succ, List.setIfInBounds_toArray, List.set_cons_zero, List.set_cons_succ]
        refine wpAnyH_ready (rs := [9]) (by kernel_rfl) (by simp) ?_
        refine AllReadyH.cons rfl (fun K hK => ?_) AllReadyH.nil
        rw [if_pos (by rfl)]
        have hsz := hC.size
        refine wp_append_blk _ _ _ 23 rfl 0 9 j0 (.string ⟨#[]⟩) 1 16 Try.underlying23 hj hy0 hy1 hy2 rfl (by decide) (.slice qu n cu) n _ rfl hu ⟨bb, 0, none⟩ 1 1 [.string x.n] rfl rfl (fun j q hq => lit_src hbb hq (by simp)) (by simp [Value.oneCell']) (by unfold maxLen; omega) (by omega) (Nat.zero_le _) (by omega) ?_
        intro u2 W1 hu2 g1 l1
        obtain ⟨qu2, cu2, eu2⟩ := owns_sl hu2
        subst eu2
        have nU := newAt_of hsz l1
        have hO := (g1.block _ (Array.getElem?_eq_some_iff.1 hO).1 (fun e => neU.out _ e.symm rfl)).trans hO
        have hc := hc.kept g1 (owns_apart hc hu (by decide))
        have hC := hC.trans (Chg.grown g1 (fun g h => .inl (.inr h)))
        clear hHeld
        refine hK.out _ _ ?G40 (fun hHeld => ?_)
        case G40 => ((try dsimp only); exact KEEP.out _ hC)
        clear hK K
        try simp only [Act.put, List.getElem_toArray, List.getElem_cons_zero, List.getElem_cons_succ, List.setIfInBounds_toArray, List.set_cons_zero, List.set_cons_succ]
        refine wpAnyH_take (i := 10) (oi := _) (v := ?vT41) rfl (by kernel_rfl) (by kernel_rfl) (by kernel_rfl) (fun _ _ _ h => h) (Or.inl ⟨by rfl, ?yT41⟩) hHeld ?_
        case yT41 => (intro w hSw; (try dsimp only at hSw); go_simp <;> with_reducible rfl)
        try simp only [Act.put, List.getElem_toArray, List.getElem_cons_zero, List.getElem_cons_succ, List.setIfInBounds_toArray, List.set_cons_zero, List.set_cons_succ]
        have z := vblk_cell hO 4
        have fz := vblk_frozen hO
        simp only [List.getElem?_toArray, List.getElem?_cons_succ, List.getElem?_cons_zero] at z
        refine wpAnyH_ready (rs := [11]) (by kernel_rfl) (by simp) ?_
        refine AllReadyH.cons rfl (fun K hK => ?_) AllReadyH.nil
        go_simp
        clear z fz
        have hO := heap_setCell_same W1 (w.heap.size + 1 + 1) 4 _ _ (.slice qu2 (n + 1) cu2) hO
        have hC := chg_setS (j := 4) (v := .slice qu2 (n + 1) cu2) hC (.inr rfl)
        have nUG : ∀ g, (Value.slice qu2 (n + 1) cu2).ownBlock = some g → g ≠ (w.heap.size + 1 + 1) := fun g h => by
          rcases nU with k | ⟨g', k, k'⟩
          · exact neU.out g (k.symm.trans h)
          · rw [h] at k; injection k with k; have := hGw.out; omega
        have hc := owns_kept (S := fun b => b ≠ (w.heap.size + 1 + 1)) (Kp.set (g := (w.heap.size + 1 + 1)) (j := 4) (v := .slice qu2 (n + 1) cu2) (by simp)) (fun g h => neC.out g h) hc
        have hu2 := owns_kept (S := fun b => b ≠ (w.heap.size + 1 + 1)) (Kp.set (g := (w.heap.size + 1 + 1)) (j := 4) (v := .slice qu2 (n + 1) cu2) (by simp)) nUG hu2
        clear hHeld
        refine hK.out _ (W1.setCell ⟨(w.heap.size + 1 + 1), 4, none⟩ (.slice qu2 (n + 1) cu2)) ?G42 (fun hHeld => ?_)
        case G42 => ((try dsimp only); exact KEEP.out _ hC)
        clear hK K
        try simp only [Act.put, List.getElem_toArray, List.getElem_cons_zero, List.getElem_cons_succ, List.setIfInBounds_toArray, List.set_cons_zero, List.set_cons_succ]
        refine wpAnyH_done (by kernel_rfl) ?_ _
        clear hHeld
        generalize hwn : W1.setCell ⟨(w.heap.size + 1 + 1), 4, none⟩ (.slice qu2 (n + 1) cu2) = wv at *
        clear hwn g1 l1 hbb hu
        have hO : wv.heap[(w.heap.size + 1 + 1)]? = some (boxM (.slice qc n cc) (.slice qu2 (n + 1) cu2)) := hO
        have HX := hidden (And.intro hO (And.intro hc (And.intro hu2 (And.intro hC (And.intro nU nUG)))))
        clear hO hc hu2 hC nU nUG
        go_wp2_with fail
        obtain ⟨hO, hc, hu2, hC, nU, nUG⟩ := HX.out
        clear HX
        have hC := hC.trans (Chg.of ((Below.refl _ wv).drew))
        have hO : wv.drew.heap[(w.heap.size + 1 + 1)]? = _ := hO
        have hc := owns_below hc (Below.refl _ wv).drew
        have hu2 := owns_below hu2 (Below.refl _ wv).drew
        refine wp_region_held_drew (S := (fun w1 => w1.cell? ⟨w.heap.size, 2, none⟩ = some (.slice (some ⟨b, off, none⟩) needs.length cap1) ∧ w1.cell? ⟨b, off + k * 2, none⟩ = some (.string x.n) ∧ w1.cell? ⟨b, off + k * 2 + 1, none⟩ = some (.string x.r))) (by kernel_rfl) ?S143 (fun hHeld => ?_)
        case S143 => (exact KEEP.out _ hC)
        refine wpAnyH_take (i := 0) (oi := _) (v := ?vT44) rfl (by kernel_rfl) (by kernel_rfl) (by kernel_rfl) (fun _ _ _ h => h) (Or.inl ⟨by rfl, ?yT44⟩) hHeld ?_
        case yT44 => (intro w hSw; (try dsimp only at hSw); go_simp <;> with_reducible rfl)
        try simp only [Act.put, List.getElem_toArray, List.getElem_cons_zero, List.getElem_cons_succ, List.setIfInBounds_toArray, List.set_cons_zero, List.set_cons_succ]
        refine wpAnyH_take (i := 2) (oi := _) (v := ?vT45) rfl (by kernel_rfl) (by kernel_rfl) (by kernel_rfl) (fun _ _ _ h => h) (Or.inl ⟨by rfl, ?yT45⟩) hHeld ?_
        case yT45 => (intro w hSw; (try dsimp only at hSw); go_simp <;> with_reducible rfl)
        try simp only [Act.put, List.getElem_toArray, List.getElem_cons_zero, List.getElem_cons_succ, List.setIfInBounds_toArray, List.set_cons_zero, List.set_cons_succ]
        refine wpAnyH_take (i := 3) (oi := _) (v := ?vT46) rfl (by kernel_rfl) (by kernel_rfl) (by kernel_rfl) (fun _ _ _ h => h) (Or.inl ⟨by rfl, ?yT46⟩) hHeld ?_
        case yT46 => (intro w hSw; (try dsimp only at hSw); go_simp <;> with_reducible rfl)
        try simp only [Act.put, List.getElem_toArray, List.getElem_cons_zero, List.getElem_cons_succ, List.setIfInBounds_toArray, List.set_cons_zero, List.set_cons_succ]
        refine wpAnyH_take (i := 4) (oi := _) (v := ?vT47) rfl (by kernel_rfl) (by kernel_rfl) (by kernel_rfl) (fun _ _ _ h => h) (Or.inl ⟨by rfl, ?yT47⟩) hHeld ?_
        case yT47 => (intro w hSw; (try dsimp only at hSw); go_simp <;> with_reducible rfl)
        try simp only [Act.put, List.getElem_toArray, List.getElem_cons_zero, List.getElem_cons_succ, List.setIfInBounds_toArray, List.set_cons_zero, List.set_cons_succ]
        refine wpAnyH_take (i := 5) (oi := _) (v := ?vT48) rfl (by kernel_rfl) (by kernel_rfl) (by kernel_rfl) (fun _ _ _ h => h) (Or.inl ⟨by rfl, ?yT48⟩) hHeld ?_
        case yT48 => (intro w hSw; (try dsimp only at hSw); go_simp <;> with_reducible rfl)
        try simp only [Act.put, List.getElem_toArray, List.getElem_cons_zero, List.getElem_cons_succ, List.setIfInBounds_toArray, List.set_cons_zero, List.set_cons_succ]
        refine wpAnyH_take (i := 6) (oi := _) (v := ?vT49) rfl (by kernel_rfl) (by kernel_rfl) (by kernel_rfl) (fun _ _ _ h => h) (Or.inl ⟨by rfl, ?yT49⟩) hHeld ?_
        case yT49 => (intro w hSw; (try dsimp only at hSw); go_simp <;> with_reducible rfl)
        try simp only [Act.put, List.getElem_toArray, List.getElem_cons_zero, List.getElem_cons_succ, List.setIfInBounds_toArray, List.set_cons_zero, List.set_cons_succ]
        refine wpAnyH_take (i := 7) (oi := _) (v := ?vT50) rfl (by kernel_rfl) (by kernel_rfl) (by kernel_rfl) (fun _ _ _ h => h) (Or.inl ⟨by rfl, ?yT50⟩) hHeld ?_
        case yT50 => (intro w hSw; (try dsimp only at hSw); go_simp <;> with_reducible rfl)
        try simp only [Act.put, List.getElem_toArray, List.getElem_cons_zero, List.getElem_cons_succ, List.setIfInBounds_toArray, List.set_cons_zero, List.set_cons_succ]
        generalize hwn : wv.drew = wd at *
        clear hwn
        refine wpAnyH_ready (rs := [1, 8]) (by kernel_rfl) (by simp) ?_
        refine AllReadyH.cons rfl (fun K hK => ?_) (AllReadyH.cons rfl (fun K hK => ?_) AllReadyH.nil)
        · have z := vblk_cell hO 3
          simp only [List.getElem?_toArray, List.getElem?_cons_succ, List.getElem?_cons_zero] at z
          go_simp
          clear z
          clear hHeld
          refine hK.out _ _ ?G51 (fun hHeld => ?_)
          case G51 => ((try dsimp only); exact KEEP.out _ hC)
          clear hK K
          try simp only [Act.put, List.getElem_toArray, List.getElem_cons_zero, List.getElem_cons_succ, List.setIfInBounds_toArray, List.set_cons_zero, List.set_cons_succ]
          refine wpAnyH_ready (rs := [8]) (by kernel_rfl) (by simp) ?_
          refine AllReadyH.cons rfl (fun K hK => ?_) AllReadyH.nil
          go_simp
          go_wp2_with (go_at_call 46; refine (HT.out _).mono ?_; rintro e wm ⟨rfl, b1⟩; unfold textV)
          have hO := (b1.block _ (Array.getElem?_eq_some_iff.1 hO).1).trans hO
          have hc := owns_below hc b1
          have hu2 := owns_below hu2 b1
          have hC := hC.trans (Chg.of b1)
          clear b1
          clear hHeld
          refine hK.out _ _ ?G52 (fun hHeld => ?_)
          case G52 => ((try dsimp only); exact KEEP.out _ hC)
          clear hK K
          try simp only [Act.put, List.getElem_toArray, List.getElem_cons_zero, List.getElem_cons_succ, List.setIfInBounds_toArray, List.set_cons_zero, List.set_cons_succ]
          refine wpAnyH_ready (rs := [9]) (by kernel_rfl) (by simp) ?_
          refine AllReadyH.cons rfl (fun K hK => ?_) AllReadyH.nil
          go_simp
          have ka : Below wm.heap.size wm (wm.alloc (.cells ([.int .i64 3, .int .i64 0, .string x.r, .slice none 0 0, .slice none 0 0]).toArray 30)) := (Below.refl _ _).alloc (Nat.le_refl _) _
          have hO := (ka.block _ (Array.getElem?_eq_some_iff.1 hO).1).trans hO
          have hc := owns_below hc ka
          have hu2 := owns_below hu2 ka
          have hC := hC.trans (Chg.of ka)
          have hbd : (wm.alloc (.cells ([.int .i64 3, .int .i64 0, .string x.r, .slice none 0 0, .slice none 0 0]).toArray 30)).ownsRow 0 30 5 (.slice (some ⟨wm.heap.size, 0, none⟩) 1 1) 1 [.int .i64 3, .int .i64 0, .string x.r, .slice none 0 0, .slice none 0 0] := owns_lo (Nat.zero_le _) (World.ownsRow_lit wm ([.int .i64 3, .int .i64 0, .string x.r, .slice none 0 0, .slice none 0 0]).toArray 1 (Nat.le_refl _) (by unfold maxLen; omega) rfl)
          obtain ⟨bd, hbe⟩ : ∃ q, q = wm.heap.size := ⟨_, rfl⟩
          rw [← hbe] at hbd
          try rw [← hbe]
          clear hHeld
          refine hK.out _ (wm.alloc (.cells ([.int .i64 3, .int .i64 0, .string x.r, .slice none 0 0, .slice none 0 0]).toArray 30)) ?G53 (fun hHeld => ?_)
          case G53 => ((try dsimp only); exact KEEP.out _ hC)
          clear hK K
          try simp only [Act.put, List.getElem_toArray, List.getElem_cons_zero, List.getElem_cons_succ, List.setIfInBounds_toArray, List.set_cons_zero, List.set_cons_succ]
          generalize hwn : wm.alloc (.cells ([.int .i64 3, .int .i64 0, .string x.r, .slice none 0 0, .slice none 0 0]).toArray 30) = wma at *
          clear hwn hbe ka
          refine wpAnyH_ready (rs := [10]) (by kernel_rfl) (by simp) ?_
          refine AllReadyH.cons rfl (fun K hK => ?_) AllReadyH.nil
          rw [if_pos (by rfl)]
          have hsz := hC.size
          refine wp_append_blk _ _ _ 28 rfl 0 30 i0 (.agg #[.int .i64 0, .int .i64 0, .string ⟨#[]⟩, .slice none 0 0, .slice none 0 0]) 5 80 Try.underlying28 hi hz0 hz1 hz2 rfl (by decide) (.slice qc n cc) n _ rfl hc ⟨bd, 0, none⟩ 1 1 [.int .i64 3, .int .i64 0, .string x.r, .slice none 0 0, .slice none 0 0] rfl rfl (fun j q hq => lit_src hbd hq (by simp)) (by simp [Value.oneCell']) (by unfold maxLen; omega) (by omega) (Nat.zero_le _) (by omega) ?_
          intro c2 W1 hc2 g1 l1
          obtain ⟨qc2, cc2, ec2⟩ := owns_sl hc2
          subst ec2
          have nC := newAt_of hsz l1
          have hO := (g1.block _ (Array.getElem?_eq_some_iff.1 hO).1 (fun e => neC.out _ e.symm rfl)).trans hO
          have hu2 := hu2.kept g1 (owns_apart hu2 hc (by decide))
          have hC := hC.trans (Chg.grown g1 (fun g h => .inl (.inl h)))
          clear hHeld
          refine hK.out _ _ ?G54 (fun hHeld => ?_)
          case G54 => ((try dsimp only); exact KEEP.out _ hC)
          clear hK K
          try simp only [Act.put, List.getElem_toArray, List.getElem_cons_zero, List.getElem_cons_succ, List.setIfInBounds_toArray, List.set_cons_zero, List.set_cons_succ]
          refine wpAnyH_take (i := 11) (oi := _) (v := ?vT55) rfl (by kernel_rfl) (by kernel_rfl) (by kernel_rfl) (fun _ _ _ h => h) (Or.inl ⟨by rfl, ?yT55⟩) hHeld ?_
          case yT55 => (intro w hSw; (try dsimp only at hSw); go_simp <;> with_reducible rfl)
          try simp only [Act.put, List.getElem_toArray, List.getElem_cons_zero, List.getElem_cons_succ, List.setIfInBounds_toArray, List.set_cons_zero, List.set_cons_succ]
          have z := vblk_cell hO 3
          have fz := vblk_frozen hO
          simp only [List.getElem?_toArray, List.getElem?_cons_succ, List.getElem?_cons_zero] at z
          refine wpAnyH_ready (rs := [12]) (by kernel_rfl) (by simp) ?_
          refine AllReadyH.cons rfl (fun K hK => ?_) AllReadyH.nil
          go_simp
          clear z fz
          have hO := heap_setCell_same W1 (w.heap.size + 1 + 1) 3 _ _ (.slice qc2 (n + 1) cc2) hO
          have hC := chg_setS (j := 3) (v := .slice qc2 (n + 1) cc2) hC (.inr rfl)
          have nCG : ∀ g, (Value.slice qc2 (n + 1) cc2).ownBlock = some g → g ≠ (w.heap.size + 1 + 1) := fun g h => by
            rcases nC with k | ⟨g', k, k'⟩
            · exact neC.out g (k.symm.trans h)
            · rw [h] at k; injection k with k; have := hGw.out; omega
          have hc2 := owns_kept (S := fun b => b ≠ (w.heap.size + 1 + 1)) (Kp.set (g := (w.heap.size + 1 + 1)) (j := 3) (v := .slice qc2 (n + 1) cc2) (by simp)) nCG hc2
          have hu2 := owns_kept (S := fun b => b ≠ (w.heap.size + 1 + 1)) (Kp.set (g := (w.heap.size + 1 + 1)) (j := 3) (v := .slice qc2 (n + 1) cc2) (by simp)) nUG hu2
          clear hHeld
          refine hK.out _ (W1.setCell ⟨(w.heap.size + 1 + 1), 3, none⟩ (.slice qc2 (n + 1) cc2)) ?G56 (fun hHeld => ?_)
          case G56 => ((try dsimp only); exact KEEP.out _ hC)
          clear hK K
          try simp only [Act.put, List.getElem_toArray, List.getElem_cons_zero, List.getElem_cons_succ, List.setIfInBounds_toArray, List.set_cons_zero, List.set_cons_succ]
          refine wpAnyH_done (by kernel_rfl) ?_ _
          clear hHeld
          generalize hwn : W1.setCell ⟨(w.heap.size + 1 + 1), 3, none⟩ (.slice qc2 (n + 1) cc2) = w9 at *
          clear hwn g1 l1 hbd hc
          have hO : w9.heap[(w.heap.size + 1 + 1)]? = some (boxM (.slice qc2 (n + 1) cc2) (.slice qu2 (n + 1) cu2)) := hO
          rw [HXS.out] at hu2
          have mk2 := HADD.out w9 (fun _ => False) (fun _ => False) _ _ _ _ x.n (.mk 3 0 x.r [] []) (part_text _) HSR.out saneNil (fun _ h => h.elim) (fun _ h => h.elim) hc2 hu2 nC nU hC.size (fun b h1 h2 => hC.block b (HLOW.out b h1) (fun k => k.elim h2 (fun e => HSG.out (e ▸ h1))))
          rw [← HTK.out.1, ← HTK.out.2] at mk2
          have s9 := HST9.out _ hC
          have HF := hidden (And.intro s9 (And.intro hO (And.intro mk2 (lowS (m := w9.heap.size) HS1.out HHW.out))))
          clear s9 hO mk2 hC hc2 hu2 nC nU nCG nUG
          go_wp2_with fail
          go_roundw
          case rel => exact ⟨k + 1, _, _, _, HLT.out, by go_num, HF.out.1, HF.out.2.1, HF.out.2.2.1, HF.out.2.2.2⟩
          case measure => (have hlt9 := HLT.out; simp [intOf]; omega)
        · go_simp
          go_wp2_with (go_at_call 46; refine (HT.out _).mono ?_; rintro e wm ⟨rfl, b1⟩; unfold textV)
          have hO := (b1.block _ (Array.getElem?_eq_some_iff.1 hO).1).trans hO
          have hc := owns_below hc b1
          have hu2 := owns_below hu2 b1
          have hC := hC.trans (Chg.of b1)
          clear b1
          clear hHeld
          refine hK.out _ _ ?G57 (fun hHeld => ?_)
          case G57 => ((try dsimp only); exact KEEP.out _ hC)
          clear hK K
          try simp only [Act.put, List.getElem_toArray, List.getElem_cons_zero, List.getElem_cons_succ, List.setIfInBounds_toArray, List.set_cons_zero, List.set_cons_succ]
          refine wpAnyH_ready (rs := [1, 9]) (by kernel_rfl) (by simp) ?_
          refine AllReadyH.cons rfl (fun K hK => ?_) (AllReadyH.cons rfl (fun K hK => ?_) AllReadyH.nil)
          · have z := vblk_cell hO 3
            simp only [List.getElem?_toArray, List.getElem?_cons_succ, List.getElem?_cons_zero] at z
            go_simp
            clear z
            clear hHeld
            refine hK.out _ _ ?G58 (fun hHeld => ?_)
            case G58 => ((try dsimp only); exact KEEP.out _ hC)
            clear hK K
            try simp only [Act.put, List.getElem_toArray, List.getElem_cons_zero, List.getElem_cons_succ, List.setIfInBounds_toArray, List.set_cons_zero, List.set_cons_succ]
            refine wpAnyH_ready (rs := [9]) (by kernel_rfl) (by simp) ?_
            refine AllReadyH.cons rfl (fun K hK => ?_) AllReadyH.nil
            go_simp
            have ka : Below wm.heap.size wm (wm.alloc (.cells ([.int .i64 3, .int .i64 0, .string x.r, .slice none 0 0, .slice none 0 0]).toArray 30)) := (Below.refl _ _).alloc (Nat.le_refl _) _
            have hO := (ka.block _ (Array.getElem?_eq_some_iff.1 hO).1).trans hO
            have hc := owns_below hc ka
            have hu2 := owns_below hu2 ka
            have hC := hC.trans (Chg.of ka)
            have hbd : (wm.alloc (.cells ([.int .i64 3, .int .i64 0, .string x.r, .slice none 0 0, .slice none 0 0]).toArray 30)).ownsRow 0 30 5 (.slice (some ⟨wm.heap.size, 0, none⟩) 1 1) 1 [.int .i64 3, .int .i64 0, .string x.r, .slice none 0 0, .slice none 0 0] := owns_lo (Nat.zero_le _) (World.ownsRow_lit wm ([.int .i64 3, .int .i64 0, .string x.r, .slice none 0 0, .slice none 0 0]).toArray 1 (Nat.le_refl _) (by unfold maxLen; omega) rfl)
            obtain ⟨bd, hbe⟩ : ∃ q, q = wm.heap.size := ⟨_, rfl⟩
            rw [← hbe] at hbd
            try rw [← hbe]
            clear hHeld
            refine hK.out _ (wm.alloc (.cells ([.int .i64 3, .int .i64 0, .string x.r, .slice none 0 0, .slice none 0 0]).toArray 30)) ?G59 (fun hHeld => ?_)
            case G59 => ((try dsimp only); exact KEEP.out _ hC)
            clear hK K
            try simp only [Act.put, List.getElem_toArray, List.getElem_cons_zero, List.getElem_cons_succ, List.setIfInBounds_toArray, List.set_cons_zero, List.set_cons_succ]
            generalize hwn : wm.alloc (.cells ([.int .i64 3, .int .i64 0, .string x.r, .slice none 0 0, .slice none 0 0]).toArray 30) = wma at *
            clear hwn hbe ka
            refine wpAnyH_ready (rs := [10]) (by kernel_rfl) (by simp) ?_
            refine AllReadyH.cons rfl (fun K hK => ?_) AllReadyH.nil
            rw [if_pos (by rfl)]
            have hsz := hC.size
            refine wp_append_blk _ _ _ 28 rfl 0 30 i0 (.agg #[.int .i64 0, .int .i64 0, .string ⟨#[]⟩, .slice none 0 0, .slice none 0 0]) 5 80 Try.underlying28 hi hz0 hz1 hz2 rfl (by decide) (.slice qc n cc) n _ rfl hc ⟨bd, 0, none⟩ 1 1 [.int .i64 3, .int .i64 0, .string x.r, .slice none 0 0, .slice none 0 0] rfl rfl (fun j q hq => lit_src hbd hq (by simp)) (by simp [Value.oneCell']) (by unfold maxLen; omega) (by omega) (Nat.zero_le _) (by omega) ?_
            intro c2 W1 hc2 g1 l1
            obtain ⟨qc2, cc2, ec2⟩ := owns_sl hc2
            subst ec2
            have nC := newAt_of hsz l1
            have hO := (g1.block _ (Array.getElem?_eq_some_iff.1 hO).1 (fun e => neC.out _ e.symm rfl)).trans hO
            have hu2 := hu2.kept g1 (owns_apart hu2 hc (by decide))
            have hC := hC.trans (Chg.grown g1 (fun g h => .inl (.inl h)))
            clear hHeld
            refine hK.out _ _ ?G60 (fun hHeld => ?_)
            case G60 => ((try dsimp only); exact KEEP.out _ hC)
            clear hK K
            try simp only [Act.put, List.getElem_toArray, List.getElem_cons_zero, List.getElem_cons_succ, List.setIfInBounds_toArray, List.set_cons_zero, List.set_cons_succ]
            refine wpAnyH_take (i := 11) (oi := _) (v := ?vT61) rfl (by kernel_rfl) (by kernel_rfl) (by kernel_rfl) (fun _ _ _ h => h) (Or.inl ⟨by rfl, ?yT61⟩) hHeld ?_
            case yT61 => (intro w hSw; (try dsimp only at hSw); go_simp <;> with_reducible rfl)
            try simp only [Act.put, List.getElem_toArray, List.getElem_cons_zero, List.getElem_cons_succ, List.setIfInBounds_toArray, List.set_cons_zero, List.set_cons_succ]
            have z := vblk_cell hO 3
            have fz := vblk_frozen hO
            simp only [List.getElem?_toArray, List.getElem?_cons_succ, List.getElem?_cons_zero] at z
            refine wpAnyH_ready (rs := [12]) (by kernel_rfl) (by simp) ?_
            refine AllReadyH.cons rfl (fun K hK => ?_) AllReadyH.nil
            go_simp
            clear z fz
            have hO := heap_setCell_same W1 (w.heap.size + 1 + 1) 3 _ _ (.slice qc2 (n + 1) cc2) hO
            have hC := chg_setS (j := 3) (v := .slice qc2 (n + 1) cc2) hC (.inr rfl)
            have nCG : ∀ g, (Value.slice qc2 (n + 1) cc2).ownBlock = some g → g ≠ (w.heap.size + 1 + 1) := fun g h => by
              rcases nC with k | ⟨g', k, k'⟩
              · exact neC.out g (k.symm.trans h)
              · rw [h] at k; injection k with k; have := hGw.out; omega
            have hc2 := owns_kept (S := fun b => b ≠ (w.heap.size + 1 + 1)) (Kp.set (g := (w.heap.size + 1 + 1)) (j := 3) (v := .slice qc2 (n + 1) cc2) (by simp)) nCG hc2
            have hu2 := owns_kept (S := fun b => b ≠ (w.heap.size + 1 + 1)) (Kp.set (g := (w.heap.size + 1 + 1)) (j := 3) (v := .slice qc2 (n + 1) cc2) (by simp)) nUG hu2
            clear hHeld
            refine hK.out _ (W1.setCell ⟨(w.heap.size + 1 + 1), 3, none⟩ (.slice qc2 (n + 1) cc2)) ?G62 (fun hHeld => ?_)
            case G62 => ((try dsimp only); exact KEEP.out _ hC)
            clear hK K
            try simp only [Act.put, List.getElem_toArray, List.getElem_cons_zero, List.getElem_cons_succ, List.setIfInBounds_toArray, List.set_cons_zero, List.set_cons_succ]
            refine wpAnyH_done (by kernel_rfl) ?_ _
            clear hHeld
            generalize hwn : W1.setCell ⟨(w.heap.size + 1 + 1), 3, none⟩ (.slice qc2 (n + 1) cc2) = w9 at *
            clear hwn g1 l1 hbd hc
            have hO : w9.heap[(w.heap.size + 1 + 1)]? = some (boxM (.slice qc2 (n + 1) cc2) (.slice qu2 (n + 1) cu2)) := hO
            rw [HXS.out] at hu2
            have mk2 := HADD.out w9 (fun _ => False) (fun _ => False) _ _ _ _ x.n (.mk 3 0 x.r [] []) (part_text _) HSR.out saneNil (fun _ h => h.elim) (fun _ h => h.elim) hc2 hu2 nC nU hC.size (fun b h1 h2 => hC.block b (HLOW.out b h1) (fun k => k.elim h2 (fun e => HSG.out (e ▸ h1))))
            rw [← HTK.out.1, ← HTK.out.2] at mk2
            have s9 := HST9.out _ hC
            have HF := hidden (And.intro s9 (And.intro hO (And.intro mk2 (lowS (m := w9.heap.size) HS1.out HHW.out))))
            clear s9 hO mk2 hC hc2 hu2 nC nU nCG nUG
            go_wp2_with fail
            go_roundw
            case rel => exact ⟨k + 1, _, _, _, HLT.out, by go_num, HF.out.1, HF.out.2.1, HF.out.2.2.1, HF.out.2.2.2⟩
            case measure => (have hlt9 := HLT.out; simp [intOf]; omega)
          · go_simp
            have ka : Below wm.heap.size wm (wm.alloc (.cells ([.int .i64 3, .int .i64 0, .string x.r, .slice none 0 0, .slice none 0 0]).toArray 30)) := (Below.refl _ _).alloc (Nat.le_refl _) _
            have hO := (ka.block _ (Array.getElem?_eq_some_iff.1 hO).1).trans hO
            have hc := owns_below hc ka
            have hu2 := owns_below hu2 ka
            have hC := hC.trans (Chg.of ka)
            have hbd : (wm.alloc (.cells ([.int .i64 3, .int .i64 0, .string x.r, .slice none 0 0, .slice none 0 0]).toArray 30)).ownsRow 0 30 5 (.slice (some ⟨wm.heap.size, 0, none⟩) 1 1) 1 [.int .i64 3, .int .i64 0, .string x.r, .slice none 0 0, .slice none 0 0] := owns_lo (Nat.zero_le _) (World.ownsRow_lit wm ([.int .i64 3, .int .i64 0, .string x.r, .slice none 0 0, .slice none 0 0]).toArray 1 (Nat.le_refl _) (by unfold maxLen; omega) rfl)
            obtain ⟨bd, hbe⟩ : ∃ q, q = wm.heap.size := ⟨_, rfl⟩
            rw [← hbe] at hbd
            try rw [← hbe]
            clear hHeld
            refine hK.out _ (wm.alloc (.cells ([.int .i64 3, .int .i64 0, .string x.r, .slice none 0 0, .slice none 0 0]).toArray 30)) ?G63 (fun hHeld => ?_)
            case G63 => ((try dsimp only); exact KEEP.out _ hC)
            clear hK K
            try simp only [Act.put, List.getElem_toArray, List.getElem_cons_zero, List.getElem_cons_succ, List.setIfInBounds_toArray, List.set_cons_zero, List.set_cons_succ]
            generalize hwn : wm.alloc (.cells ([.int .i64 3, .int .i64 0, .string x.r, .slice none 0 0, .slice none 0 0]).toArray 30) = wma at *
            clear hwn hbe ka
            refine wpAnyH_ready (rs := [1]) (by kernel_rfl) (by simp) ?_
            refine AllReadyH.cons rfl (fun K hK => ?_) AllReadyH.nil
            have z := vblk_cell hO 3
            simp only [List.getElem?_toArray, List.getElem?_cons_succ, List.getElem?_cons_zero] at z
            go_simp
            clear z
            clear hHeld
            refine hK.out _ _ ?G64 (fun hHeld => ?_)
            case G64 => ((try dsimp only); exact KEEP.out _ hC)
            clear hK K
            try simp only [Act.put, List.getElem_toArray, List.getElem_cons_zero, List.getElem_cons_succ, List.setIfInBounds_toArray, List.set_cons_zero, List.set_cons_succ]
            refine wpAnyH_ready (rs := [10]) (by kernel_rfl) (by simp) ?_
            refine AllReadyH.cons rfl (fun K hK => ?_) AllReadyH.nil
            rw [if_pos (by rfl)]
            have hsz := hC.size
            refine wp_append_blk _ _ _ 28 rfl 0 30 i0 (.agg #[.int .i64 0, .int .i64 0, .string ⟨#[]⟩, .slice none 0 0, .slice none 0 0]) 5 80 Try.underlying28 hi hz0 hz1 hz2 rfl (by decide) (.slice qc n cc) n _ rfl hc ⟨bd, 0, none⟩ 1 1 [.int .i64 3, .int .i64 0, .string x.r, .slice none 0 0, .slice none 0 0] rfl rfl (fun j q hq => lit_src hbd hq (by simp)) (by simp [Value.oneCell']) (by unfold maxLen; omega) (by omega) (Nat.zero_le _) (by omega) ?_
            intro c2 W1 hc2 g1 l1
            obtain ⟨qc2, cc2, ec2⟩ := owns_sl hc2
            subst ec2
            have nC := newAt_of hsz l1
            have hO := (g1.block _ (Array.getElem?_eq_some_iff.1 hO).1 (fun e => neC.out _ e.symm rfl)).trans hO
            have hu2 := hu2.kept g1 (owns_apart hu2 hc (by decide))
            have hC := hC.trans (Chg.grown g1 (fun g h => .inl (.inl h)))
            clear hHeld
            refine hK.out _ _ ?G65 (fun hHeld => ?_)
            case G65 => ((try dsimp only); exact KEEP.out _ hC)
            clear hK K
            try simp only [Act.put, List.getElem_toArray, List.getElem_cons_zero, List.getElem_cons_succ, List.setIfInBounds_toArray, List.set_cons_zero, List.set_cons_succ]
            refine wpAnyH_take (i := 11) (oi := _) (v := ?vT66) rfl (by kernel_rfl) (by kernel_rfl) (by kernel_rfl) (fun _ _ _ h => h) (Or.inl ⟨by rfl, ?yT66⟩) hHeld ?_
            case yT66 => (intro w hSw; (try dsimp only at hSw); go_simp <;> with_reducible rfl)
            try simp only [Act.put, List.getElem_toArray, List.getElem_cons_zero, List.getElem_cons_succ, List.setIfInBounds_toArray, List.set_cons_zero, List.set_cons_succ]
            have z := vblk_cell hO 3
            have fz := vblk_frozen hO
            simp only [List.getElem?_toArray, List.getElem?_cons_succ, List.getElem?_cons_zero] at z
            refine wpAnyH_ready (rs := [12]) (by kernel_rfl) (by simp) ?_
            refine AllReadyH.cons rfl (fun K hK => ?_) AllReadyH.nil
            go_simp
            clear z fz
            have hO := heap_setCell_same W1 (w.heap.size + 1 + 1) 3 _ _ (.slice qc2 (n + 1) cc2) hO
            have hC := chg_setS (j := 3) (v := .slice qc2 (n + 1) cc2) hC (.inr rfl)
            have nCG : ∀ g, (Value.slice qc2 (n + 1) cc2).ownBlock = some g → g ≠ (w.heap.size + 1 + 1) := fun g h => by
              rcases nC with k | ⟨g', k, k'⟩
              · exact neC.out g (k.symm.trans h)
              · rw [h] at k; injection k with k; have := hGw.out; omega
            have hc2 := owns_kept (S := fun b => b ≠ (w.heap.size + 1 + 1)) (Kp.set (g := (w.heap.size + 1 + 1)) (j := 3) (v := .slice qc2 (n + 1) cc2) (by simp)) nCG hc2
            have hu2 := owns_kept (S := fun b => b ≠ (w.heap.size + 1 + 1)) (Kp.set (g := (w.heap.size + 1 + 1)) (j := 3) (v := .slice qc2 (n + 1) cc2) (by simp)) nUG hu2
            clear hHeld
            refine hK.out _ (W1.setCell ⟨(w.heap.size + 1 + 1), 3, none⟩ (.slice qc2 (n + 1) cc2)) ?G67 (fun hHeld => ?_)
            case G67 => ((try dsimp only); exact KEEP.out _ hC)
            clear hK K
            try simp only [Act.put, List.getElem_toArray, List.getElem_cons_zero, List.getElem_cons_succ, List.setIfInBounds_toArray, List.set_cons_zero, List.set_cons_succ]
            refine wpAnyH_done (by kernel_rfl) ?_ _
            clear hHeld
            generalize hwn : W1.setCell ⟨(w.heap.size + 1 + 1), 3, none⟩ (.slice qc2 (n + 1) cc2) = w9 at *
            clear hwn g1 l1 hbd hc
            have hO : w9.heap[(w.heap.size + 1 + 1)]? = some (boxM (.slice qc2 (n + 1) cc2) (.slice qu2 (n + 1) cu2)) := hO
            rw [HXS.out] at hu2
            have mk2 := HADD.out w9 (fun _ => False) (fun _ => False) _ _ _ _ x.n (.mk 3 0 x.r [] []) (part_text _) HSR.out saneNil (fun _ h => h.elim) (fun _ h => h.elim) hc2 hu2 nC nU hC.size (fun b h1 h2 => hC.block b (HLOW.out b h1) (fun k => k.elim h2 (fun e => HSG.out (e ▸ h1))))
            rw [← HTK.out.1, ← HTK.out.2] at mk2
            have s9 := HST9.out _ hC
            have HF := hidden (And.intro s9 (And.intro hO (And.intro mk2 (lowS (m := w9.heap.size) HS1.out HHW.out))))
            clear s9 hO mk2 hC hc2 hu2 nC nU nCG nUG
            go_wp2_with fail
            go_roundw
            case rel => exact ⟨k + 1, _, _, _, HLT.out, by go_num, HF.out.1, HF.out.2.1, HF.out.2.2.1, HF.out.2.2.2⟩
            case measure => (have hlt9 := HLT.out; simp [intOf]; omega)
    · have hk' : k = needs.length := by omega
      rw [hk', List.take_length] at hmk
      have hki : ¬ ((k : Int) < (needs.length : Int)) := by omega
      obtain ⟨g5, hg5e⟩ : ∃ g, g = wr.heap.size := ⟨_, rfl⟩
      have hS1g : Hid (∀ b, S1 b → b < g5) := fun b h => hg5e ▸ hmk.low b h
      have hg5 : Hid (w.heap.size + 3 ≤ g5) := by have := (Array.getElem?_eq_some_iff.1 hO).1; exact (by omega : w.heap.size + 3 ≤ g5)
      have bx : Below wr.heap.size wr (wr.alloc (boxM (.slice none 0 0) (.slice none 0 0))) := (Below.refl _ _).alloc (Nat.le_refl _) _
      have HS0 : Hid (SvS w (wr.alloc (boxM (.slice none 0 0) (.slice none 0 0))) BP ∧ (wr.alloc (boxM (.slice none 0 0) (.slice none 0 0))).heap[w.heap.size + 1 + 1]? = some (boxM c u) ∧ (wr.alloc (boxM (.slice none 0 0) (.slice none 0 0))).heap[wr.heap.size]? = some (boxM (.slice none 0 0) (.slice none 0 0)) ∧ Mk (wr.alloc (boxM (.slice none 0 0) (.slice none 0 0))) S1 c u (needs.map needT) (needs.map (·.n))) :=
        ⟨hst.chg (D := fun _ => False) (Chg.of bx) (fun _ h => h.elim), (bx.block _ (Array.getElem?_eq_some_iff.1 hO).1).trans hO, vheap_new _ _, hmk.keep bx.size (Kp.of bx hmk.low)⟩
      have HS1 := hidden hS1
      clear hmk hst hS1 hO hP bx
      go_wp2_with fail
      clear p2
      obtain ⟨cN, hcN⟩ : ∃ cN, cN = c := ⟨_, rfl⟩
      obtain ⟨uN, huN⟩ : ∃ uN, uN = u := ⟨_, rfl⟩
      rw [← hcN, ← huN] at HS0
      clear hcN huN
      rw [← hg5e] at HS0
      rw [← hg5e]
      replace hg5e := hidden hg5e
      go_loopw [6] (fun vi wr => ∃ (k2 : Nat) (c u : Value) (S2 : Nat → Prop), k2 ≤ cmds.length ∧ vi = .int .i64 (k2 : Int) ∧ SvS w wr BP ∧ wr.heap[w.heap.size + 1 + 1]? = some (boxM cN uN) ∧ wr.heap[g5]? = some (boxM c u) ∧ Mk wr S2 c u ((cmds.take k2).map cmdT) ((cmds.take k2).map (·.t)) ∧ (∀ b, S2 b → g5 + 1 ≤ b) ∧ Mk wr S1 cN uN (needs.map needT) (needs.map (·.n))) (fun vi _ => cmds.length - (intOf vi).toNat)
      case atStart =>
        exact ⟨0, .slice none 0 0, .slice none 0 0, fun _ => False, Nat.zero_le _, rfl, HS0.out.1, HS0.out.2.1, HS0.out.2.2.1, by simpa using Mk.nil _, fun _ h => h.elim, HS0.out.2.2.2⟩
      case round =>
        obtain ⟨k2, c, u, S2, hk2, rfl, hst, hN, hO, hmk, hS2, hmN⟩ := hrel
        have hP : wr.heap[w.heap.size]? = some (.cells #[.string name, .slice q0 uses.length cap0, .slice q1 needs.length cap1, .slice q2 cmds.length cap2] 42 (0, 0)) := HBP.out ▸ hst.P
        have p3 := vblk_cell hP 3
        simp only [List.getElem?_toArray, List.getElem?_cons_succ, List.getElem?_cons_zero] at p3
        clear HS0
        by_cases hlt' : k2 < cmds.length
        · rcases ha2 with rfl | ⟨b, off, rfl, hlt, ha⟩
          · simp at hlt'
          obtain ⟨cs, hL, hcl⟩ := ha k2 hlt'
          replace hcl := hcl.keep (.of hst.B hB) hlt
          have hxw := wt_wtRow wtCmd (List.getElem_mem hlt')
          obtain ⟨x, hx⟩ : ∃ x, x = cmds[k2] := ⟨_, rfl⟩
          rw [← hx] at hL hxw
          have htk : ((cmds.take (k2 + 1)).map cmdT = (cmds.take k2).map cmdT ++ [.mk 4 0 ⟨#[]⟩ (x.acts.map textT) []] ∧ (cmds.take (k2 + 1)).map (·.t) = (cmds.take k2).map (·.t) ++ [x.t]) := by
            rw [List.take_succ_eq_append_getElem hlt', ← hx]; simp [cmdT, listT]
          have HTK := hidden htk
          clear htk
          obtain ⟨ua, rfl, s_t, ra, pa⟩ := hL
          obtain ⟨qa, capa, eua, _⟩ := id ra
          rw [length_strsV] at eua
          subst eua
          have e0 : wr.cell? ⟨b, off + k2 * 2, none⟩ = some (.string x.t) := hcl 0 (by simp)
          have e1 : wr.cell? ⟨b, off + k2 * 2 + 1, none⟩ = some (.slice qa x.acts.length capa) := hcl 1 (by simp)
          have hki2 : (k2 : Int) < (cmds.length : Int) := by omega
          have hrs : bulkS x.acts ≤ 1048576 := by have hw' := hw; simp only [wtPack] at hw'; simp only [wtCmd] at hxw; omega
          have HT : Hid (∀ w1, Below w.heap.size w w1 → Calls Try.prog 47 #[.slice qa x.acts.length capa] w1 fun e w' => ∃ c, e = .returned (.agg #[.int .i64 4, .int .i64 0, .string ⟨#[]⟩, c, .slice none 0 0]) ∧ Part w' (fun b => w1.heap.size ≤ b ∧ b < w'.heap.size) (fun _ => False) c (.slice none 0 0) (x.acts.map textT) [] ∧ Below w1.heap.size w1 w') := fun w1 h1 =>
            texts_partS _ _ w1 ((ra.keep (.of h1 hB)).reads (fun b hb => Nat.lt_of_lt_of_le (hB b hb) h1.size)) hrs pa
          clear ha hx hcl ra
          have HLT := hidden hlt'
          have hmk0 := hmk
          obtain ⟨n, qc, cc, qu, cu, hnl, rfl, rfl⟩ := hmk0.slicesN
          have hn : n ≤ 1048576 := by rw [hnl]; simp; omega
          obtain ⟨ys, hys, hadd⟩ := hmk.addS
          have hkeys := hmk.keys
          rw [← hnl] at hys hkeys
          rw [← hnl] at hadd
          have HADD := hidden hadd
          clear hadd hmk0
          have HNL := hidden hnl
          clear hnl
          obtain ⟨XS, hXS⟩ : ∃ XS, XS = strsV ((cmds.take k2).map (·.t)) := ⟨_, rfl⟩
          have HXS := hidden hXS
          rw [← hXS] at hkeys
          clear hXS
          have hSG : ¬ S2 g5 := fun h => by have := hS2 _ h; omega
          have neC : Hid (∀ g, (Value.slice qc n cc).ownBlock = some g → g ≠ g5) := fun g h e => hSG (e ▸ hmk.of_two g (.inl h))
          have neU : Hid (∀ g, (Value.slice qu n cu).ownBlock = some g → g ≠ g5) := fun g h e => hSG (e ▸ hmk.of_two g (.inr h))
          have hGw : Hid (g5 < wr.heap.size) := (Array.getElem?_eq_some_iff.1 hO).1
          have HSG := hidden hSG
          have HLOW := hidden hmk.low
          have HS1 := hidden hS2
          have HOF := hidden hmk.of_two
          have HHW : Hid (g5 + 1 ≤ wr.heap.size) := by have := hGw.out; exact (by omega : g5 + 1 ≤ wr.heap.size)
          have HST9 : Hid (∀ W, Chg (Dd (.slice qc n cc) (.slice qu n cu) g5) wr W → SvS w W BP) := fun W h => hst.chg h (fun b k => by
            rcases k with k | k
            · have := hS2 b (hmk.of_two b k); have := hg5.out; omega
            · have := hg5.out; omega)
          have HMN : Hid (∀ W, Chg (Dd (.slice qc n cc) (.slice qu n cu) g5) wr W → W.heap[w.heap.size + 1 + 1]? = some (boxM cN uN) ∧ Mk W S1 cN uN (needs.map needT) (needs.map (·.n))) := fun W h => by
            have kk : ∀ i, i < g5 → W.heap[i]? = wr.heap[i]? := fun i hi => h.block i (by have := HHW.out; omega) (fun k => by
              rcases k with k | k
              · have := hS2 i (hmk.of_two i k); omega
              · omega)
            exact ⟨(kk _ (by have := hg5.out; omega)).trans hN, hmN.keep h.size (fun i hi => kk i (hS1g.out i hi))⟩
          obtain ⟨SS, hSS⟩ : ∃ SS : World → Prop, SS = (fun w1 => w1.cell? ⟨w.heap.size, 3, none⟩ = some (.slice (some ⟨b, off, none⟩) cmds.length cap2) ∧ w1.cell? ⟨b, off + k2 * 2, none⟩ = some (.string x.t) ∧ w1.cell? ⟨b, off + k2 * 2 + 1, none⟩ = some (.slice qa x.acts.length capa)) := ⟨_, rfl⟩
          have hDn : ∀ i, Dd (.slice qc n cc) (.slice qu n cu) g5 i → w.heap.size + 1 + 1 ≤ i := fun i k => by
            rcases k with k | k
            · have := hS2 i (hmk.of_two i k); have := hg5.out; omega
            · have := hg5.out; omega
          have KEEP : Hid (∀ W, Chg (Dd (.slice qc n cc) (.slice qu n cu) g5) wr W → SS W) := fun W h => by
            rw [hSS]
            have hbw := hB b hlt
            have kk : ∀ i, i < w.heap.size + 1 → W.heap[i]? = wr.heap[i]? := fun i hi => h.block i (by have := HHW.out; have := hg5.out; omega) (fun k => by have := hDn i k; omega)
            exact ⟨(World.cell?_of_block (w := wr) (kk w.heap.size (by omega))).trans p3, (World.cell?_of_block (w := wr) (kk b (by omega))).trans e0, (World.cell?_of_block (w := wr) (kk b (by omega))).trans e1⟩
          have hC : Chg (Dd (.slice qc n cc) (.slice qu n cu) g5) wr wr.drew := Chg.of (Below.refl _ _).drew
          have hOd : wr.drew.heap[g5]? = some (boxM (.slice qc n cc) (.slice qu n cu)) := hO
          have hc := owns_below hys (Below.refl _ wr).drew
          have hu := owns_below hkeys (Below.refl _ wr).drew
          have HZ := hidden (And.intro hC (And.intro hOd (And.intro hc hu)))
          clear hN hmN hC hOd hc hu hO hys hkeys hmk hst hS2 hSG hDn hP
          go_wp2_with fail
          clear p3 e0 e1
          obtain ⟨hC, hO, hc, hu⟩ := HZ.out
          clear HZ
          subst hSS
          refine wp_region_held_drew (S := (fun w1 => w1.cell? ⟨w.heap.size, 3, none⟩ = some (.slice (some ⟨b, off, none⟩) cmds.length cap2) ∧ w1.cell? ⟨b, off + k2 * 2, none⟩ = some (.string x.t) ∧ w1.cell? ⟨b, off + k2 * 2 + 1, none⟩ = some (.slice qa x.acts.length capa))) (by kernel_rfl) ?S02 (fun hHeld => ?_)
          case S02 => (exact KEEP.out _ hC)
          refine wpAnyH_take (i := 0) (oi := _) (v := ?vT95) rfl (by kernel_rfl) (by kernel_rfl) (by kernel_rfl) (fun _ _ _ h => h) (Or.inl ⟨by rfl, ?yT95⟩) hHeld ?_
          case yT95 => (intro w hSw; (try dsimp only at hSw); go_simp <;> with_reducible rfl)
          try simp only [Act.put, List.getElem_toArray, List.getElem_cons_zero, List.getElem_cons_succ, List.setIfInBounds_toArray, List.set_cons_zero, List.set_cons_succ]
          refine wpAnyH_take (i := 2) (oi := _) (v := ?vT96) rfl (by kernel_rfl) (by kernel_rfl) (by kernel_rfl) (fun _ _ _ h => h) (Or.inl ⟨by rfl, ?yT96⟩) hHeld ?_
          case yT96 => (intro w hSw; (try dsimp only at hSw); go_simp <;> with_reducible rfl)
          try simp only [Act.put, List.getElem_toArray, List.getElem_cons_zero, List.getElem_cons_succ, List.setIfInBounds_toArray, List.set_cons_zero, List.set_cons_succ]
          refine wpAnyH_take (i := 3) (oi := _) (v := ?vT97) rfl (by kernel_rfl) (by kernel_rfl) (by kernel_rfl) (fun _ _ _ h => h) (Or.inl ⟨by rfl, ?yT97⟩) hHeld ?_
          case yT97 => (intro w hSw; (try dsimp only at hSw); go_simp <;> with_reducible rfl)
          try simp only [Act.put, List.getElem_toArray, List.getElem_cons_zero, List.getElem_cons_succ, List.setIfInBounds_toArray, List.set_cons_zero, List.set_cons_succ]
          refine wpAnyH_take (i := 4) (oi := _) (v := ?vT98) rfl (by kernel_rfl) (by kernel_rfl) (by kernel_rfl) (fun _ _ _ h => h) (Or.inl ⟨by rfl, ?yT98⟩) hHeld ?_
          case yT98 => (intro w hSw; (try dsimp only at hSw); go_simp <;> with_reducible rfl)
          try simp only [Act.put, List.getElem_toArray, List.getElem_cons_zero, List.getElem_cons_succ, List.setIfInBounds_toArray, List.set_cons_zero, List.set_cons_succ]
          refine wpAnyH_take (i := 5) (oi := _) (v := ?vT99) rfl (by kernel_rfl) (by kernel_rfl) (by kernel_rfl) (fun _ _ _ h => h) (Or.inl ⟨by rfl, ?yT99⟩) hHeld ?_
          case yT99 => (intro w hSw; (try dsimp only at hSw); go_simp <;> with_reducible rfl)
          try simp only [Act.put, List.getElem_toArray, List.getElem_cons_zero, List.getElem_cons_succ, List.setIfInBounds_toArray, List.set_cons_zero, List.set_cons_succ]
          refine wpAnyH_take (i := 6) (oi := _) (v := ?vT100) rfl (by kernel_rfl) (by kernel_rfl) (by kernel_rfl) (fun _ _ _ h => h) (Or.inl ⟨by rfl, ?yT100⟩) hHeld ?_
          case yT100 => (intro w hSw; (try dsimp only at hSw); go_simp <;> with_reducible rfl)
          try simp only [Act.put, List.getElem_toArray, List.getElem_cons_zero, List.getElem_cons_succ, List.setIfInBounds_toArray, List.set_cons_zero, List.set_cons_succ]
          refine wpAnyH_take (i := 7) (oi := _) (v := ?vT101) rfl (by kernel_rfl) (by kernel_rfl) (by kernel_rfl) (fun _ _ _ h => h) (Or.inl ⟨by rfl, ?yT101⟩) hHeld ?_
          case yT101 => (intro w hSw; (try dsimp only at hSw); go_simp <;> with_reducible rfl)
          try simp only [Act.put, List.getElem_toArray, List.getElem_cons_zero, List.getElem_cons_succ, List.setIfInBounds_toArray, List.set_cons_zero, List.set_cons_succ]
          obtain ⟨wd, hwd⟩ : ∃ wd, wd = wr.drew := ⟨_, rfl⟩
          rw [← hwd] at hC hO hc hu
          rw [← hwd]
          clear hwd
          refine wpAnyH_ready (rs := [1, 8]) (by kernel_rfl) (by simp) ?_
          refine AllReadyH.cons rfl (fun K hK => ?_) (AllReadyH.cons rfl (fun K hK => ?_) AllReadyH.nil)
          · have z := vblk_cell hO 4
            simp only [List.getElem?_toArray, List.getElem?_cons_succ, List.getElem?_cons_zero] at z
            go_simp
            clear z
            clear hHeld
            refine hK.out _ _ ?G102 (fun hHeld => ?_)
            case G102 => ((try dsimp only); exact KEEP.out _ hC)
            clear hK K
            try simp only [Act.put, List.getElem_toArray, List.getElem_cons_zero, List.getElem_cons_succ, List.setIfInBounds_toArray, List.set_cons_zero, List.set_cons_succ]
            refine wpAnyH_ready (rs := [8]) (by kernel_rfl) (by simp) ?_
            refine AllReadyH.cons rfl (fun K hK => ?_) AllReadyH.nil
            go_simp
            have ka : Below wd.heap.size wd (wd.alloc (.cells #[.string x.t] 9)) := (Below.refl _ _).alloc (Nat.le_refl _) _
            have hO := (ka.block _ (Array.getElem?_eq_some_iff.1 hO).1).trans hO
            have hc := owns_below hc ka
            have hu := owns_below hu ka
            have hC := hC.trans (Chg.of ka)
            have hbb : (wd.alloc (.cells #[.string x.t] 9)).ownsRow 0 9 1 (.slice (some ⟨wd.heap.size, 0, none⟩) 1 1) 1 [.string x.t] := owns_lo (Nat.zero_le _) (World.ownsRow_lit wd ([.string x.t]).toArray 1 (Nat.le_refl _) (by unfold maxLen; omega) rfl)
            obtain ⟨bb, hbe⟩ : ∃ q, q = wd.heap.size := ⟨_, rfl⟩
            rw [← hbe] at hbb
            try rw [← hbe]
            clear hHeld
            refine hK.out _ (wd.alloc (.cells #[.string x.t] 9)) ?G103 (fun hHeld => ?_)
            case G103 => ((try dsimp only); exact KEEP.out _ hC)
            clear hK K
            try simp only [Act.put, List.getElem_toArray, List.getElem_cons_zero, List.getElem_cons_succ, List.setIfInBounds_toArray, List.set_cons_zero, List.set_cons_succ]
            generalize hwn : wd.alloc (.cells #[.string x.t] 9) = wda at *
            clear hwn hbe ka
            refine wpAnyH_ready (rs := [9]) (by kernel_rfl) (by simp) ?_
            refine AllReadyH.cons rfl (fun K hK => ?_) AllReadyH.nil
            rw [if_pos (by rfl)]
            have hsz := hC.size
            refine wp_append_blk _ _ _ 23 rfl 0 9 j0 (.string ⟨#[]⟩) 1 16 Try.underlying23 hj hy0 hy1 hy2 rfl (by decide) (.slice qu n cu) n _ rfl hu ⟨bb, 0, none⟩ 1 1 [.string x.t] rfl rfl (fun j q hq => lit_src hbb hq (by simp)) (by simp [Value.oneCell']) (by unfold maxLen; omega) (by omega) (Nat.zero_le _) (by omega) ?_
            intro u2 W1 hu2 g1 l1
            obtain ⟨qu2, cu2, eu2⟩ := owns_sl hu2
            subst eu2
            have nU := newAt_of hsz l1
            have hO := (g1.block _ (Array.getElem?_eq_some_iff.1 hO).1 (fun e => neU.out _ e.symm rfl)).trans hO
            have hc := hc.kept g1 (owns_apart hc hu (by decide))
            have hC := hC.trans (Chg.grown g1 (fun g h => .inl (.inr h)))
            clear hHeld
            refine hK.out _ _ ?G104 (fun hHeld => ?_)
            case G104 => ((try dsimp only); exact KEEP.out _ hC)
            clear hK K
            try simp only [Act.put, List.getElem_toArray, List.getElem_cons_zero, List.getElem_cons_succ, List.setIfInBounds_toArray, List.set_cons_zero, List.set_cons_succ]
            refine wpAnyH_take (i := 10) (oi := _) (v := ?vT105) rfl (by kernel_rfl) (by kernel_rfl) (by kernel_rfl) (fun _ _ _ h => h) (Or.inl ⟨by rfl, ?yT105⟩) hHeld ?_
            case yT105 => (intro w hSw; (try dsimp only at hSw); go_simp <;> with_reducible rfl)
            try simp only [Act.put, List.getElem_toArray, List.getElem_cons_zero, List.getElem_cons_succ, List.setIfInBounds_toArray, List.set_cons_zero, List.set_cons_succ]
            have z := vblk_cell hO 4
            have fz := vblk_frozen hO
            simp only [List.getElem?_toArray, List.getElem?_cons_succ, List.getElem?_cons_zero] at z
            refine wpAnyH_ready (rs := [11]) (by kernel_rfl) (by simp) ?_
            refine AllReadyH.cons rfl (fun K hK => ?_) AllReadyH.nil
            go_simp
            clear z fz
            have hO := heap_setCell_same W1 g5 4 _ _ (.slice qu2 (n + 1) cu2) hO
            have hC := chg_setS (j := 4) (v := .slice qu2 (n + 1) cu2) hC (.inr rfl)
            have nUG : ∀ g, (Value.slice qu2 (n + 1) cu2).ownBlock = some g → g ≠ g5 := fun g h => by
              rcases nU with k | ⟨g', k, k'⟩
              · exact neU.out g (k.symm.trans h)
              · rw [h] at k; injection k with k; have := hGw.out; omega
            have hc := owns_kept (S := fun b => b ≠ g5) (Kp.set (g := g5) (j := 4) (v := .slice qu2 (n + 1) cu2) (by simp)) (fun g h => neC.out g h) hc
            have hu2 := owns_kept (S := fun b => b ≠ g5) (Kp.set (g := g5) (j := 4) (v := .slice qu2 (n + 1) cu2) (by simp)) nUG hu2
            clear hHeld
            refine hK.out _ (W1.setCell ⟨g5, 4, none⟩ (.slice qu2 (n + 1) cu2)) ?G106 (fun hHeld => ?_)
            case G106 => ((try dsimp only); exact KEEP.out _ hC)
            clear hK K
            try simp only [Act.put, List.getElem_toArray, List.getElem_cons_zero, List.getElem_cons_succ, List.setIfInBounds_toArray, List.set_cons_zero, List.set_cons_succ]
            refine wpAnyH_done (by kernel_rfl) ?_ _
            clear hHeld
            generalize hwn : W1.setCell ⟨g5, 4, none⟩ (.slice qu2 (n + 1) cu2) = wv at *
            clear hwn g1 l1 hbb hu
            have hO : wv.heap[g5]? = some (boxM (.slice qc n cc) (.slice qu2 (n + 1) cu2)) := hO
            have HX := hidden (And.intro hO (And.intro hc (And.intro hu2 (And.intro hC (And.intro nU nUG)))))
            clear hO hc hu2 hC nU nUG
            go_wp2_with fail
            obtain ⟨hO, hc, hu2, hC, nU, nUG⟩ := HX.out
            have nUl : ∀ g, (Value.slice qu2 (n + 1) cu2).ownBlock = some g → g < wv.drew.heap.size := fun g h => (owns_in hu2 g h).2
            clear HX
            have hC := hC.trans (Chg.of ((Below.refl _ wv).drew))
            have hO : wv.drew.heap[g5]? = _ := hO
            have hc := owns_below hc (Below.refl _ wv).drew
            have hu2 := owns_below hu2 (Below.refl _ wv).drew
            refine wp_region_held_drew (S := (fun w1 => w1.cell? ⟨w.heap.size, 3, none⟩ = some (.slice (some ⟨b, off, none⟩) cmds.length cap2) ∧ w1.cell? ⟨b, off + k2 * 2, none⟩ = some (.string x.t) ∧ w1.cell? ⟨b, off + k2 * 2 + 1, none⟩ = some (.slice qa x.acts.length capa))) (by kernel_rfl) ?S1107 (fun hHeld => ?_)
            case S1107 => (exact KEEP.out _ hC)
            refine wpAnyH_take (i := 0) (oi := _) (v := ?vT108) rfl (by kernel_rfl) (by kernel_rfl) (by kernel_rfl) (fun _ _ _ h => h) (Or.inl ⟨by rfl, ?yT108⟩) hHeld ?_
            case yT108 => (intro w hSw; (try dsimp only at hSw); go_simp <;> with_reducible rfl)
            try simp only [Act.put, List.getElem_toArray, List.getElem_cons_zero, List.getElem_cons_succ, List.setIfInBounds_toArray, List.set_cons_zero, List.set_cons_succ]
            refine wpAnyH_take (i := 2) (oi := _) (v := ?vT109) rfl (by kernel_rfl) (by kernel_rfl) (by kernel_rfl) (fun _ _ _ h => h) (Or.inl ⟨by rfl, ?yT109⟩) hHeld ?_
            case yT109 => (intro w hSw; (try dsimp only at hSw); go_simp <;> with_reducible rfl)
            try simp only [Act.put, List.getElem_toArray, List.getElem_cons_zero, List.getElem_cons_succ, List.setIfInBounds_toArray, List.set_cons_zero, List.set_cons_succ]
            refine wpAnyH_take (i := 3) (oi := _) (v := ?vT110) rfl (by kernel_rfl) (by kernel_rfl) (by kernel_rfl) (fun _ _ _ h => h) (Or.inl ⟨by rfl, ?yT110⟩) hHeld ?_
            case yT110 => (intro w hSw; (try dsimp only at hSw); go_simp <;> with_reducible rfl)
            try simp only [Act.put, List.getElem_toArray, List.getElem_cons_zero, List.getElem_cons_succ, List.setIfInBounds_toArray, List.set_cons_zero, List.set_cons_succ]
            refine wpAnyH_take (i := 4) (oi := _) (v := ?vT111) rfl (by kernel_rfl) (by kernel_rfl) (by kernel_rfl) (fun _ _ _ h => h) (Or.inl ⟨by rfl, ?yT111⟩) hHeld ?_
            case yT111 => (intro w hSw; (try dsimp only at hSw); go_simp <;> with_reducible rfl)
            try simp only [Act.put, List.getElem_toArray, List.getElem_cons_zero, List.getElem_cons_succ, List.setIfInBounds_toArray, List.set_cons_zero, List.set_cons_succ]
            refine wpAnyH_take (i := 5) (oi := _) (v := ?vT112) rfl (by kernel_rfl) (by kernel_rfl) (by kernel_rfl) (fun _ _ _ h => h) (Or.inl ⟨by rfl, ?yT112⟩) hHeld ?_
            case yT112 => (intro w hSw; (try dsimp only at hSw); go_simp <;> with_reducible rfl)
            try simp only [Act.put, List.getElem_toArray, List.getElem_cons_zero, List.getElem_cons_succ, List.setIfInBounds_toArray, List.set_cons_zero, List.set_cons_succ]
            refine wpAnyH_take (i := 6) (oi := _) (v := ?vT113) rfl (by kernel_rfl) (by kernel_rfl) (by kernel_rfl) (fun _ _ _ h => h) (Or.inl ⟨by rfl, ?yT113⟩) hHeld ?_
            case yT113 => (intro w hSw; (try dsimp only at hSw); go_simp <;> with_reducible rfl)
            try simp only [Act.put, List.getElem_toArray, List.getElem_cons_zero, List.getElem_cons_succ, List.setIfInBounds_toArray, List.set_cons_zero, List.set_cons_succ]
            refine wpAnyH_take (i := 7) (oi := _) (v := ?vT114) rfl (by kernel_rfl) (by kernel_rfl) (by kernel_rfl) (fun _ _ _ h => h) (Or.inl ⟨by rfl, ?yT114⟩) hHeld ?_
            case yT114 => (intro w hSw; (try dsimp only at hSw); go_simp <;> with_reducible rfl)
            try simp only [Act.put, List.getElem_toArray, List.getElem_cons_zero, List.getElem_cons_succ, List.setIfInBounds_toArray, List.set_cons_zero, List.set_cons_succ]
            generalize hwn : wv.drew = wd at *
            clear hwn
            refine wpAnyH_ready (rs := [1, 8]) (by kernel_rfl) (by simp) ?_
            refine AllReadyH.cons rfl (fun K hK => ?_) (AllReadyH.cons rfl (fun K hK => ?_) AllReadyH.nil)
            · have z := vblk_cell hO 3
              simp only [List.getElem?_toArray, List.getElem?_cons_succ, List.getElem?_cons_zero] at z
              go_simp
              clear z
              clear hHeld
              refine hK.out _ _ ?G115 (fun hHeld => ?_)
              case G115 => ((try dsimp only); exact KEEP.out _ hC)
              clear hK K
              try simp only [Act.put, List.getElem_toArray, List.getElem_cons_zero, List.getElem_cons_succ, List.setIfInBounds_toArray, List.set_cons_zero, List.set_cons_succ]
              refine wpAnyH_ready (rs := [8]) (by kernel_rfl) (by simp) ?_
              refine AllReadyH.cons rfl (fun K hK => ?_) AllReadyH.nil
              go_simp
              go_wp2_with (go_at_call 47; refine (HT.out _ (HST9.out _ hC).B).mono ?_; rintro e wm ⟨ca, rfl, pt, b1⟩)
              have hws := hC.size
              have hO := (b1.block _ (Array.getElem?_eq_some_iff.1 hO).1).trans hO
              have hc := owns_below hc b1
              have hu2 := owns_below hu2 b1
              have hC := hC.trans (Chg.of b1)
              have plow : Hid (∀ b, (wd.heap.size ≤ b ∧ b < wm.heap.size) ∨ False → b < wm.heap.size) := fun b h => h.elim (fun h => h.2) (fun h => h.elim)
              obtain ⟨nz, qz, cz, hnz, rfl⟩ := pt.sliceN
              clear hnz b1
              clear hHeld
              refine hK.out _ _ ?G116 (fun hHeld => ?_)
              case G116 => ((try dsimp only); exact KEEP.out _ hC)
              clear hK K
              try simp only [Act.put, List.getElem_toArray, List.getElem_cons_zero, List.getElem_cons_succ, List.setIfInBounds_toArray, List.set_cons_zero, List.set_cons_succ]
              refine wpAnyH_ready (rs := [9]) (by kernel_rfl) (by simp) ?_
              refine AllReadyH.cons rfl (fun K hK => ?_) AllReadyH.nil
              go_simp
              have hwm : wm.heap.size ≤ (wm.alloc (.cells ([.int .i64 4, .int .i64 0, .string ⟨#[]⟩, .slice qz nz cz, .slice none 0 0]).toArray 30)).heap.size := by simp
              have ka : Below wm.heap.size wm (wm.alloc (.cells ([.int .i64 4, .int .i64 0, .string ⟨#[]⟩, .slice qz nz cz, .slice none 0 0]).toArray 30)) := (Below.refl _ _).alloc (Nat.le_refl _) _
              have hO := (ka.block _ (Array.getElem?_eq_some_iff.1 hO).1).trans hO
              have hc := owns_below hc ka
              have hu2 := owns_below hu2 ka
              have pt := pt.keep (Kp.of ka plow.out)
              have hC := hC.trans (Chg.of ka)
              have hbd : (wm.alloc (.cells ([.int .i64 4, .int .i64 0, .string ⟨#[]⟩, .slice qz nz cz, .slice none 0 0]).toArray 30)).ownsRow 0 30 5 (.slice (some ⟨wm.heap.size, 0, none⟩) 1 1) 1 [.int .i64 4, .int .i64 0, .string ⟨#[]⟩, .slice qz nz cz, .slice none 0 0] := owns_lo (Nat.zero_le _) (World.ownsRow_lit wm ([.int .i64 4, .int .i64 0, .string ⟨#[]⟩, .slice qz nz cz, .slice none 0 0]).toArray 1 (Nat.le_refl _) (by unfold maxLen; omega) rfl)
              obtain ⟨bd, hbe⟩ : ∃ q, q = wm.heap.size := ⟨_, rfl⟩
              rw [← hbe] at hbd
              try rw [← hbe]
              clear hHeld
              refine hK.out _ (wm.alloc (.cells ([.int .i64 4, .int .i64 0, .string ⟨#[]⟩, .slice qz nz cz, .slice none 0 0]).toArray 30)) ?G117 (fun hHeld => ?_)
              case G117 => ((try dsimp only); exact KEEP.out _ hC)
              clear hK K
              try simp only [Act.put, List.getElem_toArray, List.getElem_cons_zero, List.getElem_cons_succ, List.setIfInBounds_toArray, List.set_cons_zero, List.set_cons_succ]
              generalize hwn : wm.alloc (.cells ([.int .i64 4, .int .i64 0, .string ⟨#[]⟩, .slice qz nz cz, .slice none 0 0]).toArray 30) = wma at *
              clear hwn hbe ka
              refine wpAnyH_ready (rs := [10]) (by kernel_rfl) (by simp) ?_
              refine AllReadyH.cons rfl (fun K hK => ?_) AllReadyH.nil
              rw [if_pos (by rfl)]
              have hsz := hC.size
              refine wp_append_blk _ _ _ 28 rfl 0 30 i0 (.agg #[.int .i64 0, .int .i64 0, .string ⟨#[]⟩, .slice none 0 0, .slice none 0 0]) 5 80 Try.underlying28 hi hz0 hz1 hz2 rfl (by decide) (.slice qc n cc) n _ rfl hc ⟨bd, 0, none⟩ 1 1 [.int .i64 4, .int .i64 0, .string ⟨#[]⟩, .slice qz nz cz, .slice none 0 0] rfl rfl (fun j q hq => lit_src hbd hq (by simp)) (by simp [Value.oneCell']) (by unfold maxLen; omega) (by omega) (Nat.zero_le _) (by omega) ?_
              intro c2 W1 hc2 g1 l1
              obtain ⟨qc2, cc2, ec2⟩ := owns_sl hc2
              subst ec2
              have nC := newAt_of hsz l1
              have hO := (g1.block _ (Array.getElem?_eq_some_iff.1 hO).1 (fun e => neC.out _ e.symm rfl)).trans hO
              have hu2 := hu2.kept g1 (owns_apart hu2 hc (by decide))
              have hC := hC.trans (Chg.grown g1 (fun g h => .inl (.inl h)))
              have hw1 := Nat.le_trans hwm (Chg.grown (S := fun _ => True) g1 (fun _ _ => trivial)).size
              have pt := pt.keep (fun b hb => g1.block b (Nat.lt_of_lt_of_le (plow.out b hb) hwm) (fun e => by have := (HLOW.out b (HOF.out b (.inl e.symm))); rcases hb with hb | hb; omega; exact hb))
              have nCr : ∀ g, (Value.slice qc2 (n + 1) cc2).ownBlock = some g → g < wr.heap.size ∨ wm.heap.size ≤ g := fun g h => by
                rcases l1 with k | k
                · exact .inl (HLOW.out g (HOF.out g (.inl (k.symm.trans h))))
                · rw [h] at k; injection k with k; omega
              clear hHeld
              refine hK.out _ _ ?G118 (fun hHeld => ?_)
              case G118 => ((try dsimp only); exact KEEP.out _ hC)
              clear hK K
              try simp only [Act.put, List.getElem_toArray, List.getElem_cons_zero, List.getElem_cons_succ, List.setIfInBounds_toArray, List.set_cons_zero, List.set_cons_succ]
              refine wpAnyH_take (i := 11) (oi := _) (v := ?vT119) rfl (by kernel_rfl) (by kernel_rfl) (by kernel_rfl) (fun _ _ _ h => h) (Or.inl ⟨by rfl, ?yT119⟩) hHeld ?_
              case yT119 => (intro w hSw; (try dsimp only at hSw); go_simp <;> with_reducible rfl)
              try simp only [Act.put, List.getElem_toArray, List.getElem_cons_zero, List.getElem_cons_succ, List.setIfInBounds_toArray, List.set_cons_zero, List.set_cons_succ]
              have z := vblk_cell hO 3
              have fz := vblk_frozen hO
              simp only [List.getElem?_toArray, List.getElem?_cons_succ, List.getElem?_cons_zero] at z
              refine wpAnyH_ready (rs := [12]) (by kernel_rfl) (by simp) ?_
              refine AllReadyH.cons rfl (fun K hK => ?_) AllReadyH.nil
              go_simp
              clear z fz
              have hO := heap_setCell_same W1 g5 3 _ _ (.slice qc2 (n + 1) cc2) hO
              have hC := chg_setS (j := 3) (v := .slice qc2 (n + 1) cc2) hC (.inr rfl)
              have nCG : ∀ g, (Value.slice qc2 (n + 1) cc2).ownBlock = some g → g ≠ g5 := fun g h => by
                rcases nC with k | ⟨g', k, k'⟩
                · exact neC.out g (k.symm.trans h)
                · rw [h] at k; injection k with k; have := hGw.out; omega
              have hc2 := owns_kept (S := fun b => b ≠ g5) (Kp.set (g := g5) (j := 3) (v := .slice qc2 (n + 1) cc2) (by simp)) nCG hc2
              have hu2 := owns_kept (S := fun b => b ≠ g5) (Kp.set (g := g5) (j := 3) (v := .slice qc2 (n + 1) cc2) (by simp)) nUG hu2
              have hw9 : wm.heap.size ≤ (W1.setCell ⟨g5, 3, none⟩ (.slice qc2 (n + 1) cc2)).heap.size := by simpa [World.setCell] using hw1
              have pt := pt.keep (Kp.set (g := g5) (j := 3) (v := .slice qc2 (n + 1) cc2) (fun hb => by have := hGw.out; rcases hb with hb | hb; omega; exact hb))
              clear hHeld
              refine hK.out _ (W1.setCell ⟨g5, 3, none⟩ (.slice qc2 (n + 1) cc2)) ?G120 (fun hHeld => ?_)
              case G120 => ((try dsimp only); exact KEEP.out _ hC)
              clear hK K
              try simp only [Act.put, List.getElem_toArray, List.getElem_cons_zero, List.getElem_cons_succ, List.setIfInBounds_toArray, List.set_cons_zero, List.set_cons_succ]
              refine wpAnyH_done (by kernel_rfl) ?_ _
              clear hHeld
              generalize hwn : W1.setCell ⟨g5, 3, none⟩ (.slice qc2 (n + 1) cc2) = w9 at *
              clear hwn g1 l1 hbd hc
              have hO : w9.heap[g5]? = some (boxM (.slice qc2 (n + 1) cc2) (.slice qu2 (n + 1) cu2)) := hO
              rw [HXS.out] at hu2
              have hR1 : ∀ b, (wd.heap.size ≤ b ∧ b < wm.heap.size) → b < w9.heap.size ∧ ¬ S2 b ∧ (Value.slice qc2 (n + 1) cc2).ownBlock ≠ some b ∧ (Value.slice qu2 (n + 1) cu2).ownBlock ≠ some b := fun b h => ⟨by omega, fun k => by have := HLOW.out b k; omega, fun k => by have := nCr b k; omega, fun k => by have := nUl b k; omega⟩
              have mk2 := HADD.out w9 (fun b => wd.heap.size ≤ b ∧ b < wm.heap.size) (fun _ => False) _ _ _ _ x.t (.mk 4 0 ⟨#[]⟩ (x.acts.map textT) []) pt (Nat.zero_le _) saneNil hR1 (fun _ h => h.elim) hc2 hu2 nC nU hC.size (fun b h1 h2 => hC.block b (HLOW.out b h1) (fun k => k.elim h2 (fun e => HSG.out (e ▸ h1))))
              rw [← HTK.out.1, ← HTK.out.2] at mk2
              have s9 := HST9.out _ hC
              have mN9 := HMN.out _ hC
              have HF := hidden (And.intro s9 (And.intro mN9.1 (And.intro hO (And.intro mk2 (And.intro (lowS1 (m := w9.heap.size) (a := wd.heap.size) (b := wm.heap.size) HS1.out HHW.out (Nat.le_trans HHW.out hws)) mN9.2)))))
              clear s9 mN9 hO mk2 hC hc2 hu2 nC nU nCG nUG hR1 pt
              go_wp2_with fail
              go_roundw
              case rel => exact ⟨k2 + 1, _, _, _, HLT.out, by go_num, HF.out.1, HF.out.2.1, HF.out.2.2.1, HF.out.2.2.2.1, HF.out.2.2.2.2.1, HF.out.2.2.2.2.2⟩
              case measure => (have hlt9 := HLT.out; simp [intOf]; omega)
            · go_simp
              go_wp2_with (go_at_call 47; refine (HT.out _ (HST9.out _ hC).B).mono ?_; rintro e wm ⟨ca, rfl, pt, b1⟩)
              have hws := hC.size
              have hO := (b1.block _ (Array.getElem?_eq_some_iff.1 hO).1).trans hO
              have hc := owns_below hc b1
              have hu2 := owns_below hu2 b1
              have hC := hC.trans (Chg.of b1)
              have plow : Hid (∀ b, (wd.heap.size ≤ b ∧ b < wm.heap.size) ∨ False → b < wm.heap.size) := fun b h => h.elim (fun h => h.2) (fun h => h.elim)
              obtain ⟨nz, qz, cz, hnz, rfl⟩ := pt.sliceN
              clear hnz b1
              clear hHeld
              refine hK.out _ _ ?G121 (fun hHeld => ?_)
              case G121 => ((try dsimp only); exact KEEP.out _ hC)
              clear hK K
              try simp only [Act.put, List.getElem_toArray, List.getElem_cons_zero, List.getElem_cons_succ, List.setIfInBounds_toArray, List.set_cons_zero, List.set_cons_succ]
              refine wpAnyH_ready (rs := [1, 9]) (by kernel_rfl) (by simp) ?_
              refine AllReadyH.cons rfl (fun K hK => ?_) (AllReadyH.cons rfl (fun K hK => ?_) AllReadyH.nil)
              · have z := vblk_cell hO 3
                simp only [List.getElem?_toArray, List.getElem?_cons_succ, List.getElem?_cons_zero] at z
                go_simp
                clear z
                clear hHeld
                refine hK.out _ _ ?G122 (fun hHeld => ?_)
                case G122 => ((try dsimp only); exact KEEP.out _ hC)
                clear hK K
                try simp only [Act.put, List.getElem_toArray, List.getElem_cons_zero, List.getElem_cons_succ, List.setIfInBounds_toArray, List.set_cons_zero, List.set_cons_succ]
                refine wpAnyH_ready (rs := [9]) (by kernel_rfl) (by simp) ?_
                refine AllReadyH.cons rfl (fun K hK => ?_) AllReadyH.nil
                go_simp
                have hwm : wm.heap.size ≤ (wm.alloc (.cells ([.int .i64 4, .int .i64 0, .string ⟨#[]⟩, .slice qz nz cz, .slice none 0 0]).toArray 30)).heap.size := by simp
                have ka : Below wm.heap.size wm (wm.alloc (.cells ([.int .i64 4, .int .i64 0, .string ⟨#[]⟩, .slice qz nz cz, .slice none 0 0]).toArray 30)) := (Below.refl _ _).alloc (Nat.le_refl _) _
                have hO := (ka.block _ (Array.getElem?_eq_some_iff.1 hO).1).trans hO
                have hc := owns_below hc ka
                have hu2 := owns_below hu2 ka
                have pt := pt.keep (Kp.of ka plow.out)
                have hC := hC.trans (Chg.of ka)
                have hbd : (wm.alloc (.cells ([.int .i64 4, .int .i64 0, .string ⟨#[]⟩, .slice qz nz cz, .slice none 0 0]).toArray 30)).ownsRow 0 30 5 (.slice (some ⟨wm.heap.size, 0, none⟩) 1 1) 1 [.int .i64 4, .int .i64 0, .string ⟨#[]⟩, .slice qz nz cz, .slice none 0 0] := owns_lo (Nat.zero_le _) (World.ownsRow_lit wm ([.int .i64 4, .int .i64 0, .string ⟨#[]⟩, .slice qz nz cz, .slice none 0 0]).toArray 1 (Nat.le_refl _) (by unfold maxLen; omega) rfl)
                obtain ⟨bd, hbe⟩ : ∃ q, q = wm.heap.size := ⟨_, rfl⟩
                rw [← hbe] at hbd
                try rw [← hbe]
                clear hHeld
                refine hK.out _ (wm.alloc (.cells ([.int .i64 4, .int .i64 0, .string ⟨#[]⟩, .slice qz nz cz, .slice none 0 0]).toArray 30)) ?G123 (fun hHeld => ?_)
                case G123 => ((try dsimp only); exact KEEP.out _ hC)
                clear hK K
                try simp only [Act.put, List.getElem_toArray, List.getElem_cons_zero, List.getElem_cons_succ, List.setIfInBounds_toArray, List.set_cons_zero, List.set_cons_succ]
                generalize hwn : wm.alloc (.cells ([.int .i64 4, .int .i64 0, .string ⟨#[]⟩, .slice qz nz cz, .slice none 0 0]).toArray 30) = wma at *
                clear hwn hbe ka
                refine wpAnyH_ready (rs := [10]) (by kernel_rfl) (by simp) ?_
                refine AllReadyH.cons rfl (fun K hK => ?_) AllReadyH.nil
                rw [if_pos (by rfl)]
                have hsz := hC.size
                refine wp_append_blk _ _ _ 28 rfl 0 30 i0 (.agg #[.int .i64 0, .int .i64 0, .string ⟨#[]⟩, .slice none 0 0, .slice none 0 0]) 5 80 Try.underlying28 hi hz0 hz1 hz2 rfl (by decide) (.slice qc n cc) n _ rfl hc ⟨bd, 0, none⟩ 1 1 [.int .i64 4, .int .i64 0, .string ⟨#[]⟩, .slice qz nz cz, .slice none 0 0] rfl rfl (fun j q hq => lit_src hbd hq (by simp)) (by simp [Value.oneCell']) (by unfold maxLen; omega) (by omega) (Nat.zero_le _) (by omega) ?_
                intro c2 W1 hc2 g1 l1
                obtain ⟨qc2, cc2, ec2⟩ := owns_sl hc2
                subst ec2
                have nC := newAt_of hsz l1
                have hO := (g1.block _ (Array.getElem?_eq_some_iff.1 hO).1 (fun e => neC.out _ e.symm rfl)).trans hO
                have hu2 := hu2.kept g1 (owns_apart hu2 hc (by decide))
                have hC := hC.trans (Chg.grown g1 (fun g h => .inl (.inl h)))
                have hw1 := Nat.le_trans hwm (Chg.grown (S := fun _ => True) g1 (fun _ _ => trivial)).size
                have pt := pt.keep (fun b hb => g1.block b (Nat.lt_of_lt_of_le (plow.out b hb) hwm) (fun e => by have := (HLOW.out b (HOF.out b (.inl e.symm))); rcases hb with hb | hb; omega; exact hb))
                have nCr : ∀ g, (Value.slice qc2 (n + 1) cc2).ownBlock = some g → g < wr.heap.size ∨ wm.heap.size ≤ g := fun g h => by
                  rcases l1 with k | k
                  · exact .inl (HLOW.out g (HOF.out g (.inl (k.symm.trans h))))
                  · rw [h] at k; injection k with k; omega
                clear hHeld
                refine hK.out _ _ ?G124 (fun hHeld => ?_)
                case G124 => ((try dsimp only); exact KEEP.out _ hC)
                clear hK K
                try simp only [Act.put, List.getElem_toArray, List.getElem_cons_zero, List.getElem_cons_succ, List.setIfInBounds_toArray, List.set_cons_zero, List.set_cons_succ]
                refine wpAnyH_take (i := 11) (oi := _) (v := ?vT125) rfl (by kernel_rfl) (by kernel_rfl) (by kernel_rfl) (fun _ _ _ h => h) (Or.inl ⟨by rfl, ?yT125⟩) hHeld ?_
                case yT125 => (intro w hSw; (try dsimp only at hSw); go_simp <;> with_reducible rfl)
                try simp only [Act.put, List.getElem_toArray, List.getElem_cons_zero, List.getElem_cons_succ, List.setIfInBounds_toArray, List.set_cons_zero, List.set_cons_succ]
                have z := vblk_cell hO 3
                have fz := vblk_frozen hO
                simp only [List.getElem?_toArray, List.getElem?_cons_succ, List.getElem?_cons_zero] at z
                refine wpAnyH_ready (rs := [12]) (by kernel_rfl) (by simp) ?_
                refine AllReadyH.cons rfl (fun K hK => ?_) AllReadyH.nil
                go_simp
                clear z fz
                have hO := heap_setCell_same W1 g5 3 _ _ (.slice qc2 (n + 1) cc2) hO
                have hC := chg_setS (j := 3) (v := .slice qc2 (n + 1) cc2) hC (.inr rfl)
                have nCG : ∀ g, (Value.slice qc2 (n + 1) cc2).ownBlock = some g → g ≠ g5 := fun g h => by
                  rcases nC with k | ⟨g', k, k'⟩
                  · exact neC.out g (k.symm.trans h)
                  · rw [h] at k; injection k with k; have := hGw.out; omega
                have hc2 := owns_kept (S := fun b => b ≠ g5) (Kp.set (g := g5) (j := 3) (v := .slice qc2 (n + 1) cc2) (by simp)) nCG hc2
                have hu2 := owns_kept (S := fun b => b ≠ g5) (Kp.set (g := g5) (j := 3) (v := .slice qc2 (n + 1) cc2) (by simp)) nUG hu2
                have hw9 : wm.heap.size ≤ (W1.setCell ⟨g5, 3, none⟩ (.slice qc2 (n + 1) cc2)).heap.size := by simpa [World.setCell] using hw1
                have pt := pt.keep (Kp.set (g := g5) (j := 3) (v := .slice qc2 (n + 1) cc2) (fun hb => by have := hGw.out; rcases hb with hb | hb; omega; exact hb))
                clear hHeld
                refine hK.out _ (W1.setCell ⟨g5, 3, none⟩ (.slice qc2 (n + 1) cc2)) ?G126 (fun hHeld => ?_)
                case G126 => ((try dsimp only); exact KEEP.out _ hC)
                clear hK K
                try simp only [Act.put, List.getElem_toArray, List.getElem_cons_zero, List.getElem_cons_succ, List.setIfInBounds_toArray, List.set_cons_zero, List.set_cons_succ]
                refine wpAnyH_done (by kernel_rfl) ?_ _
                clear hHeld
                generalize hwn : W1.setCell ⟨g5, 3, none⟩ (.slice qc2 (n + 1) cc2) = w9 at *
                clear hwn g1 l1 hbd hc
                have hO : w9.heap[g5]? = some (boxM (.slice qc2 (n + 1) cc2) (.slice qu2 (n + 1) cu2)) := hO
                rw [HXS.out] at hu2
                have hR1 : ∀ b, (wd.heap.size ≤ b ∧ b < wm.heap.size) → b < w9.heap.size ∧ ¬ S2 b ∧ (Value.slice qc2 (n + 1) cc2).ownBlock ≠ some b ∧ (Value.slice qu2 (n + 1) cu2).ownBlock ≠ some b := fun b h => ⟨by omega, fun k => by have := HLOW.out b k; omega, fun k => by have := nCr b k; omega, fun k => by have := nUl b k; omega⟩
                have mk2 := HADD.out w9 (fun b => wd.heap.size ≤ b ∧ b < wm.heap.size) (fun _ => False) _ _ _ _ x.t (.mk 4 0 ⟨#[]⟩ (x.acts.map textT) []) pt (Nat.zero_le _) saneNil hR1 (fun _ h => h.elim) hc2 hu2 nC nU hC.size (fun b h1 h2 => hC.block b (HLOW.out b h1) (fun k => k.elim h2 (fun e => HSG.out (e ▸ h1))))
                rw [← HTK.out.1, ← HTK.out.2] at mk2
                have s9 := HST9.out _ hC
                have mN9 := HMN.out _ hC
                have HF := hidden (And.intro s9 (And.intro mN9.1 (And.intro hO (And.intro mk2 (And.intro (lowS1 (m := w9.heap.size) (a := wd.heap.size) (b := wm.heap.size) HS1.out HHW.out (Nat.le_trans HHW.out hws)) mN9.2)))))
                clear s9 mN9 hO mk2 hC hc2 hu2 nC nU nCG nUG hR1 pt
                go_wp2_with fail
                go_roundw
                case rel => exact ⟨k2 + 1, _, _, _, HLT.out, by go_num, HF.out.1, HF.out.2.1, HF.out.2.2.1, HF.out.2.2.2.1, HF.out.2.2.2.2.1, HF.out.2.2.2.2.2⟩
                case measure => (have hlt9 := HLT.out; simp [intOf]; omega)
              · go_simp
                have hwm : wm.heap.size ≤ (wm.alloc (.cells ([.int .i64 4, .int .i64 0, .string ⟨#[]⟩, .slice qz nz cz, .slice none 0 0]).toArray 30)).heap.size := by simp
                have ka : Below wm.heap.size wm (wm.alloc (.cells ([.int .i64 4, .int .i64 0, .string ⟨#[]⟩, .slice qz nz cz, .slice none 0 0]).toArray 30)) := (Below.refl _ _).alloc (Nat.le_refl _) _
                have hO := (ka.block _ (Array.getElem?_eq_some_iff.1 hO).1).trans hO
                have hc := owns_below hc ka
                have hu2 := owns_below hu2 ka
                have pt := pt.keep (Kp.of ka plow.out)
                have hC := hC.trans (Chg.of ka)
                have hbd : (wm.alloc (.cells ([.int .i64 4, .int .i64 0, .string ⟨#[]⟩, .slice qz nz cz, .slice none 0 0]).toArray 30)).ownsRow 0 30 5 (.slice (some ⟨wm.heap.size, 0, none⟩) 1 1) 1 [.int .i64 4, .int .i64 0, .string ⟨#[]⟩, .slice qz nz cz, .slice none 0 0] := owns_lo (Nat.zero_le _) (World.ownsRow_lit wm ([.int .i64 4, .int .i64 0, .string ⟨#[]⟩, .slice qz nz cz, .slice none 0 0]).toArray 1 (Nat.le_refl _) (by unfold maxLen; omega) rfl)
                obtain ⟨bd, hbe⟩ : ∃ q, q = wm.heap.size := ⟨_, rfl⟩
                rw [← hbe] at hbd
                try rw [← hbe]
                clear hHeld
                refine hK.out _ (wm.alloc (.cells ([.int .i64 4, .int .i64 0, .string ⟨#[]⟩, .slice qz nz cz, .slice none 0 0]).toArray 30)) ?G127 (fun hHeld => ?_)
                case G127 => ((try dsimp only); exact KEEP.out _ hC)
                clear hK K
                try simp only [Act.put, List.getElem_toArray, List.getElem_cons_zero, List.getElem_cons_succ, List.setIfInBounds_toArray, List.set_cons_zero, List.set_cons_succ]
                generalize hwn : wm.alloc (.cells ([.int .i64 4, .int .i64 0, .string ⟨#[]⟩, .slice qz nz cz, .slice none 0 0]).toArray 30) = wma at *
                clear hwn hbe ka
                refine wpAnyH_ready (rs := [1]) (by kernel_rfl) (by simp) ?_
                refine AllReadyH.cons rfl (fun K hK => ?_) AllReadyH.nil
                have z := vblk_cell hO 3
                simp only [List.getElem?_toArray, List.getElem?_cons_succ, List.getElem?_cons_zero] at z
                go_simp
                clear z
                clear hHeld
                refine hK.out _ _ ?G128 (fun hHeld => ?_)
                case G128 => ((try dsimp only); exact KEEP.out _ hC)
                clear hK K
                try simp only [Act.put, List.getElem_toArray, List.getElem_cons_zero, List.getElem_cons_succ, List.setIfInBounds_toArray, List.set_cons_zero, List.set_cons_succ]
                refine wpAnyH_ready (rs := [10]) (by kernel_rfl) (by simp) ?_
                refine AllReadyH.cons rfl (fun K hK => ?_) AllReadyH.nil
                rw [if_pos (by rfl)]
                have hsz := hC.size
                refine wp_append_blk _ _ _ 28 rfl 0 30 i0 (.agg #[.int .i64 0, .int .i64 0, .string ⟨#[]⟩, .slice none 0 0, .slice none 0 0]) 5 80 Try.underlying28 hi hz0 hz1 hz2 rfl (by decide) (.slice qc n cc) n _ rfl hc ⟨bd, 0, none⟩ 1 1 [.int .i64 4, .int .i64 0, .string ⟨#[]⟩, .slice qz nz cz, .slice none 0 0] rfl rfl (fun j q hq => lit_src hbd hq (by simp)) (by simp [Value.oneCell']) (by unfold maxLen; omega) (by omega) (Nat.zero_le _) (by omega) ?_
                intro c2 W1 hc2 g1 l1
                obtain ⟨qc2, cc2, ec2⟩ := owns_sl hc2
                subst ec2
                have nC := newAt_of hsz l1
                have hO := (g1.block _ (Array.getElem?_eq_some_iff.1 hO).1 (fun e => neC.out _ e.symm rfl)).trans hO
                have hu2 := hu2.kept g1 (owns_apart hu2 hc (by decide))
                have hC := hC.trans (Chg.grown g1 (fun g h => .inl (.inl h)))
                have hw1 := Nat.le_trans hwm (Chg.grown (S := fun _ => True) g1 (fun _ _ => trivial)).size
                have pt := pt.keep (fun b hb => g1.block b (Nat.lt_of_lt_of_le (plow.out b hb) hwm) (fun e => by have := (HLOW.out b (HOF.out b (.inl e.symm))); rcases hb with hb | hb; omega; exact hb))
                have nCr : ∀ g, (Value.slice qc2 (n + 1) cc2).ownBlock = some g → g < wr.heap.size ∨ wm.heap.size ≤ g := fun g h => by
                  rcases l1 with k | k
                  · exact .inl (HLOW.out g (HOF.out g (.inl (k.symm.trans h))))
                  · rw [h] at k; injection k with k; omega
                clear hHeld
                refine hK.out _ _ ?G129 (fun hHeld => ?_)
                case G129 => ((try dsimp only); exact KEEP.out _ hC)
                clear hK K
                try simp only [Act.put, List.getElem_toArray, List.getElem_cons_zero, List.getElem_cons_succ, List.setIfInBounds_toArray, List.set_cons_zero, List.set_cons_succ]
                refine wpAnyH_take (i := 11) (oi := _) (v := ?vT130) rfl (by kernel_rfl) (by kernel_rfl) (by kernel_rfl) (fun _ _ _ h => h) (Or.inl ⟨by rfl, ?yT130⟩) hHeld ?_
                case yT130 => (intro w hSw; (try dsimp only at hSw); go_simp <;> with_reducible rfl)
                try simp only [Act.put, List.getElem_toArray, List.getElem_cons_zero, List.getElem_cons_succ, List.setIfInBounds_toArray, List.set_cons_zero, List.set_cons_succ]
                have z := vblk_cell hO 3
                have fz := vblk_frozen hO
                simp only [List.getElem?_toArray, List.getElem?_cons_succ, List.getElem?_cons_zero] at z
                refine wpAnyH_ready (rs := [12]) (by kernel_rfl) (by simp) ?_
                refine AllReadyH.cons rfl (fun K hK => ?_) AllReadyH.nil
                go_simp
                clear z fz
                have hO := heap_setCell_same W1 g5 3 _ _ (.slice qc2 (n + 1) cc2) hO
                have hC := chg_setS (j := 3) (v := .slice qc2 (n + 1) cc2) hC (.inr rfl)
                have nCG : ∀ g, (Value.slice qc2 (n + 1) cc2).ownBlock = some g → g ≠ g5 := fun g h => by
                  rcases nC with k | ⟨g', k, k'⟩
                  · exact neC.out g (k.symm.trans h)
                  · rw [h] at k; injection k with k; have := hGw.out; omega
                have hc2 := owns_kept (S := fun b => b ≠ g5) (Kp.set (g := g5) (j := 3) (v := .slice qc2 (n + 1) cc2) (by simp)) nCG hc2
                have hu2 := owns_kept (S := fun b => b ≠ g5) (Kp.set (g := g5) (j := 3) (v := .slice qc2 (n + 1) cc2) (by simp)) nUG hu2
                have hw9 : wm.heap.size ≤ (W1.setCell ⟨g5, 3, none⟩ (.slice qc2 (n + 1) cc2)).heap.size := by simpa [World.setCell] using hw1
                have pt := pt.keep (Kp.set (g := g5) (j := 3) (v := .slice qc2 (n + 1) cc2) (fun hb => by have := hGw.out; rcases hb with hb | hb; omega; exact hb))
                clear hHeld
                refine hK.out _ (W1.setCell ⟨g5, 3, none⟩ (.slice qc2 (n + 1) cc2)) ?G131 (fun hHeld => ?_)
                case G131 => ((try dsimp only); exact KEEP.out _ hC)
                clear hK K
                try simp only [Act.put, List.getElem_toArray, List.getElem_cons_zero, List.getElem_cons_succ, List.setIfInBounds_toArray, List.set_cons_zero, List.set_cons_succ]
                refine wpAnyH_done (by kernel_rfl) ?_ _
                clear hHeld
                generalize hwn : W1.setCell ⟨g5, 3, none⟩ (.slice qc2 (n + 1) cc2) = w9 at *
                clear hwn g1 l1 hbd hc
                have hO : w9.heap[g5]? = some (boxM (.slice qc2 (n + 1) cc2) (.slice qu2 (n + 1) cu2)) := hO
                rw [HXS.out] at hu2
                have hR1 : ∀ b, (wd.heap.size ≤ b ∧ b < wm.heap.size) → b < w9.heap.size ∧ ¬ S2 b ∧ (Value.slice qc2 (n + 1) cc2).ownBlock ≠ some b ∧ (Value.slice qu2 (n + 1) cu2).ownBlock ≠ some b := fun b h => ⟨by omega, fun k => by have := HLOW.out b k; omega, fun k => by have := nCr b k; omega, fun k => by have := nUl b k; omega⟩
                have mk2 := HADD.out w9 (fun b => wd.heap.size ≤ b ∧ b < wm.heap.size) (fun _ => False) _ _ _ _ x.t (.mk 4 0 ⟨#[]⟩ (x.acts.map textT) []) pt (Nat.zero_le _) saneNil hR1 (fun _ h => h.elim) hc2 hu2 nC nU hC.size (fun b h1 h2 => hC.block b (HLOW.out b h1) (fun k => k.elim h2 (fun e => HSG.out (e ▸ h1))))
                rw [← HTK.out.1, ← HTK.out.2] at mk2
                have s9 := HST9.out _ hC
                have mN9 := HMN.out _ hC
                have HF := hidden (And.intro s9 (And.intro mN9.1 (And.intro hO (And.intro mk2 (And.intro (lowS1 (m := w9.heap.size) (a := wd.heap.size) (b := wm.heap.size) HS1.out HHW.out (Nat.le_trans HHW.out hws)) mN9.2)))))
                clear s9 mN9 hO mk2 hC hc2 hu2 nC nU nCG nUG hR1 pt
                go_wp2_with fail
                go_roundw
                case rel => exact ⟨k2 + 1, _, _, _, HLT.out, by go_num, HF.out.1, HF.out.2.1, HF.out.2.2.1, HF.out.2.2.2.1, HF.out.2.2.2.2.1, HF.out.2.2.2.2.2⟩
                case measure => (have hlt9 := HLT.out; simp [intOf]; omega)
          · go_simp
            have ka : Below wd.heap.size wd (wd.alloc (.cells #[.string x.t] 9)) := (Below.refl _ _).alloc (Nat.le_refl _) _
            have hO := (ka.block _ (Array.getElem?_eq_some_iff.1 hO).1).trans hO
            have hc := owns_below hc ka
            have hu := owns_below hu ka
            have hC := hC.trans (Chg.of ka)
            have hbb : (wd.alloc (.cells #[.string x.t] 9)).ownsRow 0 9 1 (.slice (some ⟨wd.heap.size, 0, none⟩) 1 1) 1 [.string x.t] := owns_lo (Nat.zero_le _) (World.ownsRow_lit wd ([.string x.t]).toArray 1 (Nat.le_refl _) (by unfold maxLen; omega) rfl)
            obtain ⟨bb, hbe⟩ : ∃ q, q = wd.heap.size := ⟨_, rfl⟩
            rw [← hbe] at hbb
            try rw [← hbe]
            clear hHeld
            refine hK.out _ (wd.alloc (.cells #[.string x.t] 9)) ?G132 (fun hHeld => ?_)
            case G132 => ((try dsimp only); exact KEEP.out _ hC)
            clear hK K
            try simp only [Act.put, List.getElem_toArray, List.getElem_cons_zero, List.getElem_cons_succ, List.setIfInBounds_toArray, List.set_cons_zero, List.set_cons_succ]
            generalize hwn : wd.alloc (.cells #[.string x.t] 9) = wda at *
            clear hwn hbe ka
            refine wpAnyH_ready (rs := [1]) (by kernel_rfl) (by simp) ?_
            refine AllReadyH.cons rfl (fun K hK => ?_) AllReadyH.nil
            have z := vblk_cell hO 4
            simp only [List.getElem?_toArray, List.getElem?_cons_succ, List.getElem?_cons_zero] at z
            go_simp
            clear z
            clear hHeld
            refine hK.out _ _ ?G133 (fun hHeld => ?_)
            case G133 => ((try dsimp only); exact KEEP.out _ hC)
            clear hK K
            try simp only [Act.put, List.getElem_toArray, List.getElem_cons_zero, List.getElem_cons_succ, List.setIfInBounds_toArray, List.set_cons_zero, List.set_cons_succ]
            refine wpAnyH_ready (rs := [9]) (by kernel_rfl) (by simp) ?_
            refine AllReadyH.cons rfl (fun K hK => ?_) AllReadyH.nil
            rw [if_pos (by rfl)]
            have hsz := hC.size
            refine wp_append_blk _ _ _ 23 rfl 0 9 j0 (.string ⟨#[]⟩) 1 16 Try.underlying23 hj hy0 hy1 hy2 rfl (by decide) (.slice qu n cu) n _ rfl hu ⟨bb, 0, none⟩ 1 1 [.string x.t] rfl rfl (fun j q hq => lit_src hbb hq (by simp)) (by simp [Value.oneCell']) (by unfold maxLen; omega) (by omega) (Nat.zero_le _) (by omega) ?_
            intro u2 W1 hu2 g1 l1
            obtain ⟨qu2, cu2, eu2⟩ := owns_sl hu2
            subst eu2
            have nU := newAt_of hsz l1
            have hO := (g1.block _ (Array.getElem?_eq_some_iff.1 hO).1 (fun e => neU.out _ e.symm rfl)).trans hO
            have hc := hc.kept g1 (owns_apart hc hu (by decide))
            have hC := hC.trans (Chg.grown g1 (fun g h => .inl (.inr h)))
            clear hHeld
            refine hK.out _ _ ?G134 (fun hHeld => ?_)
            case G134 => ((try dsimp only); exact KEEP.out _ hC)
            clear hK K
            try simp only [Act.put, List.getElem_toArray, List.getElem_cons_zero, List.getElem_cons_succ, List.setIfInBounds_toArray, List.set_cons_zero, List.set_cons_succ]
            refine wpAnyH_take (i := 10) (oi := _) (v := ?vT135) rfl (by kernel_rfl) (by kernel_rfl) (by kernel_rfl) (fun _ _ _ h => h) (Or.inl ⟨by rfl, ?yT135⟩) hHeld ?_
            case yT135 => (intro w hSw; (try dsimp only at hSw); go_simp <;> with_reducible rfl)
            try simp only [Act.put, List.getElem_toArray, List.getElem_cons_zero, List.getElem_cons_succ, List.setIfInBounds_toArray, List.set_cons_zero, List.set_cons_succ]
            have z := vblk_cell hO 4
            have fz := vblk_frozen hO
            simp only [List.getElem?_toArray, List.getElem?_cons_succ, List.getElem?_cons_zero] at z
            refine wpAnyH_ready (rs := [11]) (by kernel_rfl) (by simp) ?_
            refine AllReadyH.cons rfl (fun K hK => ?_) AllReadyH.nil
            go_simp
            clear z fz
            have hO := heap_setCell_same W1 g5 4 _ _ (.slice qu2 (n + 1) cu2) hO
            have hC := chg_setS (j := 4) (v := .slice qu2 (n + 1) cu2) hC (.inr rfl)
            have nUG : ∀ g, (Value.slice qu2 (n + 1) cu2).ownBlock = some g → g ≠ g5 := fun g h => by
              rcases nU with k | ⟨g', k, k'⟩
              · exact neU.out g (k.symm.trans h)
              · rw [h] at k; injection k with k; have := hGw.out; omega
            have hc := owns_kept (S := fun b => b ≠ g5) (Kp.set (g := g5) (j := 4) (v := .slice qu2 (n + 1) cu2) (by simp)) (fun g h => neC.out g h) hc
            have hu2 := owns_kept (S := fun b => b ≠ g5) (Kp.set (g := g5) (j := 4) (v := .slice qu2 (n + 1) cu2) (by simp)) nUG hu2
            clear hHeld
            refine hK.out _ (W1.setCell ⟨g5, 4, none⟩ (.slice qu2 (n + 1) cu2)) ?G136 (fun hHeld => ?_)
            case G136 => ((try dsimp only); exact KEEP.out _ hC)
            clear hK K
            try simp only [Act.put, List.getElem_toArray, List.getElem_cons_zero, List.getElem_cons_succ, List.setIfInBounds_toArray, List.set_cons_zero, List.set_cons_succ]
            refine wpAnyH_done (by kernel_rfl) ?_ _
            clear hHeld
            generalize hwn : W1.setCell ⟨g5, 4, none⟩ (.slice qu2 (n + 1) cu2) = wv at *
            clear hwn g1 l1 hbb hu
            have hO : wv.heap[g5]? = some (boxM (.slice qc n cc) (.slice qu2 (n + 1) cu2)) := hO
            have HX := hidden (And.intro hO (And.intro hc (And.intro hu2 (And.intro hC (And.intro nU nUG)))))
            clear hO hc hu2 hC nU nUG
            go_wp2_with fail
            obtain ⟨hO, hc, hu2, hC, nU, nUG⟩ := HX.out
            have nUl : ∀ g, (Value.slice qu2 (n + 1) cu2).ownBlock = some g → g < wv.drew.heap.size := fun g h => (owns_in hu2 g h).2
            clear HX
            have hC := hC.trans (Chg.of ((Below.refl _ wv).drew))
            have hO : wv.drew.heap[g5]? = _ := hO
            have hc := owns_below hc (Below.refl _ wv).drew
            have hu2 := owns_below hu2 (Below.refl _ wv).drew
            refine wp_region_held_drew (S := (fun w1 => w1.cell? ⟨w.heap.size, 3, none⟩ = some (.slice (some ⟨b, off, none⟩) cmds.length cap2) ∧ w1.cell? ⟨b, off + k2 * 2, none⟩ = some (.string x.t) ∧ w1.cell? ⟨b, off + k2 * 2 + 1, none⟩ = some (.slice qa x.acts.length capa))) (by kernel_rfl) ?S1137 (fun hHeld => ?_)
            case S1137 => (exact KEEP.out _ hC)
            refine wpAnyH_take (i := 0) (oi := _) (v := ?vT138) rfl (by kernel_rfl) (by kernel_rfl) (by kernel_rfl) (fun _ _ _ h => h) (Or.inl ⟨by rfl, ?yT138⟩) hHeld ?_
            case yT138 => (intro w hSw; (try dsimp only at hSw); go_simp <;> with_reducible rfl)
            try simp only [Act.put, List.getElem_toArray, List.getElem_cons_zero, List.getElem_cons_succ, List.setIfInBounds_toArray, List.set_cons_zero, List.set_cons_succ]
            refine wpAnyH_take (i := 2) (oi := _) (v := ?vT139) rfl (by kernel_rfl) (by kernel_rfl) (by kernel_rfl) (fun _ _ _ h => h) (Or.inl ⟨by rfl, ?yT139⟩) hHeld ?_
            case yT139 => (intro w hSw; (try dsimp only at hSw); go_simp <;> with_reducible rfl)
            try simp only [Act.put, List.getElem_toArray, List.getElem_cons_zero, List.getElem_cons_succ, List.setIfInBounds_toArray, List.set_cons_zero, List.set_cons_succ]
            refine wpAnyH_take (i := 3) (oi := _) (v := ?vT140) rfl (by kernel_rfl) (by kernel_rfl) (by kernel_rfl) (fun _ _ _ h => h) (Or.inl ⟨by rfl, ?yT140⟩) hHeld ?_
            case yT140 => (intro w hSw; (try dsimp only at hSw); go_simp <;> with_reducible rfl)
            try simp only [Act.put, List.getElem_toArray, List.getElem_cons_zero, List.getElem_cons_succ, List.setIfInBounds_toArray, List.set_cons_zero, List.set_cons_succ]
            refine wpAnyH_take (i := 4) (oi := _) (v := ?vT141) rfl (by kernel_rfl) (by kernel_rfl) (by kernel_rfl) (fun _ _ _ h => h) (Or.inl ⟨by rfl, ?yT141⟩) hHeld ?_
            case yT141 => (intro w hSw; (try dsimp only at hSw); go_simp <;> with_reducible rfl)
            try simp only [Act.put, List.getElem_toArray, List.getElem_cons_zero, List.getElem_cons_succ, List.setIfInBounds_toArray, List.set_cons_zero, List.set_cons_succ]
            refine wpAnyH_take (i := 5) (oi := _) (v := ?vT142) rfl (by kernel_rfl) (by kernel_rfl) (by kernel_rfl) (fun _ _ _ h => h) (Or.inl ⟨by rfl, ?yT142⟩) hHeld ?_
            case yT142 => (intro w hSw; (try dsimp only at hSw); go_simp <;> with_reducible rfl)
            try simp only [Act.put, List.getElem_toArray, List.getElem_cons_zero, List.getElem_cons_succ, List.setIfInBounds_toArray, List.set_cons_zero, List.set_cons_succ]
            refine wpAnyH_take (i := 6) (oi := _) (v := ?vT143) rfl (by kernel_rfl) (by kernel_rfl) (by kernel_rfl) (fun _ _ _ h => h) (Or.inl ⟨by rfl, ?yT143⟩) hHeld ?_
            case yT143 => (intro w hSw; (try dsimp only at hSw); go_simp <;> with_reducible rfl)
            try simp only [Act.put, List.getElem_toArray, List.getElem_cons_zero, List.getElem_cons_succ, List.setIfInBounds_toArray, List.set_cons_zero, List.set_cons_succ]
            refine wpAnyH_take (i := 7) (oi := _) (v := ?vT144) rfl (by kernel_rfl) (by kernel_rfl) (by kernel_rfl) (fun _ _ _ h => h) (Or.inl ⟨by rfl, ?yT144⟩) hHeld ?_
            case yT144 => (intro w hSw; (try dsimp only at hSw); go_simp <;> with_reducible rfl)
            try simp only [Act.put, List.getElem_toArray, List.getElem_cons_zero, List.getElem_cons_succ, List.setIfInBounds_toArray, List.set_cons_zero, List.set_cons_succ]
            generalize hwn : wv.drew = wd at *
            clear hwn
            refine wpAnyH_ready (rs := [1, 8]) (by kernel_rfl) (by simp) ?_
            refine AllReadyH.cons rfl (fun K hK => ?_) (AllReadyH.cons rfl (fun K hK => ?_) AllReadyH.nil)
            · have z := vblk_cell hO 3
              simp only [List.getElem?_toArray, List.getElem?_cons_succ, List.getElem?_cons_zero] at z
              go_simp
              clear z
              clear hHeld
              refine hK.out _ _ ?G145 (fun hHeld => ?_)
              case G145 => ((try dsimp only); exact KEEP.out _ hC)
              clear hK K
              try simp only [Act.put, List.getElem_toArray, List.getElem_cons_zero, List.getElem_cons_succ, List.setIfInBounds_toArray, List.set_cons_zero, List.set_cons_succ]
              refine wpAnyH_ready (rs := [8]) (by kernel_rfl) (by simp) ?_
              refine AllReadyH.cons rfl (fun K hK => ?_) AllReadyH.nil
              go_simp
              go_wp2_with (go_at_call 47; refine (HT.out _ (HST9.out _ hC).B).mono ?_; rintro e wm ⟨ca, rfl, pt, b1⟩)
              have hws := hC.size
              have hO := (b1.block _ (Array.getElem?_eq_some_iff.1 hO).1).trans hO
              have hc := owns_below hc b1
              have hu2 := owns_below hu2 b1
              have hC := hC.trans (Chg.of b1)
              have plow : Hid (∀ b, (wd.heap.size ≤ b ∧ b < wm.heap.size) ∨ False → b < wm.heap.size) := fun b h => h.elim (fun h => h.2) (fun h => h.elim)
              obtain ⟨nz, qz, cz, hnz, rfl⟩ := pt.sliceN
              clear hnz b1
              clear hHeld
              refine hK.out _ _ ?G146 (fun hHeld => ?_)
              case G146 => ((try dsimp only); exact KEEP.out _ hC)
              clear hK K
              try simp only [Act.put, List.getElem_toArray, List.getElem_cons_zero, List.getElem_cons_succ, List.setIfInBounds_toArray, List.set_cons_zero, List.set_cons_succ]
              refine wpAnyH_ready (rs := [9]) (by kernel_rfl) (by simp) ?_
              refine AllReadyH.cons rfl (fun K hK => ?_) AllReadyH.nil
              go_simp
              have hwm : wm.heap.size ≤ (wm.alloc (.cells ([.int .i64 4, .int .i64 0, .string ⟨#[]⟩, .slice qz nz cz, .slice none 0 0]).toArray 30)).heap.size := by simp
              have ka : Below wm.heap.size wm (wm.alloc (.cells ([.int .i64 4, .int .i64 0, .string ⟨#[]⟩, .slice qz nz cz, .slice none 0 0]).toArray 30)) := (Below.refl _ _).alloc (Nat.le_refl _) _
              have hO := (ka.block _ (Array.getElem?_eq_some_iff.1 hO).1).trans hO
              have hc := owns_below hc ka
              have hu2 := owns_below hu2 ka
              have pt := pt.keep (Kp.of ka plow.out)
              have hC := hC.trans (Chg.of ka)
              have hbd : (wm.alloc (.cells ([.int .i64 4, .int .i64 0, .string ⟨#[]⟩, .slice qz nz cz, .slice none 0 0]).toArray 30)).ownsRow 0 30 5 (.slice (some ⟨wm.heap.size, 0, none⟩) 1 1) 1 [.int .i64 4, .int .i64 0, .string ⟨#[]⟩, .slice qz nz cz, .slice none 0 0] := owns_lo (Nat.zero_le _) (World.ownsRow_lit wm ([.int .i64 4, .int .i64 0, .string ⟨#[]⟩, .slice qz nz cz, .slice none 0 0]).toArray 1 (Nat.le_refl _) (by unfold maxLen; omega) rfl)
              obtain ⟨bd, hbe⟩ : ∃ q, q = wm.heap.size := ⟨_, rfl⟩
              rw [← hbe] at hbd
              try rw [← hbe]
              clear hHeld
              refine hK.out _ (wm.alloc (.cells ([.int .i64 4, .int .i64 0, .string ⟨#[]⟩, .slice qz nz cz, .slice none 0 0]).toArray 30)) ?G147 (fun hHeld => ?_)
              case G147 => ((try dsimp only); exact KEEP.out _ hC)
              clear hK K
              try simp only [Act.put, List.getElem_toArray, List.getElem_cons_zero, List.getElem_cons_succ, List.setIfInBounds_toArray, List.set_cons_zero, List.set_cons_succ]
              generalize hwn : wm.alloc (.cells ([.int .i64 4, .int .i64 0, .string ⟨#[]⟩, .slice qz nz cz, .slice none 0 0]).toArray 30) = wma at *
              clear hwn hbe ka
              refine wpAnyH_ready (rs := [10]) (by kernel_rfl) (by simp) ?_
              refine AllReadyH.cons rfl (fun K hK => ?_) AllReadyH.nil
              rw [if_pos (by rfl)]
              have hsz := hC.size
              refine wp_append_blk _ _ _ 28 rfl 0 30 i0 (.agg #[.int .i64 0, .int .i64 0, .string ⟨#[]⟩, .slice none 0 0, .slice none 0 0]) 5 80 Try.underlying28 hi hz0 hz1 hz2 rfl (by decide) (.slice qc n cc) n _ rfl hc ⟨bd, 0, none⟩ 1 1 [.int .i64 4, .int .i64 0, .string ⟨#[]⟩, .slice qz nz cz, .slice none 0 0] rfl rfl (fun j q hq => lit_src hbd hq (by simp)) (by simp [Value.oneCell']) (by unfold maxLen; omega) (by omega) (Nat.zero_le _) (by omega) ?_
              intro c2 W1 hc2 g1 l1
              obtain ⟨qc2, cc2, ec2⟩ := owns_sl hc2
              subst ec2
              have nC := newAt_of hsz l1
              have hO := (g1.block _ (Array.getElem?_eq_some_iff.1 hO).1 (fun e => neC.out _ e.symm rfl)).trans hO
              have hu2 := hu2.kept g1 (owns_apart hu2 hc (by decide))
              have hC := hC.trans (Chg.grown g1 (fun g h => .inl (.inl h)))
              have hw1 := Nat.le_trans hwm (Chg.grown (S := fun _ => True) g1 (fun _ _ => trivial)).size
              have pt := pt.keep (fun b hb => g1.block b (Nat.lt_of_lt_of_le (plow.out b hb) hwm) (fun e => by have := (HLOW.out b (HOF.out b (.inl e.symm))); rcases hb with hb | hb; omega; exact hb))
              have nCr : ∀ g, (Value.slice qc2 (n + 1) cc2).ownBlock = some g → g < wr.heap.size ∨ wm.heap.size ≤ g := fun g h => by
                rcases l1 with k | k
                · exact .inl (HLOW.out g (HOF.out g (.inl (k.symm.trans h))))
                · rw [h] at k; injection k with k; omega
              clear hHeld
              refine hK.out _ _ ?G148 (fun hHeld => ?_)
              case G148 => ((try dsimp only); exact KEEP.out _ hC)
              clear hK K
              try simp only [Act.put, List.getElem_toArray, List.getElem_cons_zero, List.getElem_cons_succ, List.setIfInBounds_toArray, List.set_cons_zero, List.set_cons_succ]
              refine wpAnyH_take (i := 11) (oi := _) (v := ?vT149) rfl (by kernel_rfl) (by kernel_rfl) (by kernel_rfl) (fun _ _ _ h => h) (Or.inl ⟨by rfl, ?yT149⟩) hHeld ?_
              case yT149 => (intro w hSw; (try dsimp only at hSw); go_simp <;> with_reducible rfl)
              try simp only [Act.put, List.getElem_toArray, List.getElem_cons_zero, List.getElem_cons_succ, List.setIfInBounds_toArray, List.set_cons_zero, List.set_cons_succ]
              have z := vblk_cell hO 3
              have fz := vblk_frozen hO
              simp only [List.getElem?_toArray, List.getElem?_cons_succ, List.getElem?_cons_zero] at z
              refine wpAnyH_ready (rs := [12]) (by kernel_rfl) (by simp) ?_
              refine AllReadyH.cons rfl (fun K hK => ?_) AllReadyH.nil
              go_simp
              clear z fz
              have hO := heap_setCell_same W1 g5 3 _ _ (.slice qc2 (n + 1) cc2) hO
              have hC := chg_setS (j := 3) (v := .slice qc2 (n + 1) cc2) hC (.inr rfl)
              have nCG : ∀ g, (Value.slice qc2 (n + 1) cc2).ownBlock = some g → g ≠ g5 := fun g h => by
                rcases nC with k | ⟨g', k, k'⟩
                · exact neC.out g (k.symm.trans h)
                · rw [h] at k; injection k with k; have := hGw.out; omega
              have hc2 := owns_kept (S := fun b => b ≠ g5) (Kp.set (g := g5) (j := 3) (v := .slice qc2 (n + 1) cc2) (by simp)) nCG hc2
              have hu2 := owns_kept (S := fun b => b ≠ g5) (Kp.set (g := g5) (j := 3) (v := .slice qc2 (n + 1) cc2) (by simp)) nUG hu2
              have hw9 : wm.heap.size ≤ (W1.setCell ⟨g5, 3, none⟩ (.slice qc2 (n + 1) cc2)).heap.size := by simpa [World.setCell] using hw1
              have pt := pt.keep (Kp.set (g := g5) (j := 3) (v := .slice qc2 (n + 1) cc2) (fun hb => by have := hGw.out; rcases hb with hb | hb; omega; exact hb))
              clear hHeld
              refine hK.out _ (W1.setCell ⟨g5, 3, none⟩ (.slice qc2 (n + 1) cc2)) ?G150 (fun hHeld => ?_)
              case G150 => ((try dsimp only); exact KEEP.out _ hC)
              clear hK K
              try simp only [Act.put, List.getElem_toArray, List.getElem_cons_zero, List.getElem_cons_succ, List.setIfInBounds_toArray, List.set_cons_zero, List.set_cons_succ]
              refine wpAnyH_done (by kernel_rfl) ?_ _
              clear hHeld
              generalize hwn : W1.setCell ⟨g5, 3, none⟩ (.slice qc2 (n + 1) cc2) = w9 at *
              clear hwn g1 l1 hbd hc
              have hO : w9.heap[g5]? = some (boxM (.slice qc2 (n + 1) cc2) (.slice qu2 (n + 1) cu2)) := hO
              rw [HXS.out] at hu2
              have hR1 : ∀ b, (wd.heap.size ≤ b ∧ b < wm.heap.size) → b < w9.heap.size ∧ ¬ S2 b ∧ (Value.slice qc2 (n + 1) cc2).ownBlock ≠ some b ∧ (Value.slice qu2 (n + 1) cu2).ownBlock ≠ some b := fun b h => ⟨by omega, fun k => by have := HLOW.out b k; omega, fun k => by have := nCr b k; omega, fun k => by have := nUl b k; omega⟩
              have mk2 := HADD.out w9 (fun b => wd.heap.size ≤ b ∧ b < wm.heap.size) (fun _ => False) _ _ _ _ x.t (.mk 4 0 ⟨#[]⟩ (x.acts.map textT) []) pt (Nat.zero_le _) saneNil hR1 (fun _ h => h.elim) hc2 hu2 nC nU hC.size (fun b h1 h2 => hC.block b (HLOW.out b h1) (fun k => k.elim h2 (fun e => HSG.out (e ▸ h1))))
              rw [← HTK.out.1, ← HTK.out.2] at mk2
              have s9 := HST9.out _ hC
              have mN9 := HMN.out _ hC
              have HF := hidden (And.intro s9 (And.intro mN9.1 (And.intro hO (And.intro mk2 (And.intro (lowS1 (m := w9.heap.size) (a := wd.heap.size) (b := wm.heap.size) HS1.out HHW.out (Nat.le_trans HHW.out hws)) mN9.2)))))
              clear s9 mN9 hO mk2 hC hc2 hu2 nC nU nCG nUG hR1 pt
              go_wp2_with fail
              go_roundw
              case rel => exact ⟨k2 + 1, _, _, _, HLT.out, by go_num, HF.out.1, HF.out.2.1, HF.out.2.2.1, HF.out.2.2.2.1, HF.out.2.2.2.2.1, HF.out.2.2.2.2.2⟩
              case measure => (have hlt9 := HLT.out; simp [intOf]; omega)
            · go_simp
              go_wp2_with (go_at_call 47; refine (HT.out _ (HST9.out _ hC).B).mono ?_; rintro e wm ⟨ca, rfl, pt, b1⟩)
              have hws := hC.size
              have hO := (b1.block _ (Array.getElem?_eq_some_iff.1 hO).1).trans hO
              have hc := owns_below hc b1
              have hu2 := owns_below hu2 b1
              have hC := hC.trans (Chg.of b1)
              have plow : Hid (∀ b, (wd.heap.size ≤ b ∧ b < wm.heap.size) ∨ False → b < wm.heap.size) := fun b h => h.elim (fun h => h.2) (fun h => h.elim)
              obtain ⟨nz, qz, cz, hnz, rfl⟩ := pt.sliceN
              clear hnz b1
              clear hHeld
              refine hK.out _ _ ?G151 (fun hHeld => ?_)
              case G151 => ((try dsimp only); exact KEEP.out _ hC)
              clear hK K
              try simp only [Act.put, List.getElem_toArray, List.getElem_cons_zero, List.getElem_cons_succ, List.setIfInBounds_toArray, List.set_cons_zero, List.set_cons_succ]
              refine wpAnyH_ready (rs := [1, 9]) (by kernel_rfl) (by simp) ?_
              refine AllReadyH.cons rfl (fun K hK => ?_) (AllReadyH.cons rfl (fun K hK => ?_) AllReadyH.nil)
              · have z := vblk_cell hO 3
                simp only [List.getElem?_toArray, List.getElem?_cons_succ, List.getElem?_cons_zero] at z
                go_simp
                clear z
                clear hHeld
                refine hK.out _ _ ?G152 (fun hHeld => ?_)
                case G152 => ((try dsimp only); exact KEEP.out _ hC)
                clear hK K
                try simp only [Act.put, List.getElem_toArray, List.getElem_cons_zero, List.getElem_cons_succ, List.setIfInBounds_toArray, List.set_cons_zero, List.set_cons_succ]
                refine wpAnyH_ready (rs := [9]) (by kernel_rfl) (by simp) ?_
                refine AllReadyH.cons rfl (fun K hK => ?_) AllReadyH.nil
                go_simp
                have hwm : wm.heap.size ≤ (wm.alloc (.cells ([.int .i64 4, .int .i64 0, .string ⟨#[]⟩, .slice qz nz cz, .slice none 0 0]).toArray 30)).heap.size := by simp
                have ka : Below wm.heap.size wm (wm.alloc (.cells ([.int .i64 4, .int .i64 0, .string ⟨#[]⟩, .slice qz nz cz, .slice none 0 0]).toArray 30)) := (Below.refl _ _).alloc (Nat.le_refl _) _
                have hO := (ka.block _ (Array.getElem?_eq_some_iff.1 hO).1).trans hO
                have hc := owns_below hc ka
                have hu2 := owns_below hu2 ka
                have pt := pt.keep (Kp.of ka plow.out)
                have hC := hC.trans (Chg.of ka)
                have hbd : (wm.alloc (.cells ([.int .i64 4, .int .i64 0, .string ⟨#[]⟩, .slice qz nz cz, .slice none 0 0]).toArray 30)).ownsRow 0 30 5 (.slice (some ⟨wm.heap.size, 0, none⟩) 1 1) 1 [.int .i64 4, .int .i64 0, .string ⟨#[]⟩, .slice qz nz cz, .slice none 0 0] := owns_lo (Nat.zero_le _) (World.ownsRow_lit wm ([.int .i64 4, .int .i64 0, .string ⟨#[]⟩, .slice qz nz cz, .slice none 0 0]).toArray 1 (Nat.le_refl _) (by unfold maxLen; omega) rfl)
                obtain ⟨bd, hbe⟩ : ∃ q, q = wm.heap.size := ⟨_, rfl⟩
                rw [← hbe] at hbd
                try rw [← hbe]
                clear hHeld
                refine hK.out _ (wm.alloc (.cells ([.int .i64 4, .int .i64 0, .string ⟨#[]⟩, .slice qz nz cz, .slice none 0 0]).toArray 30)) ?G153 (fun hHeld => ?_)
                case G153 => ((try dsimp only); exact KEEP.out _ hC)
                clear hK K
                try simp only [Act.put, List.getElem_toArray, List.getElem_cons_zero, List.getElem_cons_succ, List.setIfInBounds_toArray, List.set_cons_zero, List.set_cons_succ]
                generalize hwn : wm.alloc (.cells ([.int .i64 4, .int .i64 0, .string ⟨#[]⟩, .slice qz nz cz, .slice none 0 0]).toArray 30) = wma at *
                clear hwn hbe ka
                refine wpAnyH_ready (rs := [10]) (by kernel_rfl) (by simp) ?_
                refine AllReadyH.cons rfl (fun K hK => ?_) AllReadyH.nil
                rw [if_pos (by rfl)]
                have hsz := hC.size
                refine wp_append_blk _ _ _ 28 rfl 0 30 i0 (.agg #[.int .i64 0, .int .i64 0, .string ⟨#[]⟩, .slice none 0 0, .slice none 0 0]) 5 80 Try.underlying28 hi hz0 hz1 hz2 rfl (by decide) (.slice qc n cc) n _ rfl hc ⟨bd, 0, none⟩ 1 1 [.int .i64 4, .int .i64 0, .string ⟨#[]⟩, .slice qz nz cz, .slice none 0 0] rfl rfl (fun j q hq => lit_src hbd hq (by simp)) (by simp [Value.oneCell']) (by unfold maxLen; omega) (by omega) (Nat.zero_le _) (by omega) ?_
                intro c2 W1 hc2 g1 l1
                obtain ⟨qc2, cc2, ec2⟩ := owns_sl hc2
                subst ec2
                have nC := newAt_of hsz l1
                have hO := (g1.block _ (Array.getElem?_eq_some_iff.1 hO).1 (fun e => neC.out _ e.symm rfl)).trans hO
                have hu2 := hu2.kept g1 (owns_apart hu2 hc (by decide))
                have hC := hC.trans (Chg.grown g1 (fun g h => .inl (.inl h)))
                have hw1 := Nat.le_trans hwm (Chg.grown (S := fun _ => True) g1 (fun _ _ => trivial)).size
                have pt := pt.keep (fun b hb => g1.block b (Nat.lt_of_lt_of_le (plow.out b hb) hwm) (fun e => by have := (HLOW.out b (HOF.out b (.inl e.symm))); rcases hb with hb | hb; omega; exact hb))
                have nCr : ∀ g, (Value.slice qc2 (n + 1) cc2).ownBlock = some g → g < wr.heap.size ∨ wm.heap.size ≤ g := fun g h => by
                  rcases l1 with k | k
                  · exact .inl (HLOW.out g (HOF.out g (.inl (k.symm.trans h))))
                  · rw [h] at k; injection k with k; omega
                clear hHeld
                refine hK.out _ _ ?G154 (fun hHeld => ?_)
                case G154 => ((try dsimp only); exact KEEP.out _ hC)
                clear hK K
                try simp only [Act.put, List.getElem_toArray, List.getElem_cons_zero, List.getElem_cons_succ, List.setIfInBounds_toArray, List.set_cons_zero, List.set_cons_succ]
                refine wpAnyH_take (i := 11) (oi := _) (v := ?vT155) rfl (by kernel_rfl) (by kernel_rfl) (by kernel_rfl) (fun _ _ _ h => h) (Or.inl ⟨by rfl, ?yT155⟩) hHeld ?_
                case yT155 => (intro w hSw; (try dsimp only at hSw); go_simp <;> with_reducible rfl)
                try simp only [Act.put, List.getElem_toArray, List.getElem_cons_zero, List.getElem_cons_succ, List.setIfInBounds_toArray, List.set_cons_zero, List.set_cons_succ]
                have z := vblk_cell hO 3
                have fz := vblk_frozen hO
                simp only [List.getElem?_toArray, List.getElem?_cons_succ, List.getElem?_cons_zero] at z
                refine wpAnyH_ready (rs := [12]) (by kernel_rfl) (by simp) ?_
                refine AllReadyH.cons rfl (fun K hK => ?_) AllReadyH.nil
                go_simp
                clear z fz
                have hO := heap_setCell_same W1 g5 3 _ _ (.slice qc2 (n + 1) cc2) hO
                have hC := chg_setS (j := 3) (v := .slice qc2 (n + 1) cc2) hC (.inr rfl)
                have nCG : ∀ g, (Value.slice qc2 (n + 1) cc2).ownBlock = some g → g ≠ g5 := fun g h => by
                  rcases nC with k | ⟨g', k, k'⟩
                  · exact neC.out g (k.symm.trans h)
                  · rw [h] at k; injection k with k; have := hGw.out; omega
                have hc2 := owns_kept (S := fun b => b ≠ g5) (Kp.set (g := g5) (j := 3) (v := .slice qc2 (n + 1) cc2) (by simp)) nCG hc2
                have hu2 := owns_kept (S := fun b => b ≠ g5) (Kp.set (g := g5) (j := 3) (v := .slice qc2 (n + 1) cc2) (by simp)) nUG hu2
                have hw9 : wm.heap.size ≤ (W1.setCell ⟨g5, 3, none⟩ (.slice qc2 (n + 1) cc2)).heap.size := by simpa [World.setCell] using hw1
                have pt := pt.keep (Kp.set (g := g5) (j := 3) (v := .slice qc2 (n + 1) cc2) (fun hb => by have := hGw.out; rcases hb with hb | hb; omega; exact hb))
                clear hHeld
                refine hK.out _ (W1.setCell ⟨g5, 3, none⟩ (.slice qc2 (n + 1) cc2)) ?G156 (fun hHeld => ?_)
                case G156 => ((try dsimp only); exact KEEP.out _ hC)
                clear hK K
                try simp only [Act.put, List.getElem_toArray, List.getElem_cons_zero, List.getElem_cons_succ, List.setIfInBounds_toArray, List.set_cons_zero, List.set_cons_succ]
                refine wpAnyH_done (by kernel_rfl) ?_ _
                clear hHeld
                generalize hwn : W1.setCell ⟨g5, 3, none⟩ (.slice qc2 (n + 1) cc2) = w9 at *
                clear hwn g1 l1 hbd hc
                have hO : w9.heap[g5]? = some (boxM (.slice qc2 (n + 1) cc2) (.slice qu2 (n + 1) cu2)) := hO
                rw [HXS.out] at hu2
                have hR1 : ∀ b, (wd.heap.size ≤ b ∧ b < wm.heap.size) → b < w9.heap.size ∧ ¬ S2 b ∧ (Value.slice qc2 (n + 1) cc2).ownBlock ≠ some b ∧ (Value.slice qu2 (n + 1) cu2).ownBlock ≠ some b := fun b h => ⟨by omega, fun k => by have := HLOW.out b k; omega, fun k => by have := nCr b k; omega, fun k => by have := nUl b k; omega⟩
                have mk2 := HADD.out w9 (fun b => wd.heap.size ≤ b ∧ b < wm.heap.size) (fun _ => False) _ _ _ _ x.t (.mk 4 0 ⟨#[]⟩ (x.acts.map textT) []) pt (Nat.zero_le _) saneNil hR1 (fun _ h => h.elim) hc2 hu2 nC nU hC.size (fun b h1 h2 => hC.block b (HLOW.out b h1) (fun k => k.elim h2 (fun e => HSG.out (e ▸ h1))))
                rw [← HTK.out.1, ← HTK.out.2] at mk2
                have s9 := HST9.out _ hC
                have mN9 := HMN.out _ hC
                have HF := hidden (And.intro s9 (And.intro mN9.1 (And.intro hO (And.intro mk2 (And.intro (lowS1 (m := w9.heap.size) (a := wd.heap.size) (b := wm.heap.size) HS1.out HHW.out (Nat.le_trans HHW.out hws)) mN9.2)))))
                clear s9 mN9 hO mk2 hC hc2 hu2 nC nU nCG nUG hR1 pt
                go_wp2_with fail
                go_roundw
                case rel => exact ⟨k2 + 1, _, _, _, HLT.out, by go_num, HF.out.1, HF.out.2.1, HF.out.2.2.1, HF.out.2.2.2.1, HF.out.2.2.2.2.1, HF.out.2.2.2.2.2⟩
                case measure => (have hlt9 := HLT.out; simp [intOf]; omega)
              · go_simp
                have hwm : wm.heap.size ≤ (wm.alloc (.cells ([.int .i64 4, .int .i64 0, .string ⟨#[]⟩, .slice qz nz cz, .slice none 0 0]).toArray 30)).heap.size := by simp
                have ka : Below wm.heap.size wm (wm.alloc (.cells ([.int .i64 4, .int .i64 0, .string ⟨#[]⟩, .slice qz nz cz, .slice none 0 0]).toArray 30)) := (Below.refl _ _).alloc (Nat.le_refl _) _
                have hO := (ka.block _ (Array.getElem?_eq_some_iff.1 hO).1).trans hO
                have hc := owns_below hc ka
                have hu2 := owns_below hu2 ka
                have pt := pt.keep (Kp.of ka plow.out)
                have hC := hC.trans (Chg.of ka)
                have hbd : (wm.alloc (.cells ([.int .i64 4, .int .i64 0, .string ⟨#[]⟩, .slice qz nz cz, .slice none 0 0]).toArray 30)).ownsRow 0 30 5 (.slice (some ⟨wm.heap.size, 0, none⟩) 1 1) 1 [.int .i64 4, .int .i64 0, .string ⟨#[]⟩, .slice qz nz cz, .slice none 0 0] := owns_lo (Nat.zero_le _) (World.ownsRow_lit wm ([.int .i64 4, .int .i64 0, .string ⟨#[]⟩, .slice qz nz cz, .slice none 0 0]).toArray 1 (Nat.le_refl _) (by unfold maxLen; omega) rfl)
                obtain ⟨bd, hbe⟩ : ∃ q, q = wm.heap.size := ⟨_, rfl⟩
                rw [← hbe] at hbd
                try rw [← hbe]
                clear hHeld
                refine hK.out _ (wm.alloc (.cells ([.int .i64 4, .int .i64 0, .string ⟨#[]⟩, .slice qz nz cz, .slice none 0 0]).toArray 30)) ?G157 (fun hHeld => ?_)
                case G157 => ((try dsimp only); exact KEEP.out _ hC)
                clear hK K
                try simp only [Act.put, List.getElem_toArray, List.getElem_cons_zero, List.getElem_cons_succ, List.setIfInBounds_toArray, List.set_cons_zero, List.set_cons_succ]
                generalize hwn : wm.alloc (.cells ([.int .i64 4, .int .i64 0, .string ⟨#[]⟩, .slice qz nz cz, .slice none 0 0]).toArray 30) = wma at *
                clear hwn hbe ka
                refine wpAnyH_ready (rs := [1]) (by kernel_rfl) (by simp) ?_
                refine AllReadyH.cons rfl (fun K hK => ?_) AllReadyH.nil
                have z := vblk_cell hO 3
                simp only [List.getElem?_toArray, List.getElem?_cons_succ, List.getElem?_cons_zero] at z
                go_simp
                clear z
                clear hHeld
                refine hK.out _ _ ?G158 (fun hHeld => ?_)
                case G158 => ((try dsimp only); exact KEEP.out _ hC)
                clear hK K
                try simp only [Act.put, List.getElem_toArray, List.getElem_cons_zero, List.getElem_cons_succ, List.setIfInBounds_toArray, List.set_cons_zero, List.set_cons_succ]
                refine wpAnyH_ready (rs := [10]) (by kernel_rfl) (by simp) ?_
                refine AllReadyH.cons rfl (fun K hK => ?_) AllReadyH.nil
                rw [if_pos (by rfl)]
                have hsz := hC.size
                refine wp_append_blk _ _ _ 28 rfl 0 30 i0 (.agg #[.int .i64 0, .int .i64 0, .string ⟨#[]⟩, .slice none 0 0, .slice none 0 0]) 5 80 Try.underlying28 hi hz0 hz1 hz2 rfl (by decide) (.slice qc n cc) n _ rfl hc ⟨bd, 0, none⟩ 1 1 [.int .i64 4, .int .i64 0, .string ⟨#[]⟩, .slice qz nz cz, .slice none 0 0] rfl rfl (fun j q hq => lit_src hbd hq (by simp)) (by simp [Value.oneCell']) (by unfold maxLen; omega) (by omega) (Nat.zero_le _) (by omega) ?_
                intro c2 W1 hc2 g1 l1
                obtain ⟨qc2, cc2, ec2⟩ := owns_sl hc2
                subst ec2
                have nC := newAt_of hsz l1
                have hO := (g1.block _ (Array.getElem?_eq_some_iff.1 hO).1 (fun e => neC.out _ e.symm rfl)).trans hO
                have hu2 := hu2.kept g1 (owns_apart hu2 hc (by decide))
                have hC := hC.trans (Chg.grown g1 (fun g h => .inl (.inl h)))
                have hw1 := Nat.le_trans hwm (Chg.grown (S := fun _ => True) g1 (fun _ _ => trivial)).size
                have pt := pt.keep (fun b hb => g1.block b (Nat.lt_of_lt_of_le (plow.out b hb) hwm) (fun e => by have := (HLOW.out b (HOF.out b (.inl e.symm))); rcases hb with hb | hb; omega; exact hb))
                have nCr : ∀ g, (Value.slice qc2 (n + 1) cc2).ownBlock = some g → g < wr.heap.size ∨ wm.heap.size ≤ g := fun g h => by
                  rcases l1 with k | k
                  · exact .inl (HLOW.out g (HOF.out g (.inl (k.symm.trans h))))
                  · rw [h] at k; injection k with k; omega
                clear hHeld
                refine hK.out _ _ ?G159 (fun hHeld => ?_)
                case G159 => ((try dsimp only); exact KEEP.out _ hC)
                clear hK K
                try simp only [Act.put, List.getElem_toArray, List.getElem_cons_zero, List.getElem_cons_succ, List.setIfInBounds_toArray, List.set_cons_zero, List.set_cons_succ]
                refine wpAnyH_take (i := 11) (oi := _) (v := ?vT160) rfl (by kernel_rfl) (by kernel_rfl) (by kernel_rfl) (fun _ _ _ h => h) (Or.inl ⟨by rfl, ?yT160⟩) hHeld ?_
                case yT160 => (intro w hSw; (try dsimp only at hSw); go_simp <;> with_reducible rfl)
                try simp only [Act.put, List.getElem_toArray, List.getElem_cons_zero, List.getElem_cons_succ, List.setIfInBounds_toArray, List.set_cons_zero, List.set_cons_succ]
                have z := vblk_cell hO 3
                have fz := vblk_frozen hO
                simp only [List.getElem?_toArray, List.getElem?_cons_succ, List.getElem?_cons_zero] at z
                refine wpAnyH_ready (rs := [12]) (by kernel_rfl) (by simp) ?_
                refine AllReadyH.cons rfl (fun K hK => ?_) AllReadyH.nil
                go_simp
                clear z fz
                have hO := heap_setCell_same W1 g5 3 _ _ (.slice qc2 (n + 1) cc2) hO
                have hC := chg_setS (j := 3) (v := .slice qc2 (n + 1) cc2) hC (.inr rfl)
                have nCG : ∀ g, (Value.slice qc2 (n + 1) cc2).ownBlock = some g → g ≠ g5 := fun g h => by
                  rcases nC with k | ⟨g', k, k'⟩
                  · exact neC.out g (k.symm.trans h)
                  · rw [h] at k; injection k with k; have := hGw.out; omega
                have hc2 := owns_kept (S := fun b => b ≠ g5) (Kp.set (g := g5) (j := 3) (v := .slice qc2 (n + 1) cc2) (by simp)) nCG hc2
                have hu2 := owns_kept (S := fun b => b ≠ g5) (Kp.set (g := g5) (j := 3) (v := .slice qc2 (n + 1) cc2) (by simp)) nUG hu2
                have hw9 : wm.heap.size ≤ (W1.setCell ⟨g5, 3, none⟩ (.slice qc2 (n + 1) cc2)).heap.size := by simpa [World.setCell] using hw1
                have pt := pt.keep (Kp.set (g := g5) (j := 3) (v := .slice qc2 (n + 1) cc2) (fun hb => by have := hGw.out; rcases hb with hb | hb; omega; exact hb))
                clear hHeld
                refine hK.out _ (W1.setCell ⟨g5, 3, none⟩ (.slice qc2 (n + 1) cc2)) ?G161 (fun hHeld => ?_)
                case G161 => ((try dsimp only); exact KEEP.out _ hC)
                clear hK K
                try simp only [Act.put, List.getElem_toArray, List.getElem_cons_zero, List.getElem_cons_succ, List.setIfInBounds_toArray, List.set_cons_zero, List.set_cons_succ]
                refine wpAnyH_done (by kernel_rfl) ?_ _
                clear hHeld
                generalize hwn : W1.setCell ⟨g5, 3, none⟩ (.slice qc2 (n + 1) cc2) = w9 at *
                clear hwn g1 l1 hbd hc
                have hO : w9.heap[g5]? = some (boxM (.slice qc2 (n + 1) cc2) (.slice qu2 (n + 1) cu2)) := hO
                rw [HXS.out] at hu2
                have hR1 : ∀ b, (wd.heap.size ≤ b ∧ b < wm.heap.size) → b < w9.heap.size ∧ ¬ S2 b ∧ (Value.slice qc2 (n + 1) cc2).ownBlock ≠ some b ∧ (Value.slice qu2 (n + 1) cu2).ownBlock ≠ some b := fun b h => ⟨by omega, fun k => by have := HLOW.out b k; omega, fun k => by have := nCr b k; omega, fun k => by have := nUl b k; omega⟩
                have mk2 := HADD.out w9 (fun b => wd.heap.size ≤ b ∧ b < wm.heap.size) (fun _ => False) _ _ _ _ x.t (.mk 4 0 ⟨#[]⟩ (x.acts.map textT) []) pt (Nat.zero_le _) saneNil hR1 (fun _ h => h.elim) hc2 hu2 nC nU hC.size (fun b h1 h2 => hC.block b (HLOW.out b h1) (fun k => k.elim h2 (fun e => HSG.out (e ▸ h1))))
                rw [← HTK.out.1, ← HTK.out.2] at mk2
                have s9 := HST9.out _ hC
                have mN9 := HMN.out _ hC
                have HF := hidden (And.intro s9 (And.intro mN9.1 (And.intro hO (And.intro mk2 (And.intro (lowS1 (m := w9.heap.size) (a := wd.heap.size) (b := wm.heap.size) HS1.out HHW.out (Nat.le_trans HHW.out hws)) mN9.2)))))
                clear s9 mN9 hO mk2 hC hc2 hu2 nC nU nCG nUG hR1 pt
                go_wp2_with fail
                go_roundw
                case rel => exact ⟨k2 + 1, _, _, _, HLT.out, by go_num, HF.out.1, HF.out.2.1, HF.out.2.2.1, HF.out.2.2.2.1, HF.out.2.2.2.2.1, HF.out.2.2.2.2.2⟩
                case measure => (have hlt9 := HLT.out; simp [intOf]; omega)
        · have hk9 : k2 = cmds.length := by omega
          rw [hk9, List.take_length] at hmk
          have hki2 : ¬ ((k2 : Int) < (cmds.length : Int)) := by omega
          have hmk0 := hmk
          obtain ⟨nT, qt, ct, qv, cv, hnl, rfl, rfl⟩ := hmk0.slicesN
          clear hnl hmk0
          have hmk0 := hmN
          obtain ⟨nN, qn, cn, qm, cm, hnl, rfl, rfl⟩ := hmk0.slicesN
          clear hnl hmk0
          have p5 := vblk_cell hP 0
          have p6 := vblk_cell hP 1
          simp only [List.getElem?_toArray, List.getElem?_cons_succ, List.getElem?_cons_zero] at p5 p6
          have m0 := vblk_cell hN 0
          have m1 := vblk_cell hN 1
          have m2 := vblk_cell hN 2
          have m3 := vblk_cell hN 3
          have m4 := vblk_cell hN 4
          simp only [List.getElem?_toArray, List.getElem?_cons_succ, List.getElem?_cons_zero] at m0 m1 m2 m3 m4
          have t0 := vblk_cell hO 0
          have t1 := vblk_cell hO 1
          have t2 := vblk_cell hO 2
          have t3 := vblk_cell hO 3
          have t4 := vblk_cell hO 4
          simp only [List.getElem?_toArray, List.getElem?_cons_succ, List.getElem?_cons_zero] at t0 t1 t2 t3 t4
          have lP := (Array.getElem?_eq_some_iff.1 hP).1
          have lN := (Array.getElem?_eq_some_iff.1 hN).1
          have lO := (Array.getElem?_eq_some_iff.1 hO).1
          have KB : ∀ W : World, (∀ i, i ≠ w.heap.size + 1 → i < wr.heap.size → W.heap[i]? = wr.heap[i]?) → W.cell? ⟨w.heap.size, 0, none⟩ = some (.string name) ∧ W.cell? ⟨w.heap.size, 1, none⟩ = some (.slice q0 uses.length cap0) ∧ W.cell? ⟨w.heap.size + 1 + 1, 0, none⟩ = some (.int .i64 5) ∧ W.cell? ⟨w.heap.size + 1 + 1, 1, none⟩ = some (.int .i64 0) ∧ W.cell? ⟨w.heap.size + 1 + 1, 2, none⟩ = some (.string ⟨#[]⟩) ∧ W.cell? ⟨w.heap.size + 1 + 1, 3, none⟩ = some (.slice qn nN cn) ∧ W.cell? ⟨w.heap.size + 1 + 1, 4, none⟩ = some (.slice qm nN cm) ∧ W.cell? ⟨g5, 0, none⟩ = some (.int .i64 5) ∧ W.cell? ⟨g5, 1, none⟩ = some (.int .i64 0) ∧ W.cell? ⟨g5, 2, none⟩ = some (.string ⟨#[]⟩) ∧ W.cell? ⟨g5, 3, none⟩ = some (.slice qt nT ct) ∧ W.cell? ⟨g5, 4, none⟩ = some (.slice qv nT cv) := fun W kk => by
            have k1 : ∀ j, W.cell? ⟨w.heap.size, j, none⟩ = wr.cell? ⟨w.heap.size, j, none⟩ := fun j => World.cell?_of_block (kk (w.heap.size) (by omega) lP)
            have k2 : ∀ j, W.cell? ⟨w.heap.size + 1 + 1, j, none⟩ = wr.cell? ⟨w.heap.size + 1 + 1, j, none⟩ := fun j => World.cell?_of_block (kk (w.heap.size + 1 + 1) (by omega) lN)
            have k3 : ∀ j, W.cell? ⟨g5, j, none⟩ = wr.cell? ⟨g5, j, none⟩ := fun j => World.cell?_of_block (kk (g5) (by have := hg5.out; omega) lO)
            exact ⟨(k1 0).trans p5, (k1 1).trans p6, (k2 0).trans m0, (k2 1).trans m1, (k2 2).trans m2, (k2 3).trans m3, (k2 4).trans m4, (k3 0).trans t0, (k3 1).trans t1, (k3 2).trans t2, (k3 3).trans t3, (k3 4).trans t4⟩
          have KEEP := hidden (fun (W : World) (h : Below wr.heap.size wr W) => KB W (fun i _ hi => h.block i hi))
          have KEEPP := hidden (fun (W : World) (a b : Value) (h : Below wr.heap.size wr W) => KB (put5 W (w.heap.size + 1) a b) (fun i hn hi => (put5_other hn).trans (h.block i hi)))
          obtain ⟨RN, KN, pN, iN1, iN2⟩ := hmN.part (by simp; unfold maxLen; omega)
          obtain ⟨RT, KT, pT, iT1, iT2⟩ := hmk.part (by simp; unfold maxLen; omega)
          have hwS : Hid (g5 + 1 ≤ wr.heap.size) := lO
          have FINAL := hidden (fun (W wa wb : World) (bv bk : Nat) (cU : Value) (h : Below wr.heap.size wr W) (ha : wr.heap.size ≤ wa.heap.size) (hb : wb.heap.size ≤ W.heap.size) (hbv : wr.heap.size ≤ bv) (hbk : wr.heap.size ≤ bk)
              (pt : Part W (fun b => wa.heap.size ≤ b ∧ b < wb.heap.size) (fun _ => False) cU (.slice none 0 0) (uses.map textT) []) (nv : ¬ (wa.heap.size ≤ bv ∧ bv < wb.heap.size)) (nk : ¬ (wa.heap.size ≤ bk ∧ bk < wb.heap.size))
              (hV : W.ownsRow 0 30 5 (.slice (some ⟨bv, 0, none⟩) 4 4) 4 [.int .i64 3, .int .i64 0, .string name, .slice none 0 0, .slice none 0 0, .int .i64 5, .int .i64 0, .string ⟨#[]⟩, .slice qn nN cn, .slice qm nN cm, .int .i64 5, .int .i64 0, .string ⟨#[]⟩, .slice qt nT ct, .slice qv nT cv, .int .i64 4, .int .i64 0, .string ⟨#[]⟩, cU, .slice none 0 0])
              (hK : W.ownsRow 0 9 1 (.slice (some ⟨bk, 0, none⟩) 4 4) 4 (strsV packKeys)) =>
            mk_four (S1 := S1) (S2 := S2) (S3 := fun b => wa.heap.size ≤ b ∧ b < wb.heap.size) hV hK s_name hsaneN.out hsaneT.out (pN.keep (Kp.of h (fun b hb => hmN.low b (hb.elim (iN1 b) (iN2 b))))) (pT.keep (Kp.of h (fun b hb => hmk.low b (hb.elim (iT1 b) (iT2 b))))) pt
              (fun b hb => hb.elim (iN1 b) (iN2 b)) (fun b hb => hb.elim (iT1 b) (iT2 b)) (fun b hb => hb)
              (fun b h1 h2 => by have := hS1g.out b h1; have := hS2 b h2; omega) (fun b h1 h2 => by have := hS1g.out b h1; have := hwS.out; omega) (fun b h1 h2 => by have := hmk.low b h1; omega)
              (fun g hg => by
                have e : bv = g := by simpa [Value.ownBlock] using hg
                subst e
                exact ⟨fun k => by have := hmN.low _ k; omega, fun k => by have := hmk.low _ k; omega, nv⟩)
              (fun g hg => by
                have e : bk = g := by simpa [Value.ownBlock] using hg
                subst e
                exact ⟨fun k => by have := hmN.low _ k; omega, fun k => by have := hmk.low _ k; omega, nk⟩)
              (fun b hb => by
                have := h.size
                rcases hb with hb | hb | hb
                · have := hmN.low b hb; omega
                · have := hmk.low b hb; omega
                · omega))
          have hR := hidden hst.R
          have hlr : Hid (w.heap.size + 1 + 1 ≤ wr.heap.size) := by have := lN; exact (by omega : w.heap.size + 1 + 1 ≤ wr.heap.size)
          have hBw := hidden hst.B
          have HT := hidden (fun w1 => textVal_c name w1)
          have hus : bulkS uses ≤ 1048576 := by have hw' := hw; simp only [wtPack] at hw'; omega
          have HU : Hid (∀ w1, Below w.heap.size w w1 → Calls Try.prog 47 #[.slice q0 uses.length cap0] w1 fun e w' => ∃ c, e = .returned (.agg #[.int .i64 4, .int .i64 0, .string ⟨#[]⟩, c, .slice none 0 0]) ∧ Part w' (fun b => w1.heap.size ≤ b ∧ b < w'.heap.size) (fun _ => False) c (.slice none 0 0) (uses.map textT) [] ∧ Below w1.heap.size w1 w') := fun w1 h1 =>
            texts_partS _ _ w1 ((r0.keep (.of h1 hB)).reads (fun b hb => Nat.lt_of_lt_of_le (hB b hb) h1.size)) hus p0
          have hLOW := hidden (And.intro HS1.out (And.intro hS2 hg5.out))
          clear hst hN hO hmk hmN hS2 hP m0 m1 m2 m3 m4 t0 t1 t2 t3 t4 p5 p6 lP lN lO KB pN pT iN1 iN2 iT1 iT2
          go_wp2_with fail
          have hC : Below wr.heap.size wr wr.drew := (Below.refl _ _).drew
          refine wp_region_held_drew (S := (fun W => W.cell? ⟨w.heap.size, 0, none⟩ = some (.string name) ∧ W.cell? ⟨w.heap.size, 1, none⟩ = some (.slice q0 uses.length cap0) ∧ W.cell? ⟨w.heap.size + 1 + 1, 0, none⟩ = some (.int .i64 5) ∧ W.cell? ⟨w.heap.size + 1 + 1, 1, none⟩ = some (.int .i64 0) ∧ W.cell? ⟨w.heap.size + 1 + 1, 2, none⟩ = some (.string ⟨#[]⟩) ∧ W.cell? ⟨w.heap.size + 1 + 1, 3, none⟩ = some (.slice qn nN cn) ∧ W.cell? ⟨w.heap.size + 1 + 1, 4, none⟩ = some (.slice qm nN cm) ∧ W.cell? ⟨g5, 0, none⟩ = some (.int .i64 5) ∧ W.cell? ⟨g5, 1, none⟩ = some (.int .i64 0) ∧ W.cell? ⟨g5, 2, none⟩ = some (.string ⟨#[]⟩) ∧ W.cell? ⟨g5, 3, none⟩ = some (.slice qt nT ct) ∧ W.cell? ⟨g5, 4, none⟩ = some (.slice qv nT cv))) (by kernel_rfl) ?S13 (fun hHeld => ?_)
          case S13 => (exact KEEP.out _ hC)
          refine wpAnyH_take (i := 1) (oi := _) (v := ?vT68) rfl (by kernel_rfl) (by kernel_rfl) (by kernel_rfl) (fun _ _ _ h => h) (Or.inl ⟨by rfl, ?yT68⟩) hHeld ?_
          case yT68 => (intro w hSw; (try dsimp only at hSw); go_simp <;> with_reducible rfl)
          try simp only [Act.put, List.getElem_toArray, List.getElem_cons_zero, List.getElem_cons_succ, List.setIfInBounds_toArray, List.set_cons_zero, List.set_cons_succ]
          refine wpAnyH_take (i := 2) (oi := _) (v := ?vT69) rfl (by kernel_rfl) (by kernel_rfl) (by kernel_rfl) (fun _ _ _ h => h) (Or.inl ⟨by rfl, ?yT69⟩) hHeld ?_
          case yT69 => (intro w hSw; (try dsimp only at hSw); go_simp <;> with_reducible rfl)
          try simp only [Act.put, List.getElem_toArray, List.getElem_cons_zero, List.getElem_cons_succ, List.setIfInBounds_toArray, List.set_cons_zero, List.set_cons_succ]
          refine wpAnyH_take (i := 4) (oi := _) (v := ?vT70) rfl (by kernel_rfl) (by kernel_rfl) (by kernel_rfl) (fun _ _ _ h => h) (Or.inl ⟨by rfl, ?yT70⟩) hHeld ?_
          case yT70 => (intro w hSw; (try dsimp only at hSw); go_simp <;> with_reducible rfl)
          try simp only [Act.put, List.getElem_toArray, List.getElem_cons_zero, List.getElem_cons_succ, List.setIfInBounds_toArray, List.set_cons_zero, List.set_cons_succ]
          refine wpAnyH_take (i := 5) (oi := _) (v := ?vT71) rfl (by kernel_rfl) (by kernel_rfl) (by kernel_rfl) (fun _ _ _ h => h) (Or.inl ⟨by rfl, ?yT71⟩) hHeld ?_
          case yT71 => (intro w hSw; (try dsimp only at hSw); go_simp <;> with_reducible rfl)
          try simp only [Act.put, List.getElem_toArray, List.getElem_cons_zero, List.getElem_cons_succ, List.setIfInBounds_toArray, List.set_cons_zero, List.set_cons_succ]
          refine wpAnyH_take (i := 6) (oi := _) (v := ?vT72) rfl (by kernel_rfl) (by kernel_rfl) (by kernel_rfl) (fun _ _ _ h => h) (Or.inl ⟨by rfl, ?yT72⟩) hHeld ?_
          case yT72 => (intro w hSw; (try dsimp only at hSw); go_simp <;> with_reducible rfl)
          try simp only [Act.put, List.getElem_toArray, List.getElem_cons_zero, List.getElem_cons_succ, List.setIfInBounds_toArray, List.set_cons_zero, List.set_cons_succ]
          refine wpAnyH_take (i := 7) (oi := _) (v := ?vT73) rfl (by kernel_rfl) (by kernel_rfl) (by kernel_rfl) (fun _ _ _ h => h) (Or.inl ⟨by rfl, ?yT73⟩) hHeld ?_
          case yT73 => (intro w hSw; (try dsimp only at hSw); go_simp <;> with_reducible rfl)
          try simp only [Act.put, List.getElem_toArray, List.getElem_cons_zero, List.getElem_cons_succ, List.setIfInBounds_toArray, List.set_cons_zero, List.set_cons_succ]
          generalize hwn : wr.drew = wd at *
          clear hwn
          refine wpAnyH_ready (rs := [0, 3]) (by kernel_rfl) (by simp) ?_
          refine AllReadyH.cons rfl (fun K hK => ?_) (AllReadyH.cons rfl (fun K hK => ?_) AllReadyH.nil)
          · go_simp
            have ka : Below wd.heap.size wd (wd.alloc (.cells #[.string ⟨#[110, 97, 109, 101]⟩, .string ⟨#[110, 101, 101, 100, 115]⟩, .string ⟨#[116, 97, 115, 107, 115]⟩, .string ⟨#[117, 115, 101, 115]⟩] 9)) := (Below.refl _ _).alloc (Nat.le_refl _) _
            have hWs := hC.size
            have hC := hC.trans (ka.mono hC.size)
            have hKr : (wd.alloc (.cells #[.string ⟨#[110, 97, 109, 101]⟩, .string ⟨#[110, 101, 101, 100, 115]⟩, .string ⟨#[116, 97, 115, 107, 115]⟩, .string ⟨#[117, 115, 101, 115]⟩] 9)).ownsRow 0 9 1 (.slice (some ⟨wd.heap.size, 0, none⟩) 4 4) 4 (strsV packKeys) := owns_lo (Nat.zero_le _) (World.ownsRow_lit wd #[.string ⟨#[110, 97, 109, 101]⟩, .string ⟨#[110, 101, 101, 100, 115]⟩, .string ⟨#[116, 97, 115, 107, 115]⟩, .string ⟨#[117, 115, 101, 115]⟩] 4 (Nat.le_refl _) (by unfold maxLen; omega) rfl)
            obtain ⟨bk, hbe⟩ : ∃ q, q = wd.heap.size := ⟨_, rfl⟩
            rw [← hbe] at hKr
            try rw [← hbe]
            have hbk : wr.heap.size ≤ bk := by omega
            have hbkl : bk < (wd.alloc (.cells #[.string ⟨#[110, 97, 109, 101]⟩, .string ⟨#[110, 101, 101, 100, 115]⟩, .string ⟨#[116, 97, 115, 107, 115]⟩, .string ⟨#[117, 115, 101, 115]⟩] 9)).heap.size := by simp; omega
            clear hHeld
            refine hK.out _ (wd.alloc (.cells #[.string ⟨#[110, 97, 109, 101]⟩, .string ⟨#[110, 101, 101, 100, 115]⟩, .string ⟨#[116, 97, 115, 107, 115]⟩, .string ⟨#[117, 115, 101, 115]⟩] 9)) ?G74 (fun hHeld => ?_)
            case G74 => ((try dsimp only); exact KEEP.out _ hC)
            clear hK K
            try simp only [Act.put, List.getElem_toArray, List.getElem_cons_zero, List.getElem_cons_succ, List.setIfInBounds_toArray, List.set_cons_zero, List.set_cons_succ]
            generalize hwn : wd.alloc (.cells #[.string ⟨#[110, 97, 109, 101]⟩, .string ⟨#[110, 101, 101, 100, 115]⟩, .string ⟨#[116, 97, 115, 107, 115]⟩, .string ⟨#[117, 115, 101, 115]⟩] 9) = k0 at *
            clear hwn hbe ka hWs
            refine wpAnyH_ready (rs := [3]) (by kernel_rfl) (by simp) ?_
            refine AllReadyH.cons rfl (fun K hK => ?_) AllReadyH.nil
            go_simp
            go_wp2_with (go_at_call 46; refine (HT.out _).mono ?_; rintro e v5 ⟨rfl, b1⟩; unfold textV)
            have hKr := owns_below hKr b1
            have hC := hC.trans (b1.mono hC.size)
            have hbkl := Nat.lt_of_lt_of_le hbkl b1.size
            clear b1
            clear hHeld
            refine hK.out _ _ ?G75 (fun hHeld => ?_)
            case G75 => ((try dsimp only); exact KEEP.out _ hC)
            clear hK K
            try simp only [Act.put, List.getElem_toArray, List.getElem_cons_zero, List.getElem_cons_succ, List.setIfInBounds_toArray, List.set_cons_zero, List.set_cons_succ]
            refine wpAnyH_ready (rs := [8]) (by kernel_rfl) (by simp) ?_
            refine AllReadyH.cons rfl (fun K hK => ?_) AllReadyH.nil
            go_simp
            go_wp2_with (go_at_call 47; refine (HU.out _ (hBw.out.trans (hC.mono hBw.out.size))).mono ?_; rintro e wb ⟨ca, rfl, pt, b1⟩)
            obtain ⟨nz, qz, cz, hnz, rfl⟩ := pt.sliceN
            clear hnz
            have hKr := owns_below hKr b1
            have hwa : wr.heap.size ≤ v5.heap.size := hC.size
            have hC := hC.trans (b1.mono hC.size)
            obtain ⟨wa, hwae⟩ : ∃ q, q = v5 := ⟨_, rfl⟩
            rw [← hwae] at hwa pt
            have nk : ¬ (wa.heap.size ≤ bk ∧ bk < wb.heap.size) := by rw [hwae]; omega
            clear hwae b1
            have hwb : wb.heap.size ≤ wb.heap.size := Nat.le_refl _
            clear hHeld
            refine hK.out _ _ ?G76 (fun hHeld => ?_)
            case G76 => ((try dsimp only); exact KEEP.out _ hC)
            clear hK K
            try simp only [Act.put, List.getElem_toArray, List.getElem_cons_zero, List.getElem_cons_succ, List.setIfInBounds_toArray, List.set_cons_zero, List.set_cons_succ]
            refine wpAnyH_ready (rs := [9]) (by kernel_rfl) (by simp) ?_
            refine AllReadyH.cons rfl (fun K hK => ?_) AllReadyH.nil
            go_simp
            have ka : Below wb.heap.size wb (wb.alloc (.cells #[.int .i64 3, .int .i64 0, .string name, .slice none 0 0, .slice none 0 0, .int .i64 5, .int .i64 0, .string ⟨#[]⟩, .slice qn nN cn, .slice qm nN cm, .int .i64 5, .int .i64 0, .string ⟨#[]⟩, .slice qt nT ct, .slice qv nT cv, .int .i64 4, .int .i64 0, .string ⟨#[]⟩, .slice qz nz cz, .slice none 0 0] 30)) := (Below.refl _ _).alloc (Nat.le_refl _) _
            have hKr := owns_below hKr ka
            have pt := pt.keep (Kp.of ka (fun b h => h.elim (fun h => Nat.lt_of_lt_of_le h.2 hwb) (fun h => h.elim)))
            have hWs := hC.size
            have hC := hC.trans (ka.mono hC.size)
            have hV : (wb.alloc (.cells #[.int .i64 3, .int .i64 0, .string name, .slice none 0 0, .slice none 0 0, .int .i64 5, .int .i64 0, .string ⟨#[]⟩, .slice qn nN cn, .slice qm nN cm, .int .i64 5, .int .i64 0, .string ⟨#[]⟩, .slice qt nT ct, .slice qv nT cv, .int .i64 4, .int .i64 0, .string ⟨#[]⟩, .slice qz nz cz, .slice none 0 0] 30)).ownsRow 0 30 5 (.slice (some ⟨wb.heap.size, 0, none⟩) 4 4) 4 (#[.int .i64 3, .int .i64 0, .string name, .slice none 0 0, .slice none 0 0, .int .i64 5, .int .i64 0, .string ⟨#[]⟩, .slice qn nN cn, .slice qm nN cm, .int .i64 5, .int .i64 0, .string ⟨#[]⟩, .slice qt nT ct, .slice qv nT cv, .int .i64 4, .int .i64 0, .string ⟨#[]⟩, .slice qz nz cz, .slice none 0 0]).toList := owns_lo (Nat.zero_le _) (World.ownsRow_lit wb #[.int .i64 3, .int .i64 0, .string name, .slice none 0 0, .slice none 0 0, .int .i64 5, .int .i64 0, .string ⟨#[]⟩, .slice qn nN cn, .slice qm nN cm, .int .i64 5, .int .i64 0, .string ⟨#[]⟩, .slice qt nT ct, .slice qv nT cv, .int .i64 4, .int .i64 0, .string ⟨#[]⟩, .slice qz nz cz, .slice none 0 0] 4 (Nat.le_refl _) (by unfold maxLen; omega) rfl)
            obtain ⟨bv, hbe⟩ : ∃ q, q = wb.heap.size := ⟨_, rfl⟩
            rw [← hbe] at hV
            try rw [← hbe]
            have hbv : wr.heap.size ≤ bv := by omega
            have nv : ¬ (wa.heap.size ≤ bv ∧ bv < wb.heap.size) := by omega
            have hwb : wb.heap.size ≤ (wb.alloc (.cells #[.int .i64 3, .int .i64 0, .string name, .slice none 0 0, .slice none 0 0, .int .i64 5, .int .i64 0, .string ⟨#[]⟩, .slice qn nN cn, .slice qm nN cm, .int .i64 5, .int .i64 0, .string ⟨#[]⟩, .slice qt nT ct, .slice qv nT cv, .int .i64 4, .int .i64 0, .string ⟨#[]⟩, .slice qz nz cz, .slice none 0 0] 30)).heap.size := by simp <;> omega
            clear hHeld
            refine hK.out _ (wb.alloc (.cells #[.int .i64 3, .int .i64 0, .string name, .slice none 0 0, .slice none 0 0, .int .i64 5, .int .i64 0, .string ⟨#[]⟩, .slice qn nN cn, .slice qm nN cm, .int .i64 5, .int .i64 0, .string ⟨#[]⟩, .slice qt nT ct, .slice qv nT cv, .int .i64 4, .int .i64 0, .string ⟨#[]⟩, .slice qz nz cz, .slice none 0 0] 30)) ?G77 (fun hHeld => ?_)
            case G77 => ((try dsimp only); exact KEEP.out _ hC)
            clear hK K
            try simp only [Act.put, List.getElem_toArray, List.getElem_cons_zero, List.getElem_cons_succ, List.setIfInBounds_toArray, List.set_cons_zero, List.set_cons_succ]
            generalize hwn : wb.alloc (.cells #[.int .i64 3, .int .i64 0, .string name, .slice none 0 0, .slice none 0 0, .int .i64 5, .int .i64 0, .string ⟨#[]⟩, .slice qn nN cn, .slice qm nN cm, .int .i64 5, .int .i64 0, .string ⟨#[]⟩, .slice qt nT ct, .slice qv nT cv, .int .i64 4, .int .i64 0, .string ⟨#[]⟩, .slice qz nz cz, .slice none 0 0] 30) = v7 at *
            clear hwn hbe ka hWs
            refine wpAnyH_take (i := 10) (oi := _) (v := ?vT78) rfl (by kernel_rfl) (by kernel_rfl) (by kernel_rfl) (fun _ _ _ h => h) (Or.inl ⟨by rfl, ?yT78⟩) hHeld ?_
            case yT78 => (intro w hSw; (try dsimp only at hSw); go_simp <;> with_reducible rfl)
            try simp only [Act.put, List.getElem_toArray, List.getElem_cons_zero, List.getElem_cons_succ, List.setIfInBounds_toArray, List.set_cons_zero, List.set_cons_succ]
            have zR := (hC.block _ (by have := hlr.out; omega)).trans hR.out
            have y0 := vblk_cell zR 0
            have y1 := vblk_cell zR 1
            have y2 := vblk_cell zR 2
            have y3 := vblk_cell zR 3
            have y4 := vblk_cell zR 4
            simp only [List.getElem?_toArray, List.getElem?_cons_succ, List.getElem?_cons_zero] at y0 y1 y2 y3 y4
            have fx := vblk_frozen zR
            refine wpAnyH_ready (rs := [11]) (by kernel_rfl) (by simp) ?_
            refine AllReadyH.cons rfl (fun K hK => ?_) AllReadyH.nil
            go_simp
            clear y0 y1 y2 y3 y4 fx
            clear hHeld
            refine hK.out _ (put5 v7 (w.heap.size + 1) (.slice (some ⟨bv, 0, none⟩) 4 4) (.slice (some ⟨bk, 0, none⟩) 4 4)) ?G79 (fun hHeld => ?_)
            case G79 => (exact KEEPP.out _ _ _ hC)
            clear hK K
            try simp only [Act.put, List.getElem_toArray, List.getElem_cons_zero, List.getElem_cons_succ, List.setIfInBounds_toArray, List.set_cons_zero, List.set_cons_succ]
            refine wpAnyH_done (by kernel_rfl) ?_ _
            clear hHeld
            have mk := FINAL.out v7 wa wb bv bk (.slice qz nz cz) hC hwa hwb hbv hbk pt nv nk hV hKr
            have hlS : ∀ b, (S1 b ∨ S2 b ∨ (wa.heap.size ≤ b ∧ b < wb.heap.size) ∨ (Value.slice (some ⟨bv, 0, none⟩) 4 4).ownBlock = some b ∨ (Value.slice (some ⟨bk, 0, none⟩) 4 4).ownBlock = some b) → w.heap.size + 1 + 1 ≤ b := fun b h => by
              have h1 := hLOW.out
              have h2 := hlr.out
              rcases h with h | h | h | h | h
              · have := h1.1 b h; omega
              · have := h1.2.1 b h; have := h1.2.2; omega
              · omega
              · have e : bv = b := by simpa [Value.ownBlock] using h
                omega
              · have e : bk = b := by simpa [Value.ownBlock] using h
                omega
            have m3 := (mk.put (g := w.heap.size + 1) (a := .slice (some ⟨bv, 0, none⟩) 4 4) (b := .slice (some ⟨bk, 0, none⟩) 4 4) (fun k => by have := hlS _ k; omega)).mono (S' := fun b => w.heap.size ≤ b ∧ b < (put5 v7 (w.heap.size + 1) (.slice (some ⟨bv, 0, none⟩) 4 4) (.slice (some ⟨bk, 0, none⟩) 4 4)).heap.size) (fun b k => ⟨by have := hlS b k; omega, by rw [put5_size]; exact mk.low b k⟩) (fun b k => k.2)
            have zR2 := put5_zero (c := .slice (some ⟨bv, 0, none⟩) 4 4) (u := .slice (some ⟨bk, 0, none⟩) 4 4) zR
            have b3 := put5_below (g := w.heap.size + 1) (c := .slice (some ⟨bv, 0, none⟩) 4 4) (u := .slice (some ⟨bk, 0, none⟩) 4 4) (hBw.out.trans (hC.mono hBw.out.size)) (by omega)
            generalize hwn : put5 v7 (w.heap.size + 1) (.slice (some ⟨bv, 0, none⟩) 4 4) (.slice (some ⟨bk, 0, none⟩) 4 4) = w9 at *
            clear hwn
            have y0 := vblk_cell zR2 0
            have y1 := vblk_cell zR2 1
            have y2 := vblk_cell zR2 2
            have y3 := vblk_cell zR2 3
            have y4 := vblk_cell zR2 4
            simp only [List.getElem?_toArray, List.getElem?_cons_succ, List.getElem?_cons_zero] at y0 y1 y2 y3 y4
            have HF := hidden (And.intro m3 b3)
            clear m3 b3 zR zR2 mk hlS hC pt hV hKr
            go_wp2_with fail
            refine bodyPost_ret (v := .agg #[.int .i64 5, .int .i64 0, .string ⟨#[]⟩, .slice (some ⟨bv, 0, none⟩) 4 4, .slice (some ⟨bk, 0, none⟩) 4 4]) (by simp [results, Try.results13, go_sem, y0, y1, y2, y3, y4]) rfl ⟨_, _, rfl, HF.out.1, HF.out.2⟩
          · go_simp
            go_wp2_with (go_at_call 46; refine (HT.out _).mono ?_; rintro e v1 ⟨rfl, b1⟩; unfold textV)
            have hC := hC.trans (b1.mono hC.size)
            clear b1
            clear hHeld
            refine hK.out _ _ ?G80 (fun hHeld => ?_)
            case G80 => ((try dsimp only); exact KEEP.out _ hC)
            clear hK K
            try simp only [Act.put, List.getElem_toArray, List.getElem_cons_zero, List.getElem_cons_succ, List.setIfInBounds_toArray, List.set_cons_zero, List.set_cons_succ]
            refine wpAnyH_ready (rs := [0, 8]) (by kernel_rfl) (by simp) ?_
            refine AllReadyH.cons rfl (fun K hK => ?_) (AllReadyH.cons rfl (fun K hK => ?_) AllReadyH.nil)
            · go_simp
              have ka : Below v1.heap.size v1 (v1.alloc (.cells #[.string ⟨#[110, 97, 109, 101]⟩, .string ⟨#[110, 101, 101, 100, 115]⟩, .string ⟨#[116, 97, 115, 107, 115]⟩, .string ⟨#[117, 115, 101, 115]⟩] 9)) := (Below.refl _ _).alloc (Nat.le_refl _) _
              have hWs := hC.size
              have hC := hC.trans (ka.mono hC.size)
              have hKr : (v1.alloc (.cells #[.string ⟨#[110, 97, 109, 101]⟩, .string ⟨#[110, 101, 101, 100, 115]⟩, .string ⟨#[116, 97, 115, 107, 115]⟩, .string ⟨#[117, 115, 101, 115]⟩] 9)).ownsRow 0 9 1 (.slice (some ⟨v1.heap.size, 0, none⟩) 4 4) 4 (strsV packKeys) := owns_lo (Nat.zero_le _) (World.ownsRow_lit v1 #[.string ⟨#[110, 97, 109, 101]⟩, .string ⟨#[110, 101, 101, 100, 115]⟩, .string ⟨#[116, 97, 115, 107, 115]⟩, .string ⟨#[117, 115, 101, 115]⟩] 4 (Nat.le_refl _) (by unfold maxLen; omega) rfl)
              obtain ⟨bk, hbe⟩ : ∃ q, q = v1.heap.size := ⟨_, rfl⟩
              rw [← hbe] at hKr
              try rw [← hbe]
              have hbk : wr.heap.size ≤ bk := by omega
              have hbkl : bk < (v1.alloc (.cells #[.string ⟨#[110, 97, 109, 101]⟩, .string ⟨#[110, 101, 101, 100, 115]⟩, .string ⟨#[116, 97, 115, 107, 115]⟩, .string ⟨#[117, 115, 101, 115]⟩] 9)).heap.size := by simp; omega
              clear hHeld
              refine hK.out _ (v1.alloc (.cells #[.string ⟨#[110, 97, 109, 101]⟩, .string ⟨#[110, 101, 101, 100, 115]⟩, .string ⟨#[116, 97, 115, 107, 115]⟩, .string ⟨#[117, 115, 101, 115]⟩] 9)) ?G81 (fun hHeld => ?_)
              case G81 => ((try dsimp only); exact KEEP.out _ hC)
              clear hK K
              try simp only [Act.put, List.getElem_toArray, List.getElem_cons_zero, List.getElem_cons_succ, List.setIfInBounds_toArray, List.set_cons_zero, List.set_cons_succ]
              generalize hwn : v1.alloc (.cells #[.string ⟨#[110, 97, 109, 101]⟩, .string ⟨#[110, 101, 101, 100, 115]⟩, .string ⟨#[116, 97, 115, 107, 115]⟩, .string ⟨#[117, 115, 101, 115]⟩] 9) = k1 at *
              clear hwn hbe ka hWs
              refine wpAnyH_ready (rs := [8]) (by kernel_rfl) (by simp) ?_
              refine AllReadyH.cons rfl (fun K hK => ?_) AllReadyH.nil
              go_simp
              go_wp2_with (go_at_call 47; refine (HU.out _ (hBw.out.trans (hC.mono hBw.out.size))).mono ?_; rintro e wb ⟨ca, rfl, pt, b1⟩)
              obtain ⟨nz, qz, cz, hnz, rfl⟩ := pt.sliceN
              clear hnz
              have hKr := owns_below hKr b1
              have hwa : wr.heap.size ≤ k1.heap.size := hC.size
              have hC := hC.trans (b1.mono hC.size)
              obtain ⟨wa, hwae⟩ : ∃ q, q = k1 := ⟨_, rfl⟩
              rw [← hwae] at hwa pt
              have nk : ¬ (wa.heap.size ≤ bk ∧ bk < wb.heap.size) := by rw [hwae]; omega
              clear hwae b1
              have hwb : wb.heap.size ≤ wb.heap.size := Nat.le_refl _
              clear hHeld
              refine hK.out _ _ ?G82 (fun hHeld => ?_)
              case G82 => ((try dsimp only); exact KEEP.out _ hC)
              clear hK K
              try simp only [Act.put, List.getElem_toArray, List.getElem_cons_zero, List.getElem_cons_succ, List.setIfInBounds_toArray, List.set_cons_zero, List.set_cons_succ]
              refine wpAnyH_ready (rs := [9]) (by kernel_rfl) (by simp) ?_
              refine AllReadyH.cons rfl (fun K hK => ?_) AllReadyH.nil
              go_simp
              have ka : Below wb.heap.size wb (wb.alloc (.cells #[.int .i64 3, .int .i64 0, .string name, .slice none 0 0, .slice none 0 0, .int .i64 5, .int .i64 0, .string ⟨#[]⟩, .slice qn nN cn, .slice qm nN cm, .int .i64 5, .int .i64 0, .string ⟨#[]⟩, .slice qt nT ct, .slice qv nT cv, .int .i64 4, .int .i64 0, .string ⟨#[]⟩, .slice qz nz cz, .slice none 0 0] 30)) := (Below.refl _ _).alloc (Nat.le_refl _) _
              have hKr := owns_below hKr ka
              have pt := pt.keep (Kp.of ka (fun b h => h.elim (fun h => Nat.lt_of_lt_of_le h.2 hwb) (fun h => h.elim)))
              have hWs := hC.size
              have hC := hC.trans (ka.mono hC.size)
              have hV : (wb.alloc (.cells #[.int .i64 3, .int .i64 0, .string name, .slice none 0 0, .slice none 0 0, .int .i64 5, .int .i64 0, .string ⟨#[]⟩, .slice qn nN cn, .slice qm nN cm, .int .i64 5, .int .i64 0, .string ⟨#[]⟩, .slice qt nT ct, .slice qv nT cv, .int .i64 4, .int .i64 0, .string ⟨#[]⟩, .slice qz nz cz, .slice none 0 0] 30)).ownsRow 0 30 5 (.slice (some ⟨wb.heap.size, 0, none⟩) 4 4) 4 (#[.int .i64 3, .int .i64 0, .string name, .slice none 0 0, .slice none 0 0, .int .i64 5, .int .i64 0, .string ⟨#[]⟩, .slice qn nN cn, .slice qm nN cm, .int .i64 5, .int .i64 0, .string ⟨#[]⟩, .slice qt nT ct, .slice qv nT cv, .int .i64 4, .int .i64 0, .string ⟨#[]⟩, .slice qz nz cz, .slice none 0 0]).toList := owns_lo (Nat.zero_le _) (World.ownsRow_lit wb #[.int .i64 3, .int .i64 0, .string name, .slice none 0 0, .slice none 0 0, .int .i64 5, .int .i64 0, .string ⟨#[]⟩, .slice qn nN cn, .slice qm nN cm, .int .i64 5, .int .i64 0, .string ⟨#[]⟩, .slice qt nT ct, .slice qv nT cv, .int .i64 4, .int .i64 0, .string ⟨#[]⟩, .slice qz nz cz, .slice none 0 0] 4 (Nat.le_refl _) (by unfold maxLen; omega) rfl)
              obtain ⟨bv, hbe⟩ : ∃ q, q = wb.heap.size := ⟨_, rfl⟩
              rw [← hbe] at hV
              try rw [← hbe]
              have hbv : wr.heap.size ≤ bv := by omega
              have nv : ¬ (wa.heap.size ≤ bv ∧ bv < wb.heap.size) := by omega
              have hwb : wb.heap.size ≤ (wb.alloc (.cells #[.int .i64 3, .int .i64 0, .string name, .slice none 0 0, .slice none 0 0, .int .i64 5, .int .i64 0, .string ⟨#[]⟩, .slice qn nN cn, .slice qm nN cm, .int .i64 5, .int .i64 0, .string ⟨#[]⟩, .slice qt nT ct, .slice qv nT cv, .int .i64 4, .int .i64 0, .string ⟨#[]⟩, .slice qz nz cz, .slice none 0 0] 30)).heap.size := by simp <;> omega
              clear hHeld
              refine hK.out _ (wb.alloc (.cells #[.int .i64 3, .int .i64 0, .string name, .slice none 0 0, .slice none 0 0, .int .i64 5, .int .i64 0, .string ⟨#[]⟩, .slice qn nN cn, .slice qm nN cm, .int .i64 5, .int .i64 0, .string ⟨#[]⟩, .slice qt nT ct, .slice qv nT cv, .int .i64 4, .int .i64 0, .string ⟨#[]⟩, .slice qz nz cz, .slice none 0 0] 30)) ?G83 (fun hHeld => ?_)
              case G83 => ((try dsimp only); exact KEEP.out _ hC)
              clear hK K
              try simp only [Act.put, List.getElem_toArray, List.getElem_cons_zero, List.getElem_cons_succ, List.setIfInBounds_toArray, List.set_cons_zero, List.set_cons_succ]
              generalize hwn : wb.alloc (.cells #[.int .i64 3, .int .i64 0, .string name, .slice none 0 0, .slice none 0 0, .int .i64 5, .int .i64 0, .string ⟨#[]⟩, .slice qn nN cn, .slice qm nN cm, .int .i64 5, .int .i64 0, .string ⟨#[]⟩, .slice qt nT ct, .slice qv nT cv, .int .i64 4, .int .i64 0, .string ⟨#[]⟩, .slice qz nz cz, .slice none 0 0] 30) = v7 at *
              clear hwn hbe ka hWs
              refine wpAnyH_take (i := 10) (oi := _) (v := ?vT84) rfl (by kernel_rfl) (by kernel_rfl) (by kernel_rfl) (fun _ _ _ h => h) (Or.inl ⟨by rfl, ?yT84⟩) hHeld ?_
              case yT84 => (intro w hSw; (try dsimp only at hSw); go_simp <;> with_reducible rfl)
              try simp only [Act.put, List.getElem_toArray, List.getElem_cons_zero, List.getElem_cons_succ, List.setIfInBounds_toArray, List.set_cons_zero, List.set_cons_succ]
              have zR := (hC.block _ (by have := hlr.out; omega)).trans hR.out
              have y0 := vblk_cell zR 0
              have y1 := vblk_cell zR 1
              have y2 := vblk_cell zR 2
              have y3 := vblk_cell zR 3
              have y4 := vblk_cell zR 4
              simp only [List.getElem?_toArray, List.getElem?_cons_succ, List.getElem?_cons_zero] at y0 y1 y2 y3 y4
              have fx := vblk_frozen zR
              refine wpAnyH_ready (rs := [11]) (by kernel_rfl) (by simp) ?_
              refine AllReadyH.cons rfl (fun K hK => ?_) AllReadyH.nil
              go_simp
              clear y0 y1 y2 y3 y4 fx
              clear hHeld
              refine hK.out _ (put5 v7 (w.heap.size + 1) (.slice (some ⟨bv, 0, none⟩) 4 4) (.slice (some ⟨bk, 0, none⟩) 4 4)) ?G85 (fun hHeld => ?_)
              case G85 => (exact KEEPP.out _ _ _ hC)
              clear hK K
              try simp only [Act.put, List.getElem_toArray, List.getElem_cons_zero, List.getElem_cons_succ, List.setIfInBounds_toArray, List.set_cons_zero, List.set_cons_succ]
              refine wpAnyH_done (by kernel_rfl) ?_ _
              clear hHeld
              have mk := FINAL.out v7 wa wb bv bk (.slice qz nz cz) hC hwa hwb hbv hbk pt nv nk hV hKr
              have hlS : ∀ b, (S1 b ∨ S2 b ∨ (wa.heap.size ≤ b ∧ b < wb.heap.size) ∨ (Value.slice (some ⟨bv, 0, none⟩) 4 4).ownBlock = some b ∨ (Value.slice (some ⟨bk, 0, none⟩) 4 4).ownBlock = some b) → w.heap.size + 1 + 1 ≤ b := fun b h => by
                have h1 := hLOW.out
                have h2 := hlr.out
                rcases h with h | h | h | h | h
                · have := h1.1 b h; omega
                · have := h1.2.1 b h; have := h1.2.2; omega
                · omega
                · have e : bv = b := by simpa [Value.ownBlock] using h
                  omega
                · have e : bk = b := by simpa [Value.ownBlock] using h
                  omega
              have m3 := (mk.put (g := w.heap.size + 1) (a := .slice (some ⟨bv, 0, none⟩) 4 4) (b := .slice (some ⟨bk, 0, none⟩) 4 4) (fun k => by have := hlS _ k; omega)).mono (S' := fun b => w.heap.size ≤ b ∧ b < (put5 v7 (w.heap.size + 1) (.slice (some ⟨bv, 0, none⟩) 4 4) (.slice (some ⟨bk, 0, none⟩) 4 4)).heap.size) (fun b k => ⟨by have := hlS b k; omega, by rw [put5_size]; exact mk.low b k⟩) (fun b k => k.2)
              have zR2 := put5_zero (c := .slice (some ⟨bv, 0, none⟩) 4 4) (u := .slice (some ⟨bk, 0, none⟩) 4 4) zR
              have b3 := put5_below (g := w.heap.size + 1) (c := .slice (some ⟨bv, 0, none⟩) 4 4) (u := .slice (some ⟨bk, 0, none⟩) 4 4) (hBw.out.trans (hC.mono hBw.out.size)) (by omega)
              generalize hwn : put5 v7 (w.heap.size + 1) (.slice (some ⟨bv, 0, none⟩) 4 4) (.slice (some ⟨bk, 0, none⟩) 4 4) = w9 at *
              clear hwn
              have y0 := vblk_cell zR2 0
              have y1 := vblk_cell zR2 1
              have y2 := vblk_cell zR2 2
              have y3 := vblk_cell zR2 3
              have y4 := vblk_cell zR2 4
              simp only [List.getElem?_toArray, List.getElem?_cons_succ, List.getElem?_cons_zero] at y0 y1 y2 y3 y4
              have HF := hidden (And.intro m3 b3)
              clear m3 b3 zR zR2 mk hlS hC pt hV hKr
              go_wp2_with fail
              refine bodyPost_ret (v := .agg #[.int .i64 5, .int .i64 0, .string ⟨#[]⟩, .slice (some ⟨bv, 0, none⟩) 4 4, .slice (some ⟨bk, 0, none⟩) 4 4]) (by simp [results, Try.results13, go_sem, y0, y1, y2, y3, y4]) rfl ⟨_, _, rfl, HF.out.1, HF.out.2⟩
            · go_simp
              go_wp2_with (go_at_call 47; refine (HU.out _ (hBw.out.trans (hC.mono hBw.out.size))).mono ?_; rintro e wb ⟨ca, rfl, pt, b1⟩)
              obtain ⟨nz, qz, cz, hnz, rfl⟩ := pt.sliceN
              clear hnz
              have hwa : wr.heap.size ≤ v1.heap.size := hC.size
              have hC := hC.trans (b1.mono hC.size)
              obtain ⟨wa, hwae⟩ : ∃ q, q = v1 := ⟨_, rfl⟩
              rw [← hwae] at hwa pt
              clear hwae b1
              have hwb : wb.heap.size ≤ wb.heap.size := Nat.le_refl _
              clear hHeld
              refine hK.out _ _ ?G86 (fun hHeld => ?_)
              case G86 => ((try dsimp only); exact KEEP.out _ hC)
              clear hK K
              try simp only [Act.put, List.getElem_toArray, List.getElem_cons_zero, List.getElem_cons_succ, List.setIfInBounds_toArray, List.set_cons_zero, List.set_cons_succ]
              refine wpAnyH_ready (rs := [0, 9]) (by kernel_rfl) (by simp) ?_
              refine AllReadyH.cons rfl (fun K hK => ?_) (AllReadyH.cons rfl (fun K hK => ?_) AllReadyH.nil)
              · go_simp
                have ka : Below wb.heap.size wb (wb.alloc (.cells #[.string ⟨#[110, 97, 109, 101]⟩, .string ⟨#[110, 101, 101, 100, 115]⟩, .string ⟨#[116, 97, 115, 107, 115]⟩, .string ⟨#[117, 115, 101, 115]⟩] 9)) := (Below.refl _ _).alloc (Nat.le_refl _) _
                have pt := pt.keep (Kp.of ka (fun b h => h.elim (fun h => Nat.lt_of_lt_of_le h.2 hwb) (fun h => h.elim)))
                have hWs := hC.size
                have hC := hC.trans (ka.mono hC.size)
                have hKr : (wb.alloc (.cells #[.string ⟨#[110, 97, 109, 101]⟩, .string ⟨#[110, 101, 101, 100, 115]⟩, .string ⟨#[116, 97, 115, 107, 115]⟩, .string ⟨#[117, 115, 101, 115]⟩] 9)).ownsRow 0 9 1 (.slice (some ⟨wb.heap.size, 0, none⟩) 4 4) 4 (strsV packKeys) := owns_lo (Nat.zero_le _) (World.ownsRow_lit wb #[.string ⟨#[110, 97, 109, 101]⟩, .string ⟨#[110, 101, 101, 100, 115]⟩, .string ⟨#[116, 97, 115, 107, 115]⟩, .string ⟨#[117, 115, 101, 115]⟩] 4 (Nat.le_refl _) (by unfold maxLen; omega) rfl)
                obtain ⟨bk, hbe⟩ : ∃ q, q = wb.heap.size := ⟨_, rfl⟩
                rw [← hbe] at hKr
                try rw [← hbe]
                have hbk : wr.heap.size ≤ bk := by omega
                have hbkl : bk < (wb.alloc (.cells #[.string ⟨#[110, 97, 109, 101]⟩, .string ⟨#[110, 101, 101, 100, 115]⟩, .string ⟨#[116, 97, 115, 107, 115]⟩, .string ⟨#[117, 115, 101, 115]⟩] 9)).heap.size := by simp; omega
                have nk : ¬ (wa.heap.size ≤ bk ∧ bk < wb.heap.size) := by omega
                have hwb : wb.heap.size ≤ (wb.alloc (.cells #[.string ⟨#[110, 97, 109, 101]⟩, .string ⟨#[110, 101, 101, 100, 115]⟩, .string ⟨#[116, 97, 115, 107, 115]⟩, .string ⟨#[117, 115, 101, 115]⟩] 9)).heap.size := by simp <;> omega
                clear hHeld
                refine hK.out _ (wb.alloc (.cells #[.string ⟨#[110, 97, 109, 101]⟩, .string ⟨#[110, 101, 101, 100, 115]⟩, .string ⟨#[116, 97, 115, 107, 115]⟩, .string ⟨#[117, 115, 101, 115]⟩] 9)) ?G87 (fun hHeld => ?_)
                case G87 => ((try dsimp only); exact KEEP.out _ hC)
                clear hK K
                try simp only [Act.put, List.getElem_toArray, List.getElem_cons_zero, List.getElem_cons_succ, List.setIfInBounds_toArray, List.set_cons_zero, List.set_cons_succ]
                generalize hwn : wb.alloc (.cells #[.string ⟨#[110, 97, 109, 101]⟩, .string ⟨#[110, 101, 101, 100, 115]⟩, .string ⟨#[116, 97, 115, 107, 115]⟩, .string ⟨#[117, 115, 101, 115]⟩] 9) = k2 at *
                clear hwn hbe ka hWs
                refine wpAnyH_ready (rs := [9]) (by kernel_rfl) (by simp) ?_
                refine AllReadyH.cons rfl (fun K hK => ?_) AllReadyH.nil
                go_simp
                have ka : Below k2.heap.size k2 (k2.alloc (.cells #[.int .i64 3, .int .i64 0, .string name, .slice none 0 0, .slice none 0 0, .int .i64 5, .int .i64 0, .string ⟨#[]⟩, .slice qn nN cn, .slice qm nN cm, .int .i64 5, .int .i64 0, .string ⟨#[]⟩, .slice qt nT ct, .slice qv nT cv, .int .i64 4, .int .i64 0, .string ⟨#[]⟩, .slice qz nz cz, .slice none 0 0] 30)) := (Below.refl _ _).alloc (Nat.le_refl _) _
                have hKr := owns_below hKr ka
                have pt := pt.keep (Kp.of ka (fun b h => h.elim (fun h => Nat.lt_of_lt_of_le h.2 hwb) (fun h => h.elim)))
                have hWs := hC.size
                have hC := hC.trans (ka.mono hC.size)
                have hV : (k2.alloc (.cells #[.int .i64 3, .int .i64 0, .string name, .slice none 0 0, .slice none 0 0, .int .i64 5, .int .i64 0, .string ⟨#[]⟩, .slice qn nN cn, .slice qm nN cm, .int .i64 5, .int .i64 0, .string ⟨#[]⟩, .slice qt nT ct, .slice qv nT cv, .int .i64 4, .int .i64 0, .string ⟨#[]⟩, .slice qz nz cz, .slice none 0 0] 30)).ownsRow 0 30 5 (.slice (some ⟨k2.heap.size, 0, none⟩) 4 4) 4 (#[.int .i64 3, .int .i64 0, .string name, .slice none 0 0, .slice none 0 0, .int .i64 5, .int .i64 0, .string ⟨#[]⟩, .slice qn nN cn, .slice qm nN cm, .int .i64 5, .int .i64 0, .string ⟨#[]⟩, .slice qt nT ct, .slice qv nT cv, .int .i64 4, .int .i64 0, .string ⟨#[]⟩, .slice qz nz cz, .slice none 0 0]).toList := owns_lo (Nat.zero_le _) (World.ownsRow_lit k2 #[.int .i64 3, .int .i64 0, .string name, .slice none 0 0, .slice none 0 0, .int .i64 5, .int .i64 0, .string ⟨#[]⟩, .slice qn nN cn, .slice qm nN cm, .int .i64 5, .int .i64 0, .string ⟨#[]⟩, .slice qt nT ct, .slice qv nT cv, .int .i64 4, .int .i64 0, .string ⟨#[]⟩, .slice qz nz cz, .slice none 0 0] 4 (Nat.le_refl _) (by unfold maxLen; omega) rfl)
                obtain ⟨bv, hbe⟩ : ∃ q, q = k2.heap.size := ⟨_, rfl⟩
                rw [← hbe] at hV
                try rw [← hbe]
                have hbv : wr.heap.size ≤ bv := by omega
                have nv : ¬ (wa.heap.size ≤ bv ∧ bv < wb.heap.size) := by omega
                have hwb : wb.heap.size ≤ (k2.alloc (.cells #[.int .i64 3, .int .i64 0, .string name, .slice none 0 0, .slice none 0 0, .int .i64 5, .int .i64 0, .string ⟨#[]⟩, .slice qn nN cn, .slice qm nN cm, .int .i64 5, .int .i64 0, .string ⟨#[]⟩, .slice qt nT ct, .slice qv nT cv, .int .i64 4, .int .i64 0, .string ⟨#[]⟩, .slice qz nz cz, .slice none 0 0] 30)).heap.size := by simp <;> omega
                clear hHeld
                refine hK.out _ (k2.alloc (.cells #[.int .i64 3, .int .i64 0, .string name, .slice none 0 0, .slice none 0 0, .int .i64 5, .int .i64 0, .string ⟨#[]⟩, .slice qn nN cn, .slice qm nN cm, .int .i64 5, .int .i64 0, .string ⟨#[]⟩, .slice qt nT ct, .slice qv nT cv, .int .i64 4, .int .i64 0, .string ⟨#[]⟩, .slice qz nz cz, .slice none 0 0] 30)) ?G88 (fun hHeld => ?_)
                case G88 => ((try dsimp only); exact KEEP.out _ hC)
                clear hK K
                try simp only [Act.put, List.getElem_toArray, List.getElem_cons_zero, List.getElem_cons_succ, List.setIfInBounds_toArray, List.set_cons_zero, List.set_cons_succ]
                generalize hwn : k2.alloc (.cells #[.int .i64 3, .int .i64 0, .string name, .slice none 0 0, .slice none 0 0, .int .i64 5, .int .i64 0, .string ⟨#[]⟩, .slice qn nN cn, .slice qm nN cm, .int .i64 5, .int .i64 0, .string ⟨#[]⟩, .slice qt nT ct, .slice qv nT cv, .int .i64 4, .int .i64 0, .string ⟨#[]⟩, .slice qz nz cz, .slice none 0 0] 30) = v7 at *
                clear hwn hbe ka hWs
                refine wpAnyH_take (i := 10) (oi := _) (v := ?vT89) rfl (by kernel_rfl) (by kernel_rfl) (by kernel_rfl) (fun _ _ _ h => h) (Or.inl ⟨by rfl, ?yT89⟩) hHeld ?_
                case yT89 => (intro w hSw; (try dsimp only at hSw); go_simp <;> with_reducible rfl)
                try simp only [Act.put, List.getElem_toArray, List.getElem_cons_zero, List.getElem_cons_succ, List.setIfInBounds_toArray, List.set_cons_zero, List.set_cons_succ]
                have zR := (hC.block _ (by have := hlr.out; omega)).trans hR.out
                have y0 := vblk_cell zR 0
                have y1 := vblk_cell zR 1
                have y2 := vblk_cell zR 2
                have y3 := vblk_cell zR 3
                have y4 := vblk_cell zR 4
                simp only [List.getElem?_toArray, List.getElem?_cons_succ, List.getElem?_cons_zero] at y0 y1 y2 y3 y4
                have fx := vblk_frozen zR
                refine wpAnyH_ready (rs := [11]) (by kernel_rfl) (by simp) ?_
                refine AllReadyH.cons rfl (fun K hK => ?_) AllReadyH.nil
                go_simp
                clear y0 y1 y2 y3 y4 fx
                clear hHeld
                refine hK.out _ (put5 v7 (w.heap.size + 1) (.slice (some ⟨bv, 0, none⟩) 4 4) (.slice (some ⟨bk, 0, none⟩) 4 4)) ?G90 (fun hHeld => ?_)
                case G90 => (exact KEEPP.out _ _ _ hC)
                clear hK K
                try simp only [Act.put, List.getElem_toArray, List.getElem_cons_zero, List.getElem_cons_succ, List.setIfInBounds_toArray, List.set_cons_zero, List.set_cons_succ]
                refine wpAnyH_done (by kernel_rfl) ?_ _
                clear hHeld
                have mk := FINAL.out v7 wa wb bv bk (.slice qz nz cz) hC hwa hwb hbv hbk pt nv nk hV hKr
                have hlS : ∀ b, (S1 b ∨ S2 b ∨ (wa.heap.size ≤ b ∧ b < wb.heap.size) ∨ (Value.slice (some ⟨bv, 0, none⟩) 4 4).ownBlock = some b ∨ (Value.slice (some ⟨bk, 0, none⟩) 4 4).ownBlock = some b) → w.heap.size + 1 + 1 ≤ b := fun b h => by
                  have h1 := hLOW.out
                  have h2 := hlr.out
                  rcases h with h | h | h | h | h
                  · have := h1.1 b h; omega
                  · have := h1.2.1 b h; have := h1.2.2; omega
                  · omega
                  · have e : bv = b := by simpa [Value.ownBlock] using h
                    omega
                  · have e : bk = b := by simpa [Value.ownBlock] using h
                    omega
                have m3 := (mk.put (g := w.heap.size + 1) (a := .slice (some ⟨bv, 0, none⟩) 4 4) (b := .slice (some ⟨bk, 0, none⟩) 4 4) (fun k => by have := hlS _ k; omega)).mono (S' := fun b => w.heap.size ≤ b ∧ b < (put5 v7 (w.heap.size + 1) (.slice (some ⟨bv, 0, none⟩) 4 4) (.slice (some ⟨bk, 0, none⟩) 4 4)).heap.size) (fun b k => ⟨by have := hlS b k; omega, by rw [put5_size]; exact mk.low b k⟩) (fun b k => k.2)
                have zR2 := put5_zero (c := .slice (some ⟨bv, 0, none⟩) 4 4) (u := .slice (some ⟨bk, 0, none⟩) 4 4) zR
                have b3 := put5_below (g := w.heap.size + 1) (c := .slice (some ⟨bv, 0, none⟩) 4 4) (u := .slice (some ⟨bk, 0, none⟩) 4 4) (hBw.out.trans (hC.mono hBw.out.size)) (by omega)
                generalize hwn : put5 v7 (w.heap.size + 1) (.slice (some ⟨bv, 0, none⟩) 4 4) (.slice (some ⟨bk, 0, none⟩) 4 4) = w9 at *
                clear hwn
                have y0 := vblk_cell zR2 0
                have y1 := vblk_cell zR2 1
                have y2 := vblk_cell zR2 2
                have y3 := vblk_cell zR2 3
                have y4 := vblk_cell zR2 4
                simp only [List.getElem?_toArray, List.getElem?_cons_succ, List.getElem?_cons_zero] at y0 y1 y2 y3 y4
                have HF := hidden (And.intro m3 b3)
                clear m3 b3 zR zR2 mk hlS hC pt hV hKr
                go_wp2_with fail
                refine bodyPost_ret (v := .agg #[.int .i64 5, .int .i64 0, .string ⟨#[]⟩, .slice (some ⟨bv, 0, none⟩) 4 4, .slice (some ⟨bk, 0, none⟩) 4 4]) (by simp [results, Try.results13, go_sem, y0, y1, y2, y3, y4]) rfl ⟨_, _, rfl, HF.out.1, HF.out.2⟩
              · go_simp
                have ka : Below wb.heap.size wb (wb.alloc (.cells #[.int .i64 3, .int .i64 0, .string name, .slice none 0 0, .slice none 0 0, .int .i64 5, .int .i64 0, .string ⟨#[]⟩, .slice qn nN cn, .slice qm nN cm, .int .i64 5, .int .i64 0, .string ⟨#[]⟩, .slice qt nT ct, .slice qv nT cv, .int .i64 4, .int .i64 0, .string ⟨#[]⟩, .slice qz nz cz, .slice none 0 0] 30)) := (Below.refl _ _).alloc (Nat.le_refl _) _
                have pt := pt.keep (Kp.of ka (fun b h => h.elim (fun h => Nat.lt_of_lt_of_le h.2 hwb) (fun h => h.elim)))
                have hWs := hC.size
                have hC := hC.trans (ka.mono hC.size)
                have hV : (wb.alloc (.cells #[.int .i64 3, .int .i64 0, .string name, .slice none 0 0, .slice none 0 0, .int .i64 5, .int .i64 0, .string ⟨#[]⟩, .slice qn nN cn, .slice qm nN cm, .int .i64 5, .int .i64 0, .string ⟨#[]⟩, .slice qt nT ct, .slice qv nT cv, .int .i64 4, .int .i64 0, .string ⟨#[]⟩, .slice qz nz cz, .slice none 0 0] 30)).ownsRow 0 30 5 (.slice (some ⟨wb.heap.size, 0, none⟩) 4 4) 4 (#[.int .i64 3, .int .i64 0, .string name, .slice none 0 0, .slice none 0 0, .int .i64 5, .int .i64 0, .string ⟨#[]⟩, .slice qn nN cn, .slice qm nN cm, .int .i64 5, .int .i64 0, .string ⟨#[]⟩, .slice qt nT ct, .slice qv nT cv, .int .i64 4, .int .i64 0, .string ⟨#[]⟩, .slice qz nz cz, .slice none 0 0]).toList := owns_lo (Nat.zero_le _) (World.ownsRow_lit wb #[.int .i64 3, .int .i64 0, .string name, .slice none 0 0, .slice none 0 0, .int .i64 5, .int .i64 0, .string ⟨#[]⟩, .slice qn nN cn, .slice qm nN cm, .int .i64 5, .int .i64 0, .string ⟨#[]⟩, .slice qt nT ct, .slice qv nT cv, .int .i64 4, .int .i64 0, .string ⟨#[]⟩, .slice qz nz cz, .slice none 0 0] 4 (Nat.le_refl _) (by unfold maxLen; omega) rfl)
                obtain ⟨bv, hbe⟩ : ∃ q, q = wb.heap.size := ⟨_, rfl⟩
                rw [← hbe] at hV
                try rw [← hbe]
                have hbv : wr.heap.size ≤ bv := by omega
                have nv : ¬ (wa.heap.size ≤ bv ∧ bv < wb.heap.size) := by omega
                have hwb : wb.heap.size ≤ (wb.alloc (.cells #[.int .i64 3, .int .i64 0, .string name, .slice none 0 0, .slice none 0 0, .int .i64 5, .int .i64 0, .string ⟨#[]⟩, .slice qn nN cn, .slice qm nN cm, .int .i64 5, .int .i64 0, .string ⟨#[]⟩, .slice qt nT ct, .slice qv nT cv, .int .i64 4, .int .i64 0, .string ⟨#[]⟩, .slice qz nz cz, .slice none 0 0] 30)).heap.size := by simp <;> omega
                clear hHeld
                refine hK.out _ (wb.alloc (.cells #[.int .i64 3, .int .i64 0, .string name, .slice none 0 0, .slice none 0 0, .int .i64 5, .int .i64 0, .string ⟨#[]⟩, .slice qn nN cn, .slice qm nN cm, .int .i64 5, .int .i64 0, .string ⟨#[]⟩, .slice qt nT ct, .slice qv nT cv, .int .i64 4, .int .i64 0, .string ⟨#[]⟩, .slice qz nz cz, .slice none 0 0] 30)) ?G91 (fun hHeld => ?_)
                case G91 => ((try dsimp only); exact KEEP.out _ hC)
                clear hK K
                try simp only [Act.put, List.getElem_toArray, List.getElem_cons_zero, List.getElem_cons_succ, List.setIfInBounds_toArray, List.set_cons_zero, List.set_cons_succ]
                generalize hwn : wb.alloc (.cells #[.int .i64 3, .int .i64 0, .string name, .slice none 0 0, .slice none 0 0, .int .i64 5, .int .i64 0, .string ⟨#[]⟩, .slice qn nN cn, .slice qm nN cm, .int .i64 5, .int .i64 0, .string ⟨#[]⟩, .slice qt nT ct, .slice qv nT cv, .int .i64 4, .int .i64 0, .string ⟨#[]⟩, .slice qz nz cz, .slice none 0 0] 30) = v3 at *
                clear hwn hbe ka hWs
                refine wpAnyH_ready (rs := [0]) (by kernel_rfl) (by simp) ?_
                refine AllReadyH.cons rfl (fun K hK => ?_) AllReadyH.nil
                go_simp
                have ka : Below v3.heap.size v3 (v3.alloc (.cells #[.string ⟨#[110, 97, 109, 101]⟩, .string ⟨#[110, 101, 101, 100, 115]⟩, .string ⟨#[116, 97, 115, 107, 115]⟩, .string ⟨#[117, 115, 101, 115]⟩] 9)) := (Below.refl _ _).alloc (Nat.le_refl _) _
                have hV := owns_below hV ka
                have pt := pt.keep (Kp.of ka (fun b h => h.elim (fun h => Nat.lt_of_lt_of_le h.2 hwb) (fun h => h.elim)))
                have hWs := hC.size
                have hC := hC.trans (ka.mono hC.size)
                have hKr : (v3.alloc (.cells #[.string ⟨#[110, 97, 109, 101]⟩, .string ⟨#[110, 101, 101, 100, 115]⟩, .string ⟨#[116, 97, 115, 107, 115]⟩, .string ⟨#[117, 115, 101, 115]⟩] 9)).ownsRow 0 9 1 (.slice (some ⟨v3.heap.size, 0, none⟩) 4 4) 4 (strsV packKeys) := owns_lo (Nat.zero_le _) (World.ownsRow_lit v3 #[.string ⟨#[110, 97, 109, 101]⟩, .string ⟨#[110, 101, 101, 100, 115]⟩, .string ⟨#[116, 97, 115, 107, 115]⟩, .string ⟨#[117, 115, 101, 115]⟩] 4 (Nat.le_refl _) (by unfold maxLen; omega) rfl)
                obtain ⟨bk, hbe⟩ : ∃ q, q = v3.heap.size := ⟨_, rfl⟩
                rw [← hbe] at hKr
                try rw [← hbe]
                have hbk : wr.heap.size ≤ bk := by omega
                have hbkl : bk < (v3.alloc (.cells #[.string ⟨#[110, 97, 109, 101]⟩, .string ⟨#[110, 101, 101, 100, 115]⟩, .string ⟨#[116, 97, 115, 107, 115]⟩, .string ⟨#[117, 115, 101, 115]⟩] 9)).heap.size := by simp; omega
                have nk : ¬ (wa.heap.size ≤ bk ∧ bk < wb.heap.size) := by omega
                have hwb : wb.heap.size ≤ (v3.alloc (.cells #[.string ⟨#[110, 97, 109, 101]⟩, .string ⟨#[110, 101, 101, 100, 115]⟩, .string ⟨#[116, 97, 115, 107, 115]⟩, .string ⟨#[117, 115, 101, 115]⟩] 9)).heap.size := by simp <;> omega
                clear hHeld
                refine hK.out _ (v3.alloc (.cells #[.string ⟨#[110, 97, 109, 101]⟩, .string ⟨#[110, 101, 101, 100, 115]⟩, .string ⟨#[116, 97, 115, 107, 115]⟩, .string ⟨#[117, 115, 101, 115]⟩] 9)) ?G92 (fun hHeld => ?_)
                case G92 => ((try dsimp only); exact KEEP.out _ hC)
                clear hK K
                try simp only [Act.put, List.getElem_toArray, List.getElem_cons_zero, List.getElem_cons_succ, List.setIfInBounds_toArray, List.set_cons_zero, List.set_cons_succ]
                generalize hwn : v3.alloc (.cells #[.string ⟨#[110, 97, 109, 101]⟩, .string ⟨#[110, 101, 101, 100, 115]⟩, .string ⟨#[116, 97, 115, 107, 115]⟩, .string ⟨#[117, 115, 101, 115]⟩] 9) = k3 at *
                clear hwn hbe ka hWs
                refine wpAnyH_take (i := 10) (oi := _) (v := ?vT93) rfl (by kernel_rfl) (by kernel_rfl) (by kernel_rfl) (fun _ _ _ h => h) (Or.inl ⟨by rfl, ?yT93⟩) hHeld ?_
                case yT93 => (intro w hSw; (try dsimp only at hSw); go_simp <;> with_reducible rfl)
                try simp only [Act.put, List.getElem_toArray, List.getElem_cons_zero, List.getElem_cons_succ, List.setIfInBounds_toArray, List.set_cons_zero, List.set_cons_succ]
                have zR := (hC.block _ (by have := hlr.out; omega)).trans hR.out
                have y0 := vblk_cell zR 0
                have y1 := vblk_cell zR 1
                have y2 := vblk_cell zR 2
                have y3 := vblk_cell zR 3
                have y4 := vblk_cell zR 4
                simp only [List.getElem?_toArray, List.getElem?_cons_succ, List.getElem?_cons_zero] at y0 y1 y2 y3 y4
                have fx := vblk_frozen zR
                refine wpAnyH_ready (rs := [11]) (by kernel_rfl) (by simp) ?_
                refine AllReadyH.cons rfl (fun K hK => ?_) AllReadyH.nil
                go_simp
                clear y0 y1 y2 y3 y4 fx
                clear hHeld
                refine hK.out _ (put5 k3 (w.heap.size + 1) (.slice (some ⟨bv, 0, none⟩) 4 4) (.slice (some ⟨bk, 0, none⟩) 4 4)) ?G94 (fun hHeld => ?_)
                case G94 => (exact KEEPP.out _ _ _ hC)
                clear hK K
                try simp only [Act.put, List.getElem_toArray, List.getElem_cons_zero, List.getElem_cons_succ, List.setIfInBounds_toArray, List.set_cons_zero, List.set_cons_succ]
                refine wpAnyH_done (by kernel_rfl) ?_ _
                clear hHeld
                have mk := FINAL.out k3 wa wb bv bk (.slice qz nz cz) hC hwa hwb hbv hbk pt nv nk hV hKr
                have hlS : ∀ b, (S1 b ∨ S2 b ∨ (wa.heap.size ≤ b ∧ b < wb.heap.size) ∨ (Value.slice (some ⟨bv, 0, none⟩) 4 4).ownBlock = some b ∨ (Value.slice (some ⟨bk, 0, none⟩) 4 4).ownBlock = some b) → w.heap.size + 1 + 1 ≤ b := fun b h => by
                  have h1 := hLOW.out
                  have h2 := hlr.out
                  rcases h with h | h | h | h | h
                  · have := h1.1 b h; omega
                  · have := h1.2.1 b h; have := h1.2.2; omega
                  · omega
                  · have e : bv = b := by simpa [Value.ownBlock] using h
                    omega
                  · have e : bk = b := by simpa [Value.ownBlock] using h
                    omega
                have m3 := (mk.put (g := w.heap.size + 1) (a := .slice (some ⟨bv, 0, none⟩) 4 4) (b := .slice (some ⟨bk, 0, none⟩) 4 4) (fun k => by have := hlS _ k; omega)).mono (S' := fun b => w.heap.size ≤ b ∧ b < (put5 k3 (w.heap.size + 1) (.slice (some ⟨bv, 0, none⟩) 4 4) (.slice (some ⟨bk, 0, none⟩) 4 4)).heap.size) (fun b k => ⟨by have := hlS b k; omega, by rw [put5_size]; exact mk.low b k⟩) (fun b k => k.2)
                have zR2 := put5_zero (c := .slice (some ⟨bv, 0, none⟩) 4 4) (u := .slice (some ⟨bk, 0, none⟩) 4 4) zR
                have b3 := put5_below (g := w.heap.size + 1) (c := .slice (some ⟨bv, 0, none⟩) 4 4) (u := .slice (some ⟨bk, 0, none⟩) 4 4) (hBw.out.trans (hC.mono hBw.out.size)) (by omega)
                generalize hwn : put5 k3 (w.heap.size + 1) (.slice (some ⟨bv, 0, none⟩) 4 4) (.slice (some ⟨bk, 0, none⟩) 4 4) = w9 at *
                clear hwn
                have y0 := vblk_cell zR2 0
                have y1 := vblk_cell zR2 1
                have y2 := vblk_cell zR2 2
                have y3 := vblk_cell zR2 3
                have y4 := vblk_cell zR2 4
                simp only [List.getElem?_toArray, List.getElem?_cons_succ, List.getElem?_cons_zero] at y0 y1 y2 y3 y4
                have HF := hidden (And.intro m3 b3)
                clear m3 b3 zR zR2 mk hlS hC pt hV hKr
                go_wp2_with fail
                refine bodyPost_ret (v := .agg #[.int .i64 5, .int .i64 0, .string ⟨#[]⟩, .slice (some ⟨bv, 0, none⟩) 4 4, .slice (some ⟨bk, 0, none⟩) 4 4]) (by simp [results, Try.results13, go_sem, y0, y1, y2, y3, y4]) rfl ⟨_, _, rfl, HF.out.1, HF.out.2⟩
end Go.Proofs.Ytbolphjigjpmiaa
