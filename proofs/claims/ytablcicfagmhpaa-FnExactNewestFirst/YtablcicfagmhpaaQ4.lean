/-
  Contracts for the walks, several texts in one: each part says what it proves, and under which conditions.
-/
import Derived.Deep.RegionHeld
import Derived.Test.YtablcicfagmhpaaQ3
import Derived.Test.YtablcicfagmhpaaQ2

/-! The newest first, as the specification answers it: a contract for the walk; conditions: what comes in lies in memory, and holds at most 2 to the 20. -/
namespace Go.Proofs.Ytablcicfagmhpaa
open Go.RowKit
set_option linter.unusedSimpArgs false
set_option linter.unusedVariables false

theorem src_newN (w : World) (cs : List Value) (t : TypeId) : ∀ j u, cs[j]? = some u → (w.alloc (.cells cs.toArray t)).cell? ((⟨w.heap.size, 0, none⟩ : Addr).add j) = some u := fun j u hu => by
  have e : ((⟨w.heap.size, 0, none⟩ : Addr).add j) = ⟨w.heap.size, j, none⟩ := by unfold Addr.add; split <;> simp_all
  rw [e, vblk_cell (vheap_new _ _) j]
  simpa using hu
theorem RowE.cell {B g n cap : Nat} {w : World} {ps : List EC} (h : RowE B w (.slice (some ⟨g, 0, none⟩) n cap) ps) (hn : n = ps.length) {i : Nat} (hi : i < ps.length) (j : Nat) (hj : j < 6) : w.cell? ⟨g, i * 6 + j, none⟩ = (ps[i].cells)[j]? := by
  subst hn
  rw [h.1.cellAt _ (by omega), flatE_at ps i hi j hj]
theorem rowE_some {B : Nat} {w : World} {v : Value} {ps : List EC} (h : RowE B w v ps) (hp : 0 < ps.length) : ∃ g cap, v = .slice (some ⟨g, 0, none⟩) ps.length cap := by
  rcases id h.1.2 with ⟨rfl, h0⟩ | ⟨g, cap, cur, rfl, _⟩
  · omega
  · exact ⟨g, cap, rfl⟩
theorem ent_slices {w : World} {p : EC} (h : EntOwn w p) : ∃ q0 c0 q1 c1, p.u0 = .slice q0 p.d.vP.length c0 ∧ p.u1 = .slice q1 p.d.needs.length c1 := by
  obtain ⟨q0, c0, e0⟩ := owns_sliceP h.1
  obtain ⟨q1, c1, e1⟩ := owns_sliceP h.2
  exact ⟨q0, c0, q1, c1, e0, e1⟩
theorem entC_of {S : Nat → Prop} {w : World} {cs : List Value} {d : EntryD} (h : shEntryO.lies S w cs d) : ∃ p : EC, p.d = d ∧ cs = p.cells ∧ EntOwn w p := by
  obtain ⟨u0, u1, rfl, _, r0, _, r1⟩ := h
  obtain ⟨_, ys, ho, _, hld⟩ := r1
  have hy := laid_needs hld ho.1
  subst hy
  exact ⟨⟨d, u0, u1⟩, rfl, rfl, r0.1, ho⟩
theorem RowE.setN {B g n cap : Nat} {w : World} {ps : List EC} (h : RowE B w (.slice (some ⟨g, 0, none⟩) n cap) ps) (hn : n = ps.length) {i : Nat} (hi : i < ps.length) {p : EC} (hp : EntOwn w p) : RowE B (setW w g (i * 6) p.cells) (.slice (some ⟨g, 0, none⟩) n cap) (ps.set i p) := by
  subst hn
  have h9 := h.set hi hp
  rw [List.length_set] at h9
  exact h9
theorem insG_mem {α : Type} {f : α → α → Bool} {ys : List α} {x d : α} (h : d ∈ insG f ys x) : d ∈ ys ∨ d = x := by
  unfold insG at h
  rcases List.mem_append.1 h with h | h
  · exact .inl (List.mem_of_mem_take h)
  · rcases List.mem_cons.1 h with h | h
    · exact .inr h
    · exact .inl (List.mem_of_mem_drop h)
theorem fold_insG_mem {α : Type} {f : α → α → Bool} {d : α} : ∀ (l acc : List α), d ∈ l.foldl (insG f) acc → d ∈ acc ∨ d ∈ l := by
  intro l
  induction l with
  | nil => intro acc h; exact .inl h
  | cons x l ih =>
    intro acc h
    rcases ih _ h with h | h
    · rcases insG_mem h with h | rfl
      · exact .inl h
      · exact .inr List.mem_cons_self
    · exact .inr (List.mem_cons_of_mem _ h)
theorem newD_mem {xs : List EntryD} {n : ByteArray} {d : EntryD} (h : d ∈ newD xs n) : d ∈ xs := by
  rcases fold_insG_mem _ _ h with h | h
  · cases h
  · exact (List.mem_filter.1 h).1
theorem wtE_vP {d : EntryD} (h : wtEntry d ≤ 1048576) : bulkS d.vP ≤ 1048576 := by
  have : d.name.size + bulkS d.vP + wtRow wtNeed d.needs ≤ 1048576 := h
  omega
theorem hole_self (ys : List EC) (k : Nat) (z : EC) (h : k ≤ ys.length) : (holeC ys k z)[k]? = some z := by
  unfold holeC
  rw [List.getElem?_append_right (by simp; omega)]
  have : k - (ys.take k).length = 0 := by simp; omega
  rw [this]
  rfl
theorem RowE.hole {B g n cap : Nat} {w : World} {ps : List EC} {k : Nat} {z : EC} (h : RowE B w (.slice (some ⟨g, 0, none⟩) n cap) (holeC ps k z)) (hn : n = ps.length + 1) (hk : k ≤ ps.length) (j : Nat) (hj : j < 6) : w.cell? ⟨g, k * 6 + j, none⟩ = (z.cells)[j]? := by
  have hl := hole_len ps k z hk
  have hki : k < (holeC ps k z).length := by omega
  have h9 := h.cell (by omega) (i := k) hki j hj
  have e8 := hole_self ps k z hk
  rw [List.getElem?_eq_getElem hki] at e8
  rw [Option.some.inj e8] at h9
  exact h9
theorem RowE.frz {B g n cap : Nat} {w : World} {ps : List EC} (h : RowE B w (.slice (some ⟨g, 0, none⟩) n cap) ps) (hn : n = ps.length) (j : Nat) : w.frozen? ⟨g, j, none⟩ = false := by
  subst hn
  exact h.1.frozenAt j
theorem box_far {w : World} {N g : Nat} {o : Obj} (hn : N ≠ g) (cs : List Value) : ∀ (w : World) (j : Nat), w.heap[N]? = some o → (setW w g j cs).heap[N]? = some o := by
  intro w j h
  exact (setW_kp (S := fun b => b = N) (fun e => hn e.symm) cs w j N rfl).trans h

set_option maxHeartbeats 16000000 in
set_option maxRecDepth 100000 in
theorem specNewest_c (S : Nat → Prop) (v : Value) (xs : List EntryD) (n : ByteArray) (w : World) (hv : RowIn shEntryO S w v xs) (hB : ∀ b, S b → b < w.heap.size) (hw : wtRow wtEntry xs ≤ 1048576) :
    Calls Try.prog 5 #[v, .string n] w fun e w' => ∃ v' ps, e = .returned v' ∧ RowE w.heap.size w' v' ps ∧ ps.map EC.d = newD xs n ∧ Below w.heap.size w w' := by
  obtain ⟨i0, hi0, hz0, hz1, hz2⟩ := info_parts infoEntry
  have hwe : ∀ d ∈ xs, wtEntry d ≤ 1048576 := fun d hd => Nat.le_trans (wt_wtRow wtEntry hd) hw
  have hlx := len_wtRow wtEntry xs
  obtain ⟨av, cv, rfl, hl, hc, ha⟩ := hv
  unfold maxLen at hl
  have hbx : Below w.heap.size w (w.alloc (.cells #[] 40)) := (Below.refl _ _).alloc (Nat.le_refl _) _
  have hg0 : RowE w.heap.size (w.alloc (.cells #[] 40)) (.slice (some ⟨w.heap.size, 0, none⟩) 0 0) [] := ⟨World.ownsRow_lit w #[] 0 (Nat.le_refl _) (by unfold maxLen; omega) rfl, fun p hp => by simp at hp⟩
  have HWE := hidden hwe
  clear hwe
  go_enter Try.func5, Try.ntmps5
  go_wp2_with fail
  go_loopw [5, 6] (fun vx vi wr => ∃ (i : Nat) (vo : Value) (ps : List EC), i ≤ xs.length ∧ vi = .int .i64 (i : Int) ∧ vx = vo ∧ Hid (ps.map EC.d = newD (xs.take i) n) ∧ Hid (RowE w.heap.size wr vo ps) ∧ Below w.heap.size w wr) (fun _ vi _ => xs.length - (intOf vi).toNat)
  case atStart => exact ⟨0, _, [], Nat.zero_le _, rfl, rfl, (by show _ = _; simp [newD]), hg0, hbx⟩
  case round =>
    clear hbx hg0
    obtain ⟨wo, hwo⟩ : ∃ wo, wo = wr := ⟨_, rfl⟩
    subst hwo
    obtain ⟨i, vo, ps, hil, rfl, hvx, hps, hrow, hbr⟩ := hrel
    have hpl : ps.length ≤ i := by
      have h1 := newD_len xs n i hil
      have h2 := congrArg List.length hps.out
      rw [List.length_map] at h2
      omega
    have hwp : Hid (∀ q ∈ ps, bulkS q.d.vP ≤ 1048576) := fun q hq => by
      have h1 : q.d ∈ ps.map EC.d := List.mem_map_of_mem hq
      rw [hps.out] at h1
      exact wtE_vP (HWE.out _ (List.mem_of_mem_take (newD_mem h1)))
    obtain ⟨qo, co, hvo⟩ := owns_sliceP hrow.out.1
    subst hvx
    subst hvo
    by_cases hlt : i < xs.length
    · rcases ha with rfl | ⟨b, off, rfl, hlb, ha⟩
      · simp at hlt
      obtain ⟨cs, hL, hcell⟩ := ha i hlt
      have hcell2 := hcell.keep (.of hbr hB) hlb
      replace hL := shEntryO.keep (.of hbr hB) hL
      have hBr : ∀ b, S b → b < wo.heap.size := fun b h => Nat.lt_of_lt_of_le (hB b h) hbr.size
      have hwk := HWE.out xs[i] (List.getElem_mem hlt)
      have HST := hidden (newD_step xs n i hlt)
      obtain ⟨d, hd⟩ : ∃ d, d = xs[i] := ⟨_, rfl⟩
      rw [← hd] at hL hwk HST
      have HCP' : ∀ w1, Below wo.heap.size wo w1 → Calls Try.prog 12 #[.agg cs.toArray] w1 fun e w' => ∃ cs', e = .returned (.agg cs'.toArray) ∧ shEntryO.lies (Ow w1.heap.size w'.heap.size) w' cs' d ∧ Below w1.heap.size w1 w' := fun w1 h => l8Copy_c S d cs w1 (shEntryO.keep (.of h hBr) hL) (fun b hb => Nat.lt_of_lt_of_le (hBr b hb) h.size) hwk
      obtain ⟨u0, u1, rfl, s_n, r0, p0, r1⟩ := hL
      obtain ⟨a0, cap0, eu0⟩ := r0.slice
      subst eu0
      obtain ⟨a1, cap1, eu1⟩ := r1.slice
      subst eu1
      have HCP := hidden HCP'
      have e0 : wo.cell? ⟨b, off + i * 6, none⟩ = some (.string d.name) := hcell2 0 (by simp)
      have e1 : wo.cell? ⟨b, off + i * 6 + 1, none⟩ = some (.int .i64 d.vA) := hcell2 1 (by simp)
      have e2 : wo.cell? ⟨b, off + i * 6 + 2, none⟩ = some (.int .i64 d.vB) := hcell2 2 (by simp)
      have e3 : wo.cell? ⟨b, off + i * 6 + 3, none⟩ = some (.int .i64 d.vC) := hcell2 3 (by simp)
      have e4 : wo.cell? ⟨b, off + i * 6 + 4, none⟩ = some (.slice a0 d.vP.length cap0) := hcell2 4 (by simp)
      have e5 : wo.cell? ⟨b, off + i * 6 + 5, none⟩ = some (.slice a1 d.needs.length cap1) := hcell2 5 (by simp)
      have hki : (i : Int) < (xs.length : Int) := by omega
      have hal := name_alike d.name n
      have hbkd : bulkS d.vP ≤ 1048576 := by
        have : d.name.size + bulkS d.vP + wtRow wtNeed d.needs ≤ 1048576 := hwk
        omega
      clear ha hd hcell hcell2 HCP' r0 r1 p0 s_n hwk
      by_cases hts : d.name = n
      case neg =>
        have hq : (d.name.toList == n.toList) = false := by rw [hal]; simpa using hts
        rw [if_neg hts] at HST
        clear hts hal HCP
        go_wp2_with fail
        go_roundw
        case rel => exact ⟨i + 1, _, ps, by omega, by go_num, rfl, (by show _ = _; rw [HST.out]; exact hps.out), hrow, hbr⟩
        case measure => simp [intOf]; omega
      case pos =>
      have hq : (d.name.toList == n.toList) = true := by rw [hal]; simpa using hts
      rw [if_pos hts] at HST
      clear hts hal
      go_wp2_with fail
      go_at_call 12
      refine (HCP.out _ (Below.refl _ _)).mono ?_
      rintro e w2 ⟨cs2, rfl, hX2, b2⟩
      obtain ⟨p, hpd, hpc, hpo⟩ := entC_of hX2
      subst hpc
      have hrow2 := hrow.out.below b2
      have k2 := hbr.trans (b2.mono hbr.size)
      obtain ⟨q0, c0, q1, c1, f0, f1⟩ := ent_slices hpo
      have hpcells : p.cells = [.string d.name, .int .i64 d.vA, .int .i64 d.vB, .int .i64 d.vC, .slice q0 d.vP.length c0, .slice q1 d.needs.length c1] := by unfold EC.cells; rw [f0, f1, hpd]
      have HPC := hidden hpcells
      rw [hpcells]
      have hown2 : w2.ownsRow w.heap.size 40 6 (.slice qo ps.length co) ps.length (flatE ps) := hrow2.1
      have kz : Below w.heap.size w (w2.alloc (.cells #[.string d.name, .int .i64 d.vA, .int .i64 d.vB, .int .i64 d.vC, .slice q0 d.vP.length c0, .slice q1 d.needs.length c1] 40)) := k2.alloc k2.size _
      have HALL : Hid (∀ q ∈ ps, EntOwn w2 q) := hrow2.2
      clear HCP hX2 hrow hrow2 e0 e1 e2 e3 e4 e5
      go_wp2_with (at_builtin; refine wpList_append_own _ rfl _ _ 24 rfl w.heap.size 40 i0 (.agg #[.string ⟨#[]⟩, .int .i64 0, .int .i64 0, .int .i64 0, .slice none 0 0, .slice none 0 0]) 6 88 Try.underlying24 hi0 hz0 hz1 hz2 rfl (by decide) _ ps.length (flatE ps) rfl (hown2.alloc _) ⟨w2.heap.size, 0, none⟩ 1 1 [.string d.name, .int .i64 d.vA, .int .i64 d.vB, .int .i64 d.vC, .slice q0 d.vP.length c0, .slice q1 d.needs.length c1] rfl rfl (src_newN _ [.string d.name, .int .i64 d.vA, .int .i64 d.vB, .int .i64 d.vC, .slice q0 d.vP.length c0, .slice q1 d.needs.length c1] _) (by intro u hu; simp at hu; rcases hu with rfl | rfl | rfl | rfl | rfl | rfl <;> rfl) (by unfold maxLen; omega) (by omega) (by have := k2.size; simp; omega) ?_)
      intro v3 w3 o3 gr3 _
      have hb3 : Below w.heap.size w w3 := kz.grown gr3 kz.size (fun j hj => (hown2.lt j hj).1)
      have hrow3 : RowE w.heap.size w3 v3 (ps ++ [p]) := by
        refine ⟨?_, fun q hq => ?_⟩
        · rw [flatE_append, List.length_append]
          have e9 : flatE [p] = [.string d.name, .int .i64 d.vA, .int .i64 d.vB, .int .i64 d.vC, .slice q0 d.vP.length c0, .slice q1 d.needs.length c1] := by show p.cells ++ [] = _; rw [List.append_nil]; exact HPC.out
          rw [e9]
          exact o3
        · have kz2 : Below w2.heap.size w2 (w2.alloc (.cells #[.string d.name, .int .i64 d.vA, .int .i64 d.vB, .int .i64 d.vC, .slice q0 d.vP.length c0, .slice q1 d.needs.length c1] 40)) := (Below.refl _ _).alloc (Nat.le_refl _) _
          rcases List.mem_append.1 hq with h9 | h9
          · exact ((HALL.out q h9).below kz2).grown (hown2.alloc _) gr3
          · rw [List.mem_singleton.1 h9]; exact (hpo.below kz2).grown (hown2.alloc _) gr3
      obtain ⟨g, cap3, hv3⟩ := rowE_some hrow3 (by simp)
      rw [List.length_append, List.length_singleton] at hv3
      subst hv3
      have hgl : w.heap.size ≤ g ∧ g < w3.heap.size := (hrow3.1.lt g rfl)
      have hat : ∀ j, j < 6 → w3.cell? ⟨g, ps.length * 6 + j, none⟩ = ([.string d.name, .int .i64 d.vA, .int .i64 d.vB, .int .i64 d.vC, .slice q0 d.vP.length c0, .slice q1 d.needs.length c1] : List Value)[j]? := fun j hj => by
        have h9 := hrow3.cell (by simp) (i := ps.length) (by simp) j hj
        have e9 : (ps ++ [p])[ps.length]'(by simp) = p := by simp
        rw [e9, HPC.out] at h9
        exact h9
      have c0_ : w3.cell? ⟨g, ps.length * 6, none⟩ = some (.string d.name) := hat 0 (by omega)
      have c1_ : w3.cell? ⟨g, ps.length * 6 + 1, none⟩ = some (.int .i64 d.vA) := hat 1 (by omega)
      have c2_ : w3.cell? ⟨g, ps.length * 6 + 2, none⟩ = some (.int .i64 d.vB) := hat 2 (by omega)
      have c3_ : w3.cell? ⟨g, ps.length * 6 + 3, none⟩ = some (.int .i64 d.vC) := hat 3 (by omega)
      have c4_ : w3.cell? ⟨g, ps.length * 6 + 4, none⟩ = some (.slice q0 d.vP.length c0) := hat 4 (by omega)
      have c5_ : w3.cell? ⟨g, ps.length * 6 + 5, none⟩ = some (.slice q1 d.needs.length c1) := hat 5 (by omega)
      have hown3 : EntOwn w3 p := hrow3.2 p (by simp)
      have HPS := hidden hps.out
      have HPD := hidden hpd
      have HR3 := hidden hrow3
      have HO3 := hidden hown3
      have HB3 := hidden hb3
      have HPX := hidden f0
      have HPY := hidden f1
      clear hat hrow3 hown3 hpo hown2 o3 gr3 HALL kz k2 b2 hps hpd hpcells hb3 f0 f1
      go_wp2_with fail
      have kz3 : Below w3.heap.size w3 (w3.alloc (.cells #[.string d.name, .int .i64 d.vA, .int .i64 d.vB, .int .i64 d.vC, .slice q0 d.vP.length c0, .slice q1 d.needs.length c1] 40)) := (Below.refl _ _).alloc (Nat.le_refl _) _
      have HI0 : Hid (RowE w.heap.size (w3.alloc (.cells #[.string d.name, .int .i64 d.vA, .int .i64 d.vB, .int .i64 d.vC, .slice q0 d.vP.length c0, .slice q1 d.needs.length c1] 40)) (.slice (some ⟨g, 0, none⟩) (ps.length + 1) cap3) (holeC ps ps.length p)) := by
        have h9 : holeC ps ps.length p = ps ++ [p] := by unfold holeC; rw [List.take_length, List.drop_length]
        rw [h9]
        exact HR3.out.below kz3
      have HX0 : Hid ((w3.alloc (.cells #[.string d.name, .int .i64 d.vA, .int .i64 d.vB, .int .i64 d.vC, .slice q0 d.vP.length c0, .slice q1 d.needs.length c1] 40)).heap[w3.heap.size]? = some (.cells #[.string d.name, .int .i64 d.vA, .int .i64 d.vB, .int .i64 d.vC, .slice q0 d.vP.length c0, .slice q1 d.needs.length c1] 40 (0, 0))) := vheap_new _ _
      have HO0 : Hid (EntOwn (w3.alloc (.cells #[.string d.name, .int .i64 d.vA, .int .i64 d.vB, .int .i64 d.vC, .slice q0 d.vP.length c0, .slice q1 d.needs.length c1] 40)) p) := HO3.out.below kz3
      have HB0 : Hid (Below w.heap.size w (w3.alloc (.cells #[.string d.name, .int .i64 d.vA, .int .i64 d.vB, .int .i64 d.vC, .slice q0 d.vP.length c0, .slice q1 d.needs.length c1] 40))) := HB3.out.alloc HB3.out.size _
      clear kz3 c0_ c1_ c2_ c3_ c4_ c5_ HR3 HO3
      go_loopw [7] (fun vk wr => ∃ (k : Nat) (z : EC), k ≤ ps.length ∧ vk = .int .i64 (k : Int) ∧ Hid (posR lessC ps p ps.length = posR lessC ps p k) ∧ Hid (RowE w.heap.size wr (.slice (some ⟨g, 0, none⟩) (ps.length + 1) cap3) (holeC ps k z)) ∧ Hid (wr.heap[w3.heap.size]? = some (.cells #[.string d.name, .int .i64 d.vA, .int .i64 d.vB, .int .i64 d.vC, .slice q0 d.vP.length c0, .slice q1 d.needs.length c1] 40 (0, 0))) ∧ Hid (EntOwn wr p) ∧ Hid (Below w.heap.size w wr)) (fun vk _ => (intOf vk).toNat)
      case atStart => exact ⟨ps.length, p, Nat.le_refl _, rfl, rfl, HI0, HX0, HO0, HB0⟩
      case round =>
        clear HI0 HX0 HO0 HB0
        obtain ⟨k, z, hk, rfl, HP, HROW, HBX, HO, HBR⟩ := hrel
        rcases k with _ | k
        · rw [show ((0 : Nat) : Int) = 0 from rfl]
          go_wp2_with fail
          refine wp_region_held_drew (S := (fun _ => True)) (by kernel_rfl) ?SR10 (fun hHeld => ?_)
          case SR10 => (exact True.intro)
          refine wpAnyH_take (i := 0) (oi := _) (v := ?vR10) rfl (by kernel_rfl) (by kernel_rfl) (by kernel_rfl) (fun _ _ _ h => h) (Or.inl ⟨by rfl, ?yR10⟩) hHeld ?_
          case yR10 => (intro w hSw; (try dsimp only at hSw); go_simp <;> with_reducible rfl)
          try simp only [Act.put, List.getElem_toArray, List.getElem_cons_zero, List.getElem_cons_succ, List.setIfInBounds_toArray, List.set_cons_zero, List.set_cons_succ]
          refine wpAnyH_take (i := 1) (oi := _) (v := ?vR11) rfl (by kernel_rfl) (by kernel_rfl) (by kernel_rfl) (fun _ _ _ h => h) (Or.inl ⟨by rfl, ?yR11⟩) hHeld ?_
          case yR11 => (intro w hSw; (try dsimp only at hSw); go_simp <;> with_reducible rfl)
          try simp only [Act.put, List.getElem_toArray, List.getElem_cons_zero, List.getElem_cons_succ, List.setIfInBounds_toArray, List.set_cons_zero, List.set_cons_succ]
          refine wpAnyH_take (i := 2) (oi := _) (v := ?vR12) rfl (by kernel_rfl) (by kernel_rfl) (by kernel_rfl) (fun _ _ _ h => h) (Or.inl ⟨by rfl, ?yR12⟩) hHeld ?_
          case yR12 => (intro w hSw; (try dsimp only at hSw); go_simp <;> with_reducible rfl)
          try simp only [Act.put, List.getElem_toArray, List.getElem_cons_zero, List.getElem_cons_succ, List.setIfInBounds_toArray, List.set_cons_zero, List.set_cons_succ]
          refine wpAnyH_take (i := 3) (oi := _) (v := undef) rfl (by kernel_rfl) (by kernel_rfl) (by kernel_rfl) (fun _ _ _ h => h) (Or.inr ⟨by rfl, rfl⟩) hHeld ?_
          try simp only [Act.put, List.getElem_toArray, List.getElem_cons_zero, List.getElem_cons_succ, List.setIfInBounds_toArray, List.set_cons_zero, List.set_cons_succ]
          refine wpAnyH_take (i := 4) (oi := _) (v := undef) rfl (by kernel_rfl) (by kernel_rfl) (by kernel_rfl) (fun _ _ _ h => h) (Or.inr ⟨by rfl, rfl⟩) hHeld ?_
          try simp only [Act.put, List.getElem_toArray, List.getElem_cons_zero, List.getElem_cons_succ, List.setIfInBounds_toArray, List.set_cons_zero, List.set_cons_succ]
          refine wpAnyH_take (i := 5) (oi := _) (v := undef) rfl (by kernel_rfl) (by kernel_rfl) (by kernel_rfl) (fun _ _ _ h => h) (Or.inr ⟨by rfl, rfl⟩) hHeld ?_
          try simp only [Act.put, List.getElem_toArray, List.getElem_cons_zero, List.getElem_cons_succ, List.setIfInBounds_toArray, List.set_cons_zero, List.set_cons_succ]
          refine wpAnyH_take (i := 6) (oi := _) (v := undef) rfl (by kernel_rfl) (by kernel_rfl) (by kernel_rfl) (fun _ _ _ h => h) (Or.inr ⟨by rfl, rfl⟩) hHeld ?_
          try simp only [Act.put, List.getElem_toArray, List.getElem_cons_zero, List.getElem_cons_succ, List.setIfInBounds_toArray, List.set_cons_zero, List.set_cons_succ]
          refine wpAnyH_take (i := 7) (oi := _) (v := undef) rfl (by kernel_rfl) (by kernel_rfl) (by kernel_rfl) (fun _ _ _ h => h) (Or.inr ⟨by rfl, rfl⟩) hHeld ?_
          try simp only [Act.put, List.getElem_toArray, List.getElem_cons_zero, List.getElem_cons_succ, List.setIfInBounds_toArray, List.set_cons_zero, List.set_cons_succ]
          refine wpAnyH_take (i := 8) (oi := _) (v := undef) rfl (by kernel_rfl) (by kernel_rfl) (by kernel_rfl) (fun _ _ _ h => h) (Or.inr ⟨by rfl, rfl⟩) hHeld ?_
          try simp only [Act.put, List.getElem_toArray, List.getElem_cons_zero, List.getElem_cons_succ, List.setIfInBounds_toArray, List.set_cons_zero, List.set_cons_succ]
          refine wpAnyH_take (i := 9) (oi := _) (v := undef) rfl (by kernel_rfl) (by kernel_rfl) (by kernel_rfl) (fun _ _ _ h => h) (Or.inr ⟨by rfl, rfl⟩) hHeld ?_
          try simp only [Act.put, List.getElem_toArray, List.getElem_cons_zero, List.getElem_cons_succ, List.setIfInBounds_toArray, List.set_cons_zero, List.set_cons_succ]
          refine wpAnyH_take (i := 10) (oi := _) (v := undef) rfl (by kernel_rfl) (by kernel_rfl) (by kernel_rfl) (fun _ _ _ h => h) (Or.inr ⟨by rfl, rfl⟩) hHeld ?_
          try simp only [Act.put, List.getElem_toArray, List.getElem_cons_zero, List.getElem_cons_succ, List.setIfInBounds_toArray, List.set_cons_zero, List.set_cons_succ]
          refine wpAnyH_take (i := 11) (oi := _) (v := undef) rfl (by kernel_rfl) (by kernel_rfl) (by kernel_rfl) (fun _ _ _ h => h) (Or.inr ⟨by rfl, rfl⟩) hHeld ?_
          try simp only [Act.put, List.getElem_toArray, List.getElem_cons_zero, List.getElem_cons_succ, List.setIfInBounds_toArray, List.set_cons_zero, List.set_cons_succ]
          refine wpAnyH_take (i := 12) (oi := _) (v := ?vR112) rfl (by kernel_rfl) (by kernel_rfl) (by kernel_rfl) (fun _ _ _ h => h) (Or.inl ⟨by rfl, ?yR112⟩) hHeld ?_
          case yR112 => (intro w hSw; (try dsimp only at hSw); go_simp <;> with_reducible rfl)
          try simp only [Act.put, List.getElem_toArray, List.getElem_cons_zero, List.getElem_cons_succ, List.setIfInBounds_toArray, List.set_cons_zero, List.set_cons_succ]
          refine wpAnyH_done (by kernel_rfl) ?_ _
          have hd0 : Below wr.heap.size wr wr.drew := (Below.refl _ _).drew
          have hNr : w3.heap.size < wr.heap.size := (Array.getElem?_eq_some_iff.1 HBX.out).1
          have hbx6 : wr.drew.heap[w3.heap.size]? = some (.cells #[.string d.name, .int .i64 d.vA, .int .i64 d.vB, .int .i64 d.vC, .slice q0 d.vP.length c0, .slice q1 d.needs.length c1] 40 (0, 0)) := (hd0.block _ hNr).trans HBX.out
          have HRW6 := hidden (HROW.out.below hd0)
          have HO6 := hidden (HO.out.below hd0)
          have hb6 : Below w.heap.size w wr.drew := HBR.out.drew
          obtain ⟨w7, hw7⟩ : ∃ w7, w7 = wr.drew := ⟨_, rfl⟩
          rw [← hw7] at hbx6 HRW6 HO6 hb6
          rw [← hw7]
          clear hw7 hd0 hNr
          have o0_ : w7.cell? ⟨g, 0, none⟩ = some (.string z.d.name) := by have h9 := HRW6.out.hole rfl hk 0 (by omega); exact h9
          have o1_ : w7.cell? ⟨g, 1, none⟩ = some (.int .i64 z.d.vA) := by have h9 := HRW6.out.hole rfl hk 1 (by omega); exact h9
          have o2_ : w7.cell? ⟨g, 2, none⟩ = some (.int .i64 z.d.vB) := by have h9 := HRW6.out.hole rfl hk 2 (by omega); exact h9
          have o3_ : w7.cell? ⟨g, 3, none⟩ = some (.int .i64 z.d.vC) := by have h9 := HRW6.out.hole rfl hk 3 (by omega); exact h9
          have o4_ : w7.cell? ⟨g, 4, none⟩ = some (z.u0) := by have h9 := HRW6.out.hole rfl hk 4 (by omega); exact h9
          have o5_ : w7.cell? ⟨g, 5, none⟩ = some (z.u1) := by have h9 := HRW6.out.hole rfl hk 5 (by omega); exact h9
          have hfz : ∀ j, w7.frozen? ⟨g, j, none⟩ = false := fun j => HRW6.out.frz (hole_len ps _ z hk).symm j
          have b0_ : w7.cell? ⟨w3.heap.size, 0, none⟩ = some (.string d.name) := vblk_cell hbx6 0
          have b1_ : w7.cell? ⟨w3.heap.size, 1, none⟩ = some (.int .i64 d.vA) := vblk_cell hbx6 1
          have b2_ : w7.cell? ⟨w3.heap.size, 2, none⟩ = some (.int .i64 d.vB) := vblk_cell hbx6 2
          have b3_ : w7.cell? ⟨w3.heap.size, 3, none⟩ = some (.int .i64 d.vC) := vblk_cell hbx6 3
          have b4_ : w7.cell? ⟨w3.heap.size, 4, none⟩ = some (.slice q0 d.vP.length c0) := vblk_cell hbx6 4
          have b5_ : w7.cell? ⟨w3.heap.size, 5, none⟩ = some (.slice q1 d.needs.length c1) := vblk_cell hbx6 5
          have HFIN : Hid (RowE w.heap.size (setW w7 g (0 * 6) [.string d.name, .int .i64 d.vA, .int .i64 d.vB, .int .i64 d.vC, .slice q0 d.vP.length c0, .slice q1 d.needs.length c1]) (.slice (some ⟨g, 0, none⟩) (ps.length + 1) cap3) (holeC ps 0 p)) := by
            have h9 := HRW6.out.setN (hole_len ps 0 z hk).symm (i := 0) (by rw [hole_len ps 0 z hk]; omega) HO6.out
            rw [hole_set ps 0 z p hk, HPC.out] at h9
            exact h9
          have HBL : Hid (Below w.heap.size w (setW w7 g (0 * 6) [.string d.name, .int .i64 d.vA, .int .i64 d.vB, .int .i64 d.vC, .slice q0 d.vP.length c0, .slice q1 d.needs.length c1])) := setW_below hgl.1 _ _ _ _ hb6
          have HNW : Hid ((holeC ps 0 p).map EC.d = newD (List.take (i + 1) xs) n) := by
            show _ = _
            have h9 : holeC ps 0 p = insG lessC ps p := by unfold insG; rw [HP.out]; rfl
            rw [h9, insG_map, HPS.out, HPD.out, HST.out]
          clear hbx6 HRW6 HO6 HP HBX HROW HO
          go_wp2_with fail
          go_roundw
          case rel => exact ⟨i + 1, _, holeC ps 0 p, by omega, by go_num, rfl, HNW, HFIN, HBL.out⟩
          case measure => simp [intOf]; omega
        · have ek : ((k + 1 : Nat) : Int) = (k : Int) + 1 := by omega
          rw [ek]
          clear ek
          have hkl : k < ps.length := by omega
          have hyo : EntOwn wr ps[k] := HROW.out.2 _ (List.mem_of_getElem? (hole_at ps k z hkl))
          obtain ⟨s0, t0, s1, t1, y0, y1⟩ := ent_slices hyo
          have hyc : ∀ j, j < 6 → wr.cell? ⟨g, k * 6 + j, none⟩ = (ps[k].cells)[j]? := fun j hj => by
            have hki9 : k < (holeC ps (k + 1) z).length := by rw [hole_len ps (k + 1) z hk]; omega
            have h9 := HROW.out.cell (hole_len ps (k + 1) z hk).symm (i := k) hki9 j hj
            have e9 : (holeC ps (k + 1) z)[k] = ps[k] := by
              have e8 := hole_at ps k z hkl
              rw [List.getElem?_eq_getElem hki9] at e8
              exact Option.some.inj e8
            rw [e9] at h9
            exact h9
          have hPO := posR_step lessC ps p k hkl
          have hyb : bulkS ps[k].d.vP ≤ 1048576 := hwp.out _ (List.getElem_mem hkl)
          have hsh := hole_shift ps k hkl
          obtain ⟨yc, hyd⟩ : ∃ yc, yc = ps[k] := ⟨_, rfl⟩
          rw [← hyd] at hyo y0 y1 hyc hPO hyb hsh
          obtain ⟨y, hy⟩ : ∃ y, y = yc.d := ⟨_, rfl⟩
          rw [← hy] at y0 y1 hyb
          have hycl : yc.cells = [.string y.name, .int .i64 y.vA, .int .i64 y.vB, .int .i64 y.vC, .slice s0 y.vP.length t0, .slice s1 y.needs.length t1] := by unfold EC.cells; rw [y0, y1, ← hy]
          have HYC := hidden hycl
          rw [hycl] at hyc
          obtain ⟨LB, hLB⟩ : ∃ LB, LB = lessB y.vA y.vB y.vC y.vP d.vA d.vB d.vC d.vP := ⟨_, rfl⟩
          have hPO2 : posR lessC ps p (k + 1) = if LB = true then posR lessC ps p k else k + 1 := by
            rw [hPO]
            have e9 : lessC yc p = LB := by unfold lessC lessE; rw [← hy, HPD.out, hLB]
            rw [e9]
          have HPO := hidden hPO2
          have HSH := hidden hsh
          have HYO := hidden hyo
          have hrY : Reads wr (.slice s0 y.vP.length t0) (strsV y.vP) := by have h9 := hyo.1; rw [y0, ← hy] at h9; exact reads_of_owns h9
          have hrX : Reads wr (.slice q0 d.vP.length c0) (strsV d.vP) := by have h9 := HO.out.1; rw [HPX.out, HPD.out] at h9; exact reads_of_owns h9
          have HLS' : ∀ W, Below wr.heap.size wr W → Calls Try.prog 13 #[.agg #[.int .i64 y.vA, .int .i64 y.vB, .int .i64 y.vC, .slice s0 y.vP.length t0], .agg #[.int .i64 d.vA, .int .i64 d.vB, .int .i64 d.vC, .slice q0 d.vP.length c0]] W fun e w' => e = .returned (.bool LB) ∧ Below W.heap.size W w' := fun W hW => by
            rw [hLB]
            exact specLess_c y.vA y.vB y.vC _ y.vP d.vA d.vB d.vC _ d.vP W (hrY.below hW) (hrX.below hW) hyb hbkd
          have HLS := hidden HLS'
          have hgr : g < wr.heap.size := (HROW.out.1.lt g rfl).2
          have hNr : w3.heap.size < wr.heap.size := (Array.getElem?_eq_some_iff.1 HBX.out).1
          have KEEP' : ∀ W, Below wr.heap.size wr W → W.cell? ⟨g, k * 6 + 1, none⟩ = some (.int .i64 y.vA) ∧ W.cell? ⟨g, k * 6 + 2, none⟩ = some (.int .i64 y.vB) ∧ W.cell? ⟨g, k * 6 + 3, none⟩ = some (.int .i64 y.vC) ∧ W.cell? ⟨g, k * 6 + 4, none⟩ = some (.slice s0 y.vP.length t0) ∧ W.cell? ⟨w3.heap.size, 1, none⟩ = some (.int .i64 d.vA) ∧ W.cell? ⟨w3.heap.size, 2, none⟩ = some (.int .i64 d.vB) ∧ W.cell? ⟨w3.heap.size, 3, none⟩ = some (.int .i64 d.vC) ∧ W.cell? ⟨w3.heap.size, 4, none⟩ = some (.slice q0 d.vP.length c0) := fun W hW => by
            have hY : ∀ j, W.cell? ⟨g, j, none⟩ = wr.cell? ⟨g, j, none⟩ := fun j => hW.cell (p := ⟨g, j, none⟩) hgr
            have hX : W.heap[w3.heap.size]? = some (.cells #[.string d.name, .int .i64 d.vA, .int .i64 d.vB, .int .i64 d.vC, .slice q0 d.vP.length c0, .slice q1 d.needs.length c1] 40 (0, 0)) := (hW.block _ hNr).trans HBX.out
            refine ⟨?_, ?_, ?_, ?_, vblk_cell hX 1, vblk_cell hX 2, vblk_cell hX 3, vblk_cell hX 4⟩ <;> rw [hY]
            · exact hyc 1 (by omega)
            · exact hyc 2 (by omega)
            · exact hyc 3 (by omega)
            · exact hyc 4 (by omega)
          have KEEP := hidden KEEP'
          have hd0 : Below wr.heap.size wr wr.drew := (Below.refl _ _).drew
          have hkw : IntKind.i64.wrap (k : Int) = (k : Int) := IntWalk.i64_in _ ⟨by omega, by omega⟩
          have hk0 : (0 : Int) ≤ (k : Int) := by omega
          have hk1 : (k : Int) < (ps.length : Int) + 1 := by omega
          have hk2 : (0 : Int) < (k : Int) + 1 := by omega
          have HYA := hidden hyc
          clear KEEP' HLS' hrY hrX hPO hPO2 hyc hsh hyo y0 y1 hycl hLB hy hyd hyb
          go_wp2_with fail
          refine wp_region_held_drew (S := (fun W => W.cell? ⟨g, k * 6 + 1, none⟩ = some (.int .i64 y.vA) ∧ W.cell? ⟨g, k * 6 + 2, none⟩ = some (.int .i64 y.vB) ∧ W.cell? ⟨g, k * 6 + 3, none⟩ = some (.int .i64 y.vC) ∧ W.cell? ⟨g, k * 6 + 4, none⟩ = some (.slice s0 y.vP.length t0) ∧ W.cell? ⟨w3.heap.size, 1, none⟩ = some (.int .i64 d.vA) ∧ W.cell? ⟨w3.heap.size, 2, none⟩ = some (.int .i64 d.vB) ∧ W.cell? ⟨w3.heap.size, 3, none⟩ = some (.int .i64 d.vC) ∧ W.cell? ⟨w3.heap.size, 4, none⟩ = some (.slice q0 d.vP.length c0))) (by kernel_rfl) ?SR20 (fun hHeld => ?_)
          case SR20 => (first | (with_reducible exact KEEP.out _ hd1) | (with_reducible exact KEEP.out _ hd0))
          refine wpAnyH_take (i := 0) (oi := _) (v := ?vR20) rfl (by kernel_rfl) (by kernel_rfl) (by kernel_rfl) (fun _ _ _ h => h) (Or.inl ⟨by rfl, ?yR20⟩) hHeld ?_
          case yR20 => (intro w hSw; (try dsimp only at hSw); go_simp <;> with_reducible rfl)
          try simp only [Act.put, List.getElem_toArray, List.getElem_cons_zero, List.getElem_cons_succ, List.setIfInBounds_toArray, List.set_cons_zero, List.set_cons_succ]
          refine wpAnyH_take (i := 1) (oi := _) (v := ?vR21) rfl (by kernel_rfl) (by kernel_rfl) (by kernel_rfl) (fun _ _ _ h => h) (Or.inl ⟨by rfl, ?yR21⟩) hHeld ?_
          case yR21 => (intro w hSw; (try dsimp only at hSw); go_simp <;> with_reducible rfl)
          try simp only [Act.put, List.getElem_toArray, List.getElem_cons_zero, List.getElem_cons_succ, List.setIfInBounds_toArray, List.set_cons_zero, List.set_cons_succ]
          refine wpAnyH_take (i := 2) (oi := _) (v := ?vR22) rfl (by kernel_rfl) (by kernel_rfl) (by kernel_rfl) (fun _ _ _ h => h) (Or.inl ⟨by rfl, ?yR22⟩) hHeld ?_
          case yR22 => (intro w hSw; (try dsimp only at hSw); go_simp <;> with_reducible rfl)
          try simp only [Act.put, List.getElem_toArray, List.getElem_cons_zero, List.getElem_cons_succ, List.setIfInBounds_toArray, List.set_cons_zero, List.set_cons_succ]
          refine wpAnyH_take (i := 3) (oi := _) (v := ?vR23) rfl (by kernel_rfl) (by kernel_rfl) (by kernel_rfl) (fun _ _ _ h => h) (Or.inl ⟨by rfl, ?yR23⟩) hHeld ?_
          case yR23 => (intro w hSw; (try dsimp only at hSw); go_simp <;> with_reducible rfl)
          try simp only [Act.put, List.getElem_toArray, List.getElem_cons_zero, List.getElem_cons_succ, List.setIfInBounds_toArray, List.set_cons_zero, List.set_cons_succ]
          refine wpAnyH_take (i := 4) (oi := _) (v := ?vR24) rfl (by kernel_rfl) (by kernel_rfl) (by kernel_rfl) (fun _ _ _ h => h) (Or.inl ⟨by rfl, ?yR24⟩) hHeld ?_
          case yR24 => (intro w hSw; (try dsimp only at hSw); go_simp <;> with_reducible rfl)
          try simp only [Act.put, List.getElem_toArray, List.getElem_cons_zero, List.getElem_cons_succ, List.setIfInBounds_toArray, List.set_cons_zero, List.set_cons_succ]
          refine wpAnyH_take (i := 5) (oi := _) (v := ?vR25) rfl (by kernel_rfl) (by kernel_rfl) (by kernel_rfl) (fun _ _ _ h => h) (Or.inl ⟨by rfl, ?yR25⟩) hHeld ?_
          case yR25 => (intro w hSw; (try dsimp only at hSw); go_simp <;> with_reducible rfl)
          try simp only [Act.put, List.getElem_toArray, List.getElem_cons_zero, List.getElem_cons_succ, List.setIfInBounds_toArray, List.set_cons_zero, List.set_cons_succ]
          refine wpAnyH_take (i := 6) (oi := _) (v := ?vR26) rfl (by kernel_rfl) (by kernel_rfl) (by kernel_rfl) (fun _ _ _ h => h) (Or.inl ⟨by rfl, ?yR26⟩) hHeld ?_
          case yR26 => (intro w hSw; (try dsimp only at hSw); go_simp <;> with_reducible rfl)
          try simp only [Act.put, List.getElem_toArray, List.getElem_cons_zero, List.getElem_cons_succ, List.setIfInBounds_toArray, List.set_cons_zero, List.set_cons_succ]
          refine wpAnyH_take (i := 7) (oi := _) (v := ?vR27) rfl (by kernel_rfl) (by kernel_rfl) (by kernel_rfl) (fun _ _ _ h => h) (Or.inl ⟨by rfl, ?yR27⟩) hHeld ?_
          case yR27 => (intro w hSw; (try dsimp only at hSw); go_simp <;> with_reducible rfl)
          try simp only [Act.put, List.getElem_toArray, List.getElem_cons_zero, List.getElem_cons_succ, List.setIfInBounds_toArray, List.set_cons_zero, List.set_cons_succ]
          refine wpAnyH_take (i := 8) (oi := _) (v := ?vR28) rfl (by kernel_rfl) (by kernel_rfl) (by kernel_rfl) (fun _ _ _ h => h) (Or.inl ⟨by rfl, ?yR28⟩) hHeld ?_
          case yR28 => (intro w hSw; (try dsimp only at hSw); go_simp <;> with_reducible rfl)
          try simp only [Act.put, List.getElem_toArray, List.getElem_cons_zero, List.getElem_cons_succ, List.setIfInBounds_toArray, List.set_cons_zero, List.set_cons_succ]
          refine wpAnyH_take (i := 9) (oi := _) (v := ?vR29) rfl (by kernel_rfl) (by kernel_rfl) (by kernel_rfl) (fun _ _ _ h => h) (Or.inl ⟨by rfl, ?yR29⟩) hHeld ?_
          case yR29 => (intro w hSw; (try dsimp only at hSw); go_simp <;> with_reducible rfl)
          try simp only [Act.put, List.getElem_toArray, List.getElem_cons_zero, List.getElem_cons_succ, List.setIfInBounds_toArray, List.set_cons_zero, List.set_cons_succ]
          refine wpAnyH_take (i := 10) (oi := _) (v := ?vR210) rfl (by kernel_rfl) (by kernel_rfl) (by kernel_rfl) (fun _ _ _ h => h) (Or.inl ⟨by rfl, ?yR210⟩) hHeld ?_
          case yR210 => (intro w hSw; (try dsimp only at hSw); go_simp <;> with_reducible rfl)
          try simp only [Act.put, List.getElem_toArray, List.getElem_cons_zero, List.getElem_cons_succ, List.setIfInBounds_toArray, List.set_cons_zero, List.set_cons_succ]
          refine wpAnyH_ready (rs := [11]) (by kernel_rfl) (by simp) ?_
          refine AllReadyH.cons rfl (fun K hK => ?_) AllReadyH.nil
          go_simp
          go_wp2_with (go_at_call 13; refine (HLS.out _ hd0).mono ?_; rintro e w6 ⟨rfl, b6⟩; have hd1 : Below wr.heap.size wr w6 := hd0.trans (b6.mono hd0.size))
          clear hHeld
          refine hK.out _ _ ?SR212 (fun hHeld => ?_)
          case SR212 => ((try dsimp only); first | (with_reducible exact KEEP.out _ hd1) | (with_reducible exact KEEP.out _ hd0))
          clear hK K
          refine wpAnyH_take (i := 12) (oi := _) (v := ?vR212) rfl (by kernel_rfl) (by kernel_rfl) (by kernel_rfl) (fun _ _ _ h => h) (Or.inl ⟨by rfl, ?yR212⟩) hHeld ?_
          case yR212 => (intro w hSw; (try dsimp only at hSw); go_simp <;> with_reducible rfl)
          try simp only [Act.put, List.getElem_toArray, List.getElem_cons_zero, List.getElem_cons_succ, List.setIfInBounds_toArray, List.set_cons_zero, List.set_cons_succ]
          refine wpAnyH_done (by kernel_rfl) ?_ _
          have hbx6 : w6.heap[w3.heap.size]? = some (.cells #[.string d.name, .int .i64 d.vA, .int .i64 d.vB, .int .i64 d.vC, .slice q0 d.vP.length c0, .slice q1 d.needs.length c1] 40 (0, 0)) := (hd1.block _ hNr).trans HBX.out
          have HRW6 := hidden (HROW.out.below hd1)
          have HO6 := hidden (HO.out.below hd1)
          have hb6 : Below w.heap.size w w6 := HBR.out.trans (hd1.mono HBR.out.size)
          clear HLS KEEP
          cases LB
          · have HP2 : Hid (posR lessC ps p ps.length = k + 1) := by show _ = _; rw [HP.out, HPO.out]; rfl
            clear HP HPO HYA HYC HSH HYO
            rename Hid (posR lessC ps p ps.length = k + 1) => HP
            have o0_ : w6.cell? ⟨g, (k + 1) * 6, none⟩ = some (.string z.d.name) := by have h9 := HRW6.out.hole rfl hk 0 (by omega); exact h9
            have o1_ : w6.cell? ⟨g, (k + 1) * 6 + 1, none⟩ = some (.int .i64 z.d.vA) := by have h9 := HRW6.out.hole rfl hk 1 (by omega); exact h9
            have o2_ : w6.cell? ⟨g, (k + 1) * 6 + 2, none⟩ = some (.int .i64 z.d.vB) := by have h9 := HRW6.out.hole rfl hk 2 (by omega); exact h9
            have o3_ : w6.cell? ⟨g, (k + 1) * 6 + 3, none⟩ = some (.int .i64 z.d.vC) := by have h9 := HRW6.out.hole rfl hk 3 (by omega); exact h9
            have o4_ : w6.cell? ⟨g, (k + 1) * 6 + 4, none⟩ = some (z.u0) := by have h9 := HRW6.out.hole rfl hk 4 (by omega); exact h9
            have o5_ : w6.cell? ⟨g, (k + 1) * 6 + 5, none⟩ = some (z.u1) := by have h9 := HRW6.out.hole rfl hk 5 (by omega); exact h9
            have hfz : ∀ j, w6.frozen? ⟨g, j, none⟩ = false := fun j => HRW6.out.frz (hole_len ps _ z hk).symm j
            have b0_ : w6.cell? ⟨w3.heap.size, 0, none⟩ = some (.string d.name) := vblk_cell hbx6 0
            have b1_ : w6.cell? ⟨w3.heap.size, 1, none⟩ = some (.int .i64 d.vA) := vblk_cell hbx6 1
            have b2_ : w6.cell? ⟨w3.heap.size, 2, none⟩ = some (.int .i64 d.vB) := vblk_cell hbx6 2
            have b3_ : w6.cell? ⟨w3.heap.size, 3, none⟩ = some (.int .i64 d.vC) := vblk_cell hbx6 3
            have b4_ : w6.cell? ⟨w3.heap.size, 4, none⟩ = some (.slice q0 d.vP.length c0) := vblk_cell hbx6 4
            have b5_ : w6.cell? ⟨w3.heap.size, 5, none⟩ = some (.slice q1 d.needs.length c1) := vblk_cell hbx6 5
            have HFIN : Hid (RowE w.heap.size (setW w6 g ((k + 1) * 6) [.string d.name, .int .i64 d.vA, .int .i64 d.vB, .int .i64 d.vC, .slice q0 d.vP.length c0, .slice q1 d.needs.length c1]) (.slice (some ⟨g, 0, none⟩) (ps.length + 1) cap3) (holeC ps (k + 1) p)) := by
              have h9 := HRW6.out.setN (hole_len ps (k + 1) z hk).symm (i := k + 1) (by rw [hole_len ps (k + 1) z hk]; omega) HO6.out
              rw [hole_set ps (k + 1) z p hk, HPC.out] at h9
              exact h9
            have HBL : Hid (Below w.heap.size w (setW w6 g ((k + 1) * 6) [.string d.name, .int .i64 d.vA, .int .i64 d.vB, .int .i64 d.vC, .slice q0 d.vP.length c0, .slice q1 d.needs.length c1])) := setW_below hgl.1 _ _ _ _ hb6
            have HNW : Hid ((holeC ps (k + 1) p).map EC.d = newD (List.take (i + 1) xs) n) := by
              show _ = _
              have h9 : holeC ps (k + 1) p = insG lessC ps p := by unfold insG; rw [HP.out]; rfl
              rw [h9, insG_map, HPS.out, HPD.out, HST.out]
            clear hbx6 HRW6 HO6 HP HBX HROW HO
            go_wp2_with fail
            go_roundw
            case rel => exact ⟨i + 1, _, holeC ps (k + 1) p, by omega, by go_num, rfl, HNW, HFIN, HBL.out⟩
            case measure => simp [intOf]; omega
          · have HPK : Hid (posR lessC ps p ps.length = posR lessC ps p k) := by show _ = _; rw [HP.out, HPO.out]; rfl
            have a0_ : w6.cell? ⟨g, k * 6, none⟩ = some (.string y.name) := (hd1.cell (p := ⟨g, k * 6 + 0, none⟩) hgr).trans (HYA.out 0 (by omega))
            have a1_ : w6.cell? ⟨g, k * 6 + 1, none⟩ = some (.int .i64 y.vA) := (hd1.cell (p := ⟨g, k * 6 + 1, none⟩) hgr).trans (HYA.out 1 (by omega))
            have a2_ : w6.cell? ⟨g, k * 6 + 2, none⟩ = some (.int .i64 y.vB) := (hd1.cell (p := ⟨g, k * 6 + 2, none⟩) hgr).trans (HYA.out 2 (by omega))
            have a3_ : w6.cell? ⟨g, k * 6 + 3, none⟩ = some (.int .i64 y.vC) := (hd1.cell (p := ⟨g, k * 6 + 3, none⟩) hgr).trans (HYA.out 3 (by omega))
            have a4_ : w6.cell? ⟨g, k * 6 + 4, none⟩ = some (.slice s0 y.vP.length t0) := (hd1.cell (p := ⟨g, k * 6 + 4, none⟩) hgr).trans (HYA.out 4 (by omega))
            have a5_ : w6.cell? ⟨g, k * 6 + 5, none⟩ = some (.slice s1 y.needs.length t1) := (hd1.cell (p := ⟨g, k * 6 + 5, none⟩) hgr).trans (HYA.out 5 (by omega))
            have o0_ : w6.cell? ⟨g, (k + 1) * 6, none⟩ = some (.string z.d.name) := HRW6.out.hole rfl hk 0 (by omega)
            have o1_ : w6.cell? ⟨g, (k + 1) * 6 + 1, none⟩ = some (.int .i64 z.d.vA) := HRW6.out.hole rfl hk 1 (by omega)
            have o2_ : w6.cell? ⟨g, (k + 1) * 6 + 2, none⟩ = some (.int .i64 z.d.vB) := HRW6.out.hole rfl hk 2 (by omega)
            have o3_ : w6.cell? ⟨g, (k + 1) * 6 + 3, none⟩ = some (.int .i64 z.d.vC) := HRW6.out.hole rfl hk 3 (by omega)
            have o4_ : w6.cell? ⟨g, (k + 1) * 6 + 4, none⟩ = some (z.u0) := HRW6.out.hole rfl hk 4 (by omega)
            have o5_ : w6.cell? ⟨g, (k + 1) * 6 + 5, none⟩ = some (z.u1) := HRW6.out.hole rfl hk 5 (by omega)
            have hfz : ∀ j, w6.frozen? ⟨g, j, none⟩ = false := fun j => HRW6.out.frz (hole_len ps _ z hk).symm j
            have HFIN : Hid (RowE w.heap.size (setW w6 g ((k + 1) * 6) [.string y.name, .int .i64 y.vA, .int .i64 y.vB, .int .i64 y.vC, .slice s0 y.vP.length t0, .slice s1 y.needs.length t1]) (.slice (some ⟨g, 0, none⟩) (ps.length + 1) cap3) (holeC ps k yc)) := by
              have h9 := HRW6.out.setN (hole_len ps (k + 1) z hk).symm (i := k + 1) (by rw [hole_len ps (k + 1) z hk]; omega) (HYO.out.below hd1)
              rw [hole_set ps (k + 1) z yc hk, HSH.out, HYC.out] at h9
              exact h9
            have HBL : Hid (Below w.heap.size w (setW w6 g ((k + 1) * 6) [.string y.name, .int .i64 y.vA, .int .i64 y.vB, .int .i64 y.vC, .slice s0 y.vP.length t0, .slice s1 y.needs.length t1])) := setW_below hgl.1 _ _ _ _ hb6
            have HBB : Hid ((setW w6 g ((k + 1) * 6) [.string y.name, .int .i64 y.vA, .int .i64 y.vB, .int .i64 y.vC, .slice s0 y.vP.length t0, .slice s1 y.needs.length t1]).heap[w3.heap.size]? = some (.cells #[.string d.name, .int .i64 d.vA, .int .i64 d.vB, .int .i64 d.vC, .slice q0 d.vP.length c0, .slice q1 d.needs.length c1] 40 (0, 0))) := box_far (w := w6) (by omega) _ _ _ hbx6
            have HOO : Hid (EntOwn (setW w6 g ((k + 1) * 6) [.string y.name, .int .i64 y.vA, .int .i64 y.vB, .int .i64 y.vC, .slice s0 y.vP.length t0, .slice s1 y.needs.length t1]) p) := by
              have h8 := HRW6.out.1
              rw [hole_len ps (k + 1) z hk] at h8
              exact EntOwn.puts _ HO6.out h8
            clear hbx6 HRW6 HO6 HP HBX HROW HO HPO HYA HYC HSH HYO hb6 hd1 hd0 b6
            go_wp2_with fail
            go_roundw
            case rel => exact ⟨k, yc, by omega, by go_num, HPK, HFIN, HBB, HOO, HBL⟩
            case measure => simp [intOf]
    · have he : i = xs.length := by omega
      subst he
      rw [List.take_length] at hps
      clear ha
      go_wp2_with fail
      go_ret
      exact ⟨_, ps, rfl, hrow.out, hps.out, hbr⟩
end Go.Proofs.Ytablcicfagmhpaa

/-! A copy of an entry, as the program makes it: a contract for the walks; conditions: it lies in memory, and holds at most 2 to the 20. -/
namespace Go.Proofs.Ytablcicfagmhpaa
open Go.RowKit
set_option linter.unusedSimpArgs false
set_option linter.unusedVariables false

set_option maxHeartbeats 2000000 in
set_option maxRecDepth 100000 in
theorem copyEntry_c (S : Nat → Prop) (d : EntryD) (cs : List Value) (w : World) (hd : shEntry.lies S w cs d) (hB : ∀ b, S b → b < w.heap.size) (hw : wtEntry d ≤ 1048576) :
    Calls Try.prog 15 #[.agg cs.toArray] w fun e w' => ∃ cs', e = .returned (.agg cs'.toArray) ∧ shEntryO.lies (Ow w.heap.size w'.heap.size) w' cs' d ∧ Below w.heap.size w w' := by
  obtain ⟨u0, u1, rfl, s_n, r0, p0, r1⟩ := hd
  have hb2 : ∀ A R, Below w.heap.size w ((w.alloc A).alloc R) := fun A R => ((Below.refl _ _).alloc (Nat.le_refl _) _).alloc (by simp) _
  have hBn : ∀ w1, Below w.heap.size w w1 → ∀ b, S b → b < w1.heap.size := fun w1 h b hb => Nat.lt_of_lt_of_le (hB b hb) h.size
  have hnw : wtRow wtNeed d.needs ≤ 1048576 := by unfold wtEntry at hw; omega
  have hbk : bulkS d.vP ≤ 1048576 := by unfold wtEntry at hw; omega
  have hns : d.name.size ≤ 1048576 := by unfold wtEntry at hw; omega
  have hnl := r1.len
  have hns2 : ∀ x ∈ d.needs, x.n.size ≤ maxLen ∧ x.r.size ≤ maxLen := fun x hx => by
    have h1 : x.n.size + x.r.size ≤ wtRow wtNeed d.needs := wt_wtRow wtNeed hx
    unfold maxLen; omega
  have HN := hidden (fun w1 => clone_c d.name w1 hns)
  have HV' : ∀ w1, Below w.heap.size w w1 → Calls Try.prog 32 #[.agg #[.int .i64 d.vA, .int .i64 d.vB, .int .i64 d.vC, u0]] w1 fun e w' => ∃ u', e = .returned (.agg #[.int .i64 d.vA, .int .i64 d.vB, .int .i64 d.vC, u']) ∧ w'.ownsRow w1.heap.size 9 1 u' d.vP.length (strsV d.vP) ∧ Below w1.heap.size w1 w' := fun w1 h => copyVer_c _ _ _ u0 d.vP w1 ((r0.keep (.of h hB)).reads (hBn w1 h)) hbk
  have HD' : ∀ w1, Below w.heap.size w w1 → Calls Try.prog 33 #[u1] w1 fun e w' => ∃ u', e = .returned u' ∧ w'.ownsRow w1.heap.size 67 2 u' d.needs.length (needsV d.needs) ∧ Below w1.heap.size w1 w' := fun w1 h => copyNeeds_c S u1 d.needs w1 (r1.keep (.of h hB)) (hBn w1 h) hnw
  obtain ⟨a0, cap0, eu0, _⟩ := id r0
  rw [length_strsV] at eu0
  subst eu0
  clear r0
  obtain ⟨a1, cap1, eu1, _⟩ := id r1
  subst eu1
  clear r1
  obtain ⟨hAz, hRz⟩ := two_boxes (w := w) (.cells #[.string d.name, .int .i64 d.vA, .int .i64 d.vB, .int .i64 d.vC, .slice a0 d.vP.length cap0, .slice a1 d.needs.length cap1] 40 (0, 0)) (.cells #[.string ⟨#[]⟩, .int .i64 0, .int .i64 0, .int .i64 0, .slice none 0 0, .slice none 0 0] 40 (0, 0))
  have hwz := hb2 (.cells #[.string d.name, .int .i64 d.vA, .int .i64 d.vB, .int .i64 d.vC, .slice a0 d.vP.length cap0, .slice a1 d.needs.length cap1] 40 (0, 0)) (.cells #[.string ⟨#[]⟩, .int .i64 0, .int .i64 0, .int .i64 0, .slice none 0 0, .slice none 0 0] 40 (0, 0))
  have hsz : ((w.alloc (.cells #[.string d.name, .int .i64 d.vA, .int .i64 d.vB, .int .i64 d.vC, .slice a0 d.vP.length cap0, .slice a1 d.needs.length cap1] 40 (0, 0))).alloc (.cells #[.string ⟨#[]⟩, .int .i64 0, .int .i64 0, .int .i64 0, .slice none 0 0, .slice none 0 0] 40 (0, 0))).heap.size = w.heap.size + 2 := by simp
  go_enter Try.func15, Try.ntmps15
  go_wp2_with fail
  obtain ⟨wz, hW⟩ : ∃ wz, wz = (w.alloc (.cells #[.string d.name, .int .i64 d.vA, .int .i64 d.vB, .int .i64 d.vC, .slice a0 d.vP.length cap0, .slice a1 d.needs.length cap1] 40 (0, 0))).alloc (.cells #[.string ⟨#[]⟩, .int .i64 0, .int .i64 0, .int .i64 0, .slice none 0 0, .slice none 0 0] 40 (0, 0)) := ⟨_, rfl⟩
  rw [← hW] at hAz hRz hwz hsz
  rw [← hW]
  clear hW
  have HV : Hid (∀ w1, Below wz.heap.size wz w1 → Calls Try.prog 32 #[.agg #[.int .i64 d.vA, .int .i64 d.vB, .int .i64 d.vC, .slice a0 d.vP.length cap0]] w1 fun e w' => ∃ u', e = .returned (.agg #[.int .i64 d.vA, .int .i64 d.vB, .int .i64 d.vC, u']) ∧ w'.ownsRow w1.heap.size 9 1 u' d.vP.length (strsV d.vP) ∧ Below w1.heap.size w1 w') := fun w1 h => HV' w1 (hwz.trans (h.mono (by omega)))
  have HD : Hid (∀ w1, Below wz.heap.size wz w1 → Calls Try.prog 33 #[.slice a1 d.needs.length cap1] w1 fun e w' => ∃ u', e = .returned u' ∧ w'.ownsRow w1.heap.size 67 2 u' d.needs.length (needsV d.needs) ∧ Below w1.heap.size w1 w') := fun w1 h => HD' w1 (hwz.trans (h.mono (by omega)))
  have h0 : Below wz.heap.size wz wz.drew := (Below.refl _ _).drew
  have KEEP : Hid (∀ w1, Below wz.heap.size wz w1 → w1.cell? ⟨w.heap.size, 0, none⟩ = some (.string d.name) ∧ w1.cell? ⟨w.heap.size, 1, none⟩ = some (.int .i64 d.vA) ∧ w1.cell? ⟨w.heap.size, 2, none⟩ = some (.int .i64 d.vB) ∧ w1.cell? ⟨w.heap.size, 3, none⟩ = some (.int .i64 d.vC) ∧ w1.cell? ⟨w.heap.size, 4, none⟩ = some (.slice a0 d.vP.length cap0) ∧ w1.cell? ⟨w.heap.size, 5, none⟩ = some (.slice a1 d.needs.length cap1)) := fun w1 h => by
    have hA := (h.block w.heap.size (by omega)).trans hAz
    exact ⟨vblk_cell hA 0, vblk_cell hA 1, vblk_cell hA 2, vblk_cell hA 3, vblk_cell hA 4, vblk_cell hA 5⟩
  clear HV' HD'
  refine wp_region_held_drew (S := (fun w1 => w1.cell? ⟨w.heap.size, 0, none⟩ = some (.string d.name) ∧ w1.cell? ⟨w.heap.size, 1, none⟩ = some (.int .i64 d.vA) ∧ w1.cell? ⟨w.heap.size, 2, none⟩ = some (.int .i64 d.vB) ∧ w1.cell? ⟨w.heap.size, 3, none⟩ = some (.int .i64 d.vC) ∧ w1.cell? ⟨w.heap.size, 4, none⟩ = some (.slice a0 d.vP.length cap0) ∧ w1.cell? ⟨w.heap.size, 5, none⟩ = some (.slice a1 d.needs.length cap1))) (by kernel_rfl) ?SR20 (fun hHeld => ?_)
  case SR20 => (first | (with_reducible exact KEEP.out _ h3) | (with_reducible exact KEEP.out _ h2) | (with_reducible exact KEEP.out _ h1) | (with_reducible exact KEEP.out _ h0))
  refine wpAnyH_take (i := 0) (oi := _) (v := ?vR20) rfl (by kernel_rfl) (by kernel_rfl) (by kernel_rfl) (fun _ _ _ h => h) (Or.inl ⟨by rfl, ?yR20⟩) hHeld ?_
  case yR20 => (intro w hSw; (try dsimp only at hSw); go_simp <;> with_reducible rfl)
  try simp only [Act.put, List.getElem_toArray, List.getElem_cons_zero, List.getElem_cons_succ, List.setIfInBounds_toArray, List.set_cons_zero, List.set_cons_succ]
  refine wpAnyH_take (i := 1) (oi := _) (v := ?vR21) rfl (by kernel_rfl) (by kernel_rfl) (by kernel_rfl) (fun _ _ _ h => h) (Or.inl ⟨by rfl, ?yR21⟩) hHeld ?_
  case yR21 => (intro w hSw; (try dsimp only at hSw); go_simp <;> with_reducible rfl)
  try simp only [Act.put, List.getElem_toArray, List.getElem_cons_zero, List.getElem_cons_succ, List.setIfInBounds_toArray, List.set_cons_zero, List.set_cons_succ]
  refine wpAnyH_take (i := 3) (oi := _) (v := ?vR22) rfl (by kernel_rfl) (by kernel_rfl) (by kernel_rfl) (fun _ _ _ h => h) (Or.inl ⟨by rfl, ?yR22⟩) hHeld ?_
  case yR22 => (intro w hSw; (try dsimp only at hSw); go_simp <;> with_reducible rfl)
  try simp only [Act.put, List.getElem_toArray, List.getElem_cons_zero, List.getElem_cons_succ, List.setIfInBounds_toArray, List.set_cons_zero, List.set_cons_succ]
  refine wpAnyH_take (i := 4) (oi := _) (v := ?vR23) rfl (by kernel_rfl) (by kernel_rfl) (by kernel_rfl) (fun _ _ _ h => h) (Or.inl ⟨by rfl, ?yR23⟩) hHeld ?_
  case yR23 => (intro w hSw; (try dsimp only at hSw); go_simp <;> with_reducible rfl)
  try simp only [Act.put, List.getElem_toArray, List.getElem_cons_zero, List.getElem_cons_succ, List.setIfInBounds_toArray, List.set_cons_zero, List.set_cons_succ]
  refine wpAnyH_take (i := 6) (oi := _) (v := ?vR24) rfl (by kernel_rfl) (by kernel_rfl) (by kernel_rfl) (fun _ _ _ h => h) (Or.inl ⟨by rfl, ?yR24⟩) hHeld ?_
  case yR24 => (intro w hSw; (try dsimp only at hSw); go_simp <;> with_reducible rfl)
  try simp only [Act.put, List.getElem_toArray, List.getElem_cons_zero, List.getElem_cons_succ, List.setIfInBounds_toArray, List.set_cons_zero, List.set_cons_succ]
  refine wpAnyH_take (i := 7) (oi := _) (v := ?vR25) rfl (by kernel_rfl) (by kernel_rfl) (by kernel_rfl) (fun _ _ _ h => h) (Or.inl ⟨by rfl, ?yR25⟩) hHeld ?_
  case yR25 => (intro w hSw; (try dsimp only at hSw); go_simp <;> with_reducible rfl)
  try simp only [Act.put, List.getElem_toArray, List.getElem_cons_zero, List.getElem_cons_succ, List.setIfInBounds_toArray, List.set_cons_zero, List.set_cons_succ]
  refine wpAnyH_ready (rs := [2]) (by kernel_rfl) (by simp) ?_
  refine AllReadyH.cons rfl (fun K hK => ?_) AllReadyH.nil
  go_simp
  go_wp2_with (go_at_call 31; refine (HN.out _).mono ?_; rintro e w1 ⟨rfl, b1⟩; have h1 : Below wz.heap.size wz w1 := h0.trans (b1.mono h0.size))
  clear hHeld
  refine hK.out _ _ ?SR27 (fun hHeld => ?_)
  case SR27 => ((try dsimp only); first | (with_reducible exact KEEP.out _ h3) | (with_reducible exact KEEP.out _ h2) | (with_reducible exact KEEP.out _ h1) | (with_reducible exact KEEP.out _ h0))
  clear hK K
  refine wpAnyH_ready (rs := [5]) (by kernel_rfl) (by simp) ?_
  refine AllReadyH.cons rfl (fun K hK => ?_) AllReadyH.nil
  go_simp
  go_wp2_with (go_at_call 32; refine (HV.out _ h1).mono ?_; rintro e w2 ⟨c0, rfl, o2, b2⟩; have h2 : Below wz.heap.size wz w2 := h1.trans (b2.mono h1.size); obtain ⟨qv, cv, ev⟩ := owns_sliceP o2; subst ev)
  clear hHeld
  refine hK.out _ _ ?SR28 (fun hHeld => ?_)
  case SR28 => ((try dsimp only); first | (with_reducible exact KEEP.out _ h3) | (with_reducible exact KEEP.out _ h2) | (with_reducible exact KEEP.out _ h1) | (with_reducible exact KEEP.out _ h0))
  clear hK K
  refine wpAnyH_ready (rs := [8]) (by kernel_rfl) (by simp) ?_
  refine AllReadyH.cons rfl (fun K hK => ?_) AllReadyH.nil
  go_simp
  go_wp2_with (go_at_call 33; refine (HD.out _ h2).mono ?_; rintro e w3 ⟨c1, rfl, o3, b3⟩; have h3 : Below wz.heap.size wz w3 := h2.trans (b3.mono h2.size); obtain ⟨qn, cn, en⟩ := owns_sliceP o3; subst en)
  clear hHeld
  refine hK.out _ _ ?SR29 (fun hHeld => ?_)
  case SR29 => ((try dsimp only); first | (with_reducible exact KEEP.out _ h3) | (with_reducible exact KEEP.out _ h2) | (with_reducible exact KEEP.out _ h1) | (with_reducible exact KEEP.out _ h0))
  clear hK K
  refine wpAnyH_take (i := 9) (oi := _) (v := ?vR29) rfl (by kernel_rfl) (by kernel_rfl) (by kernel_rfl) (fun _ _ _ h => h) (Or.inl ⟨by rfl, ?yR29⟩) hHeld ?_
  case yR29 => (intro w hSw; (try dsimp only at hSw); go_simp <;> with_reducible rfl)
  try simp only [Act.put, List.getElem_toArray, List.getElem_cons_zero, List.getElem_cons_succ, List.setIfInBounds_toArray, List.set_cons_zero, List.set_cons_succ]
  have hR3 := (h3.block (w.heap.size + 1) (by omega)).trans hRz
  have fy := vblk_frozen hR3
  have y0 := vblk_cell hR3 0
  have y1 := vblk_cell hR3 1
  have y2 := vblk_cell hR3 2
  have y3 := vblk_cell hR3 3
  have y4 := vblk_cell hR3 4
  have y5 := vblk_cell hR3 5
  simp only [List.getElem?_toArray, List.getElem?_cons_succ, List.getElem?_cons_zero] at y0 y1 y2 y3 y4 y5
  refine wpAnyH_ready (rs := [10]) (by kernel_rfl) (by simp) ?_
  refine AllReadyH.cons rfl (fun K hK => ?_) AllReadyH.nil
  go_simp
  clear hHeld
  refine hK.out _ _ ?UR2_10 (fun hHeld => ?_)
  case UR2_10 => (have hA3 := (h3.block w.heap.size (by omega)).trans hAz; exact ⟨vblk_cell (cells_put (cells_put (cells_put (cells_put (cells_put (cells_put hA3 (by omega) _ _) (by omega) _ _) (by omega) _ _) (by omega) _ _) (by omega) _ _) (by omega) _ _) 0, vblk_cell (cells_put (cells_put (cells_put (cells_put (cells_put (cells_put hA3 (by omega) _ _) (by omega) _ _) (by omega) _ _) (by omega) _ _) (by omega) _ _) (by omega) _ _) 1, vblk_cell (cells_put (cells_put (cells_put (cells_put (cells_put (cells_put hA3 (by omega) _ _) (by omega) _ _) (by omega) _ _) (by omega) _ _) (by omega) _ _) (by omega) _ _) 2, vblk_cell (cells_put (cells_put (cells_put (cells_put (cells_put (cells_put hA3 (by omega) _ _) (by omega) _ _) (by omega) _ _) (by omega) _ _) (by omega) _ _) (by omega) _ _) 3, vblk_cell (cells_put (cells_put (cells_put (cells_put (cells_put (cells_put hA3 (by omega) _ _) (by omega) _ _) (by omega) _ _) (by omega) _ _) (by omega) _ _) (by omega) _ _) 4, vblk_cell (cells_put (cells_put (cells_put (cells_put (cells_put (cells_put hA3 (by omega) _ _) (by omega) _ _) (by omega) _ _) (by omega) _ _) (by omega) _ _) (by omega) _ _) 5⟩)
  clear hK K
  try simp only [Act.put, List.getElem_toArray, List.getElem_cons_zero, List.getElem_cons_succ, List.setIfInBounds_toArray, List.set_cons_zero, List.set_cons_succ]
  refine wpAnyH_done (by kernel_rfl) ?_ _
  have hs3 := h3.size
  have hs1 := h1.size
  have hs2' := h2.size
  have HO : Hid (∀ W : World, W.heap.size = w3.heap.size → Kp (fun b => b ≠ w.heap.size + 1) w3 W → shEntryO.lies (Ow w.heap.size W.heap.size) W [.string d.name, .int .i64 d.vA, .int .i64 d.vB, .int .i64 d.vC, .slice qv d.vP.length cv, .slice qn d.needs.length cn] d) := fun W hWs hk => by
    have hsz0 : wz.heap.size = w.heap.size + 2 := hsz
    have i2 : ∀ g, (Value.slice qv d.vP.length cv).ownBlock = some g → Ow w1.heap.size w2.heap.size g := owns_in o2
    have i3 : ∀ g, (Value.slice qn d.needs.length cn).ownBlock = some g → Ow w2.heap.size w3.heap.size g := owns_in o3
    have o2b := owns_of_belowN o2 b3
    refine ⟨_, _, rfl, s_n, ⟨owns_kept hk (fun g hg => by have := i2 g hg; have := this.1; show g ≠ _; omega) (owns_lo (Nat.zero_le _) o2b), fun g hg => ?_⟩, p0, ?_⟩
    · have h9 := i2 g hg
      have h8 := b3.size
      exact ⟨by have := h9.1; omega, by have := h9.2; omega⟩
    · have hK2 : Kp (Ow w2.heap.size w3.heap.size) w3 W := fun b hb => hk b (by have := hb.1; show b ≠ _; omega)
      exact ((needs_own o3 hnl hns2).keep hK2).mono (Ow.mono (by omega) (by omega))
  clear HV HD HN KEEP o2 o3 b1 b2 b3 h0 h1 h2 hAz hRz hHeld
  go_wp2_with fail
  refine bodyPost_ret (v := .agg #[.string d.name, .int .i64 d.vA, .int .i64 d.vB, .int .i64 d.vC, .slice qv d.vP.length cv, .slice qn d.needs.length cn]) (by simp [results, Try.results15, go_sem, y0, y1, y2, y3, y4, y5]) rfl ⟨[.string d.name, .int .i64 d.vA, .int .i64 d.vB, .int .i64 d.vC, .slice qv d.vP.length cv, .slice qn d.needs.length cn], rfl, HO.out _ (by simp [World.setCell]) ?_, ?_⟩
  · (repeat (refine Kp.trans ?_ (Kp.set (by simp))))
    exact fun b hb => rfl
  · (repeat (refine Below.setCell ?_ (by simp) _))
    exact hwz.trans (h3.mono (by omega))
end Go.Proofs.Ytablcicfagmhpaa

/-! The comparison that the program sorts entries by: a contract for the walk; conditions: the lists of texts lie in memory, and hold no more than 2 to the 20. -/
namespace Go.Proofs.Ytablcicfagmhpaa
open Go.RowKit
set_option linter.unusedSimpArgs false
set_option linter.unusedVariables false

set_option maxHeartbeats 4000000 in
theorem cmpNew_c (x y : EntryD) (u u1 v v1 : Value) (w : World) (hu : Reads w u (strsV x.vP)) (hv : Reads w v (strsV y.vP)) (hb : bulkS x.vP ≤ 1048576) (hb' : bulkS y.vP ≤ 1048576) :
    Calls Try.prog 17 #[.agg #[.string x.name, .int .i64 x.vA, .int .i64 x.vB, .int .i64 x.vC, u, u1], .agg #[.string y.name, .int .i64 y.vA, .int .i64 y.vB, .int .i64 y.vC, v, v1]] w fun e w' => ∃ m : Int, e = .returned (.int .i64 m) ∧ decide (m < 0) = lessE y x ∧ Below w.heap.size w w' := by
  have HF : Hid (∀ w1, Below w.heap.size w w1 → Calls Try.prog 18 #[.agg #[.int .i64 y.vA, .int .i64 y.vB, .int .i64 y.vC, v], .agg #[.int .i64 x.vA, .int .i64 x.vB, .int .i64 x.vC, u]] w1 fun e w' => e = .returned (.int .i64 (cmpVer y.vA y.vB y.vC y.vP x.vA x.vB x.vC x.vP)) ∧ Below w1.heap.size w1 w') := fun w1 h => compareVers_c _ _ _ v _ _ _ _ u _ w1 (hv.below h) (hu.below h) hb' hb
  have HN : Hid (decide (cmpVer y.vA y.vB y.vC y.vP x.vA x.vB x.vC x.vP < 0) = lessE y x) := cmpVer_neg ..
  obtain ⟨q, cap, rfl, _, _⟩ := reads_strs hu
  obtain ⟨q', cap', rfl, _, _⟩ := reads_strs hv
  generalize hM : cmpVer y.vA y.vB y.vC y.vP x.vA x.vB x.vC x.vP = M at HF HN
  clear hu hv hb hb' hM
  go_enter Try.func17, Try.ntmps17
  go_wp2_with (go_at_call 18; refine (HF.out _ (two_box _ _)).mono ?_; rintro e w1 ⟨rfl, b1⟩)
  go_ret
  exact ⟨_, rfl, HN.out, (two_box _ _).trans (b1.mono (by simp; omega))⟩
end Go.Proofs.Ytablcicfagmhpaa

/-! The sort by insertion of a row of entries, newest first: a contract for the walk; conditions: the row may be written, each Pre holds no more than 2 to the 20, and the row no more than 2 to the 40. -/
namespace Go.Proofs.Ytablcicfagmhpaa
open Go.RowKit
set_option linter.unusedSimpArgs false
set_option linter.unusedVariables false

/-- The row sorted by insertion. -/
def sortC (ps : List EC) : List EC := ps.foldl (insG lessC) []
theorem sortC_step (ps : List EC) (i : Nat) (h : i < ps.length) : sortC (ps.take (i + 1)) = insG lessC (sortC (ps.take i)) ps[i] := by
  unfold sortC
  rw [List.take_succ_eq_append_getElem h, List.foldl_append]
  rfl
theorem sortC_len (ps : List EC) : (sortC ps).length = ps.length := by
  have : ∀ (l acc : List EC), (l.foldl (insG lessC) acc).length = acc.length + l.length := by
    intro l
    induction l with
    | nil => intro acc; rfl
    | cons x l ih => intro acc; show (l.foldl (insG lessC) (insG lessC acc x)).length = _; rw [ih, insG_len]; simp; omega
  unfold sortC
  rw [this]
  simp
theorem sortC_mem {ps : List EC} {p : EC} (h : p ∈ sortC ps) : p ∈ ps := by
  rcases fold_insG_mem _ _ h with h | h
  · cases h
  · exact h
theorem sortC_one (ps : List EC) : sortC (ps.take 1) ++ ps.drop 1 = ps := by
  cases ps with
  | nil => rfl
  | cons p r => rfl
theorem sortC_map (ps : List EC) : (sortC ps).map EC.d = (ps.map EC.d).foldl (insG lessE) [] := by
  have : ∀ (l acc : List EC), (l.foldl (insG lessC) acc).map EC.d = (l.map EC.d).foldl (insG lessE) (acc.map EC.d) := by
    intro l
    induction l with
    | nil => intro acc; rfl
    | cons x l ih => intro acc; show (l.foldl (insG lessC) (insG lessC acc x)).map EC.d = _; rw [ih, insG_map]; rfl
  exact this ps []
theorem holeR_at (ys r : List EC) (k : Nat) (x : EC) (h : k < ys.length) : (holeC ys (k + 1) x ++ r)[k]? = some ys[k] := by
  rw [List.getElem?_append_left (by rw [hole_len _ _ _ (by omega)]; omega)]
  exact hole_at ys k x h
theorem holeR_self (ys r : List EC) (k : Nat) (x : EC) (h : k ≤ ys.length) : (holeC ys k x ++ r)[k]? = some x := by
  rw [List.getElem?_append_left (by rw [hole_len _ _ _ (by omega)]; omega)]
  exact hole_self ys k x h
theorem hole_swap (ys r : List EC) (k : Nat) (x : EC) (h : k < ys.length) : ((holeC ys (k + 1) x ++ r).set (k + 1) ys[k]).set k x = holeC ys k x ++ r := by
  rw [List.set_append_left _ _ (by rw [hole_len _ _ _ (by omega)]; omega), hole_set _ _ _ _ (by omega), hole_shift ys k h, List.set_append_left _ _ (by rw [hole_len _ _ _ (by omega)]; omega), hole_set _ _ _ _ (by omega)]
theorem RowE.cellQ {B g n cap : Nat} {w : World} {ps : List EC} (h : RowE B w (.slice (some ⟨g, 0, none⟩) n cap) ps) (hn : n = ps.length) {i : Nat} {p : EC} (hp : ps[i]? = some p) (j : Nat) (hj : j < 6) : w.cell? ⟨g, i * 6 + j, none⟩ = (p.cells)[j]? := by
  obtain ⟨hi, rfl⟩ := List.getElem?_eq_some_iff.1 hp
  exact h.cell hn hi j hj

set_option maxHeartbeats 16000000 in
set_option maxRecDepth 100000 in
theorem insSort_c (B g cap : Nat) (ps : List EC) (w : World) (hr : RowE B w (.slice (some ⟨g, 0, none⟩) ps.length cap) ps) (hB : B ≤ w.heap.size) (hn : ps.length ≤ 1099511627776) (hw : ∀ p ∈ ps, bulkS p.d.vP ≤ 1048576) :
    Calls Try.prog 47 #[.slice (some ⟨g, 0, none⟩) ps.length cap, .int .i64 0, .int .i64 (ps.length : Int), .func (.func 17) #[] #[]] w fun e w' => e = .returned (.tuple #[]) ∧ RowE B w' (.slice (some ⟨g, 0, none⟩) ps.length cap) (sortC ps) ∧ Below B w w' := by
  have hgl : B ≤ g ∧ g < w.heap.size := hr.1.lt g rfl
  have HW := hidden hw
  have HR0 : Hid (RowE B w (.slice (some ⟨g, 0, none⟩) ps.length cap) (sortC (ps.take 1) ++ ps.drop 1)) := by rw [sortC_one]; exact hr
  clear hw hr
  go_enter Try.func47, Try.ntmps47
  go_wp2_with fail
  go_loopw [8] (fun vi wr => ∃ i : Nat, vi = .int .i64 (i : Int) ∧ (i ≤ ps.length ∨ i = 1) ∧ Hid (RowE B wr (.slice (some ⟨g, 0, none⟩) ps.length cap) (sortC (ps.take i) ++ ps.drop i)) ∧ Hid (Below B w wr)) (fun vi _ => ps.length + 1 - (intOf vi).toNat)
  case atStart => exact ⟨1, by go_num, .inr rfl, HR0, Below.refl _ _⟩
  case round =>
    clear HR0
    obtain ⟨wo, hwo⟩ : ∃ wo, wo = wr := ⟨_, rfl⟩
    subst hwo
    obtain ⟨i, rfl, hi, HRO, HBO⟩ := hrel
    by_cases hlt : i < ps.length
    case neg =>
      have hq : ¬ (i : Int) < (ps.length : Int) := by omega
      go_wp2_with fail
      go_end0
      refine ⟨rfl, ?_, HBO.out⟩
      have h9 := HRO.out
      rw [List.take_of_length_le (by omega), List.drop_eq_nil_of_le (by omega), List.append_nil] at h9
      exact h9
    case pos =>
    have hq : (i : Int) < (ps.length : Int) := by omega
    have hal : (sortC (ps.take i)).length = i := by rw [sortC_len, List.length_take]; omega
    have HST := hidden (sortC_step ps i hlt)
    have HDR : Hid (sortC (ps.take i) ++ ps.drop i = holeC (sortC (ps.take i)) i ps[i] ++ ps.drop (i + 1)) := by
      show _ = _
      have hdn : (sortC (ps.take i)).drop i = [] := List.drop_eq_nil_of_le (by omega)
      unfold holeC
      rw [List.take_of_length_le (l := sortC (ps.take i)) (i := i) (by omega), hdn, List.drop_eq_getElem_cons hlt, List.append_assoc]
      rfl
    have HWA : Hid (∀ p ∈ sortC (ps.take i), bulkS p.d.vP ≤ 1048576) := fun p hp => HW.out p (List.mem_of_mem_take (sortC_mem hp))
    have hbx : bulkS ps[i].d.vP ≤ 1048576 := HW.out _ (List.getElem_mem hlt)
    have hll : (sortC (ps.take i)).length + 1 + (ps.drop (i + 1)).length = ps.length := by rw [hal, List.length_drop]; omega
    obtain ⟨ac, hac⟩ : ∃ ac, ac = sortC (ps.take i) := ⟨_, rfl⟩
    obtain ⟨x, hx⟩ : ∃ x, x = ps[i] := ⟨_, rfl⟩
    obtain ⟨rs, hrs⟩ : ∃ rs, rs = ps.drop (i + 1) := ⟨_, rfl⟩
    rw [HDR.out] at HRO
    rw [← hac, ← hx, ← hrs] at HRO
    rw [← hac] at hal HWA HST
    rw [← hx] at HST hbx
    rw [← hac, ← hrs] at hll
    have hxo : EntOwn wo x := HRO.out.2 x (List.mem_append_left _ (List.mem_of_getElem? (hole_self ac i x (by omega))))
    obtain ⟨q0, c0, q1, c1, f0, f1⟩ := ent_slices hxo
    obtain ⟨d, hd⟩ : ∃ d, d = x.d := ⟨_, rfl⟩
    rw [← hd] at f0 f1 hbx
    have hxc : x.cells = [.string d.name, .int .i64 d.vA, .int .i64 d.vB, .int .i64 d.vC, .slice q0 d.vP.length c0, .slice q1 d.needs.length c1] := by unfold EC.cells; rw [f0, f1, ← hd]
    have HXC := hidden hxc
    have HXD := hidden hd
    have HF0 := hidden f0
    have HRS := hidden hrs
    have HAL := hidden hal
    clear hxo hxc hd f0 f1 HDR hac hx hrs
    go_wp2_with fail
    go_loopw [9] (fun vk wr => ∃ k : Nat, k ≤ i ∧ vk = .int .i64 (k : Int) ∧ Hid (posR lessC ac x ac.length = posR lessC ac x k) ∧ Hid (RowE B wr (.slice (some ⟨g, 0, none⟩) ps.length cap) (holeC ac k x ++ rs)) ∧ Hid (Below B w wr)) (fun vk _ => (intOf vk).toNat)
    case atStart => exact ⟨i, Nat.le_refl _, rfl, (by show _ = _; rw [HAL.out]), HRO, HBO⟩
    case round =>
      clear HRO HBO
      obtain ⟨k, hk, rfl, HP, HROW, HBR⟩ := hrel
      rcases k with _ | k
      · rw [show ((0 : Nat) : Int) = 0 from rfl]
        have hb6 := HBR.out.drew
        have hrw6 := HROW.out.below ((Below.refl _ _).drew)
        have HFIN : Hid (RowE B wr.drew (.slice (some ⟨g, 0, none⟩) ps.length cap) (sortC (ps.take (i + 1)) ++ ps.drop (i + 1))) := by
          have h9 : holeC ac 0 x = insG lessC ac x := by unfold insG; rw [HP.out]; rfl
          rw [HST.out, ← h9, ← HRS.out]
          exact hrw6
        have HBL := hidden hb6
        clear hb6 hrw6
        go_wp2_with fail
        refine wp_region_held_drew (S := (fun _ => True)) (by kernel_rfl) ?SR10 (fun hHeld => ?_)
        case SR10 => (exact True.intro)
        refine wpAnyH_take (i := 0) (oi := _) (v := ?vR10) rfl (by kernel_rfl) (by kernel_rfl) (by kernel_rfl) (fun _ _ _ h => h) (Or.inl ⟨by rfl, ?yR10⟩) hHeld ?_
        case yR10 => (intro w hSw; (try dsimp only at hSw); go_simp <;> with_reducible rfl)
        try simp only [Act.put, List.getElem_toArray, List.getElem_cons_zero, List.getElem_cons_succ, List.setIfInBounds_toArray, List.set_cons_zero, List.set_cons_succ]
        refine wpAnyH_take (i := 1) (oi := _) (v := ?vR11) rfl (by kernel_rfl) (by kernel_rfl) (by kernel_rfl) (fun _ _ _ h => h) (Or.inl ⟨by rfl, ?yR11⟩) hHeld ?_
        case yR11 => (intro w hSw; (try dsimp only at hSw); go_simp <;> with_reducible rfl)
        try simp only [Act.put, List.getElem_toArray, List.getElem_cons_zero, List.getElem_cons_succ, List.setIfInBounds_toArray, List.set_cons_zero, List.set_cons_succ]
        refine wpAnyH_take (i := 2) (oi := _) (v := ?vR12) rfl (by kernel_rfl) (by kernel_rfl) (by kernel_rfl) (fun _ _ _ h => h) (Or.inl ⟨by rfl, ?yR12⟩) hHeld ?_
        case yR12 => (intro w hSw; (try dsimp only at hSw); go_simp <;> with_reducible rfl)
        try simp only [Act.put, List.getElem_toArray, List.getElem_cons_zero, List.getElem_cons_succ, List.setIfInBounds_toArray, List.set_cons_zero, List.set_cons_succ]
        refine wpAnyH_take (i := 3) (oi := _) (v := ?vR13) rfl (by kernel_rfl) (by kernel_rfl) (by kernel_rfl) (fun _ _ _ h => h) (Or.inl ⟨by rfl, ?yR13⟩) hHeld ?_
        case yR13 => (intro w hSw; (try dsimp only at hSw); go_simp <;> with_reducible rfl)
        try simp only [Act.put, List.getElem_toArray, List.getElem_cons_zero, List.getElem_cons_succ, List.setIfInBounds_toArray, List.set_cons_zero, List.set_cons_succ]
        refine wpAnyH_take (i := 4) (oi := _) (v := undef) rfl (by kernel_rfl) (by kernel_rfl) (by kernel_rfl) (fun _ _ _ h => h) (Or.inr ⟨by rfl, rfl⟩) hHeld ?_
        try simp only [Act.put, List.getElem_toArray, List.getElem_cons_zero, List.getElem_cons_succ, List.setIfInBounds_toArray, List.set_cons_zero, List.set_cons_succ]
        refine wpAnyH_take (i := 5) (oi := _) (v := undef) rfl (by kernel_rfl) (by kernel_rfl) (by kernel_rfl) (fun _ _ _ h => h) (Or.inr ⟨by rfl, rfl⟩) hHeld ?_
        try simp only [Act.put, List.getElem_toArray, List.getElem_cons_zero, List.getElem_cons_succ, List.setIfInBounds_toArray, List.set_cons_zero, List.set_cons_succ]
        refine wpAnyH_take (i := 6) (oi := _) (v := undef) rfl (by kernel_rfl) (by kernel_rfl) (by kernel_rfl) (fun _ _ _ h => h) (Or.inr ⟨by rfl, rfl⟩) hHeld ?_
        try simp only [Act.put, List.getElem_toArray, List.getElem_cons_zero, List.getElem_cons_succ, List.setIfInBounds_toArray, List.set_cons_zero, List.set_cons_succ]
        refine wpAnyH_take (i := 7) (oi := _) (v := undef) rfl (by kernel_rfl) (by kernel_rfl) (by kernel_rfl) (fun _ _ _ h => h) (Or.inr ⟨by rfl, rfl⟩) hHeld ?_
        try simp only [Act.put, List.getElem_toArray, List.getElem_cons_zero, List.getElem_cons_succ, List.setIfInBounds_toArray, List.set_cons_zero, List.set_cons_succ]
        refine wpAnyH_take (i := 8) (oi := _) (v := undef) rfl (by kernel_rfl) (by kernel_rfl) (by kernel_rfl) (fun _ _ _ h => h) (Or.inr ⟨by rfl, rfl⟩) hHeld ?_
        try simp only [Act.put, List.getElem_toArray, List.getElem_cons_zero, List.getElem_cons_succ, List.setIfInBounds_toArray, List.set_cons_zero, List.set_cons_succ]
        refine wpAnyH_take (i := 9) (oi := _) (v := undef) rfl (by kernel_rfl) (by kernel_rfl) (by kernel_rfl) (fun _ _ _ h => h) (Or.inr ⟨by rfl, rfl⟩) hHeld ?_
        try simp only [Act.put, List.getElem_toArray, List.getElem_cons_zero, List.getElem_cons_succ, List.setIfInBounds_toArray, List.set_cons_zero, List.set_cons_succ]
        refine wpAnyH_take (i := 10) (oi := _) (v := undef) rfl (by kernel_rfl) (by kernel_rfl) (by kernel_rfl) (fun _ _ _ h => h) (Or.inr ⟨by rfl, rfl⟩) hHeld ?_
        try simp only [Act.put, List.getElem_toArray, List.getElem_cons_zero, List.getElem_cons_succ, List.setIfInBounds_toArray, List.set_cons_zero, List.set_cons_succ]
        refine wpAnyH_take (i := 11) (oi := _) (v := undef) rfl (by kernel_rfl) (by kernel_rfl) (by kernel_rfl) (fun _ _ _ h => h) (Or.inr ⟨by rfl, rfl⟩) hHeld ?_
        try simp only [Act.put, List.getElem_toArray, List.getElem_cons_zero, List.getElem_cons_succ, List.setIfInBounds_toArray, List.set_cons_zero, List.set_cons_succ]
        refine wpAnyH_take (i := 12) (oi := _) (v := undef) rfl (by kernel_rfl) (by kernel_rfl) (by kernel_rfl) (fun _ _ _ h => h) (Or.inr ⟨by rfl, rfl⟩) hHeld ?_
        try simp only [Act.put, List.getElem_toArray, List.getElem_cons_zero, List.getElem_cons_succ, List.setIfInBounds_toArray, List.set_cons_zero, List.set_cons_succ]
        refine wpAnyH_take (i := 13) (oi := _) (v := undef) rfl (by kernel_rfl) (by kernel_rfl) (by kernel_rfl) (fun _ _ _ h => h) (Or.inr ⟨by rfl, rfl⟩) hHeld ?_
        try simp only [Act.put, List.getElem_toArray, List.getElem_cons_zero, List.getElem_cons_succ, List.setIfInBounds_toArray, List.set_cons_zero, List.set_cons_succ]
        refine wpAnyH_take (i := 14) (oi := _) (v := undef) rfl (by kernel_rfl) (by kernel_rfl) (by kernel_rfl) (fun _ _ _ h => h) (Or.inr ⟨by rfl, rfl⟩) hHeld ?_
        try simp only [Act.put, List.getElem_toArray, List.getElem_cons_zero, List.getElem_cons_succ, List.setIfInBounds_toArray, List.set_cons_zero, List.set_cons_succ]
        refine wpAnyH_take (i := 15) (oi := _) (v := undef) rfl (by kernel_rfl) (by kernel_rfl) (by kernel_rfl) (fun _ _ _ h => h) (Or.inr ⟨by rfl, rfl⟩) hHeld ?_
        try simp only [Act.put, List.getElem_toArray, List.getElem_cons_zero, List.getElem_cons_succ, List.setIfInBounds_toArray, List.set_cons_zero, List.set_cons_succ]
        refine wpAnyH_take (i := 16) (oi := _) (v := ?vR116) rfl (by kernel_rfl) (by kernel_rfl) (by kernel_rfl) (fun _ _ _ h => h) (Or.inl ⟨by rfl, ?yR116⟩) hHeld ?_
        case yR116 => (intro w hSw; (try dsimp only at hSw); go_simp <;> with_reducible rfl)
        try simp only [Act.put, List.getElem_toArray, List.getElem_cons_zero, List.getElem_cons_succ, List.setIfInBounds_toArray, List.set_cons_zero, List.set_cons_succ]
        refine wpAnyH_done (by kernel_rfl) ?_ _
        go_wp2_with fail
        go_roundw
        case rel => exact ⟨i + 1, by go_num, by omega, HFIN, HBL⟩
        case measure => simp [intOf]; omega
      · have ek : ((k + 1 : Nat) : Int) = (k : Int) + 1 := by omega
        rw [ek]
        clear ek
        have hkl : k < ac.length := by omega
        have hL : ps.length = (holeC ac (k + 1) x ++ rs).length := by rw [List.length_append, hole_len _ _ _ (by omega)]; omega
        have hyo : EntOwn wr ac[k] := HROW.out.2 _ (List.mem_of_getElem? (holeR_at ac rs k x hkl))
        have hxo : EntOwn wr x := HROW.out.2 _ (List.mem_of_getElem? (holeR_self ac rs (k + 1) x (by omega)))
        obtain ⟨s0, t0, s1, t1, y0, y1⟩ := ent_slices hyo
        have hyc : ∀ j, j < 6 → wr.cell? ⟨g, k * 6 + j, none⟩ = (ac[k].cells)[j]? := fun j hj => HROW.out.cellQ hL (holeR_at ac rs k x hkl) j hj
        have hxc : ∀ j, j < 6 → wr.cell? ⟨g, (k + 1) * 6 + j, none⟩ = (x.cells)[j]? := fun j hj => HROW.out.cellQ hL (holeR_self ac rs (k + 1) x (by omega)) j hj
        have hPO := posR_step lessC ac x k hkl
        have hyb : bulkS ac[k].d.vP ≤ 1048576 := HWA.out _ (List.getElem_mem hkl)
        have hsw := hole_swap ac rs k x hkl
        obtain ⟨yc, hyd⟩ : ∃ yc, yc = ac[k] := ⟨_, rfl⟩
        rw [← hyd] at hyo y0 y1 hyc hPO hyb hsw
        obtain ⟨y, hy⟩ : ∃ y, y = yc.d := ⟨_, rfl⟩
        rw [← hy] at y0 y1 hyb
        have hycl : yc.cells = [.string y.name, .int .i64 y.vA, .int .i64 y.vB, .int .i64 y.vC, .slice s0 y.vP.length t0, .slice s1 y.needs.length t1] := by unfold EC.cells; rw [y0, y1, ← hy]
        have HYC := hidden hycl
        rw [hycl] at hyc
        rw [HXC.out] at hxc
        have hPO2 : posR lessC ac x (k + 1) = if lessE y d = true then posR lessC ac x k else k + 1 := by
          rw [hPO]
          have e9 : lessC yc x = lessE y d := by unfold lessC; rw [← hy, ← HXD.out]
          rw [e9]
        have HPO := hidden hPO2
        have HSW := hidden hsw
        have hyk := holeR_at ac rs k x hkl
        rw [← hyd] at hyk
        have HYK := hidden hyk
        clear hyk
        have HYO := hidden hyo
        have HXO := hidden hxo
        have hrY : Reads wr (.slice s0 y.vP.length t0) (strsV y.vP) := by have h9 := hyo.1; rw [y0, ← hy] at h9; exact reads_of_owns h9
        have hrX : Reads wr (.slice q0 d.vP.length c0) (strsV d.vP) := by have h9 := hxo.1; rw [HF0.out, ← HXD.out] at h9; exact reads_of_owns h9
        have HLS' : ∀ W, Below wr.heap.size wr W → Calls Try.prog 17 #[.agg #[.string d.name, .int .i64 d.vA, .int .i64 d.vB, .int .i64 d.vC, .slice q0 d.vP.length c0, .slice q1 d.needs.length c1], .agg #[.string y.name, .int .i64 y.vA, .int .i64 y.vB, .int .i64 y.vC, .slice s0 y.vP.length t0, .slice s1 y.needs.length t1]] W fun e w' => ∃ m : Int, e = .returned (.int .i64 m) ∧ decide (m < 0) = lessE y d ∧ Below W.heap.size W w' := fun W hW => cmpNew_c d y _ _ _ _ W (hrX.below hW) (hrY.below hW) hbx hyb
        have HLS := hidden HLS'
        have hgr : g < wr.heap.size := (HROW.out.1.lt g rfl).2
        have KEEP' : ∀ W, Below wr.heap.size wr W → W.cell? ⟨g, k * 6, none⟩ = some (.string y.name) ∧ W.cell? ⟨g, k * 6 + 1, none⟩ = some (.int .i64 y.vA) ∧ W.cell? ⟨g, k * 6 + 2, none⟩ = some (.int .i64 y.vB) ∧ W.cell? ⟨g, k * 6 + 3, none⟩ = some (.int .i64 y.vC) ∧ W.cell? ⟨g, k * 6 + 4, none⟩ = some (.slice s0 y.vP.length t0) ∧ W.cell? ⟨g, k * 6 + 5, none⟩ = some (.slice s1 y.needs.length t1) ∧ W.cell? ⟨g, (k + 1) * 6, none⟩ = some (.string d.name) ∧ W.cell? ⟨g, (k + 1) * 6 + 1, none⟩ = some (.int .i64 d.vA) ∧ W.cell? ⟨g, (k + 1) * 6 + 2, none⟩ = some (.int .i64 d.vB) ∧ W.cell? ⟨g, (k + 1) * 6 + 3, none⟩ = some (.int .i64 d.vC) ∧ W.cell? ⟨g, (k + 1) * 6 + 4, none⟩ = some (.slice q0 d.vP.length c0) ∧ W.cell? ⟨g, (k + 1) * 6 + 5, none⟩ = some (.slice q1 d.needs.length c1) := fun W hW => by
          have hY : ∀ j, W.cell? ⟨g, j, none⟩ = wr.cell? ⟨g, j, none⟩ := fun j => hW.cell (p := ⟨g, j, none⟩) hgr
          simp only [hY]
          exact ⟨hyc 0 (by omega), hyc 1 (by omega), hyc 2 (by omega), hyc 3 (by omega), hyc 4 (by omega), hyc 5 (by omega), hxc 0 (by omega), hxc 1 (by omega), hxc 2 (by omega), hxc 3 (by omega), hxc 4 (by omega), hxc 5 (by omega)⟩
        have KEEP := hidden KEEP'
        have hd0 : Below wr.heap.size wr wr.drew := (Below.refl _ _).drew
        have hkw : IntKind.i64.wrap (k : Int) = (k : Int) := IntWalk.i64_in _ ⟨by omega, by omega⟩
        have hk0 : (0 : Int) ≤ (k : Int) := by omega
        have hk1 : (k : Int) < (ps.length : Int) := by omega
        have hk2 : (0 : Int) < (k : Int) + 1 := by omega
        have hk3 : (0 : Int) ≤ (k : Int) + 1 := by omega
        have hk4 : (k : Int) + 1 < (ps.length : Int) := by omega
        have HL := hidden hL
        clear hL KEEP' HLS' hrY hrX hPO hPO2 hyc hxc hsw hyo hxo y0 y1 hycl hy hyd hyb
        go_wp2_with fail
        refine wp_region_held_drew (S := (fun W => W.cell? ⟨g, k * 6, none⟩ = some (.string y.name) ∧ W.cell? ⟨g, k * 6 + 1, none⟩ = some (.int .i64 y.vA) ∧ W.cell? ⟨g, k * 6 + 2, none⟩ = some (.int .i64 y.vB) ∧ W.cell? ⟨g, k * 6 + 3, none⟩ = some (.int .i64 y.vC) ∧ W.cell? ⟨g, k * 6 + 4, none⟩ = some (.slice s0 y.vP.length t0) ∧ W.cell? ⟨g, k * 6 + 5, none⟩ = some (.slice s1 y.needs.length t1) ∧ W.cell? ⟨g, (k + 1) * 6, none⟩ = some (.string d.name) ∧ W.cell? ⟨g, (k + 1) * 6 + 1, none⟩ = some (.int .i64 d.vA) ∧ W.cell? ⟨g, (k + 1) * 6 + 2, none⟩ = some (.int .i64 d.vB) ∧ W.cell? ⟨g, (k + 1) * 6 + 3, none⟩ = some (.int .i64 d.vC) ∧ W.cell? ⟨g, (k + 1) * 6 + 4, none⟩ = some (.slice q0 d.vP.length c0) ∧ W.cell? ⟨g, (k + 1) * 6 + 5, none⟩ = some (.slice q1 d.needs.length c1))) (by kernel_rfl) ?SR20 (fun hHeld => ?_)
        case SR20 => (first | (with_reducible exact KEEP.out _ hd1) | (with_reducible exact KEEP.out _ hd0))
        refine wpAnyH_take (i := 0) (oi := _) (v := ?vR20) rfl (by kernel_rfl) (by kernel_rfl) (by kernel_rfl) (fun _ _ _ h => h) (Or.inl ⟨by rfl, ?yR20⟩) hHeld ?_
        case yR20 => (intro w hSw; (try dsimp only at hSw); go_simp <;> with_reducible rfl)
        try simp only [Act.put, List.getElem_toArray, List.getElem_cons_zero, List.getElem_cons_succ, List.setIfInBounds_toArray, List.set_cons_zero, List.set_cons_succ]
        refine wpAnyH_take (i := 1) (oi := _) (v := ?vR21) rfl (by kernel_rfl) (by kernel_rfl) (by kernel_rfl) (fun _ _ _ h => h) (Or.inl ⟨by rfl, ?yR21⟩) hHeld ?_
        case yR21 => (intro w hSw; (try dsimp only at hSw); go_simp <;> with_reducible rfl)
        try simp only [Act.put, List.getElem_toArray, List.getElem_cons_zero, List.getElem_cons_succ, List.setIfInBounds_toArray, List.set_cons_zero, List.set_cons_succ]
        refine wpAnyH_take (i := 2) (oi := _) (v := ?vR22) rfl (by kernel_rfl) (by kernel_rfl) (by kernel_rfl) (fun _ _ _ h => h) (Or.inl ⟨by rfl, ?yR22⟩) hHeld ?_
        case yR22 => (intro w hSw; (try dsimp only at hSw); go_simp <;> with_reducible rfl)
        try simp only [Act.put, List.getElem_toArray, List.getElem_cons_zero, List.getElem_cons_succ, List.setIfInBounds_toArray, List.set_cons_zero, List.set_cons_succ]
        refine wpAnyH_take (i := 3) (oi := _) (v := ?vR23) rfl (by kernel_rfl) (by kernel_rfl) (by kernel_rfl) (fun _ _ _ h => h) (Or.inl ⟨by rfl, ?yR23⟩) hHeld ?_
        case yR23 => (intro w hSw; (try dsimp only at hSw); go_simp <;> with_reducible rfl)
        try simp only [Act.put, List.getElem_toArray, List.getElem_cons_zero, List.getElem_cons_succ, List.setIfInBounds_toArray, List.set_cons_zero, List.set_cons_succ]
        refine wpAnyH_take (i := 4) (oi := _) (v := ?vR24) rfl (by kernel_rfl) (by kernel_rfl) (by kernel_rfl) (fun _ _ _ h => h) (Or.inl ⟨by rfl, ?yR24⟩) hHeld ?_
        case yR24 => (intro w hSw; (try dsimp only at hSw); go_simp <;> with_reducible rfl)
        try simp only [Act.put, List.getElem_toArray, List.getElem_cons_zero, List.getElem_cons_succ, List.setIfInBounds_toArray, List.set_cons_zero, List.set_cons_succ]
        refine wpAnyH_take (i := 5) (oi := _) (v := ?vR25) rfl (by kernel_rfl) (by kernel_rfl) (by kernel_rfl) (fun _ _ _ h => h) (Or.inl ⟨by rfl, ?yR25⟩) hHeld ?_
        case yR25 => (intro w hSw; (try dsimp only at hSw); go_simp <;> with_reducible rfl)
        try simp only [Act.put, List.getElem_toArray, List.getElem_cons_zero, List.getElem_cons_succ, List.setIfInBounds_toArray, List.set_cons_zero, List.set_cons_succ]
        refine wpAnyH_take (i := 6) (oi := _) (v := ?vR26) rfl (by kernel_rfl) (by kernel_rfl) (by kernel_rfl) (fun _ _ _ h => h) (Or.inl ⟨by rfl, ?yR26⟩) hHeld ?_
        case yR26 => (intro w hSw; (try dsimp only at hSw); go_simp <;> with_reducible rfl)
        try simp only [Act.put, List.getElem_toArray, List.getElem_cons_zero, List.getElem_cons_succ, List.setIfInBounds_toArray, List.set_cons_zero, List.set_cons_succ]
        refine wpAnyH_take (i := 7) (oi := _) (v := ?vR27) rfl (by kernel_rfl) (by kernel_rfl) (by kernel_rfl) (fun _ _ _ h => h) (Or.inl ⟨by rfl, ?yR27⟩) hHeld ?_
        case yR27 => (intro w hSw; (try dsimp only at hSw); go_simp <;> with_reducible rfl)
        try simp only [Act.put, List.getElem_toArray, List.getElem_cons_zero, List.getElem_cons_succ, List.setIfInBounds_toArray, List.set_cons_zero, List.set_cons_succ]
        refine wpAnyH_take (i := 8) (oi := _) (v := ?vR28) rfl (by kernel_rfl) (by kernel_rfl) (by kernel_rfl) (fun _ _ _ h => h) (Or.inl ⟨by rfl, ?yR28⟩) hHeld ?_
        case yR28 => (intro w hSw; (try dsimp only at hSw); go_simp <;> with_reducible rfl)
        try simp only [Act.put, List.getElem_toArray, List.getElem_cons_zero, List.getElem_cons_succ, List.setIfInBounds_toArray, List.set_cons_zero, List.set_cons_succ]
        refine wpAnyH_take (i := 9) (oi := _) (v := ?vR29) rfl (by kernel_rfl) (by kernel_rfl) (by kernel_rfl) (fun _ _ _ h => h) (Or.inl ⟨by rfl, ?yR29⟩) hHeld ?_
        case yR29 => (intro w hSw; (try dsimp only at hSw); go_simp <;> with_reducible rfl)
        try simp only [Act.put, List.getElem_toArray, List.getElem_cons_zero, List.getElem_cons_succ, List.setIfInBounds_toArray, List.set_cons_zero, List.set_cons_succ]
        refine wpAnyH_take (i := 10) (oi := _) (v := ?vR210) rfl (by kernel_rfl) (by kernel_rfl) (by kernel_rfl) (fun _ _ _ h => h) (Or.inl ⟨by rfl, ?yR210⟩) hHeld ?_
        case yR210 => (intro w hSw; (try dsimp only at hSw); go_simp <;> with_reducible rfl)
        try simp only [Act.put, List.getElem_toArray, List.getElem_cons_zero, List.getElem_cons_succ, List.setIfInBounds_toArray, List.set_cons_zero, List.set_cons_succ]
        refine wpAnyH_take (i := 11) (oi := _) (v := ?vR211) rfl (by kernel_rfl) (by kernel_rfl) (by kernel_rfl) (fun _ _ _ h => h) (Or.inl ⟨by rfl, ?yR211⟩) hHeld ?_
        case yR211 => (intro w hSw; (try dsimp only at hSw); go_simp <;> with_reducible rfl)
        try simp only [Act.put, List.getElem_toArray, List.getElem_cons_zero, List.getElem_cons_succ, List.setIfInBounds_toArray, List.set_cons_zero, List.set_cons_succ]
        refine wpAnyH_take (i := 12) (oi := _) (v := ?vR212) rfl (by kernel_rfl) (by kernel_rfl) (by kernel_rfl) (fun _ _ _ h => h) (Or.inl ⟨by rfl, ?yR212⟩) hHeld ?_
        case yR212 => (intro w hSw; (try dsimp only at hSw); go_simp <;> with_reducible rfl)
        try simp only [Act.put, List.getElem_toArray, List.getElem_cons_zero, List.getElem_cons_succ, List.setIfInBounds_toArray, List.set_cons_zero, List.set_cons_succ]
        refine wpAnyH_take (i := 13) (oi := _) (v := ?vR213) rfl (by kernel_rfl) (by kernel_rfl) (by kernel_rfl) (fun _ _ _ h => h) (Or.inl ⟨by rfl, ?yR213⟩) hHeld ?_
        case yR213 => (intro w hSw; (try dsimp only at hSw); go_simp <;> with_reducible rfl)
        try simp only [Act.put, List.getElem_toArray, List.getElem_cons_zero, List.getElem_cons_succ, List.setIfInBounds_toArray, List.set_cons_zero, List.set_cons_succ]
        refine wpAnyH_ready (rs := [14]) (by kernel_rfl) (by simp) ?_
        refine AllReadyH.cons rfl (fun K hK => ?_) AllReadyH.nil
        go_simp
        go_wp2_with (go_at_call 17; refine (HLS.out _ hd0).mono ?_; rintro e w6 ⟨m, rfl, hm, b6⟩; have hd1 : Below wr.heap.size wr w6 := hd0.trans (b6.mono hd0.size); replace hm := hidden hm)
        clear hHeld
        refine hK.out _ _ ?SR215 (fun hHeld => ?_)
        case SR215 => ((try dsimp only); first | (with_reducible exact KEEP.out _ hd1) | (with_reducible exact KEEP.out _ hd0))
        clear hK K
        refine wpAnyH_take (i := 15) (oi := _) (v := ?vR215) rfl (by kernel_rfl) (by kernel_rfl) (by kernel_rfl) (fun _ _ _ h => h) (Or.inl ⟨by rfl, ?yR215⟩) hHeld ?_
        case yR215 => (intro w hSw; (try dsimp only at hSw); go_simp <;> with_reducible rfl)
        try simp only [Act.put, List.getElem_toArray, List.getElem_cons_zero, List.getElem_cons_succ, List.setIfInBounds_toArray, List.set_cons_zero, List.set_cons_succ]
        refine wpAnyH_take (i := 16) (oi := _) (v := ?vR216) rfl (by kernel_rfl) (by kernel_rfl) (by kernel_rfl) (fun _ _ _ h => h) (Or.inl ⟨by rfl, ?yR216⟩) hHeld ?_
        case yR216 => (intro w hSw; (try dsimp only at hSw); go_simp <;> with_reducible rfl)
        try simp only [Act.put, List.getElem_toArray, List.getElem_cons_zero, List.getElem_cons_succ, List.setIfInBounds_toArray, List.set_cons_zero, List.set_cons_succ]
        refine wpAnyH_done (by kernel_rfl) ?_ _
        have HRW6 := hidden (HROW.out.below hd1)
        have hb6 : Below B w w6 := HBR.out.trans (hd1.mono (Nat.le_trans hB HBR.out.size))
        have HK6 := hidden (fun W (hW : Below w6.heap.size w6 W) => KEEP.out W (hd1.trans (hW.mono hd1.size)))
        clear HLS
        by_cases hmz : m < 0
        case neg =>
          have HP2 : Hid (posR lessC ac x ac.length = k + 1) := by
            show _ = _
            have e9 : lessE y d = false := by rw [← hm.out]; simp [hmz]
            rw [HP.out, HPO.out, e9]
            rfl
          have HFIN : Hid (RowE B w6 (.slice (some ⟨g, 0, none⟩) ps.length cap) (sortC (ps.take (i + 1)) ++ ps.drop (i + 1))) := by
            have h9 : holeC ac (k + 1) x = insG lessC ac x := by unfold insG; rw [HP2.out]; rfl
            rw [HST.out, ← h9, ← HRS.out]
            exact HRW6.out
          have HBL := hidden hb6
          clear HP HPO HSW HYO HXO HYC HRW6 hb6 HK6 KEEP hd1 hd0 b6 hm HROW HBR
          go_wp2_with fail
          go_roundw
          case rel => exact ⟨i + 1, by go_num, by omega, HFIN, HBL⟩
          case measure => simp [intOf]; omega
        case pos =>
          have HPK : Hid (posR lessC ac x ac.length = posR lessC ac x k) := by
            show _ = _
            have e9 : lessE y d = true := by rw [← hm.out]; simp [hmz]
            rw [HP.out, HPO.out, e9]
            rfl
          have hL := HL.out
          have hdr : Below w6.heap.size w6 w6.drew := (Below.refl _ _).drew
          have R8 := HRW6.out.below hdr
          have hgB : B ≤ g := hgl.1
          obtain ⟨w9, hw9⟩ : ∃ w9, w9 = ((((((w6.setCell ⟨g, (k + 1) * 6, none⟩ (.string y.name)).setCell ⟨g, (k + 1) * 6 + 1, none⟩ (.int .i64 y.vA)).setCell ⟨g, (k + 1) * 6 + 2, none⟩ (.int .i64 y.vB)).setCell ⟨g, (k + 1) * 6 + 3, none⟩ (.int .i64 y.vC)).setCell ⟨g, (k + 1) * 6 + 4, none⟩ (.slice s0 y.vP.length t0)).setCell ⟨g, (k + 1) * 6 + 5, none⟩ (.slice s1 y.needs.length t1)).drew := ⟨_, rfl⟩
          obtain ⟨w10, hw10⟩ : ∃ w10, w10 = ((((((w9.setCell ⟨g, k * 6, none⟩ (.string d.name)).setCell ⟨g, k * 6 + 1, none⟩ (.int .i64 d.vA)).setCell ⟨g, k * 6 + 2, none⟩ (.int .i64 d.vB)).setCell ⟨g, k * 6 + 3, none⟩ (.int .i64 d.vC)).setCell ⟨g, k * 6 + 4, none⟩ (.slice q0 d.vP.length c0)).setCell ⟨g, k * 6 + 5, none⟩ (.slice q1 d.needs.length c1)) := ⟨_, rfl⟩
          have e9 : w9 = (setW w6 g ((k + 1) * 6) yc.cells).drew := by rw [HYC.out]; exact hw9
          have R9 : RowE B w9 (.slice (some ⟨g, 0, none⟩) ps.length cap) ((holeC ac (k + 1) x ++ rs).set (k + 1) yc) := by
            rw [e9]
            exact (HRW6.out.setN hL (i := k + 1) (by omega) (HYO.out.below hd1)).below ((Below.refl _ _).drew)
          have X9 : EntOwn w9 x := by
            have h8 := HRW6.out.1
            rw [← hL] at h8
            rw [e9]
            exact (EntOwn.puts _ (HXO.out.below hd1) h8).below ((Below.refl _ _).drew)
          have e10 : w10 = setW w9 g (k * 6) x.cells := by rw [HXC.out]; exact hw10
          have R10 : RowE B w10 (.slice (some ⟨g, 0, none⟩) ps.length cap) (holeC ac k x ++ rs) := by
            rw [e10, ← HSW.out]
            exact R9.setN (by rw [List.length_set]; exact hL) (i := k) (by rw [List.length_set]; omega) X9
          have HFIN := hidden R10
          have HBL : Hid (Below B w w10) := by
            show Below B w w10
            rw [e10, e9]
            exact setW_below hgB _ _ _ _ (setW_below hgB _ _ _ _ hb6).drew
          have h9at : ((holeC ac (k + 1) x ++ rs).set (k + 1) yc)[k]? = some yc := by
            rw [List.getElem?_set_ne (by omega)]
            exact HYK.out
          have hc9 : ∀ j, j < 6 → w9.cell? ⟨g, k * 6 + j, none⟩ = ([.string y.name, .int .i64 y.vA, .int .i64 y.vB, .int .i64 y.vC, .slice s0 y.vP.length t0, .slice s1 y.needs.length t1] : List Value)[j]? := fun j hj => by
            rw [← HYC.out]
            exact R9.cellQ (by rw [List.length_set]; exact hL) h9at j hj
          obtain ⟨y0_, y1_, y2_, y3_, y4_, y5_, x0_, x1_, x2_, x3_, x4_, x5_⟩ := HK6.out _ hdr
          have z0_ : w9.cell? ⟨g, k * 6, none⟩ = some (.string y.name) := hc9 0 (by omega)
          have z1_ : w9.cell? ⟨g, k * 6 + 1, none⟩ = some (.int .i64 y.vA) := hc9 1 (by omega)
          have z2_ : w9.cell? ⟨g, k * 6 + 2, none⟩ = some (.int .i64 y.vB) := hc9 2 (by omega)
          have z3_ : w9.cell? ⟨g, k * 6 + 3, none⟩ = some (.int .i64 y.vC) := hc9 3 (by omega)
          have z4_ : w9.cell? ⟨g, k * 6 + 4, none⟩ = some (.slice s0 y.vP.length t0) := hc9 4 (by omega)
          have z5_ : w9.cell? ⟨g, k * 6 + 5, none⟩ = some (.slice s1 y.needs.length t1) := hc9 5 (by omega)
          have hf8 : ∀ j, w6.drew.frozen? ⟨g, j, none⟩ = false := fun j => R8.frz hL j
          have hf6 : ∀ j, w6.frozen? ⟨g, j, none⟩ = false := fun j => HRW6.out.frz hL j
          have hf9 : ∀ j, w9.frozen? ⟨g, j, none⟩ = false := fun j => R9.frz (by rw [List.length_set]; exact hL) j
          have HW9 := hidden hw9
          have HW10 := hidden hw10
          clear hw9 hw10 e9 e10 R8 R9 R10 X9 h9at hc9 hL hdr HL HP HPO HSW HYO HXO HYC HRW6 hb6 HK6 KEEP hd1 hd0 b6 hm HROW HBR HYK
          go_wp2_with fail
          refine wp_region_held_drew (S := (fun _ => True)) (by kernel_rfl) True.intro (fun hHeld => ?_)
          refine wpAnyH_take (i := 0) (oi := _) (v := ?vZa0) rfl (by kernel_rfl) (by kernel_rfl) (by kernel_rfl) (fun _ _ _ h => h) (Or.inl ⟨by rfl, ?yZa0⟩) hHeld ?_
          case yZa0 => (intro w hSw; (try dsimp only at hSw); go_simp <;> with_reducible rfl)
          try simp only [Act.put, List.getElem_toArray, List.getElem_cons_zero, List.getElem_cons_succ, List.setIfInBounds_toArray, List.set_cons_zero, List.set_cons_succ]
          refine wpAnyH_take (i := 1) (oi := _) (v := ?vZa1) rfl (by kernel_rfl) (by kernel_rfl) (by kernel_rfl) (fun _ _ _ h => h) (Or.inl ⟨by rfl, ?yZa1⟩) hHeld ?_
          case yZa1 => (intro w hSw; (try dsimp only at hSw); go_simp <;> with_reducible rfl)
          try simp only [Act.put, List.getElem_toArray, List.getElem_cons_zero, List.getElem_cons_succ, List.setIfInBounds_toArray, List.set_cons_zero, List.set_cons_succ]
          refine wpAnyH_take (i := 2) (oi := _) (v := ?vZa2) rfl (by kernel_rfl) (by kernel_rfl) (by kernel_rfl) (fun _ _ _ h => h) (Or.inl ⟨by rfl, ?yZa2⟩) hHeld ?_
          case yZa2 => (intro w hSw; (try dsimp only at hSw); go_simp <;> with_reducible rfl)
          try simp only [Act.put, List.getElem_toArray, List.getElem_cons_zero, List.getElem_cons_succ, List.setIfInBounds_toArray, List.set_cons_zero, List.set_cons_succ]
          refine wpAnyH_take (i := 3) (oi := _) (v := ?vZa3) rfl (by kernel_rfl) (by kernel_rfl) (by kernel_rfl) (fun _ _ _ h => h) (Or.inl ⟨by rfl, ?yZa3⟩) hHeld ?_
          case yZa3 => (intro w hSw; (try dsimp only at hSw); go_simp <;> with_reducible rfl)
          try simp only [Act.put, List.getElem_toArray, List.getElem_cons_zero, List.getElem_cons_succ, List.setIfInBounds_toArray, List.set_cons_zero, List.set_cons_succ]
          refine wpAnyH_take (i := 4) (oi := _) (v := ?vZa4) rfl (by kernel_rfl) (by kernel_rfl) (by kernel_rfl) (fun _ _ _ h => h) (Or.inl ⟨by rfl, ?yZa4⟩) hHeld ?_
          case yZa4 => (intro w hSw; (try dsimp only at hSw); go_simp <;> with_reducible rfl)
          try simp only [Act.put, List.getElem_toArray, List.getElem_cons_zero, List.getElem_cons_succ, List.setIfInBounds_toArray, List.set_cons_zero, List.set_cons_succ]
          refine wpAnyH_take (i := 5) (oi := _) (v := ?vZa5) rfl (by kernel_rfl) (by kernel_rfl) (by kernel_rfl) (fun _ _ _ h => h) (Or.inl ⟨by rfl, ?yZa5⟩) hHeld ?_
          case yZa5 => (intro w hSw; (try dsimp only at hSw); go_simp <;> with_reducible rfl)
          try simp only [Act.put, List.getElem_toArray, List.getElem_cons_zero, List.getElem_cons_succ, List.setIfInBounds_toArray, List.set_cons_zero, List.set_cons_succ]
          refine wpAnyH_take (i := 6) (oi := _) (v := ?vZa6) rfl (by kernel_rfl) (by kernel_rfl) (by kernel_rfl) (fun _ _ _ h => h) (Or.inl ⟨by rfl, ?yZa6⟩) hHeld ?_
          case yZa6 => (intro w hSw; (try dsimp only at hSw); go_simp <;> with_reducible rfl)
          try simp only [Act.put, List.getElem_toArray, List.getElem_cons_zero, List.getElem_cons_succ, List.setIfInBounds_toArray, List.set_cons_zero, List.set_cons_succ]
          refine wpAnyH_take (i := 7) (oi := _) (v := ?vZa7) rfl (by kernel_rfl) (by kernel_rfl) (by kernel_rfl) (fun _ _ _ h => h) (Or.inl ⟨by rfl, ?yZa7⟩) hHeld ?_
          case yZa7 => (intro w hSw; (try dsimp only at hSw); go_simp <;> with_reducible rfl)
          try simp only [Act.put, List.getElem_toArray, List.getElem_cons_zero, List.getElem_cons_succ, List.setIfInBounds_toArray, List.set_cons_zero, List.set_cons_succ]
          refine wpAnyH_take (i := 8) (oi := _) (v := ?vZa8) rfl (by kernel_rfl) (by kernel_rfl) (by kernel_rfl) (fun _ _ _ h => h) (Or.inl ⟨by rfl, ?yZa8⟩) hHeld ?_
          case yZa8 => (intro w hSw; (try dsimp only at hSw); go_simp <;> with_reducible rfl)
          try simp only [Act.put, List.getElem_toArray, List.getElem_cons_zero, List.getElem_cons_succ, List.setIfInBounds_toArray, List.set_cons_zero, List.set_cons_succ]
          refine wpAnyH_take (i := 10) (oi := _) (v := ?vZa10) rfl (by kernel_rfl) (by kernel_rfl) (by kernel_rfl) (fun _ _ _ h => h) (Or.inl ⟨by rfl, ?yZa10⟩) hHeld ?_
          case yZa10 => (intro w hSw; (try dsimp only at hSw); go_simp <;> with_reducible rfl)
          try simp only [Act.put, List.getElem_toArray, List.getElem_cons_zero, List.getElem_cons_succ, List.setIfInBounds_toArray, List.set_cons_zero, List.set_cons_succ]
          refine wpAnyH_take (i := 11) (oi := _) (v := ?vZa11) rfl (by kernel_rfl) (by kernel_rfl) (by kernel_rfl) (fun _ _ _ h => h) (Or.inl ⟨by rfl, ?yZa11⟩) hHeld ?_
          case yZa11 => (intro w hSw; (try dsimp only at hSw); go_simp <;> with_reducible rfl)
          try simp only [Act.put, List.getElem_toArray, List.getElem_cons_zero, List.getElem_cons_succ, List.setIfInBounds_toArray, List.set_cons_zero, List.set_cons_succ]
          refine wpAnyH_take (i := 12) (oi := _) (v := ?vZa12) rfl (by kernel_rfl) (by kernel_rfl) (by kernel_rfl) (fun _ _ _ h => h) (Or.inl ⟨by rfl, ?yZa12⟩) hHeld ?_
          case yZa12 => (intro w hSw; (try dsimp only at hSw); go_simp <;> with_reducible rfl)
          try simp only [Act.put, List.getElem_toArray, List.getElem_cons_zero, List.getElem_cons_succ, List.setIfInBounds_toArray, List.set_cons_zero, List.set_cons_succ]
          refine wpAnyH_ready (rs := [9, 13]) (by kernel_rfl) (by simp) ?_
          refine AllReadyH.cons rfl (fun K hK => ?_) (AllReadyH.cons rfl (fun K hK => ?_) AllReadyH.nil)
          · go_simp
            clear hHeld
            refine hK.out _ _ True.intro (fun hHeld => ?_)
            clear hK K
            refine wpAnyH_ready (rs := [13]) (by kernel_rfl) (by simp) ?_
            refine AllReadyH.cons rfl (fun K hK => ?_) AllReadyH.nil
            go_simp
            clear hHeld
            refine hK.out _ _ True.intro (fun hHeld => ?_)
            clear hK K
            refine wpAnyH_take (i := 14) (oi := _) (v := ?vZp14) rfl (by kernel_rfl) (by kernel_rfl) (by kernel_rfl) (fun _ _ _ h => h) (Or.inl ⟨by rfl, ?yZp14⟩) hHeld ?_
            case yZp14 => (intro w hSw; (try dsimp only at hSw); go_simp <;> with_reducible rfl)
            try simp only [Act.put, List.getElem_toArray, List.getElem_cons_zero, List.getElem_cons_succ, List.setIfInBounds_toArray, List.set_cons_zero, List.set_cons_succ]
            refine wpAnyH_ready (rs := [15]) (by kernel_rfl) (by simp) ?_
            refine AllReadyH.cons rfl (fun K hK => ?_) AllReadyH.nil
            go_simp
            clear hHeld
            refine hK.out _ _ True.intro (fun hHeld => ?_)
            clear hK K
            rw [← HW9.out]
            refine wpAnyH_take (i := 16) (oi := _) (v := ?vZp16) rfl (by kernel_rfl) (by kernel_rfl) (by kernel_rfl) (fun _ _ _ h => h) (Or.inl ⟨by rfl, ?yZp16⟩) hHeld ?_
            case yZp16 => (intro w hSw; (try dsimp only at hSw); go_simp <;> with_reducible rfl)
            try simp only [Act.put, List.getElem_toArray, List.getElem_cons_zero, List.getElem_cons_succ, List.setIfInBounds_toArray, List.set_cons_zero, List.set_cons_succ]
            refine wpAnyH_ready (rs := [17]) (by kernel_rfl) (by simp) ?_
            refine AllReadyH.cons rfl (fun K hK => ?_) AllReadyH.nil
            go_simp
            clear hHeld
            refine hK.out _ _ True.intro (fun hHeld => ?_)
            clear hK K
            rw [← HW10.out]
            refine wpAnyH_done (by kernel_rfl) ?_ _
            go_wp2_with fail
            go_roundw
            case rel => exact ⟨k, by omega, by go_num, HPK, HFIN, HBL⟩
            case measure => simp [intOf]
          · go_simp
            clear hHeld
            refine hK.out _ _ True.intro (fun hHeld => ?_)
            clear hK K
            refine wpAnyH_ready (rs := [9]) (by kernel_rfl) (by simp) ?_
            refine AllReadyH.cons rfl (fun K hK => ?_) AllReadyH.nil
            go_simp
            clear hHeld
            refine hK.out _ _ True.intro (fun hHeld => ?_)
            clear hK K
            refine wpAnyH_take (i := 14) (oi := _) (v := ?vZq14) rfl (by kernel_rfl) (by kernel_rfl) (by kernel_rfl) (fun _ _ _ h => h) (Or.inl ⟨by rfl, ?yZq14⟩) hHeld ?_
            case yZq14 => (intro w hSw; (try dsimp only at hSw); go_simp <;> with_reducible rfl)
            try simp only [Act.put, List.getElem_toArray, List.getElem_cons_zero, List.getElem_cons_succ, List.setIfInBounds_toArray, List.set_cons_zero, List.set_cons_succ]
            refine wpAnyH_ready (rs := [15]) (by kernel_rfl) (by simp) ?_
            refine AllReadyH.cons rfl (fun K hK => ?_) AllReadyH.nil
            go_simp
            clear hHeld
            refine hK.out _ _ True.intro (fun hHeld => ?_)
            clear hK K
            rw [← HW9.out]
            refine wpAnyH_take (i := 16) (oi := _) (v := ?vZq16) rfl (by kernel_rfl) (by kernel_rfl) (by kernel_rfl) (fun _ _ _ h => h) (Or.inl ⟨by rfl, ?yZq16⟩) hHeld ?_
            case yZq16 => (intro w hSw; (try dsimp only at hSw); go_simp <;> with_reducible rfl)
            try simp only [Act.put, List.getElem_toArray, List.getElem_cons_zero, List.getElem_cons_succ, List.setIfInBounds_toArray, List.set_cons_zero, List.set_cons_succ]
            refine wpAnyH_ready (rs := [17]) (by kernel_rfl) (by simp) ?_
            refine AllReadyH.cons rfl (fun K hK => ?_) AllReadyH.nil
            go_simp
            clear hHeld
            refine hK.out _ _ True.intro (fun hHeld => ?_)
            clear hK K
            rw [← HW10.out]
            refine wpAnyH_done (by kernel_rfl) ?_ _
            go_wp2_with fail
            go_roundw
            case rel => exact ⟨k, by omega, by go_num, HPK, HFIN, HBL⟩
            case measure => simp [intOf]
end Go.Proofs.Ytablcicfagmhpaa

/-! LessVer, as both the program and the specification answer it, is a strict order: of two versions just one is less, or they are the same; and it goes on; no condition. -/
namespace Go.Proofs.Ytablcicfagmhpaa
open Go.RowKit
set_option linter.unusedSimpArgs false
set_option linter.unusedVariables false

theorem ltS_trans {a b c : ByteArray} (h : ltS a b = true) (k : ltS b c = true) : ltS a c = true := by
  rw [ltS_iff] at *
  simp only [decide_eq_true_eq] at *
  exact vltL_trans h k
theorem ltS_other {a b : ByteArray} (hne : ¬ a = b) : ltS b a = !ltS a b := by
  cases h : ltS a b
  · cases k : ltS b a
    · exact absurd (ltS_total h k) hne
    · rfl
  · rw [ltS_asymm h]; rfl
theorem lessPart_irrefl (a : ByteArray) : lessPart a a = false := by
  unfold lessPart
  cases digitsB a <;> simp [ltS_irrefl]
theorem lessPart_other {a b : ByteArray} (hne : ¬ a = b) : lessPart b a = !lessPart a b := by
  unfold lessPart
  cases ha : digitsB a <;> cases hb : digitsB b
  · simpa using ltS_other hne
  · simp
  · simp
  · simp only [Bool.and_self, if_true]
    by_cases h : a.size = b.size
    · rw [if_pos h, if_pos h.symm]; exact ltS_other hne
    · rw [if_neg h, if_neg (fun e => h e.symm)]
      rw [Bool.eq_iff_iff]
      simp
      omega
theorem lessPart_trans {a b c : ByteArray} (h : lessPart a b = true) (k : lessPart b c = true) : lessPart a c = true := by
  unfold lessPart at *
  cases ha : digitsB a <;> cases hb : digitsB b <;> cases hc : digitsB c <;> simp only [ha, hb, hc, Bool.and_self, Bool.and_true, Bool.and_false, Bool.true_and, Bool.false_and, if_true, Bool.false_eq_true, if_false, reduceCtorEq] at * <;> try trivial
  · exact ltS_trans h k
  · by_cases h1 : a.size = b.size <;> by_cases h2 : b.size = c.size
    · rw [if_pos h1] at h; rw [if_pos h2] at k; rw [if_pos (by omega)]; exact ltS_trans h k
    · rw [if_neg h2] at k; rw [if_neg (by omega)]; simp at *; omega
    · rw [if_neg h1] at h; rw [if_neg (by omega)]; simp at *; omega
    · rw [if_neg h1] at h; rw [if_neg h2] at k; simp at h k; rw [if_neg (by omega)]; simp; omega

theorem lessGo_irrefl : ∀ x : List ByteArray, lessGo x x = false
  | [] => by simp [lessGo]
  | a :: x => by rw [lessGo, if_pos rfl]; exact lessGo_irrefl x
theorem lessGo_other : ∀ {x y : List ByteArray}, ¬ x = y → lessGo y x = !lessGo x y
  | [], [], h => absurd rfl h
  | [], _ :: _, _ => by simp [lessGo]
  | _ :: _, [], _ => by simp [lessGo]
  | a :: x, b :: y, h => by
    rw [lessGo, lessGo]
    by_cases e : a = b
    · rw [if_pos e, if_pos e.symm]
      exact lessGo_other (fun k => h (by rw [e, k]))
    · rw [if_neg e, if_neg (fun k => e k.symm)]
      exact lessPart_other e
theorem lessGo_trans : ∀ {x y z : List ByteArray}, lessGo x y = true → lessGo y z = true → lessGo x z = true
  | x, [], z, h, k => by cases x <;> simp [lessGo] at h
  | x, b :: y, [], h, k => by simp [lessGo] at k
  | [], b :: y, c :: z, h, k => by simp [lessGo]
  | a :: x, b :: y, c :: z, h, k => by
    rw [lessGo] at *
    by_cases e1 : a = b
    · subst e1
      rw [if_pos rfl] at h
      by_cases e2 : a = c
      · subst e2
        rw [if_pos rfl] at *
        exact lessGo_trans h k
      · rw [if_neg e2] at *; exact k
    · rw [if_neg e1] at h
      by_cases e2 : b = c
      · subst e2
        rw [if_neg e1]; exact h
      · rw [if_neg e2] at k
        have ht := lessPart_trans h k
        by_cases e3 : a = c
        · subst e3
          rw [lessPart_irrefl] at ht; cases ht
        · rw [if_neg e3]; exact ht

theorem lessPre_irrefl (x : List ByteArray) : lessPre x x = false := by
  unfold lessPre
  split
  · rename_i h; simp; omega
  · exact lessGo_irrefl x
theorem lessPre_other {x y : List ByteArray} (h : ¬ x = y) : lessPre y x = !lessPre x y := by
  unfold lessPre
  by_cases h1 : x.length = 0
  · have hx : x = [] := List.eq_nil_of_length_eq_zero h1
    subst hx
    have hy : ¬ y.length = 0 := fun e => h (List.eq_nil_of_length_eq_zero e).symm
    simp [hy]; omega
  · by_cases h2 : y.length = 0
    · have hy : y = [] := List.eq_nil_of_length_eq_zero h2
      subst hy
      simp [h1]; omega
    · rw [if_neg (by omega), if_neg (by omega)]; exact lessGo_other h
theorem lessPre_trans {x y z : List ByteArray} (h : lessPre x y = true) (k : lessPre y z = true) : lessPre x z = true := by
  unfold lessPre at *
  by_cases h1 : x.length = 0
  · simp [h1] at h
  · by_cases h2 : y.length = 0
    · simp [h2] at k
    · rw [if_neg (by omega)] at h
      by_cases h3 : z.length = 0
      · rw [if_pos (.inr h3)]; simp [h3]; omega
      · rw [if_neg (by omega)] at k
        rw [if_neg (by omega)]; exact lessGo_trans h k

/-- A version: its numbers and its Pre. -/
structure V4 where
  a : Int
  b : Int
  c : Int
  ps : List ByteArray
def lessV (x y : V4) : Bool := lessB x.a x.b x.c x.ps y.a y.b y.c y.ps
def sameV (x y : V4) : Bool := sameB x.a x.b x.c x.ps y.a y.b y.c y.ps

theorem lessV_trans {x y z : V4} (h : lessV x y = true) (k : lessV y z = true) : lessV x z = true := by
  unfold lessV lessB at *
  by_cases a1 : x.a = y.a <;> by_cases a2 : y.a = z.a
  · rw [if_pos a1] at h; rw [if_pos a2] at k; rw [if_pos (by omega)]
    by_cases b1 : x.b = y.b <;> by_cases b2 : y.b = z.b
    · rw [if_pos b1] at h; rw [if_pos b2] at k; rw [if_pos (by omega)]
      by_cases c1 : x.c = y.c <;> by_cases c2 : y.c = z.c
      · rw [if_pos c1] at h; rw [if_pos c2] at k; rw [if_pos (by omega)]; exact lessPre_trans h k
      · rw [if_neg c2] at k; rw [if_neg (by omega)]; simp at *; omega
      · rw [if_neg c1] at h; rw [if_neg (by omega)]; simp at *; omega
      · rw [if_neg c1] at h; rw [if_neg c2] at k; simp at h k; rw [if_neg (by omega)]; simp; omega
    · rw [if_neg b2] at k; rw [if_neg (by omega)]; simp at *; omega
    · rw [if_neg b1] at h; rw [if_neg (by omega)]; simp at *; omega
    · rw [if_neg b1] at h; rw [if_neg b2] at k; simp at h k; rw [if_neg (by omega)]; simp; omega
  · rw [if_neg a2] at k; rw [if_neg (by omega)]; simp at *; omega
  · rw [if_neg a1] at h; rw [if_neg (by omega)]; simp at *; omega
  · rw [if_neg a1] at h; rw [if_neg a2] at k; simp at h k; rw [if_neg (by omega)]; simp; omega

/-- Of two versions one is less, or they are the same: in one way alone. -/
theorem one_way (x y : V4) : (if lessV x y then 1 else 0) + (if lessV y x then 1 else 0) + (if sameV x y then 1 else 0) = (1 : Int) := by
  unfold lessV sameV lessB sameB coreB
  by_cases a1 : x.a = y.a
  · by_cases b1 : x.b = y.b
    · by_cases c1 : x.c = y.c
      · by_cases p1 : x.ps = y.ps
        · simp [a1, b1, c1, p1, lessPre_irrefl]
        · have ho := lessPre_other p1
          simp only [a1, b1, c1, if_true, ho, beq_self_eq_true, Bool.and_self, Bool.true_and, decide_eq_false p1]
          cases lessPre x.ps y.ps <;> simp
      · have : (x.c == y.c) = false := by simpa using c1
        simp only [a1, b1, if_true, this, if_neg c1, if_neg (fun e => c1 (Eq.symm e)), Bool.and_false, Bool.false_and, Bool.false_eq_true, if_false]
        by_cases l : x.c < y.c
        · have : ¬ y.c < x.c := by omega
          simp [l, this]
        · have : y.c < x.c := by omega
          simp [l, this]
    · have : (x.b == y.b) = false := by simpa using b1
      simp only [a1, if_true, this, if_neg b1, if_neg (fun e => b1 (Eq.symm e)), Bool.and_false, Bool.false_and, Bool.false_eq_true, if_false]
      by_cases l : x.b < y.b
      · have : ¬ y.b < x.b := by omega
        simp [l, this]
      · have : y.b < x.b := by omega
        simp [l, this]
  · have : (x.a == y.a) = false := by simpa using a1
    simp only [this, if_neg a1, if_neg (fun e => a1 (Eq.symm e)), Bool.false_and, Bool.false_eq_true, if_false]
    by_cases l : x.a < y.a
    · have : ¬ y.a < x.a := by omega
      simp [l, this]
    · have : y.a < x.a := by omega
      simp [l, this]
#print axioms one_way
#print axioms lessV_trans
end Go.Proofs.Ytablcicfagmhpaa
