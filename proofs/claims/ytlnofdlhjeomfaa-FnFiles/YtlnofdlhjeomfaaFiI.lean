/-
  A file put into a list, and one dropped, the specification's: contracts for the walks; conditions: the list lies in memory, and holds at most 2 to the 20.
-/
import Derived.Test.YtlnofdlhjeomfaaFiH
import Derived.Laws.AppendOwnNone
namespace Go.Proofs.Ytlnofdlhjeomfaa
open Go.RowKit Go.Maps
set_option linter.unusedSimpArgs false
set_option linter.unusedVariables false

theorem cellsF_one (fs : List FileD) : ∀ u ∈ cellsF fs, u.oneCell' = true := fun u hu => by
  obtain ⟨f, _, hf⟩ := List.mem_flatMap.1 hu
  simp at hf
  rcases hf with rfl | rfl <;> rfl
theorem addr_addF (b off i : Nat) : ((⟨b, off, none⟩ : Addr).add i) = ⟨b, off + i, none⟩ := by unfold Addr.add; split <;> simp_all
theorem filesIn_src {S : Nat → Prop} {w : World} {ad : Addr} {n c : Nat} {fs : List FileD} (h : FilesIn S w (.slice (some ad) n c) fs) : ∀ j u, (cellsF fs)[j]? = some u → w.cell? (ad.add j) = some u := fun j u hj => by
  obtain ⟨q, cap, hv, _, _, _, ha⟩ := h
  have hlt : j < fs.length * 2 := by rw [← cellsF_length]; exact (List.getElem?_eq_some_iff.1 hj).1
  rcases ha with rfl | ⟨b, off, hq, hb, ha⟩
  · simp at hlt
  · simp only [Value.slice.injEq] at hv
    rw [hq] at hv
    obtain ⟨rfl⟩ := Option.some.inj hv.1
    rw [addr_addF]
    have hk : j / 2 < fs.length := by omega
    obtain ⟨h1, h2⟩ := ha (j / 2) hk
    obtain ⟨g1, g2⟩ := cellsF_at fs (j / 2) hk
    rcases Nat.mod_two_eq_zero_or_one j with hm | hm
    · have e : j = j / 2 * 2 := by omega
      rw [← e] at h1 g1
      rw [hj] at g1
      rw [h1, g1]
    · have e : j = j / 2 * 2 + 1 := by omega
      have e2 : off + j / 2 * 2 + 1 = off + j := by omega
      rw [e2] at h2
      rw [← e] at g2
      rw [hj] at g2
      rw [h2, g2]

set_option maxHeartbeats 4000000 in
set_option maxRecDepth 100000 in
theorem specPut_c (S : Nat → Prop) (v : Value) (fs : List FileD) (f : FileD) (w : World) (hv : FilesIn S w v fs) (hB : ∀ b, S b → b < w.heap.size) (hl : fs.length ≤ 1048576) (hsf : saneF f) (hp : ∀ g ∈ fs, g.p.size ≤ 1048576) (hfp : f.p.size ≤ 1048576) :
    Calls Try.prog 10 #[v, .agg #[.string f.p, .string f.t]] w fun e w' => ∃ x, e = .returned (.tuple #[x, .bool (filesB (putS fs f))]) ∧ w'.ownsRow w.heap.size 26 2 x (putOut fs f).length (cellsF (putOut fs f)) ∧ Below w.heap.size w w' := by
  obtain ⟨i0, hi, hz0, hz1, hz2⟩ := info_parts infoFile
  have kW0 : Below w.heap.size w (w.alloc (.cells #[.string f.p, .string f.t] 26)) := (Below.refl _ _).alloc (Nat.le_refl _) _
  have HV : ∀ w1, Below w.heap.size w w1 → FilesIn S w1 v fs ∧ ∀ b, S b → b < w1.heap.size := fun w1 h => ⟨hv.keep (.of h hB), fun b hb => Nat.lt_of_lt_of_le (hB b hb) h.size⟩
  have hsn : ∀ g ∈ fs, saneF g := by obtain ⟨_, _, _, _, _, h, _⟩ := hv; exact h
  have H1 := put5_c S v fs f _ (HV _ kW0).1 (HV _ kW0).2 hl
  have H2 : Hid (∀ w1 lo u, w1.ownsRow lo 26 2 u (putS fs f).length (cellsF (putS fs f)) → Calls Try.prog 44 #[u] w1 fun e w' => e = .returned (.bool (filesB (putS fs f))) ∧ Below w1.heap.size w1 w') := fun w1 lo u h => specFilesOk_c _ u _ w1 (filesIn_owns h (fun g hg => by rcases putS_mem hg with rfl | hg; exact hsf; exact hsn g hg)) (fun b h => h.2) (fun g hg => by rcases putS_mem hg with rfl | hg; exact hfp; exact hp g hg)
  obtain ⟨r, hr⟩ : ∃ r, r = filesB (putS fs f) := ⟨_, rfl⟩
  rw [← hr] at H2 ⊢
  have HO : Hid (putOut fs f = if r then putS fs f else fs) := by rw [hr]; rfl
  obtain ⟨qv, cv, rfl, _⟩ := id hv
  have hX := vheap_new w (.cells #[.string f.p, .string f.t] 26)
  have x0 := vblk_cell hX 0
  have x1 := vblk_cell hX 1
  simp only [List.getElem?_toArray, List.getElem?_cons_succ, List.getElem?_cons_zero] at x0 x1
  have SRC : Hid (∀ w1, Below w.heap.size w w1 → FilesIn S w1 (.slice qv fs.length cv) fs) := fun w1 h => (HV w1 h).1
  clear HV hr hsn hp hfp hsf hX hv
  cases r with
  | true =>
    go_enter Try.func10, Try.ntmps10
    go_wp2_with (first
      | (go_at_call 43; refine H1.mono ?_; rintro e w1 ⟨u1, rfl, o1, b1⟩
         obtain ⟨q3, m3, c3, hu3⟩ : ∃ q m c, u1 = .slice q m c := by rcases o1.2 with ⟨rfl, _⟩ | ⟨g, c, cur, rfl, _⟩ <;> exact ⟨_, _, _, rfl⟩
         subst hu3)
      | (go_at_call 44; refine (H2.out w1 _ _ o1).mono ?_; rintro e w2 ⟨rfl, b2⟩))
    go_ret2
    refine ⟨_, rfl, ?_, (kW0.trans (b1.mono kW0.size)).trans (b2.mono (Nat.le_trans kW0.size b1.size))⟩
    rw [HO.out]
    exact owns2_below (owns_lower2 o1 kW0.size) b2
  | false =>
    cases qv with
    | some ad =>
      go_enter Try.func10, Try.ntmps10
      go_wp2_with (first
        | (go_at_call 43; refine H1.mono ?_; rintro e w1 ⟨u1, rfl, o1, b1⟩
           obtain ⟨q3, m3, c3, hu3⟩ : ∃ q m c, u1 = .slice q m c := by rcases o1.2 with ⟨rfl, _⟩ | ⟨g, c, cur, rfl, _⟩ <;> exact ⟨_, _, _, rfl⟩
           subst hu3)
        | (go_at_call 44; refine (H2.out w1 _ _ o1).mono ?_; rintro e w2 ⟨rfl, b2⟩
           have k2 : Below w.heap.size w w2 := (kW0.trans (b1.mono kW0.size)).trans (b2.mono (Nat.le_trans kW0.size b1.size))
           have kx := k2.alloc k2.size (.cells #[] 26)
           have LIT : (w2.alloc (.cells #[] 26)).ownsRow w2.heap.size 26 2 (.slice (some ⟨w2.heap.size, 0, none⟩) 0 0) 0 [] := World.ownsRow_lit w2 #[] 0 (Nat.le_refl _) (by unfold maxLen; omega) rfl
           have SX := SRC.out _ kx)
        | (at_builtin; refine wpList_append_own _ rfl _ _ 24 rfl w2.heap.size 26 i0 (.agg #[.string ⟨#[]⟩, .string ⟨#[]⟩]) 2 32 Try.underlying24 hi hz0 hz1 hz2 rfl (by decide) (.slice (some ⟨w2.heap.size, 0, none⟩) 0 0) 0 [] rfl LIT ad fs.length cv (cellsF fs) rfl (cellsF_length fs) (filesIn_src SX) (cellsF_one fs) (by unfold maxLen; omega) (by omega) (by simp) ?_))
      intro v3 w3 o3 gr3 _
      have hb3 : Below w.heap.size w w3 := Below.grown kx gr3 kx.size (fun j hj => by cases hj; exact k2.size)
      go_wp2_with fail
      go_ret2
      refine ⟨_, rfl, ?_, hb3⟩
      rw [HO.out]
      exact owns_lower2 o3 k2.size
    | none =>
      have he : fs = [] := by
        obtain ⟨q, c, hq, _, _, _, h⟩ := SRC.out w (Below.refl _ _)
        simp only [Value.slice.injEq] at hq
        rcases h with h | ⟨b, off, h, _⟩
        · exact h
        · rw [h] at hq; simp at hq
      subst he
      go_enter Try.func10, Try.ntmps10
      go_wp2_with (first
        | (go_at_call 43; refine H1.mono ?_; rintro e w1 ⟨u1, rfl, o1, b1⟩
           obtain ⟨q3, m3, c3, hu3⟩ : ∃ q m c, u1 = .slice q m c := by rcases o1.2 with ⟨rfl, _⟩ | ⟨g, c, cur, rfl, _⟩ <;> exact ⟨_, _, _, rfl⟩
           subst hu3)
        | (go_at_call 44; refine (H2.out w1 _ _ o1).mono ?_; rintro e w2 ⟨rfl, b2⟩
           have k2 : Below w.heap.size w w2 := (kW0.trans (b1.mono kW0.size)).trans (b2.mono (Nat.le_trans kW0.size b1.size))
           have kx := k2.alloc k2.size (.cells #[] 26)
           have LIT : (w2.alloc (.cells #[] 26)).ownsRow w2.heap.size 26 2 (.slice (some ⟨w2.heap.size, 0, none⟩) 0 0) 0 [] := World.ownsRow_lit w2 #[] 0 (Nat.le_refl _) (by unfold maxLen; omega) rfl
           have SX := SRC.out _ kx)
        | (at_builtin; refine wpList_append_own_none rfl _ _ 24 rfl w2.heap.size 26 i0 2 Try.underlying24 hi (.slice (some ⟨w2.heap.size, 0, none⟩) 0 0) 0 [] rfl LIT rfl ?_))
      go_ret2
      refine ⟨_, rfl, ?_, kx⟩
      rw [HO.out]
      exact owns_lower2 LIT k2.size
end Go.Proofs.Ytlnofdlhjeomfaa
