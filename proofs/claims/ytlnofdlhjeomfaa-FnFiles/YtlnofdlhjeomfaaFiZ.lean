/-
  A file put into a list, the program's: a contract for the walks; conditions: the list lies in memory, and holds at most 2 to the 20; its texts, and those of the file, have at most 2 to the 20 bytes.
-/
import Derived.Test.YtlnofdlhjeomfaaFiY
namespace Go.Proofs.Ytlnofdlhjeomfaa
open Go.RowKit Go.Maps
set_option linter.unusedSimpArgs false
set_option linter.unusedVariables false

theorem setM_mem {fs : List FileD} {f g : FileD} {q : ByteArray} (h : setM (getF fs) f q = some g) : g = f ∨ g ∈ fs := by
  unfold setM at h
  split at h
  · exact .inl (Option.some.inj h).symm
  · exact .inr (getF_mem h).1
theorem putI_mem {fs : List FileD} {f g : FileD} (h : g ∈ putI fs f) : g = f ∨ g ∈ fs := by
  obtain ⟨q, hq⟩ := alongF_mem h
  exact setM_mem hq
theorem insR_len (f : FileD) (fs : List FileD) : (insR f fs).length = fs.length + 1 := by
  rw [insR_at, List.length_append, List.length_take, List.length_cons, List.length_drop]
  have := atF_le f fs
  omega

set_option maxHeartbeats 8000000 in
set_option maxRecDepth 100000 in
theorem implPut_c (S : Nat → Prop) (v : Value) (fs : List FileD) (f : FileD) (w : World) (hv : FilesIn S w v fs) (hB : ∀ b, S b → b < w.heap.size) (hl : fs.length ≤ 1048576) (hp : ∀ g ∈ fs, g.p.size ≤ 1048576) (ht : ∀ g ∈ fs, g.t.size ≤ 1048576) (hfp : f.p.size ≤ 1048576) (hft : f.t.size ≤ 1048576) :
    Calls Try.prog 9 #[v, .agg #[.string f.p, .string f.t]] w fun e w' => ∃ x, e = .returned (.tuple #[x, .bool (filesB (putI fs f))]) ∧ w'.ownsRow w.heap.size 26 2 x (orOld (putI fs f) fs).length (cellsF (orOld (putI fs f) fs)) ∧ Below w.heap.size w w' := by
  have hsn : ∀ g ∈ fs, saneF g := by obtain ⟨_, _, _, _, _, h, _⟩ := hv; exact h
  have hsf : saneF f := ⟨by unfold maxLen; omega, by unfold maxLen; omega⟩
  have hpm : f.p.size ≤ maxLen := hsf.1
  have kW0 : Below w.heap.size w (w.alloc (.cells #[.string f.p, .string f.t] 26)) := (Below.refl _ _).alloc (Nat.le_refl _) _
  have HV : ∀ w1, Below w.heap.size w w1 → FilesIn S w1 v fs ∧ ∀ b, S b → b < w1.heap.size := fun w1 h => ⟨hv.keep (.of h hB), fun b hb => Nat.lt_of_lt_of_le (hB b hb) h.size⟩
  have hX := vheap_new w (.cells #[.string f.p, .string f.t] 26)
  have HM := filesByPath_c S v fs _ (HV _ kW0).1 (HV _ kW0).2 (by omega)
  obtain ⟨B, hBe⟩ : ∃ B, B = (w.alloc (.cells #[.string f.p, .string f.t] 26)).heap.size := ⟨_, rfl⟩
  have hBB : B = w.heap.size + 1 := by rw [hBe]; simp
  have KP : Hid (∀ w', Below B (w.alloc (.cells #[.string f.p, .string f.t] 26)) w' → w'.cell? ⟨w.heap.size, 0, none⟩ = some (.string f.p) ∧ w'.cell? ⟨w.heap.size, 1, none⟩ = some (.string f.t)) := fun w' h => by
    have x0 := vblk_cell hX 0
    have x1 := vblk_cell hX 1
    simp only [List.getElem?_toArray, List.getElem?_cons_succ, List.getElem?_cons_zero] at x0 x1
    exact ⟨(h.cell (by show w.heap.size < B; omega)).trans x0, (h.cell (by show w.heap.size < B; omega)).trans x1⟩
  rw [← hBe] at HM
  have HPL : Hid (∀ w1, Below w.heap.size w w1 → Calls Try.prog 40 #[v, .agg #[.string f.p, .string f.t]] w1 fun e w' => ∃ x, e = .returned x ∧ w'.ownsRow w1.heap.size 26 2 x (fs.length + 1) (cellsF (insR f fs)) ∧ Below w1.heap.size w1 w') := fun w1 h => place_c S v fs f w1 (HV w1 h).1 (HV w1 h).2 hl
  have HS : Hid (∀ q g, setM (getF fs) f q = some g → g.p.size ≤ 1048576 ∧ g.t.size ≤ 1048576) := fun q g h => by
    rcases setM_mem h with rfl | h
    · exact ⟨hfp, hft⟩
    · exact ⟨hp g h, ht g h⟩
  have HO : Hid (∀ w1 lo u, Below w.heap.size w w1 → lo ≤ w1.heap.size → w1.ownsRow lo 26 2 u (putI fs f).length (cellsF (putI fs f)) → Calls Try.prog 41 #[u, v] w1 fun e w' => ∃ x, e = .returned (.tuple #[x, .bool (filesB (putI fs f))]) ∧ w'.ownsRow lo 26 2 x (orOld (putI fs f) fs).length (cellsF (orOld (putI fs f) fs)) ∧ Below w1.heap.size w1 w') := fun w1 lo u h hlo ho => orOld_c S S lo u v _ fs w1 ho (fun g hg => by rcases putI_mem hg with rfl | hg; exact hsf; exact hsn g hg) (HV w1 h).1 (HV w1 h).2 hlo hl (fun g hg => by rcases putI_mem hg with rfl | hg; exact hfp; exact hp g hg) hp ht
  have HVV : Hid (∀ w1, Below w.heap.size w w1 → FilesIn S w1 v fs ∧ ∀ b, S b → b < w1.heap.size) := HV
  obtain ⟨qv, cv, rfl, _⟩ := id hv
  have HI : Hid (∀ g ∈ insR f fs, saneF g) := fun g hg => by rcases insR_mem hg with rfl | hg; exact hsf; exact hsn g hg
  have HBE : Hid (B = (w.alloc (.cells #[.string f.p, .string f.t] 26)).heap.size) := hBe
  have hBw : w.heap.size ≤ B := by omega
  clear HV hv hsn hp ht hX hBe hBB
  cases hg : getF fs f.p with
  | none =>
    have HG : Hid (getF fs f.p = none) := hg
    have HPI : Hid (putI fs f = alongF (setM (getF fs) f) (insR f fs)) := by show _ = _; unfold putI; rw [hg]; rfl
    clear hg
    go_enter Try.func9, Try.ntmps9
    go_wp2_with (first
      | (go_at_call 39; refine HM.mono ?_; rintro e w1 ⟨rfl, hm, b1⟩; clear HM
         have k1 : Below w.heap.size w w1 := kW0.trans (b1.mono hBw)
         obtain ⟨x0, x1⟩ := KP.out w1 b1)
      | (at_lookup; refine wpList_lookup_none _ rfl _ _ rfl B fs.length _ rfl hm f.p rfl hpm HG.out ?_
         have b2 := b1.alloc (Nat.le_trans (Nat.le_of_eq HBE.out) b1.size) (.cells #[.string ⟨#[]⟩, .string ⟨#[]⟩] 26)
         have k2 := k1.alloc k1.size (.cells #[.string ⟨#[]⟩, .string ⟨#[]⟩] 26)
         obtain ⟨y0, y1⟩ := KP.out _ b2)
      | (go_at_call 40; refine (HPL.out _ k2).mono ?_; rintro e w3 ⟨x, rfl, o3, b3⟩
         have k3 := k2.trans (b3.mono k2.size)
         obtain ⟨q3, m3, c3, hu3⟩ : ∃ q m c, x = .slice q m c := by rcases o3.2 with ⟨rfl, _⟩ | ⟨g, c, cur, rfl, _⟩ <;> exact ⟨_, _, _, rfl⟩
         subst hu3
         have b3' := b2.trans (b3.mono (Nat.le_trans (Nat.le_of_eq HBE.out) b2.size))
         obtain ⟨z0, z1⟩ := KP.out _ b3'
         have hm3 := (hm.alloc (.cells #[.string ⟨#[]⟩, .string ⟨#[]⟩] 26)).below b3)
      | (at_mapUpdate; refine wpList_mapUpdate_F _ rfl _ _ _ rfl B fs.length _ rfl hm3 (by unfold maxLen; omega) f.p rfl hpm f rfl ?_; intro w4 hm4 hg4
         have k4 := k3.grown hg4 k3.size (fun j hj => by cases hj; exact hBw)
         have o4 := o3.kept hg4 (.inr (fun e => by have h1 := (o3.lt _ e).1; have h2 := hm.lt; simp at h1; omega)))
      | (go_at_call 42; refine (along_c _ _ _ (setM (getF fs) f) _ (insR f fs) w4 hm4 (filesIn_owns o4 HI.out) (fun b h => h.2) (by rw [insR_len]; omega) HS.out).mono ?_; rintro e w5 ⟨u5, rfl, o5, b5⟩
         have k5 := k4.trans (b5.mono k4.size)
         rw [← HPI.out] at o5
         obtain ⟨q5, m5, c5, hu5⟩ : ∃ q m c, u5 = .slice q m c := by rcases o5.2 with ⟨rfl, _⟩ | ⟨g, c, cur, rfl, _⟩ <;> exact ⟨_, _, _, rfl⟩
         subst hu5)
      | (go_at_call 41; refine (HO.out w5 _ _ k5 b5.size o5).mono ?_; rintro e w6 ⟨y, rfl, o6, b6⟩))
    go_ret2
    exact ⟨_, rfl, owns_lower2 o6 k4.size, k5.trans (b6.mono k5.size)⟩
  | some g =>
    have HG : Hid (getF fs f.p = some g) := hg
    have HPI : Hid (putI fs f = alongF (setM (getF fs) f) fs) := by show _ = _; unfold putI; rw [hg]; rfl
    clear hg
    go_enter Try.func9, Try.ntmps9
    go_wp2_with (first
      | (go_at_call 39; refine HM.mono ?_; rintro e w1 ⟨rfl, hm, b1⟩; clear HM
         have k1 : Below w.heap.size w w1 := kW0.trans (b1.mono hBw)
         obtain ⟨x0, x1⟩ := KP.out w1 b1)
      | (at_lookup; refine wpList_lookup_some _ rfl _ _ rfl B fs.length _ rfl hm f.p rfl hpm g HG.out ?_
         have b2 := b1.alloc (Nat.le_trans (Nat.le_of_eq HBE.out) b1.size) (.cells #[.string g.p, .string g.t] 26)
         have k2 := k1.alloc k1.size (.cells #[.string g.p, .string g.t] 26)
         obtain ⟨z0, z1⟩ := KP.out _ b2)
      | (at_mapUpdate; refine wpList_mapUpdate_F _ rfl _ _ _ rfl B fs.length _ rfl (hm.alloc _) (by unfold maxLen; omega) f.p rfl hpm f rfl ?_; intro w4 hm4 hg4
         have k4 := k2.grown hg4 k2.size (fun j hj => by cases hj; exact hBw))
      | (go_at_call 42; refine (along_c _ _ _ (setM (getF fs) f) _ fs w4 hm4 (HVV.out w4 k4).1 (HVV.out w4 k4).2 (by omega) HS.out).mono ?_; rintro e w5 ⟨u5, rfl, o5, b5⟩
         have k5 := k4.trans (b5.mono k4.size)
         rw [← HPI.out] at o5
         obtain ⟨q5, m5, c5, hu5⟩ : ∃ q m c, u5 = .slice q m c := by rcases o5.2 with ⟨rfl, _⟩ | ⟨g, c, cur, rfl, _⟩ <;> exact ⟨_, _, _, rfl⟩
         subst hu5)
      | (go_at_call 41; refine (HO.out w5 _ _ k5 b5.size o5).mono ?_; rintro e w6 ⟨y, rfl, o6, b6⟩))
    go_ret2
    exact ⟨_, rfl, owns_lower2 o6 k4.size, k5.trans (b6.mono k5.size)⟩
end Go.Proofs.Ytlnofdlhjeomfaa
