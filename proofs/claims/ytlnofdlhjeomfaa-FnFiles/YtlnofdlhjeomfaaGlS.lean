/-
  Lists of files, right or bent, that are drawn; and lists of files and patterns: contracts for the walks; conditions: the cursor lies in memory as told, the code has at most 2 to the 20 bytes.
-/
import Derived.Test.YtlnofdlhjeomfaaGlR
import Derived.Laws.BytesArg
namespace Go.Proofs.Ytlnofdlhjeomfaa
open Go.RowKit Go.Maps
set_option linter.unusedSimpArgs false
set_option linter.unusedVariables false

theorem conv_zerosR {w : World} {base g n : Nat} (h : w.ownsRow base 5 1 (.slice (some ⟨g, 0, none⟩) n n) n (madeCells #[Value.int .u8 0] n).toList) :
    ∃ s : ByteArray, s.size = n ∧ (convert 22 9 (.slice (some ⟨g, 0, none⟩) n n)).run Try.prog w = .ok (.string s) w := by
  refine ⟨strOfNums (List.replicate n 0), by rw [strOfNums_size]; simp, ?_⟩
  refine run_convert_bytes_arg w 22 5 Try.underlying22 Try.underlying5 g 0 n n _ (by simp) (fun i hi => ?_) 9 Try.underlying9
  rw [Nat.zero_add, h.cellAt i (by omega)]
  rw [toList_madeCells_one]
  simp [hi, List.getD_eq_getElem?_getD]

theorem owns_lower3R {w : World} {base base' : Nat} {e : TypeId} {z : Nat} {v : Value} {n : Nat} {xs : List Value} (h : w.ownsRow base e z v n xs) (hb : base' ≤ base) : w.ownsRow base' e z v n xs := by
  obtain ⟨h1, h2⟩ := h
  refine ⟨h1, ?_⟩
  rcases h2 with h2 | ⟨g, cap, cur, a, b, c⟩
  · exact .inl h2
  · exact .inr ⟨g, cap, cur, a, Nat.le_trans hb b, c⟩
theorem rows_apartR {w : World} {base base' e e' z z' : Nat} {v v' : Value} {n n' : Nat} {xs xs' : List Value} (h : w.ownsRow base e z v n xs) (h' : w.ownsRow base' e' z' v' n' xs') (hne : e ≠ e') : v'.ownBlock = none ∨ v'.ownBlock ≠ v.ownBlock := by
  rcases h.2 with ⟨rfl, _⟩ | ⟨g, cap, cur, rfl, _, hg, _⟩
  · rcases h'.2 with ⟨rfl, _⟩ | ⟨g', cap', cur', rfl, _, hg', _⟩
    · exact .inl rfl
    · exact .inr (by simp [Value.ownBlock])
  · rcases h'.2 with ⟨rfl, _⟩ | ⟨g', cap', cur', rfl, _, hg', _⟩
    · exact .inl rfl
    · refine .inr fun e1 => hne ?_
      simp only [Value.ownBlock, Option.some.injEq] at e1
      subst e1
      rw [hg] at hg'
      simp only [Option.some.injEq, Obj.cells.injEq] at hg'
      exact hg'.2.1

theorem numStr_len : ∀ n, (Lib.decDigits n).length ≤ n + 1 := by
  intro n
  induction n using Nat.strongRecOn with
  | _ n ih =>
    rw [Lib.decDigits]
    split
    · simp
    · rw [List.length_append]
      have := ih (n / 10) (by omega)
      simp only [List.length_cons, List.length_nil]
      omega
theorem numStr_size (n : Nat) : (numStr n).size ≤ n + 1 := by
  have := numStr_len n
  unfold numStr
  show (Lib.decDigits n).toArray.size ≤ n + 1
  simpa using this

/-- The files that are put behind, many of them. -/
def zName (i : Nat) : ByteArray := ⟨#[122]⟩ ++ numStr (10 + i)
def zFiles (k : Nat) : List FileD := (List.range k).map fun i => ⟨zName i, ⟨#[]⟩⟩
theorem zFiles_succ (k : Nat) : zFiles (k + 1) = zFiles k ++ [⟨zName k, ⟨#[]⟩⟩] := by simp [zFiles, List.range_succ]
theorem zName_size (i : Nat) : (zName i).size ≤ i + 12 := by
  unfold zName
  rw [ByteArray.size_append]
  have := numStr_size (10 + i)
  have h1 : (⟨#[122]⟩ : ByteArray).size = 1 := rfl
  omega
/-- What a drawn list of files, right or bent, is. -/
def anyF (L : List FileD) : Prop :=
  ∃ D E, L = D ++ E ∧ drawnF 8 D ∧ (E = [] ∨ (∃ t ∈ oddL, E = [⟨t, ⟨#[]⟩⟩]) ∨ (∃ t : ByteArray, t.size ≤ 61 ∧ E = [⟨⟨#[122, 122]⟩, t⟩]) ∨ E = zFiles 25)
theorem anyF_small {L : List FileD} (h : anyF L) : (∀ f ∈ L, smallF f) ∧ L.length ≤ 33 := by
  obtain ⟨D, E, rfl, ⟨_, hD, hl⟩, hE⟩ := h
  have key : (∀ f ∈ E, smallF f) ∧ E.length ≤ 25 := by
    rcases hE with rfl | ⟨t, ht, rfl⟩ | ⟨t, ht, rfl⟩ | rfl
    · simp
    · refine ⟨fun f hf => ?_, by simp⟩
      simp only [List.mem_cons, List.not_mem_nil, or_false] at hf
      subst hf
      have := oddL_small t ht
      exact ⟨by show t.size ≤ 70; omega, by show (0 : Nat) ≤ 70; omega⟩
    · refine ⟨fun f hf => ?_, by simp⟩
      simp only [List.mem_cons, List.not_mem_nil, or_false] at hf
      subst hf
      exact ⟨by show (2 : Nat) ≤ 70; omega, by show t.size ≤ 70; omega⟩
    · refine ⟨fun f hf => ?_, by simp [zFiles]⟩
      obtain ⟨i, hi, rfl⟩ := List.mem_map.1 hf
      rw [List.mem_range] at hi
      have := zName_size i
      exact ⟨by show (zName i).size ≤ 70; omega, by show (0 : Nat) ≤ 70; omega⟩
  refine ⟨fun f hf => ?_, by rw [List.length_append]; omega⟩
  rcases List.mem_append.1 hf with hf | hf
  · exact (hD f hf).1
  · exact key.1 f hf

set_option maxHeartbeats 4000000 in
set_option maxRecDepth 100000 in
theorem any5_c (base g : Nat) (zs : List Int) (w : World) (hc : Cur w base g zs) (hbw : base ≤ w.heap.size) :
    Calls Try.prog 36 #[.pointer (some ⟨g, 0, none⟩)] w fun e w' => ∃ (v : Value) (L : List FileD), e = .returned v ∧ w'.ownsRow w.heap.size 26 2 v L.length (cellsF L) ∧ anyF L ∧ Cur w' base g zs ∧ w.grownBy w' (some g) := by
  have hgl := cur_lt hc
  obtain ⟨i0, hi0, hz0, hz1, hz2⟩ := info_parts infoFile
  obtain ⟨j0, hj0, hy0, hy1, hy2⟩ := info_parts info5
  have hnb : ∀ {W : World} {v : Value} {n : Nat} {xs : List Value}, W.ownsRow w.heap.size 26 2 v n xs → v.ownBlock = none ∨ v.ownBlock ≠ some g := fun h => .inr (fun e => by have := (h.lt g e).1; omega)
  have HNB : Hid (∀ {W : World} {v : Value} {n : Nat} {xs : List Value}, W.ownsRow w.heap.size 26 2 v n xs → v.ownBlock = none ∨ v.ownBlock ≠ some g) := hnb
  clear hnb
  go_enter Try.func36, Try.ntmps36
  go_wp2_with fail
  go_at_call 78
  refine (draw5_c base g zs _ hc hbw).mono ?_
  rintro e w1 ⟨v1, D, rfl, o1, hD, c1, g1⟩
  have hDl : D.length ≤ 8 := hD.2.2
  have HD : Hid (drawnF 8 D) := hD
  clear hD
  go_wp2_with fail
  go_at_call 79
  refine (below_c base g zs _ _ c1).mono ?_
  rintro e w2 ⟨x, rfl, hx, c2, g2⟩
  have o2 := o1.kept g2 (HNB.out o1)
  have G2 := grown_trans g1 g2
  have hz2w := G2.size
  clear o1 c1 g1 g2 hx
  by_cases h0 : x = 0
  · have h0' : ((x : Int) == 0) = true := by rw [beq_iff_eq]; omega
    have H := strAt_c base g zs oddL w2 c2 (by decide) (by decide)
    clear h0
    go_wp2_with (first
      | (go_at_call 37; refine H.mono ?_; rintro e w3 ⟨t, ht, rfl, c3, g3⟩
         have o3 := (o2.alloc (.cells (oddL.map Value.string).toArray 9)).kept g3 (HNB.out o2)
         have G3 : w.grownBy w3 (some g) := grown_trans (grown_trans G2 (World.grownBy_alloc _ _ _)) g3
         have hz3 := G3.size
         clear H)
      | (at_builtin; refine wpList_append_own _ rfl _ _ 24 rfl w.heap.size 26 i0 (.agg #[.string ⟨#[]⟩, .string ⟨#[]⟩]) 2 32 Try.underlying24 hi0 hz0 hz1 hz2 rfl (by decide) _ D.length (cellsF D) rfl (o3.alloc _) ⟨w3.heap.size, 0, none⟩ 1 1 [.string t, .string ⟨#[]⟩] rfl rfl (cell_two_c _ _ _ _) (fun u hu => by simp at hu; rcases hu with rfl | rfl <;> rfl) (by unfold maxLen; omega) (by omega) (by simp; omega) ?_))
    intro v4 w4 o4 gr4 _
    have hrow : ∀ j, v1.ownBlock = some j → w.heap.size ≤ j := fun j hj => (o3.lt j hj).1
    have G4 := grown_ownR (grown_trans G3 (World.grownBy_alloc _ _ _)) gr4 hrow
    have c4 := cur_grown (cur_alloc c3 _) gr4 (fun k hk => Nat.le_trans hbw (hrow k hk)) (fun e => by have := hrow g e; omega)
    rw [show cellsF D ++ _ = cellsF (D ++ [(⟨t, ⟨#[]⟩⟩ : FileD)]) from by rw [cellsF_append]; rfl, show D.length + 1 = (D ++ [(⟨t, ⟨#[]⟩⟩ : FileD)]).length from by simp] at o4
    clear gr4
    go_wp2_with fail
    go_ret
    exact ⟨_, _, rfl, o4, ⟨D, _, rfl, HD.out, .inr (.inl ⟨t, ht, rfl⟩)⟩, c4, G4⟩
  have h0' : ((x : Int) == 0) = false := by rw [beq_eq_false_iff_ne]; omega
  by_cases h1 : x = 1
  · have h1' : ((x : Int) == 1) = true := by rw [beq_iff_eq]; omega
    clear h0 h1
    go_wp2_with fail
    go_at_call 79
    refine (below_c base g zs _ _ c2).mono ?_
    rintro e w3 ⟨y, rfl, hy, c3, g3⟩
    have hy2' : y < 2 := by have := hy (by omega); omega
    have o3 := o2.kept g3 (HNB.out o2)
    have G3 := grown_trans G2 g3
    have hz3 := G3.size
    go_wp2_with (at_make; refine wpList_make_full _ rfl _ _ 22 rfl w3.heap.size 5 j0 (.int .u8 0) 1 Try.underlying22 hj0 hy0 hy1 _ _ _ _ (60 + y) rfl rfl (by omega) (by omega) (by rw [hy2]; omega) (by unfold maxLen; omega) (Nat.le_refl _) ?_)
    intro w4 ob gb
    obtain ⟨sZ, hsZ, hcv⟩ := conv_zerosR ob
    have bb := below_of_grown gb
    have o4 := owns2_below o3 bb
    have c4 := cur_grown c3 gb (by simp) (by simp)
    have G4 : w.grownBy w4 (some g) := grown_trans G3 (grown_of_below bb _)
    have hz4 := G4.size
    clear ob gb bb
    go_wp2_with (at_builtin; refine wpList_append_own _ rfl _ _ 24 rfl w.heap.size 26 i0 (.agg #[.string ⟨#[]⟩, .string ⟨#[]⟩]) 2 32 Try.underlying24 hi0 hz0 hz1 hz2 rfl (by decide) _ D.length (cellsF D) rfl (o4.alloc _) ⟨w4.heap.size, 0, none⟩ 1 1 [.string ⟨#[122, 122]⟩, .string sZ] rfl rfl (cell_two_c _ _ _ _) (fun u hu => by simp at hu; rcases hu with rfl | rfl <;> rfl) (by unfold maxLen; omega) (by omega) (by simp; omega) ?_)
    intro v5 w5 o5 gr5 _
    have hrow : ∀ j, v1.ownBlock = some j → w.heap.size ≤ j := fun j hj => (o4.lt j hj).1
    have G5 := grown_ownR (grown_trans G4 (World.grownBy_alloc _ _ _)) gr5 hrow
    have c5 := cur_grown (cur_alloc c4 _) gr5 (fun k hk => Nat.le_trans hbw (hrow k hk)) (fun e => by have := hrow g e; omega)
    rw [show cellsF D ++ _ = cellsF (D ++ [(⟨⟨#[122, 122]⟩, sZ⟩ : FileD)]) from by rw [cellsF_append]; rfl, show D.length + 1 = (D ++ [(⟨⟨#[122, 122]⟩, sZ⟩ : FileD)]).length from by simp] at o5
    clear gr5
    go_wp2_with fail
    go_ret
    exact ⟨_, _, rfl, o5, ⟨D, _, rfl, HD.out, .inr (.inr (.inl ⟨sZ, by omega, rfl⟩))⟩, c5, G5⟩
  have h1' : ((x : Int) == 1) = false := by rw [beq_eq_false_iff_ne]; omega
  by_cases h2 : x = 2
  · have h2' : ((x : Int) == 2) = true := by rw [beq_iff_eq]; omega
    clear h0 h1 h2
    go_wp2_with fail
    go_loopw [3, 4] (fun vo vi wr => ∃ (k : Nat), k ≤ 25 ∧ vi = .int .i64 (k : Int) ∧ wr.ownsRow w.heap.size 26 2 vo (D ++ zFiles k).length (cellsF (D ++ zFiles k)) ∧ Cur wr base g zs ∧ w.grownBy wr (some g)) (fun _ vi _ => 25 - (intOf vi).toNat)
    case atStart => exact ⟨0, Nat.zero_le _, rfl, (by rw [show zFiles 0 = [] from rfl, List.append_nil]; exact o2), c2, G2⟩
    case round =>
      obtain ⟨k, hk, rfl, hown, hcr, hgr⟩ := hrel
      clear o2 c2 G2
      by_cases hlt : k < 25
      · have hki : (k : Int) < 25 := by omega
        have hLn : (D ++ zFiles k).length ≤ 33 := by rw [List.length_append]; simp [zFiles]; omega
        have hst : D ++ zFiles (k + 1) = (D ++ zFiles k) ++ [⟨zName k, ⟨#[]⟩⟩] := by rw [zFiles_succ, List.append_assoc]
        obtain ⟨L, hL⟩ : ∃ L, L = D ++ zFiles k := ⟨_, rfl⟩
        rw [← hL] at hown hLn hst
        obtain ⟨nm, hnm⟩ : ∃ nm, nm = numStr (10 + k) := ⟨_, rfl⟩
        have hzn : zName k = ⟨#[122]⟩ ++ nm := by rw [hnm]; rfl
        have HST : Hid (cellsF (D ++ zFiles (k + 1)) = cellsF L ++ [.string (⟨#[122]⟩ ++ nm), .string ⟨#[]⟩] ∧ (D ++ zFiles (k + 1)).length = L.length + 1) := by rw [hst, hzn]; exact ⟨by rw [cellsF_append]; rfl, by simp⟩
        have hnz : nm.size ≤ 36 := by rw [hnm]; have := numStr_size (10 + k); omega
        have hz1s : (⟨#[122]⟩ : ByteArray).size = 1 := rfl
        have HN : Hid (Calls Try.prog 80 #[.int .i64 (10 + (k : Int))] wr fun e w' => e = .returned (.string nm) ∧ Below wr.heap.size wr w') := by
          have := specNumText_pos (10 + k) wr (by omega)
          rw [← hnm, Int.natCast_add] at this
          exact this
        have hzr := hgr.size
        clear hL hst hnm hzn
        go_wp2_with (first
          | (go_at_call 80; refine HN.out.mono ?_; rintro e w3 ⟨rfl, b3⟩
             have o3 := owns2_below hown b3
             have c3 := cur_grown hcr (grown_of_below b3 none) (fun k hk => by cases hk) (by simp)
             have G3 : w.grownBy w3 (some g) := grown_trans hgr (grown_of_below b3 _)
             have hz3 := G3.size)
          | (at_builtin; refine wpList_append_own _ rfl _ _ 24 rfl w.heap.size 26 i0 (.agg #[.string ⟨#[]⟩, .string ⟨#[]⟩]) 2 32 Try.underlying24 hi0 hz0 hz1 hz2 rfl (by decide) _ L.length (cellsF L) rfl (o3.alloc _) ⟨w3.heap.size, 0, none⟩ 1 1 [.string (⟨#[122]⟩ ++ nm), .string ⟨#[]⟩] rfl rfl (cell_two_c _ _ _ _) (fun u hu => by simp at hu; rcases hu with rfl | rfl <;> rfl) (by unfold maxLen; omega) (by omega) (by simp; omega) ?_))
        intro v4 w4 o4 gr4 _
        have hrow : ∀ j, u3.ownBlock = some j → w.heap.size ≤ j := fun j hj => (o3.lt j hj).1
        have G4 := grown_ownR (grown_trans G3 (World.grownBy_alloc _ _ _)) gr4 hrow
        have c4 := cur_grown (cur_alloc c3 _) gr4 (fun k hk => Nat.le_trans hbw (hrow k hk)) (fun e => by have := hrow g e; omega)
        rw [← HST.out.1, ← HST.out.2] at o4
        clear gr4
        go_wp2_with fail
        go_roundw
        case rel => exact ⟨k + 1, by omega, by go_num, o4, c4, G4⟩
        case measure => simp [intOf]; omega
      · have hke : k = 25 := by omega
        subst hke
        go_wp2_with fail
        go_ret
        exact ⟨_, _, rfl, hown, ⟨D, _, rfl, HD.out, .inr (.inr (.inr rfl))⟩, hcr, hgr⟩
  · have h2' : ((x : Int) == 2) = false := by rw [beq_eq_false_iff_ne]; omega
    clear h0 h1 h2
    go_wp2_with fail
    go_ret
    exact ⟨_, D, rfl, o2, ⟨D, [], by simp, HD.out, .inl rfl⟩, c2, G2⟩

end Go.Proofs.Ytlnofdlhjeomfaa
