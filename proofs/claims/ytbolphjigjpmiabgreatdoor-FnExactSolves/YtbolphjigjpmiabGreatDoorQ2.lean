/-
  Contracts for the walks, several texts in one: each part says what it proves, and under which conditions.
-/
import Derived.Lib.OthersKept
import Derived.Laws.RangeAny
import Derived.BigQuiet
import Derived.Deep.QuietTactic
import Derived.Lib.Strings
import Derived.Lib.IndexLaws
import Derived.WalkSpells
import Derived.Test.YtbolphjigjpmiabGreatDoorQ1

/-! The Cmps that a sign and a version, or a part of one, make, the program's: a contract for the walks; conditions: its numbers lie between 0 and 9999, its texts are a row of the call's own. -/
namespace Go.Proofs.YtbolphjigjpmiabGreatDoor
open Go.RowKit
set_option linter.unusedSimpArgs false
set_option linter.unusedVariables false

/-- The Cmps that a sign makes of a version of which t numbers are told. -/
def makeC (sign a b c : Int) (ps : List ByteArray) (t : Int) : List CmpD :=
  let below : Int → CmpD := fun k => ⟨1, nextA k a, nextB k b, nextC k c, [zeroT]⟩
  if sign = 5 then [⟨4, a, b, c, ps⟩, below (min t 2)]
  else if sign = 6 then [⟨4, a, b, c, ps⟩, below (caretK a b t)]
  else if t = 3 ∨ sign = 1 ∨ sign = 4 then [⟨sign, a, b, c, ps⟩]
  else if sign = 3 then [⟨4, nextA t a, nextB t b, nextC t c, []⟩]
  else if sign = 2 then [below t]
  else [⟨4, a, b, c, ps⟩, below t]

theorem owns_nil (w : World) (base : Nat) : w.ownsRow base 9 1 (.slice none 0 0) 0 (strsV []) := ⟨rfl, .inl ⟨rfl, rfl⟩⟩

set_option maxHeartbeats 8000000 in
set_option maxRecDepth 100000 in
theorem cmps_c (lo : Nat) (sign a b c : Int) (u : Value) (ps : List ByteArray) (t : Int) (w : World) (hlo : lo ≤ w.heap.size) (hnum : numsOk a b c) (ht : t = 1 ∨ t = 2 ∨ t = 3) (hu : w.ownsRow lo 9 1 u ps.length (strsV ps)) :
    Calls Tryz.prog 170 #[.agg #[.int .i64 a, .int .i64 b, .int .i64 c, u, .int .i64 t], .int .i64 sign] w fun e w' => ∃ v, e = .returned v ∧ CmpsOwn lo w' v (makeC sign a b c ps t) ∧ Below w.heap.size w w' := by
  obtain ⟨q, n, cap, hq⟩ : ∃ q n cap, u = .slice q n cap := by rcases hu.2 with ⟨rfl, _⟩ | ⟨g, cap, cur, rfl, _⟩ <;> exact ⟨_, _, _, rfl⟩
  subst hq
  have HL : Hid (∀ k w1, Calls Tryz.prog 206 #[.agg #[.int .i64 a, .int .i64 b, .int .i64 c, .slice q n cap, .int .i64 t], .int .i64 k] w1 fun e w' => ∃ g, e = .returned (.agg #[.int .i64 1, .int .i64 (nextA k a), .int .i64 (nextB k b), .int .i64 (nextC k c), .slice (some ⟨g, 0, none⟩) 1 1]) ∧ w'.ownsRow w1.heap.size 9 1 (.slice (some ⟨g, 0, none⟩) 1 1) 1 (strsV [zeroT]) ∧ Below w1.heap.size w1 w') := fun k w1 => lessThanNext_c a b c _ t k w1 hnum ⟨_, _, _, rfl⟩
  have HX : Hid (∀ k w1, Calls Tryz.prog 208 #[.agg #[.int .i64 a, .int .i64 b, .int .i64 c, .slice q n cap, .int .i64 t], .int .i64 k] w1 fun e w' => e = .returned (.agg #[.int .i64 (nextA k a), .int .i64 (nextB k b), .int .i64 (nextC k c), .slice none 0 0]) ∧ Below w1.heap.size w1 w') := fun k w1 => next_c a b c _ t k w1 hnum ⟨_, _, _, rfl⟩
  have HK : Hid (∀ w1, Calls Tryz.prog 207 #[.agg #[.int .i64 a, .int .i64 b, .int .i64 c, .slice q n cap, .int .i64 t]] w1 fun e w' => e = .returned (.int .i64 (caretK a b t)) ∧ Below w1.heap.size w1 w') := fun w1 => caretTold_c a b c _ t w1 ⟨_, _, _, rfl⟩
  have hap : ∀ g (w1 : World) base, w.heap.size ≤ base → w1.ownsRow base 9 1 (.slice (some ⟨g, 0, none⟩) 1 1) 1 (strsV [zeroT]) → Value.ownBlock (.slice q n cap) = Value.ownBlock (.slice (some ⟨g, 0, none⟩) 1 1) → Value.ownBlock (.slice q n cap) = none := fun g w1 base hb og he => by
    cases hk : Value.ownBlock (.slice q n cap) with
    | none => rfl
    | some k =>
      have h1 := (hu.lt k hk).2
      rw [he] at hk
      have h2 := (og.lt k hk).1
      omega
  have hWF : Below w.heap.size w ((w.alloc (.cells #[.int .i64 a, .int .i64 b, .int .i64 c, .slice q n cap, .int .i64 t] 194)).alloc (.cells #[.int .i64 4, .int .i64 a, .int .i64 b, .int .i64 c, .slice q n cap] 158)) := box_two _ _
  obtain ⟨P0, F0⟩ : Five ((w.alloc (.cells #[.int .i64 a, .int .i64 b, .int .i64 c, .slice q n cap, .int .i64 t] 194)).alloc (.cells #[.int .i64 4, .int .i64 a, .int .i64 b, .int .i64 c, .slice q n cap] 158)) w.heap.size 194 (.int .i64 a) (.int .i64 b) (.int .i64 c) (.slice q n cap) (.int .i64 t) ∧ Five ((w.alloc (.cells #[.int .i64 a, .int .i64 b, .int .i64 c, .slice q n cap, .int .i64 t] 194)).alloc (.cells #[.int .i64 4, .int .i64 a, .int .i64 b, .int .i64 c, .slice q n cap] 158)) (w.heap.size + 1) 158 (.int .i64 4) (.int .i64 a) (.int .i64 b) (.int .i64 c) (.slice q n cap) := by
    refine ⟨(five_new _ _ _ _ _ _ _).keep ((Below.refl _ _).alloc (Nat.le_refl _) _), ?_⟩
    have h := five_new (w.alloc (.cells #[.int .i64 a, .int .i64 b, .int .i64 c, .slice q n cap, .int .i64 t] 194)) 158 (.int .i64 4) (.int .i64 a) (.int .i64 b) (.int .i64 c) (.slice q n cap)
    have s1 : ∀ o, (w.alloc o).heap.size = w.heap.size + 1 := fun o => by simp
    rw [s1] at h
    exact h
  have hn2 : ∀ w1, Below ((w.alloc (.cells #[.int .i64 a, .int .i64 b, .int .i64 c, .slice q n cap, .int .i64 t] 194)).alloc (.cells #[.int .i64 4, .int .i64 a, .int .i64 b, .int .i64 c, .slice q n cap] 158)).heap.size ((w.alloc (.cells #[.int .i64 a, .int .i64 b, .int .i64 c, .slice q n cap, .int .i64 t] 194)).alloc (.cells #[.int .i64 4, .int .i64 a, .int .i64 b, .int .i64 c, .slice q n cap] 158)) w1 → Below w.heap.size w w1 := fun w1 h => hWF.trans (h.mono hWF.size)
  have KEEP : Hid (∀ w1, Below ((w.alloc (.cells #[.int .i64 a, .int .i64 b, .int .i64 c, .slice q n cap, .int .i64 t] 194)).alloc (.cells #[.int .i64 4, .int .i64 a, .int .i64 b, .int .i64 c, .slice q n cap] 158)).heap.size ((w.alloc (.cells #[.int .i64 a, .int .i64 b, .int .i64 c, .slice q n cap, .int .i64 t] 194)).alloc (.cells #[.int .i64 4, .int .i64 a, .int .i64 b, .int .i64 c, .slice q n cap] 158)) w1 → w1.cell? ⟨w.heap.size, 0, none⟩ = some (.int .i64 a) ∧ w1.cell? ⟨w.heap.size, 1, none⟩ = some (.int .i64 b) ∧ w1.cell? ⟨w.heap.size, 2, none⟩ = some (.int .i64 c) ∧ w1.cell? ⟨w.heap.size, 3, none⟩ = some (.slice q n cap) ∧ w1.cell? ⟨w.heap.size, 4, none⟩ = some (.int .i64 t) ∧ w1.cell? ⟨w.heap.size + 1, 0, none⟩ = some (.int .i64 4) ∧ w1.cell? ⟨w.heap.size + 1, 1, none⟩ = some (.int .i64 a) ∧ w1.cell? ⟨w.heap.size + 1, 2, none⟩ = some (.int .i64 b) ∧ w1.cell? ⟨w.heap.size + 1, 3, none⟩ = some (.int .i64 c) ∧ w1.cell? ⟨w.heap.size + 1, 4, none⟩ = some (.slice q n cap)) := fun w1 h => ⟨(P0.keep h).cells.1, (P0.keep h).cells.2.1, (P0.keep h).cells.2.2.1, (P0.keep h).cells.2.2.2.1, (P0.keep h).cells.2.2.2.2, (F0.keep h).cells⟩
  rcases ht with rfl | rfl | rfl
  · go_enter Tryz.func170, Tryz.ntmps170
    by_cases h5 : sign = 5
    · subst h5
      have em : makeC 5 a b c ps 1 = [⟨4, a, b, c, ps⟩, ⟨1, nextA 1 a, nextB 1 b, nextC 1 c, [zeroT]⟩] := by rfl
      rw [em]
      clear em
      go_wp2_with fail
      generalize ((w.alloc (.cells #[.int .i64 a, .int .i64 b, .int .i64 c, .slice q n cap, .int .i64 1] 194)).alloc (.cells #[.int .i64 4, .int .i64 a, .int .i64 b, .int .i64 c, .slice q n cap] 158)) = WF at hWF P0 F0 hn2 KEEP ⊢
      have hd0 : Below WF.heap.size WF WF.drew := (Below.refl _ _).drew
      refine wp_region_held_drew (S := (fun w' => w'.cell? ⟨w.heap.size, 0, none⟩ = some (.int .i64 a) ∧ w'.cell? ⟨w.heap.size, 1, none⟩ = some (.int .i64 b) ∧ w'.cell? ⟨w.heap.size, 2, none⟩ = some (.int .i64 c) ∧ w'.cell? ⟨w.heap.size, 3, none⟩ = some (.slice q n cap) ∧ w'.cell? ⟨w.heap.size, 4, none⟩ = some (.int .i64 1) ∧ w'.cell? ⟨w.heap.size + 1, 0, none⟩ = some (.int .i64 4) ∧ w'.cell? ⟨w.heap.size + 1, 1, none⟩ = some (.int .i64 a) ∧ w'.cell? ⟨w.heap.size + 1, 2, none⟩ = some (.int .i64 b) ∧ w'.cell? ⟨w.heap.size + 1, 3, none⟩ = some (.int .i64 c) ∧ w'.cell? ⟨w.heap.size + 1, 4, none⟩ = some (.slice q n cap))) (by kernel_rfl) ?SR10 (fun hHeld => ?_)
      case SR10 => (first | (with_reducible exact KEEP.out _ hd0) | (with_reducible exact KEEP.out _ hd1) | (with_reducible exact KEEP.out _ hd2) | (with_reducible exact KEEP.out _ hd3))
      refine wpAnyH_take (i := 0) (oi := _) (v := ?vR10) rfl (by kernel_rfl) (by kernel_rfl) (by kernel_rfl) (fun _ _ _ h => h) (Or.inl ⟨by rfl, ?yR10⟩) hHeld ?_
      case yR10 => (intro w hSw; (try dsimp only at hSw); go_simp <;> with_reducible rfl)
      try simp only [Act.put, List.getElem_toArray, List.getElem_cons_zero, List.getElem_cons_succ, List.setIfInBounds_toArray, List.set_cons_zero, List.set_cons_succ]
      refine wpAnyH_take (i := 1) (oi := _) (v := ?vR11) rfl (by kernel_rfl) (by kernel_rfl) (by kernel_rfl) (fun _ _ _ h => h) (Or.inl ⟨by rfl, ?yR11⟩) hHeld ?_
      case yR11 => (intro w hSw; (try dsimp only at hSw); go_simp <;> with_reducible rfl)
      try simp only [Act.put, List.getElem_toArray, List.getElem_cons_zero, List.getElem_cons_succ, List.setIfInBounds_toArray, List.set_cons_zero, List.set_cons_succ]
      refine wpAnyH_take (i := 2) (oi := _) (v := ?vR12) rfl (by kernel_rfl) (by kernel_rfl) (by kernel_rfl) (fun _ _ _ h => h) (Or.inl ⟨by rfl, ?yR12⟩) hHeld ?_
      case yR12 => (intro w hSw; (try dsimp only at hSw); go_simp <;> with_reducible rfl)
      try simp only [Act.put, List.getElem_toArray, List.getElem_cons_zero, List.getElem_cons_succ, List.setIfInBounds_toArray, List.set_cons_zero, List.set_cons_succ]
      refine wpAnyH_take (i := 3) (oi := _) (v := ?vR13) rfl (by kernel_rfl) (by kernel_rfl) (by kernel_rfl) (fun _ _ _ h => h) (Or.inl ⟨by rfl, ?yR13⟩) hHeld ?_
      case yR13 => (intro w hSw; (try dsimp only at hSw); go_simp <;> with_reducible rfl)
      try simp only [Act.put, List.getElem_toArray, List.getElem_cons_zero, List.getElem_cons_succ, List.setIfInBounds_toArray, List.set_cons_zero, List.set_cons_succ]
      refine wpAnyH_take (i := 4) (oi := _) (v := ?vR14) rfl (by kernel_rfl) (by kernel_rfl) (by kernel_rfl) (fun _ _ _ h => h) (Or.inl ⟨by rfl, ?yR14⟩) hHeld ?_
      case yR14 => (intro w hSw; (try dsimp only at hSw); go_simp <;> with_reducible rfl)
      try simp only [Act.put, List.getElem_toArray, List.getElem_cons_zero, List.getElem_cons_succ, List.setIfInBounds_toArray, List.set_cons_zero, List.set_cons_succ]
      refine wpAnyH_ready (rs := [5]) (by kernel_rfl) (by simp) ?_
      refine AllReadyH.cons rfl (fun K hK => ?_) AllReadyH.nil
      go_simp
      go_wp2_with (go_at_call 206; refine (HL.out 1 _).mono ?_; rintro e w1 ⟨g, rfl, og, b1⟩; have hd1 : Below WF.heap.size WF w1 := hd0.trans (b1.mono hd0.size); have ol : w.heap.size ≤ WF.drew.heap.size := hWF.size)
      clear hHeld
      refine hK.out _ _ ?SR16 (fun hHeld => ?_)
      case SR16 => ((try dsimp only); first | (with_reducible exact KEEP.out _ hd0) | (with_reducible exact KEEP.out _ hd1) | (with_reducible exact KEEP.out _ hd2) | (with_reducible exact KEEP.out _ hd3))
      clear hK K
      refine wpAnyH_ready (rs := [6]) (by kernel_rfl) (by simp) ?_
      refine AllReadyH.cons rfl (fun K hK => ?_) AllReadyH.nil
      go_simp
      clear hHeld
      refine hK.out _ _ ?SR17 (fun hHeld => ?_)
      case SR17 => ((try dsimp only); exact KEEP.out _ (hd1.alloc hd1.size _))
      clear hK K
      refine wpAnyH_take (i := 7) (oi := _) (v := ?vR17) rfl (by kernel_rfl) (by kernel_rfl) (by kernel_rfl) (fun _ _ _ h => h) (Or.inl ⟨by rfl, ?yR17⟩) hHeld ?_
      case yR17 => (intro w hSw; (try dsimp only at hSw); go_simp <;> with_reducible rfl)
      try simp only [Act.put, List.getElem_toArray, List.getElem_cons_zero, List.getElem_cons_succ, List.setIfInBounds_toArray, List.set_cons_zero, List.set_cons_succ]
      refine wpAnyH_done (by kernel_rfl) ?_ _
      have OL : w.heap.size ≤ WF.drew.heap.size := hWF.size
      go_wp2_with fail
      go_ret
      have hx := hn2 _ hd1
      refine ⟨_, rfl, two_own ⟨4, a, b, c, ps⟩ ⟨1, nextA 1 a, nextB 1 b, nextC 1 c, [zeroT]⟩ (by simp) (Nat.le_trans hlo hx.size) (owns_of_below hu hx) (owns_base og (Nat.le_trans hlo OL)) (hap g _ _ OL og), hx.alloc hx.size _⟩
    by_cases h6 : sign = 6
    · subst h6
      have em : makeC 6 a b c ps 1 = [⟨4, a, b, c, ps⟩, ⟨1, nextA (caretK a b 1) a, nextB (caretK a b 1) b, nextC (caretK a b 1) c, [zeroT]⟩] := by rfl
      rw [em]
      clear em
      go_wp2_with fail
      generalize ((w.alloc (.cells #[.int .i64 a, .int .i64 b, .int .i64 c, .slice q n cap, .int .i64 1] 194)).alloc (.cells #[.int .i64 4, .int .i64 a, .int .i64 b, .int .i64 c, .slice q n cap] 158)) = WF at hWF P0 F0 hn2 KEEP ⊢
      have hd0 : Below WF.heap.size WF WF.drew := (Below.refl _ _).drew
      refine wp_region_held_drew (S := (fun w' => w'.cell? ⟨w.heap.size, 0, none⟩ = some (.int .i64 a) ∧ w'.cell? ⟨w.heap.size, 1, none⟩ = some (.int .i64 b) ∧ w'.cell? ⟨w.heap.size, 2, none⟩ = some (.int .i64 c) ∧ w'.cell? ⟨w.heap.size, 3, none⟩ = some (.slice q n cap) ∧ w'.cell? ⟨w.heap.size, 4, none⟩ = some (.int .i64 1) ∧ w'.cell? ⟨w.heap.size + 1, 0, none⟩ = some (.int .i64 4) ∧ w'.cell? ⟨w.heap.size + 1, 1, none⟩ = some (.int .i64 a) ∧ w'.cell? ⟨w.heap.size + 1, 2, none⟩ = some (.int .i64 b) ∧ w'.cell? ⟨w.heap.size + 1, 3, none⟩ = some (.int .i64 c) ∧ w'.cell? ⟨w.heap.size + 1, 4, none⟩ = some (.slice q n cap))) (by kernel_rfl) ?SR20 (fun hHeld => ?_)
      case SR20 => (first | (with_reducible exact KEEP.out _ hd0) | (with_reducible exact KEEP.out _ hd1) | (with_reducible exact KEEP.out _ hd2) | (with_reducible exact KEEP.out _ hd3))
      refine wpAnyH_take (i := 0) (oi := _) (v := ?vR20) rfl (by kernel_rfl) (by kernel_rfl) (by kernel_rfl) (fun _ _ _ h => h) (Or.inl ⟨by rfl, ?yR20⟩) hHeld ?_
      case yR20 => (intro w hSw; (try dsimp only at hSw); go_simp <;> with_reducible rfl)
      try simp only [Act.put, List.getElem_toArray, List.getElem_cons_zero, List.getElem_cons_succ, List.setIfInBounds_toArray, List.set_cons_zero, List.set_cons_succ]
      refine wpAnyH_take (i := 1) (oi := _) (v := ?vR21) rfl (by kernel_rfl) (by kernel_rfl) (by kernel_rfl) (fun _ _ _ h => h) (Or.inl ⟨by rfl, ?yR21⟩) hHeld ?_
      case yR21 => (intro w hSw; (try dsimp only at hSw); go_simp <;> with_reducible rfl)
      try simp only [Act.put, List.getElem_toArray, List.getElem_cons_zero, List.getElem_cons_succ, List.setIfInBounds_toArray, List.set_cons_zero, List.set_cons_succ]
      refine wpAnyH_take (i := 2) (oi := _) (v := ?vR22) rfl (by kernel_rfl) (by kernel_rfl) (by kernel_rfl) (fun _ _ _ h => h) (Or.inl ⟨by rfl, ?yR22⟩) hHeld ?_
      case yR22 => (intro w hSw; (try dsimp only at hSw); go_simp <;> with_reducible rfl)
      try simp only [Act.put, List.getElem_toArray, List.getElem_cons_zero, List.getElem_cons_succ, List.setIfInBounds_toArray, List.set_cons_zero, List.set_cons_succ]
      refine wpAnyH_ready (rs := [3]) (by kernel_rfl) (by simp) ?_
      refine AllReadyH.cons rfl (fun K hK => ?_) AllReadyH.nil
      go_simp
      go_wp2_with (go_at_call 207; refine (HK.out _).mono ?_; rintro e w1 ⟨rfl, b1⟩; have hd1 : Below WF.heap.size WF w1 := hd0.trans (b1.mono hd0.size))
      clear hHeld
      refine hK.out _ _ ?SR24 (fun hHeld => ?_)
      case SR24 => ((try dsimp only); first | (with_reducible exact KEEP.out _ hd0) | (with_reducible exact KEEP.out _ hd1) | (with_reducible exact KEEP.out _ hd2) | (with_reducible exact KEEP.out _ hd3))
      clear hK K
      refine wpAnyH_ready (rs := [4]) (by kernel_rfl) (by simp) ?_
      refine AllReadyH.cons rfl (fun K hK => ?_) AllReadyH.nil
      go_simp
      go_wp2_with (go_at_call 206; refine (HL.out (caretK a b 1) _).mono ?_; rintro e w2 ⟨g, rfl, og, b2⟩; have hd2 : Below WF.heap.size WF w2 := hd1.trans (b2.mono hd1.size))
      clear hHeld
      refine hK.out _ _ ?SR25 (fun hHeld => ?_)
      case SR25 => ((try dsimp only); first | (with_reducible exact KEEP.out _ hd0) | (with_reducible exact KEEP.out _ hd1) | (with_reducible exact KEEP.out _ hd2) | (with_reducible exact KEEP.out _ hd3))
      clear hK K
      refine wpAnyH_ready (rs := [5]) (by kernel_rfl) (by simp) ?_
      refine AllReadyH.cons rfl (fun K hK => ?_) AllReadyH.nil
      go_simp
      clear hHeld
      refine hK.out _ _ ?SR26 (fun hHeld => ?_)
      case SR26 => ((try dsimp only); exact KEEP.out _ (hd2.alloc hd2.size _))
      clear hK K
      refine wpAnyH_take (i := 6) (oi := _) (v := ?vR26) rfl (by kernel_rfl) (by kernel_rfl) (by kernel_rfl) (fun _ _ _ h => h) (Or.inl ⟨by rfl, ?yR26⟩) hHeld ?_
      case yR26 => (intro w hSw; (try dsimp only at hSw); go_simp <;> with_reducible rfl)
      try simp only [Act.put, List.getElem_toArray, List.getElem_cons_zero, List.getElem_cons_succ, List.setIfInBounds_toArray, List.set_cons_zero, List.set_cons_succ]
      refine wpAnyH_done (by kernel_rfl) ?_ _
      have OL : w.heap.size ≤ w1.heap.size := Nat.le_trans hWF.size hd1.size
      go_wp2_with fail
      go_ret
      have hx := hn2 _ hd2
      refine ⟨_, rfl, two_own ⟨4, a, b, c, ps⟩ ⟨1, nextA (caretK a b 1) a, nextB (caretK a b 1) b, nextC (caretK a b 1) c, [zeroT]⟩ (by simp) (Nat.le_trans hlo hx.size) (owns_of_below hu hx) (owns_base og (Nat.le_trans hlo OL)) (hap g _ _ OL og), hx.alloc hx.size _⟩
    by_cases h1 : sign = 1
    · subst h1
      have em : makeC 1 a b c ps 1 = [⟨1, a, b, c, ps⟩] := by rfl
      rw [em]
      clear em
      go_wp2_with fail
      go_ret
      exact ⟨_, rfl, one_own ⟨1, a, b, c, ps⟩ (by simp) (Nat.le_trans hlo hWF.size) (owns_of_below hu hWF), hWF.alloc hWF.size _⟩
    by_cases h4 : sign = 4
    · subst h4
      have em : makeC 4 a b c ps 1 = [⟨4, a, b, c, ps⟩] := by rfl
      rw [em]
      clear em
      go_wp2_with fail
      go_ret
      exact ⟨_, rfl, one_own ⟨4, a, b, c, ps⟩ (by simp) (Nat.le_trans hlo hWF.size) (owns_of_below hu hWF), hWF.alloc hWF.size _⟩
    by_cases h3 : sign = 3
    · subst h3
      have em : makeC 3 a b c ps 1 = [⟨4, nextA 1 a, nextB 1 b, nextC 1 c, []⟩] := by rfl
      rw [em]
      clear em
      go_wp2_with (go_at_call 208; refine (HX.out 1 _).mono ?_; rintro e w1 ⟨rfl, b1⟩; have hx := hn2 _ b1)
      go_ret
      exact ⟨_, rfl, one_own ⟨4, nextA 1 a, nextB 1 b, nextC 1 c, []⟩ (by simp) (Nat.le_trans hlo hx.size) (owns_nil _ _), hx.alloc hx.size _⟩
    by_cases h2 : sign = 2
    · subst h2
      have em : makeC 2 a b c ps 1 = [⟨1, nextA 1 a, nextB 1 b, nextC 1 c, [zeroT]⟩] := by rfl
      rw [em]
      clear em
      go_wp2_with (go_at_call 206; refine (HL.out 1 _).mono ?_; rintro e w1 ⟨g, rfl, og, b1⟩; have hx := hn2 _ b1)
      go_ret
      exact ⟨_, rfl, one_own ⟨1, nextA 1 a, nextB 1 b, nextC 1 c, [zeroT]⟩ (by simp) (Nat.le_trans hlo hx.size) (owns_base og (Nat.le_trans hlo hWF.size)), hx.alloc hx.size _⟩
    have k5 : (sign == 5) = false := by simpa using h5
    have k6 : (sign == 6) = false := by simpa using h6
    have k1 : (sign == 1) = false := by simpa using h1
    have k4 : (sign == 4) = false := by simpa using h4
    have k3 : (sign == 3) = false := by simpa using h3
    have k2 : (sign == 2) = false := by simpa using h2
    have em : makeC sign a b c ps 1 = [⟨4, a, b, c, ps⟩, ⟨1, nextA 1 a, nextB 1 b, nextC 1 c, [zeroT]⟩] := by simp [makeC, h5, h6, h1, h4, h3, h2]
    rw [em]
    clear em
    clear h5 h6 h1 h4 h3 h2
    go_wp2_with fail
    generalize ((w.alloc (.cells #[.int .i64 a, .int .i64 b, .int .i64 c, .slice q n cap, .int .i64 1] 194)).alloc (.cells #[.int .i64 4, .int .i64 a, .int .i64 b, .int .i64 c, .slice q n cap] 158)) = WF at hWF P0 F0 hn2 KEEP ⊢
    have hd0 : Below WF.heap.size WF WF.drew := (Below.refl _ _).drew
    refine wp_region_held_drew (S := (fun w' => w'.cell? ⟨w.heap.size, 0, none⟩ = some (.int .i64 a) ∧ w'.cell? ⟨w.heap.size, 1, none⟩ = some (.int .i64 b) ∧ w'.cell? ⟨w.heap.size, 2, none⟩ = some (.int .i64 c) ∧ w'.cell? ⟨w.heap.size, 3, none⟩ = some (.slice q n cap) ∧ w'.cell? ⟨w.heap.size, 4, none⟩ = some (.int .i64 1) ∧ w'.cell? ⟨w.heap.size + 1, 0, none⟩ = some (.int .i64 4) ∧ w'.cell? ⟨w.heap.size + 1, 1, none⟩ = some (.int .i64 a) ∧ w'.cell? ⟨w.heap.size + 1, 2, none⟩ = some (.int .i64 b) ∧ w'.cell? ⟨w.heap.size + 1, 3, none⟩ = some (.int .i64 c) ∧ w'.cell? ⟨w.heap.size + 1, 4, none⟩ = some (.slice q n cap))) (by kernel_rfl) ?SR30 (fun hHeld => ?_)
    case SR30 => (first | (with_reducible exact KEEP.out _ hd0) | (with_reducible exact KEEP.out _ hd1) | (with_reducible exact KEEP.out _ hd2) | (with_reducible exact KEEP.out _ hd3))
    refine wpAnyH_take (i := 0) (oi := _) (v := ?vR30) rfl (by kernel_rfl) (by kernel_rfl) (by kernel_rfl) (fun _ _ _ h => h) (Or.inl ⟨by rfl, ?yR30⟩) hHeld ?_
    case yR30 => (intro w hSw; (try dsimp only at hSw); go_simp <;> with_reducible rfl)
    try simp only [Act.put, List.getElem_toArray, List.getElem_cons_zero, List.getElem_cons_succ, List.setIfInBounds_toArray, List.set_cons_zero, List.set_cons_succ]
    refine wpAnyH_take (i := 1) (oi := _) (v := ?vR31) rfl (by kernel_rfl) (by kernel_rfl) (by kernel_rfl) (fun _ _ _ h => h) (Or.inl ⟨by rfl, ?yR31⟩) hHeld ?_
    case yR31 => (intro w hSw; (try dsimp only at hSw); go_simp <;> with_reducible rfl)
    try simp only [Act.put, List.getElem_toArray, List.getElem_cons_zero, List.getElem_cons_succ, List.setIfInBounds_toArray, List.set_cons_zero, List.set_cons_succ]
    refine wpAnyH_take (i := 2) (oi := _) (v := ?vR32) rfl (by kernel_rfl) (by kernel_rfl) (by kernel_rfl) (fun _ _ _ h => h) (Or.inl ⟨by rfl, ?yR32⟩) hHeld ?_
    case yR32 => (intro w hSw; (try dsimp only at hSw); go_simp <;> with_reducible rfl)
    try simp only [Act.put, List.getElem_toArray, List.getElem_cons_zero, List.getElem_cons_succ, List.setIfInBounds_toArray, List.set_cons_zero, List.set_cons_succ]
    refine wpAnyH_take (i := 3) (oi := _) (v := ?vR33) rfl (by kernel_rfl) (by kernel_rfl) (by kernel_rfl) (fun _ _ _ h => h) (Or.inl ⟨by rfl, ?yR33⟩) hHeld ?_
    case yR33 => (intro w hSw; (try dsimp only at hSw); go_simp <;> with_reducible rfl)
    try simp only [Act.put, List.getElem_toArray, List.getElem_cons_zero, List.getElem_cons_succ, List.setIfInBounds_toArray, List.set_cons_zero, List.set_cons_succ]
    refine wpAnyH_ready (rs := [4]) (by kernel_rfl) (by simp) ?_
    refine AllReadyH.cons rfl (fun K hK => ?_) AllReadyH.nil
    go_simp
    go_wp2_with (go_at_call 206; refine (HL.out 1 _).mono ?_; rintro e w1 ⟨g, rfl, og, b1⟩; have hd1 : Below WF.heap.size WF w1 := hd0.trans (b1.mono hd0.size); have ol : w.heap.size ≤ WF.drew.heap.size := hWF.size)
    clear hHeld
    refine hK.out _ _ ?SR35 (fun hHeld => ?_)
    case SR35 => ((try dsimp only); first | (with_reducible exact KEEP.out _ hd0) | (with_reducible exact KEEP.out _ hd1) | (with_reducible exact KEEP.out _ hd2) | (with_reducible exact KEEP.out _ hd3))
    clear hK K
    refine wpAnyH_ready (rs := [5]) (by kernel_rfl) (by simp) ?_
    refine AllReadyH.cons rfl (fun K hK => ?_) AllReadyH.nil
    go_simp
    clear hHeld
    refine hK.out _ _ ?SR36 (fun hHeld => ?_)
    case SR36 => ((try dsimp only); exact KEEP.out _ (hd1.alloc hd1.size _))
    clear hK K
    refine wpAnyH_take (i := 6) (oi := _) (v := ?vR36) rfl (by kernel_rfl) (by kernel_rfl) (by kernel_rfl) (fun _ _ _ h => h) (Or.inl ⟨by rfl, ?yR36⟩) hHeld ?_
    case yR36 => (intro w hSw; (try dsimp only at hSw); go_simp <;> with_reducible rfl)
    try simp only [Act.put, List.getElem_toArray, List.getElem_cons_zero, List.getElem_cons_succ, List.setIfInBounds_toArray, List.set_cons_zero, List.set_cons_succ]
    refine wpAnyH_done (by kernel_rfl) ?_ _
    have OL : w.heap.size ≤ WF.drew.heap.size := hWF.size
    go_wp2_with fail
    go_ret
    have hx := hn2 _ hd1
    refine ⟨_, rfl, two_own ⟨4, a, b, c, ps⟩ ⟨1, nextA 1 a, nextB 1 b, nextC 1 c, [zeroT]⟩ (by simp) (Nat.le_trans hlo hx.size) (owns_of_below hu hx) (owns_base og (Nat.le_trans hlo OL)) (hap g _ _ OL og), hx.alloc hx.size _⟩
  · go_enter Tryz.func170, Tryz.ntmps170
    by_cases h5 : sign = 5
    · subst h5
      have em : makeC 5 a b c ps 2 = [⟨4, a, b, c, ps⟩, ⟨1, nextA 2 a, nextB 2 b, nextC 2 c, [zeroT]⟩] := by rfl
      rw [em]
      clear em
      go_wp2_with fail
      generalize ((w.alloc (.cells #[.int .i64 a, .int .i64 b, .int .i64 c, .slice q n cap, .int .i64 2] 194)).alloc (.cells #[.int .i64 4, .int .i64 a, .int .i64 b, .int .i64 c, .slice q n cap] 158)) = WF at hWF P0 F0 hn2 KEEP ⊢
      have hd0 : Below WF.heap.size WF WF.drew := (Below.refl _ _).drew
      refine wp_region_held_drew (S := (fun w' => w'.cell? ⟨w.heap.size, 0, none⟩ = some (.int .i64 a) ∧ w'.cell? ⟨w.heap.size, 1, none⟩ = some (.int .i64 b) ∧ w'.cell? ⟨w.heap.size, 2, none⟩ = some (.int .i64 c) ∧ w'.cell? ⟨w.heap.size, 3, none⟩ = some (.slice q n cap) ∧ w'.cell? ⟨w.heap.size, 4, none⟩ = some (.int .i64 2) ∧ w'.cell? ⟨w.heap.size + 1, 0, none⟩ = some (.int .i64 4) ∧ w'.cell? ⟨w.heap.size + 1, 1, none⟩ = some (.int .i64 a) ∧ w'.cell? ⟨w.heap.size + 1, 2, none⟩ = some (.int .i64 b) ∧ w'.cell? ⟨w.heap.size + 1, 3, none⟩ = some (.int .i64 c) ∧ w'.cell? ⟨w.heap.size + 1, 4, none⟩ = some (.slice q n cap))) (by kernel_rfl) ?SR40 (fun hHeld => ?_)
      case SR40 => (first | (with_reducible exact KEEP.out _ hd0) | (with_reducible exact KEEP.out _ hd1) | (with_reducible exact KEEP.out _ hd2) | (with_reducible exact KEEP.out _ hd3))
      refine wpAnyH_take (i := 0) (oi := _) (v := ?vR40) rfl (by kernel_rfl) (by kernel_rfl) (by kernel_rfl) (fun _ _ _ h => h) (Or.inl ⟨by rfl, ?yR40⟩) hHeld ?_
      case yR40 => (intro w hSw; (try dsimp only at hSw); go_simp <;> with_reducible rfl)
      try simp only [Act.put, List.getElem_toArray, List.getElem_cons_zero, List.getElem_cons_succ, List.setIfInBounds_toArray, List.set_cons_zero, List.set_cons_succ]
      refine wpAnyH_take (i := 1) (oi := _) (v := ?vR41) rfl (by kernel_rfl) (by kernel_rfl) (by kernel_rfl) (fun _ _ _ h => h) (Or.inl ⟨by rfl, ?yR41⟩) hHeld ?_
      case yR41 => (intro w hSw; (try dsimp only at hSw); go_simp <;> with_reducible rfl)
      try simp only [Act.put, List.getElem_toArray, List.getElem_cons_zero, List.getElem_cons_succ, List.setIfInBounds_toArray, List.set_cons_zero, List.set_cons_succ]
      refine wpAnyH_take (i := 2) (oi := _) (v := ?vR42) rfl (by kernel_rfl) (by kernel_rfl) (by kernel_rfl) (fun _ _ _ h => h) (Or.inl ⟨by rfl, ?yR42⟩) hHeld ?_
      case yR42 => (intro w hSw; (try dsimp only at hSw); go_simp <;> with_reducible rfl)
      try simp only [Act.put, List.getElem_toArray, List.getElem_cons_zero, List.getElem_cons_succ, List.setIfInBounds_toArray, List.set_cons_zero, List.set_cons_succ]
      refine wpAnyH_take (i := 3) (oi := _) (v := ?vR43) rfl (by kernel_rfl) (by kernel_rfl) (by kernel_rfl) (fun _ _ _ h => h) (Or.inl ⟨by rfl, ?yR43⟩) hHeld ?_
      case yR43 => (intro w hSw; (try dsimp only at hSw); go_simp <;> with_reducible rfl)
      try simp only [Act.put, List.getElem_toArray, List.getElem_cons_zero, List.getElem_cons_succ, List.setIfInBounds_toArray, List.set_cons_zero, List.set_cons_succ]
      refine wpAnyH_take (i := 4) (oi := _) (v := ?vR44) rfl (by kernel_rfl) (by kernel_rfl) (by kernel_rfl) (fun _ _ _ h => h) (Or.inl ⟨by rfl, ?yR44⟩) hHeld ?_
      case yR44 => (intro w hSw; (try dsimp only at hSw); go_simp <;> with_reducible rfl)
      try simp only [Act.put, List.getElem_toArray, List.getElem_cons_zero, List.getElem_cons_succ, List.setIfInBounds_toArray, List.set_cons_zero, List.set_cons_succ]
      refine wpAnyH_ready (rs := [5]) (by kernel_rfl) (by simp) ?_
      refine AllReadyH.cons rfl (fun K hK => ?_) AllReadyH.nil
      go_simp
      go_wp2_with (go_at_call 206; refine (HL.out 2 _).mono ?_; rintro e w1 ⟨g, rfl, og, b1⟩; have hd1 : Below WF.heap.size WF w1 := hd0.trans (b1.mono hd0.size); have ol : w.heap.size ≤ WF.drew.heap.size := hWF.size)
      clear hHeld
      refine hK.out _ _ ?SR46 (fun hHeld => ?_)
      case SR46 => ((try dsimp only); first | (with_reducible exact KEEP.out _ hd0) | (with_reducible exact KEEP.out _ hd1) | (with_reducible exact KEEP.out _ hd2) | (with_reducible exact KEEP.out _ hd3))
      clear hK K
      refine wpAnyH_ready (rs := [6]) (by kernel_rfl) (by simp) ?_
      refine AllReadyH.cons rfl (fun K hK => ?_) AllReadyH.nil
      go_simp
      clear hHeld
      refine hK.out _ _ ?SR47 (fun hHeld => ?_)
      case SR47 => ((try dsimp only); exact KEEP.out _ (hd1.alloc hd1.size _))
      clear hK K
      refine wpAnyH_take (i := 7) (oi := _) (v := ?vR47) rfl (by kernel_rfl) (by kernel_rfl) (by kernel_rfl) (fun _ _ _ h => h) (Or.inl ⟨by rfl, ?yR47⟩) hHeld ?_
      case yR47 => (intro w hSw; (try dsimp only at hSw); go_simp <;> with_reducible rfl)
      try simp only [Act.put, List.getElem_toArray, List.getElem_cons_zero, List.getElem_cons_succ, List.setIfInBounds_toArray, List.set_cons_zero, List.set_cons_succ]
      refine wpAnyH_done (by kernel_rfl) ?_ _
      have OL : w.heap.size ≤ WF.drew.heap.size := hWF.size
      go_wp2_with fail
      go_ret
      have hx := hn2 _ hd1
      refine ⟨_, rfl, two_own ⟨4, a, b, c, ps⟩ ⟨1, nextA 2 a, nextB 2 b, nextC 2 c, [zeroT]⟩ (by simp) (Nat.le_trans hlo hx.size) (owns_of_below hu hx) (owns_base og (Nat.le_trans hlo OL)) (hap g _ _ OL og), hx.alloc hx.size _⟩
    by_cases h6 : sign = 6
    · subst h6
      have em : makeC 6 a b c ps 2 = [⟨4, a, b, c, ps⟩, ⟨1, nextA (caretK a b 2) a, nextB (caretK a b 2) b, nextC (caretK a b 2) c, [zeroT]⟩] := by rfl
      rw [em]
      clear em
      go_wp2_with fail
      generalize ((w.alloc (.cells #[.int .i64 a, .int .i64 b, .int .i64 c, .slice q n cap, .int .i64 2] 194)).alloc (.cells #[.int .i64 4, .int .i64 a, .int .i64 b, .int .i64 c, .slice q n cap] 158)) = WF at hWF P0 F0 hn2 KEEP ⊢
      have hd0 : Below WF.heap.size WF WF.drew := (Below.refl _ _).drew
      refine wp_region_held_drew (S := (fun w' => w'.cell? ⟨w.heap.size, 0, none⟩ = some (.int .i64 a) ∧ w'.cell? ⟨w.heap.size, 1, none⟩ = some (.int .i64 b) ∧ w'.cell? ⟨w.heap.size, 2, none⟩ = some (.int .i64 c) ∧ w'.cell? ⟨w.heap.size, 3, none⟩ = some (.slice q n cap) ∧ w'.cell? ⟨w.heap.size, 4, none⟩ = some (.int .i64 2) ∧ w'.cell? ⟨w.heap.size + 1, 0, none⟩ = some (.int .i64 4) ∧ w'.cell? ⟨w.heap.size + 1, 1, none⟩ = some (.int .i64 a) ∧ w'.cell? ⟨w.heap.size + 1, 2, none⟩ = some (.int .i64 b) ∧ w'.cell? ⟨w.heap.size + 1, 3, none⟩ = some (.int .i64 c) ∧ w'.cell? ⟨w.heap.size + 1, 4, none⟩ = some (.slice q n cap))) (by kernel_rfl) ?SR50 (fun hHeld => ?_)
      case SR50 => (first | (with_reducible exact KEEP.out _ hd0) | (with_reducible exact KEEP.out _ hd1) | (with_reducible exact KEEP.out _ hd2) | (with_reducible exact KEEP.out _ hd3))
      refine wpAnyH_take (i := 0) (oi := _) (v := ?vR50) rfl (by kernel_rfl) (by kernel_rfl) (by kernel_rfl) (fun _ _ _ h => h) (Or.inl ⟨by rfl, ?yR50⟩) hHeld ?_
      case yR50 => (intro w hSw; (try dsimp only at hSw); go_simp <;> with_reducible rfl)
      try simp only [Act.put, List.getElem_toArray, List.getElem_cons_zero, List.getElem_cons_succ, List.setIfInBounds_toArray, List.set_cons_zero, List.set_cons_succ]
      refine wpAnyH_take (i := 1) (oi := _) (v := ?vR51) rfl (by kernel_rfl) (by kernel_rfl) (by kernel_rfl) (fun _ _ _ h => h) (Or.inl ⟨by rfl, ?yR51⟩) hHeld ?_
      case yR51 => (intro w hSw; (try dsimp only at hSw); go_simp <;> with_reducible rfl)
      try simp only [Act.put, List.getElem_toArray, List.getElem_cons_zero, List.getElem_cons_succ, List.setIfInBounds_toArray, List.set_cons_zero, List.set_cons_succ]
      refine wpAnyH_take (i := 2) (oi := _) (v := ?vR52) rfl (by kernel_rfl) (by kernel_rfl) (by kernel_rfl) (fun _ _ _ h => h) (Or.inl ⟨by rfl, ?yR52⟩) hHeld ?_
      case yR52 => (intro w hSw; (try dsimp only at hSw); go_simp <;> with_reducible rfl)
      try simp only [Act.put, List.getElem_toArray, List.getElem_cons_zero, List.getElem_cons_succ, List.setIfInBounds_toArray, List.set_cons_zero, List.set_cons_succ]
      refine wpAnyH_ready (rs := [3]) (by kernel_rfl) (by simp) ?_
      refine AllReadyH.cons rfl (fun K hK => ?_) AllReadyH.nil
      go_simp
      go_wp2_with (go_at_call 207; refine (HK.out _).mono ?_; rintro e w1 ⟨rfl, b1⟩; have hd1 : Below WF.heap.size WF w1 := hd0.trans (b1.mono hd0.size))
      clear hHeld
      refine hK.out _ _ ?SR54 (fun hHeld => ?_)
      case SR54 => ((try dsimp only); first | (with_reducible exact KEEP.out _ hd0) | (with_reducible exact KEEP.out _ hd1) | (with_reducible exact KEEP.out _ hd2) | (with_reducible exact KEEP.out _ hd3))
      clear hK K
      refine wpAnyH_ready (rs := [4]) (by kernel_rfl) (by simp) ?_
      refine AllReadyH.cons rfl (fun K hK => ?_) AllReadyH.nil
      go_simp
      go_wp2_with (go_at_call 206; refine (HL.out (caretK a b 2) _).mono ?_; rintro e w2 ⟨g, rfl, og, b2⟩; have hd2 : Below WF.heap.size WF w2 := hd1.trans (b2.mono hd1.size))
      clear hHeld
      refine hK.out _ _ ?SR55 (fun hHeld => ?_)
      case SR55 => ((try dsimp only); first | (with_reducible exact KEEP.out _ hd0) | (with_reducible exact KEEP.out _ hd1) | (with_reducible exact KEEP.out _ hd2) | (with_reducible exact KEEP.out _ hd3))
      clear hK K
      refine wpAnyH_ready (rs := [5]) (by kernel_rfl) (by simp) ?_
      refine AllReadyH.cons rfl (fun K hK => ?_) AllReadyH.nil
      go_simp
      clear hHeld
      refine hK.out _ _ ?SR56 (fun hHeld => ?_)
      case SR56 => ((try dsimp only); exact KEEP.out _ (hd2.alloc hd2.size _))
      clear hK K
      refine wpAnyH_take (i := 6) (oi := _) (v := ?vR56) rfl (by kernel_rfl) (by kernel_rfl) (by kernel_rfl) (fun _ _ _ h => h) (Or.inl ⟨by rfl, ?yR56⟩) hHeld ?_
      case yR56 => (intro w hSw; (try dsimp only at hSw); go_simp <;> with_reducible rfl)
      try simp only [Act.put, List.getElem_toArray, List.getElem_cons_zero, List.getElem_cons_succ, List.setIfInBounds_toArray, List.set_cons_zero, List.set_cons_succ]
      refine wpAnyH_done (by kernel_rfl) ?_ _
      have OL : w.heap.size ≤ w1.heap.size := Nat.le_trans hWF.size hd1.size
      go_wp2_with fail
      go_ret
      have hx := hn2 _ hd2
      refine ⟨_, rfl, two_own ⟨4, a, b, c, ps⟩ ⟨1, nextA (caretK a b 2) a, nextB (caretK a b 2) b, nextC (caretK a b 2) c, [zeroT]⟩ (by simp) (Nat.le_trans hlo hx.size) (owns_of_below hu hx) (owns_base og (Nat.le_trans hlo OL)) (hap g _ _ OL og), hx.alloc hx.size _⟩
    by_cases h1 : sign = 1
    · subst h1
      have em : makeC 1 a b c ps 2 = [⟨1, a, b, c, ps⟩] := by rfl
      rw [em]
      clear em
      go_wp2_with fail
      go_ret
      exact ⟨_, rfl, one_own ⟨1, a, b, c, ps⟩ (by simp) (Nat.le_trans hlo hWF.size) (owns_of_below hu hWF), hWF.alloc hWF.size _⟩
    by_cases h4 : sign = 4
    · subst h4
      have em : makeC 4 a b c ps 2 = [⟨4, a, b, c, ps⟩] := by rfl
      rw [em]
      clear em
      go_wp2_with fail
      go_ret
      exact ⟨_, rfl, one_own ⟨4, a, b, c, ps⟩ (by simp) (Nat.le_trans hlo hWF.size) (owns_of_below hu hWF), hWF.alloc hWF.size _⟩
    by_cases h3 : sign = 3
    · subst h3
      have em : makeC 3 a b c ps 2 = [⟨4, nextA 2 a, nextB 2 b, nextC 2 c, []⟩] := by rfl
      rw [em]
      clear em
      go_wp2_with (go_at_call 208; refine (HX.out 2 _).mono ?_; rintro e w1 ⟨rfl, b1⟩; have hx := hn2 _ b1)
      go_ret
      exact ⟨_, rfl, one_own ⟨4, nextA 2 a, nextB 2 b, nextC 2 c, []⟩ (by simp) (Nat.le_trans hlo hx.size) (owns_nil _ _), hx.alloc hx.size _⟩
    by_cases h2 : sign = 2
    · subst h2
      have em : makeC 2 a b c ps 2 = [⟨1, nextA 2 a, nextB 2 b, nextC 2 c, [zeroT]⟩] := by rfl
      rw [em]
      clear em
      go_wp2_with (go_at_call 206; refine (HL.out 2 _).mono ?_; rintro e w1 ⟨g, rfl, og, b1⟩; have hx := hn2 _ b1)
      go_ret
      exact ⟨_, rfl, one_own ⟨1, nextA 2 a, nextB 2 b, nextC 2 c, [zeroT]⟩ (by simp) (Nat.le_trans hlo hx.size) (owns_base og (Nat.le_trans hlo hWF.size)), hx.alloc hx.size _⟩
    have k5 : (sign == 5) = false := by simpa using h5
    have k6 : (sign == 6) = false := by simpa using h6
    have k1 : (sign == 1) = false := by simpa using h1
    have k4 : (sign == 4) = false := by simpa using h4
    have k3 : (sign == 3) = false := by simpa using h3
    have k2 : (sign == 2) = false := by simpa using h2
    have em : makeC sign a b c ps 2 = [⟨4, a, b, c, ps⟩, ⟨1, nextA 2 a, nextB 2 b, nextC 2 c, [zeroT]⟩] := by simp [makeC, h5, h6, h1, h4, h3, h2]
    rw [em]
    clear em
    clear h5 h6 h1 h4 h3 h2
    go_wp2_with fail
    generalize ((w.alloc (.cells #[.int .i64 a, .int .i64 b, .int .i64 c, .slice q n cap, .int .i64 2] 194)).alloc (.cells #[.int .i64 4, .int .i64 a, .int .i64 b, .int .i64 c, .slice q n cap] 158)) = WF at hWF P0 F0 hn2 KEEP ⊢
    have hd0 : Below WF.heap.size WF WF.drew := (Below.refl _ _).drew
    refine wp_region_held_drew (S := (fun w' => w'.cell? ⟨w.heap.size, 0, none⟩ = some (.int .i64 a) ∧ w'.cell? ⟨w.heap.size, 1, none⟩ = some (.int .i64 b) ∧ w'.cell? ⟨w.heap.size, 2, none⟩ = some (.int .i64 c) ∧ w'.cell? ⟨w.heap.size, 3, none⟩ = some (.slice q n cap) ∧ w'.cell? ⟨w.heap.size, 4, none⟩ = some (.int .i64 2) ∧ w'.cell? ⟨w.heap.size + 1, 0, none⟩ = some (.int .i64 4) ∧ w'.cell? ⟨w.heap.size + 1, 1, none⟩ = some (.int .i64 a) ∧ w'.cell? ⟨w.heap.size + 1, 2, none⟩ = some (.int .i64 b) ∧ w'.cell? ⟨w.heap.size + 1, 3, none⟩ = some (.int .i64 c) ∧ w'.cell? ⟨w.heap.size + 1, 4, none⟩ = some (.slice q n cap))) (by kernel_rfl) ?SR60 (fun hHeld => ?_)
    case SR60 => (first | (with_reducible exact KEEP.out _ hd0) | (with_reducible exact KEEP.out _ hd1) | (with_reducible exact KEEP.out _ hd2) | (with_reducible exact KEEP.out _ hd3))
    refine wpAnyH_take (i := 0) (oi := _) (v := ?vR60) rfl (by kernel_rfl) (by kernel_rfl) (by kernel_rfl) (fun _ _ _ h => h) (Or.inl ⟨by rfl, ?yR60⟩) hHeld ?_
    case yR60 => (intro w hSw; (try dsimp only at hSw); go_simp <;> with_reducible rfl)
    try simp only [Act.put, List.getElem_toArray, List.getElem_cons_zero, List.getElem_cons_succ, List.setIfInBounds_toArray, List.set_cons_zero, List.set_cons_succ]
    refine wpAnyH_take (i := 1) (oi := _) (v := ?vR61) rfl (by kernel_rfl) (by kernel_rfl) (by kernel_rfl) (fun _ _ _ h => h) (Or.inl ⟨by rfl, ?yR61⟩) hHeld ?_
    case yR61 => (intro w hSw; (try dsimp only at hSw); go_simp <;> with_reducible rfl)
    try simp only [Act.put, List.getElem_toArray, List.getElem_cons_zero, List.getElem_cons_succ, List.setIfInBounds_toArray, List.set_cons_zero, List.set_cons_succ]
    refine wpAnyH_take (i := 2) (oi := _) (v := ?vR62) rfl (by kernel_rfl) (by kernel_rfl) (by kernel_rfl) (fun _ _ _ h => h) (Or.inl ⟨by rfl, ?yR62⟩) hHeld ?_
    case yR62 => (intro w hSw; (try dsimp only at hSw); go_simp <;> with_reducible rfl)
    try simp only [Act.put, List.getElem_toArray, List.getElem_cons_zero, List.getElem_cons_succ, List.setIfInBounds_toArray, List.set_cons_zero, List.set_cons_succ]
    refine wpAnyH_take (i := 3) (oi := _) (v := ?vR63) rfl (by kernel_rfl) (by kernel_rfl) (by kernel_rfl) (fun _ _ _ h => h) (Or.inl ⟨by rfl, ?yR63⟩) hHeld ?_
    case yR63 => (intro w hSw; (try dsimp only at hSw); go_simp <;> with_reducible rfl)
    try simp only [Act.put, List.getElem_toArray, List.getElem_cons_zero, List.getElem_cons_succ, List.setIfInBounds_toArray, List.set_cons_zero, List.set_cons_succ]
    refine wpAnyH_ready (rs := [4]) (by kernel_rfl) (by simp) ?_
    refine AllReadyH.cons rfl (fun K hK => ?_) AllReadyH.nil
    go_simp
    go_wp2_with (go_at_call 206; refine (HL.out 2 _).mono ?_; rintro e w1 ⟨g, rfl, og, b1⟩; have hd1 : Below WF.heap.size WF w1 := hd0.trans (b1.mono hd0.size); have ol : w.heap.size ≤ WF.drew.heap.size := hWF.size)
    clear hHeld
    refine hK.out _ _ ?SR65 (fun hHeld => ?_)
    case SR65 => ((try dsimp only); first | (with_reducible exact KEEP.out _ hd0) | (with_reducible exact KEEP.out _ hd1) | (with_reducible exact KEEP.out _ hd2) | (with_reducible exact KEEP.out _ hd3))
    clear hK K
    refine wpAnyH_ready (rs := [5]) (by kernel_rfl) (by simp) ?_
    refine AllReadyH.cons rfl (fun K hK => ?_) AllReadyH.nil
    go_simp
    clear hHeld
    refine hK.out _ _ ?SR66 (fun hHeld => ?_)
    case SR66 => ((try dsimp only); exact KEEP.out _ (hd1.alloc hd1.size _))
    clear hK K
    refine wpAnyH_take (i := 6) (oi := _) (v := ?vR66) rfl (by kernel_rfl) (by kernel_rfl) (by kernel_rfl) (fun _ _ _ h => h) (Or.inl ⟨by rfl, ?yR66⟩) hHeld ?_
    case yR66 => (intro w hSw; (try dsimp only at hSw); go_simp <;> with_reducible rfl)
    try simp only [Act.put, List.getElem_toArray, List.getElem_cons_zero, List.getElem_cons_succ, List.setIfInBounds_toArray, List.set_cons_zero, List.set_cons_succ]
    refine wpAnyH_done (by kernel_rfl) ?_ _
    have OL : w.heap.size ≤ WF.drew.heap.size := hWF.size
    go_wp2_with fail
    go_ret
    have hx := hn2 _ hd1
    refine ⟨_, rfl, two_own ⟨4, a, b, c, ps⟩ ⟨1, nextA 2 a, nextB 2 b, nextC 2 c, [zeroT]⟩ (by simp) (Nat.le_trans hlo hx.size) (owns_of_below hu hx) (owns_base og (Nat.le_trans hlo OL)) (hap g _ _ OL og), hx.alloc hx.size _⟩
  · go_enter Tryz.func170, Tryz.ntmps170
    by_cases h5 : sign = 5
    · subst h5
      have em : makeC 5 a b c ps 3 = [⟨4, a, b, c, ps⟩, ⟨1, nextA 2 a, nextB 2 b, nextC 2 c, [zeroT]⟩] := by rfl
      rw [em]
      clear em
      go_wp2_with fail
      generalize ((w.alloc (.cells #[.int .i64 a, .int .i64 b, .int .i64 c, .slice q n cap, .int .i64 3] 194)).alloc (.cells #[.int .i64 4, .int .i64 a, .int .i64 b, .int .i64 c, .slice q n cap] 158)) = WF at hWF P0 F0 hn2 KEEP ⊢
      have hd0 : Below WF.heap.size WF WF.drew := (Below.refl _ _).drew
      refine wp_region_held_drew (S := (fun w' => w'.cell? ⟨w.heap.size, 0, none⟩ = some (.int .i64 a) ∧ w'.cell? ⟨w.heap.size, 1, none⟩ = some (.int .i64 b) ∧ w'.cell? ⟨w.heap.size, 2, none⟩ = some (.int .i64 c) ∧ w'.cell? ⟨w.heap.size, 3, none⟩ = some (.slice q n cap) ∧ w'.cell? ⟨w.heap.size, 4, none⟩ = some (.int .i64 3) ∧ w'.cell? ⟨w.heap.size + 1, 0, none⟩ = some (.int .i64 4) ∧ w'.cell? ⟨w.heap.size + 1, 1, none⟩ = some (.int .i64 a) ∧ w'.cell? ⟨w.heap.size + 1, 2, none⟩ = some (.int .i64 b) ∧ w'.cell? ⟨w.heap.size + 1, 3, none⟩ = some (.int .i64 c) ∧ w'.cell? ⟨w.heap.size + 1, 4, none⟩ = some (.slice q n cap))) (by kernel_rfl) ?SR70 (fun hHeld => ?_)
      case SR70 => (first | (with_reducible exact KEEP.out _ hd0) | (with_reducible exact KEEP.out _ hd1) | (with_reducible exact KEEP.out _ hd2) | (with_reducible exact KEEP.out _ hd3))
      refine wpAnyH_take (i := 0) (oi := _) (v := ?vR70) rfl (by kernel_rfl) (by kernel_rfl) (by kernel_rfl) (fun _ _ _ h => h) (Or.inl ⟨by rfl, ?yR70⟩) hHeld ?_
      case yR70 => (intro w hSw; (try dsimp only at hSw); go_simp <;> with_reducible rfl)
      try simp only [Act.put, List.getElem_toArray, List.getElem_cons_zero, List.getElem_cons_succ, List.setIfInBounds_toArray, List.set_cons_zero, List.set_cons_succ]
      refine wpAnyH_take (i := 1) (oi := _) (v := ?vR71) rfl (by kernel_rfl) (by kernel_rfl) (by kernel_rfl) (fun _ _ _ h => h) (Or.inl ⟨by rfl, ?yR71⟩) hHeld ?_
      case yR71 => (intro w hSw; (try dsimp only at hSw); go_simp <;> with_reducible rfl)
      try simp only [Act.put, List.getElem_toArray, List.getElem_cons_zero, List.getElem_cons_succ, List.setIfInBounds_toArray, List.set_cons_zero, List.set_cons_succ]
      refine wpAnyH_take (i := 2) (oi := _) (v := ?vR72) rfl (by kernel_rfl) (by kernel_rfl) (by kernel_rfl) (fun _ _ _ h => h) (Or.inl ⟨by rfl, ?yR72⟩) hHeld ?_
      case yR72 => (intro w hSw; (try dsimp only at hSw); go_simp <;> with_reducible rfl)
      try simp only [Act.put, List.getElem_toArray, List.getElem_cons_zero, List.getElem_cons_succ, List.setIfInBounds_toArray, List.set_cons_zero, List.set_cons_succ]
      refine wpAnyH_take (i := 3) (oi := _) (v := ?vR73) rfl (by kernel_rfl) (by kernel_rfl) (by kernel_rfl) (fun _ _ _ h => h) (Or.inl ⟨by rfl, ?yR73⟩) hHeld ?_
      case yR73 => (intro w hSw; (try dsimp only at hSw); go_simp <;> with_reducible rfl)
      try simp only [Act.put, List.getElem_toArray, List.getElem_cons_zero, List.getElem_cons_succ, List.setIfInBounds_toArray, List.set_cons_zero, List.set_cons_succ]
      refine wpAnyH_take (i := 4) (oi := _) (v := ?vR74) rfl (by kernel_rfl) (by kernel_rfl) (by kernel_rfl) (fun _ _ _ h => h) (Or.inl ⟨by rfl, ?yR74⟩) hHeld ?_
      case yR74 => (intro w hSw; (try dsimp only at hSw); go_simp <;> with_reducible rfl)
      try simp only [Act.put, List.getElem_toArray, List.getElem_cons_zero, List.getElem_cons_succ, List.setIfInBounds_toArray, List.set_cons_zero, List.set_cons_succ]
      refine wpAnyH_ready (rs := [5]) (by kernel_rfl) (by simp) ?_
      refine AllReadyH.cons rfl (fun K hK => ?_) AllReadyH.nil
      go_simp
      go_wp2_with (go_at_call 206; refine (HL.out 2 _).mono ?_; rintro e w1 ⟨g, rfl, og, b1⟩; have hd1 : Below WF.heap.size WF w1 := hd0.trans (b1.mono hd0.size); have ol : w.heap.size ≤ WF.drew.heap.size := hWF.size)
      clear hHeld
      refine hK.out _ _ ?SR76 (fun hHeld => ?_)
      case SR76 => ((try dsimp only); first | (with_reducible exact KEEP.out _ hd0) | (with_reducible exact KEEP.out _ hd1) | (with_reducible exact KEEP.out _ hd2) | (with_reducible exact KEEP.out _ hd3))
      clear hK K
      refine wpAnyH_ready (rs := [6]) (by kernel_rfl) (by simp) ?_
      refine AllReadyH.cons rfl (fun K hK => ?_) AllReadyH.nil
      go_simp
      clear hHeld
      refine hK.out _ _ ?SR77 (fun hHeld => ?_)
      case SR77 => ((try dsimp only); exact KEEP.out _ (hd1.alloc hd1.size _))
      clear hK K
      refine wpAnyH_take (i := 7) (oi := _) (v := ?vR77) rfl (by kernel_rfl) (by kernel_rfl) (by kernel_rfl) (fun _ _ _ h => h) (Or.inl ⟨by rfl, ?yR77⟩) hHeld ?_
      case yR77 => (intro w hSw; (try dsimp only at hSw); go_simp <;> with_reducible rfl)
      try simp only [Act.put, List.getElem_toArray, List.getElem_cons_zero, List.getElem_cons_succ, List.setIfInBounds_toArray, List.set_cons_zero, List.set_cons_succ]
      refine wpAnyH_done (by kernel_rfl) ?_ _
      have OL : w.heap.size ≤ WF.drew.heap.size := hWF.size
      go_wp2_with fail
      go_ret
      have hx := hn2 _ hd1
      refine ⟨_, rfl, two_own ⟨4, a, b, c, ps⟩ ⟨1, nextA 2 a, nextB 2 b, nextC 2 c, [zeroT]⟩ (by simp) (Nat.le_trans hlo hx.size) (owns_of_below hu hx) (owns_base og (Nat.le_trans hlo OL)) (hap g _ _ OL og), hx.alloc hx.size _⟩
    by_cases h6 : sign = 6
    · subst h6
      have em : makeC 6 a b c ps 3 = [⟨4, a, b, c, ps⟩, ⟨1, nextA (caretK a b 3) a, nextB (caretK a b 3) b, nextC (caretK a b 3) c, [zeroT]⟩] := by rfl
      rw [em]
      clear em
      go_wp2_with fail
      generalize ((w.alloc (.cells #[.int .i64 a, .int .i64 b, .int .i64 c, .slice q n cap, .int .i64 3] 194)).alloc (.cells #[.int .i64 4, .int .i64 a, .int .i64 b, .int .i64 c, .slice q n cap] 158)) = WF at hWF P0 F0 hn2 KEEP ⊢
      have hd0 : Below WF.heap.size WF WF.drew := (Below.refl _ _).drew
      refine wp_region_held_drew (S := (fun w' => w'.cell? ⟨w.heap.size, 0, none⟩ = some (.int .i64 a) ∧ w'.cell? ⟨w.heap.size, 1, none⟩ = some (.int .i64 b) ∧ w'.cell? ⟨w.heap.size, 2, none⟩ = some (.int .i64 c) ∧ w'.cell? ⟨w.heap.size, 3, none⟩ = some (.slice q n cap) ∧ w'.cell? ⟨w.heap.size, 4, none⟩ = some (.int .i64 3) ∧ w'.cell? ⟨w.heap.size + 1, 0, none⟩ = some (.int .i64 4) ∧ w'.cell? ⟨w.heap.size + 1, 1, none⟩ = some (.int .i64 a) ∧ w'.cell? ⟨w.heap.size + 1, 2, none⟩ = some (.int .i64 b) ∧ w'.cell? ⟨w.heap.size + 1, 3, none⟩ = some (.int .i64 c) ∧ w'.cell? ⟨w.heap.size + 1, 4, none⟩ = some (.slice q n cap))) (by kernel_rfl) ?SR80 (fun hHeld => ?_)
      case SR80 => (first | (with_reducible exact KEEP.out _ hd0) | (with_reducible exact KEEP.out _ hd1) | (with_reducible exact KEEP.out _ hd2) | (with_reducible exact KEEP.out _ hd3))
      refine wpAnyH_take (i := 0) (oi := _) (v := ?vR80) rfl (by kernel_rfl) (by kernel_rfl) (by kernel_rfl) (fun _ _ _ h => h) (Or.inl ⟨by rfl, ?yR80⟩) hHeld ?_
      case yR80 => (intro w hSw; (try dsimp only at hSw); go_simp <;> with_reducible rfl)
      try simp only [Act.put, List.getElem_toArray, List.getElem_cons_zero, List.getElem_cons_succ, List.setIfInBounds_toArray, List.set_cons_zero, List.set_cons_succ]
      refine wpAnyH_take (i := 1) (oi := _) (v := ?vR81) rfl (by kernel_rfl) (by kernel_rfl) (by kernel_rfl) (fun _ _ _ h => h) (Or.inl ⟨by rfl, ?yR81⟩) hHeld ?_
      case yR81 => (intro w hSw; (try dsimp only at hSw); go_simp <;> with_reducible rfl)
      try simp only [Act.put, List.getElem_toArray, List.getElem_cons_zero, List.getElem_cons_succ, List.setIfInBounds_toArray, List.set_cons_zero, List.set_cons_succ]
      refine wpAnyH_take (i := 2) (oi := _) (v := ?vR82) rfl (by kernel_rfl) (by kernel_rfl) (by kernel_rfl) (fun _ _ _ h => h) (Or.inl ⟨by rfl, ?yR82⟩) hHeld ?_
      case yR82 => (intro w hSw; (try dsimp only at hSw); go_simp <;> with_reducible rfl)
      try simp only [Act.put, List.getElem_toArray, List.getElem_cons_zero, List.getElem_cons_succ, List.setIfInBounds_toArray, List.set_cons_zero, List.set_cons_succ]
      refine wpAnyH_ready (rs := [3]) (by kernel_rfl) (by simp) ?_
      refine AllReadyH.cons rfl (fun K hK => ?_) AllReadyH.nil
      go_simp
      go_wp2_with (go_at_call 207; refine (HK.out _).mono ?_; rintro e w1 ⟨rfl, b1⟩; have hd1 : Below WF.heap.size WF w1 := hd0.trans (b1.mono hd0.size))
      clear hHeld
      refine hK.out _ _ ?SR84 (fun hHeld => ?_)
      case SR84 => ((try dsimp only); first | (with_reducible exact KEEP.out _ hd0) | (with_reducible exact KEEP.out _ hd1) | (with_reducible exact KEEP.out _ hd2) | (with_reducible exact KEEP.out _ hd3))
      clear hK K
      refine wpAnyH_ready (rs := [4]) (by kernel_rfl) (by simp) ?_
      refine AllReadyH.cons rfl (fun K hK => ?_) AllReadyH.nil
      go_simp
      go_wp2_with (go_at_call 206; refine (HL.out (caretK a b 3) _).mono ?_; rintro e w2 ⟨g, rfl, og, b2⟩; have hd2 : Below WF.heap.size WF w2 := hd1.trans (b2.mono hd1.size))
      clear hHeld
      refine hK.out _ _ ?SR85 (fun hHeld => ?_)
      case SR85 => ((try dsimp only); first | (with_reducible exact KEEP.out _ hd0) | (with_reducible exact KEEP.out _ hd1) | (with_reducible exact KEEP.out _ hd2) | (with_reducible exact KEEP.out _ hd3))
      clear hK K
      refine wpAnyH_ready (rs := [5]) (by kernel_rfl) (by simp) ?_
      refine AllReadyH.cons rfl (fun K hK => ?_) AllReadyH.nil
      go_simp
      clear hHeld
      refine hK.out _ _ ?SR86 (fun hHeld => ?_)
      case SR86 => ((try dsimp only); exact KEEP.out _ (hd2.alloc hd2.size _))
      clear hK K
      refine wpAnyH_take (i := 6) (oi := _) (v := ?vR86) rfl (by kernel_rfl) (by kernel_rfl) (by kernel_rfl) (fun _ _ _ h => h) (Or.inl ⟨by rfl, ?yR86⟩) hHeld ?_
      case yR86 => (intro w hSw; (try dsimp only at hSw); go_simp <;> with_reducible rfl)
      try simp only [Act.put, List.getElem_toArray, List.getElem_cons_zero, List.getElem_cons_succ, List.setIfInBounds_toArray, List.set_cons_zero, List.set_cons_succ]
      refine wpAnyH_done (by kernel_rfl) ?_ _
      have OL : w.heap.size ≤ w1.heap.size := Nat.le_trans hWF.size hd1.size
      go_wp2_with fail
      go_ret
      have hx := hn2 _ hd2
      refine ⟨_, rfl, two_own ⟨4, a, b, c, ps⟩ ⟨1, nextA (caretK a b 3) a, nextB (caretK a b 3) b, nextC (caretK a b 3) c, [zeroT]⟩ (by simp) (Nat.le_trans hlo hx.size) (owns_of_below hu hx) (owns_base og (Nat.le_trans hlo OL)) (hap g _ _ OL og), hx.alloc hx.size _⟩
    have k5 : (sign == 5) = false := by simpa using h5
    have k6 : (sign == 6) = false := by simpa using h6
    have em : makeC sign a b c ps 3 = [⟨sign, a, b, c, ps⟩] := by simp [makeC, h5, h6]
    rw [em]
    clear em
    clear h5 h6
    go_wp2_with fail
    go_ret
    exact ⟨_, rfl, one_own ⟨sign, a, b, c, ps⟩ (by simp) (Nat.le_trans hlo hWF.size) (owns_of_below hu hWF), hWF.alloc hWF.size _⟩
end Go.Proofs.YtbolphjigjpmiabGreatDoor

/-! What the two functions ParseNum (the program's and the specification's) answer: one and the same pair for every string and every bound; no condition but that a string is no longer than an int can count. -/
namespace Go.Proofs.YtbolphjigjpmiabGreatDoor
open Go.RowKit
set_option linter.unusedSimpArgs false
set_option linter.unusedVariables false

/-- The number that the first k bytes tell. -/
def numUpto (s : ByteArray) : Nat → Int
  | 0 => 0
  | k + 1 => numUpto s k * 10 + (((s.data[k]!).toNat : Int) - 48)

def okDigit (_ : Nat) (c : Int) : Bool := digitB c

theorem digit_bounds {c : Int} (h : digitB c = true) : 48 ≤ c ∧ c ≤ 57 := by
  simpa [digitB] using h

theorem numUpto_bounds (s : ByteArray) : ∀ k, allUpto okDigit s k = true → 0 ≤ numUpto s k ∧ numUpto s k < (10 : Int) ^ k
  | 0, _ => by simp [numUpto]
  | k + 1, h => by
    rw [allUpto, Bool.and_eq_true] at h
    have ih := numUpto_bounds s k h.1
    have hd := digit_bounds (c := ((s.data[k]!).toNat : Int)) h.2
    rw [numUpto, Int.pow_succ]
    omega

theorem numUpto_step {s : ByteArray} {k : Nat} (hk : k < s.size) : numUpto s (k + 1) = numUpto s k * 10 + (((s[k]).toNat : Int) - 48) := by
  rw [numUpto, byteBang s k hk]

theorem num_small {s : ByteArray} {k : Nat} (h : allUpto okDigit s k = true) (h8 : k ≤ 8) : 0 ≤ numUpto s k ∧ numUpto s k < 100000000 := by
  have hb := numUpto_bounds s k h
  have : (10 : Int) ^ k ≤ 10 ^ 8 := by
    have : (10 : Nat) ^ k ≤ 10 ^ 8 := Nat.pow_le_pow_right (by decide) h8
    exact_mod_cast this
  omega

/-- What both answer. -/
def numGood (s : ByteArray) (most : Int) : Bool :=
  inB s.size 1 7 && allUpto okDigit s s.size && !(decide (1 < s.size) && ((s.data[0]!).toNat : Int) == 48) && decide (numUpto s s.size ≤ most)
def numOut (s : ByteArray) (most : Int) : Int := if numGood s most then numUpto s s.size else 0

theorem numOut_bad {s : ByteArray} {most : Int} (h : numGood s most = false) : numOut s most = 0 := by simp [numOut, h]
theorem numOut_good {s : ByteArray} {most : Int} (h : numGood s most = true) : numOut s most = numUpto s s.size := by simp [numOut, h]

theorem bad_digit {s : ByteArray} {most : Int} {k : Nat} (hk : k < s.size) (h : digitB ((s[k]).toNat : Int) = false) : numGood s most = false := by
  rw [numGood, end_false (p := okDigit) hk h]; simp
theorem bad_size {s : ByteArray} {most : Int} (h : inB s.size 1 7 = false) : numGood s most = false := by
  rw [numGood, h]; simp
theorem bad_nought {s : ByteArray} {most : Int} (h1 : 1 < s.size) (h : (((s[0]).toNat : Int) == 48) = true) : numGood s most = false := by
  rw [numGood, byteBang s 0 (by omega), h, decide_eq_true h1]; simp
theorem bad_most {s : ByteArray} {most : Int} (h : most < numUpto s s.size) : numGood s most = false := by
  rw [numGood, decide_eq_false (p := numUpto s s.size ≤ most) (by omega)]; simp
theorem good_all {s : ByteArray} {most : Int} (h1 : inB s.size 1 7 = true) (h2 : allUpto okDigit s s.size = true) (h3 : ∀ h : 1 < s.size, (((s[0]).toNat : Int) == 48) = false) (h4 : numUpto s s.size ≤ most) : numGood s most = true := by
  rw [numGood, h1, h2, decide_eq_true h4]
  by_cases h : 1 < s.size
  · rw [byteBang s 0 (by omega), h3 h]; simp
  · simp [h]

theorem in17 {s : ByteArray} (h : inB s.size 1 7 = true) : 1 ≤ s.size ∧ s.size ≤ 7 := by
  simp only [inB, Bool.and_eq_true, decide_eq_true_eq] at h
  omega
theorem out17 {s : ByteArray} (h : ¬ inB s.size 1 7 = true) : inB s.size 1 7 = false := by simpa using h

theorem pair_bad {s : ByteArray} {most : Int} (h : numGood s most = false) : Ending.returned (.tuple #[.int .i64 0, .bool false]) = Ending.returned (.tuple #[.int .i64 (numOut s most), .bool (numGood s most)]) := by
  rw [numOut_bad h, h]
theorem pair_good {s : ByteArray} {most n : Int} (h : numGood s most = true) (hn : n = numUpto s s.size) : Ending.returned (.tuple #[.int .i64 n, .bool true]) = Ending.returned (.tuple #[.int .i64 (numOut s most), .bool (numGood s most)]) := by
  rw [numOut_good h, h, hn]

set_option maxHeartbeats 1000000 in
theorem specNum_c (s : ByteArray) (most : Int) (hs : s.size ≤ maxLen) (w : World) :
    Calls Tryz.prog 191 #[.string s, .int .i64 most] w fun e w' => e = .returned (.tuple #[.int .i64 (numOut s most), .bool (numGood s most)]) ∧ w = w' := by
  unfold maxLen at hs
  go_enter Tryz.func191, Tryz.ntmps191
  go_wp2
  go_loop [6, 7] (fun vn vi => ∃ (k : Nat) (n : Int), k ≤ s.size ∧ k ≤ 8 ∧ vi = .int .i64 (k : Int) ∧ vn = .int .i64 n ∧ 0 ≤ n ∧ n < 100000000 ∧ Hid (n = numUpto s k) ∧ Hid (allUpto okDigit s k = true)) (fun _ vi => s.size - (intOf vi).toNat)
  case atStart => exact ⟨0, 0, Nat.zero_le _, by omega, rfl, rfl, by omega, by omega, rfl, rfl⟩
  case round =>
    obtain ⟨k, n, hk, hk8, rfl, rfl, hn0, hn1, hn, hh⟩ := hrel
    go_wp2_with (first
      | (go_at_call 99; refine (digit_c _ (byte0 _) (byte255 _) _).mono ?_; rintro e w' ⟨rfl, rfl⟩)
      | (go_at_call 38; refine (in_c _ _ _ _).mono ?_; rintro e w' ⟨rfl, rfl⟩))
    · have hlt : k < s.size := by assumption
      have h1 : (!digitB ((s[k]).toNat : Int)) = true := by assumption
      go_ret2
      exact ⟨pair_bad (bad_digit hlt (by simpa using h1)), rfl⟩
    · have hlt : k < s.size := by assumption
      have h8 : (k : Int) < 8 := by assumption
      have h1 : (!digitB ((s[k]).toNat : Int)) = false := by assumption
      have h2 : digitB ((s[k]).toNat : Int) = true := by simpa using h1
      have hd := digit_bounds h2
      have hh' := step_true (p := okDigit) hlt hh h2
      have hb := num_small hh'.out (by omega)
      have e : n * 10 + (((s[k]).toNat : Int) - 48) % 256 = numUpto s (k + 1) := by
        rw [numUpto_step hlt, ← hn.out]; omega
      go_round
      case rel => exact ⟨k + 1, numUpto s (k + 1), by omega, by omega, by go_num, by rw [e], hb.1, hb.2, rfl, hh'⟩
      case measure => simp [intOf]; omega
    · exfalso; have := in17 (s := s) (by assumption); omega
    · exfalso; have := in17 (s := s) (by assumption); omega
    · exfalso; have := in17 (s := s) (by assumption); omega
    · have h1 : ¬ inB (s.size : Int) 1 7 = true := by assumption
      go_ret2
      exact ⟨pair_bad (bad_size (out17 h1)), rfl⟩
    · have h1 : (1 : Int) < (s.size : Int) := by assumption
      have h2 : ((s[0]).toNat : Int) = 48 := by assumption
      go_ret2
      exact ⟨pair_bad (bad_nought (by omega) (by rw [h2]; rfl)), rfl⟩
    · have he : k = s.size := by omega
      subst he
      have h1 : (((s[0]).toNat : Int) == 48) = true ∨ most < n := by assumption
      have h2 : ¬ ((s[0]).toNat : Int) = 48 := by assumption
      have h3 : most < n := by
        rcases h1 with h1 | h1
        · exact absurd (by simpa using h1) h2
        · exact h1
      go_ret2
      exact ⟨pair_bad (bad_most (by rw [← hn.out]; exact h3)), rfl⟩
    · have he : k = s.size := by omega
      subst he
      have h0 : inB (s.size : Int) 1 7 = true := by assumption
      have h1 : (((s[0]).toNat : Int) == 48) = false ∧ n ≤ most := by assumption
      go_ret2
      exact ⟨pair_good (good_all h0 hh.out (fun _ => h1.1) (by rw [← hn.out]; exact h1.2)) hn.out, rfl⟩
    · have he : k = s.size := by omega
      subst he
      have h3 : most < n := by assumption
      go_ret2
      exact ⟨pair_bad (bad_most (by rw [← hn.out]; exact h3)), rfl⟩
    · have he : k = s.size := by omega
      subst he
      have h0 : inB (s.size : Int) 1 7 = true := by assumption
      have h1 : n ≤ most := by assumption
      have h2 : (s.size : Int) ≤ 1 := by assumption
      go_ret2
      exact ⟨pair_good (good_all h0 hh.out (fun h => by omega) (by rw [← hn.out]; exact h1)) hn.out, rfl⟩
    · have h1 : ¬ inB (s.size : Int) 1 7 = true := by assumption
      go_ret2
      exact ⟨pair_bad (bad_size (out17 h1)), rfl⟩

theorem in_false {s : ByteArray} (h : s.size = 0 ∨ 7 < s.size) : inB s.size 1 7 = false := by
  simp only [inB, Bool.and_eq_false_iff, decide_eq_false_iff_not]
  omega
theorem in_true {s : ByteArray} (h0 : 0 < s.size) (h : s.size ≤ 7) : inB s.size 1 7 = true := by
  simp only [inB, Bool.and_eq_true, decide_eq_true_eq]
  omega

set_option maxHeartbeats 1000000 in
theorem implNum_c (s : ByteArray) (most : Int) (hs : s.size ≤ maxLen) (w : World) :
    Calls Tryz.prog 205 #[.string s, .int .i64 most] w fun e w' => e = .returned (.tuple #[.int .i64 (numOut s most), .bool (numGood s most)]) ∧ w = w' := by
  unfold maxLen at hs
  by_cases h0 : s.size = 0
  · rw [← pair_bad (bad_size (in_false (.inl h0)))]
    have h0' : ((s.size : Int) == 0) = true := by simp [h0]
    go_enter Tryz.func205, Tryz.ntmps205
    go_wp2
    go_ret2
    exact ⟨rfl, rfl⟩
  have h0' : ((s.size : Int) == 0) = false := size_ne h0
  by_cases h7 : 7 < s.size
  · rw [← pair_bad (bad_size (in_false (.inr h7)))]
    have h7' : (7 : Int) < (s.size : Int) := by omega
    go_enter Tryz.func205, Tryz.ntmps205
    go_wp2
    go_ret2
    exact ⟨rfl, rfl⟩
  have hp : 0 < s.size := by omega
  have h7' : ¬ (7 : Int) < (s.size : Int) := by omega
  by_cases hz : 1 < s.size ∧ (((s[0]).toNat : Int) == 48) = true
  · rw [← pair_bad (bad_nought hz.1 hz.2)]
    have hz1 : (1 : Int) < (s.size : Int) := by omega
    have hz2 := hz.2
    clear hz
    go_enter Tryz.func205, Tryz.ntmps205
    go_wp2
    go_ret2
    exact ⟨rfl, rfl⟩
  have hz3 : ∀ h : 1 < s.size, (((s[0]).toNat : Int) == 48) = false := fun h => by
    cases e : (((s[0]).toNat : Int) == 48) with
    | false => rfl
    | true => exact absurd ⟨h, e⟩ hz
  have HZ : Hid (∀ h : 1 < s.size, (((s[0]).toNat : Int) == 48) = false) := hz3
  have hg : (((s[0]).toNat : Int) == 48) = true → ¬ (1 : Int) < (s.size : Int) := fun h h1 => hz ⟨by omega, h⟩
  clear hz hz3
  have hin := in_true hp (by omega)
  have main : ∀ w, Calls Tryz.prog 205 #[.string s, .int .i64 most] w fun e w' => e = .returned (.tuple #[.int .i64 (numOut s most), .bool (numGood s most)]) ∧ w = w' := by
    intro w
    cases hc : (((s[0]).toNat : Int) == 48) with
    | true =>
      have hg1 := hg hc
      clear hg
      go_enter Tryz.func205, Tryz.ntmps205
      go_wp2
      go_loop [6, 28] (fun vn vi => ∃ (k : Nat) (n : Int), k ≤ s.size ∧ vi = .int .i64 (k : Int) ∧ vn = .int .i64 n ∧ 0 ≤ n ∧ n < 100000000 ∧ Hid (n = numUpto s k) ∧ Hid (allUpto okDigit s k = true)) (fun _ vi => s.size - (intOf vi).toNat)
      case atStart => exact ⟨0, 0, Nat.zero_le _, rfl, rfl, by omega, by omega, rfl, rfl⟩
      case round =>
        obtain ⟨k, n, hk, rfl, rfl, hn0, hn1, hn, hh⟩ := hrel
        go_wp2_with (go_at_call 106; refine (isDigit_c _ _).mono ?_; rintro e w' ⟨rfl, rfl⟩)
        · have hlt : k < s.size := by assumption
          have h1 : (!digitB ((s[k]).toNat : Int)) = true := by assumption
          go_ret2
          exact ⟨pair_bad (bad_digit hlt (by simpa using h1)), rfl⟩
        · have hlt : k < s.size := by assumption
          have h1 : (!digitB ((s[k]).toNat : Int)) = false := by assumption
          have h2 : digitB ((s[k]).toNat : Int) = true := by simpa using h1
          have hd := digit_bounds h2
          have hh' := step_true (p := okDigit) hlt hh h2
          have hb := num_small hh'.out (by omega)
          have e : n * 10 + (((s[k]).toNat : Int) - 48) % 256 = numUpto s (k + 1) := by
            rw [numUpto_step hlt, ← hn.out]; omega
          go_round
          case rel => exact ⟨k + 1, numUpto s (k + 1), by omega, by go_num, by rw [e], hb.1, hb.2, rfl, hh'⟩
          case measure => simp [intOf]; omega
        · have he : k = s.size := by omega
          subst he
          have h3 : most < n := by assumption
          go_ret2
          exact ⟨pair_bad (bad_most (by rw [← hn.out]; exact h3)), rfl⟩
        · have he : k = s.size := by omega
          subst he
          have h3 : n ≤ most := by omega
          go_ret2
          exact ⟨pair_good (good_all hin hh.out HZ.out (by rw [← hn.out]; exact h3)) hn.out, rfl⟩
    | false =>
      clear hg
      go_enter Tryz.func205, Tryz.ntmps205
      go_wp2
      go_loop [6, 28] (fun vn vi => ∃ (k : Nat) (n : Int), k ≤ s.size ∧ vi = .int .i64 (k : Int) ∧ vn = .int .i64 n ∧ 0 ≤ n ∧ n < 100000000 ∧ Hid (n = numUpto s k) ∧ Hid (allUpto okDigit s k = true)) (fun _ vi => s.size - (intOf vi).toNat)
      case atStart => exact ⟨0, 0, Nat.zero_le _, rfl, rfl, by omega, by omega, rfl, rfl⟩
      case round =>
        obtain ⟨k, n, hk, rfl, rfl, hn0, hn1, hn, hh⟩ := hrel
        go_wp2_with (go_at_call 106; refine (isDigit_c _ _).mono ?_; rintro e w' ⟨rfl, rfl⟩)
        · have hlt : k < s.size := by assumption
          have h1 : (!digitB ((s[k]).toNat : Int)) = true := by assumption
          go_ret2
          exact ⟨pair_bad (bad_digit hlt (by simpa using h1)), rfl⟩
        · have hlt : k < s.size := by assumption
          have h1 : (!digitB ((s[k]).toNat : Int)) = false := by assumption
          have h2 : digitB ((s[k]).toNat : Int) = true := by simpa using h1
          have hd := digit_bounds h2
          have hh' := step_true (p := okDigit) hlt hh h2
          have hb := num_small hh'.out (by omega)
          have e : n * 10 + (((s[k]).toNat : Int) - 48) % 256 = numUpto s (k + 1) := by
            rw [numUpto_step hlt, ← hn.out]; omega
          go_round
          case rel => exact ⟨k + 1, numUpto s (k + 1), by omega, by go_num, by rw [e], hb.1, hb.2, rfl, hh'⟩
          case measure => simp [intOf]; omega
        · have he : k = s.size := by omega
          subst he
          have h3 : most < n := by assumption
          go_ret2
          exact ⟨pair_bad (bad_most (by rw [← hn.out]; exact h3)), rfl⟩
        · have he : k = s.size := by omega
          subst he
          have h3 : n ≤ most := by omega
          go_ret2
          exact ⟨pair_good (good_all hin hh.out HZ.out (by rw [← hn.out]; exact h3)) hn.out, rfl⟩
  exact main w
end Go.Proofs.YtbolphjigjpmiabGreatDoor

/-! What the functions that look at one text of a Pre answer (the program's and the specification's): contracts for the walks; condition: a string is no longer than an int can count. -/
namespace Go.Proofs.YtbolphjigjpmiabGreatDoor
open Go.RowKit
set_option linter.unusedSimpArgs false
set_option linter.unusedVariables false

def preB (c : Int) : Bool := smallB c || inB c 65 90 || digitB c || c == 45
def okPre (_ : Nat) (c : Int) : Bool := preB c
def digitsB (s : ByteArray) : Bool := allUpto okDigit s s.size
def firstB (s : ByteArray) : Bool := ((s.data[0]!).toNat : Int) == 48
def partB (s : ByteArray) : Bool := allUpto okPre s s.size && inB s.size 1 8 && (!digitsB s || decide (s.size = 1) || !firstB s)

theorem ret_bool {a b : Bool} (h : a = b) : Ending.returned (.bool a) = .returned (.bool b) := by rw [h]

theorem isPreSign_c (c : Int) (w : World) :
    Calls Tryz.prog 153 #[.int .i32 c] w fun e w' => e = .returned (.bool (preB c)) ∧ w = w' := by
  go_enter Tryz.func153, Tryz.ntmps153
  go_wp2
  all_goals (go_ret; refine ⟨ret_bool ?_, rfl⟩)
  all_goals (rw [Bool.eq_iff_iff]; simp [preB, smallB, inB, digitB]; try omega)

set_option maxHeartbeats 1000000 in
theorem specDigits_c (s : ByteArray) (hs : s.size ≤ maxLen) (w : World) :
    Calls Tryz.prog 133 #[.string s] w fun e w' => e = .returned (.bool (digitsB s)) ∧ w = w' := by
  unfold maxLen at hs
  go_enter Tryz.func133, Tryz.ntmps133
  go_wp2
  go_loop [3] (fun vi => ∃ k : Nat, k ≤ s.size ∧ vi = .int .i64 (k : Int) ∧ Hid (allUpto okDigit s k = true)) (fun vi => s.size - (intOf vi).toNat)
  case atStart => exact ⟨0, Nat.zero_le _, rfl, rfl⟩
  case round =>
    obtain ⟨k, hk, rfl, hh⟩ := hrel
    go_wp2_with (go_at_call 99; refine (digit_c _ (byte0 _) (byte255 _) _).mono ?_; rintro e w' ⟨rfl, rfl⟩)
    · have hlt : k < s.size := by assumption
      have h1 : (!digitB ((s[k]).toNat : Int)) = true := by assumption
      go_ret
      exact ⟨by rw [digitsB, end_false hlt (by simpa [okDigit] using h1)]; rfl, rfl⟩
    · have hlt : k < s.size := by assumption
      have h1 : (!digitB ((s[k]).toNat : Int)) = false := by assumption
      go_round
      case rel => exact ⟨k + 1, by omega, by go_num, step_true hlt hh (by simpa [okDigit] using h1)⟩
      case measure => simp [intOf]; omega
    · have he : k = s.size := by omega
      subst he
      go_ret
      exact ⟨by rw [digitsB, hh.out]; rfl, rfl⟩

set_option maxHeartbeats 1000000 in
theorem implDigits_c (s : ByteArray) (hs : s.size ≤ maxLen) (w : World) :
    Calls Tryz.prog 151 #[.string s] w fun e w' => e = .returned (.bool (digitsB s)) ∧ w = w' := by
  unfold maxLen at hs
  go_enter Tryz.func151, Tryz.ntmps151
  go_wp2
  go_loop [6] (fun vi => ∃ k : Nat, k ≤ s.size ∧ vi = .int .i64 (k : Int) ∧ Hid (allUpto okDigit s k = true)) (fun vi => s.size - (intOf vi).toNat)
  case atStart => exact ⟨0, Nat.zero_le _, rfl, rfl⟩
  case round =>
    obtain ⟨k, hk, rfl, hh⟩ := hrel
    go_wp2_with (go_at_call 106; refine (isDigit_c _ _).mono ?_; rintro e w' ⟨rfl, rfl⟩)
    · have hlt : k < s.size := by assumption
      have h1 : (!digitB ((s[k]).toNat : Int)) = true := by assumption
      go_ret
      exact ⟨by rw [digitsB, end_false hlt (by simpa [okDigit] using h1)]; rfl, rfl⟩
    · have hlt : k < s.size := by assumption
      have h1 : (!digitB ((s[k]).toNat : Int)) = false := by assumption
      go_round
      case rel => exact ⟨k + 1, by omega, by go_num, step_true hlt hh (by simpa [okDigit] using h1)⟩
      case measure => simp [intOf]; omega
    · have he : k = s.size := by omega
      subst he
      go_ret
      exact ⟨by rw [digitsB, hh.out]; rfl, rfl⟩

theorem pre_high {c : Int} (h : 128 ≤ c) : preB c = false := by
  rw [Bool.eq_false_iff]; simp [preB, smallB, inB, digitB]; omega

theorem partB_out {s : ByteArray} (h : s.size = 0 ∨ 8 < s.size) : partB s = false := by
  have : inB s.size 1 8 = false := by
    simp only [inB, Bool.and_eq_false_iff, decide_eq_false_iff_not]
    omega
  rw [partB, this, Bool.and_false, Bool.false_and]
theorem partB_bad {s : ByteArray} (h : allUpto okPre s s.size = false) : partB s = false := by rw [partB, h]; rfl
theorem partB_in {s : ByteArray} (h0 : 0 < s.size) (h1 : s.size ≤ 8) (h : allUpto okPre s s.size = true) : partB s = (!digitsB s || decide (s.size = 1) || !firstB s) := by
  have : inB s.size 1 8 = true := by
    simp only [inB, Bool.and_eq_true, decide_eq_true_eq]
    omega
  rw [partB, this, h]; rfl
theorem firstB_eq {s : ByteArray} (h0 : 0 < s.size) : firstB s = (((s[0]).toNat : Int) == 48) := by rw [firstB, byteBang s 0 h0]

theorem pre_1 {c : Int} (k : Nat) (h : digitB c = true) : okPre k c = true := by simp [okPre, preB, h]
theorem pre_2 {c : Int} (k : Nat) (h : smallB c = true) : okPre k c = true := by simp [okPre, preB, h]
theorem pre_3 {c : Int} (k : Nat) (h : inB c 65 90 = true) : okPre k c = true := by simp [okPre, preB, h]
theorem pre_4 {c : Int} (k : Nat) (h : (c != 45) = false) : okPre k c = true := by
  have : (c == 45) = true := by simpa using h
  simp only [okPre, preB, this, Bool.or_true]

end Go.Proofs.YtbolphjigjpmiabGreatDoor

/-! What the specification's look at one text of a Pre answers: a contract for the walks; condition: the string is no longer than an int can count. -/
namespace Go.Proofs.YtbolphjigjpmiabGreatDoor
open Go.RowKit
set_option linter.unusedSimpArgs false
set_option linter.unusedVariables false

theorem pre_none {c : Int} (k : Nat) (h1 : ¬ digitB c = true) (h2 : ¬ smallB c = true) (h3 : ¬ inB c 65 90 = true) (h4 : (c != 45) = true) : okPre k c = false := by
  have h5 : (c == 45) = false := by simpa using h4
  simp only [okPre, preB, h1, h2, h3, h5]; rfl

set_option maxHeartbeats 2000000 in
theorem specPart_c (s : ByteArray) (hs : s.size ≤ maxLen) (w : World) :
    Calls Tryz.prog 100 #[.string s] w fun e w' => e = .returned (.bool (partB s)) ∧ w = w' := by
  have hs0 := hs
  unfold maxLen at hs
  go_enter Tryz.func100, Tryz.ntmps100
  go_wp2
  go_loop [3] (fun vi => ∃ k : Nat, k ≤ s.size ∧ vi = .int .i64 (k : Int) ∧ Hid (allUpto okPre s k = true)) (fun vi => s.size - (intOf vi).toNat)
  case atStart => exact ⟨0, Nat.zero_le _, rfl, rfl⟩
  case round =>
    obtain ⟨k, hk, rfl, hh⟩ := hrel
    by_cases hlt : k < s.size
    · have hwb := wrap_byte s[k]
      go_wp2_with (first
        | (go_at_call 98; refine (small_c _ (byte0 _) (byte255 _) _).mono ?_; rintro e w' ⟨rfl, rfl⟩)
        | (go_at_call 99; refine (digit_c _ (byte0 _) (byte255 _) _).mono ?_; rintro e w' ⟨rfl, rfl⟩)
        | (go_at_call 38; refine (in_c _ _ _ _).mono ?_; rintro e w' ⟨rfl, rfl⟩))
      · have h1 : digitB ((s[k]).toNat : Int) = true := by assumption
        go_round
        case rel => exact ⟨k + 1, by omega, by go_num, step_true hlt hh (pre_1 _ h1)⟩
        case measure => simp [intOf]; omega
      · have h1 : smallB ((s[k]).toNat : Int) = true := by assumption
        go_round
        case rel => exact ⟨k + 1, by omega, by go_num, step_true hlt hh (pre_2 _ h1)⟩
        case measure => simp [intOf]; omega
      · have h1 : inB ((s[k]).toNat : Int) 65 90 = true := by assumption
        go_round
        case rel => exact ⟨k + 1, by omega, by go_num, step_true hlt hh (pre_3 _ h1)⟩
        case measure => simp [intOf]; omega
      · have h1 : ¬ digitB ((s[k]).toNat : Int) = true := by assumption
        have h2 : ¬ smallB ((s[k]).toNat : Int) = true := by assumption
        have h3 : ¬ inB ((s[k]).toNat : Int) 65 90 = true := by assumption
        have h4 : (((s[k]).toNat : Int) != 45) = true := by assumption
        go_ret
        exact ⟨ret_bool (partB_bad (end_false hlt (pre_none _ h1 h2 h3 h4))).symm, rfl⟩
      · have h1 : (((s[k]).toNat : Int) != 45) = false := by assumption
        go_round
        case rel => exact ⟨k + 1, by omega, by go_num, step_true hlt hh (pre_4 _ h1)⟩
        case measure => simp [intOf]; omega
    · have he : k = s.size := by omega
      subst he
      have HA : Hid (allUpto okPre s s.size = true) := hh
      clear hh
      by_cases h0 : s.size = 0
      · have e1 : inB (s.size : Int) 1 8 = false := by simp [inB]; omega
        go_wp2_with (go_at_call 38; refine (in_c _ _ _ _).mono ?_; rintro e w' ⟨rfl, rfl⟩)
        go_ret
        exact ⟨ret_bool (partB_out (.inl h0)).symm, rfl⟩
      · have hp : 0 < s.size := by omega
        have hpi : (0 : Int) < (s.size : Int) := by omega
        have HF : Hid (firstB s = (((s[0]).toNat : Int) == 48)) := firstB_eq hp
        by_cases h8 : 8 < s.size
        · have e1 : inB (s.size : Int) 1 8 = false := by simp [inB]; omega
          go_wp2_with (go_at_call 38; refine (in_c _ _ _ _).mono ?_; rintro e w' ⟨rfl, rfl⟩)
          go_ret
          exact ⟨ret_bool (partB_out (.inr h8)).symm, rfl⟩
        · have e1 : inB (s.size : Int) 1 8 = true := by simp [inB]; omega
          cases hd : digitsB s with
          | false =>
            go_wp2_with (first
              | (go_at_call 38; refine (in_c _ _ _ _).mono ?_; rintro e w' ⟨rfl, rfl⟩)
              | (go_at_call 133; refine (specDigits_c s hs0 _).mono ?_; rintro e w' ⟨rfl, rfl⟩))
            go_ret
            exact ⟨ret_bool (by rw [partB_in hp (by omega) HA.out, hd]; rfl), rfl⟩
          | true =>
            by_cases h1 : s.size = 1
            · have h1' : ((s.size : Int) == 1) = true := by simp [h1]
              go_wp2_with (first
                | (go_at_call 38; refine (in_c _ _ _ _).mono ?_; rintro e w' ⟨rfl, rfl⟩)
                | (go_at_call 133; refine (specDigits_c s hs0 _).mono ?_; rintro e w' ⟨rfl, rfl⟩))
              go_ret
              exact ⟨ret_bool (by rw [partB_in hp (by omega) HA.out, hd]; simp [h1]), rfl⟩
            · have h1' : ((s.size : Int) == 1) = false := by rw [beq_eq_false_iff_ne]; omega
              go_wp2_with (first
                | (go_at_call 38; refine (in_c _ _ _ _).mono ?_; rintro e w' ⟨rfl, rfl⟩)
                | (go_at_call 133; refine (specDigits_c s hs0 _).mono ?_; rintro e w' ⟨rfl, rfl⟩))
              go_ret
              exact ⟨ret_bool (by rw [partB_in hp (by omega) HA.out, hd, HF.out]; simp [h1, bne]), rfl⟩
end Go.Proofs.YtbolphjigjpmiabGreatDoor

/-! What the program's look at one text of a Pre answers (it goes over the text's runes): a contract for the walks; condition: the string is no longer than an int can count. -/
namespace Go.Proofs.YtbolphjigjpmiabGreatDoor
open Go.RowKit
set_option linter.unusedSimpArgs false
set_option linter.unusedVariables false

theorem iterPos_of {w : World} {k : Nat} {s : ByteArray} {p : Nat} (h : w.heap[k]? = some (.stringIter s p)) : w.iterPos k = p := by simp [World.iterPos, h]
theorem rune_high (s : ByteArray) (pos : Nat) (h : pos < s.size) (ha : 128 ≤ (s[pos]).toNat) : preB ((Utf8.decode s pos).1 : Int) = false := pre_high (by have := (decode_high s pos h ha).1; omega)
theorem byte_high (s : ByteArray) (pos : Nat) (h : pos < s.size) (ha : 128 ≤ (s[pos]).toNat) : preB ((s[pos]).toNat : Int) = false := pre_high (by omega)

set_option maxHeartbeats 2000000 in
set_option maxRecDepth 100000 in
theorem implPart_c (s : ByteArray) (hs : s.size ≤ maxLen) (w : World) :
    Calls Tryz.prog 117 #[.string s] w fun e w' => e = .returned (.bool (partB s)) ∧ Below w.heap.size w w' := by
  have hs0 := hs
  unfold maxLen at hs
  by_cases h0 : s.size = 0
  · have h0' : ((s.size : Int) == 0) = true := by simp [h0]
    go_enter Tryz.func117, Tryz.ntmps117
    go_wp2
    go_ret
    exact ⟨ret_bool (partB_out (.inl h0)).symm, Below.refl _ _⟩
  have h0' : ((s.size : Int) == 0) = false := size_ne h0
  by_cases h8 : 8 < s.size
  · have h8' : (8 : Int) < (s.size : Int) := by omega
    go_enter Tryz.func117, Tryz.ntmps117
    go_wp2
    go_ret
    exact ⟨ret_bool (partB_out (.inr h8)).symm, Below.refl _ _⟩
  have h8' : ¬ (8 : Int) < (s.size : Int) := by omega
  have hp0 : 0 < s.size := by omega
  have hpi : (0 : Int) < (s.size : Int) := by omega
  have HF : Hid (firstB s = (((s[0]).toNat : Int) == 48)) := firstB_eq hp0
  go_enter Tryz.func117, Tryz.ntmps117
  go_wp2
  go_loopw [4] (fun _ wr => ∃ pos : Nat, pos ≤ s.size ∧ wr.heap[w.heap.size]? = some (.stringIter s pos) ∧ Hid (allUpto okPre s pos = true) ∧ Below w.heap.size w wr) (fun _ wr => s.size - wr.iterPos w.heap.size)
  case atStart => exact ⟨0, Nat.zero_le _, World.iter_heap w s 0, rfl, (Below.refl _ _).alloc (Nat.le_refl _) _⟩
  case round =>
    obtain ⟨pos, hk, hit, hh, hbw⟩ := hrel
    have hpos0 := iterPos_of hit
    by_cases hp : pos < s.size
    · by_cases ha : (s[pos]).toNat < 128
      · have hnx : ∀ ty, (Instr.next (.pointer (some ⟨w.heap.size, 0, none⟩)) true ty).run Tryz.prog wr = _ := fun ty => Lib.run_next_ascii_at wr w.heap.size s pos ty hit hp ha
        have hit2 := Lib.iterAt_heap wr w.heap.size s pos (pos + 1) hit
        have hbw2 := Lib.below_iterAt hbw (k := w.heap.size) (Nat.le_refl _) s (pos + 1)
        obtain ⟨W1, hW1⟩ : ∃ W1, W1 = wr.iterAt w.heap.size s (pos + 1) := ⟨_, rfl⟩
        rw [← hW1] at hnx hit2 hbw2
        clear hW1 hit hbw
        go_wp2_with (go_at_call 153; refine (isPreSign_c _ _).mono ?_; rintro e w' ⟨rfl, rfl⟩)
        · have h1 : (!preB ((s[pos]).toNat : Int)) = true := by assumption
          go_ret
          exact ⟨ret_bool (partB_bad (end_false hp (by simpa [okPre] using h1))).symm, hbw2⟩
        · have h1 : (!preB ((s[pos]).toNat : Int)) = false := by assumption
          go_roundw
          case rel => exact ⟨pos + 1, by omega, hit2, step_true hp hh (by simpa [okPre] using h1), hbw2⟩
          case measure => rw [iterPos_of hit2, hpos0]; omega
      · have hnx : ∀ ty, (Instr.next (.pointer (some ⟨w.heap.size, 0, none⟩)) true ty).run Tryz.prog wr = _ := fun ty => Lib.run_next_any_at wr w.heap.size s pos ty hit hp
        have hbw2 := Lib.below_iterAt hbw (k := w.heap.size) (Nat.le_refl _) s (pos + (Utf8.decode s pos).2)
        have hr := rune_high s pos hp (by omega)
        have HB := byte_high s pos hp (by omega)
        obtain ⟨r, hr'⟩ : ∃ r : Int, r = ((Utf8.decode s pos).1 : Int) := ⟨_, rfl⟩
        obtain ⟨W1, hW1⟩ : ∃ W1, W1 = wr.iterAt w.heap.size s (pos + (Utf8.decode s pos).2) := ⟨_, rfl⟩
        rw [← hW1, ← hr'] at hnx
        rw [← hW1] at hbw2
        rw [← hr'] at hr
        have HB' : Hid (preB ((s[pos]).toNat : Int) = false) := HB
        clear hW1 hit hbw hr' HB
        go_wp2_with (go_at_call 153; refine (isPreSign_c _ _).mono ?_; rintro e w' ⟨rfl, rfl⟩)
        go_ret
        exact ⟨ret_bool (partB_bad (end_false hp HB'.out)).symm, hbw2⟩
    · have hnx : ∀ ty, (Instr.next (.pointer (some ⟨w.heap.size, 0, none⟩)) true ty).run Tryz.prog wr = _ := fun ty => Lib.run_next_end_at wr w.heap.size s pos ty hit hp
      have he : pos = s.size := by omega
      subst he
      have HA : Hid (allUpto okPre s s.size = true) := hh
      clear hh hpos0
      by_cases h1 : s.size = 1
      · have h1' : ((s.size : Int) == 1) = true := by simp [h1]
        go_wp2
        go_ret
        exact ⟨ret_bool (by rw [partB_in hp0 (by omega) HA.out]; simp [h1]), hbw⟩
      · have h1' : ((s.size : Int) == 1) = false := by rw [beq_eq_false_iff_ne]; omega
        cases hf : (((s[0]).toNat : Int) == 48) with
        | true =>
          have hf' : (((s[0]).toNat : Int) != 48) = false := by rw [bne, hf]; rfl
          go_wp2_with (go_at_call 151; refine (implDigits_c s hs0 _).mono ?_; rintro e w' ⟨rfl, rfl⟩)
          go_ret
          exact ⟨ret_bool (by rw [partB_in hp0 (by omega) HA.out, HF.out, hf]; simp [h1]), hbw⟩
        | false =>
          have hf' : (((s[0]).toNat : Int) != 48) = true := by rw [bne, hf]; rfl
          go_wp2
          go_ret
          exact ⟨ret_bool (by rw [partB_in hp0 (by omega) HA.out, HF.out, hf]; simp [h1]), hbw⟩
end Go.Proofs.YtbolphjigjpmiabGreatDoor

/-! What VerOk answers, the program's and the specification's: contracts for the walks; conditions: the list of texts lies in memory as told, and is no longer than 2 to the 20, with all that it holds. -/
namespace Go.Proofs.YtbolphjigjpmiabGreatDoor
open Go.RowKit
set_option linter.unusedSimpArgs false
set_option linter.unusedVariables false

def partsUpto (ps : List ByteArray) : Nat → Bool
  | 0 => true
  | k + 1 => partsUpto ps k && partB (ps.getD k ⟨#[]⟩)
def verB (a b c : Int) (ps : List ByteArray) : Bool := partsUpto ps ps.length && inB a 0 9999 && inB b 0 9999 && inB c 0 9999 && decide (ps.length ≤ 3)

theorem partsUpto_cut (ps : List ByteArray) (k : Nat) (h : partB (ps.getD k ⟨#[]⟩) = false) : ∀ n, k < n → partsUpto ps n = false
  | 0, h0 => by omega
  | n + 1, hk => by
    unfold partsUpto
    by_cases e : k = n
    · subst e; rw [h, Bool.and_false]
    · rw [partsUpto_cut ps k h n (by omega)]; rfl
theorem parts_end {ps : List ByteArray} {k : Nat} (hk : k < ps.length) (h : partB ps[k] = false) : partsUpto ps ps.length = false :=
  partsUpto_cut ps k (by simpa [List.getD_eq_getElem?_getD, hk] using h) _ hk
theorem parts_step {ps : List ByteArray} {k : Nat} (hk : k < ps.length) (hh : Hid (partsUpto ps k = true)) (h : partB ps[k] = true) : Hid (partsUpto ps (k + 1) = true) := by
  show _ = _
  rw [partsUpto, hh.out]
  simpa [List.getD_eq_getElem?_getD, hk] using h
theorem verB_parts {a b c : Int} {ps : List ByteArray} (h : partsUpto ps ps.length = false) : verB a b c ps = false := by rw [verB, h]; rfl
theorem verB_all {a b c : Int} {ps : List ByteArray} (h : partsUpto ps ps.length = true) : verB a b c ps = (inB a 0 9999 && inB b 0 9999 && inB c 0 9999 && decide (ps.length ≤ 3)) := by rw [verB, h]; rfl

theorem verNum_c (n : Int) (w : World) :
    Calls Tryz.prog 116 #[.int .i64 n] w fun e w' => e = .returned (.bool (inB n 0 9999)) ∧ w = w' := by
  by_cases h : 0 ≤ n
  · have hb : inB n 0 9999 = decide (n ≤ 9999) := by simp [inB, h]
    rw [hb]
    go_enter Tryz.func116, Tryz.ntmps116
    go_wp2
    go_ret
    exact ⟨rfl, rfl⟩
  · have hb : inB n 0 9999 = false := by simp [inB, h]
    rw [hb]
    go_enter Tryz.func116, Tryz.ntmps116
    go_wp2
    go_ret
    exact ⟨rfl, rfl⟩

theorem le_sum_of_mem : ∀ {ps : List ByteArray} {s : ByteArray}, s ∈ ps → s.size ≤ (ps.map ByteArray.size).sum
  | p :: ps, s, h => by
    rw [List.map_cons, List.sum_cons]
    rcases List.mem_cons.1 h with rfl | h
    · omega
    · have := le_sum_of_mem h; omega
theorem size_of_bulk {ps : List ByteArray} {s : ByteArray} (h : s ∈ ps) : s.size ≤ bulkS ps := by
  unfold bulkS
  have := le_sum_of_mem h
  omega

set_option maxHeartbeats 2000000 in
set_option maxRecDepth 100000 in
theorem specVerOk_c (a b c : Int) (u : Value) (ps : List ByteArray) (w : World) (hu : Reads w u (strsV ps)) (hb : bulkS ps ≤ 1048576) :
    Calls Tryz.prog 62 #[.agg #[.int .i64 a, .int .i64 b, .int .i64 c, u]] w fun e w' => e = .returned (.bool (verB a b c ps)) ∧ Below w.heap.size w w' := by
  have hsz : ∀ s ∈ ps, s.size ≤ maxLen := fun s hs => by have := size_of_bulk hs; unfold maxLen; omega
  have hn : ps.length ≤ 1048576 := by unfold bulkS at hb; omega
  have hbx : ∀ o, Below w.heap.size w (w.alloc o) := fun o => (Below.refl _ _).alloc (Nat.le_refl _) _
  obtain ⟨q, cap, rfl, _, hc⟩ := reads_strs hu
  clear hu hb
  go_enter Tryz.func62, Tryz.ntmps62
  go_wp2
  go_loop [3] (fun vi => ∃ k : Nat, k ≤ ps.length ∧ vi = .int .i64 (k : Int) ∧ Hid (partsUpto ps k = true)) (fun vi => ps.length - (intOf vi).toNat)
  case atStart => exact ⟨0, Nat.zero_le _, rfl, rfl⟩
  case round =>
    obtain ⟨k, hk, rfl, hh⟩ := hrel
    by_cases hlt : k < ps.length
    · rcases hc with rfl | ⟨bl, off, rfl, hlb, hc⟩
      · simp at hlt
      have hcx := hc k hlt
      have hcy : ∀ o, (w.alloc o).cell? ⟨bl, off + k, none⟩ = some (.string ps[k]) := fun o => ((hbx o).cell (p := ⟨bl, off + k, none⟩) hlb).trans hcx
      have hsk := hsz ps[k] (List.getElem_mem hlt)
      obtain ⟨t, ht⟩ : ∃ t, t = ps[k] := ⟨_, rfl⟩
      rw [← ht] at hcx hcy hsk
      have HT : Hid (t = ps[k]) := ht
      have hki : (k : Int) < (ps.length : Int) := by omega
      clear hc hsz ht
      go_wp2_with (go_at_call 100; refine (specPart_c t hsk _).mono ?_; rintro e w' ⟨rfl, rfl⟩)
      · have h1 : (!partB t) = true := by assumption
        go_ret
        exact ⟨ret_bool (verB_parts (parts_end hlt (by rw [← HT.out]; simpa using h1))).symm, hbx _⟩
      · have h1 : (!partB t) = false := by assumption
        go_round
        case rel => exact ⟨k + 1, by omega, by go_num, parts_step hlt hh (by rw [← HT.out]; simpa using h1)⟩
        case measure => simp [intOf]; omega
    · have he : k = ps.length := by omega
      subst he
      have HA : Hid (partsUpto ps ps.length = true) := hh
      have hki : ¬ (ps.length : Int) < (ps.length : Int) := by omega
      clear hc hsz hh
      cases ha : inB a 0 9999 with
      | false =>
        go_wp2_with (go_at_call 38; refine (in_c _ _ _ _).mono ?_; rintro e w' ⟨rfl, rfl⟩)
        go_ret
        exact ⟨ret_bool (by rw [verB_all HA.out, ha]; rfl), hbx _⟩
      | true =>
        cases hb : inB b 0 9999 with
        | false =>
          go_wp2_with (go_at_call 38; refine (in_c _ _ _ _).mono ?_; rintro e w' ⟨rfl, rfl⟩)
          go_ret
          exact ⟨ret_bool (by rw [verB_all HA.out, ha, hb]; rfl), hbx _⟩
        | true =>
          cases hc : inB c 0 9999 with
          | false =>
            go_wp2_with (go_at_call 38; refine (in_c _ _ _ _).mono ?_; rintro e w' ⟨rfl, rfl⟩)
            go_ret
            exact ⟨ret_bool (by rw [verB_all HA.out, ha, hb, hc]; rfl), hbx _⟩
          | true =>
            go_wp2_with (go_at_call 38; refine (in_c _ _ _ _).mono ?_; rintro e w' ⟨rfl, rfl⟩)
            go_ret
            exact ⟨ret_bool (by rw [verB_all HA.out, ha, hb, hc, Bool.eq_iff_iff]; simp; try omega), hbx _⟩

theorem verB_num {a b c : Int} {ps : List ByteArray} (h : inB a 0 9999 = false ∨ inB b 0 9999 = false ∨ inB c 0 9999 = false ∨ 3 < ps.length) : verB a b c ps = false := by
  rw [verB]
  rcases h with h | h | h | h
  · rw [h]; simp
  · rw [h]; simp
  · rw [h]; simp
  · have : decide (ps.length ≤ 3) = false := by simp; omega
    rw [this, Bool.and_false]

set_option maxHeartbeats 2000000 in
set_option maxRecDepth 100000 in
theorem implVerOk_c (a b c : Int) (u : Value) (ps : List ByteArray) (w : World) (hu : Reads w u (strsV ps)) (hb : bulkS ps ≤ 1048576) :
    Calls Tryz.prog 78 #[.agg #[.int .i64 a, .int .i64 b, .int .i64 c, u]] w fun e w' => e = .returned (.bool (verB a b c ps)) ∧ Below w.heap.size w w' := by
  have hsz : ∀ s ∈ ps, s.size ≤ maxLen := fun s hs => by have := size_of_bulk hs; unfold maxLen; omega
  have hn : ps.length ≤ 1048576 := by unfold bulkS at hb; omega
  have hbx : ∀ o, Below w.heap.size w (w.alloc o) := fun o => (Below.refl _ _).alloc (Nat.le_refl _) _
  obtain ⟨q, cap, rfl, _, hc⟩ := reads_strs hu
  clear hu hb
  cases ha : inB a 0 9999 with
  | false =>
    clear hc
    go_enter Tryz.func78, Tryz.ntmps78
    go_wp2_with (go_at_call 116; refine (verNum_c _ _).mono ?_; rintro e w' ⟨rfl, rfl⟩)
    go_ret
    exact ⟨ret_bool (verB_num (.inl ha)).symm, hbx _⟩
  | true =>
  cases hb : inB b 0 9999 with
  | false =>
    clear hc
    go_enter Tryz.func78, Tryz.ntmps78
    go_wp2_with (go_at_call 116; refine (verNum_c _ _).mono ?_; rintro e w' ⟨rfl, rfl⟩)
    go_ret
    exact ⟨ret_bool (verB_num (.inr (.inl hb))).symm, hbx _⟩
  | true =>
  cases hcc : inB c 0 9999 with
  | false =>
    clear hc
    go_enter Tryz.func78, Tryz.ntmps78
    go_wp2_with (go_at_call 116; refine (verNum_c _ _).mono ?_; rintro e w' ⟨rfl, rfl⟩)
    go_ret
    exact ⟨ret_bool (verB_num (.inr (.inr (.inl hcc)))).symm, hbx _⟩
  | true =>
  by_cases h3 : 3 < ps.length
  · have h3' : (3 : Int) < (ps.length : Int) := by omega
    clear hc
    go_enter Tryz.func78, Tryz.ntmps78
    go_wp2_with (go_at_call 116; refine (verNum_c _ _).mono ?_; rintro e w' ⟨rfl, rfl⟩)
    go_ret
    exact ⟨ret_bool (verB_num (.inr (.inr (.inr h3)))).symm, hbx _⟩
  have h3' : ¬ (3 : Int) < (ps.length : Int) := by omega
  have HV : Hid (partsUpto ps ps.length = true → verB a b c ps = true) := fun h => by rw [verB_all h, ha, hb, hcc]; simp; omega
  go_enter Tryz.func78, Tryz.ntmps78
  go_wp2_with (go_at_call 116; refine (verNum_c _ _).mono ?_; rintro e w' ⟨rfl, rfl⟩)
  go_loopw [4, 30] (fun _ vi wr => ∃ k : Nat, k ≤ ps.length ∧ vi = .int .i64 (k : Int) ∧ Hid (partsUpto ps k = true) ∧ Below w.heap.size w wr) (fun _ vi _ => ps.length - (intOf vi).toNat)
  case atStart => exact ⟨0, Nat.zero_le _, rfl, rfl, hbx _⟩
  case round =>
    obtain ⟨k, hk, rfl, hh, hbr⟩ := hrel
    by_cases hlt : k < ps.length
    · rcases hc with rfl | ⟨bl, off, rfl, hlb, hc⟩
      · simp at hlt
      have hcx : wr.cell? ⟨bl, off + k, none⟩ = some (.string ps[k]) := (hbr.cell (p := ⟨bl, off + k, none⟩) hlb).trans (hc k hlt)
      have hsk := hsz ps[k] (List.getElem_mem hlt)
      obtain ⟨t, ht⟩ : ∃ t, t = ps[k] := ⟨_, rfl⟩
      rw [← ht] at hcx hsk
      have HT : Hid (t = ps[k]) := ht
      have hki : (k : Int) < (ps.length : Int) := by omega
      clear hc hsz ht
      go_wp2_with (go_at_call 117; refine (implPart_c t hsk _).mono ?_; rintro e w1 ⟨rfl, b1⟩)
      · have h1 : (!partB t) = true := by assumption
        go_ret
        exact ⟨ret_bool (verB_parts (parts_end hlt (by rw [← HT.out]; simpa using h1))).symm, hbr.trans (b1.mono hbr.size)⟩
      · have h1 : (!partB t) = false := by assumption
        go_roundw
        case rel => exact ⟨k + 1, by omega, by go_num, parts_step hlt hh (by rw [← HT.out]; simpa using h1), hbr.trans (b1.mono hbr.size)⟩
        case measure => simp [intOf]; omega
    · have he : k = ps.length := by omega
      subst he
      clear hc hsz
      go_wp2
      go_ret
      exact ⟨ret_bool (HV.out hh.out).symm, hbr⟩
end Go.Proofs.YtbolphjigjpmiabGreatDoor

/-! What a text falls into between the bytes c, and what the specification's Split answers: just that list; conditions: the text has at most 2 to the 20 bytes and a few more. -/
namespace Go.Proofs.YtbolphjigjpmiabGreatDoor
open Go.RowKit
set_option linter.unusedSimpArgs false
set_option linter.unusedVariables false

/-- The pieces behind place i, the piece at hand having begun at place b. -/
def splitGo (s : ByteArray) (c : Int) : Nat → Nat → Nat → List ByteArray
  | 0, _, b => [s.extract b s.size]
  | f + 1, i, b => if ((s.data[i]!).toNat : Int) = c then s.extract b i :: splitGo s c f (i + 1) (i + 1) else splitGo s c f (i + 1) b
def splitS (s : ByteArray) (c : Int) : List ByteArray := splitGo s c s.size 0 0

theorem splitGo_hit (s : ByteArray) (c : Int) (i b : Nat) (hi : i < s.size) (h : ((s.data[i]!).toNat : Int) = c) : splitGo s c (s.size - i) i b = s.extract b i :: splitGo s c (s.size - (i + 1)) (i + 1) (i + 1) := by
  obtain ⟨f, hf⟩ : ∃ f, s.size - i = f + 1 := ⟨s.size - i - 1, by omega⟩
  rw [hf, splitGo, if_pos h, show s.size - (i + 1) = f by omega]
theorem splitGo_miss (s : ByteArray) (c : Int) (i b : Nat) (hi : i < s.size) (h : ¬ ((s.data[i]!).toNat : Int) = c) : splitGo s c (s.size - i) i b = splitGo s c (s.size - (i + 1)) (i + 1) b := by
  obtain ⟨f, hf⟩ : ∃ f, s.size - i = f + 1 := ⟨s.size - i - 1, by omega⟩
  rw [hf, splitGo, if_neg h, show s.size - (i + 1) = f by omega]
theorem splitGo_end (s : ByteArray) (c : Int) (b : Nat) : splitGo s c (s.size - s.size) s.size b = [s.extract b s.size] := by
  rw [Nat.sub_self, splitGo]

theorem strs_append (xs ys : List ByteArray) : strsV xs ++ strsV ys = strsV (xs ++ ys) := by simp [strsV]

set_option maxHeartbeats 2000000 in
set_option maxRecDepth 100000 in
theorem specSplit_c (s : ByteArray) (c : Int) (w : World) (hs : s.size ≤ 1048576) :
    Calls Tryz.prog 127 #[.string s, .int .u8 c] w fun e w' => ∃ v, e = .returned v ∧ w'.ownsRow w.heap.size 9 1 v (splitS s c).length (strsV (splitS s c)) ∧ Below w.heap.size w w' := by
  obtain ⟨i0, hi, hz0, hz1, hz2⟩ := info_parts infoS
  have ho : (w.alloc (.cells #[] 9)).ownsRow w.heap.size 9 1 (.slice (some ⟨w.heap.size, 0, none⟩) 0 0) 0 [] := World.ownsRow_lit w #[] 0 (Nat.le_refl _) (by unfold maxLen; omega) rfl
  go_enter Tryz.func127, Tryz.ntmps127
  go_wp2
  go_loopw [5, 6, 7] (fun vo vb vi wr => ∃ (i b : Nat) (xs : List ByteArray), vi = .int .i64 (i : Int) ∧ vb = .int .i64 (b : Int) ∧ i ≤ s.size + 1 ∧ b ≤ i ∧ xs.length ≤ i ∧ wr.ownsRow w.heap.size 9 1 vo xs.length (strsV xs) ∧ Hid ((i ≤ s.size ∧ xs ++ splitGo s c (s.size - i) i b = splitS s c) ∨ (i = s.size + 1 ∧ xs = splitS s c)) ∧ Below w.heap.size w wr) (fun _ _ vi _ => s.size + 1 - (intOf vi).toNat)
  case atStart => exact ⟨0, 0, [], rfl, rfl, by omega, by omega, by simp, ho, .inl ⟨by omega, rfl⟩, (Below.refl _ _).alloc (Nat.le_refl _) _⟩
  case round =>
    obtain ⟨i, b, xs, rfl, rfl, hi1, hbi, hxl, hown, hh, hbr⟩ := hrel
    clear ho
    by_cases hle : i ≤ s.size
    · have hh1 : xs ++ splitGo s c (s.size - i) i b = splitS s c := by
        rcases hh.out with h | h
        · exact h.2
        · omega
      have HH : Hid (xs ++ splitGo s c (s.size - i) i b = splitS s c) := hh1
      have hlei : (i : Int) ≤ (s.size : Int) := by omega
      clear hh hh1
      by_cases heq : i = s.size
      · subst heq
        have heq' : ((s.size : Int) == (s.size : Int)) = true := by simp
        go_wp2_with (at_builtin; refine wpList_append_own _ rfl _ _ 46 rfl w.heap.size 9 i0 (.string ⟨#[]⟩) 1 16 Tryz.underlying46 hi hz0 hz1 hz2 rfl (by decide) _ xs.length (strsV xs) rfl (hown.alloc _) ⟨wr.heap.size, 0, none⟩ 1 1 (strsV [s.extract b s.size]) rfl rfl (cell_one_new _ _ _) (fun u hu => by simp [strsV] at hu; subst hu; rfl) (by unfold maxLen; omega) (by omega) (by have := hbr.size; simp; omega) ?_)
        intro v2 w2 o2 gr2 _
        rw [strs_append] at o2
        have hb2 : Below w.heap.size w w2 := Below.grown (hbr.alloc hbr.size _) gr2 (by have := hbr.size; simp; omega) (fun j hj => (hown.lt _ hj).1)
        have HT : Hid (xs ++ [s.extract b s.size] = splitS s c) := by have := HH.out; rw [splitGo_end] at this; exact this
        have hl2 : (xs ++ [s.extract b s.size]).length = xs.length + 1 := by simp
        rw [← hl2] at o2
        clear gr2 hown hbr hl2
        go_wp2
        go_roundw
        case rel => exact ⟨s.size + 1, s.size + 1, _, by go_num, by go_num, by omega, by omega, (by simp; omega), o2, .inr ⟨rfl, HT.out⟩, hb2⟩
        case measure => simp [intOf]
      · have hlt : i < s.size := by omega
        have heq' : ((i : Int) == (s.size : Int)) = false := by rw [beq_eq_false_iff_ne]; omega
        have hbang := byteBang s i hlt
        cases hc : (((s[i]).toNat : Int) == c) with
        | true =>
          have HT : Hid ((xs ++ [s.extract b i]) ++ splitGo s c (s.size - (i + 1)) (i + 1) (i + 1) = splitS s c) := by
            have := HH.out
            rw [splitGo_hit s c i b hlt (by rw [hbang]; simpa using hc)] at this
            show _ = _
            rw [List.append_assoc]; exact this
          clear hbang
          go_wp2_with (at_builtin; refine wpList_append_own _ rfl _ _ 46 rfl w.heap.size 9 i0 (.string ⟨#[]⟩) 1 16 Tryz.underlying46 hi hz0 hz1 hz2 rfl (by decide) _ xs.length (strsV xs) rfl (hown.alloc _) ⟨wr.heap.size, 0, none⟩ 1 1 (strsV [s.extract b i]) rfl rfl (cell_one_new _ _ _) (fun u hu => by simp [strsV] at hu; subst hu; rfl) (by unfold maxLen; omega) (by omega) (by have := hbr.size; simp; omega) ?_)
          intro v2 w2 o2 gr2 _
          rw [strs_append] at o2
          have hb2 : Below w.heap.size w w2 := Below.grown (hbr.alloc hbr.size _) gr2 (by have := hbr.size; simp; omega) (fun j hj => (hown.lt _ hj).1)
          have hl2 : (xs ++ [s.extract b i]).length = xs.length + 1 := by simp
          rw [← hl2] at o2
          clear gr2 hown hbr hl2
          go_wp2
          go_roundw
          case rel => exact ⟨i + 1, i + 1, _, by go_num, by go_num, by omega, by omega, (by simp; omega), o2, .inl ⟨by omega, HT.out⟩, hb2⟩
          case measure => simp [intOf]; omega
        | false =>
          have HT : Hid (xs ++ splitGo s c (s.size - (i + 1)) (i + 1) b = splitS s c) := by
            have := HH.out
            rw [splitGo_miss s c i b hlt (by rw [hbang]; simpa using hc)] at this
            exact this
          clear hbang
          go_wp2
          go_roundw
          case rel => exact ⟨i + 1, b, xs, by go_num, rfl, by omega, by omega, by omega, hown, .inl ⟨by omega, HT.out⟩, hbr⟩
          case measure => simp [intOf]; omega
    · have hlei : ¬ (i : Int) ≤ (s.size : Int) := by omega
      have e : xs = splitS s c := by
        rcases hh.out with h | h
        · omega
        · exact h.2
      go_wp2
      go_ret
      rw [← e]
      exact ⟨_, rfl, hown, hbr⟩
end Go.Proofs.YtbolphjigjpmiabGreatDoor

/-! What a text is as a version: the reader that goes over its bytes, word by word, and the text's pieces around its first hyphen tell the same; no condition. -/
namespace Go.Proofs.YtbolphjigjpmiabGreatDoor
open Go.RowKit
set_option linter.unusedSimpArgs false
set_option linter.unusedVariables false

theorem vext {a b : ByteArray} (h : a.data.toList = b.data.toList) : a = b := ByteArray.ext (Array.toList_inj.1 h)
theorem vextract (s : ByteArray) (a b : Nat) : (s.extract a b).data.toList = (s.data.toList.drop a).take (b - a) := Lib.extract_data s a b
theorem vlen (s : ByteArray) : s.data.toList.length = s.size := by rw [Array.length_toList]; rfl
theorem vsize (s : ByteArray) (a b : Nat) (h : a ≤ b) (hb : b ≤ s.size) : (s.extract a b).size = b - a := by
  rw [← vlen, vextract, List.length_take, List.length_drop, vlen]; omega
theorem vget (s : ByteArray) (a b i : Nat) (h : a + i < b) (hb : b ≤ s.size) : (s.extract a b).data[i]! = s.data[a + i]! := by
  have h1 : i < (s.extract a b).size := by rw [vsize s a b (by omega) hb]; omega
  have e1 : (s.extract a b).data.toList[i]? = s.data.toList[a + i]? := by
    rw [vextract, List.getElem?_take_of_lt (by omega), List.getElem?_drop]
  rw [Array.getElem?_toList, Array.getElem?_toList] at e1
  rw [getElem!_def, getElem!_def, e1]
theorem vsub (s : ByteArray) (a b c d : Nat) (h : a + d ≤ b) (hb : b ≤ s.size) : (s.extract a b).extract c d = s.extract (a + c) (a + d) := by
  apply vext
  rw [vextract, vextract, vextract, List.drop_take, List.drop_drop, List.take_take]
  congr 1
  omega

/-- The pieces of the text up to place hi, between the bytes 46, from place i on, the piece at hand having begun at place b. -/
def pieces (s : ByteArray) (hi : Nat) : Nat → Nat → Nat → List ByteArray
  | 0, _, b => [s.extract b hi]
  | f + 1, i, b => if ((s.data[i]!).toNat : Int) = 46 then s.extract b i :: pieces s hi f (i + 1) (i + 1) else pieces s hi f (i + 1) b

theorem pieces_split (s : ByteArray) (lo hi : Nat) (hl : lo ≤ hi) (hh : hi ≤ s.size) : ∀ (f i b : Nat), f = (hi - lo) - i → i ≤ hi - lo → b ≤ i → splitGo (s.extract lo hi) 46 f i b = pieces s hi f (lo + i) (lo + b)
  | 0, i, b, hf, hi', hb => by
    rw [splitGo, pieces, vsize s lo hi hl hh, vsub s lo hi b (hi - lo) (by omega) hh, show lo + (hi - lo) = hi by omega]
  | f + 1, i, b, hf, hi', hb => by
    rw [splitGo, pieces, vget s lo hi i (by omega) hh]
    by_cases h : ((s.data[lo + i]!).toNat : Int) = 46
    · rw [if_pos h, if_pos h, vsub s lo hi b i (by omega) hh, pieces_split s lo hi hl hh f (i + 1) (i + 1) (by omega) (by omega) (by omega)]
      rfl
    · rw [if_neg h, if_neg h, pieces_split s lo hi hl hh f (i + 1) b (by omega) (by omega) (by omega)]
      rfl
theorem split_pieces (s : ByteArray) (lo hi : Nat) (hl : lo ≤ hi) (hh : hi ≤ s.size) : splitS (s.extract lo hi) 46 = pieces s hi (hi - lo) lo lo := by
  have h := pieces_split s lo hi hl hh (hi - lo) 0 0 (by omega) (by omega) (by omega)
  rw [splitS, vsize s lo hi hl hh, h]; rfl

theorem pieces_head (s : ByteArray) (hi : Nat) : ∀ (f i b : Nat), f = hi - i → i ≤ hi → ∃ e rest, i ≤ e ∧ e ≤ hi ∧ pieces s hi f i b = s.extract b e :: rest
  | 0, i, b, hf, hi' => ⟨hi, [], by omega, by omega, rfl⟩
  | f + 1, i, b, hf, hi' => by
    rw [pieces]
    by_cases h : ((s.data[i]!).toNat : Int) = 46
    · rw [if_pos h]; exact ⟨i, _, by omega, by omega, rfl⟩
    · rw [if_neg h]
      obtain ⟨e, rest, h1, h2, h3⟩ := pieces_head s hi f (i + 1) b (by omega) (by omega)
      exact ⟨e, rest, by omega, h2, h3⟩
theorem pieces_pos (s : ByteArray) (hi f i b : Nat) (hf : f = hi - i) (h : i ≤ hi) : 1 ≤ (pieces s hi f i b).length := by
  obtain ⟨e, rest, _, _, h3⟩ := pieces_head s hi f i b hf h
  rw [h3]; simp

theorem piece_bad (p : Nat → Int → Bool) (s : ByteArray) (b e i : Nat) (hb : b ≤ i) (he : i < e) (hs : e ≤ s.size) (h : ∀ k, p k ((s.data[i]!).toNat : Int) = false) : allUpto p (s.extract b e) (s.extract b e).size = false := by
  have hz := vsize s b e (by omega) hs
  refine allUpto_cut p _ (i - b) ?_ _ (by omega)
  rw [vget s b e (i - b) (by omega) hs, show b + (i - b) = i by omega]
  exact h _

/-- A word that ends. -/
def endNs (ns : List Int) (inP : Bool) (t : ByteArray) : List Int := if inP then ns else ns ++ [numOut t 9999]
def endPs (ps : List ByteArray) (inP : Bool) (t : ByteArray) : List ByteArray := if inP then ps ++ [t] else ps
def endOk (ns : List Int) (ps : List ByteArray) (inP : Bool) (t : ByteArray) : Bool := if inP then decide (ps.length + 1 ≤ 3) && partB t else numGood t 9999 && decide (ns.length + 1 ≤ 3)

/-- The reader, from place i on. -/
def reads (s : ByteArray) : Nat → Nat → Nat → List Int → List ByteArray → Bool → Option (List Int × List ByteArray)
  | 0, i, b, ns, ps, inP => if endOk ns ps inP (s.extract b i) && decide (3 ≤ (endNs ns inP (s.extract b i)).length) then some (endNs ns inP (s.extract b i), endPs ps inP (s.extract b i)) else none
  | f + 1, i, b, ns, ps, inP =>
    if ((s.data[i]!).toNat : Int) = 46 then (if endOk ns ps inP (s.extract b i) then reads s f (i + 1) (i + 1) (endNs ns inP (s.extract b i)) (endPs ps inP (s.extract b i)) inP else none)
    else if ((s.data[i]!).toNat : Int) = 45 ∧ inP = false then (if endOk ns ps inP (s.extract b i) then reads s f (i + 1) (i + 1) (endNs ns inP (s.extract b i)) (endPs ps inP (s.extract b i)) true else none)
    else if preB ((s.data[i]!).toNat : Int) then reads s f (i + 1) b ns ps inP else none

theorem all_partB_bad {l : List ByteArray} {t : ByteArray} (h : partB t = false) : (t :: l).all partB = false := by simp [h]

theorem reads_pre (s : ByteArray) (ns : List Int) : ∀ (f i b : Nat) (ps : List ByteArray), f = s.size - i → i ≤ s.size → b ≤ i → reads s f i b ns ps true =
    if (pieces s s.size f i b).all partB && decide (ps.length + (pieces s s.size f i b).length ≤ 3) && decide (3 ≤ ns.length) then some (ns, ps ++ pieces s s.size f i b) else none
  | 0, i, b, ps, hf, hi, hb => by
    have : i = s.size := by omega
    subst this
    rw [reads, pieces]
    simp only [endOk, endNs, endPs, if_true, List.all_cons, List.all_nil, Bool.and_true, List.length_singleton]
    cases partB (s.extract b s.size) <;> simp [Bool.and_comm]
  | f + 1, i, b, ps, hf, hi, hb => by
    rw [reads, pieces]
    by_cases h : ((s.data[i]!).toNat : Int) = 46
    · rw [if_pos h, if_pos h]
      simp only [endOk, endNs, endPs, if_true]
      rw [reads_pre s ns f (i + 1) (i + 1) (ps ++ [s.extract b i]) (by omega) (by omega) (by omega)]
      have hp := pieces_pos s s.size f (i + 1) (i + 1) (by omega) (by omega)
      cases hx : partB (s.extract b i)
      · simp [hx]
      · by_cases hl : ps.length + 1 ≤ 3
        · simp only [hl, decide_true, Bool.and_self, if_true, List.all_cons, hx, Bool.true_and, List.length_append, List.length_cons, List.length_nil, List.append_assoc, List.cons_append, List.nil_append]
          have e : ps.length + (0 + 1) + (pieces s s.size f (i + 1) (i + 1)).length = ps.length + ((pieces s s.size f (i + 1) (i + 1)).length + 1) := by omega
          rw [e]
        · have h2 : ¬ ps.length + ((pieces s s.size f (i + 1) (i + 1)).length + 1) ≤ 3 := by omega
          simp [hl, h2]
    · rw [if_neg h, if_neg h, if_neg (by simp)]
      by_cases hc : preB ((s.data[i]!).toNat : Int) = true
      · rw [if_pos hc]
        exact reads_pre s ns f (i + 1) b ps (by omega) (by omega) (by omega)
      · rw [if_neg hc]
        obtain ⟨e, rest, h1, h2, h3⟩ := pieces_head s s.size f (i + 1) b (by omega) (by omega)
        rw [h3, all_partB_bad (partB_bad (piece_bad okPre s b e i hb (by omega) h2 (fun _ => by simpa [okPre] using hc)))]
        simp

theorem good_of_piece {t : ByteArray} (h : allUpto okDigit t t.size = false) : numGood t 9999 = false := by
  unfold numGood; rw [h]; simp

theorem digit_pre {c : Int} (h : preB c = false) : digitB c = false := by
  simp only [preB, Bool.or_eq_false_iff] at h
  exact h.1.2

theorem reads_num (s : ByteArray) (k : Nat) (hk : k ≤ s.size) (hd : k < s.size → ((s.data[k]!).toNat : Int) = 45) : ∀ (f i b : Nat) (ns : List Int), f = k - i → i ≤ k → b ≤ i → (∀ j, i ≤ j → j < k → ¬ ((s.data[j]!).toNat : Int) = 45) →
    reads s (s.size - i) i b ns [] false = if (pieces s k f i b).all (fun t => numGood t 9999) && decide (ns.length + (pieces s k f i b).length ≤ 3) then
      (if k < s.size then reads s (s.size - (k + 1)) (k + 1) (k + 1) (ns ++ (pieces s k f i b).map (fun t => numOut t 9999)) [] true
       else if 3 ≤ ns.length + (pieces s k f i b).length then some (ns ++ (pieces s k f i b).map (fun t => numOut t 9999), []) else none) else none
  | 0, i, b, ns, hf, hi, hb, hn => by
    have : i = k := by omega
    subst this
    rw [pieces]
    by_cases hlt : i < s.size
    · rw [show s.size - i = (s.size - (i + 1)) + 1 by omega, reads, if_neg (by have := hd hlt; omega), if_pos ⟨hd hlt, rfl⟩, if_pos hlt]
      simp [endOk, endNs, endPs]
    · have : i = s.size := by omega
      rw [show s.size - i = 0 by omega, reads, if_neg hlt]
      simp only [endOk, endNs, endPs, Bool.false_eq_true, if_false, List.all_cons, List.all_nil, Bool.and_true, List.length_singleton, List.map_cons, List.map_nil, List.length_append]
      cases numGood (s.extract b i) 9999
      · simp
      · by_cases h1 : ns.length + 1 ≤ 3 <;> by_cases h2 : 3 ≤ ns.length + 1 <;> simp [h1, h2]
  | f + 1, i, b, ns, hf, hi, hb, hn => by
    have hne := hn i (by omega) (by omega)
    rw [show s.size - i = (s.size - (i + 1)) + 1 by omega, reads, pieces]
    by_cases h : ((s.data[i]!).toNat : Int) = 46
    · rw [if_pos h, if_pos h]
      simp only [endOk, endNs, endPs, Bool.false_eq_true, if_false]
      rw [reads_num s k hk hd f (i + 1) (i + 1) (ns ++ [numOut (s.extract b i) 9999]) (by omega) (by omega) (by omega) (fun j h1 h2 => hn j (by omega) h2)]
      have hp := pieces_pos s k f (i + 1) (i + 1) (by omega) (by omega)
      cases hx : numGood (s.extract b i) 9999
      · simp [hx]
      · by_cases hl : ns.length + 1 ≤ 3
        · simp only [hl, decide_true, Bool.and_self, if_true, List.all_cons, hx, Bool.true_and, List.length_append, List.length_cons, List.length_nil, List.append_assoc, List.cons_append, List.nil_append, List.map_cons]
          have e : ns.length + (0 + 1) + (pieces s k f (i + 1) (i + 1)).length = ns.length + ((pieces s k f (i + 1) (i + 1)).length + 1) := by omega
          rw [e]
        · have h2 : ¬ ns.length + ((pieces s k f (i + 1) (i + 1)).length + 1) ≤ 3 := by omega
          simp [hl, h2]
    · rw [if_neg h, if_neg h, if_neg (fun h => hne h.1)]
      by_cases hc : preB ((s.data[i]!).toNat : Int) = true
      · rw [if_pos hc]
        exact reads_num s k hk hd f (i + 1) b ns (by omega) (by omega) (by omega) (fun j h1 h2 => hn j (by omega) h2)
      · rw [if_neg hc]
        obtain ⟨e, rest, h1, h2, h3⟩ := pieces_head s k f (i + 1) b (by omega) (by omega)
        have hbad : numGood (s.extract b e) 9999 = false := good_of_piece (piece_bad okDigit s b e i hb (by omega) (by omega) (fun _ => digit_pre (by simpa using hc)))
        rw [h3]
        simp [hbad]

/-- What the specification takes of a text, k the place of its first hyphen, or its length. -/
def numsAt (s : ByteArray) (k : Nat) : List ByteArray := pieces s k k 0 0
def presAt (s : ByteArray) (k : Nat) : List ByteArray := if k < s.size then pieces s s.size (s.size - (k + 1)) (k + 1) (k + 1) else []
def goodAt (s : ByteArray) (k : Nat) : Bool := (numsAt s k).all (fun t => numGood t 9999) && decide ((numsAt s k).length = 3) && (presAt s k).all partB && decide ((presAt s k).length ≤ 3)

theorem reads_all (s : ByteArray) (k : Nat) (hk : k ≤ s.size) (hd : k < s.size → ((s.data[k]!).toNat : Int) = 45) (hn : ∀ j, j < k → ¬ ((s.data[j]!).toNat : Int) = 45) :
    reads s s.size 0 0 [] [] false = if goodAt s k then some ((numsAt s k).map (fun t => numOut t 9999), presAt s k) else none := by
  have h := reads_num s k hk hd k 0 0 [] (by omega) (by omega) (by omega) (fun j _ h => hn j h)
  rw [Nat.sub_zero] at h
  rw [h]
  unfold goodAt
  rw [show pieces s k k 0 0 = numsAt s k from rfl]
  by_cases hlt : k < s.size
  · rw [if_pos hlt, reads_pre s _ (s.size - (k + 1)) (k + 1) (k + 1) [] (by omega) (by omega) (by omega)]
    rw [show pieces s s.size (s.size - (k + 1)) (k + 1) (k + 1) = presAt s k by unfold presAt; rw [if_pos hlt]]
    simp only [List.nil_append, List.length_nil, Nat.zero_add, List.length_map]
    by_cases h3 : (numsAt s k).length = 3
    · simp only [h3, Nat.le_refl, decide_true, Bool.and_true]
      cases (numsAt s k).all (fun t => numGood t 9999)
      · simp
      · simp
    · by_cases h4 : (numsAt s k).length ≤ 3
      · have h5 : ¬ 3 ≤ (numsAt s k).length := by omega
        simp [h3, h5]
      · simp [h3, h4]
  · rw [if_neg hlt]
    have hp : presAt s k = [] := by unfold presAt; rw [if_neg hlt]
    rw [hp]
    simp only [List.nil_append, List.length_nil, Nat.zero_add, List.all_nil, Bool.and_true]
    by_cases h3 : (numsAt s k).length = 3
    · simp [h3]
    · by_cases h4 : (numsAt s k).length ≤ 3
      · have h5 : ¬ 3 ≤ (numsAt s k).length := by omega
        simp [h3, h5]
      · simp [h3, h4]
#print axioms reads_all
end Go.Proofs.YtbolphjigjpmiabGreatDoor
