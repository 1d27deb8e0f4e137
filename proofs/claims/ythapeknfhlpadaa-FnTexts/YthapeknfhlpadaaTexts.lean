/-
  For every list of bytes the law FnTexts answers true and leaves its argument as it was: drawn texts come back of their bytes, and names and plain texts are told as the specification tells them; no condition.
-/
import Derived.Test.YthapeknfhlpadaaRows
import Derived.WalkKit
import Derived.Test.YthapeknfhlpadaaGet
import Derived.Test.YthapeknfhlpadaaPut
import Derived.Test.YthapeknfhlpadaaDraw1
import Derived.ProofKit
import Derived.OpenShut
import Derived.ShutString
import Derived.ChangeOld
import Derived.Below
namespace Go.Proofs.Ythapeknfhlpadaa.fnTexts
open Go.ChangeShapes Go.WideShapes Go.ChangeAt Go.RowKit
open Go.ChangeMaps (open_string shut_string)
set_option linter.unusedVariables false

theorem own : ownKnob Try.prog.godebug = none := by kernel_rfl
theorem laidOut : laidOutB Try.prog = true := by kernel_rfl

/-- WHAT THE WALK IS TOLD OF A SLICE OF INTEGERS THAT CAME IN: it is nil; or it leads to a row of 'cap' cells, the numbers 'zs' (the first 'len' are its elements, the rest its spare room), each fitting its kind. -/
def IsRow (k : IntKind) (w : World) (a : Option Addr) (len cap : Nat) (zs : List Int) : Prop :=
  (a = none ∧ len = 0 ∧ cap = 0 ∧ zs = []) ∨
  ∃ x, a = some x ∧ len ≤ cap ∧ cap ≤ maxLen ∧ zs.length = cap ∧ (∀ i, i < zs.length → w.cell? (x.add i) = some (.int k (zs.getD i 0))) ∧ ∀ n ∈ zs, (Lit.int k n).wf = true

theorem reads_of_row {w : World} {a : Option Addr} {len cap : Nat} {zs : List Int} (h : IsRow .u8 w a len cap zs) :
    ∃ ys : List Int, ys.length = len ∧ Reads w (.slice a len cap) (bytesV ys) ∧ ∀ z ∈ ys, 0 ≤ z ∧ z ≤ 255 := by
  rcases h with ⟨rfl, rfl, rfl, rfl⟩ | ⟨x, rfl, hl, hm, hz, hcell, hwz⟩
  · exact ⟨[], rfl, ⟨none, 0, rfl, Nat.le_refl _, .inl rfl⟩, by simp⟩
  · refine ⟨zs.take len, by simp; omega, ?_, fun z hz' => ?_⟩
    · by_cases h0 : len = 0
      · subst h0
        exact ⟨some x, cap, by simp [bytesV], by simp [bytesV], .inl (by simp [bytesV])⟩
      · obtain ⟨b, off, spot⟩ := x
        have hc0 := hcell 0 (by omega)
        have hspot : spot = none := by simpa [Addr.add] using World.cell?_spot hc0
        subst hspot
        have hlen : (bytesV (zs.take len)).length = len := by simp; omega
        refine ⟨some ⟨b, off, none⟩, cap, by rw [hlen], by omega, .inr ⟨b, off, rfl, World.block_lt_of_cell? w _ hc0, fun i hi => ?_⟩⟩
        have hi' : i < zs.length := by omega
        have hc := hcell i hi'
        rw [show ((⟨b, off, none⟩ : Addr).add i) = ⟨b, off + i, none⟩ by unfold Addr.add; split <;> simp_all] at hc
        rw [hc]
        simp [bytesV, List.getD_eq_getElem?_getD, hi']
    · have := hwz z (List.mem_of_mem_take hz')
      simpa [Lit.wf, IntKind.min, IntKind.max, IntKind.signed, IntKind.bits] using this

theorem big_c (v : Value) (zs : List Int) (w : World) (hr : Reads w v (bytesV zs)) (hn : ¬ (1048576 : Int) < (zs.length : Int)) :
    Calls Try.prog 12 #[v] w fun e w' => e = .returned (.bool false) ∧ w = w' := by
  obtain ⟨a, cap, rfl, _, _⟩ := reads_bytes hr
  clear hr
  go_enter Try.func12, Try.ntmps12
  go_wp2
  go_ret
  exact ⟨by simp, rfl⟩
theorem big_t (v : Value) (zs : List Int) (w : World) (hr : Reads w v (bytesV zs)) (hn : (1048576 : Int) < (zs.length : Int)) :
    Calls Try.prog 12 #[v] w fun e w' => e = .returned (.bool true) ∧ w = w' := by
  obtain ⟨a, cap, rfl, _, _⟩ := reads_bytes hr
  clear hr
  go_enter Try.func12, Try.ntmps12
  go_wp2
  go_ret
  exact ⟨by simp, rfl⟩

theorem conv_owns {w : World} {base : Nat} {v : Value} {n : Nat} {zs : List Int} (h : w.ownsRow base 5 1 v n (bytesV zs)) : (convert 22 9 v).run Try.prog w = .ok (.string (strOfNums zs)) w := by
  have hl : zs.length = n := by simpa using h.1
  rcases h.2 with ⟨rfl, hn⟩ | ⟨g, cap, cur, rfl, hb, hg, hn, hcap, hsz, htake⟩
  · obtain rfl : zs = [] := List.eq_nil_of_length_eq_zero (by omega)
    rw [run_convert_bytes_nil w 22 5 Try.underlying22 Try.underlying5 0 0 9 Try.underlying9]
    rfl
  · refine run_convert_bytes_arg w 22 5 Try.underlying22 Try.underlying5 g 0 n cap zs hl (fun i hi => ?_) 9 Try.underlying9
    rw [Nat.zero_add, h.cellAt i (by omega)]
    simp [bytesV, List.getD_eq_getElem?_getD, show i < zs.length by omega]

theorem owns_form {w : World} {base : Nat} {v : Value} {n : Nat} {xs : List Value} (h : w.ownsRow base 5 1 v n xs) (hn : 0 < n) : ∃ g cap, v = .slice (some ⟨g, 0, none⟩) n cap ∧ n ≤ cap ∧ g < w.heap.size ∧ xs.length = n ∧ ∀ j (h : j < xs.length), w.cell? ⟨g, j, none⟩ = some xs[j] := by
  have h0 := h
  have hl : xs.length = n := by simpa using h.1
  rcases h.2 with ⟨rfl, hn0⟩ | ⟨g, cap, cur, rfl, hb, hg, hnc, hcap, hsz, htake⟩
  · omega
  · refine ⟨g, cap, rfl, hnc, (Array.getElem?_eq_some_iff.1 hg).1, hl, fun j hj => ?_⟩
    rw [h0.cellAt j (by omega)]
    simp [hj]

theorem put_at0 (bs : List Int) (s : ByteArray) (h : s.size ≤ 60000) : putB bs s = bs ++ ((s.size : Int) / 256 :: (s.size : Int) % 256 :: bytesOf s) := by
  simp [putB, h, sizeB]
theorem put_lenAt (bs : List Int) (s : ByteArray) (m : Nat) (h : s.size ≤ 60000) (hm : bs.length + 2 ≤ m) : lenAt ((putB bs s).take m) bs.length = s.size := by
  rw [lenAt, put_at0 bs s h]
  have e0 : ((bs ++ ((s.size : Int) / 256 :: (s.size : Int) % 256 :: bytesOf s)).take m).getD bs.length 0 = (s.size : Int) / 256 := by
    rw [List.getD_eq_getElem?_getD, List.getElem?_take, if_pos (by omega)]; simp
  have e1 : ((bs ++ ((s.size : Int) / 256 :: (s.size : Int) % 256 :: bytesOf s)).take m).getD (bs.length + 1) 0 = (s.size : Int) % 256 := by
    rw [List.getD_eq_getElem?_getD, List.getElem?_take, if_pos (by omega), List.getElem?_append_right (by omega), show bs.length + 1 - bs.length = 1 by omega]; simp
  rw [e0, e1]
  omega
theorem put_length (bs : List Int) (s : ByteArray) (h : s.size ≤ 60000) : (putB bs s).length = bs.length + 2 + s.size := by
  rw [put_at0 bs s h]; simp; omega
theorem str_bytes (s : ByteArray) : strOfNums (bytesOf s) = s := by
  apply ByteArray.ext
  apply Array.toList_inj.1
  rw [strOfNums_data, bytesOf, List.map_map]
  conv => rhs; rw [← List.map_id s.data.toList]
  apply List.map_congr_left
  intro x _
  simp
theorem get_put (bs : List Int) (s : ByteArray) (h : s.size ≤ 60000) : getGood (putB bs s) bs.length = true ∧ getS (putB bs s) bs.length = s ∧ getNext (putB bs s) bs.length = ((putB bs s).length : Int) := by
  have hl := put_length bs s h
  have hlen : lenAt (putB bs s) bs.length = s.size := by
    have := put_lenAt bs s (putB bs s).length h (by omega)
    rwa [List.take_length] at this
  have hg : getGood (putB bs s) bs.length = true := by
    rw [good_iff (by omega), hlen]; simp; omega
  refine ⟨hg, ?_, ?_⟩
  · rw [getS, if_pos hg]
    have e : ((bs.length : Int)).toNat = bs.length := by omega
    rw [e, hlen, put_at0 bs s h]
    have e2 : (bs ++ ((s.size : Int) / 256 :: (s.size : Int) % 256 :: bytesOf s)).drop (bs.length + 2) = bytesOf s := by
      rw [List.drop_append]; simp
    rw [e2, List.take_of_length_le (by simp), str_bytes]
  · rw [getNext, if_pos hg]
    have e : ((bs.length : Int)).toNat = bs.length := by omega
    rw [e, hlen, hl]; omega
theorem get_cut (bs : List Int) (s : ByteArray) (h : s.size ≤ 60000) : getGood ((putB bs s).take ((putB bs s).length - 1)) bs.length = false := by
  have hl := put_length bs s h
  by_cases h0 : s.size = 0
  · have : decide ((bs.length : Int) + 2 ≤ (((putB bs s).take ((putB bs s).length - 1)).length : Int)) = false := by
      simp only [List.length_take, decide_eq_false_iff_not]; omega
    rw [getGood, this]; simp
  · rw [good_iff (by simp only [List.length_take]; omega), put_lenAt bs s _ h (by omega)]
    have : decide (bs.length + 2 + s.size ≤ ((putB bs s).take ((putB bs s).length - 1)).length) = false := by
      simp only [List.length_take, decide_eq_false_iff_not]; omega
    rw [this]; simp
theorem put_bytes (bs : List Int) (s : ByteArray) (hz : ∀ z ∈ bs, 0 ≤ z ∧ z ≤ 255) : ∀ z ∈ putB bs s, 0 ≤ z ∧ z ≤ 255 := by
  intro z h
  unfold putB at h
  split at h
  · rcases List.mem_append.1 h with h | h
    · rcases List.mem_append.1 h with h | h
      · exact hz z h
      · simp [sizeB] at h; omega
    · obtain ⟨b, _, rfl⟩ := List.mem_map.1 h
      exact ⟨byte0 b, byte255 b⟩
  · exact hz z h

theorem owns_some {w : World} {base : Nat} {v : Value} {n : Nat} {xs : List Value} (h : w.ownsRow base 5 1 v n xs) (hnn : v ≠ .slice none 0 0) : ∃ g cap, v = .slice (some ⟨g, 0, none⟩) n cap := by
  rcases h.2 with ⟨rfl, hn0⟩ | ⟨g, cap, cur, rfl, hb, hg, hnc, hcap, hsz, htake⟩
  · exact absurd rfl hnn
  · exact ⟨g, cap, rfl⟩
theorem drawPut_f (v : Value) (zs : List Int) (w : World) (hr : Reads w v (bytesV zs)) (hn : zs.length ≤ 1048576) (hz : ∀ z ∈ zs, 0 ≤ z ∧ z ≤ 255) :
    Calls Try.prog 13 #[v] w fun e w' => ∃ (gu cu : Nat) (bs : List Int) (s : ByteArray), bs.length ≤ 4 ∧ (∀ z ∈ bs, 0 ≤ z ∧ z ≤ 255) ∧ s.size ≤ 60001 ∧ e = .returned (.tuple #[.slice (some ⟨gu, 0, none⟩) bs.length cu, .string s]) ∧ w'.ownsRow w.heap.size 5 1 (.slice (some ⟨gu, 0, none⟩) bs.length cu) bs.length (bytesV bs) ∧ Below w.heap.size w w' :=
  (drawPut_c v zs w hr hn hz).mono fun e w' ⟨u, bs, s, h1, h2, h3, h4, h5, h6, h7⟩ => by
    obtain ⟨g, cap, rfl⟩ := owns_some h6 h3
    exact ⟨g, cap, bs, s, h1, h2, h4, h5, h6, h7⟩
theorem implPut_f (v : Value) (b0 : Nat) (zs : List Int) (s : ByteArray) (w : World) (hv : w.ownsRow b0 5 1 v zs.length (bytesV zs)) (hnn : v ≠ .slice none 0 0) (hn : zs.length ≤ 35184372088832) (hs : s.size ≤ 60000) :
    Calls Try.prog 14 #[v, .string s] w fun e w' => ∃ gp cp, (putB zs s).length ≤ cp ∧ gp < w'.heap.size ∧ e = .returned (.slice (some ⟨gp, 0, none⟩) (putB zs s).length cp) ∧ (∀ j (h : j < (bytesV (putB zs s)).length), w'.cell? ⟨gp, j, none⟩ = some (bytesV (putB zs s))[j]) ∧ Below w.heap.size w w' :=
  (implPut_c v b0 zs s w hv hnn hn).mono fun e w' ⟨u, h1, h2, h3⟩ => by
    obtain ⟨g, cap, rfl, hc, hlt, hl, hcell⟩ := owns_form h2 (by rw [put_length zs s hs]; omega)
    exact ⟨g, cap, hc, hlt, h1, hcell, h3⟩
theorem reads_cut {w : World} {gp cp m : Nat} {ps : List Int} (hm : m ≤ ps.length) (hcp : ps.length ≤ cp) (hlt : gp < w.heap.size) (hc : ∀ j (h : j < (bytesV ps).length), w.cell? ⟨gp, j, none⟩ = some (bytesV ps)[j]) : Reads w (.slice (some ⟨gp, 0, none⟩) m cp) (bytesV (ps.take m)) := by
  have hl : (bytesV (ps.take m)).length = m := by simp; omega
  refine ⟨some ⟨gp, 0, none⟩, cp, by rw [hl], by omega, .inr ⟨gp, 0, rfl, hlt, fun i hi => ?_⟩⟩
  rw [Nat.zero_add, hc i (by simp; omega)]
  simp [bytesV]

/-! ### STEP 1: THE WALK: the Go text returns true, AND WRITES NOTHING THAT WAS THERE: 'Below w.heap.size w w'' (Derived/Below.lean: '.refl', '.alloc', '.drew', '.setCell' at a new block, '.trans'). Open each 'IsRow' by 'rcases' AHEAD of 'go_enter'; part every test ahead of the walk. -/
set_option maxHeartbeats 4000000 in
set_option maxRecDepth 100000 in
theorem walk (a0 : Option Addr) (len0 cap0 : Nat) (z0 : List Int) (w : World) (w0 : IsRow .u8 w a0 len0 cap0 z0) :
    Calls Try.prog 3 #[.slice a0 len0 cap0] w fun e w' => e = .returned (.bool true) ∧ Below w.heap.size w w' := by
  obtain ⟨zs, hl, hr, hz⟩ := reads_of_row w0
  subst hl
  clear w0
  by_cases hb : (1048576 : Int) < (zs.length : Int)
  · go_enter Try.func3, Try.ntmps3
    go_wp2_with (go_at_call 12; refine (big_t _ zs _ hr hb).mono ?_; rintro e w1 ⟨rfl, rfl⟩)
    go_ret
    exact ⟨rfl, Below.refl _ _⟩
  have hn : zs.length ≤ 1048576 := by omega
  go_enter Try.func3, Try.ntmps3
  go_wp2_with (first
    | (go_at_call 12; refine (big_c _ zs _ hr hb).mono ?_; rintro e w1 ⟨rfl, rfl⟩)
    | (go_at_call 13; refine (drawPut_f _ zs _ hr hn hz).mono ?_; rintro e w1 ⟨gu, cu, bs, s, hbl, hbz, hs, rfl, o1, b1⟩))
  by_cases hbig : s.size ≤ 60000
  · have h6 : ¬ (60000 : Int) < (s.size : Int) := by omega
    obtain ⟨p1, p2, p3⟩ := get_put bs s hbig
    have p4 := get_cut bs s hbig
    have hpl := put_length bs s hbig
    have hpz := put_bytes bs s hbz
    refine (implPut_f _ _ bs s _ o1 (by simp) (by omega) hbig).mono ?_
    rintro e w2 ⟨gp, cp, hcp, hgp, rfl, hcP, b2⟩
    have c2 := b1.trans (b2.mono b1.size)
    obtain ⟨ps, hps⟩ : ∃ ps, ps = putB bs s := ⟨_, rfl⟩
    rw [← hps] at p1 p2 p3 p4 hpl hpz hcp hcP ⊢
    have HPL : Hid (ps.length = bs.length + 2 + s.size) := hpl
    have hp2 : 2 ≤ ps.length := by omega
    have hp7 : ps.length ≤ 70000 := by omega
    clear o1 hps hpl
    go_wp2_with (first
      | (go_at_call 15; refine (drawName_c _ zs _ (hr.below c2) hn hz).mono ?_; rintro e w3 ⟨t3, ht3, rfl, b3⟩; have c3 := c2.trans (b3.mono c2.size))
      | (go_at_call 16; refine (drawPlain_c _ zs _ (hr.below c3) hn hz).mono ?_; rintro e w4 ⟨t4, m4, ht4, rfl, b4⟩; have c4 := c3.trans (b4.mono c3.size)
         have hgp4 : gp < w4.heap.size := by have h1 := b3.size; have h2 := b4.size; omega
         have hcP4 : ∀ j (h : j < (bytesV ps).length), w4.cell? ⟨gp, j, none⟩ = some (bytesV ps)[j] := fun j h => (b4.cell (p := ⟨gp, j, none⟩) (by have h1 := b3.size; show gp < _; omega)).trans ((b3.cell (p := ⟨gp, j, none⟩) hgp).trans (hcP j h))
         have hR4 := reads_cut (m := ps.length) (Nat.le_refl _) hcp hgp4 hcP4
         rw [List.take_length] at hR4)
      | (go_at_call 21; refine (implGet_c _ ps _ _ hR4 (by omega) hpz).mono ?_; rintro e w5 ⟨rfl, b5⟩
         have c5 := c4.trans (b5.mono c4.size)
         have hgp5 : gp < w5.heap.size := Nat.lt_of_lt_of_le hgp4 b5.size
         have hR5 := reads_cut (m := ps.length - 1) (by omega) hcp hgp5 (fun j h => (b5.cell (p := ⟨gp, j, none⟩) hgp4).trans (hcP4 j h))
         clear hR4 hcP4)
      | (go_at_call 17; refine (implName_c _ (by unfold maxLen; omega) _).mono ?_; rintro e w5 ⟨rfl, rfl⟩)
      | (go_at_call 18; refine (specName_c _ (by unfold maxLen; omega) _).mono ?_; rintro e w5 ⟨rfl, rfl⟩)
      | (go_at_call 19; refine (implPlain_c _ _ (by unfold maxLen; omega) _).mono ?_; rintro e w5 ⟨rfl, rfl⟩)
      | (go_at_call 20; refine (specPlain_c _ _ (by unfold maxLen; omega) _).mono ?_; rintro e w5 ⟨rfl, rfl⟩))
    refine (implGet_c _ (ps.take (ps.length - 1)) _ _ hR5 (by simp only [List.length_take]; omega) (fun z hz => hpz z (List.mem_of_mem_take hz))).mono ?_
    rintro e w6 ⟨rfl, b6⟩
    have c6 := c5.trans (b6.mono c5.size)
    go_wp2
    go_ret
    exact ⟨by simp, c6⟩
  · have h6 : (60000 : Int) < (s.size : Int) := by omega
    have hput : putB bs s = bs := if_neg hbig
    refine (implPut_c _ _ bs s _ o1 (by simp) (by omega)).mono ?_
    rintro e w2 ⟨vP, rfl, oP, b2⟩
    rw [hput] at oP
    have c2 := b1.trans (b2.mono b1.size)
    have o12 := owns_of_below o1 b2
    clear o1
    go_wp2_with (first
      | (go_at_call 15; refine (drawName_c _ zs _ (hr.below c2) hn hz).mono ?_; rintro e w3 ⟨t3, ht3, rfl, b3⟩; have c3 := c2.trans (b3.mono c2.size))
      | (go_at_call 16; refine (drawPlain_c _ zs _ (hr.below c3) hn hz).mono ?_; rintro e w4 ⟨t4, m4, ht4, rfl, b4⟩; have c4 := c3.trans (b4.mono c3.size)
         have hcv1 := conv_owns (owns_of_below (owns_of_below oP b3) b4)
         have hcv2 := conv_owns (owns_of_below (owns_of_below o12 b3) b4))
      | (go_at_call 17; refine (implName_c _ (by unfold maxLen; omega) _).mono ?_; rintro e w5 ⟨rfl, rfl⟩)
      | (go_at_call 18; refine (specName_c _ (by unfold maxLen; omega) _).mono ?_; rintro e w5 ⟨rfl, rfl⟩)
      | (go_at_call 19; refine (implPlain_c _ _ (by unfold maxLen; omega) _).mono ?_; rintro e w5 ⟨rfl, rfl⟩)
      | (go_at_call 20; refine (specPlain_c _ _ (by unfold maxLen; omega) _).mono ?_; rintro e w5 ⟨rfl, rfl⟩))
    go_ret
    exact ⟨rfl, c4⟩

/-! ### THE ROW's STEP: WRITTEN OUT: LEAVE IT -/
set_option maxRecDepth 100000 in
theorem lifted (os : Os) (started : os.Started) (H : Type) (enc : TypeId × Value → H) :
    ReturnsInHanded {} Try.checked os 3 .any (Rows.fnTextsSpec.pre6 enc Try.prog Try.f3 Rows.fnTextsRow.domain false) (Rows.fnTextsSpec.post enc Try.prog Try.f3 false true false false) := by
  refine returnsInHanded_of_change (C := Try.checked) own started (by kernel_rfl) Try.func3
    (ChangeSpec.witness6 (enc := enc) (C := Try.checked) false ⟨#[], #[.slice none 0 0], []⟩ 8 (by kernel_rfl) (by kernel_rfl) (by kernel_rfl) (by kernel_rfl)) ?_
  intro W base args ds gs before hval0 hW hcnd _
  have hval : ∀ (j : Nat) t v, Try.f3.params[j]? = some t → args[j]? = some v → Value.okWide Try.prog W .any base t v := hval0
  have hW' := hW
  obtain ⟨p, q, hA0, hV, rfl, hfz, hnd⟩ := hW
  have hA : DataW.TrodAll enc Try.prog W 0 (fun _ => true) true Try.f3.params.toList args.toList ds p := hA0
  rw [Try.params3] at hA hval
  obtain ⟨v0, vs0, d0, ds0, p0, q0, hargs, rfl, rfl, h0, r0⟩ := trodAll_cons hA
  obtain ⟨rfl, rfl, rfl⟩ := trodAll_nil r0
  obtain rfl : args = #[v0] := by cases args; simp_all
  obtain ⟨rfl, rfl⟩ := trodVars_none hV
  obtain ⟨a0, len0, cap0, rfl⟩ := okWide_slice Try.underlying22 (hval 0 22 v0 rfl rfl)
  have k0 := h0
  have lt0 : ∀ x ∈ p0, x.block < W.heap.size := by obtain ⟨m, hm⟩ := k0; exact DataW.trod_lt m _ _ _ hm
  obtain ⟨z0, w0⟩ : ∃ zs, IsRow .u8 W a0 len0 cap0 zs := by
    obtain ⟨fuel, hf⟩ := h0
    rcases open_ints Try.underlying22 Try.underlying5 (by kernel_rfl) hf with ⟨hcs, _⟩ | ⟨x, l, c, zs, hcs, _, hl, hm, hz, _, hcell, hwz⟩
    · simp [Value.cells] at hcs
      obtain ⟨rfl, rfl, rfl⟩ := hcs
      exact ⟨[], .inl ⟨rfl, rfl, rfl, rfl⟩⟩
    · simp [Value.cells] at hcs
      obtain ⟨rfl, rfl, rfl⟩ := hcs
      exact ⟨zs, .inr ⟨_, rfl, hl, hm, by simpa using hz, hcell, hwz⟩⟩
  clear hA0 hval0
  refine (walk a0 len0 cap0 z0 W w0).mono fun e W' ⟨he, bel⟩ => ?_
  subst he
  exact ⟨_, rfl, _, _, _, [], _, [], hW', trodAll_mk1 (shut_bool Try.underlying4 _), (trodAll_cons_mk (Below.trod laidOut (by kernel_rfl) (of_decide_eq_true (by kernel_rfl)) k0 bel lt0) trodAll_mk0), rfl, bel.frame _, fun h => by cases h⟩

theorem over : Rows.fnTextsRow.holds Try.pinned (OpenSpec.ofChange Rows.fnTextsSpec) :=
  OpenClaim.holds_of_wide 3 Try.f3 rfl rfl rfl rfl rfl rfl rfl ⟨rfl, rfl, rfl, rfl, rfl⟩ rfl rfl rfl rfl rfl (by kernel_rfl) Try.func3 (by kernel_rfl)
    (of_decide_eq_true (by kernel_rfl)) (by unfold Func.isWrapper; first | (rw [if_pos (by decide +kernel)]; kernel_rfl) | (rw [if_neg (by decide +kernel)]; exact ⟨rfl, rfl⟩))
    (fun os started H enc _ => lifted os started H enc)

theorem proved : Rows.FnTextsSaid := over
#print axioms proved
end Go.Proofs.Ythapeknfhlpadaa.fnTexts
namespace Go.Proofs.Ythapeknfhlpadaa
theorem fnTexts_holds : Rows.FnTextsSaid := fnTexts.proved
end Go.Proofs.Ythapeknfhlpadaa
