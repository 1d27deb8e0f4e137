/-
  What the program's Picked answers: those files, in order, of which one pattern takes the path, in memory of its own; contracts for the walks; conditions: the lists lie in memory, their texts have at most 2 to the 20 bytes.
-/
import Derived.Test.YtbkmjbjiagkjmaaGlK
import Derived.Deep.Cut
namespace Go.Proofs.Ytbkmjbjiagkjmaa
open Go.RowKit
set_option linter.unusedSimpArgs false
set_option linter.unusedVariables false

def anyM (gs : List ByteArray) (p : ByteArray) : Bool := gs.any fun g => matchB g p
def pickF (fs : List FileD) (gs : List ByteArray) : List FileD := fs.filter fun f => anyM gs f.p

set_option maxHeartbeats 1000000 in
set_option maxRecDepth 100000 in
theorem pickFn_c (g : ByteArray) (B : Nat) (p t : ByteArray) (w : World) (hF : w.heap[B]? = some (.cells #[.string p, .string t] 26 (0, 0))) (hg : g.size ≤ 1048576) (hp : p.size ≤ 1048576) :
    Calls Try.prog 80 #[.string g, .pointer (some ⟨B, 0, none⟩)] w fun e w' => e = .returned (.bool (matchB g p)) ∧ Below w.heap.size w w' := by
  have HA : Hid (Calls Try.prog 36 #[.string g, .string p] w fun e w' => e = .returned (.bool (matchB g p)) ∧ Below w.heap.size w w') := implMatches_c g p w hg hp
  have x0 : w.cell? ⟨B, 0, none⟩ = some (.string p) := by rw [vblk_cell hF]; rfl
  clear hF
  go_enter Try.func80, Try.ntmps80
  go_wp2_with (go_at_call 36; refine HA.out.mono ?_; rintro e w1 ⟨rfl, b1⟩)
  go_ret
  exact ⟨rfl, b1⟩

theorem anyM_take (gs : List ByteArray) (p : ByteArray) (k : Nat) (h : k < gs.length) : anyM (gs.take (k + 1)) p = (anyM (gs.take k) p || matchB gs[k] p) := by
  unfold anyM
  rw [List.take_succ_eq_append_getElem h, List.any_append]
  simp
theorem anyM_at (gs : List ByteArray) (p : ByteArray) (k : Nat) (h : k < gs.length) (hm : matchB gs[k] p = true) : anyM gs p = true := by
  unfold anyM
  rw [List.any_eq_true]
  exact ⟨gs[k], List.getElem_mem h, hm⟩

set_option maxHeartbeats 1000000 in
set_option maxRecDepth 100000 in
theorem indexPick_c (v : Value) (gs : List ByteArray) (B : Nat) (p t : ByteArray) (w : World) (hv : Reads w v (strsV gs)) (hgl : gs.length ≤ 1048576) (hg : ∀ g ∈ gs, g.size ≤ 1048576) (hp : p.size ≤ 1048576) (hF : w.heap[B]? = some (.cells #[.string p, .string t] 26 (0, 0))) :
    Calls Try.prog 111 #[v, .func (.func 80) #[] #[.pointer (some ⟨B, 0, none⟩)]] w fun e w' => ∃ r : Int, e = .returned (.int .i64 r) ∧ decide (r ≥ 0) = anyM gs p ∧ Below w.heap.size w w' := by
  obtain ⟨a, cap, rfl, hc, ha⟩ := reads_strs hv
  have hBlt := (Array.getElem?_eq_some_iff.1 hF).1
  go_enter Try.func111, Try.ntmps111
  go_wp2_with fail
  go_loopw [8] (fun vi wr => ∃ k : Nat, k ≤ gs.length ∧ vi = .int .i64 (k : Int) ∧ Hid (anyM (gs.take k) p = false) ∧ Below w.heap.size w wr) (fun vi _ => gs.length - (intOf vi).toNat)
  case atStart => exact ⟨0, Nat.zero_le _, rfl, (by show _ = _; simp [anyM]), Below.refl _ _⟩
  case round =>
    obtain ⟨k, hk, rfl, hany, hbr⟩ := hrel
    by_cases hlt' : k < gs.length
    · rcases ha with rfl | ⟨b, off, rfl, hlt, ha⟩
      · simp at hlt'
      have e0 := ha k hlt'
      rw [← hbr.cell (by simpa using hlt)] at e0
      have hgk := hg _ (List.getElem_mem hlt')
      have HT : Hid (matchB gs[k] p = true → anyM gs p = true) := fun h => anyM_at _ _ k hlt' h
      have HN : Hid (matchB gs[k] p = false → anyM (gs.take (k + 1)) p = false) := fun h => by rw [anyM_take _ _ _ hlt', hany.out, h]; rfl
      obtain ⟨d, hd⟩ : ∃ d, d = gs[k] := ⟨_, rfl⟩
      rw [← hd] at e0 hgk HT HN
      obtain ⟨r, hr⟩ : ∃ r, r = matchB d p := ⟨_, rfl⟩
      rw [← hr] at HT HN
      have HC : Hid (Calls Try.prog 80 #[.string d, .pointer (some ⟨B, 0, none⟩)] wr fun e w' => e = .returned (.bool r) ∧ Below wr.heap.size wr w') := by rw [hr]; exact pickFn_c d B p t wr ((hbr.block B hBlt).trans hF) hgk hp
      have hki : (k : Int) < (gs.length : Int) := by omega
      clear ha hd hr hF hv
      cases r with
      | true =>
        have HT2 : Hid (anyM gs p = true) := HT.out rfl
        clear HT HN
        go_wp2_with (go_at_call 80; refine HC.out.mono ?_; rintro e w1 ⟨rfl, b1⟩)
        go_ret
        exact ⟨(k : Int), rfl, by rw [HT2.out]; exact decide_eq_true (by omega), hbr.trans (b1.mono hbr.size)⟩
      | false =>
        have HN2 : Hid (anyM (gs.take (k + 1)) p = false) := HN.out rfl
        clear HT HN
        go_wp2_with (go_at_call 80; refine HC.out.mono ?_; rintro e w1 ⟨rfl, b1⟩)
        go_roundw
        case rel => exact ⟨k + 1, by omega, by go_num, HN2, hbr.trans (b1.mono hbr.size)⟩
        case measure => simp [intOf]; omega
    · have he : k = gs.length := by omega
      subst he
      have HE : Hid (anyM gs p = false) := by have := hany.out; rw [List.take_length] at this; exact this
      clear ha hany hv hF
      go_wp2_with fail
      go_ret
      exact ⟨-1, rfl, by rw [HE.out]; rfl, hbr⟩

set_option maxHeartbeats 1000000 in
set_option maxRecDepth 100000 in
theorem containsPick_c (v : Value) (gs : List ByteArray) (B : Nat) (p t : ByteArray) (w : World) (hv : Reads w v (strsV gs)) (hgl : gs.length ≤ 1048576) (hg : ∀ g ∈ gs, g.size ≤ 1048576) (hp : p.size ≤ 1048576) (hF : w.heap[B]? = some (.cells #[.string p, .string t] 26 (0, 0))) :
    Calls Try.prog 79 #[v, .func (.func 80) #[] #[.pointer (some ⟨B, 0, none⟩)]] w fun e w' => e = .returned (.bool (anyM gs p)) ∧ Below w.heap.size w w' := by
  have HA := indexPick_c v gs B p t w hv hgl hg hp hF
  obtain ⟨a, cap, rfl, _⟩ := reads_strs hv
  obtain ⟨R, hR⟩ : ∃ R, R = anyM gs p := ⟨_, rfl⟩
  rw [← hR] at HA
  rw [← hR]
  have HA' : Hid (Calls Try.prog 111 #[.slice a gs.length cap, .func (.func 80) #[] #[.pointer (some ⟨B, 0, none⟩)]] w fun e w' => ∃ r : Int, e = .returned (.int .i64 r) ∧ decide (r ≥ 0) = R ∧ Below w.heap.size w w') := HA
  clear HA hR hv hF
  go_enter Try.func79, Try.ntmps79
  go_wp2_with (go_at_call 111; refine HA'.out.mono ?_; rintro e w1 ⟨r, rfl, hr, b1⟩; have HR : Hid (decide (r ≥ 0) = R) := hr; clear hr)
  go_ret
  exact ⟨by rw [← HR.out]; rfl, b1⟩

theorem pickF_step {fs : List FileD} {gs : List ByteArray} {k : Nat} (h : k < fs.length) (hm : anyM gs fs[k].p = true) : pickF (fs.take (k + 1)) gs = pickF (fs.take k) gs ++ [fs[k]] := by
  unfold pickF; rw [List.take_succ_eq_append_getElem h, List.filter_append]; simp [hm]
theorem pickF_skip {fs : List FileD} {gs : List ByteArray} {k : Nat} (h : k < fs.length) (hm : anyM gs fs[k].p = false) : pickF (fs.take (k + 1)) gs = pickF (fs.take k) gs := by
  unfold pickF; rw [List.take_succ_eq_append_getElem h, List.filter_append]; simp [hm]
theorem pickF_len (fs : List FileD) (gs : List ByteArray) : (pickF fs gs).length ≤ fs.length := List.length_filter_le _ _
theorem pickF_mem {fs : List FileD} {gs : List ByteArray} {f : FileD} (h : f ∈ pickF fs gs) : f ∈ fs := (List.mem_filter.1 h).1

set_option maxHeartbeats 4000000 in
set_option maxRecDepth 100000 in
theorem implPicked_c (S : Nat → Prop) (v : Value) (fs : List FileD) (u : Value) (gs : List ByteArray) (w : World) (hv : FilesIn S w v fs) (hB : ∀ b, S b → b < w.heap.size) (hu : Reads w u (strsV gs)) (hl : fs.length ≤ 1048576) (hp : ∀ f ∈ fs, f.p.size ≤ 1048576) (ht : ∀ f ∈ fs, f.t.size ≤ 1048576) (hgl : gs.length ≤ 1048576) (hg : ∀ g ∈ gs, g.size ≤ 1048576) :
    Calls Try.prog 35 #[v, u] w fun e w' => ∃ x, e = .returned x ∧ w'.ownsRow w.heap.size 26 2 x (pickF fs gs).length (cellsF (pickF fs gs)) ∧ Below w.heap.size w w' := by
  obtain ⟨a, cap, rfl, _, hc, hsn, ha⟩ := hv
  have HU : Hid (∀ w1, Below w.heap.size w w1 → Reads w1 u (strsV gs)) := fun w1 h => hu.below h
  have HG : Hid (∀ g ∈ gs, g.size ≤ 1048576) := hg
  obtain ⟨a2, cap2, rfl, _⟩ := reads_strs hu
  obtain ⟨i0, hi, hz0, hz1, hz2⟩ := info_parts infoFile
  have hmf : ∀ (fn : Fn) (first cap : Array Value) (w : World), (Instr.makeFunc fn first cap).run Try.prog w = .ok (.func fn first cap) w := fun _ _ _ _ => rfl
  clear hu hg
  go_enter Try.func35, Try.ntmps35
  go_wp2_with fail
  go_loopw [5, 10] (fun vo vi wr => ∃ k : Nat, k ≤ fs.length ∧ vi = .int .i64 (k : Int) ∧ wr.ownsRow w.heap.size 26 2 vo (pickF (fs.take k) gs).length (cellsF (pickF (fs.take k) gs)) ∧ Below w.heap.size w wr) (fun _ vi _ => fs.length - (intOf vi).toNat)
  case atStart => exact ⟨0, Nat.zero_le _, rfl, World.ownsRow_nil _ _ _ _, Below.refl _ _⟩
  case round =>
    obtain ⟨k, hk, rfl, hown, hbr⟩ := hrel
    by_cases hlt' : k < fs.length
    · rcases ha with rfl | ⟨b, off, rfl, hlt, ha⟩
      · simp at hlt'
      obtain ⟨e0, e1⟩ := ha k hlt'
      have hlt2 : b < w.heap.size := hB b hlt
      rw [← hbr.cell (by simpa using hlt2)] at e0 e1
      have hpk := hp fs[k] (List.getElem_mem hlt')
      have htk := ht fs[k] (List.getElem_mem hlt')
      have hst : anyM gs fs[k].p = true → pickF (fs.take (k + 1)) gs = pickF (fs.take k) gs ++ [fs[k]] := fun h => pickF_step hlt' h
      have hsk : anyM gs fs[k].p = false → pickF (fs.take (k + 1)) gs = pickF (fs.take k) gs := fun h => pickF_skip hlt' h
      have hpl := pickF_len (fs.take k) gs
      rw [List.length_take] at hpl
      obtain ⟨d, hd⟩ : ∃ d, d = fs[k] := ⟨_, rfl⟩
      rw [← hd] at e0 e1 hpk htk hst hsk
      obtain ⟨L, hL⟩ : ∃ L, L = pickF (fs.take k) gs := ⟨_, rfl⟩
      rw [← hL] at hown hpl hst hsk
      have hki : (k : Int) < (fs.length : Int) := by omega
      have hbw := hbr.size
      have hFn : ∀ u, (wr.alloc (.cells #[.string d.p, .string d.t] u)).heap[wr.heap.size]? = some (.cells #[.string d.p, .string d.t] u (0, 0)) := fun u => vheap_new _ _
      have kA : Below wr.heap.size wr (wr.alloc (.cells #[.string d.p, .string d.t] 26)) := (Below.refl _ _).alloc (Nat.le_refl _) _
      have kW : Below w.heap.size w (wr.alloc (.cells #[.string d.p, .string d.t] 26)) := hbr.trans (kA.mono hbw)
      obtain ⟨r, hr⟩ : ∃ r, r = anyM gs d.p := ⟨_, rfl⟩
      have HC : Hid (∀ w1, Below w.heap.size w w1 → w1.heap[wr.heap.size]? = some (.cells #[.string d.p, .string d.t] 26 (0, 0)) → Calls Try.prog 79 #[.slice a2 gs.length cap2, .func (.func 80) #[] #[.pointer (some ⟨wr.heap.size, 0, none⟩)]] w1 fun e w' => e = .returned (.bool r) ∧ Below w1.heap.size w1 w') := fun w1 h1 h2 => by
        rw [hr]
        exact containsPick_c _ gs _ d.p d.t w1 (HU.out w1 h1) hgl HG.out hpk h2
      have hFA := hFn 26
      have hownA := owns2_below hown kA
      rw [← hr] at hst hsk
      have HST : Hid (r = true → pickF (fs.take (k + 1)) gs = L ++ [d]) := hst
      have HSK : Hid (r = false → pickF (fs.take (k + 1)) gs = L) := hsk
      clear ha hd hsn hp ht hst hsk hL hr hFn
      go_upto_region 5 with fail
      have hgA : wr.heap.size < (wr.alloc (.cells #[.string d.p, .string d.t] 26)).heap.size := by simp
      generalize wr.alloc (.cells #[.string d.p, .string d.t] 26) = WA at hFA hownA kW hgA ⊢
      obtain ⟨NA, hNA⟩ : ∃ NA, NA = wr.heap.size := ⟨_, rfl⟩
      rw [← hNA] at HC hFA hgA ⊢
      have HC2 : Hid (Calls Try.prog 79 #[.slice a2 gs.length cap2, .func (.func 80) #[] #[.pointer (some ⟨NA, 0, none⟩)]] WA fun e w' => e = .returned (.bool r) ∧ Below WA.heap.size WA w') := HC.out WA kW hFA
      have hkWz := kW.size
      clear hNA kA hown e0 e1 hbr HC HU HG
      cases r with
      | false =>
        have HN : Hid (pickF (fs.take (k + 1)) gs = L) := HSK.out rfl
        clear HST HSK
        go_wp2_with (go_at_call 79; refine HC2.out.mono ?_; rintro e w1 ⟨rfl, b1⟩)
        go_roundw
        case rel => exact ⟨k + 1, by omega, by go_num, by rw [HN.out]; exact owns2_below hownA b1, kW.trans (b1.mono hkWz)⟩
        case measure => simp [intOf]; omega
      | true =>
        have HN : Hid (cellsF (pickF (fs.take (k + 1)) gs) = cellsF L ++ [.string d.p, .string d.t] ∧ (pickF (fs.take (k + 1)) gs).length = L.length + 1) := by rw [HST.out rfl]; exact ⟨by rw [cellsF_append]; rfl, by simp⟩
        clear HST HSK
        go_wp2_with (first
          | (go_at_call 79; refine HC2.out.mono ?_; rintro e w1 ⟨rfl, b1⟩
             have hF1 := (b1.block _ hgA).trans hFA
             have c0 : w1.cell? ⟨NA, 0, none⟩ = some (.string d.p) := by rw [vblk_cell hF1]; rfl
             have c1 : w1.cell? ⟨NA, 1, none⟩ = some (.string d.t) := by rw [vblk_cell hF1]; rfl
             have hown1 := owns2_below hownA b1
             have k1 : Below w.heap.size w w1 := kW.trans (b1.mono hkWz)
             clear hF1)
          | (go_at_call 81; refine (copyFile_c d _ hpk htk).mono ?_; rintro e w2 ⟨rfl, b2⟩
             have hown2 := owns2_below hown1 b2
             have hb2 : Below w.heap.size w w2 := k1.trans (b2.mono k1.size))
          | (at_builtin; refine wpList_append_own _ rfl _ _ 24 rfl w.heap.size 26 i0 (.agg #[.string ⟨#[]⟩, .string ⟨#[]⟩]) 2 32 Try.underlying24 hi hz0 hz1 hz2 rfl (by decide) _ L.length (cellsF L) rfl (hown2.alloc _) ⟨w2.heap.size, 0, none⟩ 1 1 [.string d.p, .string d.t] rfl rfl (cell_two_c _ _ _ _) (fun u hu => by simp at hu; rcases hu with rfl | rfl <;> rfl) (by unfold maxLen; omega) (by omega) (by have := hb2.size; simp; omega) ?_))
        intro v3 w3 o3 gr3 _
        rw [← HN.out.1, ← HN.out.2] at o3
        have hb3 : Below w.heap.size w w3 := Below.grown (hb2.alloc hb2.size _) gr3 (by have := hb2.size; simp; omega) (fun j hj => (hown2.lt _ hj).1)
        clear gr3 hown2
        go_wp2_with fail
        go_roundw
        case rel => exact ⟨k + 1, by omega, by go_num, o3, hb3⟩
        case measure => simp [intOf]; omega
    · have he : k = fs.length := by omega
      subst he
      rw [List.take_length] at hown
      clear ha hsn hp ht
      go_wp2_with fail
      go_ret
      exact ⟨_, rfl, hown, hbr⟩
end Go.Proofs.Ytbkmjbjiagkjmaa
