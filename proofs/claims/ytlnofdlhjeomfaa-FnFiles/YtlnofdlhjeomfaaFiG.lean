/-
  Files listed along a list out of the map by their paths; what is dropped: the program's: contracts for the walks; conditions: the lists lie in memory and hold at most 2 to the 20.
-/
import Derived.Test.YtlnofdlhjeomfaaFiF
import Derived.Test.YtlnofdlhjeomfaaFiC
import Derived.Test.YtlnofdlhjeomfaaFiE
namespace Go.Proofs.Ytlnofdlhjeomfaa
open Go.RowKit Go.Maps
set_option linter.unusedSimpArgs false
set_option linter.unusedVariables false

def alongF (m : ByteArray → Option FileD) (fs : List FileD) : List FileD := fs.filterMap fun f => m f.p
theorem alongF_step_some {m : ByteArray → Option FileD} {fs : List FileD} {k : Nat} (h : k < fs.length) {f : FileD} (hm : m fs[k].p = some f) : alongF m (fs.take (k + 1)) = alongF m (fs.take k) ++ [f] := by
  unfold alongF; rw [List.take_succ_eq_append_getElem h, List.filterMap_append]; simp [hm]
theorem alongF_step_none {m : ByteArray → Option FileD} {fs : List FileD} {k : Nat} (h : k < fs.length) (hm : m fs[k].p = none) : alongF m (fs.take (k + 1)) = alongF m (fs.take k) := by
  unfold alongF; rw [List.take_succ_eq_append_getElem h, List.filterMap_append]; simp [hm]
theorem alongF_len (m : ByteArray → Option FileD) (fs : List FileD) : (alongF m fs).length ≤ fs.length := List.length_filterMap_le _ _
theorem alongF_mem {m : ByteArray → Option FileD} {fs : List FileD} {f : FileD} (h : f ∈ alongF m fs) : ∃ p, m p = some f := by
  obtain ⟨g, _, hg⟩ := List.mem_filterMap.1 h
  exact ⟨g.p, hg⟩

set_option maxHeartbeats 4000000 in
set_option maxRecDepth 100000 in
theorem along_c (S : Nat → Prop) (B n : Nat) (m : ByteArray → Option FileD) (v : Value) (fs : List FileD) (w : World) (hm : MapF w B n m) (hv : FilesIn S w v fs) (hB : ∀ b, S b → b < w.heap.size) (hl : fs.length ≤ 1048577) (hs : ∀ p f, m p = some f → f.p.size ≤ 1048576 ∧ f.t.size ≤ 1048576) :
    Calls Try.prog 42 #[.map (some B), v] w fun e w' => ∃ u, e = .returned u ∧ w'.ownsRow w.heap.size 26 2 u (alongF m fs).length (cellsF (alongF m fs)) ∧ Below w.heap.size w w' := by
  obtain ⟨a, cap, rfl, _, hc, hsn, ha⟩ := hv
  obtain ⟨i0, hi, hz0, hz1, hz2⟩ := info_parts infoFile
  go_enter Try.func42, Try.ntmps42
  go_wp2_with fail
  go_loopw [5, 12] (fun vo vi wr => ∃ k : Nat, k ≤ fs.length ∧ vi = .int .i64 (k : Int) ∧ wr.ownsRow w.heap.size 26 2 vo (alongF m (fs.take k)).length (cellsF (alongF m (fs.take k))) ∧ Below w.heap.size w wr) (fun _ vi _ => fs.length - (intOf vi).toNat)
  case atStart => exact ⟨0, Nat.zero_le _, rfl, World.ownsRow_nil _ _ _ _, Below.refl _ _⟩
  case round =>
    obtain ⟨k, hk, rfl, hown, hbr⟩ := hrel
    by_cases hlt' : k < fs.length
    · rcases ha with rfl | ⟨b, off, rfl, hlt, ha⟩
      · simp at hlt'
      obtain ⟨e0, e1⟩ := ha k hlt'
      have hlt2 : b < w.heap.size := hB b hlt
      rw [← hbr.cell (by simpa using hlt2)] at e0 e1
      have hpm := (hsn fs[k] (List.getElem_mem hlt')).1
      have hmr : MapF wr B n m := hm.below hbr
      have hal := alongF_len m (fs.take k)
      rw [List.length_take] at hal
      have hstS : ∀ f, m fs[k].p = some f → alongF m (fs.take (k + 1)) = alongF m (fs.take k) ++ [f] := fun f h => alongF_step_some hlt' h
      have hstN : m fs[k].p = none → alongF m (fs.take (k + 1)) = alongF m (fs.take k) := fun h => alongF_step_none hlt' h
      obtain ⟨d, hd⟩ : ∃ d, d = fs[k] := ⟨_, rfl⟩
      rw [← hd] at e0 e1 hpm hstS hstN
      obtain ⟨L, hL⟩ : ∃ L, L = alongF m (fs.take k) := ⟨_, rfl⟩
      rw [← hL] at hown hal hstS hstN
      have hki : (k : Int) < (fs.length : Int) := by omega
      have kA : Below wr.heap.size wr (wr.alloc (.cells #[.string d.p, .string d.t] 26)) := (Below.refl _ _).alloc (Nat.le_refl _) _
      clear ha hd hsn hL
      cases hgd : m d.p with
      | none =>
        have HG : Hid (m d.p = none) := hgd
        have HN : Hid (alongF m (fs.take (k + 1)) = L) := hstN hgd
        clear hgd hstS hstN
        go_wp2_with (at_lookup; refine wpList_lookup_none _ rfl _ _ rfl B n m rfl (hmr.alloc _) d.p rfl hpm HG.out ?_)
        go_roundw
        case rel =>
          refine ⟨k + 1, by omega, by go_num, ?_, ?_⟩
          · rw [HN.out]; exact (hown.alloc _).alloc _
          · exact (hbr.alloc hbr.size _).alloc (by have := hbr.size; simp; omega) _
        case measure => simp [intOf]; omega
      | some f =>
        have HG : Hid (m d.p = some f) := hgd
        have HN : Hid (cellsF (alongF m (fs.take (k + 1))) = cellsF L ++ [.string f.p, .string f.t] ∧ (alongF m (fs.take (k + 1))).length = L.length + 1) := by rw [hstS f hgd]; exact ⟨by rw [cellsF_append]; rfl, by simp⟩
        obtain ⟨hfp, hft⟩ := hs _ _ hgd
        have kB : Below (wr.alloc (.cells #[.string d.p, .string d.t] 26)).heap.size (wr.alloc (.cells #[.string d.p, .string d.t] 26)) ((wr.alloc (.cells #[.string d.p, .string d.t] 26)).alloc (.cells #[.string f.p, .string f.t] 26)) := (Below.refl _ _).alloc (Nat.le_refl _) _
        clear hgd hstS hstN hs
        go_wp2_with (first
          | (at_lookup; refine wpList_lookup_some _ rfl _ _ rfl B n m rfl (hmr.alloc _) d.p rfl hpm f HG.out ?_)
          | (go_at_call 85; refine (copyFile_c f _ hfp hft).mono ?_; rintro e w2 ⟨rfl, b2⟩
             have hown2 := owns2_below (owns2_below (owns2_below hown kA) kB) b2
             have hb2 : Below w.heap.size w w2 := hbr.trans (((kA.trans (kB.mono kA.size)).trans (b2.mono (Nat.le_trans kA.size kB.size))).mono hbr.size))
          | (at_builtin; refine wpList_append_own _ rfl _ _ 24 rfl w.heap.size 26 i0 (.agg #[.string ⟨#[]⟩, .string ⟨#[]⟩]) 2 32 Try.underlying24 hi hz0 hz1 hz2 rfl (by decide) _ L.length (cellsF L) rfl (hown2.alloc _) ⟨w2.heap.size, 0, none⟩ 1 1 [.string f.p, .string f.t] rfl rfl (cell_two_c _ _ _ _) (fun u hu => by simp at hu; rcases hu with rfl | rfl <;> rfl) (by unfold maxLen; omega) (by omega) (by have := hb2.size; simp; omega) ?_))
        intro v3 w3 o3 gr3 _
        rw [← HN.out.1, ← HN.out.2] at o3
        have hb3 : Below w.heap.size w w3 := Below.grown (hb2.alloc hb2.size _) gr3 (by have := hb2.size; simp; omega) (fun j hj => (hown2.lt _ hj).1)
        clear gr3 hown2
        go_wp2_with fail
        go_roundw
        case rel => exact ⟨k + 1, by omega, by go_num, o3, hb3⟩
        case measure => simp [intOf]; omega
    · have he : k = fs.length := by omega
      subst he
      rw [List.take_length] at hown
      clear ha hsn hs
      go_wp2_with fail
      go_ret
      exact ⟨_, rfl, hown, hbr⟩

theorem owns_lower2 {w : World} {base base' : Nat} {e : TypeId} {v : Value} {n : Nat} {xs : List Value} (h : w.ownsRow base e 2 v n xs) (hb : base' ≤ base) : w.ownsRow base' e 2 v n xs := by
  obtain ⟨h1, h2⟩ := h
  refine ⟨h1, ?_⟩
  rcases h2 with h2 | ⟨g, cap, cur, a, b, c⟩
  · exact .inl h2
  · exact .inr ⟨g, cap, cur, a, Nat.le_trans hb b, c⟩

/-- The new list where it is right, else the old one. -/
def orOld (new old : List FileD) : List FileD := if filesB new then new else old

set_option maxHeartbeats 4000000 in
set_option maxRecDepth 100000 in
theorem orOld_c (S S' : Nat → Prop) (lo : Nat) (v u : Value) (ns fs : List FileD) (w : World) (hn : w.ownsRow lo 26 2 v ns.length (cellsF ns)) (hsn : ∀ f ∈ ns, saneF f) (hv : FilesIn S' w u fs) (hB' : ∀ b, S' b → b < w.heap.size) (hlo : lo ≤ w.heap.size) (hl : fs.length ≤ 1048576) (hpn : ∀ f ∈ ns, f.p.size ≤ 1048576) (hp : ∀ f ∈ fs, f.p.size ≤ 1048576) (ht : ∀ f ∈ fs, f.t.size ≤ 1048576) :
    Calls Try.prog 41 #[v, u] w fun e w' => ∃ x, e = .returned (.tuple #[x, .bool (filesB ns)]) ∧ w'.ownsRow lo 26 2 x (orOld ns fs).length (cellsF (orOld ns fs)) ∧ Below w.heap.size w w' := by
  have H1 := implFilesOk_c _ v ns w (filesIn_owns hn hsn) (fun b h => h.2) hpn
  have H2 : ∀ w1, Below w.heap.size w w1 → Calls Try.prog 49 #[u] w1 fun e w' => ∃ x, e = .returned x ∧ w'.ownsRow w1.heap.size 26 2 x fs.length (cellsF fs) ∧ Below w1.heap.size w1 w' := fun w1 h => copyFiles_c S' u fs w1 (hv.keep (.of h hB')) (fun b hb => Nat.lt_of_lt_of_le (hB' b hb) h.size) hl hp ht
  have H2' : Hid (∀ w1, Below w.heap.size w w1 → Calls Try.prog 49 #[u] w1 fun e w' => ∃ x, e = .returned x ∧ w'.ownsRow w1.heap.size 26 2 x fs.length (cellsF fs) ∧ Below w1.heap.size w1 w') := H2
  obtain ⟨qu, cu, rfl, _⟩ := id hv
  obtain ⟨qv, mv, cv, hvv⟩ : ∃ q m c, v = .slice q m c := by
    rcases hn.2 with ⟨rfl, _⟩ | ⟨g, c, cur, rfl, _⟩ <;> exact ⟨_, _, _, rfl⟩
  subst hvv
  obtain ⟨r, hr⟩ : ∃ r, r = filesB ns := ⟨_, rfl⟩
  rw [← hr] at H1 ⊢
  have HO : Hid (orOld ns fs = if r then ns else fs) := by rw [hr]; rfl
  clear hr H2
  cases r with
  | false =>
    go_enter Try.func41, Try.ntmps41
    go_wp2_with (first
      | (go_at_call 15; refine H1.mono ?_; rintro e w1 ⟨rfl, b1⟩)
      | (go_at_call 49; refine (H2'.out w1 b1).mono ?_; rintro e w2 ⟨x, rfl, o2, b2⟩))
    go_ret2
    refine ⟨_, rfl, ?_, b1.trans (b2.mono b1.size)⟩
    rw [HO.out]
    exact owns_lower2 o2 (Nat.le_trans hlo b1.size)
  | true =>
    go_enter Try.func41, Try.ntmps41
    go_wp2_with (go_at_call 15; refine H1.mono ?_; rintro e w1 ⟨rfl, b1⟩)
    go_ret2
    refine ⟨_, rfl, ?_, b1⟩
    rw [HO.out]
    exact owns2_below hn b1

/-- What is left where a path is dropped. -/
def delM (m : ByteArray → Option FileD) (p : ByteArray) : ByteArray → Option FileD := fun q => if q = p then none else m q
def dropL (fs : List FileD) (p : ByteArray) : List FileD := alongF (delM (getF fs) p) fs
def dropOk (fs : List FileD) (p : ByteArray) : Bool := (getF fs p).isSome && filesB (dropL fs p)
def dropI (fs : List FileD) (p : ByteArray) : List FileD := if dropOk fs p then dropL fs p else fs

theorem getF_mem {fs : List FileD} {p : ByteArray} {f : FileD} (h : getF fs p = some f) : f ∈ fs ∧ f.p = p := by
  unfold getF at h
  exact ⟨List.mem_of_find?_eq_some h, by simpa using List.find?_some h⟩
theorem delM_mem {fs : List FileD} {p q : ByteArray} {f : FileD} (h : delM (getF fs) p q = some f) : f ∈ fs := by
  unfold delM at h
  split at h
  · cases h
  · exact (getF_mem h).1
theorem dropL_mem {fs : List FileD} {p : ByteArray} {f : FileD} (h : f ∈ dropL fs p) : f ∈ fs := by
  obtain ⟨q, hq⟩ := alongF_mem h
  exact delM_mem hq

set_option maxHeartbeats 4000000 in
set_option maxRecDepth 100000 in
theorem implDrop_c (S : Nat → Prop) (v : Value) (fs : List FileD) (p : ByteArray) (w : World) (hv : FilesIn S w v fs) (hB : ∀ b, S b → b < w.heap.size) (hl : fs.length ≤ 1048576) (hp : ∀ f ∈ fs, f.p.size ≤ 1048576) (ht : ∀ f ∈ fs, f.t.size ≤ 1048576) (hpm : p.size ≤ maxLen) :
    Calls Try.prog 14 #[v, .string p] w fun e w' => ∃ x, e = .returned (.tuple #[x, .bool (dropOk fs p)]) ∧ w'.ownsRow w.heap.size 26 2 x (dropI fs p).length (cellsF (dropI fs p)) ∧ Below w.heap.size w w' := by
  have HM := filesByPath_c S v fs w hv hB (by omega)
  have HV : ∀ w1, Below w.heap.size w w1 → FilesIn S w1 v fs ∧ ∀ b, S b → b < w1.heap.size := fun w1 h => ⟨hv.keep (.of h hB), fun b hb => Nat.lt_of_lt_of_le (hB b hb) h.size⟩
  have hsn : ∀ f ∈ fs, saneF f := by obtain ⟨_, _, _, _, _, h, _⟩ := hv; exact h
  have HC : Hid (∀ w1, Below w.heap.size w w1 → Calls Try.prog 49 #[v] w1 fun e w' => ∃ x, e = .returned x ∧ w'.ownsRow w1.heap.size 26 2 x fs.length (cellsF fs) ∧ Below w1.heap.size w1 w') := fun w1 h => copyFiles_c S v fs w1 (HV w1 h).1 (HV w1 h).2 hl hp ht
  have HA : Hid (∀ w1, Below w.heap.size w w1 → MapF w1 w.heap.size fs.length (delM (getF fs) p) → Calls Try.prog 42 #[.map (some w.heap.size), v] w1 fun e w' => ∃ u, e = .returned u ∧ w'.ownsRow w1.heap.size 26 2 u (dropL fs p).length (cellsF (dropL fs p)) ∧ Below w1.heap.size w1 w') := fun w1 h hm => along_c S _ _ _ v fs w1 hm (HV w1 h).1 (HV w1 h).2 (by omega) (fun q f hq => ⟨hp f (delM_mem hq), ht f (delM_mem hq)⟩)
  have HO : Hid (∀ w1 lo u, Below w.heap.size w w1 → lo ≤ w1.heap.size → w1.ownsRow lo 26 2 u (dropL fs p).length (cellsF (dropL fs p)) → Calls Try.prog 41 #[u, v] w1 fun e w' => ∃ x, e = .returned (.tuple #[x, .bool (filesB (dropL fs p))]) ∧ w'.ownsRow lo 26 2 x (orOld (dropL fs p) fs).length (cellsF (orOld (dropL fs p) fs)) ∧ Below w1.heap.size w1 w') := fun w1 lo u h hlo ho => orOld_c S S lo u v _ fs w1 ho (fun f hf => hsn f (dropL_mem hf)) (HV w1 h).1 (HV w1 h).2 hlo hl (fun f hf => hp f (dropL_mem hf)) hp ht
  obtain ⟨qv, cv, rfl, _⟩ := id hv
  clear HV hv hsn hp ht
  cases hg : getF fs p with
  | none =>
    have HG : Hid (getF fs p = none) := hg
    have hok : dropOk fs p = false := by simp [dropOk, hg]
    have hI : dropI fs p = fs := by simp [dropI, hok]
    rw [hok, hI]
    clear hg hok hI
    go_enter Try.func14, Try.ntmps14
    go_wp2_with (first
      | (go_at_call 39; refine HM.mono ?_; rintro e w1 ⟨rfl, hm, b1⟩; clear HM)
      | (at_lookup; refine wpList_lookup_none _ rfl _ _ rfl w.heap.size fs.length _ rfl hm p rfl hpm HG.out ?_)
      | (go_at_call 49; refine (HC.out _ (b1.alloc b1.size _)).mono ?_; rintro e w2 ⟨x, rfl, o2, b2⟩))
    go_ret2
    exact ⟨_, rfl, owns_lower2 o2 (by have := b1.size; simp; omega), (b1.alloc b1.size _).trans (b2.mono (by have := b1.size; simp; omega))⟩
  | some f =>
    have HG : Hid (getF fs p = some f) := hg
    have hok : dropOk fs p = filesB (dropL fs p) := by simp [dropOk, hg]
    have hI : dropI fs p = orOld (dropL fs p) fs := by unfold dropI orOld; rw [hok]
    rw [hok, hI]
    clear hg hok hI HC
    go_enter Try.func14, Try.ntmps14
    go_wp2_with (first
      | (go_at_call 39; refine HM.mono ?_; rintro e w1 ⟨rfl, hm, b1⟩; clear HM)
      | (at_lookup; refine wpList_lookup_some _ rfl _ _ rfl w.heap.size fs.length _ rfl hm p rfl hpm f HG.out ?_)
      | (at_delete; refine wpList_delete_F _ rfl _ _ rfl w.heap.size fs.length _ rfl (hm.alloc _) p rfl hpm ?_; intro w2 hm2 g2
         have b2 : Below w.heap.size w w2 := (b1.alloc b1.size _).grown g2 (by have := b1.size; simp; omega) (fun j hj => by cases hj; exact Nat.le_refl _))
      | (go_at_call 42; refine (HA.out w2 b2 hm2).mono ?_; rintro e w3 ⟨u3, rfl, o3, b3⟩
         have k3 : Below w.heap.size w w3 := b2.trans (b3.mono b2.size)
         obtain ⟨q3, m3, c3, hu3⟩ : ∃ q m c, u3 = .slice q m c := by rcases o3.2 with ⟨rfl, _⟩ | ⟨g, c, cur, rfl, _⟩ <;> exact ⟨_, _, _, rfl⟩
         subst hu3)
      | (go_at_call 41; refine (HO.out w3 _ _ k3 b3.size o3).mono ?_; rintro e w4 ⟨x, rfl, o4, b4⟩))
    go_ret2
    exact ⟨_, rfl, owns_lower2 o4 b2.size, k3.trans (b4.mono k3.size)⟩
end Go.Proofs.Ytlnofdlhjeomfaa
