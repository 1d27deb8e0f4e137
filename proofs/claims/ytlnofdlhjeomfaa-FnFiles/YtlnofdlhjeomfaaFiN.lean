/-
  What the program's DiffFiles answers: the paths that are in one map alone or of another text, ascending; a contract for the walks; conditions: the lists lie in memory, hold at most 2 to the 20 files, of paths of at most 2 to the 20 bytes.
-/
import Derived.Test.YtlnofdlhjeomfaaFiM
import Derived.Test.YtlnofdlhjeomfaaFiG
namespace Go.Proofs.Ytlnofdlhjeomfaa
open Go.RowKit Go.Maps
set_option linter.unusedSimpArgs false
set_option linter.unusedVariables false

theorem owns_low {w : World} {base base' : Nat} {e : TypeId} {z : Nat} {v : Value} {n : Nat} {xs : List Value} (h : w.ownsRow base e z v n xs) (hb : base' ≤ base) : w.ownsRow base' e z v n xs := by
  obtain ⟨h1, h2⟩ := h
  refine ⟨h1, ?_⟩
  rcases h2 with h2 | ⟨g, cap, cur, a, b, c⟩
  · exact .inl h2
  · exact .inr ⟨g, cap, cur, a, Nat.le_trans hb b, c⟩

/-- What is told of a path that both maps were asked for. -/
def diffO : Option FileD → Option FileD → Option FileD
  | some g, some f => if g.t = f.t then none else some f
  | none, some f => some f
  | x, none => x
def diffM (ma mb : ByteArray → Option FileD) (p : ByteArray) : Option FileD := diffO (ma p) (mb p)
/-- .. while some of the second map is still to come. -/
def diffL (ma mb : ByteArray → Option FileD) (left : ByteArray → Bool) (p : ByteArray) : Option FileD := if left p then ma p else diffO (ma p) (mb p)
theorem diffL_start (ma mb : ByteArray → Option FileD) (p : ByteArray) : ma p = diffL ma mb (fun p => (mb p).isSome) p := by
  show ma p = if (mb p).isSome = true then ma p else diffO (ma p) (mb p)
  cases mb p with
  | none => cases ma p <;> rfl
  | some f => rfl
theorem diffL_step {ma mb : ByteArray → Option FileD} {left : ByteArray → Bool} {p : ByteArray} {m1 : ByteArray → Option FileD} {y : Option FileD} (h : ∀ q, m1 q = diffL ma mb left q) (hy : y = diffO (ma p) (mb p)) (q : ByteArray) :
    (if q = p then y else m1 q) = diffL ma mb (fun q => left q && !decide (q = p)) q := by
  unfold diffL
  by_cases e : q = p
  · subst e; simp [hy]
  · rw [if_neg e, h q]; simp [diffL, e]

set_option maxHeartbeats 8000000 in
set_option maxRecDepth 100000 in
theorem implDiff_c (S S' : Nat → Prop) (v u : Value) (fa fb : List FileD) (w : World) (hv : FilesIn S w v fa) (hB : ∀ b, S b → b < w.heap.size) (hu : FilesIn S' w u fb) (hB' : ∀ b, S' b → b < w.heap.size) (hla : fa.length ≤ 524288) (hlb : fb.length ≤ 524288) (hpa : ∀ f ∈ fa, f.p.size ≤ 1048576) (hpb : ∀ f ∈ fb, f.p.size ≤ 1048576) :
    Calls Try.prog 13 #[v, u] w fun e w' => ∃ x ts, e = .returned x ∧ risesS ts ∧ (∀ p, p ∈ ts ↔ (diffM (getF fa) (getF fb) p).isSome = true) ∧ w'.ownsRow w.heap.size 9 1 x ts.length (strsV ts) ∧ Below w.heap.size w w' := by
  have HA := filesByPath_c S v fa w hv hB (by omega)
  have HBB : Hid (∀ w1, Below w.heap.size w w1 → Calls Try.prog 39 #[u] w1 fun e w' => e = .returned (.map (some w1.heap.size)) ∧ MapF w' w1.heap.size fb.length (getF fb) ∧ Below w1.heap.size w1 w') := fun w1 h => filesByPath_c S' u fb w1 (hu.keep (.of h hB')) (fun b hb => Nat.lt_of_lt_of_le (hB' b hb) h.size) (by omega)
  have HSZ : Hid (∀ p, (diffM (getF fa) (getF fb) p).isSome = true → p.size ≤ 1048576) := fun p h => by
    cases hb : getF fb p with
    | some f => obtain ⟨h1, rfl⟩ := getF_mem hb; exact hpb f h1
    | none =>
      unfold diffM at h
      rw [hb] at h
      cases ha : getF fa p with
      | some f => obtain ⟨h1, rfl⟩ := getF_mem ha; exact hpa f h1
      | none => rw [ha] at h; cases h
  obtain ⟨qv, cv, rfl, _⟩ := id hv
  obtain ⟨qu, cu, rfl, _⟩ := id hu
  obtain ⟨ma, hma⟩ : ∃ m, m = getF fa := ⟨_, rfl⟩
  obtain ⟨mb, hmb⟩ : ∃ m, m = getF fb := ⟨_, rfl⟩
  rw [← hma] at HA
  simp only [← hmb] at HBB
  rw [← hma, ← hmb] at HSZ ⊢
  obtain ⟨B1, hB1⟩ : ∃ B, B = w.heap.size := ⟨_, rfl⟩
  rw [← hB1] at HA HBB ⊢
  have HB1 : Hid (B1 = w.heap.size) := hB1
  clear hv hu hma hmb hpa hpb hB1
  go_enter Try.func13, Try.ntmps13
  go_wp2_with fail
  go_at_call 39
  refine HA.mono ?_
  rintro e w1 ⟨rfl, hm1, k1⟩
  go_wp2_with fail
  go_at_call 39
  refine (HBB.out w1 k1).mono ?_
  rintro e w2 ⟨rfl, hm2, b2⟩
  have hB1lt := hm1.lt
  have hB2lt := hm2.lt
  have hm1' := hm1.below b2
  have k2 : Below B1 w w2 := k1.trans (b2.mono (by rw [HB1.out]; exact k1.size))
  obtain ⟨B2, hB2⟩ : ∃ B, B = w1.heap.size := ⟨_, rfl⟩
  obtain ⟨R, hR⟩ : ∃ B, B = w2.heap.size := ⟨_, rfl⟩
  rw [← hB2] at hm2 hB2lt ⊢
  have HBS : Hid (B1 < B2 ∧ B2 < R ∧ R = w2.heap.size ∧ w.heap.size ≤ w2.heap.size) := ⟨by rw [hB2]; exact hB1lt, by rw [hR]; exact hB2lt, hR, by rw [HB1.out] at k2; exact k2.size⟩
  clear HA HBB hm1 b2 k1 hB1lt hB2lt hB2
  go_wp2_with (at_range; refine wpList_range_F _ rfl _ rfl B2 fb.length _ rfl hm2 ?_)
  intro w3 cnt0 hcnt0 hrg0 hg3 hs3
  rw [← hR] at hrg0 ⊢
  have hm3 : MapF w3 B1 fa.length ma := hm1'.kept hg3 (by simp)
  have k3 : Below B1 w w3 := k2.grown hg3 (by have := HBS.out; have := HB1.out; omega) (fun j hj => by cases hj)
  have hw3 : R < w3.heap.size := hrg0.lt.1
  clear hm1' hm2 hg3 hs3 hR
  go_wp2_with fail
  go_loopw [15] (fun _ wr => ∃ (left : ByteArray → Bool) (cnt n1 : Nat) (m1 : ByteArray → Option FileD), RangF wr B2 R fb.length mb left cnt ∧ MapF wr B1 n1 m1 ∧ n1 + cnt ≤ 1048576 ∧ Hid (∀ q, m1 q = diffL ma mb left q) ∧ Below B1 w wr) (fun _ wr => wr.rangeLeft B2 R)
  case atStart => exact ⟨_, cnt0, fa.length, ma, hrg0, hm3, by omega, (fun q => diffL_start ma mb q), k3⟩
  case round =>
    obtain ⟨left, cnt, n1, m1, hrg, hm, hn1, hh, hbr⟩ := hrel
    clear hrg0 hm3 k3 k2 hw3
    have hszr : w.heap.size ≤ wr.heap.size := hbr.size
    go_wp2_with (at_next; refine wpList_next_F _ rfl _ rfl B2 R fb.length _ left cnt rfl hrg ?_ ?_)
    · intro hl0
      have hmd : ∀ q, m1 q = diffM ma mb q := fun q => by rw [hh.out q]; unfold diffL diffM; rw [if_neg (by simp [hl0 q])]
      have HMD : Hid (∀ q, m1 q = diffM ma mb q) := hmd
      have HK := keysF_c (some B1) wr
      have HC := collectF_c B1 n1 m1 wr hm (by omega)
      clear hh hrg hl0 hmd
      go_wp2_with (first
        | (go_at_call 48; refine HK.mono ?_; rintro e w4 ⟨rfl, rfl⟩)
        | (go_at_call 47; refine HC.mono ?_; rintro e w5 ⟨v5, ts, rfl, hts, htl, o5, b5⟩
           have HS := implSorted_c v5 ts w5 (reads_of_owns o5) (by omega) (fun s hs => HSZ.out s (by rw [← HMD.out]; exact (hts s).1 hs)))
        | (go_at_call 46; refine HS.mono ?_; rintro e w6 ⟨v6, rfl, o6, b6⟩))
      go_ret
      have k4 : Below B1 w (wr.alloc (.cells #[.map (some B1)] 77)) := hbr.alloc (by have := HB1.out; omega) _
      have k5 := k4.trans (b5.mono (by have := HB1.out; simp; omega))
      have s5 := b5.size
      have k6 := k5.trans (b6.mono (by have := HB1.out; simp at s5; omega))
      exact ⟨v6, sortedS ts, rfl, sortedS_rises ts, fun p => by rw [sortedS_mem, hts p, HMD.out], owns_low o6 (by have := HB1.out; simp at s5; omega), k6⟩
    · intro p f w4 cnt' hps hlp hmp hrg4 hlt hg4 hs4 hen
      have hne1 : some B1 ≠ some R := by have := HBS.out; simp; omega
      have hne2 : some B2 ≠ some B1 := by have := HBS.out; simp; omega
      have hne3 : some R ≠ some B1 := by have := HBS.out; simp; omega
      have hm4 : MapF w4 B1 n1 m1 := hm.kept hg4 hne1
      have k4 : Below B1 w w4 := hbr.grown hg4 (by have := HB1.out; omega) (fun j hj => by cases hj; have := HBS.out; omega)
      have hz4 : w.heap.size ≤ w4.heap.size := k4.size
      have hmap : m1 p = ma p := by rw [hh.out p]; unfold diffL; rw [if_pos hlp]
      have HMP : Hid (mb p = some f) := hmp
      have HCNT : Hid (cnt' < cnt) := hlt
      have HRG4 : Hid (RangF w4 B2 R fb.length mb (fun q => left q && !decide (q = p)) cnt') := hrg4
      have HRG : Hid (RangF wr B2 R fb.length mb left cnt) := hrg
      clear hm hbr hg4 hs4 hlp hmp hlt hrg4 hrg
      cases hga : ma p with
      | none =>
        have HG : Hid (m1 p = none) := by show _ = _; rw [hmap, hga]
        have HY : Hid (some f = diffO (ma p) (mb p)) := by show _ = _; rw [hga, HMP.out]; rfl
        clear hmap hga
        go_wp2_with (first
          | (at_lookup; refine wpList_lookup_none _ rfl _ _ rfl B1 n1 _ rfl (hm4.alloc _) p rfl hps HG.out ?_)
          | (at_mapUpdate; refine wpList_mapUpdate_F _ rfl _ _ _ rfl B1 n1 _ rfl ((hm4.alloc _).alloc _) (by unfold maxLen; omega) p rfl hps f rfl ?_; intro w5 hm5 hg5; go_frame))
        go_roundw
        case rel => exact ⟨_, cnt', n1 + 1, _, ((HRG4.out.alloc _).alloc _).kept hg5 hne2 hne3, hm5, (by have := HCNT.out; omega), (fun q => diffL_step hh.out HY.out q), ((k4.alloc (by have := HB1.out; omega) _).alloc (by have := HB1.out; simp; omega) _).grown hg5 (by have := HB1.out; simp; omega) (fun j hj => by cases hj; exact Nat.le_refl _)⟩
        case measure => have h1 := (((HRG4.out.alloc (.cells #[.string f.p, .string f.t] 26)).alloc (.cells #[.string ⟨#[]⟩, .string ⟨#[]⟩] 26)).kept hg5 hne2 hne3).left_eq; have h2 := HRG.out.left_eq; have h3 := HCNT.out; omega
      | some g =>
        have HG : Hid (m1 p = some g) := by show _ = _; rw [hmap, hga]
        cases hte : (g.t.toList == f.t.toList) with
        | true =>
          have heq : g.t = f.t := bytes_eq_of_toList (by simpa using hte)
          have HY : Hid (none = diffO (ma p) (mb p)) := by show _ = _; rw [hga, HMP.out]; simp [diffO, heq]
          clear hmap hga heq
          go_wp2_with (first
            | (at_lookup; refine wpList_lookup_some _ rfl _ _ rfl B1 n1 _ rfl (hm4.alloc _) p rfl hps g HG.out ?_)
            | (at_delete; refine wpList_delete_F _ rfl _ _ rfl B1 n1 _ rfl ((hm4.alloc _).alloc _) p rfl hps ?_; intro w5 hm5 hg5; go_frame))
          go_roundw
          case rel => exact ⟨_, cnt', n1, _, ((HRG4.out.alloc _).alloc _).kept hg5 hne2 hne3, hm5, (by have := HCNT.out; omega), (fun q => diffL_step hh.out HY.out q), ((k4.alloc (by have := HB1.out; omega) _).alloc (by have := HB1.out; simp; omega) _).grown hg5 (by have := HB1.out; simp; omega) (fun j hj => by cases hj; exact Nat.le_refl _)⟩
          case measure => have h1 := (((HRG4.out.alloc (.cells #[.string f.p, .string f.t] 26)).alloc (.cells #[.string g.p, .string g.t] 26)).kept hg5 hne2 hne3).left_eq; have h2 := HRG.out.left_eq; have h3 := HCNT.out; omega
        | false =>
          have hneq : ¬ g.t = f.t := fun e => by rw [e] at hte; simp at hte
          have HY : Hid (some f = diffO (ma p) (mb p)) := by show _ = _; rw [hga, HMP.out]; simp [diffO, hneq]
          clear hmap hga hneq
          go_wp2_with (first
            | (at_lookup; refine wpList_lookup_some _ rfl _ _ rfl B1 n1 _ rfl (hm4.alloc _) p rfl hps g HG.out ?_)
            | (at_mapUpdate; refine wpList_mapUpdate_F _ rfl _ _ _ rfl B1 n1 _ rfl ((hm4.alloc _).alloc _) (by unfold maxLen; omega) p rfl hps f rfl ?_; intro w5 hm5 hg5; go_frame))
          go_roundw
          case rel => exact ⟨_, cnt', n1 + 1, _, ((HRG4.out.alloc _).alloc _).kept hg5 hne2 hne3, hm5, (by have := HCNT.out; omega), (fun q => diffL_step hh.out HY.out q), ((k4.alloc (by have := HB1.out; omega) _).alloc (by have := HB1.out; simp; omega) _).grown hg5 (by have := HB1.out; simp; omega) (fun j hj => by cases hj; exact Nat.le_refl _)⟩
          case measure => have h1 := (((HRG4.out.alloc (.cells #[.string f.p, .string f.t] 26)).alloc (.cells #[.string g.p, .string g.t] 26)).kept hg5 hne2 hne3).left_eq; have h2 := HRG.out.left_eq; have h3 := HCNT.out; omega
end Go.Proofs.Ytlnofdlhjeomfaa
