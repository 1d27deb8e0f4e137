/-
  For every list of bytes the law FnWords answers true and leaves its argument as it was; no condition but that the tables of the library hold at the start what the program text lays, which the card ties.
-/
import Derived.Test.YthapeknfhlpadaaDoorRows
import Derived.WalkKit
import Derived.Test.YthapeknfhlpadaaDoorCards
import Derived.Test.YthapeknfhlpadaaDoorTie
import Derived.Test.YthapeknfhlpadaaDoorTab
import Derived.Test.YthapeknfhlpadaaDoorDrawW
import Derived.Test.YthapeknfhlpadaaDoorLawW
import Derived.Deep.RegionHeld
import Derived.ProofKit
import Derived.OpenShut
import Derived.ShutString
import Derived.SliceStrings
import Derived.ChangeOld
import Derived.Below
namespace Go.Proofs.YthapeknfhlpadaaDoor.fnWords
open Go.ChangeShapes Go.WideShapes Go.ChangeAt Go.RowKit
open Go.ChangeMaps (open_string shut_string)
set_option linter.unusedVariables false
set_option linter.unusedSimpArgs false

theorem own : ownKnob Tryd.prog.godebug = none := by kernel_rfl
theorem laidOut : laidOutB Tryd.prog = true := by kernel_rfl

theorem addr_add (b off i : Nat) : ((⟨b, off, none⟩ : Addr).add i) = ⟨b, off + i, none⟩ := by unfold Addr.add; split <;> simp_all
theorem reads_mk {w : World} {x : Addr} {len cap : Nat} {xs : List Value} (hl : xs.length = len) (hc : len ≤ cap) (hcell : ∀ i (h : i < xs.length), w.cell? (x.add i) = some xs[i]) : Reads w (.slice (some x) len cap) xs := by
  subst hl
  by_cases h0 : xs.length = 0
  · exact ⟨some x, cap, rfl, hc, .inl (List.eq_nil_of_length_eq_zero h0)⟩
  · obtain ⟨b, off, spot⟩ := x
    have hc0 := hcell 0 (by omega)
    have hspot : spot = none := by simpa [Addr.add] using World.cell?_spot hc0
    subst hspot
    refine ⟨some ⟨b, off, none⟩, cap, rfl, hc, .inr ⟨b, off, rfl, ?_, fun i hi => ?_⟩⟩
    · rw [addr_add] at hc0; exact World.block_lt_of_cell? w _ hc0
    · have := hcell i hi; rw [addr_add] at this; exact this


theorem conv_kept {W w1 : World} {g : Nat} (c : Int) (hcell : W.cell? ⟨g, 0, none⟩ = some (.int .u8 c)) (hlt : g < W.heap.size) (b : Below W.heap.size W w1) :
    (convert 22 9 (.slice (some ⟨g, 0, none⟩) 1 1)).run Tryd.prog w1 = .ok (.string (strOfNums [c])) w1 := by
  refine run_convert_bytes_arg w1 22 5 Tryd.underlying22 Tryd.underlying5 g 0 1 1 [c] rfl (fun i hi => ?_) 9 Tryd.underlying9
  have : i = 0 := by omega
  subst this
  rw [b.cell (p := ⟨g, 0 + 0, none⟩) hlt]
  simpa using hcell
theorem at_strs {w : World} {a : Option Addr} {ss : List ByteArray} (h : ss = [] ∨ ∃ b off, a = some ⟨b, off, none⟩ ∧ b < w.heap.size ∧ ∀ k (h : k < ss.length), w.cell? ⟨b, off + k, none⟩ = some (.string ss[k])) {k : Nat} (hk : k < ss.length) :
    ∃ b off, a = some ⟨b, off, none⟩ ∧ w.cell? ⟨b, off + k, none⟩ = some (.string ss[k]) := by
  rcases h with rfl | ⟨b, off, ha, _, hc⟩
  · simp at hk
  · exact ⟨b, off, ha, hc k hk⟩
theorem drew_below {w w1 : World} (h : Below w.drew.heap.size w.drew w1) : Below w.heap.size w w1 := ⟨h.os, h.tape, h.output, h.size, h.block⟩
theorem alloc_below {w w1 : World} {o : Obj} (h : Below (w.alloc o).drew.heap.size (w.alloc o).drew w1) : Below w.heap.size w w1 :=
  ((Below.refl w.heap.size w).alloc (Nat.le_refl _) o).trans ((drew_below h).mono (by simp))
theorem alloc_below' {w w1 : World} {o : Obj} (h : Below (w.alloc o).heap.size (w.alloc o) w1) : Below w.heap.size w w1 :=
  ((Below.refl w.heap.size w).alloc (Nat.le_refl _) o).trans (h.mono (by simp))
theorem reads_alloc {w : World} {o : Obj} {v : Value} {xs : List Value} (h : Reads w v xs) : Reads (w.alloc o) v xs :=
  h.below ((Below.refl w.heap.size w).alloc (Nat.le_refl _) o)
theorem implJoinBack_c (v : Value) (s : ByteArray) (c : Int) (w : World) (hv : Reads w v (strsV (splitS s c))) (hs : s.size ≤ 1048575) :
    Calls Tryd.prog 17 #[v, .string (strOfNums [c])] w fun e w' => e = .returned (.string s) ∧ Below w.heap.size w w' :=
  (implJoin_c v (splitS s c) _ w hv (by rw [splitS_bulk]; omega) (by rw [strOfNums_size]; simp)).mono fun e w' ⟨h1, h2⟩ => ⟨by rw [h1, split_join], h2⟩
theorem implSortedAgain_c (v : Value) (ss : List ByteArray) (w : World) (hv : Reads w v (strsV (sortedS ss))) (hn : (sortedS ss).length ≤ 1048576) (hs : ∀ s ∈ sortedS ss, s.size ≤ 1048576) :
    Calls Tryd.prog 13 #[v] w fun e w' => ∃ u, e = .returned u ∧ Reads w' u (strsV (sortedS ss)) ∧ Below w.heap.size w w' :=
  (implSorted_c v (sortedS ss) w hv hn hs).mono fun e w' ⟨u, h1, h2, h3⟩ => ⟨u, h1, by rw [sorted_again] at h2; exact reads_of_owns h2, h3⟩
theorem sameSelf_c (v u : Value) (ss : List ByteArray) (w : World) (hv : Reads w v (strsV ss)) (hu : Reads w u (strsV ss)) (hn : ss.length ≤ 1048576) :
    Calls Tryd.prog 20 #[v, u] w fun e w' => e = .returned (.bool true) ∧ Below w.heap.size w w' :=
  (sameTexts_c v u ss ss w hv hu (by omega)).mono fun e w' ⟨h1, h2⟩ => ⟨by rw [h1]; simp, h2⟩
theorem implNumTextN_c (N : Nat) (w : World) (h : N ≤ 9223372036854775807) (htab : Lib.TabIs Tryd.prog w "internal/strconv.uint64pow10" .u64 Lib.pow10Tab) :
    Calls Tryd.prog 8 #[.int .i64 (N : Int)] w fun e w' => e = .returned (.string (numStr N)) ∧ Below w.heap.size w w' := by
  have := implNumText_c (N : Int) w (by omega) (by omega) htab
  rwa [Int.toNat_natCast] at this
theorem implNumTextAs_c (n : Int) (S : ByteArray) (w : World) (h0 : -9223372036854775808 ≤ n) (h1 : n ≤ 9223372036854775807) (htab : Lib.TabIs Tryd.prog w "internal/strconv.uint64pow10" .u64 Lib.pow10Tab) (hS : numStr n.toNat = S) :
    Calls Tryd.prog 8 #[.int .i64 n] w fun e w' => e = .returned (.string S) ∧ Below w.heap.size w w' := by
  subst hS; exact implNumText_c n w h0 h1 htab
theorem specNumTextAs_c (n : Int) (S : ByteArray) (w : World) (h1 : n ≤ 9223372036854775807) (hS : numStr n.toNat = S) :
    Calls Tryd.prog 22 #[.int .i64 n] w fun e w' => e = .returned (.string S) ∧ Below w.heap.size w w' := by
  subst hS; exact specNumText_c n w h1
theorem implJoinAs_c (v : Value) (ss : List ByteArray) (t J : ByteArray) (w : World) (hv : Reads w v (strsV ss)) (hb : bulkS ss ≤ 1048576) (ht : t.size ≤ 1048576) (hJ : joinS ss t = J) :
    Calls Tryd.prog 17 #[v, .string t] w fun e w' => e = .returned (.string J) ∧ Below w.heap.size w w' := by
  subst hJ; exact implJoin_c v ss t w hv hb ht
theorem specJoinAs_c (v : Value) (ss : List ByteArray) (t J : ByteArray) (w : World) (hv : Reads w v (strsV ss)) (hb : bulkS ss ≤ 1048576) (ht : t.size ≤ 1048576) (hJ : joinS ss t = J) :
    Calls Tryd.prog 21 #[v, .string t] w fun e w' => e = .returned (.string J) ∧ w = w' := by
  subst hJ; exact specJoin_c v ss t w hv hb ht
theorem conv_keptA {W w1 : World} {c : Int} (b : Below (W.alloc (.cells #[.int .u8 c] 5)).drew.heap.size (W.alloc (.cells #[.int .u8 c] 5)).drew w1) :
    (convert 22 9 (.slice (some ⟨W.heap.size, 0, none⟩) 1 1)).run Tryd.prog w1 = .ok (.string (strOfNums [c])) w1 :=
  conv_kept c (by simp) (by simp) b
theorem sorted_len (ss : List ByteArray) : (sortedS ss).length ≤ ss.length := by
  unfold sortedS
  rw [List.length_map]
  have := compact_len (sortL (ss.map bytesL))
  rw [sortL_len, List.length_map] at this
  exact this


set_option maxHeartbeats 8000000 in
set_option maxRecDepth 100000 in
theorem walk (a0 : Value) (z0 : List Int) (w : World) (r0 : Reads w a0 (bytesV z0)) (w0 : ∀ z ∈ z0, 0 ≤ z ∧ z ≤ 255) (l0 : z0.length ≤ maxLen) (htab : Lib.TabIs Tryd.prog w "internal/strconv.uint64pow10" .u64 Lib.pow10Tab) :
    Calls Tryd.prog 3 #[a0] w fun e w' => e = .returned (.bool true) ∧ Below w.heap.size w w' := by
  by_cases hb : (1048576 : Int) < (z0.length : Int)
  · go_enter Tryd.func3, Tryd.ntmps3
    go_wp2_with (go_at_call 5; refine (big_t _ z0 _ r0 hb).mono ?_; rintro e w1 ⟨rfl, rfl⟩)
    go_ret
    exact ⟨rfl, Below.refl _ _⟩
  have hn : z0.length ≤ 1048576 := by omega
  have HT : Hid (Lib.TabIs Tryd.prog w "internal/strconv.uint64pow10" .u64 Lib.pow10Tab) := htab
  clear htab
  go_enter Tryd.func3, Tryd.ntmps3
  go_wp2_with fail
  go_at_call 5
  refine (big_f _ z0 _ r0 (by omega)).mono ?_
  rintro e w1 ⟨rfl, rfl⟩
  go_wp2_with fail
  go_at_call 6
  refine (at_c _ z0 2 _ r0 hn w0 (by omega) (by omega)).mono ?_
  rintro e w1 ⟨x1, hx1, rfl, rfl⟩
  go_wp2_with fail
  go_at_call 6
  refine (at_c _ z0 3 _ r0 hn w0 (by omega) (by omega)).mono ?_
  rintro e w1 ⟨x2, hx2, rfl, rfl⟩
  go_wp2_with fail
  go_at_call 8
  obtain ⟨N, hN, hNl⟩ : ∃ N : Nat, (x1 : Int) * 256 + (x2 : Int) = (N : Int) ∧ N ≤ 65535 := ⟨x1 * 256 + x2, by omega, by omega⟩
  rw [hN]
  clear hN
  refine (implNumTextN_c N _ (by omega) HT.out).mono ?_
  rintro e w1 ⟨rfl, b1⟩
  obtain ⟨hg1, ho1⟩ := num_back N hNl
  have hs1' : (numStr N).size ≤ maxLen := by have := numStr_small N (by omega); unfold maxLen; omega
  go_wp2_with fail
  go_at_call 7
  refine (implNum_c _ 65535 hs1' _).mono ?_
  rintro e w2 ⟨rfl, rfl⟩
  rw [hg1, ho1]
  clear hg1 ho1 hs1'
  go_wp2_with fail
  go_at_call 9
  refine (drawParse_c _ z0 _ (r0.below b1) hn w0).mono ?_
  rintro e w3 ⟨sp, mp, hsp, rfl, b3⟩
  have hspm : sp.size ≤ maxLen := by unfold maxLen; omega
  have c3 := b1.trans (b3.mono b1.size)
  clear b1 b3
  obtain ⟨gb, hgb⟩ : ∃ b, numGood sp mp = b := ⟨_, rfl⟩
  obtain ⟨gn, hgn⟩ : ∃ n, numOut sp mp = n := ⟨_, rfl⟩
  have hcI := implNum_c sp mp hspm w3
  have hcS := specNum_c sp mp hspm w3
  rw [hgb, hgn] at hcI hcS
  clear hgb hgn
  go_wp2_with fail
  go_at_call 7
  refine hcI.mono ?_
  rintro e w4 ⟨rfl, rfl⟩
  go_wp2_with fail
  go_at_call 10
  refine hcS.mono ?_
  rintro e w5 ⟨rfl, rfl⟩
  clear hcI hcS
  go_wp2_with fail
  go_at_call 11
  refine (drawSplit_c _ z0 _ (r0.below c3) hn w0).mono ?_
  rintro e w6 ⟨ts, by_, hts, hby0, hby1, rfl, b6⟩
  have c6 := c3.trans (b6.mono c3.size)
  clear b6 c3
  go_wp2_with fail
  go_at_call 12
  refine (drawSorted_c _ z0 _ (r0.below c6) hn w0).mono ?_
  rintro e w7 ⟨ul, ll, hll, hlt, rfl, o7, b7⟩
  have c7 := c6.trans (b7.mono c6.size)
  have rl7 := reads_of_owns o7
  clear b7 c6 o7
  go_wp2_with fail
  go_at_call 13
  refine (implSorted_c _ ll _ rl7 (by omega) (fun s hs => by have := hlt s hs; omega)).mono ?_
  rintro e w8 ⟨um, rfl, o8, b8⟩
  have c8 := c7.trans (b8.mono c7.size)
  have rl8 := rl7.below b8
  have rm8 := reads_of_owns o8
  clear b8 c7 rl7 o8
  have rl := rl8
  have rm := rm8
  obtain ⟨al, capl, rfl, _, hcl⟩ := reads_strs rl8
  obtain ⟨am, capm, rfl, _, hcm⟩ := reads_strs rm8
  have hml : (sortedS ll).length ≤ 6 := Nat.le_trans (sorted_len ll) hll
  clear rl8 rm8
  go_wp2_with fail
  go_loop [16] (fun vi => ∃ k : Nat, k ≤ ll.length ∧ vi = .int .i64 (k : Int)) (fun vi => ll.length - (intOf vi).toNat)
  case atStart => exact ⟨0, Nat.zero_le _, rfl⟩
  case round =>
    obtain ⟨k, hk, rfl⟩ := hrel
    by_cases hk' : k < ll.length
    · obtain ⟨b, off, rfl, hcx⟩ := at_strs hcl hk'
      have hd := (hasS_iff (sortedS ll) ll[k]).2 ((sortedS_mem ll _).2 (List.getElem_mem hk'))
      obtain ⟨t, ht⟩ : ∃ t, t = ll[k] := ⟨_, rfl⟩
      rw [← ht] at hcx hd
      have hki : (k : Int) < (ll.length : Int) := by omega
      clear hcl hcm ht
      go_wp2_with fail
      go_at_call 14
      refine (hasText_c _ (sortedS ll) t _ rm (by omega)).mono ?_
      rintro e w9 ⟨rfl, rfl⟩
      rw [hd]
      go_wp2_with fail
      go_round
      case rel => exact ⟨k + 1, by omega, by go_num⟩
      case measure => simp [intOf]; omega
    have hki : ¬ (k : Int) < (ll.length : Int) := by omega
    go_wp2_with fail
    clear hk hk' hki
    go_loop [17] (fun vi => ∃ k : Nat, k ≤ (sortedS ll).length ∧ vi = .int .i64 (k : Int)) (fun vi => (sortedS ll).length - (intOf vi).toNat)
    case atStart => exact ⟨0, Nat.zero_le _, rfl⟩
    case round =>
      obtain ⟨k, hk, rfl⟩ := hrel
      by_cases hk' : k < (sortedS ll).length
      · obtain ⟨b, off, rfl, hcx⟩ := at_strs hcm hk'
        have hd := (hasS_iff ll (sortedS ll)[k]).2 ((sortedS_mem ll _).1 (List.getElem_mem hk'))
        obtain ⟨t, ht⟩ : ∃ t, t = (sortedS ll)[k] := ⟨_, rfl⟩
        rw [← ht] at hcx hd
        have hki : (k : Int) < ((sortedS ll).length : Int) := by omega
        clear hcl hcm ht
        go_wp2_with fail
        go_at_call 14
        refine (hasText_c _ ll t _ rl (by omega)).mono ?_
        rintro e w9 ⟨rfl, rfl⟩
        rw [hd]
        go_wp2_with fail
        go_round
        case rel => exact ⟨k + 1, by omega, by go_num⟩
        case measure => simp [intOf]; omega
      have hki : ¬ (k : Int) < ((sortedS ll).length : Int) := by omega
      go_wp2_with fail
      go_at_call 15
      refine (drawJoin_c _ z0 _ (r0.below c8) hn w0).mono ?_
      rintro e w9 ⟨uj, lj, sj, hlj, hltj, hsj, rfl, o9, b9⟩
      have c9 := c8.trans (b9.mono c8.size)
      have rj9 := reads_of_owns o9
      have rm9 := rm.below b9
      clear hk hk' hki o9 b9 rm rl c8 hcl hcm
      go_wp2_with fail
      go_at_call 16
      refine (drawNum_c _ z0 _ (r0.below c9) hn w0).mono ?_
      rintro e wA ⟨na, hna0, hna1, rfl, bA⟩
      have cA := c9.trans (bA.mono c9.size)
      have rjA := rj9.below bA
      have rmA := rm9.below bA
      clear c9 rj9 rm9 bA
      go_wp2_with fail
      have htsK : ts.size ≤ 1048575 := by omega
      have htsM : ts.size ≤ 1048576 := by omega
      have hll6 : (sortedS ll).length ≤ 1048576 := by omega
      have hsz : ∀ s ∈ sortedS ll, s.size ≤ 1048576 := fun s hs => by have := hlt s ((sortedS_mem ll s).1 hs); omega
      have hbj := bulk_small lj hlj hltj
      have hsj' : sj.size ≤ 1048576 := by omega
      have hcv0 := conv_digit (w := wA) by_
      have hcvd : (convert 22 9 (.slice (some ⟨wA.heap.size, 0, none⟩) 1 1)).run Tryd.prog ((wA.alloc (.cells #[.int .u8 by_] 5)).drew) = .ok (.string (strOfNums [by_])) ((wA.alloc (.cells #[.int .u8 by_] 5)).drew) := conv_kept by_ (by simp) (by simp) ⟨rfl, rfl, rfl, Nat.le_refl _, fun _ _ => rfl⟩
      obtain ⟨J, hJ⟩ : ∃ J, joinS lj sj = J := ⟨_, rfl⟩
      obtain ⟨NS, hNS⟩ : ∃ S, numStr na.toNat = S := ⟨_, rfl⟩
      have HJ : Hid (joinS lj sj = J) := hJ
      have HNS : Hid (numStr na.toNat = NS) := hNS
      clear hJ hNS
      have HM : Hid (risesS (sortedS ll)) := sortedS_rises ll
      clear hspm hsp w0 hn hb hsj hlj hltj hll hml r0 hlt
      go_region_held (fun _ => True) (exact True.intro) (first
        | (go_at_call 18
           refine (implSplit_c ts by_ _ htsM hby0 hby1).mono ?_
           rintro e wB ⟨vS, rfl, oS, bS⟩
           have rS := reads_of_owns oS
           have kB : Below wA.heap.size wA wB := by first | (with_reducible exact drew_below bS) | (with_reducible exact alloc_below bS)
           have hcv1 := conv_digit (w := wB) by_
           first | (with_reducible have hcv2 := conv_keptA bS) | skip
           have cB := cA.trans (kB.mono cA.size)
           have rmB := rmA.below kB
           have rjB := rjA.below kB
           clear oS bS kB)
        | (go_at_call 17
           have hrS := rS
           refine (implJoinBack_c _ ts by_ _ ?rd htsK).mono ?_
           case rd => first | (with_reducible exact hrS) | (with_reducible exact reads_alloc hrS)
           rintro e wC ⟨rfl, bC⟩
           have kC : Below wB.heap.size wB wC := by first | (with_reducible exact bC) | (with_reducible exact alloc_below' bC)
           have cC := cB.trans (kC.mono cB.size)
           have rmC := rmB.below kC
           have rjC := rjB.below kC
           clear rS hrS bC kC cB rmB rjB)
        | (go_at_call 19
           refine (ascending_c _ (sortedS ll) _ rmC (by omega) HM.out).mono ?_
           rintro e wD ⟨rfl, bD⟩
           have cD := cC.trans (bD.mono cC.size)
           have rmD := rmC.below bD
           have rjD := rjC.below bD
           clear bD cC rmC rjC)
        | (go_at_call 13
           refine (implSortedAgain_c _ ll _ rmD hll6 hsz).mono ?_
           rintro e wE ⟨uE, rfl, rE, bE⟩
           have cE := cD.trans (bE.mono cD.size)
           have rmE := rmD.below bE
           have rjE := rjD.below bE
           clear bE cD rmD rjD)
        | (go_at_call 20
           refine (sameSelf_c _ _ (sortedS ll) _ rE rmE hll6).mono ?_
           rintro e wF ⟨rfl, bF⟩
           have cF := cE.trans (bF.mono cE.size)
           have rjF := rjE.below bF
           clear bF cE rE rmE rjE)
        | (go_at_call 17
           refine (implJoinAs_c _ lj sj J _ rjF hbj hsj' HJ.out).mono ?_
           rintro e wG ⟨rfl, bG⟩
           have cG := cF.trans (bG.mono cF.size)
           have rjG := rjF.below bG
           clear bG cF rjF)
        | (go_at_call 21
           refine (specJoinAs_c _ lj sj J _ rjG hbj hsj' HJ.out).mono ?_
           rintro e wG2 ⟨rfl, rfl⟩)
        | (go_at_call 8
           refine (implNumTextAs_c na NS _ hna0 hna1 (tabIs_below cG HT.out) HNS.out).mono ?_
           rintro e wH ⟨rfl, bH⟩
           have cH := cG.trans (bH.mono cG.size)
           clear bH)
        | (go_at_call 22
           refine (specNumTextAs_c na NS _ hna1 HNS.out).mono ?_
           rintro e wI ⟨rfl, bI⟩
           have cI := cH.trans (bI.mono cH.size)
           clear bI cH))
      all_goals go_wp2_with fail
      all_goals go_ret
      all_goals exact ⟨rfl, cI⟩

set_option maxRecDepth 100000 in
theorem witnessWorld (os : Os) {H : Type} (enc : TypeId × Value → H) : ∃ W0 : World, W0.os = os ∧ (W0.forCall (fun _ _ => 0) ⟨#[], #[.slice none 0 0], []⟩).variablesB Tryd.prog = true ∧
    ((W0.forCall (fun _ _ => 0) ⟨#[], #[.slice none 0 0], []⟩).heap.toList.drop Tryd.prog.globals.size).take ((begin Tryd.prog (fun _ _ => 0) default).world.heap.size - Tryd.prog.globals.size) = (begin Tryd.prog (fun _ _ => 0) default).world.heap.toList.drop Tryd.prog.globals.size ∧
    Input.okWideB Tryd.prog (W0.forCall (fun _ _ => 0) ⟨#[], #[.slice none 0 0], []⟩) 3 ⟨#[], #[.slice none 0 0], []⟩ = true ∧
    laidMet Tryd.prog Rows.fnWordsRow.laid (W0.forCall (fun _ _ => 0) ⟨#[], #[.slice none 0 0], []⟩).memory ∧
    ∃ places, DataW.whole enc Tryd.prog (W0.forCall (fun _ _ => 0) ⟨#[], #[.slice none 0 0], []⟩).memory Tryd.f3.params.toList Rows.fnWordsSpec.vars false (#[.slice none 0 0] : Array Value).toList 8 = some ([.nil], [], places) :=
  ⟨{ World.holding Tryd.prog os ⟨#[], #[], []⟩ with heap := ((((World.holding Tryd.prog os ⟨#[], #[], []⟩).heap).modify 2 (fun | .cells _ t frozen => .cells #[.int .u8 0, .int .u8 1, .int .u8 28, .int .u8 2, .int .u8 29, .int .u8 14, .int .u8 24, .int .u8 3, .int .u8 30, .int .u8 22, .int .u8 20, .int .u8 15, .int .u8 25, .int .u8 17, .int .u8 4, .int .u8 8, .int .u8 31, .int .u8 27, .int .u8 13, .int .u8 23, .int .u8 21, .int .u8 19, .int .u8 16, .int .u8 7, .int .u8 26, .int .u8 12, .int .u8 18, .int .u8 6, .int .u8 11, .int .u8 5, .int .u8 10, .int .u8 9] t frozen | o => o)).modify 3 (fun | .cells _ t frozen => .cells #[.int .u8 0, .int .u8 1, .int .u8 56, .int .u8 2, .int .u8 57, .int .u8 49, .int .u8 28, .int .u8 3, .int .u8 61, .int .u8 58, .int .u8 42, .int .u8 50, .int .u8 38, .int .u8 29, .int .u8 17, .int .u8 4, .int .u8 62, .int .u8 47, .int .u8 59, .int .u8 36, .int .u8 45, .int .u8 43, .int .u8 51, .int .u8 22, .int .u8 53, .int .u8 39, .int .u8 33, .int .u8 30, .int .u8 24, .int .u8 18, .int .u8 12, .int .u8 5, .int .u8 63, .int .u8 55, .int .u8 48, .int .u8 27, .int .u8 60, .int .u8 41, .int .u8 37, .int .u8 16, .int .u8 46, .int .u8 35, .int .u8 44, .int .u8 21, .int .u8 52, .int .u8 32, .int .u8 23, .int .u8 11, .int .u8 54, .int .u8 26, .int .u8 40, .int .u8 15, .int .u8 34, .int .u8 20, .int .u8 31, .int .u8 10, .int .u8 25, .int .u8 14, .int .u8 19, .int .u8 9, .int .u8 13, .int .u8 8, .int .u8 7, .int .u8 6] t frozen | o => o)).modify 1 (fun | .cells _ t frozen => .cells #[.int .u64 1, .int .u64 10, .int .u64 100, .int .u64 1000, .int .u64 10000, .int .u64 100000, .int .u64 1000000, .int .u64 10000000, .int .u64 100000000, .int .u64 1000000000, .int .u64 10000000000, .int .u64 100000000000, .int .u64 1000000000000, .int .u64 10000000000000, .int .u64 100000000000000, .int .u64 1000000000000000, .int .u64 10000000000000000, .int .u64 100000000000000000, .int .u64 1000000000000000000, .int .u64 10000000000000000000] t frozen | o => o) },
    rfl, by kernel_rfl, by kernel_rfl, by kernel_rfl, laidMet_of_run3 8 (by kernel_rfl) (by kernel_rfl) (by kernel_rfl), [], by kernel_rfl⟩

set_option maxRecDepth 100000 in
theorem lifted (os : Os) (started : os.Started) (H : Type) (enc : TypeId × Value → H) (F : Stop.Interp) :
    ReturnsInHanded {} Tryd.checked os 3 .any ((OpenSpec.ofChange Rows.fnWordsSpec).preRow enc Tryd.prog Tryd.f3 Rows.fnWordsRow.domain false Rows.fnWordsRow.laid) (((OpenSpec.ofChange Rows.fnWordsSpec).at F).post enc Tryd.prog Tryd.f3 false true false false) := by
  obtain ⟨W0, hos, hv, hr, hok, hlaid, places, hx⟩ := witnessWorld os enc
  refine returnsInHanded_of_row (C := Tryd.checked) (s := OpenSpec.ofChange Rows.fnWordsSpec) own started (by kernel_rfl) Tryd.func3
    (witness_row_at (enc := enc) (C := Tryd.checked) false W0 #[.slice none 0 0] hos hv hr hok
      (OpenSpec.preRow_of_cond 8 hx (by kernel_rfl) (fun k hk => by cases hk) (by kernel_rfl) hlaid)) ?_
  intro W base args ds gs before hval0 hW _ _ _ hL _ _
  have hval : ∀ (j : Nat) t v, Tryd.f3.params[j]? = some t → args[j]? = some v → Value.okWide Tryd.prog W .any base t v := hval0
  have hW' := hW
  obtain ⟨p, q, hA0, hV, rfl, hfz, hnd⟩ := hW
  have hA : DataW.TrodAll enc Tryd.prog W 0 (fun _ => true) true Tryd.f3.params.toList args.toList ds p := hA0
  rw [Tryd.params3] at hA hval
  obtain ⟨v0, vs0, d0, ds0, p0, q0, hargs, rfl, rfl, h0, r0⟩ := trodAll_cons hA
  obtain ⟨rfl, rfl, rfl⟩ := trodAll_nil r0
  obtain rfl : args = #[v0] := by cases args; simp_all
  obtain ⟨rfl, rfl⟩ := trodVars_none hV
  obtain ⟨a0, len0, cap0, rfl⟩ := okWide_slice Tryd.underlying22 (hval 0 22 v0 rfl rfl)
  have k0 := h0
  have lt0 : ∀ x ∈ p0, x.block < W.heap.size := by obtain ⟨m, hm⟩ := k0; exact DataW.trod_lt m _ _ _ hm
  obtain ⟨z0, t0, w0, l0⟩ : ∃ zs : List Int, Reads W (.slice a0 len0 cap0) (bytesV zs) ∧ (∀ z ∈ zs, 0 ≤ z ∧ z ≤ 255) ∧ zs.length ≤ maxLen := by
    obtain ⟨fuel, hf⟩ := h0
    rcases open_ints Tryd.underlying22 Tryd.underlying5 (by kernel_rfl) hf with ⟨hcs, _⟩ | ⟨x, l, c, zs, hcs, _, hl, hm, hz, _, hcell, hwz⟩
    · simp [Value.cells] at hcs
      obtain ⟨rfl, rfl, rfl⟩ := hcs
      exact ⟨[], ⟨none, 0, rfl, Nat.le_refl _, .inl rfl⟩, by simp, by simp⟩
    · simp [Value.cells] at hcs
      obtain ⟨rfl, rfl, rfl⟩ := hcs
      have hz' : zs.length = cap0 := by simpa using hz
      refine ⟨zs.take len0, reads_mk (by simp; omega) hl (fun i hi => ?_), fun z hzm => ?_, by simp; omega⟩
      · simp at hi
        rw [hcell i (by omega)]
        simp [bytesV, List.getD_eq_getElem?_getD, show i < zs.length by omega]
      · have := hwz z (List.mem_of_mem_take hzm)
        simpa [Lit.wf, IntKind.min, IntKind.max, IntKind.signed, IntKind.bits] using this
  clear hA0 hval0
  refine (walk _ z0 W t0 w0 l0 (powers hL)).mono fun e W' ⟨he, bel⟩ => ?_
  subst he
  exact ⟨_, rfl, _, _, _, [], _, [], hW', trodAll_mk1 (shut_bool Tryd.underlying4 _), (trodAll_cons_mk (Below.trod laidOut (by kernel_rfl) (of_decide_eq_true (by kernel_rfl)) k0 bel lt0) trodAll_mk0), rfl, bel.frame _, fun h => by cases h⟩

theorem said : Rows.FnWordsSaid :=
  OpenClaim.holds_of_cond 3 Tryd.f3 rfl rfl rfl rfl rfl rfl rfl ⟨rfl, rfl, rfl, rfl, rfl⟩ rfl rfl rfl rfl rfl (by kernel_rfl) Tryd.func3 (by kernel_rfl)
    (of_decide_eq_true (by kernel_rfl)) (by unfold Func.isWrapper; first | (rw [if_pos (by decide +kernel)]; kernel_rfl) | (rw [if_neg (by decide +kernel)]; exact ⟨rfl, rfl⟩))
    (fun os started H enc _ F => by rw [OpenClaim.pre_eq_preRow]; exact lifted os started H enc F)

theorem plain (f : FuncId) (fn : Func) (hf : Tryd.pinned.checked.prog.funcNamed "loop.example/g00464/laws.FnWords" = some f) (hfn : Tryd.pinned.checked.prog.funcs[f]? = some fn) :
    false = Tryd.pinned.checked.prog.looks [] ∧ ∀ (j : Nat) t, fn.params[j]? = some t → Tryd.pinned.checked.prog.wantsStandIn t = false := by
  obtain rfl : f = 3 := Option.some.inj ((show Tryd.prog.funcNamed "loop.example/g00464/laws.FnWords" = some 3 by kernel_rfl).symm.trans hf) |>.symm
  obtain rfl : fn = Tryd.f3 := (Option.some.inj (Tryd.func3.symm.trans hfn)).symm
  refine ⟨by kernel_rfl, fun j t ht => ?_⟩
  have hall : (Tryd.f3.params.toList.all fun t => Tryd.prog.wantsStandIn t == false) = true := by kernel_rfl
  exact beq_iff_eq.1 (List.all_eq_true.1 hall t (Array.mem_toList_iff.2 (Array.mem_of_getElem? ht)))

theorem card : Rows.FnWordsCardSaid :=
  Claim7.holds_tied_plain_at .later [] _ _ _ _ said (fun _ h => by cases h) (by kernel_rfl) (fun _ h => by cases h) fnWords_row_tie rfl ⟨rfl, rfl⟩ (by kernel_rfl) rfl plain (by kernel_rfl)
end Go.Proofs.YthapeknfhlpadaaDoor.fnWords
namespace Go.Proofs.YthapeknfhlpadaaDoor
theorem fnWords_holds : Rows.FnWordsCardSaid := fnWords.card
#print axioms fnWords_holds
end Go.Proofs.YthapeknfhlpadaaDoor
