/-
  The text of a value, as the specification tells it: contracts; conditions: the value lies in memory and holds at most 2 to the 20.
-/
import Derived.Test.YtbolphjigjpmiaaDoorVtD
namespace Go.Proofs.YtbolphjigjpmiaaDoor
open Go.RowKit
set_option linter.unusedSimpArgs false
set_option linter.unusedVariables false

theorem size_le_sum {ks : List ByteArray} {t : ByteArray} (h : t ∈ ks) : t.size ≤ (ks.map ByteArray.size).sum := by
  induction ks with
  | nil => simp at h
  | cons a r ih =>
    simp only [List.map_cons, List.sum_cons]
    rcases List.mem_cons.1 h with rfl | h
    · omega
    · have := ih h; omega

set_option maxHeartbeats 8000000 in
set_option maxRecDepth 100000 in
theorem putS_loop4 (n : Int) (s : ByteArray) (l : List Tree) (ks : List ByteArray) (ih : ∀ U ∈ l, PutSC U) (S : Nat → Prop) (c u : Value) (w : World) (d : Nat) (hs : s.size ≤ maxLen) (hl : LiesL S w c l) (hu : ReadsB S w u (strsV ks)) (hB : ∀ b, S b → b < w.heap.size) (hgl : goodL l (d + 1) = true) (hwl : wtL l ≤ 1048576) (hwk : bulkS ks ≤ 1048576) (hkl : True) :
    Calls Tryd.prog 12 #[.agg #[.int .i64 4, .int .i64 n, .string s, c, u]] w fun e w' => e = .returned (.string (Tree.mk 4 n s l ks).txt) ∧ Below w.heap.size w w' := by
  have hbx : ∀ o, Below w.heap.size w (w.alloc o) := fun o => (Below.refl _ _).alloc (Nat.le_refl _) _
  obtain ⟨R, hR⟩ : ∃ R, R = (Tree.mk 4 n s l ks).txt := ⟨_, rfl⟩
  rw [← hR]
  unfold maxLen at hs
  -- the loop
  obtain ⟨a, cap, rfl, hlm, hcp, ha⟩ := hl.at
  unfold maxLen at hlm
  obtain ⟨au, cu, rfl, hcu, hau⟩ := hu
  rw [length_strsV] at hcu
  have hN0 : (w.alloc (.cells #[.int .i64 4, .int .i64 n, .string s, .slice a l.length cap, .slice au (strsV ks).length cu] 30)).heap[w.heap.size]? = some (.cells #[.int .i64 4, .int .i64 n, .string s, .slice a l.length cap, .slice au (strsV ks).length cu] 30 (0, 0)) := vheap_new _ _
  have hbx1 := hbx (.cells #[.int .i64 4, .int .i64 n, .string s, .slice a l.length cap, .slice au (strsV ks).length cu] 30)
  rw [length_strsV] at hN0 hbx1
  rw [length_strsV]
  have HG := hidden (And.intro hgl (And.intro hwl hwk))
  have HSM : Hid (∀ i, (itemsTxt (l.take i) true).size ≤ 32505856) := fun i => Nat.le_trans (items_small hgl hwl i) (by omega)
  have HKL := hidden hkl
  have HTX : Hid (R = ⟨#[91]⟩ ++ (itemsTxt l true ++ ⟨#[93]⟩)) := by show _ = _; rw [hR, txt_mk]; rfl
  clear hgl hwl hR hkl
  go_enter Tryd.func12, Tryd.ntmps12
  go_wp2_with fail
  obtain ⟨wz, hW⟩ : ∃ wz, wz = w.alloc (.cells #[.int .i64 4, .int .i64 n, .string s, .slice a l.length cap, .slice au ks.length cu] 30) := ⟨_, rfl⟩
  rw [← hW] at hN0 hbx1
  rw [← hW]
  clear hW
  go_loopw [3, 4] (fun vx vi wr => ∃ (i : Nat) (Z : ByteArray), i ≤ l.length ∧ vi = .int .i64 (i : Int) ∧ vx = .string Z ∧ Hid (Z = itemsTxt (l.take i) true) ∧ Below wz.heap.size wz wr) (fun _ vi _ => l.length - (intOf vi).toNat)
  case atStart => exact ⟨0, _, Nat.zero_le _, rfl, rfl, (by show _ = _; simp [itemsTxt, fieldsTxt]), Below.refl _ _⟩
  case round =>
    obtain ⟨i, Z, hi, rfl, rfl, hZ, hbz⟩ := hrel
    have hzs : Z.size ≤ 32505856 := by rw [hZ.out]; exact HSM.out i
    have hNr := (hbz.block _ (Array.getElem?_eq_some_iff.1 hN0).1).trans hN0
    have hbr := hbx1.trans (hbz.mono hbx1.size)
    have x0 := vblk_cell hNr 0
    have x3 := vblk_cell hNr 3
    have x4 := vblk_cell hNr 4
    simp only [List.getElem?_toArray, List.getElem?_cons_succ, List.getElem?_cons_zero] at x0 x3 x4
    by_cases hlt : i < l.length
    · rcases ha with rfl | ⟨b, off, rfl, hlb, ha⟩
      · simp at hlt
      obtain ⟨c0, c1, c2, c3, c4, e0, e1, e2, e3, e4, hT⟩ := ha i hlt
      rw [← hbr.cell (by simpa using hB b hlb)] at e0 e1 e2 e3 e4
      have HST : Hid (itemsTxt (l.take (i + 1)) true = Z ++ (if i = 0 then ⟨#[]⟩ else ⟨#[44]⟩) ++ l[i].txt) := by show _ = _; rw [items_take l i hlt, hZ.out]
      have hts := txt_size l[i] (d + 1) (goodL_mem HG.out.1 _ (List.getElem_mem hlt))
      have hwU := wt_le_wtL (List.getElem_mem hlt)
      have hwl9 := HG.out.2.1
      have hgU := goodL_mem HG.out.1 _ (List.getElem_mem hlt)
      have HCall : Hid (∀ w1, Below w.heap.size w w1 → Calls Tryd.prog 12 #[.agg #[c0, c1, c2, c3, c4]] w1 fun e w' => e = .returned (.string l[i].txt) ∧ Below w1.heap.size w1 w') := fun w1 h => ih _ (List.getElem_mem hlt) S _ w1 (d + 1) (hT.keep (.of h hB)) (fun b hb => Nat.lt_of_lt_of_le (hB b hb) h.size) hgU (by omega)
      have htz : l[i].txt.size ≤ 30408728 := by omega
      obtain ⟨X, hX⟩ : ∃ X, X = l[i].txt := ⟨_, rfl⟩
      rw [← hX] at HST htz
      simp only [← hX] at HCall
      have hki : (i : Int) < (l.length : Int) := by omega
      clear ha ih hT hX hts hwU hwl9 hgU
      by_cases hi0 : i = 0
      · subst hi0
        rw [if_pos rfl] at HST
        simp only [Nat.zero_mul, Nat.add_zero, Nat.zero_add] at e0 e1 e2 e3 e4
        have hl0 : (0 : Int) < (l.length : Int) := by omega
        go_wp2_with fail
        go_at_call 12
        refine (HCall.out _ hbr).mono ?_
        rintro e w3 ⟨rfl, b3⟩
        have hb3 := hbz.trans (b3.mono hbz.size)
        clear HCall
        go_wp2_with fail
        go_roundw
        case rel => exact ⟨0 + 1, _, by omega, by go_num, rfl, (by show _ = _; rw [HST.out]; try simp only [empty_append', append_empty', ByteArray.append_assoc]), hb3⟩
        case measure => simp [intOf]; omega
      · have hip : (0 : Int) < (i : Int) := by omega
        rw [if_neg hi0] at HST
        go_wp2_with fail
        go_at_call 12
        refine (HCall.out _ hbr).mono ?_
        rintro e w3 ⟨rfl, b3⟩
        have hb3 := hbz.trans (b3.mono hbz.size)
        clear HCall
        go_wp2_with fail
        go_roundw
        case rel => exact ⟨i + 1, _, by omega, by go_num, rfl, (by show _ = _; rw [HST.out]; try simp only [empty_append', append_empty', ByteArray.append_assoc]), hb3⟩
        case measure => simp [intOf]; omega
    · have he : i = l.length := by omega
      subst he
      have HE : Hid (R = ⟨#[91]⟩ ++ Z ++ ⟨#[93]⟩) := by show _ = _; rw [HTX.out, hZ.out, List.take_length, ByteArray.append_assoc]
      clear ha HTX
      go_wp2_with fail
      go_ret
      exact ⟨by rw [HE.out]; rfl, hbr⟩

set_option maxHeartbeats 8000000 in
set_option maxRecDepth 100000 in
theorem putS_loop5 (n : Int) (s : ByteArray) (l : List Tree) (ks : List ByteArray) (ih : ∀ U ∈ l, PutSC U) (S : Nat → Prop) (c u : Value) (w : World) (d : Nat) (hs : s.size ≤ maxLen) (hl : LiesL S w c l) (hu : ReadsB S w u (strsV ks)) (hB : ∀ b, S b → b < w.heap.size) (hgl : goodL l (d + 1) = true) (hwl : wtL l ≤ 1048576) (hwk : bulkS ks ≤ 1048576) (hkl : ks.length = l.length) :
    Calls Tryd.prog 12 #[.agg #[.int .i64 5, .int .i64 n, .string s, c, u]] w fun e w' => e = .returned (.string (Tree.mk 5 n s l ks).txt) ∧ Below w.heap.size w w' := by
  have hbx : ∀ o, Below w.heap.size w (w.alloc o) := fun o => (Below.refl _ _).alloc (Nat.le_refl _) _
  obtain ⟨R, hR⟩ : ∃ R, R = (Tree.mk 5 n s l ks).txt := ⟨_, rfl⟩
  rw [← hR]
  unfold maxLen at hs
  -- the loop
  obtain ⟨a, cap, rfl, hlm, hcp, ha⟩ := hl.at
  unfold maxLen at hlm
  obtain ⟨au, cu, rfl, hcu, hau⟩ := hu
  rw [length_strsV] at hcu
  have hN0 : (w.alloc (.cells #[.int .i64 5, .int .i64 n, .string s, .slice a l.length cap, .slice au (strsV ks).length cu] 30)).heap[w.heap.size]? = some (.cells #[.int .i64 5, .int .i64 n, .string s, .slice a l.length cap, .slice au (strsV ks).length cu] 30 (0, 0)) := vheap_new _ _
  have hbx1 := hbx (.cells #[.int .i64 5, .int .i64 n, .string s, .slice a l.length cap, .slice au (strsV ks).length cu] 30)
  rw [length_strsV] at hN0 hbx1
  rw [length_strsV]
  have HG := hidden (And.intro hgl (And.intro hwl hwk))
  have HSM : Hid (∀ i, (fieldsTxt (l.take i) ks true).size ≤ 32505856) := fun i => Nat.le_trans (fields_small hgl hwl hwk i) (by omega)
  have HKL := hidden hkl
  have HTX : Hid (R = ⟨#[123]⟩ ++ (fieldsTxt l ks true ++ ⟨#[125]⟩)) := by show _ = _; rw [hR, txt_mk]; rfl
  clear hgl hwl hR hkl
  go_enter Tryd.func12, Tryd.ntmps12
  go_wp2_with fail
  obtain ⟨wz, hW⟩ : ∃ wz, wz = w.alloc (.cells #[.int .i64 5, .int .i64 n, .string s, .slice a l.length cap, .slice au ks.length cu] 30) := ⟨_, rfl⟩
  rw [← hW] at hN0 hbx1
  rw [← hW]
  clear hW
  go_loopw [3, 4] (fun vx vi wr => ∃ (i : Nat) (Z : ByteArray), i ≤ l.length ∧ vi = .int .i64 (i : Int) ∧ vx = .string Z ∧ Hid (Z = fieldsTxt (l.take i) ks true) ∧ Below wz.heap.size wz wr) (fun _ vi _ => l.length - (intOf vi).toNat)
  case atStart => exact ⟨0, _, Nat.zero_le _, rfl, rfl, (by show _ = _; simp [itemsTxt, fieldsTxt]), Below.refl _ _⟩
  case round =>
    obtain ⟨i, Z, hi, rfl, rfl, hZ, hbz⟩ := hrel
    have hzs : Z.size ≤ 32505856 := by rw [hZ.out]; exact HSM.out i
    have hNr := (hbz.block _ (Array.getElem?_eq_some_iff.1 hN0).1).trans hN0
    have hbr := hbx1.trans (hbz.mono hbx1.size)
    have x0 := vblk_cell hNr 0
    have x3 := vblk_cell hNr 3
    have x4 := vblk_cell hNr 4
    simp only [List.getElem?_toArray, List.getElem?_cons_succ, List.getElem?_cons_zero] at x0 x3 x4
    by_cases hlt : i < l.length
    · rcases ha with rfl | ⟨b, off, rfl, hlb, ha⟩
      · simp at hlt
      obtain ⟨c0, c1, c2, c3, c4, e0, e1, e2, e3, e4, hT⟩ := ha i hlt
      rw [← hbr.cell (by simpa using hB b hlb)] at e0 e1 e2 e3 e4
      have HST : Hid (fieldsTxt (l.take (i + 1)) ks true = Z ++ (if i = 0 then ⟨#[]⟩ else ⟨#[44]⟩) ++ (quoteS (ks.getD i ⟨#[]⟩) ++ ⟨#[58]⟩) ++ l[i].txt) := by show _ = _; rw [fields_take l ks i hlt, hZ.out]
      have hts := txt_size l[i] (d + 1) (goodL_mem HG.out.1 _ (List.getElem_mem hlt))
      have hwU := wt_le_wtL (List.getElem_mem hlt)
      have hwl9 := HG.out.2.1
      have hgU := goodL_mem HG.out.1 _ (List.getElem_mem hlt)
      have HCall : Hid (∀ w1, Below w.heap.size w w1 → Calls Tryd.prog 12 #[.agg #[c0, c1, c2, c3, c4]] w1 fun e w' => e = .returned (.string l[i].txt) ∧ Below w1.heap.size w1 w') := fun w1 h => ih _ (List.getElem_mem hlt) S _ w1 (d + 1) (hT.keep (.of h hB)) (fun b hb => Nat.lt_of_lt_of_le (hB b hb) h.size) hgU (by omega)
      have htz : l[i].txt.size ≤ 30408728 := by omega
      obtain ⟨X, hX⟩ : ∃ X, X = l[i].txt := ⟨_, rfl⟩
      rw [← hX] at HST htz
      simp only [← hX] at HCall
      have hki : (i : Int) < (l.length : Int) := by omega
      have hkl2 : i < ks.length := by rw [HKL.out]; exact hlt
      have eK : ∃ bk ok, au = some ⟨bk, ok, none⟩ ∧ wr.cell? ⟨bk, ok + i, none⟩ = some (.string (ks.getD i ⟨#[]⟩)) := by
        rcases hau with hau | ⟨bk, ok, rfl, hbk, hcell⟩
        · exfalso
          have := congrArg List.length hau
          simp at this
          subst this
          simp at hkl2
        · refine ⟨bk, ok, rfl, ?_⟩
          rw [hbr.cell (by simpa using hB bk hbk), hcell i (by simpa using hkl2)]
          simp [strsV, List.getD_eq_getElem?_getD, hkl2]
      obtain ⟨bk, ok, hau2, ek⟩ := eK
      subst hau2
      have hkli : (i : Int) < (ks.length : Int) := by omega
      have hks9 : (ks.getD i ⟨#[]⟩).size ≤ 1048576 := by
        have h9 : ks[i].size ≤ (ks.map ByteArray.size).sum := by
          have : ks[i] ∈ ks := List.getElem_mem hkl2
          clear hcu hau
          induction ks with
          | nil => simp at hkl2
          | cons a r ih2 => exact size_le_sum this
        have h8 := HG.out.2.2
        unfold bulkS at h8
        rw [List.getD_eq_getElem?_getD, List.getElem?_eq_getElem hkl2, Option.getD_some]
        omega
      have HQ := hidden (fun w1 => quote_c (ks.getD i ⟨#[]⟩) w1 hks9)
      have hqs := quote_size (ks.getD i ⟨#[]⟩)
      obtain ⟨K, hK⟩ : ∃ K, K = ks.getD i ⟨#[]⟩ := ⟨_, rfl⟩
      rw [← hK] at HST ek hqs hks9
      simp only [← hK] at HQ
      obtain ⟨QK, hQK⟩ : ∃ Q, Q = quoteS K := ⟨_, rfl⟩
      rw [← hQK] at HST hqs
      simp only [← hQK] at HQ
      clear hK hQK hkl2
      clear ha ih hT hX hts hwU hwl9 hgU
      by_cases hi0 : i = 0
      · subst hi0
        rw [if_pos rfl] at HST
        simp only [Nat.zero_mul, Nat.add_zero, Nat.zero_add] at e0 e1 e2 e3 e4 ek
        have hl0 : (0 : Int) < (l.length : Int) := by omega
        go_wp2_with fail
        go_at_call 21
        refine (HQ.out _).mono ?_
        rintro e w' ⟨rfl, rfl⟩
        go_wp2_with fail
        go_at_call 12
        refine (HCall.out _ hbr).mono ?_
        rintro e w3 ⟨rfl, b3⟩
        have hb3 := hbz.trans (b3.mono hbz.size)
        clear HCall
        go_wp2_with fail
        go_roundw
        case rel => exact ⟨0 + 1, _, by omega, by go_num, rfl, (by show _ = _; rw [HST.out]; try simp only [empty_append', append_empty', ByteArray.append_assoc]), hb3⟩
        case measure => simp [intOf]; omega
      · have hip : (0 : Int) < (i : Int) := by omega
        rw [if_neg hi0] at HST
        go_wp2_with fail
        go_at_call 21
        refine (HQ.out _).mono ?_
        rintro e w' ⟨rfl, rfl⟩
        go_wp2_with fail
        go_at_call 12
        refine (HCall.out _ hbr).mono ?_
        rintro e w3 ⟨rfl, b3⟩
        have hb3 := hbz.trans (b3.mono hbz.size)
        clear HCall
        go_wp2_with fail
        go_roundw
        case rel => exact ⟨i + 1, _, by omega, by go_num, rfl, (by show _ = _; rw [HST.out]; try simp only [empty_append', append_empty', ByteArray.append_assoc]), hb3⟩
        case measure => simp [intOf]; omega
    · have he : i = l.length := by omega
      subst he
      have HE : Hid (R = ⟨#[123]⟩ ++ Z ++ ⟨#[125]⟩) := by show _ = _; rw [HTX.out, hZ.out, List.take_length, ByteArray.append_assoc]
      clear ha HTX
      go_wp2_with fail
      go_ret
      exact ⟨by rw [HE.out]; rfl, hbr⟩

set_option maxHeartbeats 8000000 in
set_option maxRecDepth 100000 in
theorem putS_step (k n : Int) (s : ByteArray) (l : List Tree) (ks : List ByteArray) (ih : ∀ U ∈ l, PutSC U) : PutSC (.mk k n s l ks) := by
  intro S v w d hv hB hg hw
  obtain ⟨c, u, rfl, hs, hk, hl, hu⟩ := hv.out
  have hbx : ∀ o, Below w.heap.size w (w.alloc o) := fun o => (Below.refl _ _).alloc (Nat.le_refl _) _
  rw [good_mk] at hg
  simp at hg
  obtain ⟨⟨_, hh⟩, hgl⟩ := hg
  rw [wt_mk] at hw
  have hwl : wtL l ≤ 1048576 := by omega
  have hwk : bulkS ks ≤ 1048576 := by omega
  have hws : s.size ≤ 1048576 := by omega
  rcases kind_of hh with rfl | rfl | ⟨rfl, h0, h1⟩ | rfl | rfl | ⟨rfl, hkl⟩
  · obtain ⟨a, cap, C, rfl, _⟩ := hl
    obtain ⟨a', cap', rfl, _⟩ := hu
    rw [txt_mk, if_pos rfl]
    clear ih hv hgl hh
    go_enter Tryd.func12, Tryd.ntmps12
    go_wp2_with fail
    go_ret
    exact ⟨rfl, hbx _⟩
  · obtain ⟨a, cap, C, rfl, _⟩ := hl
    obtain ⟨a', cap', rfl, _⟩ := hu
    rw [txt_mk, if_neg (by decide), if_pos rfl]
    clear ih hv hgl hh
    by_cases h1 : n = 1
    · subst h1
      rw [if_pos rfl]
      go_enter Tryd.func12, Tryd.ntmps12
      go_wp2_with fail
      go_ret
      exact ⟨rfl, hbx _⟩
    · rw [if_neg h1]
      go_enter Tryd.func12, Tryd.ntmps12
      go_wp2_with fail
      go_ret
      exact ⟨rfl, hbx _⟩
  · obtain ⟨a, cap, C, rfl, _⟩ := hl
    obtain ⟨a', cap', rfl, _⟩ := hu
    rw [txt_mk, if_neg (by decide), if_neg (by decide), if_pos rfl]
    have HN := hidden (fun w1 => specNum_c n w1 h0 h1)
    obtain ⟨X, hX⟩ : ∃ X, X = numS n := ⟨_, rfl⟩
    simp only [← hX] at HN
    rw [← hX]
    clear ih hv hgl hh hX
    go_enter Tryd.func12, Tryd.ntmps12
    go_wp2_with (go_at_call 20; refine (HN.out _).mono ?_; rintro e w1 ⟨rfl, b1⟩)
    go_ret
    exact ⟨rfl, (hbx _).trans (b1.mono (hbx _).size)⟩
  · obtain ⟨a, cap, C, rfl, _⟩ := hl
    obtain ⟨a', cap', rfl, _⟩ := hu
    rw [txt_mk, if_neg (by decide), if_neg (by decide), if_neg (by decide), if_pos rfl]
    have HQ := hidden (fun w1 => quote_c s w1 hws)
    obtain ⟨X, hX⟩ : ∃ X, X = quoteS s := ⟨_, rfl⟩
    simp only [← hX] at HQ
    rw [← hX]
    clear ih hv hgl hh hX
    go_enter Tryd.func12, Tryd.ntmps12
    go_wp2_with (go_at_call 21; refine (HQ.out _).mono ?_; rintro e w1 ⟨rfl, rfl⟩)
    go_ret
    exact ⟨rfl, hbx _⟩
  · exact putS_loop4 n s l ks ih S c u w d hs hl hu hB hgl hwl hwk trivial
  · exact putS_loop5 n s l ks ih S c u w d hs hl hu hB hgl hwl hwk hkl
theorem putS_all : ∀ T, PutSC T := Tree.ind fun k n s l ks ih => putS_step k n s l ks ih

def vtxt (T : Tree) : ByteArray := if T.ok = true then T.txt else ⟨#[]⟩
set_option maxHeartbeats 8000000 in
set_option maxRecDepth 100000 in
theorem specValText_c (T : Tree) (S : Nat → Prop) (v : Value) (w : World) (hv : Lies S w v T) (hB : ∀ b, S b → b < w.heap.size) (hw : T.wt ≤ 1048576) :
    Calls Tryd.prog 5 #[v] w fun e w' => e = .returned (.string (vtxt T)) ∧ Below w.heap.size w w' := by
  have hbx : ∀ o, Below w.heap.size w (w.alloc o) := fun o => (Below.refl _ _).alloc (Nat.le_refl _) _
  have HOK : Hid (∀ w1, Below w.heap.size w w1 → Calls Tryd.prog 11 #[v] w1 fun e w' => e = .returned (.bool T.ok) ∧ Below w1.heap.size w1 w') := fun w1 h => specValOk_c T S v w1 (hv.keep (.of h hB)) (fun b hb => Nat.lt_of_lt_of_le (hB b hb) h.size)
  have HPT : Hid (T.ok = true → ∀ w1, Below w.heap.size w w1 → Calls Tryd.prog 12 #[v] w1 fun e w' => e = .returned (.string T.txt) ∧ Below w1.heap.size w1 w') := fun hok w1 h => putS_all T S v w1 1 (hv.keep (.of h hB)) (fun b hb => Nat.lt_of_lt_of_le (hB b hb) h.size) (by unfold Tree.ok at hok; simp at hok; exact hok.1) hw
  obtain ⟨k, n, s, a, m, cap, a', m', cap', rfl⟩ := hv.parts
  clear hv
  unfold vtxt
  cases hok : T.ok with
  | false =>
    rw [hok] at HOK
    rw [if_neg (by simp)]
    clear HPT hok
    go_enter Tryd.func5, Tryd.ntmps5
    go_wp2_with (go_at_call 11; refine (HOK.out _ (hbx _)).mono ?_; rintro e w1 ⟨rfl, b1⟩)
    go_ret
    exact ⟨rfl, (hbx _).trans (b1.mono (hbx _).size)⟩
  | true =>
    rw [hok] at HOK
    rw [if_pos rfl]
    have HP2 := hidden (HPT.out hok)
    obtain ⟨X, hX⟩ : ∃ X, X = T.txt := ⟨_, rfl⟩
    simp only [← hX] at HP2
    rw [← hX]
    clear HPT hok hX
    go_enter Tryd.func5, Tryd.ntmps5
    go_wp2_with fail
    go_at_call 11
    refine (HOK.out _ (hbx _)).mono ?_
    rintro e w1 ⟨rfl, b1⟩
    obtain ⟨x0, x1, x2, x3, x4⟩ := box5 b1
    have k1 := (hbx (.cells #[.int .i64 k, .int .i64 n, .string s, .slice a m cap, .slice a' m' cap'] 30)).trans (b1.mono (hbx _).size)
    clear b1
    go_wp2_with fail
    go_at_call 12
    refine (HP2.out _ k1).mono ?_
    rintro e w2 ⟨rfl, b2⟩
    go_wp2_with fail
    go_ret
    exact ⟨rfl, k1.trans (b2.mono k1.size)⟩
end Go.Proofs.YtbolphjigjpmiaaDoor
