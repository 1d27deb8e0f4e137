/-
  Contracts for the walks, several texts in one: each part says what it proves, and under which conditions.
-/
import Derived.Sort.Walk0
import Derived.Test.YtlfmefojcmpfeaaGreatDoorQ9
import Derived.Test.YtlfmefojcmpfeaaGreatDoorQ6
import Derived.Test.YtlfmefojcmpfeaaGreatDoorQ2

/-! What the specification's ParseRange answers: what the program's is told to: a contract for the walks; condition: the text has at most 2 to the 20 bytes. -/
namespace Go.Proofs.YtlfmefojcmpfeaaGreatDoor
open Go.RowKit
set_option linter.unusedSimpArgs false
set_option linter.unusedVariables false

theorem rangeOwn_empty (w : World) (lo : Nat) (h : lo ≤ w.heap.size) : RangeOwn lo (w.alloc (.cells #[] 203)) (.slice (some ⟨w.heap.size, 0, none⟩) 0 0) [] :=
  ⟨[], fun _ => 0, fun _ => 0, World.ownsRow_lit w #[] 0 (base := lo) (e := 203) (size := 1) h (by unfold maxLen; omega) rfl, fun i h => by simp at h, fun i j _ h => by simp at h⟩

theorem owns_slice {w : World} {base : Nat} {e : TypeId} {v : Value} {n : Nat} {xs : List Value} (h : w.ownsRow base e 1 v n xs) : ∃ q m c, v = .slice q m c := by
  rcases h.2 with ⟨h, _⟩ | ⟨g, cap, cur, h, _⟩
  · exact ⟨_, _, _, h⟩
  · exact ⟨_, _, _, h⟩

theorem word_bulk (x : ByteArray) : ∀ d ∈ wordD x, bulkS d.ps ≤ 1048576 := by
  unfold wordD
  split
  · intro d hd
    simp at hd
    subst hd
    simp [bulkS]
  · split
    · rename_i hp
      exact make_bulk _ _ _ _ _ _ (part_nums hp).2.2
    · intro d hd; simp at hd
theorem foldS_bulk : ∀ (ws : List ByteArray) (acc : List CmpD), (∀ d ∈ acc, bulkS d.ps ≤ 1048576) → ∀ d ∈ (foldS ws acc).2, bulkS d.ps ≤ 1048576
  | [], acc => fun h => by simpa [foldS] using h
  | x :: ws, acc => fun h => by
    rw [foldS]
    split
    · exact foldS_bulk ws _ (fun d hd => by
        rcases List.mem_append.1 hd with hd | hd
        · exact h d hd
        · exact word_bulk x d hd)
    · exact h
theorem res_bulk (x : ByteArray) : bulkS (resP x) ≤ 27 := by
  cases h : resOk x with
  | true => exact bk_bulk (bk_ver x h)
  | false =>
    have : resAll x = none := by
      cases hr : resAll x with
      | none => rfl
      | some r => simp [resOk, hr] at h
    simp [resP, this, bulkS]
theorem list_bulk (ws : List ByteArray) : ∀ d ∈ (listS ws).2, bulkS d.ps ≤ 1048576 := by
  unfold listS
  split
  · intro d hd
    simp only [bothD, List.mem_cons, List.not_mem_nil, or_false] at hd
    rcases hd with rfl | rfl
    · have := res_bulk (ws.getD 0 ⟨#[]⟩); simp only; omega
    · have := res_bulk (ws.getD 2 ⟨#[]⟩); simp only; omega
  · exact foldS_bulk ws [] (fun d hd => by simp at hd)
theorem list_four (ws : List ByteArray) (h : (listS ws).1 = true) : (listS ws).2.length ≤ 4 := by
  unfold listS at h ⊢
  split
  · simp [bothD]
  · rename_i hn
    rw [if_neg hn] at h
    exact foldS_four ws [] h
theorem foldR_len : ∀ (ts : List ByteArray) (acc dss : List (List CmpD)), foldR ts acc = some dss → dss.length = acc.length + ts.length
  | [], acc, dss => fun h => by simp [foldR] at h; subst h; simp
  | t :: ts, acc, dss => fun h => by
    rw [foldR] at h
    split at h
    · have := foldR_len ts _ _ h
      simp at this ⊢
      omega
    · simp at h

set_option maxHeartbeats 4000000 in
set_option maxRecDepth 100000 in
theorem specRange_c (s : ByteArray) (hs : s.size ≤ 1048576) (w : World) :
    Calls Tryz.prog 89 #[.string s] w fun e w' => ∃ v, e = .returned (.tuple #[v, .bool (rangeI s).isSome]) ∧ RangeOwn w.heap.size w' v ((rangeI s).getD []) ∧ Below w.heap.size w w' := by
  have HS := l4Sides_c s hs (w.alloc (.cells #[] 203))
  have hpc : ∀ x ∈ sidesI s, x.size ≤ s.size := splitB_piece orT 0 rfl _ s
  have hl : (sidesI s).length = Lib.countB s orT + 1 := Lib.splitB_all orT (by decide) 0 _ s rfl
  have hl0 : 0 < (sidesI s).length := by omega
  have hll : (sidesI s).length ≤ 1048577 := by
    have := Lib.countB_le orT (by decide) s.size s (Nat.le_refl _)
    omega
  have HR : Hid (rangeI s = if 4 < (sidesI s).length then none else foldR (sidesI s) []) := rfl
  obtain ⟨ts, hts⟩ : ∃ ts, ts = sidesI s := ⟨_, rfl⟩
  obtain ⟨R, hR⟩ : ∃ R, R = rangeI s := ⟨_, rfl⟩
  rw [← hts] at HS hpc HR hll hl0
  rw [← hR] at HR
  rw [← hR]
  clear hts hR hl
  have b1 : Below w.heap.size w (w.alloc (.cells #[] 203)) := (Below.refl _ _).alloc (Nat.le_refl _) _
  have O1 := rangeOwn_empty w w.heap.size (Nat.le_refl _)
  obtain ⟨i0, hi, hz0, hz1, hz2⟩ := info_parts infoCmps
  go_enter Tryz.func89, Tryz.ntmps89
  go_wp2_with fail
  go_at_call 165
  refine HS.mono ?_
  rintro e w3 ⟨v3, rfl, o3, b3⟩
  obtain ⟨qw, cw, hv, hcw, hc3⟩ := reads_strs (reads_of_owns o3)
  subst hv
  rcases hc3 with hw0 | ⟨bq, off, rfl, hbq, hcell⟩
  · rw [hw0] at hl0; simp at hl0
  have k3 := b1.trans (b3.mono b1.size)
  have O3 := O1.below b3
  have o3' := owns_base o3 b1.size
  clear HS o3 O1 b1 b3
  go_wp2_with fail
  go_loopw [4, 6, 7, 8] (fun v4 vi v7 v8 wr => ∃ (k : Nat) (acc : List (List CmpD)), k ≤ ts.length ∧ vi = .int .i64 (k : Int) ∧ RangeOwn w.heap.size wr v4 acc ∧ acc.length = k ∧ Hid (foldR (ts.drop k) acc = foldR ts []) ∧ wr.ownsRow w.heap.size 9 1 (.slice (some ⟨bq, off, none⟩) ts.length cw) ts.length (strsV ts) ∧ Below w.heap.size w wr) (fun _ vi _ _ _ => ts.length - (intOf vi).toNat)
  case atStart => exact ⟨0, [], Nat.zero_le _, rfl, O3, rfl, rfl, o3', k3⟩
  case round =>
    obtain ⟨k, acc, hk, rfl, hacc, hal, hf, oL, hbr⟩ := hrel
    clear O3 o3' hcell hbq
    obtain ⟨qz, cz, hvz, _, hcz⟩ := reads_strs (reads_of_owns oL)
    cases hvz
    rcases hcz with hz | ⟨bz, oz, hqz, hbq, hcell⟩
    · rw [hz] at hl0; simp at hl0
    cases hqz
    obtain ⟨qv, nv, cv, hv5⟩ : ∃ q n c, u4 = .slice q n c := by
      obtain ⟨vs, ls, hs, h1, _⟩ := hacc
      rcases h1.2 with ⟨h, _⟩ | ⟨g, cap, cur, h, _⟩
      · exact ⟨_, _, _, h⟩
      · exact ⟨_, _, _, h⟩
    subst hv5
    have hnv : nv = acc.length := by
      obtain ⟨vs, ls, hs, h1, _⟩ := hacc
      rcases h1.2 with ⟨h, h'⟩ | ⟨g, cap, cur, h, _⟩
      · cases h; exact h'.symm
      · cases h; rfl
    subst hnv
    subst hal
    by_cases hlt : acc.length < ts.length
    · have hcx : wr.cell? ⟨bq, off + acc.length, none⟩ = some (.string ts[acc.length]) := hcell acc.length hlt
      have hsk : ts[acc.length].size ≤ 1048576 := by have := hpc ts[acc.length] (List.getElem_mem _); omega
      have hdr : ts.drop acc.length = ts[acc.length] :: ts.drop (acc.length + 1) := List.drop_eq_getElem_cons hlt
      rw [hdr, foldR] at hf
      obtain ⟨x, hx⟩ : ∃ x, x = ts[acc.length] := ⟨_, rfl⟩
      rw [← hx] at hcx hsk hf
      have HT : Hid (∀ w1, Calls Tryz.prog 167 #[.string x] w1 fun e w' => e = .returned (.string (trimS x)) ∧ w1 = w') := fun w1 => l4Trim_c x (by omega) w1
      have htz : (trimS x).size ≤ 1048576 := Nat.le_trans (trimS_size x) hsk
      obtain ⟨y, hy⟩ : ∃ y, y = trimS x := ⟨_, rfl⟩
      rw [← hy] at HT htz hf
      have HSp : Hid (∀ w1, Calls Tryz.prog 127 #[.string y, .int .u8 32] w1 fun e w' => ∃ v, e = .returned v ∧ w'.ownsRow w1.heap.size 9 1 v (splitS y 32).length (strsV (splitS y 32)) ∧ Below w1.heap.size w1 w') := fun w1 => specSplit_c y 32 w1 htz
      have hwl : (splitS y 32).length ≤ 1048577 := by have := splitS_len y 32; omega
      have hw0 := splitS_pos y 32
      have hwz : ∀ z ∈ splitS y 32, z.size ≤ 1048576 := fun z hz => Nat.le_trans (splitS_piece y 32 z hz) htz
      obtain ⟨ws, hws⟩ : ∃ z, z = splitS y 32 := ⟨_, rfl⟩
      rw [← hws] at HSp hwl hw0 hwz hf
      rw [list_same] at hf
      have hb4 := list_four ws
      have hbk := list_bulk ws
      have HLs : Hid (∀ w1 v, Reads w1 v (strsV ws) → Calls Tryz.prog 166 #[v] w1 fun e w' => ∃ v', e = .returned (.tuple #[v', .bool (listS ws).1]) ∧ CmpsOwn w1.heap.size w' v' (listS ws).2 ∧ Below w1.heap.size w1 w') := fun w1 v hv => l4List_c ws hwl hwz hw0 v w1 hv
      obtain ⟨ok, hok⟩ : ∃ z, z = (listS ws).1 := ⟨_, rfl⟩
      obtain ⟨ds, hds⟩ : ∃ z, z = (listS ws).2 := ⟨_, rfl⟩
      rw [← hok, ← hds] at HLs hf hb4
      rw [← hds] at hbk
      have hki : (acc.length : Int) < (ts.length : Int) := by omega
      clear hx hy hws hok hds hdr hcell hwl hw0 hwz
      cases ok with
      | false =>
        have HN : Hid (R = none) := by
          show _ = _
          rw [HR.out, ← hf.out]; simp
        clear hf HR
        go_wp2_with (first
          | (go_at_call 167; refine (HT.out _).mono ?_; rintro e w' ⟨rfl, rfl⟩)
          | (go_at_call 127; refine (HSp.out _).mono ?_; rintro e w4 ⟨v4, rfl, o4, b4⟩; have R4 := reads_of_owns o4; obtain ⟨q4, n4, c4, hq4⟩ := owns_slice o4; subst hq4)
          | (go_at_call 166; refine (HLs.out _ _ R4).mono ?_; rintro e w5 ⟨v5, rfl, o5, b5⟩; obtain ⟨q5, c5, us5, hq5, _, _⟩ := o5.at; subst hq5))
        go_ret2
        have k5 := (hbr.trans (b4.mono hbr.size)).trans (b5.mono (Nat.le_trans hbr.size b4.size))
        exact ⟨_, by rw [HN.out]; rfl, by rw [HN.out]; exact rangeOwn_empty _ _ k5.size, k5.alloc k5.size _⟩
      | true =>
        have hd4 := hb4 rfl
        obtain ⟨gd, hgd⟩ : ∃ z, z = ds.all goodD := ⟨_, rfl⟩
        have HGd : Hid (∀ lo w1 v, CmpsOwn lo w1 v ds → Calls Tryz.prog 168 #[v] w1 fun e w' => e = .returned (.bool gd) ∧ Below w1.heap.size w1 w') := fun lo w1 v hv => by rw [hgd]; exact l4Good_c lo v ds w1 hv (by omega) hbk
        rw [← hgd] at hf
        clear hgd hb4 hbk
        cases gd with
        | false =>
          have HN : Hid (R = none) := by
            show _ = _
            rw [HR.out, ← hf.out]; simp
          clear hf HR
          go_wp2_with (first
            | (go_at_call 167; refine (HT.out _).mono ?_; rintro e w' ⟨rfl, rfl⟩)
            | (go_at_call 127; refine (HSp.out _).mono ?_; rintro e w4 ⟨v4, rfl, o4, b4⟩; have R4 := reads_of_owns o4; obtain ⟨q4, n4, c4, hq4⟩ := owns_slice o4; subst hq4)
            | (go_at_call 166; refine (HLs.out _ _ R4).mono ?_; rintro e w5 ⟨v5, rfl, o5, b5⟩; obtain ⟨q5, c5, us5, hq5, _, _⟩ := o5.at; subst hq5)
            | (go_at_call 168; refine (HGd.out _ _ _ o5).mono ?_; rintro e w6 ⟨rfl, b6⟩))
          go_ret2
          have k5 := (hbr.trans (b4.mono hbr.size)).trans (b5.mono (Nat.le_trans hbr.size b4.size))
          have k6 := k5.trans (b6.mono k5.size)
          exact ⟨_, by rw [HN.out]; rfl, by rw [HN.out]; exact rangeOwn_empty _ _ k6.size, k6.alloc k6.size _⟩
        | true =>
          have HN : Hid (foldR (ts.drop (acc.length + 1)) (acc ++ [ds]) = foldR ts []) := by
            show _ = _
            rw [← hf.out]; simp
          have hlo : w.heap.size ≤ wr.heap.size := hbr.size
          have HRW : Hid (∀ j, Value.ownBlock (.slice qv acc.length cv) = some j → w.heap.size ≤ j) := fun j hj => by
            obtain ⟨vs, ls, hs, h1, _⟩ := hacc
            exact (h1.lt j hj).1
          have HSN : Hid (∀ w6 v4, Below wr.heap.size wr w6 → CmpsOwn wr.heap.size w6 v4 ds → ∃ vs, w6.ownsRow w.heap.size 203 1 (.slice qv acc.length cv) acc.length vs ∧ ∀ o w7 v7, w7.ownsRow w.heap.size 203 1 v7 (acc.length + 1) (vs ++ [v4]) → (w6.alloc o).grownBy w7 (Value.ownBlock (.slice qv acc.length cv)) → RangeOwn w.heap.size w7 v7 (acc ++ [ds])) := fun w6 v4 b h4 => hacc.snoc hlo b h4
          have HLK : Hid (∀ w6, Below wr.heap.size wr w6 → ∀ vs o w7, w6.ownsRow w.heap.size 203 1 (.slice qv acc.length cv) acc.length vs → (w6.alloc o).grownBy w7 (Value.ownBlock (.slice qv acc.length cv)) → w7.ownsRow w.heap.size 9 1 (.slice (some ⟨bq, off, none⟩) ts.length cw) ts.length (strsV ts)) := fun w6 b vs o w7 o6 gr => by
            have h1 := (owns_of_below oL b).alloc o
            exact h1.kept gr (rowsG_apart (o6.alloc o) h1 (by decide))
          clear hf hacc
          go_wp2_with (first
            | (go_at_call 167; refine (HT.out _).mono ?_; rintro e w' ⟨rfl, rfl⟩)
            | (go_at_call 127; refine (HSp.out _).mono ?_; rintro e w4 ⟨v4, rfl, o4, b4⟩; have R4 := reads_of_owns o4; obtain ⟨q4, n4, c4, hq4⟩ := owns_slice o4; subst hq4)
            | (go_at_call 166; refine (HLs.out _ _ R4).mono ?_; rintro e w5 ⟨v5, rfl, o5, b5⟩; obtain ⟨q5, c5, us5, hq5, _, _⟩ := o5.at; subst hq5)
            | (go_at_call 168; refine (HGd.out _ _ _ o5).mono ?_; rintro e w6 ⟨rfl, b6⟩; have b46 := b4.trans (b5.mono b4.size); have bw6 := b46.trans (b6.mono b46.size); obtain ⟨vs, o6, hsn⟩ := HSN.out w6 _ bw6 ((o5.below b6).lower b4.size); have HSN3 : Hid (∀ o w7 v7, w7.ownsRow w.heap.size 203 1 v7 (acc.length + 1) (vs ++ [.slice q5 ds.length c5]) → (w6.alloc o).grownBy w7 (Value.ownBlock (.slice qv acc.length cv)) → RangeOwn w.heap.size w7 v7 (acc ++ [ds])) := hsn; clear hsn)
            | (at_builtin; refine wpList_append_own _ rfl _ _ 116 rfl w.heap.size 203 i0 (.slice none 0 0) 1 24 Tryz.underlying116 hi hz0 hz1 hz2 rfl (by decide) (.slice qv acc.length cv) acc.length vs rfl (o6.alloc _) ⟨w6.heap.size, 0, none⟩ 1 1 [.slice q5 ds.length c5] rfl rfl (cell_one_c _ _ _) (fun u hu => by simp at hu; subst hu; rfl) (by unfold maxLen; omega) (by omega) (by have h1 := hlo; have h2 := bw6.size; simp; omega) ?_))
          intro v7 w7 o7 gr7 _
          have kx := hbr.trans (bw6.mono hlo)
          have k7 := below_turned (kx.alloc kx.size _) gr7 (by have := kx.size; simp; omega) HRW.out
          have hown := HSN3.out _ w7 v7 o7 gr7
          have hL7 := HLK.out w6 bw6 vs _ w7 o6 gr7
          clear HSN3 HSN o6 o7 gr7
          go_wp2_with fail
          go_roundw
          case rel => exact ⟨acc.length + 1, acc ++ [ds], by omega, by go_num, hown, by simp, HN, hL7, k7⟩
          case measure => simp [intOf]; omega
    · have he : acc.length = ts.length := by omega
      have hki : ¬ (acc.length : Int) < (ts.length : Int) := by omega
      have HA : Hid (foldR ts [] = some acc) := by show _ = _; rw [← hf.out, he, List.drop_length, foldR]
      by_cases h4 : 4 < acc.length
      · have HN : Hid (R = none) := by show _ = _; rw [HR.out, if_pos (by omega)]
        have h4' : (4 : Int) < (acc.length : Int) := by omega
        clear hf HR HA hcell he
        go_wp2_with fail
        go_ret2
        exact ⟨_, by rw [HN.out]; rfl, by rw [HN.out]; exact rangeOwn_empty _ _ hbr.size, hbr.alloc hbr.size _⟩
      · have HN : Hid (R = some acc) := by show _ = _; rw [HR.out, if_neg (by omega), HA.out]
        have h4' : ¬ (4 : Int) < (acc.length : Int) := by omega
        clear hf HR HA hcell he
        go_wp2_with fail
        go_ret2
        exact ⟨_, by rw [HN.out]; rfl, by rw [HN.out]; exact hacc, hbr⟩
end Go.Proofs.YtlfmefojcmpfeaaGreatDoor

/-! Two lists of Cmps, and two lists of such lists, that are the same are told so by the law's own comparison: contracts for what lies in memory. -/
namespace Go.Proofs.YtlfmefojcmpfeaaGreatDoor
open Go.RowKit
set_option linter.unusedSimpArgs false
set_option linter.unusedVariables false

end Go.Proofs.YtlfmefojcmpfeaaGreatDoor

/-! A range that is the call's own lies in memory as a range that comes in does: no condition but that it is small. -/
namespace Go.Proofs.YtlfmefojcmpfeaaGreatDoor
open Go.RowKit
set_option linter.unusedSimpArgs false
set_option linter.unusedVariables false

theorem sane_bulk {ps : List ByteArray} (h : bulkS ps ≤ 1048576) : saneP ps := by
  refine ⟨?_, fun s hs => ?_⟩
  · unfold bulkS at h; unfold maxLen; omega
  · have := size_of_bulk hs; unfold maxLen; omega

theorem CmpsSeg.cmpsIn {lo hi : Nat} {w : World} {v : Value} {ds : List CmpD} (h : CmpsSeg lo hi w v ds) (hl : ds.length ≤ 4) (hb : ∀ d ∈ ds, bulkS d.ps ≤ 1048576) : CmpsIn (Ow lo w.heap.size) w v ds := by
  obtain ⟨ys, us, h1, h2, _, _⟩ := h
  have hlen := h1.1
  rcases h1.2 with ⟨rfl, hn⟩ | ⟨g, cap, cur, rfl, hg, hh, hx⟩
  · have e : ds = [] := List.eq_nil_of_length_eq_zero hn
    subst e
    exact ⟨none, 0, rfl, by simp, by simp, .inl rfl⟩
  · have hlt := (Array.getElem?_eq_some_iff.1 hh).1
    refine ⟨_, cap, rfl, by unfold maxLen; omega, by omega, .inr ⟨g, 0, us, rfl, ⟨hg, hlt⟩, fun i hi => ?_⟩⟩
    rw [Nat.zero_add]
    obtain ⟨⟨f0, f1, f2, f3, f4⟩, ou⟩ := h2 i hi
    refine ⟨?_, ?_, ?_, ?_, ?_, rdB_owns ou, sane_bulk (hb _ (List.getElem_mem hi))⟩ <;> rw [h1.cellAt _ (by omega)] <;> assumption

theorem RangeOwn.rangeIn {lo : Nat} {w : World} {v : Value} {dss : List (List CmpD)} (h : RangeOwn lo w v dss) (hl : dss.length ≤ 4) (h4 : ∀ ds ∈ dss, ds.length ≤ 4) (hb : ∀ ds ∈ dss, ∀ d ∈ ds, bulkS d.ps ≤ 1048576) : RangeIn (Ow lo w.heap.size) w v dss := by
  obtain ⟨vs, ls, hs, h1, h2, _⟩ := h
  have hlen := h1.1
  rcases h1.2 with ⟨rfl, hn⟩ | ⟨g, cap, cur, rfl, hg, hh, hx⟩
  · have e : dss = [] := List.eq_nil_of_length_eq_zero hn
    subst e
    exact ⟨none, 0, rfl, by simp, by simp, .inl rfl⟩
  · have hlt := (Array.getElem?_eq_some_iff.1 hh).1
    refine ⟨_, cap, rfl, by unfold maxLen; omega, by omega, .inr ⟨g, 0, fun i => vs.getD i undef, rfl, ⟨hg, hlt⟩, fun i hi => ?_⟩⟩
    obtain ⟨u, hu, hlo, hhi, hseg⟩ := h2 i hi
    have e : vs.getD i undef = u := by simp [List.getD_eq_getElem?_getD, hu]
    show w.cell? ⟨g, 0 + i, none⟩ = some (vs.getD i undef) ∧ CmpsIn (Ow lo w.heap.size) w (vs.getD i undef) dss[i]
    rw [e, Nat.zero_add]
    exact ⟨(h1.cellAt i (by omega)).trans hu, (hseg.cmpsIn (h4 _ (List.getElem_mem hi)) (hb _ (List.getElem_mem hi))).mono (Ow.mono hlo (Nat.le_refl _))⟩

theorem RangeOwn.slice {lo : Nat} {w : World} {v : Value} {dss : List (List CmpD)} (h : RangeOwn lo w v dss) : ∃ q c, v = .slice q dss.length c := by
  obtain ⟨_, _, _, ho, _⟩ := h
  rcases ho.2 with ⟨rfl, h0⟩ | ⟨g, c, cur, rfl, _⟩
  · exact ⟨_, _, by rw [h0]⟩
  · exact ⟨_, _, rfl⟩
end Go.Proofs.YtlfmefojcmpfeaaGreatDoor

/-! A range that a call holds alone, read as the law reads it; how much it holds: pure but for the memory; no condition. -/
namespace Go.Proofs.YtlfmefojcmpfeaaGreatDoor
open Go.RowKit
set_option linter.unusedSimpArgs false
set_option linter.unusedVariables false

/-- Each list that is read holds at most four Cmps, each with texts that are short. -/
theorem listC_small {ws : List ByteArray} {ds : List CmpD} (h : listC ws = some ds) : ds.length ≤ 4 ∧ ∀ d ∈ ds, goodD d = true := by
  rw [list_same] at h
  split at h
  · rename_i hc
    simp only [Option.some.injEq] at h
    subst h
    simp only [Bool.and_eq_true] at hc
    exact ⟨list_four ws hc.1, fun d hd => List.all_eq_true.1 hc.2 d hd⟩
  · simp at h
theorem foldR_small : ∀ (ts : List ByteArray) (acc dss : List (List CmpD)), foldR ts acc = some dss → (∀ ds ∈ acc, ds.length ≤ 4 ∧ ∀ d ∈ ds, goodD d = true) → ∀ ds ∈ dss, ds.length ≤ 4 ∧ ∀ d ∈ ds, goodD d = true
  | [], acc, dss => fun h ha => by simp [foldR] at h; subst h; exact ha
  | t :: ts, acc, dss => fun h ha => by
    rw [foldR] at h
    split at h
    · rename_i ds hds
      exact foldR_small ts _ _ h (fun e he => by
        rcases List.mem_append.1 he with he | he
        · exact ha e he
        · simp at he; subst he; exact listC_small hds)
    · simp at h
theorem range_small (s : ByteArray) : ((rangeI s).getD []).length ≤ 4 ∧ (∀ ds ∈ (rangeI s).getD [], ds.length ≤ 4) ∧ ∀ ds ∈ (rangeI s).getD [], ∀ d ∈ ds, bulkS d.ps ≤ 27 := by
  unfold rangeI
  split
  · simp
  · rename_i h4
    cases hf : foldR (sidesI s) [] with
    | none => simp
    | some dss =>
      have hl := foldR_len _ _ _ hf
      have hs := foldR_small _ _ _ hf (fun ds hd => by simp at hd)
      simp only [Option.getD_some]
      exact ⟨by simp at hl; omega, fun ds hd => (hs ds hd).1, fun ds hd d hd' => bk_bulk ((hs ds hd).2 d hd')⟩
theorem sum_le (l : List Nat) (m : Nat) (h : ∀ x ∈ l, x ≤ m) : l.sum ≤ l.length * m := by
  induction l with
  | nil => simp
  | cons x l ih =>
    have h1 := h x (by simp)
    have h2 := ih (fun y hy => h y (by simp [hy]))
    simp only [List.sum_cons, List.length_cons]
    rw [Nat.succ_mul]
    omega
theorem range_weight (s : ByteArray) : wtR ((rangeI s).getD []) ≤ 1048576 := by
  obtain ⟨h1, h2, h3⟩ := range_small s
  generalize (rangeI s).getD [] = dss at h1 h2 h3
  have hc : ∀ ds ∈ dss, wtC ds ≤ 112 := fun ds hd => by
    have := sum_le (ds.map fun d => 1 + bulkS d.ps) 28 (fun x hx => by
      obtain ⟨d, hd', rfl⟩ := List.mem_map.1 hx
      have := h3 ds hd d hd'
      omega)
    rw [List.length_map] at this
    have h4 := h2 ds hd
    unfold wtC
    omega
  have := sum_le (dss.map fun ds => 1 + wtC ds) 113 (fun x hx => by
    obtain ⟨ds, hd', rfl⟩ := List.mem_map.1 hx
    have := hc ds hd'
    omega)
  rw [List.length_map] at this
  unfold wtR
  omega
end Go.Proofs.YtlfmefojcmpfeaaGreatDoor

/-! Which of two texts, numbers and lists of texts of a Pre is less, as the program reckons it (by -1, 0 and 1) and as the specification does: both the same; and the contracts of the functions that compare two of them; condition: a string is no longer than an int can count. -/
namespace Go.Proofs.YtlfmefojcmpfeaaGreatDoor
open Go.RowKit
set_option linter.unusedSimpArgs false
set_option linter.unusedVariables false

theorem vltL_irrefl (x : List UInt8) : ¬ x < x := List.lt_irrefl x
theorem vltL_trans {x y z : List UInt8} (h : x < y) (k : y < z) : x < z := List.lt_trans h k
theorem vltL_total {x y : List UInt8} (h : ¬ x < y) (k : ¬ y < x) : x = y := List.le_antisymm (by simpa using k) (by simpa using h)
def listB (s : ByteArray) : List UInt8 := s.data.toList
theorem listB_inj {a b : ByteArray} (h : listB a = listB b) : a = b := ByteArray.ext (Array.toList_inj.1 h)
def ltS (a b : ByteArray) : Bool := Op.bytesLess a.toList b.toList
theorem ltS_iff (a b : ByteArray) : ltS a b = decide (listB a < listB b) := by
  rw [ltS, ByteArray.toList_eq, ByteArray.toList_eq, bytesLess_eq]; rfl
theorem gtS (a b : ByteArray) : (!(Op.bytesLess a.toList b.toList || a.toList == b.toList)) = ltS b a := by
  rw [ltS_iff, ByteArray.toList_eq, ByteArray.toList_eq, bytesLess_eq]
  show _ = decide (b.data.toList < a.data.toList)
  by_cases h : b.data.toList < a.data.toList
  · have h1 : ¬ a.data.toList < b.data.toList := fun k => vltL_irrefl _ (vltL_trans h k)
    have h2 : ¬ a.data = b.data := fun e => by rw [e] at h; exact vltL_irrefl _ h
    simp [h, h1, h2]
  · by_cases h1 : a.data.toList < b.data.toList
    · simp [h, h1]
    · have h2 : a.data.toList = b.data.toList := vltL_total h1 h
      simp [h2, vltL_irrefl]
theorem ltS_irrefl (a : ByteArray) : ltS a a = false := by rw [ltS_iff]; simp [vltL_irrefl]
theorem ltS_asymm {a b : ByteArray} (h : ltS a b = true) : ltS b a = false := by
  rw [ltS_iff] at *
  simp only [decide_eq_true_eq] at h
  simp only [decide_eq_false_iff_not]
  exact fun k => vltL_irrefl _ (vltL_trans h k)
theorem ltS_total {a b : ByteArray} (h : ltS a b = false) (k : ltS b a = false) : a = b := by
  rw [ltS_iff, decide_eq_false_iff_not] at *
  exact listB_inj (vltL_total h k)

def cmpI (a b : Int) : Int := if a < b then -1 else if b < a then 1 else 0
def cmpS (a b : ByteArray) : Int := if ltS a b then -1 else if ltS b a then 1 else 0
def orI : List Int → Int
  | [] => 0
  | z :: zs => if z = 0 then orI zs else z
def cmpPart (a b : ByteArray) : Int :=
  if digitsB a && digitsB b then orI [cmpI a.size b.size, cmpS a b] else if digitsB a then -1 else if digitsB b then 1 else cmpS a b
def cmpPre : List ByteArray → List ByteArray → Int
  | [], [] => 0
  | [], _ :: _ => -1
  | _ :: _, [] => 1
  | a :: xs, b :: ys => if cmpPart a b = 0 then cmpPre xs ys else cmpPart a b
def cmpVer (a b c : Int) (ps : List ByteArray) (a' b' c' : Int) (ps' : List ByteArray) : Int :=
  if orI [cmpI a a', cmpI b b', cmpI c c'] = 0 then (if ps.length = 0 ∨ ps'.length = 0 then cmpI ps'.length ps.length else cmpPre ps ps') else orI [cmpI a a', cmpI b b', cmpI c c']

def lessPart (a b : ByteArray) : Bool :=
  if digitsB a && digitsB b then (if a.size = b.size then ltS a b else decide (a.size < b.size)) else if digitsB a = digitsB b then ltS a b else digitsB a
def lessGo : List ByteArray → List ByteArray → Bool
  | a :: xs, b :: ys => if a = b then lessGo xs ys else lessPart a b
  | [], ys => decide (0 < ys.length)
  | _ :: _, [] => false
def lessPre (ps ps' : List ByteArray) : Bool := if ps.length = 0 ∨ ps'.length = 0 then decide (0 < ps.length) && decide (ps'.length = 0) else lessGo ps ps'
def lessB (a b c : Int) (ps : List ByteArray) (a' b' c' : Int) (ps' : List ByteArray) : Bool :=
  if a = a' then (if b = b' then (if c = c' then lessPre ps ps' else decide (c < c')) else decide (b < b')) else decide (a < a')

theorem cmpI_zero (a b : Int) : cmpI a b = 0 ↔ a = b := by unfold cmpI; split <;> (try split) <;> omega
theorem cmpI_neg (a b : Int) : cmpI a b < 0 ↔ a < b := by unfold cmpI; split <;> (try split) <;> omega
theorem cmpS_zero (a b : ByteArray) : cmpS a b = 0 ↔ a = b := by
  unfold cmpS
  constructor
  · intro h
    split at h
    · omega
    · split at h
      · omega
      · exact ltS_total (by simpa using ‹¬ ltS a b = true›) (by simpa using ‹¬ ltS b a = true›)
  · rintro rfl
    simp [ltS_irrefl]
theorem cmpS_neg (a b : ByteArray) : cmpS a b < 0 ↔ ltS a b = true := by
  unfold cmpS
  constructor
  · intro h
    split at h
    · assumption
    · split at h <;> omega
  · intro h; rw [if_pos h]; omega
theorem orI_two (x y : Int) : orI [x, y] = if x = 0 then (if y = 0 then 0 else y) else x := by simp [orI]
theorem cmpPart_zero (a b : ByteArray) : cmpPart a b = 0 ↔ a = b := by
  constructor
  · intro h
    unfold cmpPart at h
    rw [orI_two] at h
    split at h
    · split at h
      · split at h
        · exact (cmpS_zero a b).1 ‹_›
        · exact (cmpS_zero a b).1 h
      · exact absurd h ‹_›
    · split at h
      · omega
      · split at h
        · omega
        · exact (cmpS_zero a b).1 h
  · rintro rfl
    have h1 := (cmpS_zero a a).2 rfl
    have h2 := (cmpI_zero a.size a.size).2 rfl
    unfold cmpPart
    rw [orI_two, h1, h2]
    cases digitsB a <;> simp
theorem cmpPart_neg {a b : ByteArray} (hne : ¬ a = b) : decide (cmpPart a b < 0) = lessPart a b := by
  rw [Bool.eq_iff_iff, decide_eq_true_eq]
  unfold cmpPart lessPart
  rw [orI_two]
  have s0 := cmpS_zero a b
  have s1 := cmpS_neg a b
  have i0 := cmpI_zero a.size b.size
  have i1 := cmpI_neg a.size b.size
  cases ha : digitsB a <;> cases hb : digitsB b
  · simpa using s1
  · simp
  · simp
  · simp only [Bool.and_self, if_true]
    by_cases he : a.size = b.size
    · have : cmpI a.size b.size = 0 := i0.2 (by omega)
      rw [if_pos this, if_pos he, if_neg (fun h => hne (s0.1 h))]
      exact s1
    · have : ¬ cmpI a.size b.size = 0 := fun h => he (by have := i0.1 h; omega)
      rw [if_neg this, if_neg he, i1]
      simp
theorem cmpPre_neg : ∀ (ps ps' : List ByteArray), decide (cmpPre ps ps' < 0) = lessGo ps ps'
  | [], [] => by simp [cmpPre, lessGo]
  | [], _ :: _ => by simp [cmpPre, lessGo]
  | _ :: _, [] => by simp [cmpPre, lessGo]
  | a :: xs, b :: ys => by
    rw [cmpPre, lessGo]
    by_cases h : a = b
    · rw [if_pos ((cmpPart_zero a b).2 h), if_pos h]; exact cmpPre_neg xs ys
    · rw [if_neg (fun k => h ((cmpPart_zero a b).1 k)), if_neg h]; exact cmpPart_neg h
theorem cmpVer_neg (a b c : Int) (ps : List ByteArray) (a' b' c' : Int) (ps' : List ByteArray) : decide (cmpVer a b c ps a' b' c' ps' < 0) = lessB a b c ps a' b' c' ps' := by
  unfold cmpVer lessB
  have e : orI [cmpI a a', cmpI b b', cmpI c c'] = if cmpI a a' = 0 then (if cmpI b b' = 0 then (if cmpI c c' = 0 then 0 else cmpI c c') else cmpI b b') else cmpI a a' := by simp [orI]
  rw [e]
  by_cases ha : a = a'
  · rw [if_pos ha, if_pos ((cmpI_zero a a').2 ha)]
    by_cases hb : b = b'
    · rw [if_pos hb, if_pos ((cmpI_zero b b').2 hb)]
      by_cases hc : c = c'
      · rw [if_pos hc, if_pos ((cmpI_zero c c').2 hc), if_pos rfl]
        unfold lessPre
        by_cases hp : ps.length = 0 ∨ ps'.length = 0
        · rw [if_pos hp, if_pos hp, Bool.eq_iff_iff, decide_eq_true_eq, cmpI_neg, Bool.and_eq_true, decide_eq_true_eq, decide_eq_true_eq]
          omega
        · rw [if_neg hp, if_neg hp]; exact cmpPre_neg ps ps'
      · have h := fun k => hc ((cmpI_zero c c').1 k)
        rw [if_neg hc, if_neg h, if_neg h, Bool.eq_iff_iff, decide_eq_true_eq, decide_eq_true_eq]
        exact cmpI_neg c c'
    · have h := fun k => hb ((cmpI_zero b b').1 k)
      rw [if_neg hb, if_neg h, if_neg h, Bool.eq_iff_iff, decide_eq_true_eq, decide_eq_true_eq]
      exact cmpI_neg b b'
  · have h := fun k => ha ((cmpI_zero a a').1 k)
    rw [if_neg ha, if_neg h, if_neg h, Bool.eq_iff_iff, decide_eq_true_eq, decide_eq_true_eq]
    exact cmpI_neg a a'

theorem ret_int {k : IntKind} {a b : Int} (h : a = b) : Ending.returned (.int k a) = .returned (.int k b) := by rw [h]

theorem nanInt_c (a : Int) (w : World) : Calls Tryz.prog 214 #[.int .i64 a] w fun e w' => e = .returned (.bool false) ∧ w = w' := by
  go_enter Tryz.func214, Tryz.ntmps214
  go_wp2
  go_ret
  exact ⟨by simp, rfl⟩
theorem nanStr_c (a : ByteArray) (w : World) : Calls Tryz.prog 267 #[.string a] w fun e w' => e = .returned (.bool false) ∧ w = w' := by
  go_enter Tryz.func267, Tryz.ntmps267
  go_wp2
  go_ret
  exact ⟨by simp, rfl⟩
theorem compareInt_c (a b : Int) (w : World) : Calls Tryz.prog 150 #[.int .i64 a, .int .i64 b] w fun e w' => e = .returned (.int .i64 (cmpI a b)) ∧ w = w' := by
  go_enter Tryz.func150, Tryz.ntmps150
  go_wp2_with (go_at_call 214; refine (nanInt_c _ _).mono ?_; rintro e w' ⟨rfl, rfl⟩)
  all_goals go_ret
  all_goals exact ⟨ret_int (by unfold cmpI; split <;> (try split) <;> omega), rfl⟩
theorem cmpS_one {a b : ByteArray} (h : ltS a b = true) : cmpS a b = -1 := by rw [cmpS, if_pos h]
theorem cmpS_two {a b : ByteArray} (h : ltS a b = false) (k : ltS b a = true) : cmpS a b = 1 := by rw [cmpS, if_neg (by simp [h]), if_pos k]
theorem cmpS_three {a b : ByteArray} (h : ltS a b = false) (k : ltS b a = false) : cmpS a b = 0 := by rw [cmpS, if_neg (by simp [h]), if_neg (by simp [k])]
theorem compareStr_c (a b : ByteArray) (w : World) : Calls Tryz.prog 216 #[.string a, .string b] w fun e w' => e = .returned (.int .i64 (cmpS a b)) ∧ w = w' := by
  go_enter Tryz.func216, Tryz.ntmps216
  go_wp2_with (go_at_call 267; refine (nanStr_c _ _).mono ?_; rintro e w' ⟨rfl, rfl⟩)
  · have h1 : ltS a b = true := by assumption
    go_ret
    exact ⟨ret_int (cmpS_one h1).symm, rfl⟩
  · have h1 : ltS a b = false := by assumption
    have h2 : (!a.toList == b.toList) = true := by assumption
    have h3 : ltS b a = true := by rw [← gtS, show Op.bytesLess a.toList b.toList = false from h1]; exact h2
    go_ret
    exact ⟨ret_int (cmpS_two h1 h3).symm, rfl⟩
  · have h1 : ltS a b = false := by assumption
    have h2 : (!a.toList == b.toList) = false := by assumption
    have h3 : ltS b a = false := by rw [← gtS, show Op.bytesLess a.toList b.toList = false from h1]; exact h2
    go_ret
    exact ⟨ret_int (cmpS_three h1 h3).symm, rfl⟩
theorem specLessPart_c (a b : ByteArray) (ha : a.size ≤ maxLen) (hb : b.size ≤ maxLen) (w : World) :
    Calls Tryz.prog 219 #[.string a, .string b] w fun e w' => e = .returned (.bool (lessPart a b)) ∧ w = w' := by
  go_enter Tryz.func219, Tryz.ntmps219
  go_wp2_with (go_at_call 241; refine (specDigits_c _ (by assumption) _).mono ?_; rintro e w' ⟨rfl, rfl⟩)
  · have h1 : digitsB a = true := by assumption
    have h2 : digitsB b = true := by assumption
    have h3 : ((a.size : Int) != (b.size : Int)) = true := by assumption
    have h4 : ¬ a.size = b.size := by simp at h3; omega
    go_ret
    exact ⟨ret_bool (by rw [lessPart, h1, h2, if_pos (by rfl), if_neg h4]), rfl⟩
  · have h1 : digitsB a = true := by assumption
    have h2 : digitsB b = true := by assumption
    have h3 : ((a.size : Int) != (b.size : Int)) = false := by assumption
    have h4 : a.size = b.size := by simp at h3; omega
    go_ret
    exact ⟨ret_bool (by rw [lessPart, h1, h2, if_pos (by rfl), if_pos h4]; rfl), rfl⟩
  · have h1 : digitsB a = true := by assumption
    have h2 : digitsB b = false := by assumption
    go_ret
    exact ⟨ret_bool (by rw [lessPart, h1, h2]; rfl), rfl⟩
  · have h1 : ¬ digitsB a = true := by assumption
    have h2 : digitsB b = true := by assumption
    have h3 : digitsB a = false := by simpa using h1
    go_ret
    exact ⟨ret_bool (by rw [lessPart, h2, h3]; rfl), rfl⟩
  · have h1 : ¬ digitsB a = true := by assumption
    have h2 : digitsB b = false := by assumption
    have h3 : digitsB a = false := by simpa using h1
    go_ret
    exact ⟨ret_bool (by rw [lessPart, h2, h3]; rfl), rfl⟩
end Go.Proofs.YtlfmefojcmpfeaaGreatDoor

/-! What SameVer answers, the program's and the specification's: contracts for the walks; conditions: the lists of texts lie in memory as told, and are no longer than 2 to the 40. -/
namespace Go.Proofs.YtlfmefojcmpfeaaGreatDoor
open Go.RowKit
set_option linter.unusedSimpArgs false
set_option linter.unusedVariables false

set_option maxHeartbeats 1000000 in
set_option maxRecDepth 100000 in
theorem sameTexts_c (v u : Value) (ss ts : List ByteArray) (w : World) (hv : Reads w v (strsV ss)) (hu : Reads w u (strsV ts)) (hn : ss.length ≤ 1099511627776) :
    Calls Tryz.prog 156 #[v, u] w fun e w' => e = .returned (.bool (decide (ss = ts))) ∧ Below w.heap.size w w' := by
  obtain ⟨a, cap, rfl, _, hc⟩ := reads_strs hv
  obtain ⟨a2, cap2, rfl, _, hc2⟩ := reads_strs hu
  clear hv hu
  by_cases hl : ss.length = ts.length
  · rcases hc with rfl | ⟨b, off, rfl, hlt, hc⟩
    · have : ts = [] := List.eq_nil_of_length_eq_zero (by simpa using hl.symm)
      subst this
      go_enter Tryz.func156, Tryz.ntmps156
      go_wp2
      go_loopw [5] (fun vi wr => vi = .int .i64 0 ∧ wr = w) (fun _ _ => 0)
      case atStart => exact ⟨rfl, rfl⟩
      case round =>
        obtain ⟨rfl, rfl⟩ := hrel
        go_wp2
        go_ret
        exact ⟨rfl, Below.refl _ _⟩
    rcases hc2 with rfl | ⟨b2, off2, rfl, hlt2, hc2⟩
    · have : ss = [] := List.eq_nil_of_length_eq_zero (by simpa using hl)
      subst this
      go_enter Tryz.func156, Tryz.ntmps156
      go_wp2
      go_loopw [5] (fun vi wr => vi = .int .i64 0 ∧ wr = w) (fun _ _ => 0)
      case atStart => exact ⟨rfl, rfl⟩
      case round =>
        obtain ⟨rfl, rfl⟩ := hrel
        go_wp2
        go_ret
        exact ⟨rfl, Below.refl _ _⟩
    · have HL : Hid (ss.length = ts.length) := hl
      have hc2' : ∀ k (h : k < ts.length), w.cell? ⟨b2, off2 + k, none⟩ = some (.string ts[k]) := hc2
      have HC2 : Hid (∀ k (h : k < ts.length), w.cell? ⟨b2, off2 + k, none⟩ = some (.string ts[k])) := hc2'
      rw [← hl]
      clear hl hc2 hc2'
      go_enter Tryz.func156, Tryz.ntmps156
      go_wp2
      go_loopw [5] (fun vi wr => ∃ k : Nat, k ≤ ss.length ∧ vi = .int .i64 (k : Int) ∧ Hid (∀ j (h1 : j < ss.length) (h2 : j < ts.length), j < k → ss[j] = ts[j]) ∧ Below w.heap.size w wr) (fun vi _ => ss.length - (intOf vi).toNat)
      case atStart => exact ⟨0, Nat.zero_le _, rfl, fun j h1 h2 hj => by omega, Below.refl _ _⟩
      case round =>
        obtain ⟨k, hk, rfl, hy, hbr⟩ := hrel
        by_cases hlt' : k < ss.length
        · have hlt2' : k < ts.length := by have := HL.out; omega
          have hcx : wr.cell? ⟨b, off + k, none⟩ = some (.string ss[k]) := (hbr.cell (p := ⟨b, off + k, none⟩) hlt).trans (hc k hlt')
          have hcy : wr.cell? ⟨b2, off2 + k, none⟩ = some (.string ts[k]) := (hbr.cell (p := ⟨b2, off2 + k, none⟩) hlt2).trans (HC2.out k hlt2')
          obtain ⟨x, hx⟩ : ∃ x, x = ss[k] := ⟨_, rfl⟩
          obtain ⟨y, hy'⟩ : ∃ y, y = ts[k] := ⟨_, rfl⟩
          rw [← hx] at hcx
          rw [← hy'] at hcy
          have HX : Hid (x = ss[k]) := hx
          have HY : Hid (y = ts[k]) := hy'
          have hki : (k : Int) < (ss.length : Int) := by omega
          clear hc hx hy'
          go_wp2
          go_quiet (fail)
          go_wp2
          · have hne : (!x.toList == y.toList) = true := by assumption
            have hne' : ¬ ss = ts := fun e => by
              have e1 := HX.out; have e2 := HY.out; subst e; rw [← e2] at e1; subst e1; simp at hne
            go_ret
            exact ⟨by simp [hne'], below_drewN' hbr _⟩
          · have he : (!x.toList == y.toList) = false := by assumption
            have he' : x = y := bytes_eq_of_toList (by simpa using he)
            go_roundw
            case rel => exact ⟨k + 1, by omega, by go_num, fun j h1 h2 hj => (by
              by_cases e : j = k
              · subst e; rw [← HX.out, ← HY.out]; exact he'
              · exact hy.out j h1 h2 (by omega)), below_drewN' hbr _⟩
            case measure => simp [intOf]; omega
        · clear hc
          have he : k = ss.length := by omega
          subst he
          have e : ss = ts := strs_done HL.out (fun j h1 h2 => hy.out j h1 h2 h1)
          go_wp2
          go_ret
          exact ⟨by simp [e], hbr⟩
  · have hne : ¬ ss = ts := fun e => hl (by rw [e])
    have hl' : ((ss.length : Int) != (ts.length : Int)) = true := by simp; omega
    rw [decide_eq_false hne]
    clear hc hc2
    go_enter Tryz.func156, Tryz.ntmps156
    go_wp2
    go_ret
    exact ⟨rfl, Below.refl _ _⟩

set_option maxHeartbeats 1000000 in
set_option maxRecDepth 100000 in
theorem equalStrs_c (v u : Value) (ss ts : List ByteArray) (w : World) (hv : Reads w v (strsV ss)) (hu : Reads w u (strsV ts)) (hn : ss.length ≤ 1099511627776) :
    Calls Tryz.prog 183 #[v, u] w fun e w' => e = .returned (.bool (decide (ss = ts))) ∧ Below w.heap.size w w' := by
  obtain ⟨a, cap, rfl, _, hc⟩ := reads_strs hv
  obtain ⟨a2, cap2, rfl, _, hc2⟩ := reads_strs hu
  clear hv hu
  by_cases hl : ss.length = ts.length
  · rcases hc with rfl | ⟨b, off, rfl, hlt, hc⟩
    · have : ts = [] := List.eq_nil_of_length_eq_zero (by simpa using hl.symm)
      subst this
      go_enter Tryz.func183, Tryz.ntmps183
      go_wp2
      go_loopw [5, 13] (fun _ vi wr => vi = .int .i64 0 ∧ wr = w) (fun _ _ _ => 0)
      case atStart => exact ⟨rfl, rfl⟩
      case round =>
        obtain ⟨rfl, rfl⟩ := hrel
        go_wp2
        go_ret
        exact ⟨rfl, Below.refl _ _⟩
    rcases hc2 with rfl | ⟨b2, off2, rfl, hlt2, hc2⟩
    · have : ss = [] := List.eq_nil_of_length_eq_zero (by simpa using hl)
      subst this
      go_enter Tryz.func183, Tryz.ntmps183
      go_wp2
      go_loopw [5, 13] (fun _ vi wr => vi = .int .i64 0 ∧ wr = w) (fun _ _ _ => 0)
      case atStart => exact ⟨rfl, rfl⟩
      case round =>
        obtain ⟨rfl, rfl⟩ := hrel
        go_wp2
        go_ret
        exact ⟨rfl, Below.refl _ _⟩
    · have HL : Hid (ss.length = ts.length) := hl
      have hc2' : ∀ k (h : k < ts.length), w.cell? ⟨b2, off2 + k, none⟩ = some (.string ts[k]) := hc2
      have HC2 : Hid (∀ k (h : k < ts.length), w.cell? ⟨b2, off2 + k, none⟩ = some (.string ts[k])) := hc2'
      rw [← hl]
      clear hl hc2 hc2'
      go_enter Tryz.func183, Tryz.ntmps183
      go_wp2
      go_loopw [5, 13] (fun _ vi wr => ∃ k : Nat, k ≤ ss.length ∧ vi = .int .i64 (k : Int) ∧ Hid (∀ j (h1 : j < ss.length) (h2 : j < ts.length), j < k → ss[j] = ts[j]) ∧ Below w.heap.size w wr) (fun _ vi _ => ss.length - (intOf vi).toNat)
      case atStart => exact ⟨0, Nat.zero_le _, rfl, fun j h1 h2 hj => by omega, Below.refl _ _⟩
      case round =>
        obtain ⟨k, hk, rfl, hy, hbr⟩ := hrel
        by_cases hlt' : k < ss.length
        · have hlt2' : k < ts.length := by have := HL.out; omega
          have hcx : wr.cell? ⟨b, off + k, none⟩ = some (.string ss[k]) := (hbr.cell (p := ⟨b, off + k, none⟩) hlt).trans (hc k hlt')
          have hcy : wr.cell? ⟨b2, off2 + k, none⟩ = some (.string ts[k]) := (hbr.cell (p := ⟨b2, off2 + k, none⟩) hlt2).trans (HC2.out k hlt2')
          obtain ⟨x, hx⟩ : ∃ x, x = ss[k] := ⟨_, rfl⟩
          obtain ⟨y, hy'⟩ : ∃ y, y = ts[k] := ⟨_, rfl⟩
          rw [← hx] at hcx
          rw [← hy'] at hcy
          have HX : Hid (x = ss[k]) := hx
          have HY : Hid (y = ts[k]) := hy'
          have hki : (k : Int) < (ss.length : Int) := by omega
          clear hc hx hy'
          go_wp2
          go_quiet (fail)
          go_wp2
          · have hne : (!x.toList == y.toList) = true := by assumption
            have hne' : ¬ ss = ts := fun e => by
              have e1 := HX.out; have e2 := HY.out; subst e; rw [← e2] at e1; subst e1; simp at hne
            go_ret
            exact ⟨by simp [hne'], below_drewN' hbr _⟩
          · have he : (!x.toList == y.toList) = false := by assumption
            have he' : x = y := bytes_eq_of_toList (by simpa using he)
            go_roundw
            case rel => exact ⟨k + 1, by omega, by go_num, fun j h1 h2 hj => (by
              by_cases e : j = k
              · subst e; rw [← HX.out, ← HY.out]; exact he'
              · exact hy.out j h1 h2 (by omega)), below_drewN' hbr _⟩
            case measure => simp [intOf]; omega
        · clear hc
          have he : k = ss.length := by omega
          subst he
          have e : ss = ts := strs_done HL.out (fun j h1 h2 => hy.out j h1 h2 h1)
          go_wp2
          go_ret
          exact ⟨by simp [e], hbr⟩
  · have hne : ¬ ss = ts := fun e => hl (by rw [e])
    have hl' : ((ss.length : Int) != (ts.length : Int)) = true := by simp; omega
    rw [decide_eq_false hne]
    clear hc hc2
    go_enter Tryz.func183, Tryz.ntmps183
    go_wp2
    go_ret
    exact ⟨rfl, Below.refl _ _⟩

theorem boxes_pre {w w1 : World} {c0 c1 c2 c3 d0 d1 d2 d3 : Value} {t t' : TypeId} (hb : Below ((w.alloc (.cells #[c0, c1, c2, c3] t)).alloc (.cells #[d0, d1, d2, d3] t')).heap.size ((w.alloc (.cells #[c0, c1, c2, c3] t)).alloc (.cells #[d0, d1, d2, d3] t')) w1) :
    w1.cell? ⟨w.heap.size, 3, none⟩ = some c3 ∧ w1.cell? ⟨w.heap.size + 1, 3, none⟩ = some d3 := by
  have s1 : ∀ o, (w.alloc o).heap.size = w.heap.size + 1 := fun o => by simp
  refine ⟨?_, ?_⟩
  · rw [hb.cell (p := ⟨w.heap.size, 3, none⟩) (by simp; omega)]
    exact vblk_cell ((vheap_old _ _ (by simp)).trans (vheap_new _ _)) 3
  · rw [hb.cell (p := ⟨w.heap.size + 1, 3, none⟩) (by simp)]
    have h := vheap_new (w.alloc (.cells #[c0, c1, c2, c3] t)) (.cells #[d0, d1, d2, d3] t')
    rw [s1] at h
    exact vblk_cell h 3


def coreB (a b c a' b' c' : Int) : Bool := a == a' && b == b' && c == c'
def sameB (a b c : Int) (ps : List ByteArray) (a' b' c' : Int) (ps' : List ByteArray) : Bool := coreB a b c a' b' c' && decide (ps = ps')

theorem two_box {w : World} (o o' : Obj) : Below w.heap.size w ((w.alloc o).alloc o') := ((Below.refl _ _).alloc (Nat.le_refl _) _).alloc (by simp) _

set_option maxHeartbeats 1000000 in
set_option maxRecDepth 100000 in
theorem core_c (a b c : Int) (q : Option Addr) (n cap : Nat) (a' b' c' : Int) (q' : Option Addr) (n' cap' : Nat) (w : World) :
    Calls Tryz.prog 155 #[.agg #[.int .i64 a, .int .i64 b, .int .i64 c, .slice q n cap], .agg #[.int .i64 a', .int .i64 b', .int .i64 c', .slice q' n' cap']] w fun e w' => e = .returned (.bool (coreB a b c a' b' c')) ∧ Below w.heap.size w w' := by
  cases ha : (a == a') with
  | false =>
    have e : coreB a b c a' b' c' = false := by rw [coreB, ha]; rfl
    rw [e]
    go_enter Tryz.func155, Tryz.ntmps155
    go_wp2
    go_ret
    exact ⟨rfl, two_box _ _⟩
  | true =>
  cases hb : (b == b') with
  | false =>
    have e : coreB a b c a' b' c' = false := by rw [coreB, hb, Bool.and_false]; rfl
    rw [e]
    go_enter Tryz.func155, Tryz.ntmps155
    go_wp2
    go_ret
    exact ⟨rfl, two_box _ _⟩
  | true =>
    have e : coreB a b c a' b' c' = (c == c') := by rw [coreB, ha, hb]; rfl
    rw [e]
    clear e
    go_enter Tryz.func155, Tryz.ntmps155
    go_wp2
    go_ret
    exact ⟨rfl, two_box _ _⟩

set_option maxHeartbeats 1000000 in
set_option maxRecDepth 100000 in
theorem specSame_c (a b c : Int) (u : Value) (ps : List ByteArray) (a' b' c' : Int) (u' : Value) (ps' : List ByteArray) (w : World) (hu : Reads w u (strsV ps)) (hu' : Reads w u' (strsV ps')) (hn : ps.length ≤ 1048576) :
    Calls Tryz.prog 82 #[.agg #[.int .i64 a, .int .i64 b, .int .i64 c, u], .agg #[.int .i64 a', .int .i64 b', .int .i64 c', u']] w fun e w' => e = .returned (.bool (sameB a b c ps a' b' c' ps')) ∧ Below w.heap.size w w' := by
  have hru : ∀ w1, Below w.heap.size w w1 → Reads w1 u (strsV ps) ∧ Reads w1 u' (strsV ps') := fun w1 h => ⟨hu.below h, hu'.below h⟩
  have HS : Hid (∀ w1, Below w.heap.size w w1 → Calls Tryz.prog 156 #[u, u'] w1 fun e w' => e = .returned (.bool (decide (ps = ps'))) ∧ Below w1.heap.size w1 w') := fun w1 h => sameTexts_c u u' ps ps' w1 (hru w1 h).1 (hru w1 h).2 (by omega)
  obtain ⟨q, cap, rfl, _, _⟩ := reads_strs hu
  obtain ⟨q', cap', rfl, _, _⟩ := reads_strs hu'
  clear hu hu' hru
  cases hc : coreB a b c a' b' c' with
  | false =>
    have e : sameB a b c ps a' b' c' ps' = false := by rw [sameB, hc]; rfl
    rw [e]
    go_enter Tryz.func82, Tryz.ntmps82
    go_wp2_with (go_at_call 155; refine (core_c _ _ _ _ _ _ _ _ _ _ _ _ _).mono ?_; rintro e w1 ⟨rfl, b1⟩)
    go_ret
    exact ⟨rfl, (two_box _ _).trans (b1.mono (by simp; omega))⟩
  | true =>
    have e : sameB a b c ps a' b' c' ps' = decide (ps = ps') := by rw [sameB, hc]; rfl
    rw [e]
    clear e
    go_enter Tryz.func82, Tryz.ntmps82
    go_wp2_with (first
      | (go_at_call 155; refine (core_c _ _ _ _ _ _ _ _ _ _ _ _ _).mono ?_; rintro e w1 ⟨rfl, b1⟩
         have hw1 : Below w.heap.size w w1 := (two_box _ _).trans (b1.mono (by simp; omega))
         obtain ⟨x3, y3⟩ := boxes_pre b1)
      | (go_at_call 156; refine (HS.out _ hw1).mono ?_; rintro e w2 ⟨rfl, b2⟩))
    go_ret
    exact ⟨rfl, hw1.trans (b2.mono hw1.size)⟩

set_option maxHeartbeats 1000000 in
set_option maxRecDepth 100000 in
theorem implSame_c (a b c : Int) (u : Value) (ps : List ByteArray) (a' b' c' : Int) (u' : Value) (ps' : List ByteArray) (w : World) (hu : Reads w u (strsV ps)) (hu' : Reads w u' (strsV ps')) (hn : ps.length ≤ 1048576) :
    Calls Tryz.prog 113 #[.agg #[.int .i64 a, .int .i64 b, .int .i64 c, u], .agg #[.int .i64 a', .int .i64 b', .int .i64 c', u']] w fun e w' => e = .returned (.bool (sameB a b c ps a' b' c' ps')) ∧ Below w.heap.size w w' := by
  have hru : ∀ w1, Below w.heap.size w w1 → Reads w1 u (strsV ps) ∧ Reads w1 u' (strsV ps') := fun w1 h => ⟨hu.below h, hu'.below h⟩
  have HS : Hid (∀ w1, Below w.heap.size w w1 → Calls Tryz.prog 183 #[u, u'] w1 fun e w' => e = .returned (.bool (decide (ps = ps'))) ∧ Below w1.heap.size w1 w') := fun w1 h => equalStrs_c u u' ps ps' w1 (hru w1 h).1 (hru w1 h).2 (by omega)
  obtain ⟨q, cap, rfl, _, _⟩ := reads_strs hu
  obtain ⟨q', cap', rfl, _, _⟩ := reads_strs hu'
  clear hu hu' hru
  have EF : Hid (coreB a b c a' b' c' = false → sameB a b c ps a' b' c' ps' = false) := fun h => by rw [sameB, h]; rfl
  cases ha : (a == a') with
  | false =>
    rw [EF.out (by rw [coreB, ha]; rfl)]
    go_enter Tryz.func113, Tryz.ntmps113
    go_wp2
    go_ret
    exact ⟨rfl, two_box _ _⟩
  | true =>
  cases hb : (b == b') with
  | false =>
    rw [EF.out (by rw [coreB, hb, Bool.and_false]; rfl)]
    go_enter Tryz.func113, Tryz.ntmps113
    go_wp2
    go_ret
    exact ⟨rfl, two_box _ _⟩
  | true =>
  cases hc : (c == c') with
  | false =>
    rw [EF.out (by rw [coreB, hc, Bool.and_false])]
    go_enter Tryz.func113, Tryz.ntmps113
    go_wp2
    go_ret
    exact ⟨rfl, two_box _ _⟩
  | true =>
    have e : sameB a b c ps a' b' c' ps' = decide (ps = ps') := by rw [sameB, coreB, ha, hb, hc]; rfl
    rw [e]
    clear e EF
    go_enter Tryz.func113, Tryz.ntmps113
    go_wp2_with (go_at_call 183; refine (HS.out _ (two_box _ _)).mono ?_; rintro e w2 ⟨rfl, b2⟩)
    go_ret
    exact ⟨rfl, (two_box _ _).trans (b2.mono (by simp; omega))⟩
end Go.Proofs.YtlfmefojcmpfeaaGreatDoor

/-! What LessVer answers, the program's and the specification's: contracts for the walks; conditions: the lists of texts lie in memory as told, and hold no more than 2 to the 20. -/
namespace Go.Proofs.YtlfmefojcmpfeaaGreatDoor
open Go.RowKit
set_option linter.unusedSimpArgs false
set_option linter.unusedVariables false

theorem orI_drop (zs : List Int) (k : Nat) (h : k < zs.length) : orI (zs.drop k) = if zs[k] = 0 then orI (zs.drop (k + 1)) else zs[k] := by
  rw [List.drop_eq_getElem_cons h, orI]

set_option maxHeartbeats 1000000 in
theorem or_c (zs : List Int) (B cap : Nat) (w : World) (hn : zs.length ≤ 1048576) (hcap : zs.length ≤ cap) (hc : ∀ k (h : k < zs.length), w.cell? ⟨B, k, none⟩ = some (.int .i64 zs[k])) :
    Calls Tryz.prog 149 #[.slice (some ⟨B, 0, none⟩) zs.length cap] w fun e w' => e = .returned (.int .i64 (orI zs)) ∧ w = w' := by
  go_enter Tryz.func149, Tryz.ntmps149
  go_wp2
  go_loop [5, 8] (fun _ vi => ∃ k : Nat, k ≤ zs.length ∧ vi = .int .i64 (k : Int) ∧ Hid (orI zs = orI (zs.drop k))) (fun _ vi => zs.length - (intOf vi).toNat)
  case atStart => exact ⟨0, Nat.zero_le _, rfl, rfl⟩
  case round =>
    obtain ⟨k, hk, rfl, hh⟩ := hrel
    by_cases hlt : k < zs.length
    · have hcx := hc k hlt
      have HD : Hid (orI (zs.drop k) = if zs[k] = 0 then orI (zs.drop (k + 1)) else zs[k]) := orI_drop zs k hlt
      obtain ⟨z, hz⟩ : ∃ z, z = zs[k] := ⟨_, rfl⟩
      rw [← hz] at hcx
      have HZ : Hid (z = zs[k]) := hz
      have hki : (k : Int) < (zs.length : Int) := by omega
      clear hc hz
      go_wp2
      · have h1 : (z != 0) = true := by assumption
        have h2 : ¬ z = 0 := by simpa using h1
        go_ret
        exact ⟨ret_int (by rw [hh.out, HD.out, ← HZ.out, if_neg h2]), rfl⟩
      · have h1 : (z != 0) = false := by assumption
        have h2 : z = 0 := by simpa using h1
        have HN : Hid (orI zs = orI (zs.drop (k + 1))) := by show _ = _; rw [hh.out, HD.out, ← HZ.out, if_pos h2]
        clear h2
        go_round
        case rel => exact ⟨k + 1, by omega, by go_num, HN⟩
        case measure => simp [intOf]; omega
    · have he : k = zs.length := by omega
      subst he
      clear hc
      have HE : Hid (orI zs = 0) := by show _ = _; rw [hh.out, List.drop_length]; rfl
      go_wp2
      go_ret
      exact ⟨ret_int HE.out.symm, rfl⟩

theorem two_cells (w : World) (x y : Int) (t : TypeId) : ∀ k (h : k < [x, y].length), (w.alloc (.cells #[.int .i64 x, .int .i64 y] t)).cell? ⟨w.heap.size, k, none⟩ = some (.int .i64 [x, y][k]) := fun k h => by
  have e := vblk_cell (vheap_new w (.cells #[.int .i64 x, .int .i64 y] t)) k
  rw [e]
  match k, h with
  | 0, _ => rfl
  | 1, _ => rfl
theorem three_cells (w : World) (x y z : Int) (t : TypeId) : ∀ k (h : k < [x, y, z].length), (w.alloc (.cells #[.int .i64 x, .int .i64 y, .int .i64 z] t)).cell? ⟨w.heap.size, k, none⟩ = some (.int .i64 [x, y, z][k]) := fun k h => by
  have e := vblk_cell (vheap_new w (.cells #[.int .i64 x, .int .i64 y, .int .i64 z] t)) k
  rw [e]
  match k, h with
  | 0, _ => rfl
  | 1, _ => rfl
  | 2, _ => rfl

set_option maxHeartbeats 1000000 in
theorem comparePart_c (a b : ByteArray) (ha : a.size ≤ maxLen) (hb : b.size ≤ maxLen) (w : World) :
    Calls Tryz.prog 152 #[.string a, .string b] w fun e w' => e = .returned (.int .i64 (cmpPart a b)) ∧ Below w.heap.size w w' := by
  have HA : Hid (∀ w1, Calls Tryz.prog 215 #[.string a] w1 fun e w' => e = .returned (.bool (digitsB a)) ∧ w1 = w') := fun w1 => implDigits_c a ha w1
  have HB : Hid (∀ w1, Calls Tryz.prog 215 #[.string b] w1 fun e w' => e = .returned (.bool (digitsB b)) ∧ w1 = w') := fun w1 => implDigits_c b hb w1
  unfold maxLen at ha hb
  cases h1 : digitsB a <;> cases h2 : digitsB b
  · have e : cmpPart a b = cmpS a b := by rw [cmpPart, h1, h2]; rfl
    rw [e]
    rw [h1] at HA
    rw [h2] at HB
    go_enter Tryz.func152, Tryz.ntmps152
    go_wp2_with fail
    go_at_call 215
    refine (HA.out _).mono ?_
    rintro e w' ⟨rfl, rfl⟩
    go_wp2_with fail
    go_at_call 215
    refine (HB.out _).mono ?_
    rintro e w' ⟨rfl, rfl⟩
    go_wp2_with (go_at_call 216; refine (compareStr_c _ _ _).mono ?_; rintro e w' ⟨rfl, rfl⟩)
    go_ret
    exact ⟨rfl, Below.refl _ _⟩
  · have e : cmpPart a b = 1 := by rw [cmpPart, h1, h2]; rfl
    rw [e]
    rw [h1] at HA
    rw [h2] at HB
    go_enter Tryz.func152, Tryz.ntmps152
    go_wp2_with fail
    go_at_call 215
    refine (HA.out _).mono ?_
    rintro e w' ⟨rfl, rfl⟩
    go_wp2_with fail
    go_at_call 215
    refine (HB.out _).mono ?_
    rintro e w' ⟨rfl, rfl⟩
    go_wp2
    go_ret
    exact ⟨rfl, Below.refl _ _⟩
  · have e : cmpPart a b = -1 := by rw [cmpPart, h1, h2]; rfl
    rw [e]
    rw [h1] at HA
    rw [h2] at HB
    go_enter Tryz.func152, Tryz.ntmps152
    go_wp2_with fail
    go_at_call 215
    refine (HA.out _).mono ?_
    rintro e w' ⟨rfl, rfl⟩
    go_wp2_with fail
    go_at_call 215
    refine (HB.out _).mono ?_
    rintro e w' ⟨rfl, rfl⟩
    go_wp2
    go_ret
    exact ⟨rfl, Below.refl _ _⟩
  · have e : cmpPart a b = orI [cmpI a.size b.size, cmpS a b] := by rw [cmpPart, h1, h2]; rfl
    rw [e]
    rw [h1] at HA
    rw [h2] at HB
    clear e
    go_enter Tryz.func152, Tryz.ntmps152
    go_wp2_with fail
    go_at_call 215
    refine (HA.out _).mono ?_
    rintro e w' ⟨rfl, rfl⟩
    go_wp2_with fail
    go_at_call 215
    refine (HB.out _).mono ?_
    rintro e w' ⟨rfl, rfl⟩
    go_wp2_with (first
      | (go_at_call 216; refine (compareStr_c _ _ _).mono ?_; rintro e w' ⟨rfl, rfl⟩)
      | (go_at_call 150; refine (compareInt_c _ _ _).mono ?_; rintro e w' ⟨rfl, rfl⟩)
      | (go_at_call 149; refine (or_c [cmpI a.size b.size, cmpS a b] _ _ _ (by simp) (by simp) (two_cells _ _ _ _)).mono ?_; rintro e w' ⟨rfl, rfl⟩))
    go_ret
    exact ⟨rfl, (Below.refl _ _).alloc (Nat.le_refl _) _⟩
end Go.Proofs.YtlfmefojcmpfeaaGreatDoor

/-! What LessVer answers, the program's: contracts for the walks; conditions: the lists of texts lie in memory as told, and hold no more than 2 to the 20. -/
namespace Go.Proofs.YtlfmefojcmpfeaaGreatDoor
open Go.RowKit
set_option linter.unusedSimpArgs false
set_option linter.unusedVariables false

theorem cmpPre_at (ps ps' : List ByteArray) (k : Nat) (h : k < ps.length) (h' : k < ps'.length) : cmpPre (ps.drop k) (ps'.drop k) = if cmpPart ps[k] ps'[k] = 0 then cmpPre (ps.drop (k + 1)) (ps'.drop (k + 1)) else cmpPart ps[k] ps'[k] := by
  rw [List.drop_eq_getElem_cons h, List.drop_eq_getElem_cons h', cmpPre]
theorem cmpPre_past (ps ps' : List ByteArray) (k : Nat) (h : k < ps.length) (h' : ¬ k < ps'.length) : cmpPre (ps.drop k) (ps'.drop k) = 1 := by
  rw [List.drop_eq_getElem_cons h, List.drop_eq_nil_of_le (show ps'.length ≤ k by omega), cmpPre]
theorem cmpPre_end (ps ps' : List ByteArray) : cmpPre (ps.drop ps.length) (ps'.drop ps.length) = if ps.length < ps'.length then -1 else 0 := by
  rw [List.drop_length]
  by_cases h : ps.length < ps'.length
  · rw [List.drop_eq_getElem_cons h, cmpPre, if_pos h]
  · rw [List.drop_eq_nil_of_le (show ps'.length ≤ ps.length by omega), cmpPre, if_neg h]

set_option maxHeartbeats 1000000 in
set_option maxRecDepth 100000 in
theorem compareFunc_c (u u' : Value) (ps ps' : List ByteArray) (w : World) (hu : Reads w u (strsV ps)) (hu' : Reads w u' (strsV ps')) (hb : bulkS ps ≤ 1048576) (hb' : bulkS ps' ≤ 1048576) :
    Calls Tryz.prog 151 #[u, u', .func (.func 152) #[] #[]] w fun e w' => e = .returned (.int .i64 (cmpPre ps ps')) ∧ Below w.heap.size w w' := by
  have hsz : ∀ s ∈ ps, s.size ≤ maxLen := fun s hs => by have := size_of_bulk hs; unfold maxLen; omega
  have hsz' : ∀ s ∈ ps', s.size ≤ maxLen := fun s hs => by have := size_of_bulk hs; unfold maxLen; omega
  have hn : ps.length ≤ 1048576 := by unfold bulkS at hb; omega
  have hn' : ps'.length ≤ 1048576 := by unfold bulkS at hb'; omega
  obtain ⟨q, cap, rfl, _, hc⟩ := reads_strs hu
  obtain ⟨q', cap', rfl, _, hc'⟩ := reads_strs hu'
  clear hu hu' hb hb'
  go_enter Tryz.func151, Tryz.ntmps151
  go_wp2
  go_loopw [7, 8, 9, 10, 13] (fun _ _ _ _ vi wr => ∃ k : Nat, k ≤ ps.length ∧ vi = .int .i64 (k : Int) ∧ Hid (cmpPre (ps.drop k) (ps'.drop k) = cmpPre ps ps') ∧ Below w.heap.size w wr) (fun _ _ _ _ vi _ => ps.length - (intOf vi).toNat)
  case atStart => exact ⟨0, Nat.zero_le _, rfl, rfl, Below.refl _ _⟩
  case round =>
    obtain ⟨k, hk, rfl, hh, hbr⟩ := hrel
    by_cases hlt : k < ps.length
    · rcases hc with rfl | ⟨bl, off, rfl, hlb, hc⟩
      · simp at hlt
      have hcx : wr.cell? ⟨bl, off + k, none⟩ = some (.string ps[k]) := (hbr.cell (p := ⟨bl, off + k, none⟩) hlb).trans (hc k hlt)
      have hsk := hsz ps[k] (List.getElem_mem hlt)
      obtain ⟨t, ht⟩ : ∃ t, t = ps[k] := ⟨_, rfl⟩
      rw [← ht] at hcx hsk
      have HT : Hid (t = ps[k]) := ht
      have hki : (k : Int) < (ps.length : Int) := by omega
      clear hc hsz ht
      by_cases hlt' : k < ps'.length
      · rcases hc' with rfl | ⟨bl', off', rfl, hlb', hc'⟩
        · simp at hlt'
        have hcx' : wr.cell? ⟨bl', off' + k, none⟩ = some (.string ps'[k]) := (hbr.cell (p := ⟨bl', off' + k, none⟩) hlb').trans (hc' k hlt')
        have hsk' := hsz' ps'[k] (List.getElem_mem hlt')
        obtain ⟨t', ht'⟩ : ∃ t, t = ps'[k] := ⟨_, rfl⟩
        rw [← ht'] at hcx' hsk'
        have HT' : Hid (t' = ps'[k]) := ht'
        have hki' : (k : Int) < (ps'.length : Int) := by omega
        have HP : Hid (cmpPre (ps.drop k) (ps'.drop k) = if cmpPart t t' = 0 then cmpPre (ps.drop (k + 1)) (ps'.drop (k + 1)) else cmpPart t t') := by rw [HT.out, HT'.out]; exact cmpPre_at ps ps' k hlt hlt'
        clear hc' hsz' ht'
        obtain ⟨z, hz⟩ : ∃ z, z = cmpPart t t' := ⟨_, rfl⟩
        have HC : Hid (∀ w1, Calls Tryz.prog 152 #[.string t, .string t'] w1 fun e w' => e = .returned (.int .i64 z) ∧ Below w1.heap.size w1 w') := fun w1 => by rw [hz]; exact comparePart_c t t' hsk hsk' w1
        rw [← hz] at HP
        clear hz
        go_wp2_with (go_at_call 152; refine (HC.out _).mono ?_; rintro e w1 ⟨rfl, b1⟩)
        · have h1 : (z != 0) = true := by assumption
          have h2 : ¬ z = 0 := by simpa using h1
          go_ret
          exact ⟨ret_int (by rw [← hh.out, HP.out, if_neg h2]), hbr.trans (b1.mono hbr.size)⟩
        · have h1 : (z != 0) = false := by assumption
          have h2 : z = 0 := by simpa using h1
          have HN : Hid (cmpPre (ps.drop (k + 1)) (ps'.drop (k + 1)) = cmpPre ps ps') := by show _ = _; rw [← hh.out, HP.out, if_pos h2]
          clear h2
          go_roundw
          case rel => exact ⟨k + 1, by omega, by go_num, HN, hbr.trans (b1.mono hbr.size)⟩
          case measure => simp [intOf]; omega
      · have hki' : ¬ (k : Int) < (ps'.length : Int) := by omega
        have hki2 : (ps'.length : Int) ≤ (k : Int) := by omega
        clear hc' hsz'
        go_wp2
        go_ret
        exact ⟨ret_int (by rw [← hh.out]; exact (cmpPre_past ps ps' k hlt hlt').symm), hbr⟩
    · have he : k = ps.length := by omega
      subst he
      have HE : Hid (cmpPre ps ps' = if ps.length < ps'.length then -1 else 0) := by show _ = _; rw [← hh.out]; exact cmpPre_end ps ps'
      clear hc hc' hsz hsz'
      by_cases hl : ps.length < ps'.length
      · have hl' : (ps.length : Int) < (ps'.length : Int) := by omega
        go_wp2
        go_ret
        exact ⟨ret_int (by rw [HE.out, if_pos hl]), hbr⟩
      · have hl' : ¬ (ps.length : Int) < (ps'.length : Int) := by omega
        go_wp2
        go_ret
        exact ⟨ret_int (by rw [HE.out, if_neg hl]), hbr⟩

theorem three_cells_d (w : World) (x y z : Int) (t : TypeId) : ∀ k (h : k < [x, y, z].length), (w.alloc (.cells #[.int .i64 x, .int .i64 y, .int .i64 z] t)).drew.cell? ⟨w.heap.size, k, none⟩ = some (.int .i64 [x, y, z][k]) := three_cells w x y z t

set_option maxHeartbeats 2000000 in
set_option maxRecDepth 100000 in
theorem compareVers_c (a b c : Int) (u : Value) (ps : List ByteArray) (a' b' c' : Int) (u' : Value) (ps' : List ByteArray) (w : World) (hu : Reads w u (strsV ps)) (hu' : Reads w u' (strsV ps')) (hb : bulkS ps ≤ 1048576) (hb' : bulkS ps' ≤ 1048576) :
    Calls Tryz.prog 75 #[.agg #[.int .i64 a, .int .i64 b, .int .i64 c, u], .agg #[.int .i64 a', .int .i64 b', .int .i64 c', u']] w fun e w' => e = .returned (.int .i64 (cmpVer a b c ps a' b' c' ps')) ∧ Below w.heap.size w w' := by
  have HF : Hid (∀ w1, Below w.heap.size w w1 → Calls Tryz.prog 151 #[u, u', .func (.func 152) #[] #[]] w1 fun e w' => e = .returned (.int .i64 (cmpPre ps ps')) ∧ Below w1.heap.size w1 w') := fun w1 h => compareFunc_c u u' ps ps' w1 (hu.below h) (hu'.below h) hb hb'
  have hn : ps.length ≤ 1048576 := by unfold bulkS at hb; omega
  have hn' : ps'.length ≤ 1048576 := by unfold bulkS at hb'; omega
  obtain ⟨q, cap, rfl, _, _⟩ := reads_strs hu
  obtain ⟨q', cap', rfl, _, _⟩ := reads_strs hu'
  clear hu hu' hb hb'
  obtain ⟨x, hx⟩ : ∃ x, x = orI [cmpI a a', cmpI b b', cmpI c c'] := ⟨_, rfl⟩
  have HV : Hid (cmpVer a b c ps a' b' c' ps' = if x = 0 then (if ps.length = 0 ∨ ps'.length = 0 then cmpI ps'.length ps.length else cmpPre ps ps') else x) := by show _ = _; rw [cmpVer, ← hx]
  have HO : Hid (∀ B w1, (∀ k (h : k < [cmpI a a', cmpI b b', cmpI c c'].length), w1.cell? ⟨B, k, none⟩ = some (.int .i64 [cmpI a a', cmpI b b', cmpI c c'][k])) → Calls Tryz.prog 149 #[.slice (some ⟨B, 0, none⟩) 3 3] w1 fun e w' => e = .returned (.int .i64 x) ∧ w1 = w') := fun B w1 h => by rw [hx]; exact or_c [cmpI a a', cmpI b b', cmpI c c'] B 3 w1 (by simp) (by simp) h
  clear hx
  have hb3 : ∀ A R O, Below w.heap.size w (((w.alloc A).alloc R).alloc O) := fun A R O => (((Below.refl _ _).alloc (Nat.le_refl _) _).alloc (by simp) _).alloc (by simp; omega) _
  go_enter Tryz.func75, Tryz.ntmps75
  go_wp2_with fail
  obtain ⟨A0, B0⟩ := four_two w 30 30 (.int .i64 a) (.int .i64 b) (.int .i64 c) (.slice q ps.length cap) (.int .i64 a') (.int .i64 b') (.int .i64 c') (.slice q' ps'.length cap')
  have hW := two_box (w := w) (.cells #[.int .i64 a, .int .i64 b, .int .i64 c, .slice q ps.length cap] 30) (.cells #[.int .i64 a', .int .i64 b', .int .i64 c', .slice q' ps'.length cap'] 30)
  generalize ((w.alloc (.cells #[.int .i64 a, .int .i64 b, .int .i64 c, .slice q ps.length cap] 30)).alloc (.cells #[.int .i64 a', .int .i64 b', .int .i64 c', .slice q' ps'.length cap'] 30)) = W0 at A0 B0 hW ⊢
  obtain ⟨x0, x1, x2, x3⟩ := A0.cells
  obtain ⟨y0, y1, y2, y3⟩ := B0.cells
  have la := A0.lt
  have lb := B0.lt
  go_region_held (fun w' => w'.cell? ⟨w.heap.size, 0, none⟩ = some (.int .i64 a) ∧ w'.cell? ⟨w.heap.size, 1, none⟩ = some (.int .i64 b) ∧ w'.cell? ⟨w.heap.size, 2, none⟩ = some (.int .i64 c) ∧ w'.cell? ⟨w.heap.size, 3, none⟩ = some (.slice q ps.length cap) ∧ w'.cell? ⟨w.heap.size + 1, 0, none⟩ = some (.int .i64 a') ∧ w'.cell? ⟨w.heap.size + 1, 1, none⟩ = some (.int .i64 b') ∧ w'.cell? ⟨w.heap.size + 1, 2, none⟩ = some (.int .i64 c') ∧ w'.cell? ⟨w.heap.size + 1, 3, none⟩ = some (.slice q' ps'.length cap')) (go_keep) (first
    | (go_at_call 150
       refine (compareInt_c _ _ _).mono ?_
       rintro e w1 ⟨rfl, rfl⟩)
    | (go_at_call 149
       refine (HO.out _ _ (three_cells_d _ _ _ _ _)).mono ?_
       rintro e w1 ⟨rfl, rfl⟩))
  have hW2 : ∀ o, Below w.heap.size w (W0.alloc o).drew := fun o => (hW.alloc hW.size _).drew
  by_cases h0 : x = 0
  · have HV2 : Hid (cmpVer a b c ps a' b' c' ps' = if ps.length = 0 ∨ ps'.length = 0 then cmpI ps'.length ps.length else cmpPre ps ps') := by show _ = _; rw [HV.out, if_pos h0]
    subst h0
    clear HV HO
    by_cases hp : ps.length = 0
    · have hp1 : ((ps.length : Int) == 0) = true := by simp [hp]
      have HP : Hid (cmpVer a b c ps a' b' c' ps' = cmpI ps'.length ps.length) := by show _ = _; rw [HV2.out, if_pos (.inl hp)]
      clear hp
      go_wp2_with (go_at_call 150; refine (compareInt_c _ _ _).mono ?_; rintro e w1 ⟨rfl, rfl⟩)
      go_ret
      exact ⟨ret_int HP.out.symm, hW2 _⟩
    · have hp1 : ((ps.length : Int) == 0) = false := by rw [beq_eq_false_iff_ne]; omega
      by_cases hp' : ps'.length = 0
      · have hp2 : ((ps'.length : Int) == 0) = true := by simp [hp']
        have HP : Hid (cmpVer a b c ps a' b' c' ps' = cmpI ps'.length ps.length) := by show _ = _; rw [HV2.out, if_pos (.inr hp')]
        clear hp hp'
        go_wp2_with (go_at_call 150; refine (compareInt_c _ _ _).mono ?_; rintro e w1 ⟨rfl, rfl⟩)
        go_ret
        exact ⟨ret_int HP.out.symm, hW2 _⟩
      · have hp2 : ((ps'.length : Int) == 0) = false := by rw [beq_eq_false_iff_ne]; omega
        have HP : Hid (cmpVer a b c ps a' b' c' ps' = cmpPre ps ps') := by show _ = _; rw [HV2.out, if_neg (by omega)]
        clear hp hp'
        go_wp2_with (go_at_call 151; refine (HF.out _ (hW2 _)).mono ?_; rintro e w1 ⟨rfl, b1⟩)
        go_ret
        exact ⟨ret_int HP.out.symm, (hW2 _).trans (b1.mono (hW2 _).size)⟩
  · have h1 : (x != 0) = true := by simpa using h0
    go_wp2
    go_ret
    exact ⟨ret_int (by rw [HV.out, if_neg h0]), hW2 _⟩

set_option maxHeartbeats 1000000 in
set_option maxRecDepth 100000 in
theorem implLess_c (a b c : Int) (u : Value) (ps : List ByteArray) (a' b' c' : Int) (u' : Value) (ps' : List ByteArray) (w : World) (hu : Reads w u (strsV ps)) (hu' : Reads w u' (strsV ps')) (hb : bulkS ps ≤ 1048576) (hb' : bulkS ps' ≤ 1048576) :
    Calls Tryz.prog 20 #[.agg #[.int .i64 a, .int .i64 b, .int .i64 c, u], .agg #[.int .i64 a', .int .i64 b', .int .i64 c', u']] w fun e w' => e = .returned (.bool (lessB a b c ps a' b' c' ps')) ∧ Below w.heap.size w w' := by
  have HF : Hid (∀ w1, Below w.heap.size w w1 → Calls Tryz.prog 75 #[.agg #[.int .i64 a, .int .i64 b, .int .i64 c, u], .agg #[.int .i64 a', .int .i64 b', .int .i64 c', u']] w1 fun e w' => e = .returned (.int .i64 (cmpVer a b c ps a' b' c' ps')) ∧ Below w1.heap.size w1 w') := fun w1 h => compareVers_c a b c u ps a' b' c' u' ps' w1 (hu.below h) (hu'.below h) hb hb'
  rw [← cmpVer_neg]
  obtain ⟨q, cap, rfl, _, _⟩ := reads_strs hu
  obtain ⟨q', cap', rfl, _, _⟩ := reads_strs hu'
  clear hu hu' hb hb'
  go_enter Tryz.func20, Tryz.ntmps20
  go_wp2_with (go_at_call 75; refine (HF.out _ (two_box _ _)).mono ?_; rintro e w1 ⟨rfl, b1⟩)
  go_ret
  exact ⟨rfl, (two_box _ _).trans (b1.mono (by simp; omega))⟩
end Go.Proofs.YtlfmefojcmpfeaaGreatDoor

/-! What LessVer answers, the specification's: contracts for the walks; conditions: the lists of texts lie in memory as told, and hold no more than 2 to the 20. -/
namespace Go.Proofs.YtlfmefojcmpfeaaGreatDoor
open Go.RowKit
set_option linter.unusedSimpArgs false
set_option linter.unusedVariables false

theorem quiet_ver {P : Program} {f : FuncId} {args : Array Value} {w : World} {n : Nat} {v : Value}
    (h : Calls P f args (w.drewN n) fun e w' => e = .returned v ∧ w.drewN n = w') : Calls P f args (w.drewN n) fun e w'' => e = .returned v ∧ ∃ m, w'' = w.drewN m :=
  h.mono fun _ _ ⟨he, hm⟩ => ⟨he, n, hm.symm⟩

theorem lessGo_at (ps ps' : List ByteArray) (k : Nat) (h : k < ps.length) (h' : k < ps'.length) : lessGo (ps.drop k) (ps'.drop k) = if ps[k] = ps'[k] then lessGo (ps.drop (k + 1)) (ps'.drop (k + 1)) else lessPart ps[k] ps'[k] := by
  rw [List.drop_eq_getElem_cons h, List.drop_eq_getElem_cons h', lessGo]
theorem lessGo_end (ps ps' : List ByteArray) (k : Nat) (h : k ≤ ps.length) (h' : k ≤ ps'.length) (he : ¬ (k < ps.length ∧ k < ps'.length)) : lessGo (ps.drop k) (ps'.drop k) = decide (ps.length < ps'.length) := by
  by_cases hk : k < ps.length
  · have : ps'.length = k := by omega
    rw [List.drop_eq_getElem_cons hk, List.drop_eq_nil_of_le (show ps'.length ≤ k by omega), lessGo, Bool.eq_iff_iff]
    simp; omega
  · rw [List.drop_eq_nil_of_le (show ps.length ≤ k by omega), lessGo, Bool.eq_iff_iff]
    simp; omega

set_option maxHeartbeats 1000000 in
set_option maxRecDepth 100000 in
theorem lessPre_c (u u' : Value) (ps ps' : List ByteArray) (w : World) (hu : Reads w u (strsV ps)) (hu' : Reads w u' (strsV ps')) (hb : bulkS ps ≤ 1048576) (hb' : bulkS ps' ≤ 1048576) :
    Calls Tryz.prog 157 #[u, u'] w fun e w' => e = .returned (.bool (lessPre ps ps')) ∧ Below w.heap.size w w' := by
  have hsz : ∀ s ∈ ps, s.size ≤ maxLen := fun s hs => by have := size_of_bulk hs; unfold maxLen; omega
  have hsz' : ∀ s ∈ ps', s.size ≤ maxLen := fun s hs => by have := size_of_bulk hs; unfold maxLen; omega
  have hn : ps.length ≤ 1048576 := by unfold bulkS at hb; omega
  have hn' : ps'.length ≤ 1048576 := by unfold bulkS at hb'; omega
  obtain ⟨q, cap, rfl, _, hc⟩ := reads_strs hu
  obtain ⟨q', cap', rfl, _, hc'⟩ := reads_strs hu'
  clear hu hu' hb hb'
  by_cases hp : ps.length = 0
  · have hp1 : ((ps.length : Int) == 0) = true := by simp [hp]
    have hp2 : ¬ (0 : Int) < (ps.length : Int) := by omega
    have HP : Hid (lessPre ps ps' = false) := by show _ = _; rw [lessPre, if_pos (.inl hp)]; simp [hp]
    clear hp hc hc'
    go_enter Tryz.func157, Tryz.ntmps157
    go_wp2
    go_ret
    exact ⟨ret_bool HP.out.symm, Below.refl _ _⟩
  have hp1 : ((ps.length : Int) == 0) = false := by rw [beq_eq_false_iff_ne]; omega
  by_cases hp' : ps'.length = 0
  · have hp2 : ((ps'.length : Int) == 0) = true := by simp [hp']
    have hp3 : (0 : Int) < (ps.length : Int) := by omega
    have HP : Hid (lessPre ps ps' = true) := by show _ = _; rw [lessPre, if_pos (.inr hp')]; simp [hp']; omega
    clear hp hp' hc hc'
    go_enter Tryz.func157, Tryz.ntmps157
    go_wp2
    go_ret
    exact ⟨ret_bool HP.out.symm, Below.refl _ _⟩
  have hp2 : ((ps'.length : Int) == 0) = false := by rw [beq_eq_false_iff_ne]; omega
  have HP : Hid (lessPre ps ps' = lessGo ps ps') := by show _ = _; rw [lessPre, if_neg (by omega)]
  rcases hc with rfl | ⟨bl, off, rfl, hlb, hc⟩
  · simp at hp
  rcases hc' with rfl | ⟨bl', off', rfl, hlb', hc'⟩
  · simp at hp'
  clear hp hp'
  go_enter Tryz.func157, Tryz.ntmps157
  go_wp2
  go_loopw [5] (fun vi wr => ∃ k : Nat, k ≤ ps.length ∧ k ≤ ps'.length ∧ vi = .int .i64 (k : Int) ∧ Hid (lessGo (ps.drop k) (ps'.drop k) = lessGo ps ps') ∧ Below w.heap.size w wr) (fun vi _ => ps.length - (intOf vi).toNat)
  case atStart => exact ⟨0, Nat.zero_le _, Nat.zero_le _, rfl, rfl, Below.refl _ _⟩
  case round =>
    obtain ⟨k, hk, hk', rfl, hh, hbr⟩ := hrel
    by_cases hlt : k < ps.length
    · have hki : (k : Int) < (ps.length : Int) := by omega
      by_cases hlt' : k < ps'.length
      · have hki' : (k : Int) < (ps'.length : Int) := by omega
        have hcx : wr.cell? ⟨bl, off + k, none⟩ = some (.string ps[k]) := (hbr.cell (p := ⟨bl, off + k, none⟩) hlb).trans (hc k hlt)
        have hsk := hsz ps[k] (List.getElem_mem hlt)
        have hcx' : wr.cell? ⟨bl', off' + k, none⟩ = some (.string ps'[k]) := (hbr.cell (p := ⟨bl', off' + k, none⟩) hlb').trans (hc' k hlt')
        have hsk' := hsz' ps'[k] (List.getElem_mem hlt')
        have HG := lessGo_at ps ps' k hlt hlt'
        obtain ⟨t, ht⟩ : ∃ t, t = ps[k] := ⟨_, rfl⟩
        obtain ⟨t', ht'⟩ : ∃ t, t = ps'[k] := ⟨_, rfl⟩
        rw [← ht] at hcx hsk HG
        rw [← ht'] at hcx' hsk' HG
        have HG : Hid (lessGo (ps.drop k) (ps'.drop k) = if t = t' then lessGo (ps.drop (k + 1)) (ps'.drop (k + 1)) else lessPart t t') := HG
        clear hc hc' hsz hsz' ht ht'
        by_cases hne : t = t'
        · have hq : (!t.toList == t'.toList) = false := by rw [hne]; simp
          have HN : Hid (lessGo (ps.drop (k + 1)) (ps'.drop (k + 1)) = lessGo ps ps') := by show _ = _; rw [← hh.out, HG.out, if_pos hne]
          clear hne
          go_wp2
          go_quiet (fail)
          go_wp2
          go_roundw
          case rel => exact ⟨k + 1, by omega, by omega, by go_num, HN, below_drewN' hbr _⟩
          case measure => simp [intOf]; omega
        · have hq : (!t.toList == t'.toList) = true := by
            have : ¬ t.toList = t'.toList := fun e => hne (bytes_eq_of_toList e)
            simpa using this
          have HQ : Hid (∀ w1, Calls Tryz.prog 219 #[.string t, .string t'] w1 fun e w' => e = .returned (.bool (lessPart t t')) ∧ w1 = w') := fun w1 => specLessPart_c t t' hsk hsk' w1
          have HN : Hid (lessPart t t' = lessPre ps ps') := by show _ = _; rw [HP.out, ← hh.out, HG.out, if_neg hne]
          clear hne
          go_wp2
          go_quiet (fail)
          go_wp2
          have hbr2 := below_drewN' hbr nq
          have hcz : (wr.drewN nq).cell? ⟨bl, off + k, none⟩ = some (.string t) := hcx
          have hcz' : (wr.drewN nq).cell? ⟨bl', off' + k, none⟩ = some (.string t') := hcx'
          generalize wr.drewN nq = W1 at hbr2 hcz hcz' ⊢
          clear hcx hcx' hbr
          go_quiet (first | (go_at_call 219; exact quiet_ver (HQ.out _)))
          go_wp2
          go_ret
          exact ⟨ret_bool HN.out, below_drewN' hbr2 _⟩
      · have hki' : ¬ (k : Int) < (ps'.length : Int) := by omega
        have HE : Hid (lessPre ps ps' = decide (ps.length < ps'.length)) := by show _ = _; rw [HP.out, ← hh.out]; exact lessGo_end ps ps' k hk hk' (by omega)
        clear hc hc' hsz hsz'
        go_wp2
        go_ret
        exact ⟨ret_bool (by rw [HE.out, Bool.eq_iff_iff]; first | done | simp), hbr⟩
    · have hki : ¬ (k : Int) < (ps.length : Int) := by omega
      have HE : Hid (lessPre ps ps' = decide (ps.length < ps'.length)) := by show _ = _; rw [HP.out, ← hh.out]; exact lessGo_end ps ps' k hk hk' (by omega)
      clear hc hc' hsz hsz'
      go_wp2
      go_ret
      exact ⟨ret_bool (by rw [HE.out, Bool.eq_iff_iff]; first | done | simp), hbr⟩

set_option maxHeartbeats 1000000 in
set_option maxRecDepth 100000 in
theorem specLess_c (a b c : Int) (u : Value) (ps : List ByteArray) (a' b' c' : Int) (u' : Value) (ps' : List ByteArray) (w : World) (hu : Reads w u (strsV ps)) (hu' : Reads w u' (strsV ps')) (hb : bulkS ps ≤ 1048576) (hb' : bulkS ps' ≤ 1048576) :
    Calls Tryz.prog 86 #[.agg #[.int .i64 a, .int .i64 b, .int .i64 c, u], .agg #[.int .i64 a', .int .i64 b', .int .i64 c', u']] w fun e w' => e = .returned (.bool (lessB a b c ps a' b' c' ps')) ∧ Below w.heap.size w w' := by
  have HF : Hid (∀ w1, Below w.heap.size w w1 → Calls Tryz.prog 157 #[u, u'] w1 fun e w' => e = .returned (.bool (lessPre ps ps')) ∧ Below w1.heap.size w1 w') := fun w1 h => lessPre_c u u' ps ps' w1 (hu.below h) (hu'.below h) hb hb'
  obtain ⟨q, cap, rfl, _, _⟩ := reads_strs hu
  obtain ⟨q', cap', rfl, _, _⟩ := reads_strs hu'
  clear hu hu' hb hb'
  by_cases ha : a = a'
  · by_cases hb : b = b'
    · by_cases hc : c = c'
      · have HE : Hid (lessB a b c ps a' b' c' ps' = lessPre ps ps') := by show _ = _; rw [lessB, if_pos ha, if_pos hb, if_pos hc]
        have e1 : (a != a') = false := by simp [ha]
        have e2 : (b != b') = false := by simp [hb]
        have e3 : (c != c') = false := by simp [hc]
        clear ha hb hc
        go_enter Tryz.func86, Tryz.ntmps86
        go_wp2_with (go_at_call 157; refine (HF.out _ (two_box _ _)).mono ?_; rintro e w1 ⟨rfl, b1⟩)
        go_ret
        exact ⟨ret_bool HE.out.symm, (two_box _ _).trans (b1.mono (by simp; omega))⟩
      · have HE : Hid (lessB a b c ps a' b' c' ps' = decide (c < c')) := by show _ = _; rw [lessB, if_pos ha, if_pos hb, if_neg hc]
        have e1 : (a != a') = false := by simp [ha]
        have e2 : (b != b') = false := by simp [hb]
        have e3 : (c != c') = true := by simpa using hc
        clear ha hb hc
        go_enter Tryz.func86, Tryz.ntmps86
        go_wp2
        go_ret
        exact ⟨ret_bool HE.out.symm, two_box _ _⟩
    · have HE : Hid (lessB a b c ps a' b' c' ps' = decide (b < b')) := by show _ = _; rw [lessB, if_pos ha, if_neg hb]
      have e1 : (a != a') = false := by simp [ha]
      have e2 : (b != b') = true := by simpa using hb
      clear ha hb
      go_enter Tryz.func86, Tryz.ntmps86
      go_wp2
      go_ret
      exact ⟨ret_bool HE.out.symm, two_box _ _⟩
  · have HE : Hid (lessB a b c ps a' b' c' ps' = decide (a < a')) := by show _ = _; rw [lessB, if_neg ha]
    have e1 : (a != a') = true := by simpa using ha
    clear ha
    go_enter Tryz.func86, Tryz.ntmps86
    go_wp2
    go_ret
    exact ⟨ret_bool HE.out.symm, two_box _ _⟩
end Go.Proofs.YtlfmefojcmpfeaaGreatDoor

/-! What CmpOk answers, the program's and the specification's: contracts for the walks; conditions: the lists of texts lie in memory as told, and hold no more than 2 to the 20. -/
namespace Go.Proofs.YtlfmefojcmpfeaaGreatDoor
open Go.RowKit
set_option linter.unusedSimpArgs false
set_option linter.unusedVariables false

theorem sameB_comm (a b c : Int) (ps : List ByteArray) (a' b' c' : Int) (ps' : List ByteArray) : sameB a b c ps a' b' c' ps' = sameB a' b' c' ps' a b c ps := by
  have e1 : (a == a') = (a' == a) := BEq.comm
  have e2 : (b == b') = (b' == b) := BEq.comm
  have e3 : (c == c') = (c' == c) := BEq.comm
  have e4 : decide (ps = ps') = decide (ps' = ps) := decide_eq_decide.2 eq_comm
  rw [sameB, sameB, coreB, coreB, e1, e2, e3, e4]

/-- What CmpOk answers of a Cmp and a version. -/
def cmpB (o a b c : Int) (ps : List ByteArray) (a' b' c' : Int) (ps' : List ByteArray) : Bool :=
  if o = 0 then sameB a b c ps a' b' c' ps' else if o = 1 then lessB a' b' c' ps' a b c ps else if o = 2 then !lessB a b c ps a' b' c' ps' else if o = 3 then lessB a b c ps a' b' c' ps' else if o = 4 then !lessB a' b' c' ps' a b c ps else false

set_option maxHeartbeats 1000000 in
set_option maxRecDepth 100000 in
theorem implCmpOk_c (o a b c : Int) (u : Value) (ps : List ByteArray) (a' b' c' : Int) (u' : Value) (ps' : List ByteArray) (w : World) (hu : Reads w u (strsV ps)) (hu' : Reads w u' (strsV ps')) (hb : bulkS ps ≤ 1048576) (hb' : bulkS ps' ≤ 1048576) :
    Calls Tryz.prog 234 #[.agg #[.int .i64 o, .int .i64 a, .int .i64 b, .int .i64 c, u], .agg #[.int .i64 a', .int .i64 b', .int .i64 c', u']] w fun e w' => e = .returned (.bool (cmpB o a b c ps a' b' c' ps')) ∧ Below w.heap.size w w' := by
  have hn : ps.length ≤ 1048576 := by unfold bulkS at hb; omega
  have hn' : ps'.length ≤ 1048576 := by unfold bulkS at hb'; omega
  have HS : Hid (∀ w1, Below w.heap.size w w1 → Calls Tryz.prog 113 #[.agg #[.int .i64 a', .int .i64 b', .int .i64 c', u'], .agg #[.int .i64 a, .int .i64 b, .int .i64 c, u]] w1 fun e w' => e = .returned (.bool (sameB a b c ps a' b' c' ps')) ∧ Below w1.heap.size w1 w') := fun w1 h => by
    rw [sameB_comm]
    exact implSame_c a' b' c' u' ps' a b c u ps w1 (hu'.below h) (hu.below h) hn'
  have HL : Hid (∀ w1, Below w.heap.size w w1 → Calls Tryz.prog 20 #[.agg #[.int .i64 a', .int .i64 b', .int .i64 c', u'], .agg #[.int .i64 a, .int .i64 b, .int .i64 c, u]] w1 fun e w' => e = .returned (.bool (lessB a' b' c' ps' a b c ps)) ∧ Below w1.heap.size w1 w') := fun w1 h => implLess_c a' b' c' u' ps' a b c u ps w1 (hu'.below h) (hu.below h) hb' hb
  have HM : Hid (∀ w1, Below w.heap.size w w1 → Calls Tryz.prog 20 #[.agg #[.int .i64 a, .int .i64 b, .int .i64 c, u], .agg #[.int .i64 a', .int .i64 b', .int .i64 c', u']] w1 fun e w' => e = .returned (.bool (lessB a b c ps a' b' c' ps')) ∧ Below w1.heap.size w1 w') := fun w1 h => implLess_c a b c u ps a' b' c' u' ps' w1 (hu.below h) (hu'.below h) hb hb'
  have HC : Hid (cmpB o a b c ps a' b' c' ps' = if o = 0 then sameB a b c ps a' b' c' ps' else if o = 1 then lessB a' b' c' ps' a b c ps else if o = 2 then !lessB a b c ps a' b' c' ps' else if o = 3 then lessB a b c ps a' b' c' ps' else if o = 4 then !lessB a' b' c' ps' a b c ps else false) := rfl
  obtain ⟨r0, hr0⟩ : ∃ r, r = sameB a b c ps a' b' c' ps' := ⟨_, rfl⟩
  obtain ⟨r1, hr1⟩ : ∃ r, r = lessB a' b' c' ps' a b c ps := ⟨_, rfl⟩
  obtain ⟨r2, hr2⟩ : ∃ r, r = lessB a b c ps a' b' c' ps' := ⟨_, rfl⟩
  obtain ⟨rc, hrc⟩ : ∃ r, r = cmpB o a b c ps a' b' c' ps' := ⟨_, rfl⟩
  rw [← hr0, ← hr1, ← hr2, ← hrc] at HC
  rw [← hr0] at HS
  rw [← hr1] at HL
  rw [← hr2] at HM
  rw [← hrc]
  obtain ⟨q, cap, rfl, _, _⟩ := reads_strs hu
  obtain ⟨q', cap', rfl, _, _⟩ := reads_strs hu'
  clear hu hu' hb hb' hr0 hr1 hr2 hrc
  by_cases h0 : o = 0
  · have e : rc = (r0) := by rw [HC.out]; simp [h0]
    rw [e]
    subst h0
    clear e HC
    go_enter Tryz.func234, Tryz.ntmps234
    go_wp2_with (go_at_call 113; refine (HS.out _ (two_box _ _)).mono ?_; rintro e w1 ⟨rfl, b1⟩)
    go_ret
    exact ⟨rfl, (two_box _ _).trans (b1.mono (by simp; omega))⟩
  by_cases h1 : o = 1
  · have e : rc = (r1) := by rw [HC.out]; simp [h1]
    rw [e]
    subst h1
    clear e HC
    go_enter Tryz.func234, Tryz.ntmps234
    go_wp2_with (go_at_call 20; refine (HL.out _ (two_box _ _)).mono ?_; rintro e w1 ⟨rfl, b1⟩)
    go_ret
    exact ⟨rfl, (two_box _ _).trans (b1.mono (by simp; omega))⟩
  by_cases h2 : o = 2
  · have e : rc = (!r2) := by rw [HC.out]; simp [h2]
    rw [e]
    subst h2
    clear e HC
    go_enter Tryz.func234, Tryz.ntmps234
    go_wp2_with (go_at_call 20; refine (HM.out _ (two_box _ _)).mono ?_; rintro e w1 ⟨rfl, b1⟩)
    go_ret
    exact ⟨rfl, (two_box _ _).trans (b1.mono (by simp; omega))⟩
  by_cases h3 : o = 3
  · have e : rc = (r2) := by rw [HC.out]; simp [h3]
    rw [e]
    subst h3
    clear e HC
    go_enter Tryz.func234, Tryz.ntmps234
    go_wp2_with (go_at_call 20; refine (HM.out _ (two_box _ _)).mono ?_; rintro e w1 ⟨rfl, b1⟩)
    go_ret
    exact ⟨rfl, (two_box _ _).trans (b1.mono (by simp; omega))⟩
  by_cases h4 : o = 4
  · have e : rc = (!r1) := by rw [HC.out]; simp [h4]
    rw [e]
    subst h4
    clear e HC
    go_enter Tryz.func234, Tryz.ntmps234
    go_wp2_with (go_at_call 20; refine (HL.out _ (two_box _ _)).mono ?_; rintro e w1 ⟨rfl, b1⟩)
    go_ret
    exact ⟨rfl, (two_box _ _).trans (b1.mono (by simp; omega))⟩
  have e : rc = false := by rw [HC.out]; simp [h0, h1, h2, h3, h4]
  rw [e]
  have k0 : (o == 0) = false := by simpa using h0
  have k1 : (o == 1) = false := by simpa using h1
  have k2 : (o == 2) = false := by simpa using h2
  have k3 : (o == 3) = false := by simpa using h3
  have k4 : (o == 4) = false := by simpa using h4
  clear e HC h0 h1 h2 h3 h4
  go_enter Tryz.func234, Tryz.ntmps234
  go_wp2
  go_ret
  exact ⟨rfl, two_box _ _⟩

set_option maxHeartbeats 1000000 in
set_option maxRecDepth 100000 in
theorem specCmpOk_c (o a b c : Int) (u : Value) (ps : List ByteArray) (a' b' c' : Int) (u' : Value) (ps' : List ByteArray) (w : World) (hu : Reads w u (strsV ps)) (hu' : Reads w u' (strsV ps')) (hb : bulkS ps ≤ 1048576) (hb' : bulkS ps' ≤ 1048576) :
    Calls Tryz.prog 169 #[.agg #[.int .i64 o, .int .i64 a, .int .i64 b, .int .i64 c, u], .agg #[.int .i64 a', .int .i64 b', .int .i64 c', u']] w fun e w' => e = .returned (.bool (cmpB o a b c ps a' b' c' ps')) ∧ Below w.heap.size w w' := by
  have hn : ps.length ≤ 1048576 := by unfold bulkS at hb; omega
  have hn' : ps'.length ≤ 1048576 := by unfold bulkS at hb'; omega
  have HS : Hid (∀ w1, Below w.heap.size w w1 → Calls Tryz.prog 82 #[.agg #[.int .i64 a, .int .i64 b, .int .i64 c, u], .agg #[.int .i64 a', .int .i64 b', .int .i64 c', u']] w1 fun e w' => e = .returned (.bool (sameB a b c ps a' b' c' ps')) ∧ Below w1.heap.size w1 w') := fun w1 h => by
    skip
    exact specSame_c a b c u ps a' b' c' u' ps' w1 (hu.below h) (hu'.below h) hn
  have HL : Hid (∀ w1, Below w.heap.size w w1 → Calls Tryz.prog 86 #[.agg #[.int .i64 a', .int .i64 b', .int .i64 c', u'], .agg #[.int .i64 a, .int .i64 b, .int .i64 c, u]] w1 fun e w' => e = .returned (.bool (lessB a' b' c' ps' a b c ps)) ∧ Below w1.heap.size w1 w') := fun w1 h => specLess_c a' b' c' u' ps' a b c u ps w1 (hu'.below h) (hu.below h) hb' hb
  have HM : Hid (∀ w1, Below w.heap.size w w1 → Calls Tryz.prog 86 #[.agg #[.int .i64 a, .int .i64 b, .int .i64 c, u], .agg #[.int .i64 a', .int .i64 b', .int .i64 c', u']] w1 fun e w' => e = .returned (.bool (lessB a b c ps a' b' c' ps')) ∧ Below w1.heap.size w1 w') := fun w1 h => specLess_c a b c u ps a' b' c' u' ps' w1 (hu.below h) (hu'.below h) hb hb'
  have HC : Hid (cmpB o a b c ps a' b' c' ps' = if o = 0 then sameB a b c ps a' b' c' ps' else if o = 1 then lessB a' b' c' ps' a b c ps else if o = 2 then !lessB a b c ps a' b' c' ps' else if o = 3 then lessB a b c ps a' b' c' ps' else if o = 4 then !lessB a' b' c' ps' a b c ps else false) := rfl
  obtain ⟨r0, hr0⟩ : ∃ r, r = sameB a b c ps a' b' c' ps' := ⟨_, rfl⟩
  obtain ⟨r1, hr1⟩ : ∃ r, r = lessB a' b' c' ps' a b c ps := ⟨_, rfl⟩
  obtain ⟨r2, hr2⟩ : ∃ r, r = lessB a b c ps a' b' c' ps' := ⟨_, rfl⟩
  obtain ⟨rc, hrc⟩ : ∃ r, r = cmpB o a b c ps a' b' c' ps' := ⟨_, rfl⟩
  rw [← hr0, ← hr1, ← hr2, ← hrc] at HC
  rw [← hr0] at HS
  rw [← hr1] at HL
  rw [← hr2] at HM
  rw [← hrc]
  obtain ⟨q, cap, rfl, _, _⟩ := reads_strs hu
  obtain ⟨q', cap', rfl, _, _⟩ := reads_strs hu'
  clear hu hu' hb hb' hr0 hr1 hr2 hrc
  by_cases h0 : o = 0
  · have e : rc = (r0) := by rw [HC.out]; simp [h0]
    rw [e]
    subst h0
    clear e HC
    go_enter Tryz.func169, Tryz.ntmps169
    go_wp2_with (go_at_call 82; refine (HS.out _ (two_box _ _)).mono ?_; rintro e w1 ⟨rfl, b1⟩)
    go_ret
    exact ⟨rfl, (two_box _ _).trans (b1.mono (by simp; omega))⟩
  by_cases h1 : o = 1
  · have e : rc = (r1) := by rw [HC.out]; simp [h1]
    rw [e]
    subst h1
    clear e HC
    go_enter Tryz.func169, Tryz.ntmps169
    go_wp2_with (go_at_call 86; refine (HL.out _ (two_box _ _)).mono ?_; rintro e w1 ⟨rfl, b1⟩)
    go_ret
    exact ⟨rfl, (two_box _ _).trans (b1.mono (by simp; omega))⟩
  by_cases h2 : o = 2
  · have e : rc = (!r2) := by rw [HC.out]; simp [h2]
    rw [e]
    subst h2
    clear e HC
    go_enter Tryz.func169, Tryz.ntmps169
    go_wp2_with (go_at_call 86; refine (HM.out _ (two_box _ _)).mono ?_; rintro e w1 ⟨rfl, b1⟩)
    go_ret
    exact ⟨rfl, (two_box _ _).trans (b1.mono (by simp; omega))⟩
  by_cases h3 : o = 3
  · have e : rc = (r2) := by rw [HC.out]; simp [h3]
    rw [e]
    subst h3
    clear e HC
    go_enter Tryz.func169, Tryz.ntmps169
    go_wp2_with (go_at_call 86; refine (HM.out _ (two_box _ _)).mono ?_; rintro e w1 ⟨rfl, b1⟩)
    go_ret
    exact ⟨rfl, (two_box _ _).trans (b1.mono (by simp; omega))⟩
  by_cases h4 : o = 4
  · have e : rc = (!r1) := by rw [HC.out]; simp [h4]
    rw [e]
    subst h4
    clear e HC
    go_enter Tryz.func169, Tryz.ntmps169
    go_wp2_with (go_at_call 86; refine (HL.out _ (two_box _ _)).mono ?_; rintro e w1 ⟨rfl, b1⟩)
    go_ret
    exact ⟨rfl, (two_box _ _).trans (b1.mono (by simp; omega))⟩
  have e : rc = false := by rw [HC.out]; simp [h0, h1, h2, h3, h4]
  rw [e]
  have k0 : (o == 0) = false := by simpa using h0
  have k1 : (o == 1) = false := by simpa using h1
  have k2 : (o == 2) = false := by simpa using h2
  have k3 : (o == 3) = false := by simpa using h3
  have k4 : (o == 4) = false := by simpa using h4
  clear e HC h0 h1 h2 h3 h4
  go_enter Tryz.func169, Tryz.ntmps169
  go_wp2
  go_ret
  exact ⟨rfl, two_box _ _⟩
end Go.Proofs.YtlfmefojcmpfeaaGreatDoor

/-! What InRange answers, the program's: contracts for the walks; conditions: what comes in lies in memory as told, and holds no more than 2 to the 20. -/
namespace Go.Proofs.YtlfmefojcmpfeaaGreatDoor
open Go.RowKit
set_option linter.unusedSimpArgs false
set_option linter.unusedVariables false

/-- Does a Cmp hold, and does it ask for a Pre of these numbers? -/
def holdsD (a' b' c' : Int) (ps' : List ByteArray) (d : CmpD) : Bool := cmpB d.o d.a d.b d.c d.ps a' b' c' ps'
def asksD (a' b' c' : Int) (d : CmpD) : Bool := decide (0 < d.ps.length) && coreB d.a d.b d.c a' b' c'
/-- Is a version taken by a list of Cmps; by a range? -/
def takeB (a' b' c' : Int) (ps' : List ByteArray) (ds : List CmpD) : Bool := ds.all (holdsD a' b' c' ps') && (decide (ps'.length = 0) || ds.any (asksD a' b' c'))
def inRB (a' b' c' : Int) (ps' : List ByteArray) (dss : List (List CmpD)) : Bool := verB a' b' c' ps' && dss.any (takeB a' b' c' ps')

theorem any_take {α : Type} (f : α → Bool) (l : List α) (k : Nat) (h : k < l.length) : (l.take (k + 1)).any f = ((l.take k).any f || f l[k]) := by
  rw [List.take_succ_eq_append_getElem h, List.any_append]; simp
theorem all_at {α : Type} (f : α → Bool) (l : List α) (k : Nat) (h : k < l.length) (hf : f l[k] = false) : l.all f = false := by
  rw [List.all_eq_false]; exact ⟨l[k], List.getElem_mem h, by simp [hf]⟩
theorem all_take {α : Type} (f : α → Bool) (l : List α) (k : Nat) (h : k < l.length) : (l.take (k + 1)).all f = ((l.take k).all f && f l[k]) := by
  rw [List.take_succ_eq_append_getElem h, List.all_append]; simp

set_option maxHeartbeats 1000000 in
set_option maxRecDepth 100000 in
theorem sameNums_c (a b c : Int) (q : Option Addr) (n cap : Nat) (a' b' c' : Int) (q' : Option Addr) (n' cap' : Nat) (w : World) :
    Calls Tryz.prog 235 #[.agg #[.int .i64 a, .int .i64 b, .int .i64 c, .slice q n cap], .agg #[.int .i64 a', .int .i64 b', .int .i64 c', .slice q' n' cap']] w fun e w' => e = .returned (.bool (coreB a b c a' b' c')) ∧ Below w.heap.size w w' := by
  cases ha : (a == a') with
  | false =>
    have e : coreB a b c a' b' c' = false := by rw [coreB, ha]; rfl
    rw [e]
    go_enter Tryz.func235, Tryz.ntmps235
    go_wp2
    go_ret
    exact ⟨rfl, two_box _ _⟩
  | true =>
  cases hb : (b == b') with
  | false =>
    have e : coreB a b c a' b' c' = false := by rw [coreB, hb, Bool.and_false]; rfl
    rw [e]
    go_enter Tryz.func235, Tryz.ntmps235
    go_wp2
    go_ret
    exact ⟨rfl, two_box _ _⟩
  | true =>
    have e : coreB a b c a' b' c' = (c == c') := by rw [coreB, ha, hb]; rfl
    rw [e]
    clear e
    go_enter Tryz.func235, Tryz.ntmps235
    go_wp2
    go_ret
    exact ⟨rfl, two_box _ _⟩

theorem take_end (a' b' c' : Int) (ps' : List ByteArray) (ds : List CmpD) (h : (ds.take ds.length).all (holdsD a' b' c' ps') = true) : takeB a' b' c' ps' ds = (decide (ps'.length = 0) || (ds.take ds.length).any (asksD a' b' c')) := by
  rw [List.take_length] at h ⊢
  rw [takeB, h, Bool.true_and]
theorem len_beq (n : Nat) : ((n : Int) == 0) = decide (n = 0) := by
  by_cases h : n = 0
  · simp [h]
  · have : ¬ (n : Int) = 0 := by omega
    simp [h]

set_option maxHeartbeats 4000000 in
set_option maxRecDepth 100000 in
theorem allTake_c (S : Nat → Prop) (v : Value) (ds : List CmpD) (a' b' c' : Int) (u' : Value) (ps' : List ByteArray) (w : World) (hv : CmpsIn S w v ds) (hB : ∀ b, S b → b < w.heap.size) (hw : wtC ds ≤ 1048576) (hu' : Reads w u' (strsV ps')) (hb' : bulkS ps' ≤ 1048576) :
    Calls Tryz.prog 164 #[v, .agg #[.int .i64 a', .int .i64 b', .int .i64 c', u']] w fun e w' => e = .returned (.bool (takeB a' b' c' ps' ds)) ∧ Below w.heap.size w w' := by
  obtain ⟨a, cap, rfl, hl, hc, ha⟩ := hv
  unfold maxLen at hl
  have hrv : ∀ w1, Below w.heap.size w w1 → Reads w1 u' (strsV ps') := fun w1 h => hu'.below h
  have hn' : ps'.length ≤ 1048576 := by unfold bulkS at hb'; omega
  obtain ⟨q', cap', rfl, _, _⟩ := reads_strs hu'
  have HR : Hid (∀ w1, Below w.heap.size w w1 → Reads w1 (.slice q' ps'.length cap') (strsV ps')) := hrv
  have F0 := four_new w 30 (.int .i64 a') (.int .i64 b') (.int .i64 c') (.slice q' ps'.length cap')
  have hbx : ∀ o, Below w.heap.size w (w.alloc o) := fun o => (Below.refl _ _).alloc (Nat.le_refl _) _
  clear hu' hrv
  go_enter Tryz.func164, Tryz.ntmps164
  go_wp2_with fail
  go_loopw [5, 14] (fun v5 vi wr => ∃ (k : Nat) (p : Bool), k ≤ ds.length ∧ vi = .int .i64 (k : Int) ∧ v5 = .bool p ∧ Hid (p = (decide (ps'.length = 0) || (ds.take k).any (asksD a' b' c'))) ∧ Hid ((ds.take k).all (holdsD a' b' c' ps') = true) ∧ Below w.heap.size w wr ∧ Four wr w.heap.size 30 (.int .i64 a') (.int .i64 b') (.int .i64 c') (.slice q' ps'.length cap')) (fun _ vi _ => ds.length - (intOf vi).toNat)
  case atStart => exact ⟨0, _, Nat.zero_le _, rfl, rfl, (by show _ = _; rw [len_beq]; simp), (by show _ = _; simp), hbx _, F0⟩
  case round =>
    obtain ⟨k, p, hk, rfl, rfl, hp, hall, hbr, hF⟩ := hrel
    clear F0
    by_cases hlt' : k < ds.length
    · rcases ha with rfl | ⟨b, off, us, rfl, hlt, ha⟩
      · simp at hlt'
      obtain ⟨e0, e1, e2, e3, e4, hu, hsn⟩ := ha k hlt'
      have hlt2 : b < w.heap.size := hB b hlt
      rw [← hbr.cell (by simpa using hlt2)] at e0 e1 e2 e3 e4
      have hbk : bulkS ds[k].ps ≤ 1048576 := by have := bulk_wtC (List.getElem_mem hlt'); omega
      have hpl : ds[k].ps.length ≤ 1048576 := by unfold bulkS at hbk; omega
      have hr1 : ∀ w1, Below wr.heap.size wr w1 → Reads w1 (us k) (strsV ds[k].ps) := fun w1 h => (hu.keep (.of (hbr.trans (h.mono hbr.size)) hB)).reads (fun b hb => Nat.lt_of_lt_of_le (hB b hb) (Nat.le_trans hbr.size h.size))
      have HA : Hid (∀ q : Bool, q = holdsD a' b' c' ps' ds[k] → q = true → (ds.take (k + 1)).all (holdsD a' b' c' ps') = true) := fun q h1 h2 => by rw [all_take _ _ _ hlt', hall.out, ← h1, h2]; rfl
      have HX : Hid (holdsD a' b' c' ps' ds[k] = false → takeB a' b' c' ps' ds = false) := fun h => by rw [takeB, all_at _ _ k hlt' h]; rfl
      have HY : Hid (∀ q : Bool, q = (p || asksD a' b' c' ds[k]) → q = (decide (ps'.length = 0) || (ds.take (k + 1)).any (asksD a' b' c'))) := fun q h => by rw [any_take _ _ _ hlt', ← Bool.or_assoc, ← hp.out]; exact h
      obtain ⟨d, hd⟩ : ∃ d, d = ds[k] := ⟨_, rfl⟩
      rw [← hd] at e0 e1 e2 e3 hr1 hbk hpl HA HX HY
      obtain ⟨u, hu0⟩ : ∃ u, u = us k := ⟨_, rfl⟩
      rw [← hu0] at e4 hr1
      obtain ⟨uq, ucap, hu2, _, _⟩ := reads_strs (hr1 wr (Below.refl _ _))
      subst hu2
      obtain ⟨r, hr⟩ : ∃ r, r = holdsD a' b' c' ps' d := ⟨_, rfl⟩
      have HC : Hid (∀ w1, Below wr.heap.size wr w1 → Calls Tryz.prog 234 #[.agg #[.int .i64 d.o, .int .i64 d.a, .int .i64 d.b, .int .i64 d.c, .slice uq d.ps.length ucap], .agg #[.int .i64 a', .int .i64 b', .int .i64 c', .slice q' ps'.length cap']] w1 fun e w' => e = .returned (.bool r) ∧ Below w1.heap.size w1 w') := fun w1 h => by rw [hr]; exact implCmpOk_c _ _ _ _ _ d.ps _ _ _ _ ps' w1 (hr1 w1 h) (HR.out w1 (hbr.trans (h.mono hbr.size))) hbk hb'
      rw [← hr] at HX
      have HA2 : Hid (r = true → (ds.take (k + 1)).all (holdsD a' b' c' ps') = true) := HA.out r hr
      have hbw : ∀ o, Below wr.heap.size wr (wr.alloc o) := fun o => (Below.refl _ _).alloc (Nat.le_refl _) _
      have hC0 := five_new wr 214 (.int .i64 d.o) (.int .i64 d.a) (.int .i64 d.b) (.int .i64 d.c) (.slice uq d.ps.length ucap)
      have hF1 := hF.keep (hbw (.cells #[.int .i64 d.o, .int .i64 d.a, .int .i64 d.b, .int .i64 d.c, .slice uq d.ps.length ucap] 214))
      obtain ⟨x0, x1, x2, x3⟩ := hF.cells
      have hNw : w.heap.size < wr.heap.size := hF.lt
      have hki : (k : Int) < (ds.length : Int) := by omega
      clear ha hu hd hu0 hr1 hr HA hsn hbk
      cases r with
      | false =>
        have HX2 : Hid (takeB a' b' c' ps' ds = false) := HX.out rfl
        clear HX
        go_wp2_with (go_at_call 234; refine (HC.out _ (hbw _)).mono ?_; rintro e w1 ⟨rfl, b1⟩)
        go_ret
        exact ⟨by rw [HX2.out]; rfl, hbr.trans (((hbw _).trans (b1.mono (by simp))).mono hbr.size)⟩
      | true =>
        have HA3 := HA2.out rfl
        have HA4 : Hid ((ds.take (k + 1)).all (holdsD a' b' c' ps') = true) := HA3
        clear HX HA2 HA3
        cases p with
        | true =>
          have HY2 : Hid (true = (decide (ps'.length = 0) || (ds.take (k + 1)).any (asksD a' b' c'))) := HY.out true rfl
          clear HY
          go_wp2_with (go_at_call 234; refine (HC.out _ (hbw _)).mono ?_; rintro e w1 ⟨rfl, b1⟩; have G1 := hF1.keep b1)
          go_roundw
          case rel => exact ⟨k + 1, true, by omega, by go_num, rfl, HY2, HA4, hbr.trans (((hbw _).trans (b1.mono (by simp))).mono hbr.size), G1⟩
          case measure => simp [intOf]; omega
        | false =>
          by_cases hgt : 0 < d.ps.length
          · have hgt' : (0 : Int) < (d.ps.length : Int) := by omega
            obtain ⟨r2, hr2⟩ : ∃ r, r = coreB d.a d.b d.c a' b' c' := ⟨_, rfl⟩
            have HY2 : Hid (r2 = (decide (ps'.length = 0) || (ds.take (k + 1)).any (asksD a' b' c'))) := HY.out r2 (by rw [asksD, decide_eq_true hgt, hr2]; rfl)
            have HN : Hid (∀ w1, Calls Tryz.prog 235 #[.agg #[.int .i64 d.a, .int .i64 d.b, .int .i64 d.c, .slice uq d.ps.length ucap], .agg #[.int .i64 a', .int .i64 b', .int .i64 c', .slice q' ps'.length cap']] w1 fun e w' => e = .returned (.bool r2) ∧ Below w1.heap.size w1 w') := fun w1 => by rw [hr2]; exact sameNums_c _ _ _ _ _ _ _ _ _ _ _ _ w1
            clear HY hr2 hgt
            go_wp2_with (first
              | (go_at_call 234; refine (HC.out _ (hbw _)).mono ?_; rintro e w1 ⟨rfl, b1⟩; have G1 := hF1.keep b1; have D1 := hC0.keep b1; obtain ⟨y0, y1, y2, y3⟩ := G1.cells; obtain ⟨z0, z1, z2, z3, z4⟩ := D1.cells)
              | (go_at_call 235; refine (HN.out _).mono ?_; rintro e w2 ⟨rfl, b2⟩))
            go_roundw
            case rel => exact ⟨k + 1, r2, by omega, by go_num, rfl, HY2, HA4, hbr.trans ((((hbw _).trans (b1.mono (by simp))).trans (b2.mono (Nat.le_trans (hbw (.cells #[.int .i64 d.o, .int .i64 d.a, .int .i64 d.b, .int .i64 d.c, .slice uq d.ps.length ucap] 214)).size b1.size))).mono hbr.size), G1.keep b2⟩
            case measure => simp [intOf]; omega
          · have hgt' : ¬ (0 : Int) < (d.ps.length : Int) := by omega
            have HY2 : Hid (false = (decide (ps'.length = 0) || (ds.take (k + 1)).any (asksD a' b' c'))) := HY.out false (by rw [asksD, decide_eq_false hgt]; rfl)
            clear HY hgt
            go_wp2_with (go_at_call 234; refine (HC.out _ (hbw _)).mono ?_; rintro e w1 ⟨rfl, b1⟩; have G1 := hF1.keep b1; have D1 := hC0.keep b1; obtain ⟨y0, y1, y2, y3⟩ := G1.cells; obtain ⟨z0, z1, z2, z3, z4⟩ := D1.cells)
            go_roundw
            case rel => exact ⟨k + 1, false, by omega, by go_num, rfl, HY2, HA4, hbr.trans (((hbw _).trans (b1.mono (by simp))).mono hbr.size), G1⟩
            case measure => simp [intOf]; omega
    · have he : k = ds.length := by omega
      subst he
      have HE : Hid (takeB a' b' c' ps' ds = p) := by show _ = _; rw [take_end _ _ _ _ _ hall.out, ← hp.out]
      clear ha hall hp
      go_wp2_with fail
      go_ret
      exact ⟨by rw [HE.out]; rfl, hbr⟩
end Go.Proofs.YtlfmefojcmpfeaaGreatDoor

/-! What InRange answers, the program's: the search for a list that takes a version; conditions: what comes in lies in memory as told, and holds no more than 2 to the 20. -/
namespace Go.Proofs.YtlfmefojcmpfeaaGreatDoor
open Go.RowKit
set_option linter.unusedSimpArgs false
set_option linter.unusedVariables false

set_option maxHeartbeats 1000000 in
set_option maxRecDepth 100000 in
theorem inRangeFn_c (S : Nat → Prop) (v : Value) (ds : List CmpD) (B : Nat) (a' b' c' : Int) (u' : Value) (ps' : List ByteArray) (w : World) (hv : CmpsIn S w v ds) (hB : ∀ b, S b → b < w.heap.size) (hw : wtC ds ≤ 1048576) (hu' : Reads w u' (strsV ps')) (hb' : bulkS ps' ≤ 1048576) (hF : Four w B 30 (.int .i64 a') (.int .i64 b') (.int .i64 c') u') :
    Calls Tryz.prog 163 #[v, .pointer (some ⟨B, 0, none⟩)] w fun e w' => e = .returned (.bool (takeB a' b' c' ps' ds)) ∧ Below w.heap.size w w' := by
  have HA : Hid (Calls Tryz.prog 164 #[v, .agg #[.int .i64 a', .int .i64 b', .int .i64 c', u']] w fun e w' => e = .returned (.bool (takeB a' b' c' ps' ds)) ∧ Below w.heap.size w w') := allTake_c S v ds a' b' c' u' ps' w hv hB hw hu' hb'
  obtain ⟨q', cap', rfl, _, _⟩ := reads_strs hu'
  obtain ⟨a, cap, rfl, _⟩ := hv
  obtain ⟨x0, x1, x2, x3⟩ := hF.cells
  clear hu' hF
  go_enter Tryz.func163, Tryz.ntmps163
  go_wp2_with (go_at_call 164; refine HA.out.mono ?_; rintro e w1 ⟨rfl, b1⟩)
  go_ret
  exact ⟨rfl, b1⟩

theorem any_at {α : Type} (f : α → Bool) (l : List α) (k : Nat) (h : k < l.length) (hf : f l[k] = true) : l.any f = true := by
  rw [List.any_eq_true]; exact ⟨l[k], List.getElem_mem h, hf⟩

set_option maxHeartbeats 1000000 in
set_option maxRecDepth 100000 in
theorem indexRange_c (S : Nat → Prop) (v : Value) (dss : List (List CmpD)) (B : Nat) (a' b' c' : Int) (u' : Value) (ps' : List ByteArray) (w : World) (hv : RangeIn S w v dss) (hB : ∀ b, S b → b < w.heap.size) (hw : wtR dss ≤ 1048576) (hu' : Reads w u' (strsV ps')) (hb' : bulkS ps' ≤ 1048576) (hF : Four w B 30 (.int .i64 a') (.int .i64 b') (.int .i64 c') u') :
    Calls Tryz.prog 233 #[v, .func (.func 163) #[] #[.pointer (some ⟨B, 0, none⟩)]] w fun e w' => ∃ r : Int, e = .returned (.int .i64 r) ∧ decide (r ≥ 0) = dss.any (takeB a' b' c' ps') ∧ Below w.heap.size w w' := by
  obtain ⟨a, cap, rfl, hl, hc, ha⟩ := hv
  unfold maxLen at hl
  go_enter Tryz.func233, Tryz.ntmps233
  go_wp2_with fail
  go_loopw [8] (fun vi wr => ∃ k : Nat, k ≤ dss.length ∧ vi = .int .i64 (k : Int) ∧ Hid ((dss.take k).any (takeB a' b' c' ps') = false) ∧ Below w.heap.size w wr) (fun vi _ => dss.length - (intOf vi).toNat)
  case atStart => exact ⟨0, Nat.zero_le _, rfl, (by show _ = _; simp), Below.refl _ _⟩
  case round =>
    obtain ⟨k, hk, rfl, hany, hbr⟩ := hrel
    by_cases hlt' : k < dss.length
    · rcases ha with rfl | ⟨b, off, vs, rfl, hlt, ha⟩
      · simp at hlt'
      obtain ⟨e0, hu⟩ := ha k hlt'
      have hlt2 : b < w.heap.size := hB b hlt
      rw [← hbr.cell (by simpa using hlt2)] at e0
      have hwt : wtC dss[k] ≤ 1048576 := by have := wtC_wtR (List.getElem_mem hlt'); omega
      have hr1 : CmpsIn S wr (vs k) dss[k] := hu.keep (.of hbr hB)
      have hBr : ∀ b, S b → b < wr.heap.size := fun b h => Nat.lt_of_lt_of_le (hB b h) hbr.size
      have HT : Hid (takeB a' b' c' ps' dss[k] = true → dss.any (takeB a' b' c' ps') = true) := fun h => any_at _ _ k hlt' h
      have HN : Hid (takeB a' b' c' ps' dss[k] = false → (dss.take (k + 1)).any (takeB a' b' c' ps') = false) := fun h => by rw [any_take _ _ _ hlt', hany.out, h]; rfl
      obtain ⟨d, hd⟩ : ∃ d, d = dss[k] := ⟨_, rfl⟩
      rw [← hd] at hr1 hwt HT HN
      obtain ⟨x, hx⟩ : ∃ x, x = vs k := ⟨_, rfl⟩
      rw [← hx] at e0 hr1
      obtain ⟨r, hr⟩ : ∃ r, r = takeB a' b' c' ps' d := ⟨_, rfl⟩
      rw [← hr] at HT HN
      have HC : Hid (Calls Tryz.prog 163 #[x, .pointer (some ⟨B, 0, none⟩)] wr fun e w' => e = .returned (.bool r) ∧ Below wr.heap.size wr w') := by rw [hr]; exact inRangeFn_c S x d B a' b' c' u' ps' wr hr1 hBr hwt (hu'.below hbr) hb' ((hbr.block B hF.lt).trans hF)
      obtain ⟨uq, ucap, hu3, _⟩ := id hr1
      subst hu3
      have hki : (k : Int) < (dss.length : Int) := by omega
      clear ha hu hd hx hr hr1 hu' hF
      cases r with
      | true =>
        have HT2 : Hid (dss.any (takeB a' b' c' ps') = true) := HT.out rfl
        clear HT HN
        go_wp2_with (go_at_call 163; refine HC.out.mono ?_; rintro e w1 ⟨rfl, b1⟩)
        go_ret
        exact ⟨(k : Int), rfl, by rw [HT2.out]; exact decide_eq_true (by omega), hbr.trans (b1.mono hbr.size)⟩
      | false =>
        have HN2 : Hid ((dss.take (k + 1)).any (takeB a' b' c' ps') = false) := HN.out rfl
        clear HT HN
        go_wp2_with (go_at_call 163; refine HC.out.mono ?_; rintro e w1 ⟨rfl, b1⟩)
        go_roundw
        case rel => exact ⟨k + 1, by omega, by go_num, HN2, hbr.trans (b1.mono hbr.size)⟩
        case measure => simp [intOf]; omega
    · have he : k = dss.length := by omega
      subst he
      have HE : Hid (dss.any (takeB a' b' c' ps') = false) := by have := hany.out; rw [List.take_length] at this; exact this
      clear ha hany hu' hF
      go_wp2_with fail
      go_ret
      exact ⟨-1, rfl, by rw [HE.out]; rfl, hbr⟩

set_option maxHeartbeats 1000000 in
set_option maxRecDepth 100000 in
theorem containsRange_c (S : Nat → Prop) (v : Value) (dss : List (List CmpD)) (B : Nat) (a' b' c' : Int) (u' : Value) (ps' : List ByteArray) (w : World) (hv : RangeIn S w v dss) (hB : ∀ b, S b → b < w.heap.size) (hw : wtR dss ≤ 1048576) (hu' : Reads w u' (strsV ps')) (hb' : bulkS ps' ≤ 1048576) (hF : Four w B 30 (.int .i64 a') (.int .i64 b') (.int .i64 c') u') :
    Calls Tryz.prog 162 #[v, .func (.func 163) #[] #[.pointer (some ⟨B, 0, none⟩)]] w fun e w' => e = .returned (.bool (dss.any (takeB a' b' c' ps'))) ∧ Below w.heap.size w w' := by
  have HA := indexRange_c S v dss B a' b' c' u' ps' w hv hB hw hu' hb' hF
  obtain ⟨a, cap, rfl, _⟩ := hv
  obtain ⟨R, hR⟩ : ∃ R, R = dss.any (takeB a' b' c' ps') := ⟨_, rfl⟩
  rw [← hR] at HA
  rw [← hR]
  have HA' : Hid (Calls Tryz.prog 233 #[.slice a dss.length cap, .func (.func 163) #[] #[.pointer (some ⟨B, 0, none⟩)]] w fun e w' => ∃ r : Int, e = .returned (.int .i64 r) ∧ decide (r ≥ 0) = R ∧ Below w.heap.size w w') := HA
  clear HA hR hu' hF
  go_enter Tryz.func162, Tryz.ntmps162
  go_wp2_with (go_at_call 233; refine HA'.out.mono ?_; rintro e w1 ⟨r, rfl, hr, b1⟩; have HR : Hid (decide (r ≥ 0) = R) := hr; clear hr)
  go_ret
  exact ⟨by rw [← HR.out]; rfl, b1⟩

set_option maxHeartbeats 1000000 in
set_option maxRecDepth 100000 in
theorem implInRange_c (S : Nat → Prop) (v : Value) (dss : List (List CmpD)) (a' b' c' : Int) (u' : Value) (ps' : List ByteArray) (w : World) (hv : RangeIn S w v dss) (hB : ∀ b, S b → b < w.heap.size) (hw : wtR dss ≤ 1048576) (hu' : Reads w u' (strsV ps')) (hb' : bulkS ps' ≤ 1048576) :
    Calls Tryz.prog 88 #[v, .agg #[.int .i64 a', .int .i64 b', .int .i64 c', u']] w fun e w' => e = .returned (.bool (inRB a' b' c' ps' dss)) ∧ Below w.heap.size w w' := by
  have hbx : ∀ o, Below w.heap.size w (w.alloc o) := fun o => (Below.refl _ _).alloc (Nat.le_refl _) _
  have F0 := four_new w 30 (.int .i64 a') (.int .i64 b') (.int .i64 c') u'
  have hmf : ∀ (fn : Fn) (first cap : Array Value) (w : World), (Instr.makeFunc fn first cap).run Tryz.prog w = .ok (.func fn first cap) w := fun _ _ _ _ => rfl
  have hB1 : ∀ w1, Below w.heap.size w w1 → ∀ b, S b → b < w1.heap.size := fun w1 h b hb => Nat.lt_of_lt_of_le (hB b hb) h.size
  obtain ⟨r1, hr1⟩ : ∃ r, r = verB a' b' c' ps' := ⟨_, rfl⟩
  obtain ⟨r2, hr2⟩ : ∃ r, r = dss.any (takeB a' b' c' ps') := ⟨_, rfl⟩
  have HV : Hid (∀ w1, Below w.heap.size w w1 → Calls Tryz.prog 161 #[.agg #[.int .i64 a', .int .i64 b', .int .i64 c', u']] w1 fun e w' => e = .returned (.bool r1) ∧ Below w1.heap.size w1 w') := fun w1 h => by rw [hr1]; exact implVerOk_c a' b' c' u' ps' w1 (hu'.below h) hb'
  have HC : Hid (∀ w1, Below w.heap.size w w1 → Four w1 w.heap.size 30 (.int .i64 a') (.int .i64 b') (.int .i64 c') u' → Calls Tryz.prog 162 #[v, .func (.func 163) #[] #[.pointer (some ⟨w.heap.size, 0, none⟩)]] w1 fun e w' => e = .returned (.bool r2) ∧ Below w1.heap.size w1 w') := fun w1 h hF => by rw [hr2]; exact containsRange_c S v dss w.heap.size a' b' c' u' ps' w1 (hv.keep (.of h hB)) (hB1 w1 h) hw (hu'.below h) hb' hF
  have e : inRB a' b' c' ps' dss = (r1 && r2) := by rw [inRB, hr1, hr2]
  rw [e]
  obtain ⟨q', cap', rfl, _, _⟩ := reads_strs hu'
  obtain ⟨a, cap, rfl, _⟩ := hv
  clear hu' hr1 hr2 e
  cases r1 with
  | false =>
    rw [Bool.false_and]
    go_enter Tryz.func88, Tryz.ntmps88
    go_wp2_with (go_at_call 161; refine (HV.out _ (hbx _)).mono ?_; rintro e w1 ⟨rfl, b1⟩)
    go_ret
    exact ⟨rfl, (hbx _).trans (b1.mono (by simp))⟩
  | true =>
    rw [Bool.true_and]
    go_enter Tryz.func88, Tryz.ntmps88
    go_wp2_with (first
      | (go_at_call 161; refine (HV.out _ (hbx _)).mono ?_; rintro e w1 ⟨rfl, b1⟩; have F1 := F0.keep b1; have k1 := (hbx (.cells #[.int .i64 a', .int .i64 b', .int .i64 c', .slice q' ps'.length cap'] 30)).trans (b1.mono (by simp)))
      | (go_at_call 162; refine (HC.out _ k1 F1).mono ?_; rintro e w2 ⟨rfl, b2⟩))
    go_ret
    exact ⟨rfl, k1.trans (b2.mono k1.size)⟩
end Go.Proofs.YtlfmefojcmpfeaaGreatDoor
