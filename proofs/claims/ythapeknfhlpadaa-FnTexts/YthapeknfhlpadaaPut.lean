/-
  What the two functions PutText (the program's, through its variadic helper, and the specification's) answer of a list of bytes and a text: contracts for the walks; conditions: the bytes lie in memory as told, and all is shorter than 2 to the 46.
-/
import Derived.Test.YthapeknfhlpadaaBytes
import Derived.Lib.AppendStr
import Derived.Laws.CopyOwn
import Derived.Laws.AppendOwnNone
import Derived.Deep.DeepMust
namespace Go.Proofs.Ythapeknfhlpadaa
open Go.RowKit
set_option linter.unusedSimpArgs false
set_option linter.unusedVariables false

def bytesOf (s : ByteArray) : List Int := s.data.toList.map fun b => (b.toNat : Int)
@[simp] theorem length_bytesOf (s : ByteArray) : (bytesOf s).length = s.size := by
  rw [bytesOf, List.length_map]; exact Array.length_toList
theorem strCells_bytes (s : ByteArray) : Lib.strCells s = bytesV (bytesOf s) := by
  simp [Lib.strCells, bytesV, bytesOf]
theorem bytesV_append (xs ys : List Int) : bytesV xs ++ bytesV ys = bytesV (xs ++ ys) := by simp [bytesV]

/-- Two bytes of the length, the higher first. -/
def sizeB (n : Nat) : List Int := [(n : Int) / 256, (n : Int) % 256]
def putB (zs : List Int) (s : ByteArray) : List Int := if s.size ≤ 60000 then zs ++ sizeB s.size ++ bytesOf s else zs

theorem owns_copy {w : World} {base b0 : Nat} {v : Value} {n : Nat} {xs : List Value} (h : w.ownsRow b0 5 1 v n xs) : v = .slice none 0 0 ∧ n = 0 ∧ xs = [] ∨ ∃ g cap, v = .slice (some ⟨g, 0, none⟩) n cap ∧ g < w.heap.size ∧ ∀ j u, xs[j]? = some u → w.cell? ((⟨g, 0, none⟩ : Addr).add j) = some u := by
  rcases h.2 with ⟨rfl, hn⟩ | ⟨g, cap, cur, rfl, hb, hg, hn, hcap, hsz, htake⟩
  · exact .inl ⟨rfl, hn, List.eq_nil_of_length_eq_zero (by rw [h.1, hn])⟩
  · exact .inr ⟨g, cap, rfl, (Array.getElem?_eq_some_iff.1 hg).1, h.cells (g := g) rfl⟩

theorem bytes_oneCell (zs : List Int) : ∀ u ∈ bytesV zs, u.oneCell' = true := ints_oneCell .u8 zs

theorem two_cells (w : World) (n : Nat) : ∀ j u, (bytesV (sizeB n))[j]? = some u → (w.alloc (.cells #[.int .u8 ((n : Int) / 256), .int .u8 ((n : Int) % 256)] 5)).cell? ((⟨w.heap.size, 0, none⟩ : Addr).add j) = some u :=
  cell_two_new w _ _ 5

set_option maxHeartbeats 1000000 in
set_option maxRecDepth 100000 in
theorem specPut_c (v : Value) (b0 : Nat) (zs : List Int) (s : ByteArray) (w : World) (hv : w.ownsRow b0 5 1 v zs.length (bytesV zs)) (hnn : v ≠ .slice none 0 0) (hn : zs.length ≤ 70368744177664) (hs : s.size ≤ 1048576) :
    Calls Try.prog 35 #[v, .string s] w fun e w' => ∃ v', e = .returned v' ∧ w'.ownsRow w.heap.size 5 1 v' (putB zs s).length (bytesV (putB zs s)) ∧ Below w.heap.size w w' := by
  obtain ⟨i0, hi, hz0, hz1, hz2⟩ := info_parts info5
  have ho : (w.alloc (.cells #[] 5)).ownsRow w.heap.size 5 1 (.slice (some ⟨w.heap.size, 0, none⟩) 0 0) 0 [] := World.ownsRow_lit w #[] 0 (Nat.le_refl _) (by unfold maxLen; omega) rfl
  rcases owns_copy (base := 0) hv with ⟨rfl, hl, hx⟩ | ⟨g, cap, rfl, hlt, hc⟩
  · exact absurd rfl hnn
  · clear hv
    have hc1 : ∀ j u, (bytesV zs)[j]? = some u → (w.alloc (.cells #[] 5)).cell? ((⟨g, 0, none⟩ : Addr).add j) = some u := fun j u hj => by
      have := hc j u hj
      rw [show ((⟨g, 0, none⟩ : Addr).add j) = ⟨g, j, none⟩ by unfold Addr.add; split <;> simp_all] at this ⊢
      rw [World.cell?_alloc_lt _ _ _ hlt]; exact this
    clear hc
    go_enter Try.func35, Try.ntmps35
    go_wp2_with (first
      | (at_builtin; refine wpList_append_own _ rfl _ _ 22 rfl w.heap.size 5 i0 (.int .u8 0) 1 1 Try.underlying22 hi hz0 hz1 hz2 rfl (by decide) _ 0 [] rfl ho ⟨g, 0, none⟩ zs.length cap (bytesV zs) rfl (by simp) hc1 (bytes_oneCell zs) (by unfold maxLen; omega) (by omega) (by simp) ?_))
    intro v1 w1 o1 gr1 _
    have hb1 : Below w.heap.size w w1 := Below.grown ((Below.refl _ _).alloc (Nat.le_refl _) _) gr1 (by simp) (fun j hj => (ho.lt _ hj).1)
    by_cases hbig : s.size ≤ 60000
    · have hput : putB zs s = zs ++ sizeB s.size ++ bytesOf s := if_pos hbig
      have h6 : ¬ (60000 : Int) < (s.size : Int) := by omega
      go_wp2_with (first
        | (at_builtin; refine wpList_append_own _ rfl _ _ 22 rfl w.heap.size 5 i0 (.int .u8 0) 1 1 Try.underlying22 hi hz0 hz1 hz2 rfl (by decide) _ zs.length (bytesV zs) rfl (o1.alloc _) ⟨w1.heap.size, 0, none⟩ 2 2 (bytesV (sizeB s.size)) rfl (by simp [sizeB]) (two_cells _ _) (bytes_oneCell _) (by unfold maxLen; omega) (by omega) (by have := hb1.size; simp; omega) ?_))
      intro v2 w2 o2 gr2 _
      rw [bytesV_append] at o2
      have hb2 : Below w.heap.size w w2 := Below.grown (hb1.alloc hb1.size _) gr2 (by have := hb1.size; simp; omega) (fun j hj => (o1.lt _ hj).1)
      have hlen2 : (zs ++ sizeB s.size).length = zs.length + 2 := by simp [sizeB]
      go_wp2_with (first
        | (at_builtin; refine Lib.wpList_append_own_string _ rfl _ _ 22 9 rfl w.heap.size 5 i0 Try.underlying22 Try.underlying9 hi hz0 hz1 hz2 _ (zs.length + 2) (bytesV (zs ++ sizeB s.size)) rfl o2 s rfl (by unfold maxLen; omega) (by omega) hb2.size ?_))
      intro v3 w3 o3 gr3 _
      have hb3 : Below w.heap.size w w3 := Below.grown hb2 gr3 hb2.size (fun j hj => (o2.lt _ hj).1)
      go_wp2
      go_ret
      refine ⟨v3, rfl, ?_, hb3⟩
      rw [hput, show (zs ++ sizeB s.size ++ bytesOf s).length = zs.length + 2 + s.size by simp [sizeB]; omega]
      rw [strCells_bytes, bytesV_append] at o3
      exact o3
    · have hput : putB zs s = zs := if_neg hbig
      have h6 : (60000 : Int) < (s.size : Int) := by omega
      go_wp2
      go_ret
      refine ⟨_, rfl, ?_, hb1⟩
      rw [hput]
      exact o1

theorem putB_len (zs : List Int) (s : ByteArray) : (putB zs s).length ≤ zs.length + 60002 := by
  unfold putB
  split
  · simp [sizeB]; omega
  · omega

def putAll (zs : List Int) (ts : List ByteArray) : List Int := ts.foldl putB zs
theorem putAll_len (ts : List ByteArray) : ∀ zs, (putAll zs ts).length ≤ zs.length + ts.length * 60002 := by
  induction ts with
  | nil => intro zs; simp [putAll]
  | cons t ts ih =>
    intro zs
    have h1 := ih (putB zs t)
    have h2 := putB_len zs t
    simp only [putAll, List.foldl_cons, List.length_cons] at h1 ⊢
    omega
theorem putAll_succ (zs : List Int) (ts : List ByteArray) (k : Nat) (h : k < ts.length) : putAll zs (ts.take (k + 1)) = putB (putAll zs (ts.take k)) ts[k] := by
  rw [putAll, List.take_succ_eq_append_getElem h, List.foldl_append]
  rfl

theorem owns_heap {w : World} {base : Nat} {e : TypeId} {g n : Nat} {xs : List Value} (h : w.ownsRow base e 1 (.slice (some ⟨g, 0, none⟩) n n) n xs) : w.heap[g]? = some (.cells xs.toArray e (0, 0)) ∧ xs.length = n ∧ base ≤ g ∧ n ≤ maxLen := by
  obtain ⟨hl, h⟩ := h
  rw [Nat.mul_one] at hl
  rcases h with ⟨h, _⟩ | ⟨g', cap, cur, h, hb, hg, hn, hcap, hsz, htake⟩
  · simp at h
  · simp only [Value.slice.injEq, Option.some.injEq, Addr.mk.injEq, and_true, true_and] at h
    obtain ⟨rfl, rfl⟩ := h
    refine ⟨?_, hl, hb, hcap⟩
    rw [hg]
    have : cur = xs.toArray := by
      rw [← htake, List.take_of_length_le (by rw [Array.length_toList, hsz]; omega)]
    rw [this]
theorem owns_of_heap {w : World} {base : Nat} {e : TypeId} {g n : Nat} {xs : List Value} (h : w.heap[g]? = some (.cells xs.toArray e (0, 0))) (hl : xs.length = n) (hb : base ≤ g) (hm : n ≤ maxLen) : w.ownsRow base e 1 (.slice (some ⟨g, 0, none⟩) n n) n xs :=
  ⟨by omega, .inr ⟨g, n, xs.toArray, rfl, hb, h, Nat.le_refl _, hm, by simp [hl], by simp [← hl]⟩⟩

theorem owns_weaken {w : World} {base base' : Nat} {e : TypeId} {v : Value} {n : Nat} {xs : List Value} (h : w.ownsRow base e 1 v n xs) (hb : base' ≤ base) : w.ownsRow base' e 1 v n xs := by
  refine ⟨h.1, ?_⟩
  rcases h.2 with h | ⟨g, cap, cur, hv, hg, r⟩
  · exact .inl h
  · exact .inr ⟨g, cap, cur, hv, Nat.le_trans hb hg, r⟩

theorem splice_all {L cs : List Value} (h : cs.length = L.length) : splice L 0 cs = cs := by
  simp [splice, h]

theorem info9 : (Try.prog.info? 9).map (fun i => (i.zero, i.size, i.bytes)) = some (some (.string ⟨#[]⟩), 1, 16) := by kernel_rfl
theorem size5 : (Try.prog.info? 5).map (·.size) = some 1 := by kernel_rfl

set_option maxHeartbeats 1000000 in
set_option maxRecDepth 100000 in
theorem putTexts_c (v : Value) (b0 : Nat) (zs : List Int) (gt mcap : Nat) (ts : List ByteArray) (w : World) (hv : w.ownsRow b0 5 1 v zs.length (bytesV zs)) (hnn : v ≠ .slice none 0 0)
    (hgt : gt < w.heap.size) (hts : ∀ k (h : k < ts.length), w.cell? ⟨gt, k, none⟩ = some (.string ts[k])) (hn : zs.length + ts.length * 60002 ≤ 70368744177664) :
    Calls Try.prog 46 #[v, .slice (some ⟨gt, 0, none⟩) ts.length mcap] w fun e w' => ∃ v', e = .returned v' ∧ w'.ownsRow w.heap.size 5 1 v' (putAll zs ts).length (bytesV (putAll zs ts)) ∧ Below w.heap.size w w' := by
  obtain ⟨i0, hi, hz0, hz1, hz2⟩ := info_parts info5
  rcases owns_copy (base := 0) hv with ⟨rfl, hl, hx⟩ | ⟨g, cap, rfl, hlt, hc⟩
  · exact absurd rfl hnn
  · clear hv hnn
    go_enter Try.func46, Try.ntmps46
    go_wp2_with (first
      | (at_make; refine wpList_make_full _ rfl _ _ 22 rfl w.heap.size 5 i0 (.int .u8 0) 1 Try.underlying22 hi hz0 hz1 _ _ _ _ zs.length rfl rfl rfl rfl (by rw [hz2]; omega) (by unfold maxLen; omega) (Nat.le_refl _) ?_))
    intro w1 o1 gr1
    obtain ⟨hh1, hl1, _, _⟩ := owns_heap o1
    have hb1 := below_of_grown gr1
    have hc1 : ∀ j u, (bytesV zs)[j]? = some u → w1.cell? ((⟨g, 0, none⟩ : Addr).add j) = some u := fun j u hj => by
      have := hc j u hj
      rw [show ((⟨g, 0, none⟩ : Addr).add j) = ⟨g, j, none⟩ by unfold Addr.add; split <;> simp_all] at this ⊢
      rw [hb1.cell (p := ⟨g, j, none⟩) hlt]; exact this
    obtain ⟨ys1, hys1⟩ : ∃ ys, ys = (madeCells (Value.int .u8 0).cells (zs.length * 1)).toList := ⟨_, rfl⟩
    clear hc gr1
    go_wp2_with (first
      | (refine wpList_copy_splice rfl _ _ 22 22 rfl 5 Try.underlying22 size5 _ _ _ _ _ _ rfl rfl w.heap.size 0 _ 5 hh1 (bytesV zs) (by simp) (fun _ => ⟨rfl, _, rfl, hc1⟩) (by simp [hl1]) (bytes_oneCell zs) w.heap.size w hb1 (Nat.le_refl _) ?_))
    intro w2 hh2 hb2
    have o2 : w2.ownsRow w.heap.size 5 1 (.slice (some ⟨w.heap.size, 0, none⟩) zs.length zs.length) zs.length (bytesV zs) := by
      refine owns_of_heap ?_ (by simp) (Nat.le_refl _) (by unfold maxLen; omega)
      have := hh2.out
      rw [splice_all (by simp [size_madeCells])] at this
      exact this
    clear hh2 hh1 o1 hc1 hl1 hb1 hys1
    go_wp2
    go_loopw [5, 16] (fun vo vi wr => ∃ k : Nat, k ≤ ts.length ∧ vi = .int .i64 (k : Int) ∧ wr.ownsRow w.heap.size 5 1 vo (putAll zs (ts.take k)).length (bytesV (putAll zs (ts.take k))) ∧ Below w.heap.size w wr) (fun _ vi _ => ts.length - (intOf vi).toNat)
    case atStart => exact ⟨0, Nat.zero_le _, rfl, o2, hb2⟩
    case round =>
      clear hb2 o2
      obtain ⟨k, hk, rfl, hown, hbr⟩ := hrel
      by_cases hlt' : k < ts.length
      · have hcx : wr.cell? ⟨gt, k, none⟩ = some (.string ts[k]) := (hbr.cell (p := ⟨gt, k, none⟩) hgt).trans (hts k hlt')
        have hsucc := putAll_succ zs ts k hlt'
        have hlen := putAll_len (ts.take k) zs
        rw [List.length_take, Nat.min_eq_left hk] at hlen
        have hk6 : (k + 1) * 60002 ≤ ts.length * 60002 := Nat.mul_le_mul_right _ hlt'
        obtain ⟨t, ht⟩ : ∃ t, t = ts[k] := ⟨_, rfl⟩
        obtain ⟨ps, hps⟩ : ∃ ps, ps = putAll zs (ts.take k) := ⟨_, rfl⟩
        rw [← ht] at hcx hsucc
        rw [← hps] at hown hsucc hlen
        have HS : Hid (putAll zs (ts.take (k + 1)) = putB ps t) := hsucc
        have hki : (k : Int) < (ts.length : Int) := by omega
        have hnp : ps.length + 60002 ≤ 70368744177664 := by omega
        have htl : ts.length ≤ 70368744177664 := by omega
        clear hts ht hps hsucc hlen hk6 hn
        by_cases hbig : t.size ≤ 60000
        · have hput : Hid (putB ps t = ps ++ sizeB t.size ++ bytesOf t) := if_pos hbig
          have h6 : (t.size : Int) ≤ 60000 := by omega
          go_wp2_with (first
            | (at_builtin; refine wpList_append_own _ rfl _ _ 22 rfl w.heap.size 5 i0 (.int .u8 0) 1 1 Try.underlying22 hi hz0 hz1 hz2 rfl (by decide) _ ps.length (bytesV ps) rfl (hown.alloc _) ⟨wr.heap.size, 0, none⟩ 2 2 (bytesV (sizeB t.size)) rfl (by simp [sizeB]) (two_cells _ _) (bytes_oneCell _) (by unfold maxLen; omega) (by omega) (by have := hbr.size; simp; omega) ?_))
          intro v2 w2 o2 gr2 _
          rw [bytesV_append] at o2
          have hb2 : Below w.heap.size w w2 := Below.grown (hbr.alloc hbr.size _) gr2 (by have := hbr.size; simp; omega) (fun j hj => (hown.lt _ hj).1)
          clear hown gr2 hcx
          go_wp2_with (first
            | (at_builtin; refine Lib.wpList_append_own_string _ rfl _ _ 22 9 rfl w.heap.size 5 i0 Try.underlying22 Try.underlying9 hi hz0 hz1 hz2 _ (ps.length + 2) (bytesV (ps ++ sizeB t.size)) rfl o2 t rfl (by unfold maxLen; omega) (by omega) hb2.size ?_))
          intro v3 w3 o3 gr3 _
          have hb3 : Below w.heap.size w w3 := Below.grown hb2 gr3 hb2.size (fun j hj => (o2.lt _ hj).1)
          have o4 : w3.ownsRow w.heap.size 5 1 v3 (putAll zs (ts.take (k + 1))).length (bytesV (putAll zs (ts.take (k + 1)))) := by
            rw [HS.out, hput.out, show (ps ++ sizeB t.size ++ bytesOf t).length = ps.length + 2 + t.size by simp [sizeB]; omega]
            rw [strCells_bytes, bytesV_append] at o3
            exact o3
          clear o3 gr3 o2 hb2 hbr
          go_wp2
          go_roundw
          case rel => exact ⟨k + 1, by omega, by go_num, o4, hb3⟩
          case measure => simp [intOf]; omega
        · have hput : Hid (putB ps t = ps) := if_neg hbig
          have h6 : ¬ (t.size : Int) ≤ 60000 := by omega
          go_wp2
          go_roundw
          case rel => exact ⟨k + 1, by omega, by go_num, by rw [HS.out, hput.out]; exact hown, hbr⟩
          case measure => simp [intOf]; omega
      · have he : k = ts.length := by omega
        subst he
        rw [List.take_length] at hown
        go_wp2
        go_ret
        exact ⟨_, rfl, hown, hbr⟩

set_option maxHeartbeats 1000000 in
set_option maxRecDepth 100000 in
theorem implPut_c (v : Value) (b0 : Nat) (zs : List Int) (s : ByteArray) (w : World) (hv : w.ownsRow b0 5 1 v zs.length (bytesV zs)) (hnn : v ≠ .slice none 0 0) (hn : zs.length ≤ 35184372088832) :
    Calls Try.prog 14 #[v, .string s] w fun e w' => ∃ v', e = .returned v' ∧ w'.ownsRow w.heap.size 5 1 v' (putB zs s).length (bytesV (putB zs s)) ∧ Below w.heap.size w w' := by
  have hc := putTexts_c v b0 zs w.heap.size 1 [s] (w.alloc (.cells #[.string s] 9)) (hv.alloc _) hnn (by simp) (fun k hk => by
    have : k = 0 := by simp at hk; omega
    subst this
    simp) (by simp; omega)
  have hc' : Calls Try.prog 46 #[v, .slice (some ⟨w.heap.size, 0, none⟩) 1 1] (w.alloc (.cells #[.string s] 9)) fun e w' => ∃ v', e = .returned v' ∧ w'.ownsRow w.heap.size 5 1 v' (putB zs s).length (bytesV (putB zs s)) ∧ Below w.heap.size w w' :=
    Calls.mono hc fun e w' ⟨v', he, ho, hb⟩ => ⟨v', he, owns_weaken ho (by simp), ((Below.refl _ _).alloc (Nat.le_refl _) _).trans (hb.mono (by simp))⟩
  clear hc hv
  go_enter Try.func14, Try.ntmps14
  go_wp2_with (go_at_call 46; refine hc'.mono ?_; rintro e w1 ⟨v1, rfl, o1, b1⟩)
  go_ret
  exact ⟨_, rfl, o1, b1⟩
end Go.Proofs.Ythapeknfhlpadaa
