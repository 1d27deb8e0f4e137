/-
  A text within quotes, put behind bytes, as the program puts it: a contract for the walks; conditions: the bytes are the call's own, and the text holds at most 2 to the 20.
-/
import Derived.Test.YtbolphjigjpmiaaDoorTxtA
import Derived.Test.YtbolphjigjpmiaaDoorPkB
import Derived.Lib.AppendStr
import Derived.Lib.UnsafeStr
import Derived.Lib.OthersKept
namespace Go.Proofs.YtbolphjigjpmiaaDoor
open Go.RowKit
set_option linter.unusedSimpArgs false
set_option linter.unusedVariables false

theorem strCells_app (a b : ByteArray) : Lib.strCells (a ++ b) = Lib.strCells a ++ Lib.strCells b := by simp [Lib.strCells, ByteArray.data_append]
/-- A row of bytes that is this text, and may be written. -/
def RowS (B : Nat) (w : World) (v : Value) (t : ByteArray) : Prop := w.ownsRow B 5 1 v t.size (Lib.strCells t)
theorem RowS.app {B : Nat} {w : World} {v : Value} {t m : ByteArray} {k : Nat} {news : List Value} (h : w.ownsRow B 5 1 v (t.size + k) (Lib.strCells t ++ news)) (e : news = Lib.strCells m) (hk : k = m.size) : RowS B w v (t ++ m) := by
  unfold RowS
  rw [strCells_app, ByteArray.size_append, ← e, ← hk]
  exact h
theorem RowS.below {B : Nat} {w w' : World} {v : Value} {t : ByteArray} (h : RowS B w v t) (hb : Below w.heap.size w w') : RowS B w' v t := World.ownsRow.kept h (grown_of_below hb none) (by cases hq : v.ownBlock <;> simp)
/-- What lies below B stays, and whatever is no row of bytes. -/
structure KB (B : Nat) (w w' : World) : Prop where
  b : Below B w w'
  o : Lib.OthersKept 5 none w w'
theorem KB.size {B : Nat} {w w' : World} (h : KB B w w') : w.heap.size ≤ w'.heap.size := h.b.size
theorem KB.refl (B : Nat) (w : World) : KB B w w := ⟨Below.refl _ _, Lib.OthersKept.refl _ _ _⟩
theorem KB.trans {B : Nat} {a b c : World} (h : KB B a b) (k : KB B b c) : KB B a c := ⟨h.b.trans k.b, h.o.trans k.o⟩
theorem KB.alloc {B : Nat} {w W : World} (h : KB B w W) (hB : B ≤ W.heap.size) (o : Obj) : KB B w (W.alloc o) := ⟨h.b.alloc hB o, h.o.alloc o⟩
theorem KB.grown {B n : Nat} {w W W' : World} {v : Value} {xs : List Value} (h : KB B w W) (own : W.ownsRow B 5 1 v n xs) (gr : W.grownBy W' v.ownBlock) (hB : B ≤ W.heap.size) : KB B w W' :=
  ⟨h.b.grown gr hB (fun j hj => (own.lt _ hj).1), fun k o hk hn ho => (gr.block k (Array.getElem?_eq_some_iff.1 (h.o k o hk hn ho)).1 (fun e => by
    have h9 := h.o k o hk hn ho
    rcases own.2 with ⟨hx, _⟩ | ⟨g, cap, cur, hx, _, hg, _⟩
    · rw [hx] at e; simp [Value.ownBlock] at e
    · rw [hx] at e
      simp [Value.ownBlock] at e
      subst e
      rw [h9] at hg
      exact ho _ _ (Option.some.inj hg))).trans (h.o k o hk hn ho)⟩
theorem KB.box {B k : Nat} {w w' : World} {cs : Array Value} {t : TypeId} {fz : Nat × Nat} (h : KB B w w') (hk : w.heap[k]? = some (.cells cs t fz)) (ht : t ≠ 5) : w'.heap[k]? = some (.cells cs t fz) :=
  h.o k _ hk (by simp) (fun c fz2 e => ht (by cases e; rfl))
theorem src_new (w : World) (cs : List Value) (t : TypeId) : ∀ j u, cs[j]? = some u → (w.alloc (.cells cs.toArray t)).cell? ((⟨w.heap.size, 0, none⟩ : Addr).add j) = some u := fun j u hu => by
  have e : ((⟨w.heap.size, 0, none⟩ : Addr).add j) = ⟨w.heap.size, j, none⟩ := by unfold Addr.add; split <;> simp_all
  rw [e, vblk_cell (vheap_new _ _) j]
  simpa using hu
theorem infoB : (Tryd.prog.info? 5).map (fun i => (i.zero, i.size, i.bytes)) = some (some (.int .u8 0), 1, 1) := by kernel_rfl
theorem app_assoc (a b c : ByteArray) : a ++ b ++ c = a ++ (b ++ c) := ByteArray.append_assoc
theorem quote_step (s : ByteArray) (k : Nat) (h : k < s.size) : quoteUpto s (k + 1) = quoteUpto s k ++ escOf s[k] := by
  show quoteUpto s k ++ escOf s.data[k]! = _
  rw [byteBang s k h]
theorem esc34 {u : UInt8} (h : (u.toNat : Int) = 34) : escOf u = ⟨#[92, u]⟩ ∧ u = 34 := by
  have e : u = 34 := UInt8.toNat_inj.1 (by simpa using (by omega : u.toNat = 34))
  subst e; exact ⟨rfl, rfl⟩
theorem esc92 {u : UInt8} (h : (u.toNat : Int) = 92) : escOf u = ⟨#[92, u]⟩ ∧ u = 92 := by
  have e : u = 92 := UInt8.toNat_inj.1 (by simpa using (by omega : u.toNat = 92))
  subst e; exact ⟨rfl, rfl⟩
theorem esc10 {u : UInt8} (h : (u.toNat : Int) = 10) : escOf u = ⟨#[92, 110]⟩ := by
  have e : u = 10 := UInt8.toNat_inj.1 (by simpa using (by omega : u.toNat = 10))
  subst e; rfl
theorem esc9 {u : UInt8} (h : (u.toNat : Int) = 9) : escOf u = ⟨#[92, 116]⟩ := by
  have e : u = 9 := UInt8.toNat_inj.1 (by simpa using (by omega : u.toNat = 9))
  subst e; rfl
theorem escElse {u : UInt8} (h1 : ¬ (u.toNat : Int) = 34) (h2 : ¬ (u.toNat : Int) = 92) (h3 : ¬ (u.toNat : Int) = 10) (h4 : ¬ (u.toNat : Int) = 9) : escOf u = ⟨#[u]⟩ := by
  unfold escOf
  rw [if_neg (by rintro rfl; exact h1 rfl), if_neg (by rintro rfl; exact h2 rfl), if_neg (by rintro rfl; exact h3 rfl), if_neg (by rintro rfl; exact h4 rfl)]

set_option maxHeartbeats 4000000 in
set_option maxRecDepth 100000 in
theorem putQuoted_c (B : Nat) (v : Value) (t s : ByteArray) (w : World) (hv : RowS B w v t) (hB : B ≤ w.heap.size) (hs : s.size ≤ 1048576) (hl : t.size + 2 * s.size + 2 ≤ 70368744177664) :
    Calls Tryd.prog 25 #[v, .string s] w fun e w' => ∃ v', e = .returned v' ∧ RowS B w' v' (t ++ quoteS s) ∧ KB B w w' := by
  obtain ⟨i0, hi, hz0, hz1, hz2⟩ := info_parts infoB
  have hv0 : w.ownsRow B 5 1 v t.size (Lib.strCells t) := hv
  obtain ⟨q0, c0, hq⟩ := owns_sliceP hv0
  subst hq
  clear hv
  go_enter Tryd.func25, Tryd.ntmps25
  go_wp2_with (at_builtin; refine wpList_append_own _ rfl _ _ 43 rfl B 5 i0 (.int .u8 0) 1 1 Tryd.underlying43 hi hz0 hz1 hz2 rfl (by decide) _ _ _ rfl (hv0.alloc _) ⟨(w).heap.size, 0, none⟩ 1 1 [.int .u8 34] rfl rfl (src_new _ [.int .u8 34] _) (by intro u hu; simp at hu; first | (subst hu; rfl) | (rcases hu with rfl | rfl <;> rfl)) (by unfold maxLen; omega) (by omega) (by simp; omega) ?_)
  intro v1 w1 o1 gr1 _
  have r1 : RowS B w1 v1 (t ++ ⟨#[34]⟩) := RowS.app o1 rfl rfl
  have b0 : KB B w (w.alloc (.cells #[.int .u8 34] 5)) := (KB.refl B w).alloc hB _
  have b1 : KB B w w1 := b0.grown (hv0.alloc _) gr1 (by simp; omega)
  have m1 := b1.size
  clear o1 gr1 b0 hv0
  go_wp2_with fail
  go_loopw [0, 11] (fun vx vi wr => ∃ (k : Nat) (vo : Value), k ≤ s.size ∧ vi = .int .i64 (k : Int) ∧ vx = vo ∧ RowS B wr vo (t ++ quoteUpto s k) ∧ KB B w wr) (fun _ vi _ => s.size - (intOf vi).toNat)
  case atStart => exact ⟨0, _, Nat.zero_le _, rfl, rfl, r1, b1⟩
  case round =>
    clear r1 b1
    obtain ⟨k, vo, hk, rfl, rfl, hrow, hbr⟩ := hrel
    have hq9 := quoteUpto_size s k
    obtain ⟨Z, hZ⟩ : ∃ Z, Z = t ++ quoteUpto s k := ⟨_, rfl⟩
    have hZs : Z.size ≤ t.size + 1 + 2 * k := by rw [hZ, ByteArray.size_append]; omega
    rw [← hZ] at hrow
    have hown := hrow
    unfold RowS at hown
    obtain ⟨qo, co, hvo⟩ := owns_sliceP hown
    subst hvo
    have hBr : B ≤ wr.heap.size := Nat.le_trans hB hbr.size
    clear hrow
    by_cases hlt : k < s.size
    · have hki : (k : Int) < (s.size : Int) := by omega
      have HST : Hid (t ++ quoteUpto s (k + 1) = Z ++ escOf s[k]) := by show _ = _; rw [quote_step s k hlt, hZ, app_assoc]
      have hwb := wrap_byte s[k]
      clear hZ hq9
      by_cases h34 : ((s[k]).toNat : Int) = 34
      · have HE : Hid (escOf s[k] = ⟨#[92, 34]⟩ ∧ True) := ⟨by obtain ⟨h1, h2⟩ := esc34 h34; rw [h1, h2], trivial⟩
        have hBz : KB B w (wr.alloc (.cells #[.int .u8 92, .int .u8 34] 5)) := hbr.alloc hBr _
        go_wp2_with (at_builtin; refine wpList_append_own _ rfl _ _ 43 rfl B 5 i0 (.int .u8 0) 1 1 Tryd.underlying43 hi hz0 hz1 hz2 rfl (by decide) _ _ _ rfl (hown.alloc _) ⟨(wr).heap.size, 0, none⟩ 2 2 [.int .u8 92, .int .u8 34] rfl rfl (src_new _ [.int .u8 92, .int .u8 34] _) (by intro u hu; simp at hu; first | (subst hu; rfl) | (rcases hu with rfl | rfl <;> rfl)) (by unfold maxLen; omega) (by omega) (by simp; omega) ?_)
        intro v3 w3 o3 gr3 _
        have r3 := RowS.app (m := ⟨#[92, 34]⟩) o3 (by first | rfl | (simp [Lib.strCells]; done) | (simp [Lib.strCells, HE.out]; done)) rfl
        have hb3 : KB B w w3 := hBz.grown (hown.alloc _) gr3 (by simp; omega)
        clear o3 gr3
        go_wp2_with fail
        go_roundw
        case rel => exact ⟨k + 1, _, by omega, by go_num, rfl, by rw [HST.out, HE.out.1]; exact r3, hb3⟩
        case measure => simp [intOf]; omega
      by_cases h92 : ((s[k]).toNat : Int) = 92
      · have HE : Hid (escOf s[k] = ⟨#[92, 92]⟩ ∧ True) := ⟨by obtain ⟨h1, h2⟩ := esc92 h92; rw [h1, h2], trivial⟩
        have hBz : KB B w (wr.alloc (.cells #[.int .u8 92, .int .u8 92] 5)) := hbr.alloc hBr _
        go_wp2_with (at_builtin; refine wpList_append_own _ rfl _ _ 43 rfl B 5 i0 (.int .u8 0) 1 1 Tryd.underlying43 hi hz0 hz1 hz2 rfl (by decide) _ _ _ rfl (hown.alloc _) ⟨(wr).heap.size, 0, none⟩ 2 2 [.int .u8 92, .int .u8 92] rfl rfl (src_new _ [.int .u8 92, .int .u8 92] _) (by intro u hu; simp at hu; first | (subst hu; rfl) | (rcases hu with rfl | rfl <;> rfl)) (by unfold maxLen; omega) (by omega) (by simp; omega) ?_)
        intro v3 w3 o3 gr3 _
        have r3 := RowS.app (m := ⟨#[92, 92]⟩) o3 (by first | rfl | (simp [Lib.strCells]; done) | (simp [Lib.strCells, HE.out]; done)) rfl
        have hb3 : KB B w w3 := hBz.grown (hown.alloc _) gr3 (by simp; omega)
        clear o3 gr3
        go_wp2_with fail
        go_roundw
        case rel => exact ⟨k + 1, _, by omega, by go_num, rfl, by rw [HST.out, HE.out.1]; exact r3, hb3⟩
        case measure => simp [intOf]; omega
      by_cases h10 : ((s[k]).toNat : Int) = 10
      · have HE : Hid (escOf s[k] = ⟨#[92, 110]⟩ ∧ True) := ⟨esc10 h10, trivial⟩
        have hBz : KB B w (wr.alloc (.cells #[.int .u8 92, .int .u8 110] 5)) := hbr.alloc hBr _
        go_wp2_with (at_builtin; refine wpList_append_own _ rfl _ _ 43 rfl B 5 i0 (.int .u8 0) 1 1 Tryd.underlying43 hi hz0 hz1 hz2 rfl (by decide) _ _ _ rfl (hown.alloc _) ⟨(wr).heap.size, 0, none⟩ 2 2 [.int .u8 92, .int .u8 110] rfl rfl (src_new _ [.int .u8 92, .int .u8 110] _) (by intro u hu; simp at hu; first | (subst hu; rfl) | (rcases hu with rfl | rfl <;> rfl)) (by unfold maxLen; omega) (by omega) (by simp; omega) ?_)
        intro v3 w3 o3 gr3 _
        have r3 := RowS.app (m := ⟨#[92, 110]⟩) o3 (by first | rfl | (simp [Lib.strCells]; done) | (simp [Lib.strCells, HE.out]; done)) rfl
        have hb3 : KB B w w3 := hBz.grown (hown.alloc _) gr3 (by simp; omega)
        clear o3 gr3
        go_wp2_with fail
        go_roundw
        case rel => exact ⟨k + 1, _, by omega, by go_num, rfl, by rw [HST.out, HE.out.1]; exact r3, hb3⟩
        case measure => simp [intOf]; omega
      by_cases h9 : ((s[k]).toNat : Int) = 9
      · have HE : Hid (escOf s[k] = ⟨#[92, 116]⟩ ∧ True) := ⟨esc9 h9, trivial⟩
        have hBz : KB B w (wr.alloc (.cells #[.int .u8 92, .int .u8 116] 5)) := hbr.alloc hBr _
        go_wp2_with (at_builtin; refine wpList_append_own _ rfl _ _ 43 rfl B 5 i0 (.int .u8 0) 1 1 Tryd.underlying43 hi hz0 hz1 hz2 rfl (by decide) _ _ _ rfl (hown.alloc _) ⟨(wr).heap.size, 0, none⟩ 2 2 [.int .u8 92, .int .u8 116] rfl rfl (src_new _ [.int .u8 92, .int .u8 116] _) (by intro u hu; simp at hu; first | (subst hu; rfl) | (rcases hu with rfl | rfl <;> rfl)) (by unfold maxLen; omega) (by omega) (by simp; omega) ?_)
        intro v3 w3 o3 gr3 _
        have r3 := RowS.app (m := ⟨#[92, 116]⟩) o3 (by first | rfl | (simp [Lib.strCells]; done) | (simp [Lib.strCells, HE.out]; done)) rfl
        have hb3 : KB B w w3 := hBz.grown (hown.alloc _) gr3 (by simp; omega)
        clear o3 gr3
        go_wp2_with fail
        go_roundw
        case rel => exact ⟨k + 1, _, by omega, by go_num, rfl, by rw [HST.out, HE.out.1]; exact r3, hb3⟩
        case measure => simp [intOf]; omega
      · have HE : Hid (escOf s[k] = ⟨#[s[k]]⟩ ∧ True) := ⟨escElse h34 h92 h10 h9, trivial⟩
        have hBz : KB B w (wr.alloc (.cells #[.int .u8 ((s[k]).toNat : Int)] 5)) := hbr.alloc hBr _
        go_wp2_with (at_builtin; refine wpList_append_own _ rfl _ _ 43 rfl B 5 i0 (.int .u8 0) 1 1 Tryd.underlying43 hi hz0 hz1 hz2 rfl (by decide) _ _ _ rfl (hown.alloc _) ⟨(wr).heap.size, 0, none⟩ 1 1 [.int .u8 ((s[k]).toNat : Int)] rfl rfl (src_new _ [.int .u8 ((s[k]).toNat : Int)] _) (by intro u hu; simp at hu; first | (subst hu; rfl) | (rcases hu with rfl | rfl <;> rfl)) (by unfold maxLen; omega) (by omega) (by simp; omega) ?_)
        intro v3 w3 o3 gr3 _
        have r3 := RowS.app (m := ⟨#[s[k]]⟩) o3 (by first | rfl | (simp [Lib.strCells]; done) | (simp [Lib.strCells, HE.out]; done)) rfl
        have hb3 : KB B w w3 := hBz.grown (hown.alloc _) gr3 (by simp; omega)
        clear o3 gr3
        go_wp2_with fail
        go_roundw
        case rel => exact ⟨k + 1, _, by omega, by go_num, rfl, by rw [HST.out, HE.out.1]; exact r3, hb3⟩
        case measure => simp [intOf]; omega
    · have he : k = s.size := by omega
      subst he
      have HST : Hid (t ++ quoteS s = Z ++ ⟨#[34]⟩) := by show _ = _; rw [quoteS, hZ, app_assoc]
      have hBz : KB B w (wr.alloc (.cells #[.int .u8 34] 5)) := hbr.alloc hBr _
      clear hZ hq9
      go_wp2_with (at_builtin; refine wpList_append_own _ rfl _ _ 43 rfl B 5 i0 (.int .u8 0) 1 1 Tryd.underlying43 hi hz0 hz1 hz2 rfl (by decide) _ _ _ rfl (hown.alloc _) ⟨(wr).heap.size, 0, none⟩ 1 1 [.int .u8 34] rfl rfl (src_new _ [.int .u8 34] _) (by intro u hu; simp at hu; first | (subst hu; rfl) | (rcases hu with rfl | rfl <;> rfl)) (by unfold maxLen; omega) (by omega) (by simp; omega) ?_)
      intro v3 w3 o3 gr3 _
      have r3 := RowS.app (m := ⟨#[34]⟩) o3 rfl rfl
      have hb3 : KB B w w3 := hBz.grown (hown.alloc _) gr3 (by simp; omega)
      clear o3 gr3
      go_wp2_with fail
      go_ret
      exact ⟨_, rfl, by rw [HST.out]; exact r3, hb3⟩
end Go.Proofs.YtbolphjigjpmiaaDoor
