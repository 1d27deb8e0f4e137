/-
  The text of a value put behind bytes, as the program puts it: contracts by the tree; conditions: the value lies in memory below the bytes, is right, and holds at most 2 to the 20; the library's powers of ten are there.
-/
import Derived.Test.YtbolphjigjpmiaaDoorVtB
import Derived.Test.YtbolphjigjpmiaaDoorVtE
import Derived.Test.YtbolphjigjpmiaaDoorValI
import Derived.Test.YtbolphjigjpmiaaDoorShelfI
namespace Go.Proofs.YtbolphjigjpmiaaDoor
open Go.RowKit
set_option linter.unusedSimpArgs false
set_option linter.unusedVariables false

theorem XLies.inv {S : Nat → Prop} {w : World} {x : Value} {k n : Int} {s : ByteArray} {l : List Tree} {ks : List ByteArray} (h : XLies S w x (.mk k n s l ks)) :
    (k = 0 ∧ x = .iface 68 (.agg #[])) ∨ (k = 1 ∧ x = .iface 53 (.bool (n == 1))) ∨ (k = 2 ∧ x = .iface 55 (.int .i64 n)) ∨ (k = 3 ∧ x = .iface 57 (.string s)) ∨
    (k = 4 ∧ ∃ (a : Option Addr) (cap : Nat) (X : Nat → Value), x = .iface 60 (.slice a l.length cap) ∧ l.length ≤ cap ∧ (l = [] ∨ ∃ b off, a = some ⟨b, off, none⟩ ∧ S b ∧ ∀ i, i < l.length → w.cell? ⟨b, off + i, none⟩ = some (X i)) ∧ ∀ i (h : i < l.length), XLies S w (X i) l[i]) ∨
    (k = 5 ∧ ∃ (a : Option Addr) (cap : Nat) (X : Nat → Value), x = .iface 63 (.slice a l.length cap) ∧ l.length ≤ cap ∧ (l = [] ∨ ∃ b off, a = some ⟨b, off, none⟩ ∧ S b ∧ ∀ i, i < l.length → w.cell? ⟨b, off + i * 2, none⟩ = some (.string (ks.getD i ⟨#[]⟩)) ∧ w.cell? ⟨b, off + i * 2 + 1, none⟩ = some (X i)) ∧ ∀ i (h : i < l.length), XLies S w (X i) l[i]) := by
  cases h with
  | null => exact .inl ⟨rfl, rfl⟩
  | bool => exact .inr (.inl ⟨rfl, rfl⟩)
  | num => exact .inr (.inr (.inl ⟨rfl, rfl⟩))
  | text => exact .inr (.inr (.inr (.inl ⟨rfl, rfl⟩)))
  | list _ _ _ _ a cap X hc ha hX => exact .inr (.inr (.inr (.inr (.inl ⟨rfl, a, cap, X, rfl, hc, ha, hX⟩))))
  | map _ _ _ _ a cap X hc ha hX => exact .inr (.inr (.inr (.inr (.inr ⟨rfl, a, cap, X, rfl, hc, ha, hX⟩))))
theorem XLies.boxed {S : Nat → Prop} {w : World} {x : Value} {T : Tree} (h : XLies S w x T) : ∃ t y, x = .iface t y := by cases h <;> exact ⟨_, _, rfl⟩
theorem slice_of {w : World} {B : Nat} {v : Value} {t : ByteArray} (h : RowS B w v t) : ∃ q c, v = .slice q t.size c := owns_sliceP h

set_option maxHeartbeats 8000000 in
set_option maxRecDepth 100000 in
theorem appendBoolI_c (B : Nat) (v : Value) (t : ByteArray) (b : Bool) (w : World) (hv : RowS B w v t) (hB : B ≤ w.heap.size) (hl : t.size + 5 ≤ 70368744177664) :
    Calls Tryd.prog 36 #[v, .bool b] w fun e w' => ∃ v', e = .returned v' ∧ RowS B w' v' (t ++ (if b = true then ⟨#[116, 114, 117, 101]⟩ else ⟨#[102, 97, 108, 115, 101]⟩)) ∧ KB B w w' := by
  obtain ⟨i0, hi, hz0, hz1, hz2⟩ := info_parts infoB
  have hv0 : w.ownsRow B 5 1 v t.size (Lib.strCells t) := hv
  obtain ⟨q0, c0, hq⟩ := owns_sliceP hv0
  subst hq
  clear hv
  cases b with
  | true =>
    go_enter Tryd.func36, Tryd.ntmps36
    go_wp2_with (at_builtin; refine Lib.wpList_append_own_string _ rfl _ _ 43 9 rfl B 5 i0 Tryd.underlying43 Tryd.underlying9 hi hz0 hz1 hz2 _ t.size _ rfl hv0 ⟨#[116, 114, 117, 101]⟩ rfl (by unfold maxLen; have : (⟨#[116, 114, 117, 101]⟩ : ByteArray).size ≤ 5 := (by decide); omega) (by have : (⟨#[116, 114, 117, 101]⟩ : ByteArray).size ≤ 5 := (by decide); omega) hB ?_)
    intro v1 w1 o1 gr1 _
    have r1 := RowS.app (m := ⟨#[116, 114, 117, 101]⟩) o1 rfl rfl
    have b1 : KB B w w1 := (KB.refl B w).grown hv0 gr1 hB
    go_wp2_with fail
    go_ret
    exact ⟨_, rfl, by first | exact r1 | (rw [if_pos rfl]; exact r1) | (rw [if_neg (by decide)]; exact r1), b1⟩
  | false =>
    go_enter Tryd.func36, Tryd.ntmps36
    go_wp2_with (at_builtin; refine Lib.wpList_append_own_string _ rfl _ _ 43 9 rfl B 5 i0 Tryd.underlying43 Tryd.underlying9 hi hz0 hz1 hz2 _ t.size _ rfl hv0 ⟨#[102, 97, 108, 115, 101]⟩ rfl (by unfold maxLen; have : (⟨#[102, 97, 108, 115, 101]⟩ : ByteArray).size ≤ 5 := (by decide); omega) (by have : (⟨#[102, 97, 108, 115, 101]⟩ : ByteArray).size ≤ 5 := (by decide); omega) hB ?_)
    intro v1 w1 o1 gr1 _
    have r1 := RowS.app (m := ⟨#[102, 97, 108, 115, 101]⟩) o1 rfl rfl
    have b1 : KB B w w1 := (KB.refl B w).grown hv0 gr1 hB
    go_wp2_with fail
    go_ret
    exact ⟨_, rfl, by first | exact r1 | (rw [if_pos rfl]; exact r1) | (rw [if_neg (by decide)]; exact r1), b1⟩

set_option maxHeartbeats 8000000 in
set_option maxRecDepth 100000 in
theorem appendBool_c (B : Nat) (v : Value) (t : ByteArray) (b : Bool) (w : World) (hv : RowS B w v t) (hB : B ≤ w.heap.size) (hl : t.size + 5 ≤ 70368744177664) :
    Calls Tryd.prog 23 #[v, .bool b] w fun e w' => ∃ v', e = .returned v' ∧ RowS B w' v' (t ++ (if b = true then ⟨#[116, 114, 117, 101]⟩ else ⟨#[102, 97, 108, 115, 101]⟩)) ∧ KB B w w' := by
  have HC := hidden (appendBoolI_c B v t b w hv hB hl)
  obtain ⟨q0, c0, hq⟩ := slice_of hv
  subst hq
  obtain ⟨TB, hTB⟩ : ∃ T, T = t ++ (if b = true then (⟨#[116, 114, 117, 101]⟩ : ByteArray) else ⟨#[102, 97, 108, 115, 101]⟩) := ⟨_, rfl⟩
  simp only [← hTB] at HC
  simp only [← hTB]
  clear hTB
  clear hv
  go_enter Tryd.func23, Tryd.ntmps23
  go_wp2_with (go_at_call 36; refine HC.out.mono ?_; rintro e w1 ⟨v1, rfl, r1, b1⟩)
  go_ret
  exact ⟨_, rfl, r1, b1⟩

def PutIC (T : Tree) : Prop := ∀ (B : Nat) (v x : Value) (t : ByteArray) (w : World) (d : Nat), XLies (· < B) w x T → B ≤ w.heap.size → RowS B w v t → T.good d = true → T.wt ≤ 1048576 → t.size + T.txt.size ≤ 35184372088832 → Lib.TabBelow Tryd.prog B w "internal/strconv.uint64pow10" .u64 Lib.pow10Tab →
  Calls Tryd.prog 16 #[v, x] w fun e w' => ∃ v', e = .returned v' ∧ RowS B w' v' (t ++ T.txt) ∧ KB B w w'
theorem fields_le (l : List Tree) (ks : List ByteArray) (i : Nat) : (fieldsTxt (l.take i) ks true).size ≤ (fieldsTxt l ks true).size := by
  induction h : l.length - i generalizing i with
  | zero =>
    have : l.take i = l := List.take_of_length_le (by omega)
    rw [this]
    exact Nat.le_refl _
  | succ m ih =>
    have h1 := ih (i + 1) (by omega)
    have h2 := fields_take l ks i (by omega)
    rw [h2, ByteArray.size_append, ByteArray.size_append, ByteArray.size_append] at h1
    omega
theorem items_le (l : List Tree) (i : Nat) : (itemsTxt (l.take i) true).size ≤ (itemsTxt l true).size := by
  induction h : l.length - i generalizing i with
  | zero =>
    have : l.take i = l := List.take_of_length_le (by omega)
    rw [this]
    exact Nat.le_refl _
  | succ m ih =>
    have h1 := ih (i + 1) (by omega)
    have h2 := items_take l i (by omega)
    rw [h2, ByteArray.size_append, ByteArray.size_append] at h1
    omega
theorem if_size (i : Nat) : (if i = 0 then (⟨#[]⟩ : ByteArray) else ⟨#[44]⟩).size = if i = 0 then 0 else 1 := by split <;> rfl

end Go.Proofs.YtbolphjigjpmiaaDoor
