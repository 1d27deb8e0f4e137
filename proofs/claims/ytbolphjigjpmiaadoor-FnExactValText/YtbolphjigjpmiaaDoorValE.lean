/-
  A value as the program holds it within (an interface value a kind), how it lies in memory, and the order of its keys: for every such value.
-/
import Derived.Test.YtbolphjigjpmiaaDoorValD
namespace Go.Proofs.YtbolphjigjpmiaaDoor
open Go.RowKit
set_option linter.unusedSimpArgs false
set_option linter.unusedVariables false

/-- The interface value v is the tree T; all its memory lies in blocks of S. -/
inductive XLies (S : Nat → Prop) (w : World) : Value → Tree → Prop
  | null (n : Int) (s : ByteArray) (l : List Tree) (ks : List ByteArray) : XLies S w (.iface 68 (.agg #[])) (.mk 0 n s l ks)
  | bool (n : Int) (s : ByteArray) (l : List Tree) (ks : List ByteArray) : XLies S w (.iface 53 (.bool (n == 1))) (.mk 1 n s l ks)
  | num (n : Int) (s : ByteArray) (l : List Tree) (ks : List ByteArray) : XLies S w (.iface 55 (.int .i64 n)) (.mk 2 n s l ks)
  | text (n : Int) (s : ByteArray) (l : List Tree) (ks : List ByteArray) : XLies S w (.iface 57 (.string s)) (.mk 3 n s l ks)
  | list (n : Int) (s : ByteArray) (l : List Tree) (ks : List ByteArray) (a : Option Addr) (cap : Nat) (X : Nat → Value) (hc : l.length ≤ cap)
      (ha : l = [] ∨ ∃ b off, a = some ⟨b, off, none⟩ ∧ S b ∧ ∀ i, i < l.length → w.cell? ⟨b, off + i, none⟩ = some (X i))
      (hX : ∀ i (h : i < l.length), XLies S w (X i) l[i]) : XLies S w (.iface 60 (.slice a l.length cap)) (.mk 4 n s l ks)
  | map (n : Int) (s : ByteArray) (l : List Tree) (ks : List ByteArray) (a : Option Addr) (cap : Nat) (X : Nat → Value) (hc : l.length ≤ cap)
      (ha : l = [] ∨ ∃ b off, a = some ⟨b, off, none⟩ ∧ S b ∧ ∀ i, i < l.length → w.cell? ⟨b, off + i * 2, none⟩ = some (.string (ks.getD i ⟨#[]⟩)) ∧ w.cell? ⟨b, off + i * 2 + 1, none⟩ = some (X i))
      (hX : ∀ i (h : i < l.length), XLies S w (X i) l[i]) : XLies S w (.iface 63 (.slice a l.length cap)) (.mk 5 n s l ks)

theorem XLies.keep {S : Nat → Prop} {w w' : World} (hb : KeptIn S w w') : ∀ {T : Tree} {v : Value}, XLies S w v T → XLies S w' v T := by
  intro T v h
  induction h with
  | null n s l ks => exact .null n s l ks
  | bool n s l ks => exact .bool n s l ks
  | num n s l ks => exact .num n s l ks
  | text n s l ks => exact .text n s l ks
  | list n s l ks a cap X hc ha hX ih =>
    refine .list n s l ks a cap X hc ?_ ih
    rcases ha with ha | ⟨b, off, ha, hs, hcell⟩
    · exact .inl ha
    · exact .inr ⟨b, off, ha, hs, fun i hi => (hb.cell hs _).trans (hcell i hi)⟩
  | map n s l ks a cap X hc ha hX ih =>
    refine .map n s l ks a cap X hc ?_ ih
    rcases ha with ha | ⟨b, off, ha, hs, hcell⟩
    · exact .inl ha
    · exact .inr ⟨b, off, ha, hs, fun i hi => ⟨(hb.cell hs _).trans (hcell i hi).1, (hb.cell hs _).trans (hcell i hi).2⟩⟩

theorem XLies.mono {S S' : Nat → Prop} {w : World} (hB : ∀ b, S b → S' b) : ∀ {T : Tree} {v : Value}, XLies S w v T → XLies S' w v T := by
  intro T v h
  induction h with
  | null n s l ks => exact .null n s l ks
  | bool n s l ks => exact .bool n s l ks
  | num n s l ks => exact .num n s l ks
  | text n s l ks => exact .text n s l ks
  | list n s l ks a cap X hc ha hX ih =>
    refine .list n s l ks a cap X hc ?_ ih
    rcases ha with ha | ⟨b, off, ha, hs, hcell⟩
    · exact .inl ha
    · exact .inr ⟨b, off, ha, hB b hs, hcell⟩
  | map n s l ks a cap X hc ha hX ih =>
    refine .map n s l ks a cap X hc ?_ ih
    rcases ha with ha | ⟨b, off, ha, hs, hcell⟩
    · exact .inl ha
    · exact .inr ⟨b, off, ha, hB b hs, hcell⟩

/-- Every interface value of a tree is an interface value. -/
theorem XLies.iface {S : Nat → Prop} {w : World} {v : Value} {T : Tree} (h : XLies S w v T) : ∃ t x, v = .iface t x := by
  cases h <;> exact ⟨_, _, rfl⟩

/-- The keys of the first i fields rise. -/
def riseUpto (ks : List ByteArray) : Nat → Bool
  | 0 => true
  | i + 1 => riseUpto ks i && (i == 0 || Op.bytesLess (ks.getD (i - 1) ⟨#[]⟩).toList (ks.getD i ⟨#[]⟩).toList)
def textsUpto (ks : List ByteArray) : Nat → Bool
  | 0 => true
  | i + 1 => textsUpto ks i && textB (ks.getD i ⟨#[]⟩)
theorem keys_split (ks : List ByteArray) : ∀ i, keysUpto ks i = (textsUpto ks i && riseUpto ks i)
  | 0 => rfl
  | i + 1 => by
    rw [keysUpto, textsUpto, riseUpto, keys_split ks i]
    cases textsUpto ks i <;> cases riseUpto ks i <;> cases textB (ks.getD i ⟨#[]⟩) <;> rfl
theorem rise_bad (ks : List ByteArray) (i : Nat) (h : riseUpto ks (i + 1) = false) : ∀ j, i + 1 ≤ j → riseUpto ks j = false
  | 0, hj => by omega
  | j + 1, hj => by
    by_cases e : i = j
    · subst e; exact h
    · rw [riseUpto, rise_bad ks i h j (by omega)]; rfl
theorem texts_bad (ks : List ByteArray) (i : Nat) (h : textsUpto ks (i + 1) = false) : ∀ j, i + 1 ≤ j → textsUpto ks j = false
  | 0, hj => by omega
  | j + 1, hj => by
    by_cases e : i = j
    · subst e; exact h
    · rw [textsUpto, texts_bad ks i h j (by omega)]; rfl

set_option maxHeartbeats 1000000 in
set_option maxRecDepth 100000 in
theorem rising_c (a : Option Addr) (n cap : Nat) (ks : List ByteArray) (w : World) (hn : n ≤ 1048576) (hcap : n ≤ cap)
    (ha : n = 0 ∨ ∃ b off, a = some ⟨b, off, none⟩ ∧ ∀ i, i < n → w.cell? ⟨b, off + i * 2, none⟩ = some (.string (ks.getD i ⟨#[]⟩))) :
    Calls Tryd.prog 42 #[.slice a n cap] w fun e w' => e = .returned (.bool (riseUpto ks n)) ∧ Below w.heap.size w w' := by
  rcases Nat.eq_zero_or_pos n with rfl | hn0
  · go_enter Tryd.func42, Tryd.ntmps42
    go_wp2_with fail
    go_loopw [3] (fun vi wr => vi = .int .i64 1 ∧ wr = w) (fun _ _ => 0)
    case atStart => exact ⟨rfl, rfl⟩
    case round =>
      obtain ⟨rfl, rfl⟩ := hrel
      go_wp2_with fail
      go_ret
      exact ⟨rfl, Below.refl _ _⟩
  rcases ha with h0 | ⟨b, off, rfl, hc⟩
  · omega
  go_enter Tryd.func42, Tryd.ntmps42
  go_wp2_with fail
  go_loopw [3] (fun vi wr => ∃ k q : Nat, k + 1 ≤ n ∧ vi = .int .i64 ((k : Int) + 1) ∧ wr = w.drewN q ∧ Hid (riseUpto ks (k + 1) = true)) (fun vi _ => n - (intOf vi).toNat)
  case atStart => exact ⟨0, 0, by omega, by simp, rfl, rfl⟩
  case round =>
    obtain ⟨k, q, hk, rfl, rfl, hh⟩ := hrel
    obtain ⟨W, hW⟩ : ∃ W, W = w.drewN q := ⟨_, rfl⟩
    have hbW : Below w.heap.size w W := by rw [hW]; exact below_drewN' (Below.refl _ _) _
    by_cases hlt : k + 1 < n
    · have c0 : W.cell? ⟨b, off + k * 2, none⟩ = some (.string (ks.getD k ⟨#[]⟩)) := by rw [hW]; exact hc k (by omega)
      have c1 : W.cell? ⟨b, off + (k + 1) * 2, none⟩ = some (.string (ks.getD (k + 1) ⟨#[]⟩)) := by rw [hW]; exact hc (k + 1) hlt
      have hstep : riseUpto ks (k + 1 + 1) = Op.bytesLess (ks.getD k ⟨#[]⟩).toList (ks.getD (k + 1) ⟨#[]⟩).toList := by
        rw [riseUpto, hh.out]; simp
      obtain ⟨t0, ht0⟩ : ∃ t0, t0 = ks.getD k ⟨#[]⟩ := ⟨_, rfl⟩
      obtain ⟨t1, ht1⟩ : ∃ t1, t1 = ks.getD (k + 1) ⟨#[]⟩ := ⟨_, rfl⟩
      rw [← ht0] at c0 hstep
      rw [← ht1] at c1 hstep
      have HS : Hid (riseUpto ks (k + 1 + 1) = Op.bytesLess t0.toList t1.toList) := hstep
      have hki : (k : Int) + 1 < (n : Int) := by omega
      have HW : Hid (W = w.drewN q) := hW
      rw [← hW]
      clear hc ht0 ht1 hstep hW
      go_wp2_with fail
      go_quiet (fail)
      go_wp2_with fail
      · go_ret
        have hf : Op.bytesLess t0.toList t1.toList = false := by simp_all
        refine ⟨?_, below_drewN' hbW _⟩
        rw [rise_bad ks (k + 1) (HS.out.trans hf) n (by omega)]
        rfl
      · go_roundw
        case rel =>
          have hf : Op.bytesLess t0.toList t1.toList = true := by simp_all
          exact ⟨k + 1, _, by omega, by go_num, by rw [HW.out, World.drewN_drewN], HS.out.trans hf⟩
        case measure => simp [intOf]; omega
    · have he : n = k + 1 := by omega
      subst he
      rw [← hW]
      clear hc hW
      go_wp2_with fail
      go_ret
      exact ⟨by rw [hh.out]; rfl, hbW⟩
end Go.Proofs.YtbolphjigjpmiaaDoor
