/-
  Contracts for the walks, several texts in one: each part says what it proves, and under which conditions.
-/
import Derived.Deep.RegionHeld
import Derived.SliceStrings
import Derived.ChangeArms
import Derived.ChangeOld
import Derived.ChangeAt
import Derived.OpenShut
import Derived.ShutString
import Derived.Test.YtkijckpkojcdcaaGreatDoorRows
import Derived.WalkKit
import Derived.ProofKit
import Derived.Lib.LaidTab
import Derived.Stop.LaidErr
import Derived.Test.YtkijckpkojcdcaaGreatDoorQ1
import Derived.Test.YtkijckpkojcdcaaGreatDoorQ7
import Derived.Test.YtkijckpkojcdcaaGreatDoorQ6

/-! How much a list of texts holds, as the law's own helper reckons it, from what is left on: a contract for the walks; conditions: at most 2 to the 20 is left, the list lies in memory. -/
namespace Go.Proofs.YtkijckpkojcdcaaGreatDoor
open Go.RowKit
set_option linter.unusedSimpArgs false
set_option linter.unusedVariables false

set_option maxHeartbeats 1000000 in
set_option maxRecDepth 100000 in
theorem sizeStrsM_c (v : Value) (ss : List ByteArray) (w : World) (left : Int) (hl0 : 0 ≤ left) (hl1 : left ≤ 1048576) (hv : Reads w v (strsV ss)) (hn : ss.length ≤ maxLen) (hs : ∀ s ∈ ss, s.size ≤ maxLen) :
    Calls Tryz.prog 80 #[v, .int .i64 left] w fun e w' => e = .returned (.int .i64 (leftS ss left)) ∧ w = w' := by
  obtain ⟨a, cap, rfl, _, hc⟩ := reads_strs hv
  clear hv
  unfold maxLen at hn hs
  by_cases h0 : left < (ss.length : Int)
  · have hneg : left - (ss.length : Int) < 0 := by omega
    have e : leftS ss left = -1 := by rw [leftS, bulkS, if_neg (by omega)]
    rw [e]
    clear hc hs
    go_enter Tryz.func80, Tryz.ntmps80
    go_wp2
    go_ret
    exact ⟨rfl, rfl⟩
  · have hpos : ¬ (left - (ss.length : Int) < 0) := by omega
    rcases hc with rfl | ⟨b, off, rfl, hlt, hc⟩
    · go_enter Tryz.func80, Tryz.ntmps80
      go_wp2
      go_loop [1, 5] (fun vl vi => vl = .int .i64 left ∧ vi = .int .i64 0) (fun _ _ => 0)
      case atStart => exact ⟨rfl, rfl⟩
      case round =>
        obtain ⟨rfl, rfl⟩ := hrel
        go_wp2
        go_ret
        exact ⟨by rw [show leftS [] left = left by simp [leftS, bulkS, hl0]]; rfl, rfl⟩
    · go_enter Tryz.func80, Tryz.ntmps80
      go_wp2
      go_loop [1, 5] (fun vl vi => ∃ (k : Nat) (l : Int), k ≤ ss.length ∧ vi = .int .i64 (k : Int) ∧ vl = .int .i64 l ∧ 0 ≤ l ∧ l ≤ 1048576 ∧ Hid (l = left - (ss.length : Int) - (((ss.take k).map ByteArray.size).sum : Int))) (fun _ vi => ss.length - (intOf vi).toNat)
      case atStart => exact ⟨0, _, Nat.zero_le _, rfl, rfl, by omega, by omega, by show _ = _; simp⟩
      case round =>
        obtain ⟨k, l, hk, rfl, rfl, hq0, hq1, hl⟩ := hrel
        by_cases hlt' : k < ss.length
        · have hcx := hc k hlt'
          have hsk := hs ss[k] (List.getElem_mem hlt')
          have hsum := sum_take_succ ss k hlt'
          obtain ⟨t, ht⟩ : ∃ t, t = ss[k] := ⟨_, rfl⟩
          rw [← ht] at hcx hsk hsum
          have HS : Hid (((ss.take (k + 1)).map ByteArray.size).sum = ((ss.take k).map ByteArray.size).sum + t.size) := hsum
          have hki : (k : Int) < (ss.length : Int) := by omega
          clear hc hs ht hsum
          by_cases hneg : l - (t.size : Int) < 0
          · have e : leftS ss left = -1 := by
              have h1 := HS.out; have h2 := hl.out; have h3 := sum_take_le ss (k + 1)
              rw [leftS, bulkS, if_neg (by omega)]
            have HE : Hid (leftS ss left = -1) := e
            clear e
            go_wp2
            go_ret
            exact ⟨by rw [HE.out]; rfl, rfl⟩
          · go_wp2
            go_round
            case rel => exact ⟨k + 1, l - (t.size : Int), by omega, by go_num, rfl, by omega, by omega, (by show _ = _; rw [HS.out, hl.out]; omega)⟩
            case measure => simp [intOf]; omega
        · have he : k = ss.length := by omega
          subst he
          have e : leftS ss left = l := by
            have h2 := hl.out
            rw [List.take_length] at h2
            rw [leftS, bulkS, if_pos (by omega)]; omega
          have HE : Hid (leftS ss left = l) := e
          clear hc hs e
          go_wp2
          go_ret
          exact ⟨by rw [HE.out]; rfl, rfl⟩
end Go.Proofs.YtkijckpkojcdcaaGreatDoor

/-! Needs, commands and packs that lie in memory: what they are, and how much they hold, as the law counts it: contracts for the walks; conditions: at most 2 to the 20 is left to count. -/
namespace Go.Proofs.YtkijckpkojcdcaaGreatDoor
open Go.RowKit
set_option linter.unusedSimpArgs false
set_option linter.unusedVariables false

theorem lw (n : Nat) (l : Int) : ((n : Int) ≤ l ∧ leftW n l = l - (n : Int)) ∨ (l < (n : Int) ∧ leftW n l = -1) := by
  by_cases h : (n : Int) ≤ l
  · exact .inl ⟨h, leftW_good h⟩
  · exact .inr ⟨by omega, leftW_bad h⟩

/-- A list of texts that may be written. -/
def StrsOwn (S : Nat → Prop) (w : World) (u : Value) (ss : List ByteArray) : Prop := w.ownsRow 0 9 1 u ss.length (strsV ss) ∧ ∀ g, u.ownBlock = some g → S g
theorem StrsOwn.keep {S : Nat → Prop} {w w' : World} {u : Value} {ss : List ByteArray} (hk : Kp S w w') (h : StrsOwn S w u ss) : StrsOwn S w' u ss := ⟨owns_kept hk h.2 h.1, h.2⟩
theorem StrsOwn.mono {S S' : Nat → Prop} {w : World} {u : Value} {ss : List ByteArray} (hS : ∀ b, S b → S' b) (h : StrsOwn S w u ss) : StrsOwn S' w u ss := ⟨h.1, fun g hg => hS g (h.2 g hg)⟩
theorem StrsOwn.plain {S : Nat → Prop} {w : World} {u : Value} {ss : List ByteArray} (h : StrsOwn S w u ss) : RdB S w u (strsV ss) := by
  obtain ⟨a, cap, hv, hc, hx⟩ := reads_of_owns h.1
  refine ⟨a, cap, hv, hc, ?_⟩
  rcases hx with hx | ⟨b, off, rfl, hlt, hx⟩
  · exact .inl hx
  · exact .inr ⟨b, off, rfl, h.2 b (by rw [hv]; rfl), hx⟩

structure NeedD where
  n : ByteArray
  r : ByteArray
def wtNeed (d : NeedD) : Nat := d.n.size + d.r.size
def shNeed : Sh NeedD where
  n := 2
  lies S w cs d := cs = [.string d.n, .string d.r] ∧ d.n.size ≤ maxLen ∧ d.r.size ≤ maxLen
  keep hk h := by obtain ⟨h0, h1, h2⟩ := h; exact ⟨h0, h1, h2⟩
  mono hS h := by obtain ⟨h0, h1, h2⟩ := h; exact ⟨h0, h1, h2⟩

structure CmdD where
  t : ByteArray
  acts : List ByteArray
def wtCmd (d : CmdD) : Nat := d.t.size + bulkS d.acts
def shCmd : Sh CmdD where
  n := 2
  lies S w cs d := ∃ u0, cs = [.string d.t, u0] ∧ d.t.size ≤ maxLen ∧ RdB S w u0 (strsV d.acts) ∧ saneP d.acts
  keep hk h := by obtain ⟨u0, h0, h1, h2, h3⟩ := h; exact ⟨u0, h0, h1, h2.keep hk, h3⟩
  mono hS h := by obtain ⟨u0, h0, h1, h2, h3⟩ := h; exact ⟨u0, h0, h1, h2.mono hS, h3⟩
def shCmdO : Sh CmdD where
  n := 2
  lies S w cs d := ∃ u0, cs = [.string d.t, u0] ∧ d.t.size ≤ maxLen ∧ StrsOwn S w u0 d.acts ∧ saneP d.acts
  keep hk h := by obtain ⟨u0, h0, h1, h2, h3⟩ := h; exact ⟨u0, h0, h1, h2.keep hk, h3⟩
  mono hS h := by obtain ⟨u0, h0, h1, h2, h3⟩ := h; exact ⟨u0, h0, h1, h2.mono hS, h3⟩
theorem liesCmd_plain {S : Nat → Prop} {w : World} {cs : List Value} {d : CmdD} (h : shCmdO.lies S w cs d) : shCmd.lies S w cs d := by
  obtain ⟨u0, e0, s_t, r0, p0⟩ := h
  exact ⟨u0, e0, s_t, r0.plain, p0⟩

structure PackD where
  name : ByteArray
  uses : List ByteArray
  needs : List NeedD
  cmds : List CmdD
def wtPack (d : PackD) : Nat := d.name.size + bulkS d.uses + wtRow wtNeed d.needs + wtRow wtCmd d.cmds
def shPack : Sh PackD where
  n := 4
  lies S w cs d := ∃ u0 u1 u2, cs = [.string d.name, u0, u1, u2] ∧ d.name.size ≤ maxLen ∧ RdB S w u0 (strsV d.uses) ∧ saneP d.uses ∧ RowIn shNeed S w u1 d.needs ∧ RowIn shCmd S w u2 d.cmds
  keep hk h := by obtain ⟨u0, u1, u2, h0, h1, h2, h3, h4, h5⟩ := h; exact ⟨u0, u1, u2, h0, h1, h2.keep hk, h3, h4.keep hk, h5.keep hk⟩
  mono hS h := by obtain ⟨u0, u1, u2, h0, h1, h2, h3, h4, h5⟩ := h; exact ⟨u0, u1, u2, h0, h1, h2.mono hS, h3, h4.mono hS, h5.mono hS⟩
end Go.Proofs.YtkijckpkojcdcaaGreatDoor

/-! Rows that are right one by one and ascend, and the first of a row that is taken: pure facts, no condition. -/
namespace Go.Proofs.YtkijckpkojcdcaaGreatDoor
open Go.RowKit
set_option linter.unusedSimpArgs false
set_option linter.unusedVariables false

/-- What is asked of an element beside the one ahead of it. -/
def rowOk {α : Type} (p : α → Bool) (key : α → ByteArray) (d : α) (pre : Option α) : Bool := p d && (match pre with | none => true | some c => Op.bytesLess (key c).toList (key d).toList)
def preX {α : Type} (xs : List α) : Nat → Option α
  | 0 => none
  | j + 1 => xs[j]?
def rowUpto {α : Type} (p : α → Bool) (key : α → ByteArray) (xs : List α) : Nat → Bool
  | 0 => true
  | k + 1 => rowUpto p key xs k && (match xs[k]? with | none => true | some d => rowOk p key d (preX xs k))
def rowB {α : Type} (p : α → Bool) (key : α → ByteArray) (xs : List α) : Bool := rowUpto p key xs xs.length
theorem rowUpto_step {α : Type} {p : α → Bool} {key : α → ByteArray} {xs : List α} {k : Nat} (hk : k < xs.length) (h : rowUpto p key xs k = true) (h2 : rowOk p key xs[k] (preX xs k) = true) : rowUpto p key xs (k + 1) = true := by
  rw [rowUpto, h, List.getElem?_eq_getElem hk]; simpa using h2
theorem rowUpto_bad {α : Type} {p : α → Bool} {key : α → ByteArray} {xs : List α} {k : Nat} (hk : k < xs.length) (h2 : rowOk p key xs[k] (preX xs k) = false) : ∀ n, k < n → rowUpto p key xs n = false
  | 0, h => by omega
  | n + 1, h => by
    rw [rowUpto]
    by_cases e : k = n
    · subst e; rw [List.getElem?_eq_getElem hk]; simp [h2]
    · rw [rowUpto_bad hk h2 n (by omega)]; rfl
theorem rowOk_no {α : Type} {p : α → Bool} {key : α → ByteArray} {d : α} {o : Option α} (h : p d = false) : rowOk p key d o = false := by simp [rowOk, h]
theorem rowOk_first {α : Type} {p : α → Bool} {key : α → ByteArray} {d : α} (h : p d = true) : rowOk p key d none = true := by simp [rowOk, h]
theorem rowOk_some {α : Type} {p : α → Bool} {key : α → ByteArray} {d c : α} (h : p d = true) : rowOk p key d (some c) = Op.bytesLess (key c).toList (key d).toList := by simp [rowOk, h]
theorem rowOk_less {α : Type} {p : α → Bool} {key : α → ByteArray} {d c : α} (h : Op.bytesLess (key c).toList (key d).toList = false) : rowOk p key d (some c) = false := by simp [rowOk, h]

def ascB (ts : List ByteArray) : Bool := rowB (fun _ => true) id ts
theorem asc_one (ts : List ByteArray) : rowUpto (fun _ => true) id ts 1 = true := by
  rw [rowUpto, rowUpto]
  cases ts with
  | nil => rfl
  | cons t ts => rfl
theorem asc_end {ts : List ByteArray} {k : Nat} (h1 : 1 ≤ k) (h2 : ¬ k < ts.length) (h3 : k ≤ ts.length ∨ k = 1) (h : rowUpto (fun _ => true) id ts k = true) : ascB ts = true := by
  cases ts with
  | nil => rfl
  | cons t ts =>
    have : k = (t :: ts).length := by
      rcases h3 with h3 | h3
      · omega
      · simp at h2 ⊢; omega
    rw [this] at h
    exact h
theorem rowUpto_split {α : Type} (p : α → Bool) (key : α → ByteArray) (xs : List α) : ∀ k, k ≤ xs.length → rowUpto p key xs k = ((xs.take k).all p && rowUpto (fun _ => true) id (xs.map key) k)
  | 0, _ => rfl
  | k + 1, h => by
    have hk : k < xs.length := by omega
    rw [rowUpto, rowUpto_split p key xs k (by omega), List.getElem?_eq_getElem hk, List.take_succ_eq_append_getElem hk, List.all_append]
    have hm : (xs.map key)[k]? = some (key xs[k]) := by simp [hk]
    have hp : preX (xs.map key) k = (preX xs k).map key := by
      cases k with
      | zero => rfl
      | succ j => simp [preX]
    simp only [rowUpto, hm, hp, rowOk, List.all_cons, List.all_nil, Bool.and_true, Bool.true_and]
    cases preX xs k with
    | none => simp only [Option.map_none]; cases (xs.take k).all p <;> cases rowUpto (fun _ => true) id (xs.map key) k <;> cases p xs[k] <;> rfl
    | some c => simp only [Option.map_some, id]; cases (xs.take k).all p <;> cases rowUpto (fun _ => true) id (xs.map key) k <;> cases p xs[k] <;> cases Op.bytesLess (key c).toList (key xs[k]).toList <;> rfl
theorem rowB_split {α : Type} (p : α → Bool) (key : α → ByteArray) (xs : List α) : rowB p key xs = (xs.all p && ascB (xs.map key)) := by
  unfold rowB ascB rowB
  rw [rowUpto_split p key xs _ (Nat.le_refl _), List.take_length, List.length_map]

/-- The place of the first that p takes, or -1. -/
def firstI {α : Type} (p : α → Bool) (xs : List α) : Int := if xs.findIdx p < xs.length then (xs.findIdx p : Int) else -1
theorem firstI_here {α : Type} {p : α → Bool} {xs : List α} {k : Nat} (h : k < xs.length) (hy : p xs[k] = true) (hn : ∀ j (hj : j < xs.length), j < k → p xs[j] = false) : firstI p xs = (k : Int) := by
  have e : xs.findIdx p = k := by
    rw [List.findIdx_eq h]
    exact ⟨hy, fun j hj => hn j (by omega) hj⟩
  unfold firstI
  rw [e, if_pos h]
theorem firstI_none {α : Type} {p : α → Bool} {xs : List α} (hn : ∀ j (hj : j < xs.length), p xs[j] = false) : firstI p xs = -1 := by
  have e : xs.findIdx p = xs.length := by
    rw [List.findIdx_eq_length]
    intro x hx
    obtain ⟨j, hj, rfl⟩ := List.mem_iff_getElem.1 hx
    exact hn j hj
  unfold firstI
  rw [e, if_neg (by omega)]
theorem firstI_any {α : Type} (p : α → Bool) (xs : List α) : decide (0 ≤ firstI p xs) = xs.any p := by
  unfold firstI
  by_cases h : xs.findIdx p < xs.length
  · rw [if_pos h, decide_eq_true (by omega)]
    have := List.findIdx_lt_length.1 h
    obtain ⟨x, hx, hp⟩ := this
    exact (List.any_eq_true.2 ⟨x, hx, hp⟩).symm
  · rw [if_neg h, decide_eq_false (by omega)]
    have e : xs.findIdx p = xs.length := by have := List.findIdx_le_length (xs := xs) (p := p); omega
    rw [List.findIdx_eq_length] at e
    cases ha : xs.any p with
    | false => rfl
    | true =>
      obtain ⟨x, hx, hp⟩ := List.any_eq_true.1 ha
      have := e x hx
      simp_all
theorem firstI_ge {α : Type} (p : α → Bool) (xs : List α) : -1 ≤ firstI p xs := by unfold firstI; split <;> omega
theorem firstI_le {α : Type} (p : α → Bool) (xs : List α) : firstI p xs ≤ (xs.length : Int) := by unfold firstI; split <;> omega

end Go.Proofs.YtkijckpkojcdcaaGreatDoor

/-! The place of the pack of a name, the program's and the specification's: contracts for the walks; conditions: the row of packs lies in memory. -/
namespace Go.Proofs.YtkijckpkojcdcaaGreatDoor
open Go.RowKit
set_option linter.unusedSimpArgs false
set_option linter.unusedVariables false

/-- The place of the first pack of this name, or -1. -/
def findP (xs : List PackD) (s : ByteArray) : Int := if xs.findIdx (fun d => decide (d.name = s)) < xs.length then (xs.findIdx (fun d => decide (d.name = s)) : Int) else -1
theorem findP_here {xs : List PackD} {s : ByteArray} {k : Nat} (h : k < xs.length) (hy : xs[k].name = s) (hn : ∀ j (hj : j < xs.length), j < k → ¬ xs[j].name = s) : findP xs s = (k : Int) := by
  have e : xs.findIdx (fun d => decide (d.name = s)) = k := by
    rw [List.findIdx_eq h]
    exact ⟨by simpa using hy, fun j hj => by simpa using hn j (by omega) hj⟩
  unfold findP
  rw [e, if_pos h]
theorem findP_none {xs : List PackD} {s : ByteArray} (hn : ∀ j (hj : j < xs.length), ¬ xs[j].name = s) : findP xs s = -1 := by
  have e : xs.findIdx (fun d => decide (d.name = s)) = xs.length := by
    rw [List.findIdx_eq_length]
    intro x hx
    obtain ⟨j, hj, rfl⟩ := List.mem_iff_getElem.1 hx
    simpa using hn j hj
  unfold findP
  rw [e, if_neg (by omega)]
theorem name_alike (a b : ByteArray) : (a.toList == b.toList) = decide (a = b) := by
  by_cases h : a = b
  · subst h; simp
  · rw [decide_eq_false h]
    cases hh : (a.toList == b.toList) with
    | false => rfl
    | true => exact absurd (bytes_eq_of_toList (by simpa using hh)) h

end Go.Proofs.YtkijckpkojcdcaaGreatDoor

/-! When needs, commands and packs are right, and rows of them, as the program and as the specification ask it: the same; pure facts, no condition. -/
namespace Go.Proofs.YtkijckpkojcdcaaGreatDoor
open Go.RowKit
set_option linter.unusedSimpArgs false
set_option linter.unusedVariables false

def needB (d : NeedD) : Bool := nameB d.n && (decide (d.r.size ≤ 20) && (rangeI d.r).isSome)
def needsB (l : List NeedD) : Bool := rowB needB NeedD.n l && decide (l.length ≤ 4)
def cmdB (c : CmdD) : Bool := nameB c.t && (decide (1 ≤ c.acts.length ∧ c.acts.length ≤ 5) && c.acts.all fun a => plainAll a 40)
def cmdsB (l : List CmdD) : Bool := rowB cmdB CmdD.t l && decide (l.length ≤ 4)
def packB (p : PackD) : Bool := nameB p.name && (decide (p.uses.length ≤ 4) && (p.uses.all nameB && (ascB p.uses && (needsB p.needs && cmdsB p.cmds))))
def usesIn (l : List PackD) (p : PackD) : Bool := p.uses.all fun u => decide (0 ≤ findP l u) && !decide (u = p.name)
def packsB (l : List PackD) : Bool := rowB (fun p => packB p && usesIn l p) PackD.name l && decide (l.length ≤ 6)
def ownUse (p : PackD) : Bool := p.uses.any fun u => decide (p.name = u)
def usesI (p : PackD) : Bool := !(decide (4 < p.uses.length) || ownUse p) && (!(p.uses.any fun u => !nameB u) && ascB p.uses)
def needsI (l : List NeedD) : Bool := !(decide (4 < l.length) || l.any fun d => !needB d) && ascB (l.map NeedD.n)
def cmdsI (l : List CmdD) : Bool := !(decide (4 < l.length) || l.any fun d => !cmdB d) && ascB (l.map CmdD.t)
def packI (p : PackD) : Bool := nameB p.name && (usesI p && (needsI p.needs && cmdsI p.cmds))
def thereB (l : List PackD) (p : PackD) : Bool := p.uses.all fun u => decide (0 ≤ findP l u)
def packsI (l : List PackD) : Bool := !(decide (6 < l.length) || !ascB (l.map PackD.name)) && l.all fun p => packI p && thereB l p
theorem not_any_not {α : Type} (p : α → Bool) (xs : List α) : (!(xs.any fun x => !p x)) = xs.all p := by
  induction xs with
  | nil => rfl
  | cons x xs ih => simp only [List.any_cons, List.all_cons, Bool.not_or, Bool.not_not, ih]
theorem not_more (a b : Nat) : (!decide (a < b)) = decide (b ≤ a) := by
  by_cases h : a < b
  · rw [decide_eq_true h, decide_eq_false (by omega)]; rfl
  · rw [decide_eq_false h, decide_eq_true (by omega)]; rfl
theorem needs_alike (l : List NeedD) : needsI l = needsB l := by
  unfold needsI needsB
  rw [rowB_split, Bool.not_or, not_any_not, not_more]
  cases decide (l.length ≤ 4) <;> cases l.all needB <;> cases ascB (l.map NeedD.n) <;> rfl
theorem cmds_alike (l : List CmdD) : cmdsI l = cmdsB l := by
  unfold cmdsI cmdsB
  rw [rowB_split, Bool.not_or, not_any_not, not_more]
  cases decide (l.length ≤ 4) <;> cases l.all cmdB <;> cases ascB (l.map CmdD.t) <;> rfl
theorem pack_alike (p : PackD) : packI p = (packB p && !ownUse p) := by
  unfold packI usesI packB
  rw [needs_alike, cmds_alike, Bool.not_or, not_any_not, not_more]
  cases nameB p.name <;> cases decide (p.uses.length ≤ 4) <;> cases p.uses.all nameB <;> cases ascB p.uses <;> cases needsB p.needs <;> cases cmdsB p.cmds <;> cases ownUse p <;> rfl
theorem uses_alike (l : List PackD) (p : PackD) : (!ownUse p && thereB l p) = usesIn l p := by
  unfold ownUse thereB usesIn
  induction p.uses with
  | nil => rfl
  | cons u us ih =>
    simp only [List.any_cons, List.all_cons, Bool.not_or] at ih ⊢
    rw [← ih]
    have e : decide (u = p.name) = decide (p.name = u) := by
      by_cases h : u = p.name
      · rw [decide_eq_true h, decide_eq_true h.symm]
      · rw [decide_eq_false h, decide_eq_false (fun k => h k.symm)]
    rw [e]
    cases decide (p.name = u) <;> cases decide (0 ≤ findP l u) <;> cases (us.any fun u => decide (p.name = u)) <;> cases (us.all fun u => decide (0 ≤ findP l u)) <;> rfl
theorem packs_alike (l : List PackD) : packsI l = packsB l := by
  have e : (fun p => packI p && thereB l p) = fun p => packB p && usesIn l p := funext fun p => by
    rw [pack_alike, ← uses_alike l p]
    cases packB p <;> cases ownUse p <;> cases thereB l p <;> rfl
  unfold packsI packsB
  rw [rowB_split, e, Bool.not_or, not_more, Bool.not_not]
  cases decide (l.length ≤ 6) <;> cases ascB (l.map PackD.name) <;> cases (l.all fun p => packB p && usesIn l p) <;> rfl
end Go.Proofs.YtkijckpkojcdcaaGreatDoor

/-! Rows of needs, commands and packs that ascend by a text of each, as the program asks it: contracts for the walks; conditions: the rows lie in memory. -/
namespace Go.Proofs.YtkijckpkojcdcaaGreatDoor
open Go.RowKit
set_option linter.unusedSimpArgs false
set_option linter.unusedVariables false

set_option maxHeartbeats 1000000 in
set_option maxRecDepth 100000 in
theorem txtNeed_c (S : Nat → Prop) (d : NeedD) (cs : List Value) (w : World) (hd : shNeed.lies S w cs d) :
    Calls Tryz.prog 173 #[.agg cs.toArray] w fun e w' => e = .returned (.string d.n) ∧ Below w.heap.size w w' := by
  obtain ⟨rfl, s_n, s_r⟩ := hd
  have kb : ∀ o, Below w.heap.size w (w.alloc o) := fun o => (Below.refl w.heap.size w).alloc (Nat.le_refl _) o
  clear s_n
  go_enter Tryz.func173, Tryz.ntmps173
  go_wp2_with fail
  go_ret
  exact ⟨rfl, kb _⟩

set_option maxHeartbeats 8000000 in
set_option maxRecDepth 100000 in
theorem ascNeed_c (S : Nat → Prop) (v : Value) (xs : List NeedD) (w : World) (hv : RowIn shNeed S w v xs) (hB : ∀ b, S b → b < w.heap.size) :
    Calls Tryz.prog 172 #[v, .func (.func 173) #[] #[]] w fun e w' => e = .returned (.bool (ascB (xs.map NeedD.n))) ∧ Below w.heap.size w w' := by
  obtain ⟨a, cap, rfl, hl, hc, ha⟩ := hv
  unfold maxLen at hl
  obtain ⟨R, hR⟩ : ∃ R, R = ascB (xs.map NeedD.n) := ⟨_, rfl⟩
  rw [← hR]
  have HR := hidden hR
  clear hR
  go_enter Tryz.func172, Tryz.ntmps172
  go_wp2_with fail
  go_loopw [5] (fun vi wr => ∃ k : Nat, 1 ≤ k ∧ (k ≤ xs.length ∨ k = 1) ∧ vi = .int .i64 (k : Int) ∧ Hid (rowUpto (fun _ => true) id (xs.map NeedD.n) k = true) ∧ Below w.heap.size w wr) (fun vi _ => xs.length - (intOf vi).toNat)
  case atStart => exact ⟨1, Nat.le_refl _, .inr rfl, rfl, asc_one _, Below.refl _ _⟩
  case round =>
    obtain ⟨k, hk1, hk, rfl, hh, hbr⟩ := hrel
    by_cases hlt' : k < xs.length
    · rcases ha with rfl | ⟨b, off, rfl, hlt, ha⟩
      · simp at hlt'
      obtain ⟨j, rfl⟩ : ∃ j, k = j + 1 := ⟨k - 1, by omega⟩
      have hj' : j < xs.length := by omega
      obtain ⟨ycs, yL, hcelly⟩ := ha j hj'
      obtain ⟨xcs, xL, hcellx⟩ := ha (j + 1) hlt'
      have hbb : b < wr.heap.size := Nat.lt_of_lt_of_le (hB b hlt) hbr.size
      replace hcelly := hcelly.keep (.of hbr hB) hlt
      replace hcellx := hcellx.keep (.of hbr hB) hlt
      have HC1 : Hid (∀ w1, Below wr.heap.size wr w1 → Calls Tryz.prog 173 #[.agg ycs.toArray] w1 fun e w' => e = .returned (.string xs[j].n) ∧ Below w1.heap.size w1 w') := fun w1 h => txtNeed_c S xs[j] ycs w1 (shNeed.keep (.of (hbr.trans (h.mono hbr.size)) hB) yL)
      have HC2 : Hid (∀ w1, Below wr.heap.size wr w1 → Calls Tryz.prog 173 #[.agg xcs.toArray] w1 fun e w' => e = .returned (.string xs[j + 1].n) ∧ Below w1.heap.size w1 w') := fun w1 h => txtNeed_c S xs[j + 1] xcs w1 (shNeed.keep (.of (hbr.trans (h.mono hbr.size)) hB) xL)
      have hpre : preX (xs.map NeedD.n) (j + 1) = some xs[j].n := by simp [preX, hj']
      have hat : (xs.map NeedD.n)[j + 1]'(by simpa using hlt') = xs[j + 1].n := by simp
      have HBD : Hid (Op.bytesLess xs[j].n.toList xs[j + 1].n.toList = false → R = false) := fun h => HR.out.trans (rowUpto_bad (by simpa using hlt') (by rw [hpre, hat]; exact rowOk_less h) _ (by simpa using hlt'))
      have HGD : Hid (Op.bytesLess xs[j].n.toList xs[j + 1].n.toList = true → rowUpto (fun _ => true) id (xs.map NeedD.n) (j + 1 + 1) = true) := fun h => rowUpto_step (by simpa using hlt') hh.out (by rw [hpre, hat, rowOk_some rfl]; exact h)
      obtain ⟨c, hc0⟩ : ∃ c, c = xs[j] := ⟨_, rfl⟩
      obtain ⟨d, hd0'⟩ : ∃ d, d = xs[j + 1] := ⟨_, rfl⟩
      rw [← hc0] at yL HC1 HBD HGD
      rw [← hd0'] at xL HC2 HBD HGD
      clear ha hpre hat hc0 hd0' hh
      obtain ⟨rfl, ys_n, ys_r⟩ := yL
      obtain ⟨rfl, xs_n, xs_r⟩ := xL
      have yv0 : wr.cell? ⟨b, off + j * 2, none⟩ = some (.string c.n) := hcelly 0 (by simp)
      have yv1 : wr.cell? ⟨b, off + j * 2 + 1, none⟩ = some (.string c.r) := hcelly 1 (by simp)
      have xv0 : wr.cell? ⟨b, off + (j + 1) * 2, none⟩ = some (.string d.n) := hcellx 0 (by simp)
      have xv1 : wr.cell? ⟨b, off + (j + 1) * 2 + 1, none⟩ = some (.string d.r) := hcellx 1 (by simp)
      have hj0 : (0 : Int) ≤ (j : Int) + 1 := by omega
      have hj2 : (j : Int) + 1 < (xs.length : Int) := by omega
      have hj3 : (j : Int) < (xs.length : Int) := by omega
      have hjw : IntKind.i64.wrap (j : Int) = (j : Int) := IntWalk.i64_in _ ⟨by omega, by omega⟩
      have hd0 : Below wr.heap.size wr wr.drew := (Below.refl _ _).drew
      have KEEP : Hid (∀ w1, Below wr.heap.size wr w1 → w1.cell? ⟨b, off + j * 2, none⟩ = some (.string c.n) ∧ w1.cell? ⟨b, off + j * 2 + 1, none⟩ = some (.string c.r) ∧ w1.cell? ⟨b, off + (j + 1) * 2, none⟩ = some (.string d.n) ∧ w1.cell? ⟨b, off + (j + 1) * 2 + 1, none⟩ = some (.string d.r)) := fun w1 h => ⟨(h.cell (by simpa using hbb)).trans yv0, (h.cell (by simpa using hbb)).trans yv1, (h.cell (by simpa using hbb)).trans xv0, (h.cell (by simpa using hbb)).trans xv1⟩
      clear hcelly hcellx yv0 yv1 xv0 xv1
      go_wp2_with fail
      refine wp_region_held_drew (S := (fun w' => w'.cell? ⟨b, off + j * 2, none⟩ = some (.string c.n) ∧ w'.cell? ⟨b, off + j * 2 + 1, none⟩ = some (.string c.r) ∧ w'.cell? ⟨b, off + (j + 1) * 2, none⟩ = some (.string d.n) ∧ w'.cell? ⟨b, off + (j + 1) * 2 + 1, none⟩ = some (.string d.r))) (by kernel_rfl) ?SR10 (fun hHeld => ?_)
      case SR10 => (first | (with_reducible exact KEEP.out _ hd2) | (with_reducible exact KEEP.out _ hd1) | (with_reducible exact KEEP.out _ hd0))
      refine wpAnyH_take (i := 0) (oi := _) (v := ?vR10) rfl (by kernel_rfl) (by kernel_rfl) (by kernel_rfl) (fun _ _ _ h => h) (Or.inl ⟨by rfl, ?yR10⟩) hHeld ?_
      case yR10 => (intro w hSw; (try dsimp only at hSw); go_simp <;> with_reducible rfl)
      try simp only [Act.put, List.getElem_toArray, List.getElem_cons_zero, List.getElem_cons_succ, List.setIfInBounds_toArray, List.set_cons_zero, List.set_cons_succ]
      refine wpAnyH_take (i := 1) (oi := _) (v := ?vR11) rfl (by kernel_rfl) (by kernel_rfl) (by kernel_rfl) (fun _ _ _ h => h) (Or.inl ⟨by rfl, ?yR11⟩) hHeld ?_
      case yR11 => (intro w hSw; (try dsimp only at hSw); go_simp <;> with_reducible rfl)
      try simp only [Act.put, List.getElem_toArray, List.getElem_cons_zero, List.getElem_cons_succ, List.setIfInBounds_toArray, List.set_cons_zero, List.set_cons_succ]
      refine wpAnyH_take (i := 2) (oi := _) (v := ?vR12) rfl (by kernel_rfl) (by kernel_rfl) (by kernel_rfl) (fun _ _ _ h => h) (Or.inl ⟨by rfl, ?yR12⟩) hHeld ?_
      case yR12 => (intro w hSw; (try dsimp only at hSw); go_simp <;> with_reducible rfl)
      try simp only [Act.put, List.getElem_toArray, List.getElem_cons_zero, List.getElem_cons_succ, List.setIfInBounds_toArray, List.set_cons_zero, List.set_cons_succ]
      refine wpAnyH_take (i := 3) (oi := _) (v := ?vR13) rfl (by kernel_rfl) (by kernel_rfl) (by kernel_rfl) (fun _ _ _ h => h) (Or.inl ⟨by rfl, ?yR13⟩) hHeld ?_
      case yR13 => (intro w hSw; (try dsimp only at hSw); go_simp <;> with_reducible rfl)
      try simp only [Act.put, List.getElem_toArray, List.getElem_cons_zero, List.getElem_cons_succ, List.setIfInBounds_toArray, List.set_cons_zero, List.set_cons_succ]
      refine wpAnyH_take (i := 4) (oi := _) (v := ?vR14) rfl (by kernel_rfl) (by kernel_rfl) (by kernel_rfl) (fun _ _ _ h => h) (Or.inl ⟨by rfl, ?yR14⟩) hHeld ?_
      case yR14 => (intro w hSw; (try dsimp only at hSw); go_simp <;> with_reducible rfl)
      try simp only [Act.put, List.getElem_toArray, List.getElem_cons_zero, List.getElem_cons_succ, List.setIfInBounds_toArray, List.set_cons_zero, List.set_cons_succ]
      refine wpAnyH_take (i := 5) (oi := _) (v := ?vR15) rfl (by kernel_rfl) (by kernel_rfl) (by kernel_rfl) (fun _ _ _ h => h) (Or.inl ⟨by rfl, ?yR15⟩) hHeld ?_
      case yR15 => (intro w hSw; (try dsimp only at hSw); go_simp <;> with_reducible rfl)
      try simp only [Act.put, List.getElem_toArray, List.getElem_cons_zero, List.getElem_cons_succ, List.setIfInBounds_toArray, List.set_cons_zero, List.set_cons_succ]
      refine wpAnyH_take (i := 7) (oi := _) (v := ?vR16) rfl (by kernel_rfl) (by kernel_rfl) (by kernel_rfl) (fun _ _ _ h => h) (Or.inl ⟨by rfl, ?yR16⟩) hHeld ?_
      case yR16 => (intro w hSw; (try dsimp only at hSw); go_simp <;> with_reducible rfl)
      try simp only [Act.put, List.getElem_toArray, List.getElem_cons_zero, List.getElem_cons_succ, List.setIfInBounds_toArray, List.set_cons_zero, List.set_cons_succ]
      refine wpAnyH_take (i := 8) (oi := _) (v := ?vR17) rfl (by kernel_rfl) (by kernel_rfl) (by kernel_rfl) (fun _ _ _ h => h) (Or.inl ⟨by rfl, ?yR17⟩) hHeld ?_
      case yR17 => (intro w hSw; (try dsimp only at hSw); go_simp <;> with_reducible rfl)
      try simp only [Act.put, List.getElem_toArray, List.getElem_cons_zero, List.getElem_cons_succ, List.setIfInBounds_toArray, List.set_cons_zero, List.set_cons_succ]
      refine wpAnyH_take (i := 9) (oi := _) (v := ?vR18) rfl (by kernel_rfl) (by kernel_rfl) (by kernel_rfl) (fun _ _ _ h => h) (Or.inl ⟨by rfl, ?yR18⟩) hHeld ?_
      case yR18 => (intro w hSw; (try dsimp only at hSw); go_simp <;> with_reducible rfl)
      try simp only [Act.put, List.getElem_toArray, List.getElem_cons_zero, List.getElem_cons_succ, List.setIfInBounds_toArray, List.set_cons_zero, List.set_cons_succ]
      refine wpAnyH_take (i := 10) (oi := _) (v := ?vR19) rfl (by kernel_rfl) (by kernel_rfl) (by kernel_rfl) (fun _ _ _ h => h) (Or.inl ⟨by rfl, ?yR19⟩) hHeld ?_
      case yR19 => (intro w hSw; (try dsimp only at hSw); go_simp <;> with_reducible rfl)
      try simp only [Act.put, List.getElem_toArray, List.getElem_cons_zero, List.getElem_cons_succ, List.setIfInBounds_toArray, List.set_cons_zero, List.set_cons_succ]
      refine wpAnyH_take (i := 11) (oi := _) (v := ?vR110) rfl (by kernel_rfl) (by kernel_rfl) (by kernel_rfl) (fun _ _ _ h => h) (Or.inl ⟨by rfl, ?yR110⟩) hHeld ?_
      case yR110 => (intro w hSw; (try dsimp only at hSw); go_simp <;> with_reducible rfl)
      try simp only [Act.put, List.getElem_toArray, List.getElem_cons_zero, List.getElem_cons_succ, List.setIfInBounds_toArray, List.set_cons_zero, List.set_cons_succ]
      refine wpAnyH_ready (rs := [6]) (by kernel_rfl) (by simp) ?_
      refine AllReadyH.cons rfl (fun K hK => ?_) AllReadyH.nil
      go_simp
      go_wp2_with (go_at_call 173; refine (HC1.out _ (by first | exact hd0 | exact hd1)).mono ?_; rintro e w1 ⟨rfl, b1⟩; have hd1 : Below wr.heap.size wr w1 := hd0.trans (b1.mono hd0.size))
      clear hHeld
      refine hK.out _ _ ?SR112 (fun hHeld => ?_)
      case SR112 => ((try dsimp only); first | (with_reducible exact KEEP.out _ hd2) | (with_reducible exact KEEP.out _ hd1) | (with_reducible exact KEEP.out _ hd0))
      clear hK K
      refine wpAnyH_ready (rs := [12]) (by kernel_rfl) (by simp) ?_
      refine AllReadyH.cons rfl (fun K hK => ?_) AllReadyH.nil
      go_simp
      go_wp2_with (go_at_call 173; refine (HC2.out _ hd1).mono ?_; rintro e w2 ⟨rfl, b2⟩; have hd2 : Below wr.heap.size wr w2 := hd1.trans (b2.mono hd1.size))
      clear hHeld
      refine hK.out _ _ ?SR113 (fun hHeld => ?_)
      case SR113 => ((try dsimp only); first | (with_reducible exact KEEP.out _ hd2) | (with_reducible exact KEEP.out _ hd1) | (with_reducible exact KEEP.out _ hd0))
      clear hK K
      refine wpAnyH_take (i := 13) (oi := _) (v := ?vR113) rfl (by kernel_rfl) (by kernel_rfl) (by kernel_rfl) (fun _ _ _ h => h) (Or.inl ⟨by rfl, ?yR113⟩) hHeld ?_
      case yR113 => (intro w hSw; (try dsimp only at hSw); go_simp <;> with_reducible rfl)
      try simp only [Act.put, List.getElem_toArray, List.getElem_cons_zero, List.getElem_cons_succ, List.setIfInBounds_toArray, List.set_cons_zero, List.set_cons_succ]
      refine wpAnyH_done (by kernel_rfl) ?_ _
      go_wp2_with fail
      · have hlx : (!Op.bytesLess c.n.toList d.n.toList) = true := by assumption
        go_ret
        exact ⟨by rw [HBD.out (by simpa using hlx)]; rfl, hbr.trans (hd2.mono hbr.size)⟩
      · have hlx : (!Op.bytesLess c.n.toList d.n.toList) = false := by assumption
        go_roundw
        case rel => exact ⟨j + 1 + 1, by omega, .inl (by omega), by go_num, HGD.out (by simpa using hlx), hbr.trans (hd2.mono hbr.size)⟩
        case measure => simp [intOf]; omega
    · have HE : Hid (R = true) := HR.out.trans (asc_end hk1 (by simpa using hlt') (by simpa using hk) hh.out)
      clear ha hh
      go_wp2_with fail
      go_ret
      exact ⟨by rw [HE.out]; rfl, hbr⟩

end Go.Proofs.YtkijckpkojcdcaaGreatDoor

/-! Rows of texts: whether they ascend, whether one is among them, whether one is no name or not plain, as the program asks it: contracts for the walks; conditions: the rows lie in memory. -/
namespace Go.Proofs.YtkijckpkojcdcaaGreatDoor
open Go.RowKit
set_option linter.unusedSimpArgs false
set_option linter.unusedVariables false

theorem text_alike (a b : ByteArray) : (a.toList == b.toList) = decide (a = b) := by
  by_cases h : a = b
  · subst h; simp
  · rw [decide_eq_false h]
    cases hh : (a.toList == b.toList) with
    | false => rfl
    | true => exact absurd (bytes_eq_of_toList (by simpa using hh)) h
end Go.Proofs.YtkijckpkojcdcaaGreatDoor

/-! Whether needs, commands and packs are right, as the program asks it: contracts for the walks; conditions: they lie in memory, hold at most 2 to the 20, and the table of signs holds what it is laid with. -/
namespace Go.Proofs.YtkijckpkojcdcaaGreatDoor
open Go.RowKit
set_option linter.unusedSimpArgs false
set_option linter.unusedVariables false

/-- The tables that reading a range leans on. -/
def Tabs (w : World) : Prop := ∃ m : Int, w.cell? ⟨1, 0, none⟩ = some (.int .i64 m) ∧ ∀ k (h : k < signsT.length), w.cell? ⟨0, k, none⟩ = some (.string signsT[k])
theorem Tabs.below {w w' : World} (h : Tabs w) (hb : Below w.heap.size w w') : Tabs w' := by
  obtain ⟨m, h1, h2⟩ := h
  exact ⟨m, (hb.cell (by simpa using World.block_lt_of_cell? w _ h1)).trans h1, fun k hk => (hb.cell (by simpa using World.block_lt_of_cell? w _ (h2 k hk))).trans (h2 k hk)⟩
theorem below_next {w w1 w2 : World} (h : Below w.heap.size w w1) (h2 : Below w1.heap.size w1 w2) : Below w.heap.size w w2 := h.trans (h2.mono h.size)

set_option maxHeartbeats 2000000 in
set_option maxRecDepth 100000 in
theorem wrongNeed_c (S : Nat → Prop) (d : NeedD) (cs : List Value) (w : World) (hd : shNeed.lies S w cs d) (hr : d.r.size ≤ 1048576) (hT : Tabs w) :
    Calls Tryz.prog 171 #[.agg cs.toArray] w fun e w' => e = .returned (.bool (!needB d)) ∧ Below w.heap.size w w' := by
  obtain ⟨rfl, s_n, s_r⟩ := hd
  have hbx : ∀ o, Below w.heap.size w (w.alloc o) := fun o => (Below.refl _ _).alloc (Nat.le_refl _) _
  have HN := fun w1 => implName_c d.n s_n w1
  have HR : ∀ w1, Below w.heap.size w w1 → Calls Tryz.prog 54 #[.string d.r] w1 fun e w' => ∃ v, e = .returned (.tuple #[v, .bool (rangeI d.r).isSome]) ∧ Below w1.heap.size w1 w' := fun w1 h => by
    obtain ⟨m, h1, h2⟩ := hT.below h
    exact (implRange_c d.r hr m w1 h1 h2).mono fun e w' ⟨v, a, _, b⟩ => ⟨v, a, b⟩
  unfold needB
  obtain ⟨p, hp⟩ : ∃ p, p = nameB d.n := ⟨_, rfl⟩
  obtain ⟨q, hq⟩ : ∃ q, q = (rangeI d.r).isSome := ⟨_, rfl⟩
  simp only [← hp] at HN ⊢
  simp only [← hq] at HR ⊢
  replace HN := hidden HN
  replace HR := hidden HR
  unfold maxLen at s_n s_r
  clear hp hq hT
  cases p with
  | false =>
    go_enter Tryz.func171, Tryz.ntmps171
    go_wp2_with (go_at_call 112; refine (HN.out _).mono ?_; rintro e w' ⟨rfl, rfl⟩)
    go_ret
    exact ⟨rfl, hbx _⟩
  | true =>
    by_cases hz : 20 < d.r.size
    · have hz' : (20 : Int) < (d.r.size : Int) := by omega
      have hz2 : decide (d.r.size ≤ 20) = false := decide_eq_false (by omega)
      rw [hz2]
      clear hz2
      go_enter Tryz.func171, Tryz.ntmps171
      go_wp2_with (go_at_call 112; refine (HN.out _).mono ?_; rintro e w' ⟨rfl, rfl⟩)
      go_ret
      exact ⟨rfl, hbx _⟩
    · have hz' : ¬ (20 : Int) < (d.r.size : Int) := by omega
      have hz2 : decide (d.r.size ≤ 20) = true := decide_eq_true (by omega)
      rw [hz2]
      clear hz2
      go_enter Tryz.func171, Tryz.ntmps171
      go_wp2_with fail
      go_at_call 112
      refine (HN.out _).mono ?_
      rintro e w' ⟨rfl, rfl⟩
      go_wp2_with fail
      go_at_call 54
      refine (HR.out _ (hbx _)).mono ?_
      rintro e w1 ⟨v, rfl, b1⟩
      go_wp2_with fail
      go_ret
      exact ⟨by cases q <;> rfl, (hbx _).trans (b1.mono (hbx _).size)⟩

set_option maxHeartbeats 2000000 in
set_option maxRecDepth 100000 in
theorem idxNeed_c (S : Nat → Prop) (v : Value) (xs : List NeedD) (w : World) (hv : RowIn shNeed S w v xs) (hB : ∀ b, S b → b < w.heap.size) (hw : ∀ d ∈ xs, d.r.size ≤ 1048576) (hT : Tabs w) :
    Calls Tryz.prog 209 #[v, .func (.func 171) #[] #[]] w fun e w' => e = .returned (.int .i64 (firstI (fun d => !needB d) xs)) ∧ Below w.heap.size w w' := by
  obtain ⟨a, cap, rfl, hl, hc, ha⟩ := hv
  unfold maxLen at hl
  obtain ⟨R, hR⟩ : ∃ R, R = firstI (fun d => !needB d) xs := ⟨_, rfl⟩
  rw [← hR]
  have HR := hidden hR
  clear hR
  go_enter Tryz.func209, Tryz.ntmps209
  go_wp2_with fail
  go_loopw [8] (fun vi wr => ∃ k : Nat, k ≤ xs.length ∧ vi = .int .i64 (k : Int) ∧ Hid (∀ j (hj : j < xs.length), j < k → (fun d => !needB d) xs[j] = false) ∧ Below w.heap.size w wr) (fun vi _ => xs.length - (intOf vi).toNat)
  case atStart => exact ⟨0, Nat.zero_le _, rfl, (fun j hj h => by omega), Below.refl _ _⟩
  case round =>
    obtain ⟨k, hk, rfl, hno, hbr⟩ := hrel
    by_cases hlt' : k < xs.length
    · rcases ha with rfl | ⟨b, off, rfl, hlt, ha⟩
      · simp at hlt'
      obtain ⟨cs, hL, hcell⟩ := ha k hlt'
      have hL2 := shNeed.keep (.of hbr hB) hL
      have hcell2 := hcell.keep (.of hbr hB) hlt
      have hBr : ∀ b, S b → b < wr.heap.size := fun b h => Nat.lt_of_lt_of_le (hB b h) hbr.size
      have HT : Hid ((fun d => !needB d) xs[k] = true → R = (k : Int)) := fun h => HR.out.trans (firstI_here hlt' h hno.out)
      have HN : Hid ((fun d => !needB d) xs[k] = false → ∀ j (hj : j < xs.length), j < k + 1 → (fun d => !needB d) xs[j] = false) := fun h j hj hjk => by
        by_cases e : j = k
        · subst e; exact h
        · exact hno.out j hj (by omega)
      have HC : Calls Tryz.prog 171 #[.agg cs.toArray] wr fun e w' => e = .returned (.bool ((fun d => !needB d) xs[k])) ∧ Below wr.heap.size wr w' := wrongNeed_c S xs[k] cs wr hL2 (hw _ (List.getElem_mem hlt')) (hT.below hbr)
      obtain ⟨d, hd⟩ : ∃ d, d = xs[k] := ⟨_, rfl⟩
      rw [← hd] at hL2 HT HN HC
      obtain ⟨r, hr⟩ : ∃ r, r = (fun d => !needB d) d := ⟨_, rfl⟩
      rw [← hr] at HT HN HC
      clear ha hL hcell hd hr hno
      obtain ⟨rfl, s_n, s_r⟩ := hL2
      have e0 : wr.cell? ⟨b, off + k * 2, none⟩ = some (.string d.n) := hcell2 0 (by simp)
      have e1 : wr.cell? ⟨b, off + k * 2 + 1, none⟩ = some (.string d.r) := hcell2 1 (by simp)
      have HC2 := hidden HC
      have hki : (k : Int) < (xs.length : Int) := by omega
      clear hcell2 HC 
      cases r with
      | true =>
        have HT2 := hidden (HT.out rfl)
        clear HT HN
        go_wp2_with (go_at_call 171; refine HC2.out.mono ?_; rintro e w1 ⟨rfl, b1⟩)
        go_ret
        exact ⟨by rw [HT2.out]; rfl, hbr.trans (b1.mono hbr.size)⟩
      | false =>
        have HN2 := hidden (HN.out rfl)
        clear HT HN
        go_wp2_with (go_at_call 171; refine HC2.out.mono ?_; rintro e w1 ⟨rfl, b1⟩)
        go_roundw
        case rel => exact ⟨k + 1, by omega, by go_num, HN2.out, hbr.trans (b1.mono hbr.size)⟩
        case measure => simp [intOf]; omega
    · have he : k = xs.length := by omega
      subst he
      have HE : Hid (R = -1) := HR.out.trans (firstI_none (fun j hj => hno.out j hj hj))
      clear ha hno HR
      go_wp2_with fail
      go_ret
      exact ⟨by rw [HE.out]; rfl, hbr⟩
set_option maxHeartbeats 1000000 in
theorem anyNeed_c (S : Nat → Prop) (v : Value) (xs : List NeedD) (w : World) (hv : RowIn shNeed S w v xs) (hB : ∀ b, S b → b < w.heap.size) (hw : ∀ d ∈ xs, d.r.size ≤ 1048576) (hT : Tabs w) :
    Calls Tryz.prog 170 #[v, .func (.func 171) #[] #[]] w fun e w' => e = .returned (.bool (xs.any (fun d => !needB d))) ∧ Below w.heap.size w w' := by
  have HF := idxNeed_c S v xs w hv hB hw hT
  have hA := firstI_any (fun d => !needB d) xs
  obtain ⟨R, hR⟩ : ∃ R, R = firstI (fun d => !needB d) xs := ⟨_, rfl⟩
  rw [← hR] at HF hA
  rw [← hA]
  have HF2 := hidden HF
  obtain ⟨a, cap, rfl⟩ := hv.slice
  clear hv hR hA HF
  by_cases h0 : 0 ≤ R
  · rw [decide_eq_true h0]
    go_enter Tryz.func170, Tryz.ntmps170
    go_wp2_with (go_at_call 209; refine HF2.out.mono ?_; rintro e w1 ⟨rfl, b1⟩)
    go_ret
    exact ⟨by first | rfl | simp [h0] | (simp; omega), b1⟩
  · rw [decide_eq_false h0]
    go_enter Tryz.func170, Tryz.ntmps170
    go_wp2_with (go_at_call 209; refine HF2.out.mono ?_; rintro e w1 ⟨rfl, b1⟩)
    go_ret
    exact ⟨by first | rfl | simp [h0] | (simp; omega), b1⟩

set_option maxHeartbeats 2000000 in
set_option maxRecDepth 100000 in
theorem needOk_c (S : Nat → Prop) (v : Value) (xs : List NeedD) (w : World) (hv : RowIn shNeed S w v xs) (hB : ∀ b, S b → b < w.heap.size) (hw : ∀ d ∈ xs, d.r.size ≤ 1048576) (hT : Tabs w) :
    Calls Tryz.prog 113 #[v] w fun e w' => e = .returned (.bool (needsI xs)) ∧ Below w.heap.size w w' := by
  have HA : ∀ w1, Below w.heap.size w w1 → Calls Tryz.prog 170 #[v, .func (.func 171) #[] #[]] w1 fun e w' => e = .returned (.bool (xs.any (fun d => !needB d))) ∧ Below w1.heap.size w1 w' := fun w1 h => anyNeed_c S v xs w1 (hv.keep (.of h hB)) (fun b hb => Nat.lt_of_lt_of_le (hB b hb) h.size) hw (hT.below h)
  have HC : ∀ w1, Below w.heap.size w w1 → Calls Tryz.prog 172 #[v, .func (.func 173) #[] #[]] w1 fun e w' => e = .returned (.bool (ascB (xs.map NeedD.n))) ∧ Below w1.heap.size w1 w' := fun w1 h => ascNeed_c S v xs w1 (hv.keep (.of h hB)) (fun b hb => Nat.lt_of_lt_of_le (hB b hb) h.size)
  unfold needsI
  obtain ⟨p, hp⟩ : ∃ p, p = xs.any (fun d => !needB d) := ⟨_, rfl⟩
  obtain ⟨q, hq⟩ : ∃ q, q = ascB (xs.map NeedD.n) := ⟨_, rfl⟩
  simp only [← hp] at HA ⊢
  simp only [← hq] at HC ⊢
  replace HA := hidden HA
  replace HC := hidden HC
  have hl := hv.len
  obtain ⟨a, cap, rfl⟩ := hv.slice
  unfold maxLen at hl
  clear hv hp hq
  by_cases h4 : 4 < xs.length
  · have h4' : (4 : Int) < (xs.length : Int) := by omega
    rw [decide_eq_true h4]
    go_enter Tryz.func113, Tryz.ntmps113
    go_wp2_with fail
    go_ret
    exact ⟨rfl, Below.refl _ _⟩
  · have h4' : ¬ (4 : Int) < (xs.length : Int) := by omega
    rw [decide_eq_false h4]
    cases p with
    | true =>
      go_enter Tryz.func113, Tryz.ntmps113
      go_wp2_with fail
      go_at_call 170
      refine (HA.out _ (Below.refl _ _)).mono ?_
      rintro e w1 ⟨rfl, b1⟩
      go_wp2_with fail
      go_ret
      exact ⟨rfl, b1⟩
    | false =>
      go_enter Tryz.func113, Tryz.ntmps113
      go_wp2_with fail
      go_at_call 170
      refine (HA.out _ (Below.refl _ _)).mono ?_
      rintro e w1 ⟨rfl, b1⟩
      go_wp2_with fail
      go_at_call 172
      refine (HC.out _ b1).mono ?_
      rintro e w2 ⟨rfl, b2⟩
      go_wp2_with fail
      go_ret
      exact ⟨by cases q <;> rfl, below_next b1 b2⟩

end Go.Proofs.YtkijckpkojcdcaaGreatDoor

/-! Needs and commands, and rows of them, that are the same are told so by the law's own comparison: contracts for what lies in memory and holds at most 2 to the 20. -/
namespace Go.Proofs.YtkijckpkojcdcaaGreatDoor
open Go.RowKit
set_option linter.unusedSimpArgs false
set_option linter.unusedVariables false

theorem boxTwo {w w1 : World} {A R : Obj} (hb : Below ((w.alloc A).alloc R).heap.size ((w.alloc A).alloc R) w1) : w1.heap[w.heap.size]? = some A ∧ w1.heap[w.heap.size + 1]? = some R := by
  have s1 : (w.alloc A).heap.size = w.heap.size + 1 := by simp
  refine ⟨?_, ?_⟩
  · rw [hb.block _ (by simp; omega), vheap_old _ _ (by simp), vheap_new]
  · rw [hb.block _ (by simp), ← s1, vheap_new]

set_option maxHeartbeats 2000000 in
set_option maxRecDepth 100000 in
theorem eqNeed_c (S S' : Nat → Prop) (d : NeedD) (cs cs' : List Value) (w : World) (hd : shNeed.lies S w cs d) (hd' : shNeed.lies S' w cs' d) (hB : ∀ b, S b → b < w.heap.size) (hB' : ∀ b, S' b → b < w.heap.size) (hw : wtNeed d ≤ 1048576) :
    Calls Tryz.prog 187 #[.agg cs.toArray, .agg cs'.toArray] w fun e w' => e = .returned (.bool true) ∧ Below w.heap.size w w' := by
  obtain ⟨rfl, xs_n, xs_r⟩ := hd
  obtain ⟨rfl, ys_n, ys_r⟩ := hd'
  have hb2 : ∀ A R, Below w.heap.size w ((w.alloc A).alloc R) := fun A R => ((Below.refl _ _).alloc (Nat.le_refl _) _).alloc (by simp) _
  unfold wtNeed at hw
  go_enter Tryz.func187, Tryz.ntmps187
  go_wp2_with fail
  go_ret
  exact ⟨rfl, (hb2 _ _)⟩

set_option maxHeartbeats 2000000 in
set_option maxRecDepth 100000 in
theorem eqNeedS_c (S S' : Nat → Prop) (v u : Value) (xs : List NeedD) (w : World) (hv : RowIn shNeed S w v xs) (hv' : RowIn shNeed S' w u xs) (hB : ∀ b, S b → b < w.heap.size) (hB' : ∀ b, S' b → b < w.heap.size) (hw : wtRow wtNeed xs ≤ 1048576) :
    Calls Tryz.prog 135 #[v, u] w fun e w' => e = .returned (.bool true) ∧ Below w.heap.size w w' := by
  obtain ⟨a, cap, rfl, hl, hc, ha⟩ := hv
  obtain ⟨a', cap', rfl, _, hc', ha'⟩ := hv'
  unfold maxLen at hl
  go_enter Tryz.func135, Tryz.ntmps135
  go_wp2_with fail
  go_loopw [5] (fun vi wr => ∃ k : Nat, k ≤ xs.length ∧ vi = .int .i64 (k : Int) ∧ Below w.heap.size w wr) (fun vi _ => xs.length - (intOf vi).toNat)
  case atStart => exact ⟨0, Nat.zero_le _, rfl, Below.refl _ _⟩
  case round =>
    obtain ⟨k, hk, rfl, hbr⟩ := hrel
    by_cases hlt' : k < xs.length
    · rcases ha with rfl | ⟨b, off, rfl, hlt, ha⟩
      · simp at hlt'
      rcases ha' with rfl | ⟨b', off', rfl, hlt3, ha'⟩
      · simp at hlt'
      obtain ⟨cs, hL, hcell⟩ := ha k hlt'
      obtain ⟨cs', hL', hcell'⟩ := ha' k hlt'
      have hwt : wtNeed xs[k] ≤ 1048576 := by have := wt_wtRow wtNeed (List.getElem_mem hlt'); omega
      have HC := eqNeed_c S S' xs[k] cs cs' wr.drew (shNeed.keep (.of hbr.drew hB) hL) (shNeed.keep (.of hbr.drew hB') hL') (fun b h => Nat.lt_of_lt_of_le (hB b h) hbr.size) (fun b h => Nat.lt_of_lt_of_le (hB' b h) hbr.size) hwt
      replace hL := shNeed.keep (.of hbr hB) hL
      replace hL' := shNeed.keep (.of hbr hB') hL'
      replace hcell := hcell.keep (.of hbr hB) hlt
      replace hcell' := hcell'.keep (.of hbr hB') hlt3
      obtain ⟨d, hd⟩ : ∃ d, d = xs[k] := ⟨_, rfl⟩
      rw [← hd] at hL hL' hwt
      clear ha ha' hd
      obtain ⟨rfl, xs_n, xs_r⟩ := hL
      obtain ⟨rfl, ys_n, ys_r⟩ := hL'
      clear xs_n xs_r ys_n ys_r
      have xv0 : wr.cell? ⟨b, off + k * 2, none⟩ = some (.string d.n) := hcell 0 (by simp)
      have xv1 : wr.cell? ⟨b, off + k * 2 + 1, none⟩ = some (.string d.r) := hcell 1 (by simp)
      have yv0 : wr.cell? ⟨b', off' + k * 2, none⟩ = some (.string d.n) := hcell' 0 (by simp)
      have yv1 : wr.cell? ⟨b', off' + k * 2 + 1, none⟩ = some (.string d.r) := hcell' 1 (by simp)
      have HC2 := hidden HC
      have hki : (k : Int) < (xs.length : Int) := by omega
      clear hcell hcell' HC hwt
      go_wp2_with fail
      go_region_with (go_at_call 187; refine HC2.out.mono ?_; rintro e w2 ⟨rfl, hb2⟩)
      all_goals go_wp2_with fail
      all_goals go_roundw
      all_goals first
        | exact ⟨k + 1, by omega, by go_num, hbr.drew.trans (hb2.mono hbr.size)⟩
        | (simp [intOf]; omega)
    · have he : k = xs.length := by omega
      subst he
      clear ha ha'
      go_wp2_with fail
      go_ret
      exact ⟨rfl, hbr⟩

end Go.Proofs.YtkijckpkojcdcaaGreatDoor

/-! Whether a need takes a version: the answers of the program and of the specification are one function of what is told; conditions: the version lies in memory, nothing holds more than 2 to the 20, and the table of signs holds what it is laid with. -/
namespace Go.Proofs.YtkijckpkojcdcaaGreatDoor
open Go.RowKit
set_option linter.unusedSimpArgs false
set_option linter.unusedVariables false

def mayB (r : ByteArray) (a b c : Int) (ps : List ByteArray) : Bool := (rangeI r).isSome && inRB a b c ps ((rangeI r).getD [])

set_option maxHeartbeats 2000000 in
set_option maxRecDepth 100000 in
theorem implMay_c (n r : ByteArray) (a b c : Int) (u : Value) (ps : List ByteArray) (w : World) (hr : r.size ≤ 1048576) (hu : Reads w u (strsV ps)) (hb : bulkS ps ≤ 1048576) (hT : Tabs w) :
    Calls Tryz.prog 18 #[.agg #[.string n, .string r], .agg #[.int .i64 a, .int .i64 b, .int .i64 c, u]] w fun e w' => e = .returned (.bool (mayB r a b c ps)) ∧ Below w.heap.size w w' := by
  have hb2 : ∀ A R, Below w.heap.size w ((w.alloc A).alloc R) := fun A R => ((Below.refl _ _).alloc (Nat.le_refl _) _).alloc (by simp) _
  have HR : ∀ w1, Below w.heap.size w w1 → Calls Tryz.prog 54 #[.string r] w1 fun e w' => ∃ v, e = .returned (.tuple #[v, .bool (rangeI r).isSome]) ∧ RangeOwn w1.heap.size w' v ((rangeI r).getD []) ∧ Below w1.heap.size w1 w' := fun w1 h => by
    obtain ⟨m, h1, h2⟩ := hT.below h
    exact implRange_c r hr m w1 h1 h2
  obtain ⟨hr1, hr2, hr3⟩ := range_small r
  have hwt := range_weight r
  have HI : ∀ w1 lo v, Below w.heap.size w w1 → RangeOwn lo w1 v ((rangeI r).getD []) → Calls Tryz.prog 55 #[v, .agg #[.int .i64 a, .int .i64 b, .int .i64 c, u]] w1 fun e w' => e = .returned (.bool (inRB a b c ps ((rangeI r).getD []))) ∧ Below w1.heap.size w1 w' := fun w1 lo v h ho =>
    implInRange_c (Ow lo w1.heap.size) v _ a b c u ps w1 (ho.rangeIn hr1 hr2 (fun ds h1 d h2 => by have := hr3 ds h1 d h2; omega)) (fun b h => h.2) hwt (hu.below h) hb
  unfold mayB
  obtain ⟨ok, hok⟩ : ∃ o, o = (rangeI r).isSome := ⟨_, rfl⟩
  obtain ⟨dss, hd⟩ : ∃ d, d = (rangeI r).getD [] := ⟨_, rfl⟩
  obtain ⟨R, hR⟩ : ∃ R, R = inRB a b c ps dss := ⟨_, rfl⟩
  simp only [← hok, ← hd] at HR
  simp only [← hd, ← hR] at HI
  rw [← hok, ← hd, ← hR]
  replace HR := hidden HR
  replace HI := hidden HI
  obtain ⟨q, cap, rfl, _, _⟩ := reads_strs hu
  clear hok hd hR hu hr1 hr2 hr3 hwt hT
  cases ok with
  | false =>
    go_enter Tryz.func18, Tryz.ntmps18
    go_wp2_with fail
    go_at_call 54
    refine (HR.out _ (hb2 _ _)).mono ?_
    rintro e w1 ⟨v, rfl, O1, b1⟩
    obtain ⟨q1, c1, rfl⟩ := O1.slice
    go_wp2_with fail
    go_ret
    exact ⟨rfl, (hb2 _ _).trans (b1.mono (hb2 _ _).size)⟩
  | true =>
    go_enter Tryz.func18, Tryz.ntmps18
    go_wp2_with fail
    go_at_call 54
    refine (HR.out _ (hb2 _ _)).mono ?_
    rintro e w1 ⟨v, rfl, O1, b1⟩
    obtain ⟨q1, c1, rfl⟩ := O1.slice
    have k1 := (hb2 _ _).trans (b1.mono (hb2 _ _).size)
    obtain ⟨hA1, hR1⟩ := boxTwo b1
    have x0 := vblk_cell hR1 0
    have x1 := vblk_cell hR1 1
    have x2 := vblk_cell hR1 2
    have x3 := vblk_cell hR1 3
    simp only [List.getElem?_toArray, List.getElem?_cons_succ, List.getElem?_cons_zero] at x0 x1 x2 x3
    go_wp2_with fail
    go_at_call 55
    refine (HI.out _ _ _ k1 O1).mono ?_
    rintro e w2 ⟨rfl, b2⟩
    go_wp2_with fail
    go_ret
    exact ⟨by cases R <;> rfl, k1.trans (b2.mono k1.size)⟩

set_option maxHeartbeats 2000000 in
set_option maxRecDepth 100000 in
theorem specMay_c (n r : ByteArray) (a b c : Int) (u : Value) (ps : List ByteArray) (w : World) (hr : r.size ≤ 1048576) (hu : Reads w u (strsV ps)) (hb : bulkS ps ≤ 1048576) :
    Calls Tryz.prog 19 #[.agg #[.string n, .string r], .agg #[.int .i64 a, .int .i64 b, .int .i64 c, u]] w fun e w' => e = .returned (.bool (mayB r a b c ps)) ∧ Below w.heap.size w w' := by
  have hb2 : ∀ A R, Below w.heap.size w ((w.alloc A).alloc R) := fun A R => ((Below.refl _ _).alloc (Nat.le_refl _) _).alloc (by simp) _
  have HR : ∀ w1, Below w.heap.size w w1 → Calls Tryz.prog 56 #[.string r] w1 fun e w' => ∃ v, e = .returned (.tuple #[v, .bool (rangeI r).isSome]) ∧ RangeOwn w1.heap.size w' v ((rangeI r).getD []) ∧ Below w1.heap.size w1 w' := fun w1 h => specRange_c r hr w1
  obtain ⟨hr1, hr2, hr3⟩ := range_small r
  have hwt := range_weight r
  have HI : ∀ w1 lo v, Below w.heap.size w w1 → RangeOwn lo w1 v ((rangeI r).getD []) → Calls Tryz.prog 57 #[v, .agg #[.int .i64 a, .int .i64 b, .int .i64 c, u]] w1 fun e w' => e = .returned (.bool (inRB a b c ps ((rangeI r).getD []))) ∧ Below w1.heap.size w1 w' := fun w1 lo v h ho =>
    specInRange_c (Ow lo w1.heap.size) v _ a b c u ps w1 (ho.rangeIn hr1 hr2 (fun ds h1 d h2 => by have := hr3 ds h1 d h2; omega)) (fun b h => h.2) hwt (hu.below h) hb
  unfold mayB
  obtain ⟨ok, hok⟩ : ∃ o, o = (rangeI r).isSome := ⟨_, rfl⟩
  obtain ⟨dss, hd⟩ : ∃ d, d = (rangeI r).getD [] := ⟨_, rfl⟩
  obtain ⟨R, hR⟩ : ∃ R, R = inRB a b c ps dss := ⟨_, rfl⟩
  simp only [← hok, ← hd] at HR
  simp only [← hd, ← hR] at HI
  rw [← hok, ← hd, ← hR]
  replace HR := hidden HR
  replace HI := hidden HI
  obtain ⟨q, cap, rfl, _, _⟩ := reads_strs hu
  clear hok hd hR hu hr1 hr2 hr3 hwt
  cases ok with
  | false =>
    go_enter Tryz.func19, Tryz.ntmps19
    go_wp2_with fail
    go_at_call 56
    refine (HR.out _ (hb2 _ _)).mono ?_
    rintro e w1 ⟨v, rfl, O1, b1⟩
    obtain ⟨q1, c1, rfl⟩ := O1.slice
    go_wp2_with fail
    go_ret
    exact ⟨rfl, (hb2 _ _).trans (b1.mono (hb2 _ _).size)⟩
  | true =>
    go_enter Tryz.func19, Tryz.ntmps19
    go_wp2_with fail
    go_at_call 56
    refine (HR.out _ (hb2 _ _)).mono ?_
    rintro e w1 ⟨v, rfl, O1, b1⟩
    obtain ⟨q1, c1, rfl⟩ := O1.slice
    have k1 := (hb2 _ _).trans (b1.mono (hb2 _ _).size)
    obtain ⟨hA1, hR1⟩ := boxTwo b1
    have x0 := vblk_cell hR1 0
    have x1 := vblk_cell hR1 1
    have x2 := vblk_cell hR1 2
    have x3 := vblk_cell hR1 3
    simp only [List.getElem?_toArray, List.getElem?_cons_succ, List.getElem?_cons_zero] at x0 x1 x2 x3
    go_wp2_with fail
    go_at_call 57
    refine (HI.out _ _ _ k1 O1).mono ?_
    rintro e w2 ⟨rfl, b2⟩
    go_wp2_with fail
    go_ret
    exact ⟨by cases R <;> rfl, k1.trans (b2.mono k1.size)⟩

end Go.Proofs.YtkijckpkojcdcaaGreatDoor

/-! How much needs hold, as the law counts it: contracts for the walks; conditions: at most 2 to the 20 is left to count. -/
namespace Go.Proofs.YtkijckpkojcdcaaGreatDoor
open Go.RowKit
set_option linter.unusedSimpArgs false
set_option linter.unusedVariables false

set_option maxHeartbeats 2000000 in
set_option maxRecDepth 100000 in
theorem szNeed_c (S : Nat → Prop) (d : NeedD) (cs : List Value) (left : Int) (h0 : 0 ≤ left) (h1 : left ≤ 1048576) (w : World) (hd : shNeed.lies S w cs d) (hB : ∀ b, S b → b < w.heap.size) :
    Calls Tryz.prog 30 #[.agg cs.toArray, .int .i64 left] w fun e w' => e = .returned (.int .i64 (leftW (wtNeed d) left)) ∧ Below w.heap.size w w' := by
  obtain ⟨rfl, s_n, s_r⟩ := hd
  unfold maxLen at s_n
  unfold maxLen at s_r
  have hbx : ∀ o, Below w.heap.size w (w.alloc o) := fun o => (Below.refl _ _).alloc (Nat.le_refl _) _
  obtain ⟨R, hR⟩ : ∃ R, R = leftW (wtNeed d) left := ⟨_, rfl⟩
  rw [← hR]
  have lt := lw (wtNeed d) left
  rw [← hR] at lt
  unfold wtNeed at lt
  clear hR
  by_cases n0 : (left - (d.n.size : Int)) < 0
  · have HR : Hid (R = -1) := by show _ = _; omega
    clear lt 
    go_enter Tryz.func30, Tryz.ntmps30
    go_wp2_with fail
    go_ret
    exact ⟨by rw [HR.out]; rfl, (hbx _)⟩
  by_cases n1 : ((left - (d.n.size : Int)) - (d.r.size : Int)) < 0
  · have HR : Hid (R = -1) := by show _ = _; omega
    clear lt 
    go_enter Tryz.func30, Tryz.ntmps30
    go_wp2_with fail
    go_ret
    exact ⟨by rw [HR.out]; rfl, (hbx _)⟩
  have HR : Hid (R = ((left - (d.n.size : Int)) - (d.r.size : Int))) := by show _ = _; omega
  clear lt 
  go_enter Tryz.func30, Tryz.ntmps30
  go_wp2_with fail
  go_ret
  exact ⟨by rw [HR.out]; rfl, (hbx _)⟩

set_option maxHeartbeats 2000000 in
set_option maxRecDepth 100000 in
theorem szNeedS_c (S : Nat → Prop) (v : Value) (xs : List NeedD) (left : Int) (h0 : 0 ≤ left) (h1 : left ≤ 1048576) (w : World) (hv : RowIn shNeed S w v xs) (hB : ∀ b, S b → b < w.heap.size) :
    Calls Tryz.prog 133 #[v, .int .i64 left] w fun e w' => e = .returned (.int .i64 (leftW (wtRow wtNeed xs) left)) ∧ Below w.heap.size w w' := by
  obtain ⟨a, cap, rfl, hl, hc, ha⟩ := hv
  unfold maxLen at hl
  by_cases hneg : left - (xs.length : Int) < 0
  · have e : leftW (wtRow wtNeed xs) left = -1 := leftW_bad (by have := len_wtRow wtNeed xs; omega)
    rw [e]
    clear ha
    go_enter Tryz.func133, Tryz.ntmps133
    go_wp2_with fail
    go_ret
    exact ⟨rfl, Below.refl _ _⟩
  · go_enter Tryz.func133, Tryz.ntmps133
    go_wp2_with fail
    go_loopw [1, 5] (fun vl vi wr => ∃ (k : Nat) (q : Int), k ≤ xs.length ∧ vi = .int .i64 (k : Int) ∧ vl = .int .i64 q ∧ 0 ≤ q ∧ q ≤ 1048576 ∧ Hid (q = left - (xs.length : Int) - (wtRow wtNeed (xs.take k) : Int) + (k : Int)) ∧ Below w.heap.size w wr) (fun _ vi _ => xs.length - (intOf vi).toNat)
    case atStart => exact ⟨0, _, Nat.zero_le _, rfl, rfl, by omega, by omega, by show _ = _; simp [wtRow], Below.refl _ _⟩
    case round =>
      obtain ⟨k, q, hk, rfl, rfl, hq0, hq1, hq, hbr⟩ := hrel
      by_cases hlt' : k < xs.length
      · rcases ha with rfl | ⟨b, off, rfl, hlt, ha⟩
        · simp at hlt'
        obtain ⟨cs, hL, hcell⟩ := ha k hlt'
        have hL2 := shNeed.keep (.of hbr hB) hL
        have hcell2 := hcell.keep (.of hbr hB) hlt
        have hBr : ∀ b, S b → b < wr.heap.size := fun b h => Nat.lt_of_lt_of_le (hB b h) hbr.size
        have hwt := wtRow_take wtNeed xs k hlt'
        have hsp := wtRow_split wtNeed xs (k + 1)
        have hln := len_wtRow wtNeed (xs.drop (k + 1))
        have hdl : (xs.drop (k + 1)).length = xs.length - (k + 1) := by simp
        obtain ⟨d, hd⟩ : ∃ d, d = xs[k] := ⟨_, rfl⟩
        rw [← hd] at hL2 hwt
        have HW : Hid (wtRow wtNeed (xs.take (k + 1)) = wtRow wtNeed (xs.take k) + (1 + wtNeed d)) := hwt
        have HSP : Hid (wtRow wtNeed xs = wtRow wtNeed (xs.take (k + 1)) + wtRow wtNeed (xs.drop (k + 1)) ∧ xs.length - (k + 1) ≤ wtRow wtNeed (xs.drop (k + 1))) := ⟨hsp, by omega⟩
        have hki : (k : Int) < (xs.length : Int) := by omega
        obtain ⟨p, hp⟩ : ∃ p, p = leftW (wtNeed d) q := ⟨_, rfl⟩
        have HP : Hid (p = leftW (wtNeed d) q) := hp
        have HC := szNeed_c S d cs q hq0 hq1 wr hL2 hBr
        rw [← hp] at HC
        clear hL hcell ha hwt hd hp hsp hln hdl
        obtain ⟨rfl, s_n, s_r⟩ := hL2
        clear s_n s_r
        have e0 : wr.cell? ⟨b, off + k * 2, none⟩ = some (.string d.n) := hcell2 0 (by simp)
        have e1 : wr.cell? ⟨b, off + k * 2 + 1, none⟩ = some (.string d.r) := hcell2 1 (by simp)
        have HC2 := hidden HC
        clear hcell2 HC
        by_cases hpn : p < 0
        · go_wp2_with (go_at_call 30; refine HC2.out.mono ?_; rintro e w1 ⟨rfl, hb1⟩)
          go_ret
          have e : leftW (wtRow wtNeed xs) left = -1 := by
            have h2 := HP.out; have h3 := hq.out; have h4 := HW.out; have h5 := HSP.out
            refine leftW_bad ?_
            by_cases h6 : ((wtNeed d : Nat) : Int) ≤ q
            · rw [leftW_good h6] at h2; omega
            · omega
          exact ⟨by rw [e]; rfl, hbr.trans (hb1.mono hbr.size)⟩
        · go_wp2_with (go_at_call 30; refine HC2.out.mono ?_; rintro e w1 ⟨rfl, hb1⟩)
          go_roundw
          case rel =>
            have h2 := HP.out; have h3 := hq.out; have h4 := HW.out
            have h6 : ((wtNeed d : Nat) : Int) ≤ q := by
              by_cases h6 : ((wtNeed d : Nat) : Int) ≤ q
              · exact h6
              · rw [leftW_bad (by omega)] at h2; omega
            rw [leftW_good h6] at h2
            exact ⟨k + 1, p, by omega, by go_num, rfl, by omega, by omega, (by show _ = _; omega), hbr.trans (hb1.mono hbr.size)⟩
          case measure => simp [intOf]; omega
      · have he : k = xs.length := by omega
        subst he
        clear ha
        go_wp2_with fail
        go_ret
        have e : leftW (wtRow wtNeed xs) left = q := by
          have h3 := hq.out
          rw [List.take_length] at h3
          rw [leftW_good (by omega)]; omega
        exact ⟨by rw [e]; rfl, hbr⟩

end Go.Proofs.YtkijckpkojcdcaaGreatDoor

/-! Copies of needs and commands, and of rows of them, in memory of their own, as the law makes them: contracts for the walks; condition: what is copied holds at most 2 to the 20. -/
namespace Go.Proofs.YtkijckpkojcdcaaGreatDoor
open Go.RowKit
set_option linter.unusedSimpArgs false
set_option linter.unusedVariables false

theorem owns_sliceP {w : World} {lo : Nat} {e : TypeId} {sz n : Nat} {v : Value} {xs : List Value} (hg : w.ownsRow lo e sz v n xs) : ∃ q cap, v = .slice q n cap := by
  rcases hg.2 with ⟨h1, h2⟩ | ⟨g, cap, cur, h1, _⟩
  · exact ⟨none, 0, by rw [h1, h2]⟩
  · exact ⟨_, _, h1⟩
theorem StrsOwn.slice {S : Nat → Prop} {w : World} {u : Value} {ss : List ByteArray} (h : StrsOwn S w u ss) : ∃ q cap, u = .slice q ss.length cap := owns_sliceP h.1
theorem RowOwn.slice {α : Type} {sh : Sh α} {t : TypeId} {S : Nat → Prop} {w : World} {v : Value} {xs : List α} (h : RowOwn sh t S w v xs) : ∃ q cap, v = .slice q xs.length cap := by
  obtain ⟨_, ys, h1, _⟩ := h; exact owns_sliceP h1

set_option maxHeartbeats 2000000 in
set_option maxRecDepth 100000 in
theorem toNeed_c (S : Nat → Prop) (d : NeedD) (cs : List Value) (w : World) (hd : shNeed.lies S w cs d) (hB : ∀ b, S b → b < w.heap.size) (hw : wtNeed d ≤ 1048576) :
    Calls Tryz.prog 32 #[.agg cs.toArray] w fun e w' => ∃ cs', e = .returned (.agg cs'.toArray) ∧ shNeed.lies (Ow w.heap.size w'.heap.size) w' cs' d ∧ Below w.heap.size w w' := by
  obtain ⟨rfl, s_n, s_r⟩ := hd
  have hb3 : ∀ A R O, Below w.heap.size w (((w.alloc A).alloc R).alloc O) := fun A R O => (((Below.refl _ _).alloc (Nat.le_refl _) _).alloc (by simp) _).alloc (by simp; omega) _
  go_enter Tryz.func32, Tryz.ntmps32
  go_wp2_with fail
  refine bodyPost_ret (v := .agg #[.string d.n, .string d.r]) (by simp [results, Tryz.results32, go_sem]) rfl ⟨_, rfl, ⟨rfl, s_n, s_r⟩, ?_⟩
  exact hb3 _ _ _

set_option maxHeartbeats 2000000 in
set_option maxRecDepth 100000 in
theorem infoNeed : (Tryz.prog.info? 39).map (fun i => (i.zero, i.size, i.bytes)) = some (some (.agg #[.string ⟨#[]⟩, .string ⟨#[]⟩]), 2, 32) := by kernel_rfl
set_option maxHeartbeats 2000000 in
set_option maxRecDepth 100000 in
theorem toNeedS_c (S : Nat → Prop) (v : Value) (xs : List NeedD) (w : World) (hv : RowIn shNeed S w v xs) (hB : ∀ b, S b → b < w.heap.size) (hw : wtRow wtNeed xs ≤ 1048576) :
    Calls Tryz.prog 134 #[v] w fun e w' => ∃ g, e = .returned (.slice (some ⟨g, 0, none⟩) xs.length xs.length) ∧ RowOwn shNeed 39 (Ow w.heap.size w'.heap.size) w' (.slice (some ⟨g, 0, none⟩) xs.length xs.length) xs ∧ Below w.heap.size w w' := by
  obtain ⟨a, cap, rfl, hl, hc, ha⟩ := hv
  have hn := len_wtRow wtNeed xs
  have hlm : xs.length ≤ maxLen := hl
  unfold maxLen at hl
  obtain ⟨i0, hi, hz0, hz1, hz2⟩ := info_parts infoNeed
  go_enter Tryz.func134, Tryz.ntmps134
  go_wp2_with (first
    | (at_make; refine wpList_make_full _ rfl _ _ 33 rfl w.heap.size 39 i0 _ 2 Tryz.underlying33 hi hz0 hz1 _ _ _ _ xs.length rfl rfl rfl rfl (by rw [hz2]; omega) (by unfold maxLen; omega) (Nat.le_refl _) ?_))
  intro w1 hown hgrow
  have hb1 := below_of_grown hgrow
  have hs1 : w.heap.size + 1 ≤ w1.heap.size := by
    rcases hown.2 with ⟨h, _⟩ | ⟨g, cap, cur, h, _, hg, _⟩
    · simp at h
    · simp at h
      have := (Array.getElem?_eq_some_iff.1 hg).1
      omega
  obtain ⟨ys1, hown1⟩ : ∃ ys, w1.ownsRow w.heap.size 39 2 (.slice (some ⟨w.heap.size, 0, none⟩) xs.length xs.length) xs.length ys := ⟨_, hown⟩
  clear hgrow hown
  go_wp2_with fail
  go_loopw [4] (fun vi wr => ∃ (k : Nat) (ys : List Value), k ≤ xs.length ∧ vi = .int .i64 (k : Int) ∧ wr.ownsRow w.heap.size 39 2 (.slice (some ⟨w.heap.size, 0, none⟩) xs.length xs.length) xs.length ys ∧ Hid (Laid shNeed (Ow (w.heap.size + 1) wr.heap.size) wr ys xs k) ∧ Below w.heap.size w wr ∧ w.heap.size + 1 ≤ wr.heap.size) (fun vi _ => xs.length - (intOf vi).toNat)
  case atStart => exact ⟨0, ys1, Nat.zero_le _, rfl, hown1, (fun i h h0 => by omega), hb1, hs1⟩
  case round =>
    obtain ⟨k, ys, hk, rfl, hownr, hy, hbr, hsr⟩ := hrel
    by_cases hlt' : k < xs.length
    · rcases ha with rfl | ⟨b, off, rfl, hlt, ha⟩
      · simp at hlt'
      obtain ⟨cs, hL, hcell⟩ := ha k hlt'
      have hL2 := shNeed.keep (.of hbr hB) hL
      have hcell2 := hcell.keep (.of hbr hB) hlt
      have hBr : ∀ b, S b → b < wr.heap.size := fun b h => Nat.lt_of_lt_of_le (hB b h) hbr.size
      have hwt : wtNeed xs[k] ≤ 1048576 := by have := wt_wtRow wtNeed (List.getElem_mem hlt'); omega
      have hown2 : ∀ w2, Below wr.heap.size wr w2 → w2.ownsRow w.heap.size 39 2 (.slice (some ⟨w.heap.size, 0, none⟩) xs.length xs.length) xs.length ys := fun w2 h2 => hownr.kept (grown_of_below h2 none) (by simp [Value.ownBlock])
      have hlen := hownr.1
      have HC : Hid (∀ w2, Below wr.heap.size wr w2 → ∀ j, j < 2 → ∃ x, w2.cell? ⟨w.heap.size, k * 2 + j, none⟩ = some x) := fun w2 h2 j hj => ⟨ys.getD (k * 2 + j) undef, by rw [(hown2 w2 h2).cellAt _ (by omega)]; simp [List.getD_eq_getElem?_getD, show k * 2 + j < ys.length by omega]⟩
      have HF : Hid (∀ w2, Below wr.heap.size wr w2 → ∀ j, w2.frozen? ⟨w.heap.size, j, none⟩ = false) := fun w2 h2 j => (hown2 w2 h2).frozenAt j
      have HO : Hid (∀ w2, Below wr.heap.size wr w2 → w2.ownsRow w.heap.size 39 2 (.slice (some ⟨w.heap.size, 0, none⟩) xs.length xs.length) xs.length ys) := hown2
      have HST : Hid (∀ w2 cs, Below wr.heap.size wr w2 → cs.length = 2 → shNeed.lies (Ow (w.heap.size + 1) w2.heap.size) w2 cs xs[k] → Laid shNeed (Ow (w.heap.size + 1) (setW w2 w.heap.size (k * 2) cs).heap.size) (setW w2 w.heap.size (k * 2) cs) (putL ys (k * 2) cs) xs (k + 1)) := fun w2 cs h2 hc hr => hy.out.step (sh := shNeed) hlt' hlen h2 (by omega) hc hr
      obtain ⟨d, hd⟩ : ∃ d, d = xs[k] := ⟨_, rfl⟩
      rw [← hd] at hL2 hwt HST
      have HC1 := toNeed_c S d cs wr hL2 hBr hwt
      clear ha hL hcell hd hown2 hi hz0 hz1 hz2 hown1 hb1 hlen hwt
      obtain ⟨rfl, s_n, s_r⟩ := hL2
      clear s_n s_r
      have e0 : wr.cell? ⟨b, off + k * 2, none⟩ = some (.string d.n) := hcell2 0 (by simp)
      have e1 : wr.cell? ⟨b, off + k * 2 + 1, none⟩ = some (.string d.r) := hcell2 1 (by simp)
      have HC2 := hidden HC1
      have hki : (k : Int) < (xs.length : Int) := by omega
      clear hcell2 HC1
      go_wp2_with (go_at_call 32; refine HC2.out.mono ?_; rintro e w2 ⟨cs, rfl, hX, hb2⟩; have HX := hidden (HST.out w2 cs hb2 (by have h := hX; obtain ⟨h9, s_n, s_r⟩ := h; rw [h9]; rfl) (shNeed.mono (Ow.mono hsr (Nat.le_refl _)) hX)); obtain ⟨rfl, s_n, s_r⟩ := hX; obtain ⟨y0, d0⟩ := HC.out w2 hb2 0 (by omega); obtain ⟨y1, d1⟩ := HC.out w2 hb2 1 (by omega); rw [Nat.add_zero] at d0; have f9 := HF.out w2 hb2)
      go_roundw
      case rel =>
        refine ⟨k + 1, _, by omega, by go_num, setW_owns [.string d.n, .string d.r] w2 ys (k * 2) (HO.out w2 hb2), HX.out, setW_below (Nat.le_refl _) [.string d.n, .string d.r] w2 w (k * 2) (hbr.trans (hb2.mono hbr.size)), ?_⟩
        have h9 := setW_size [.string d.n, .string d.r] w2 w.heap.size (k * 2)
        have := hb2.size
        exact Nat.le_trans (show w.heap.size + 1 ≤ w2.heap.size by omega) (Nat.le_of_eq h9.symm)
      case measure => simp [intOf]; omega
    · have he : k = xs.length := by omega
      subst he
      clear ha
      go_wp2_with fail
      go_ret
      exact ⟨_, rfl, rowOwn_of hownr hlm hy.out, hbr⟩

end Go.Proofs.YtkijckpkojcdcaaGreatDoor

/-! The law on needs that take a version, walked: the program and the specification answer alike, and nothing is written into the version; conditions: what comes in lies in memory, and the table of signs holds what it is laid with. -/
namespace Go.Proofs.YtkijckpkojcdcaaGreatDoor
open Go.RowKit
set_option linter.unusedSimpArgs false
set_option linter.unusedVariables false

/-- The boxes of the two arguments. -/
def BxT (N : Nat) (n r : ByteArray) (a b c : Int) (u : Value) (w1 : World) : Prop := w1.heap[N]? = some (.cells #[.string n, .string r] 59 (0, 0)) ∧ w1.heap[N + 1]? = some (.cells #[.int .i64 a, .int .i64 b, .int .i64 c, u] 60 (0, 0))
theorem BxT.keep {N : Nat} {n r : ByteArray} {a b c : Int} {u : Value} {w1 w2 : World} (h : BxT N n r a b c u w1) (k : Below w1.heap.size w1 w2) : BxT N n r a b c u w2 :=
  ⟨(k.block _ (Array.getElem?_eq_some_iff.1 h.1).1).trans h.1, (k.block _ (Array.getElem?_eq_some_iff.1 h.2).1).trans h.2⟩
theorem BxT.drew {N : Nat} {n r : ByteArray} {a b c : Int} {u : Value} {w1 : World} (h : BxT N n r a b c u w1) : BxT N n r a b c u w1.drew := h
theorem BxT.six {N : Nat} {n r : ByteArray} {a b c : Int} {u : Value} {w1 : World} (h : BxT N n r a b c u w1) : w1.cell? ⟨N, 0, none⟩ = some (.string n) ∧ w1.cell? ⟨N, 1, none⟩ = some (.string r) ∧ w1.cell? ⟨N + 1, 0, none⟩ = some (.int .i64 a) ∧ w1.cell? ⟨N + 1, 1, none⟩ = some (.int .i64 b) ∧ w1.cell? ⟨N + 1, 2, none⟩ = some (.int .i64 c) ∧ w1.cell? ⟨N + 1, 3, none⟩ = some u :=
  ⟨vblk_cell h.1 0, vblk_cell h.1 1, vblk_cell h.2 0, vblk_cell h.2 1, vblk_cell h.2 2, vblk_cell h.2 3⟩

set_option maxHeartbeats 4000000 in
set_option maxRecDepth 100000 in
theorem mayTake_walk (b0 : List Value) (z0 : NeedD) (xa1 xb1 xc1 : Int) (u1 : Value) (z1 : List ByteArray) (w : World) (r0 : shNeed.lies (· < w.heap.size) w b0 z0) (r1 : Reads w u1 (strsV z1)) (s1 : saneP z1) (hT : Tabs w) :
    Calls Tryz.prog 6 #[.agg b0.toArray, .agg #[.int .i64 xa1, .int .i64 xb1, .int .i64 xc1, u1]] w fun e w' => e = .returned (.bool true) ∧ Below w.heap.size w w' := by
  have hb2 : ∀ A R, Below w.heap.size w ((w.alloc A).alloc R) := fun A R => ((Below.refl _ _).alloc (Nat.le_refl _) _).alloc (by simp) _
  have hN : ∀ w1, shNeed.lies (· < w1.heap.size) w1 b0 z0 := fun w1 => by obtain ⟨h0, h1, h2⟩ := r0; exact ⟨h0, h1, h2⟩
  have HZ0 : Hid (∀ w1, Calls Tryz.prog 30 #[.agg b0.toArray, .int .i64 1048576] w1 fun e w' => e = .returned (.int .i64 (leftW (wtNeed z0) 1048576)) ∧ Below w1.heap.size w1 w') := fun w1 => szNeed_c _ z0 b0 _ (by omega) (by omega) w1 (hN w1) (fun b h => h)
  have HZ1 : Hid (∀ p, 0 ≤ p → p ≤ 1048576 → ∀ w1, Below w.heap.size w w1 → Calls Tryz.prog 31 #[.agg #[.int .i64 xa1, .int .i64 xb1, .int .i64 xc1, u1], .int .i64 p] w1 fun e w' => e = .returned (.int .i64 (leftS z1 p)) ∧ Below w1.heap.size w1 w') := fun p h0 h1 w1 hw => szVer_c _ _ _ _ z1 _ h0 h1 w1 (r1.below hw) s1
  have hr1 : ∀ w1, Below w.heap.size w w1 → Reads w1 u1 (strsV z1) := fun w1 h => r1.below h
  have HT0' : wtNeed z0 ≤ 1048576 → ∀ w1, Below w.heap.size w w1 → Calls Tryz.prog 32 #[.agg b0.toArray] w1 fun e w' => e = .returned (.agg #[.string z0.n, .string z0.r]) ∧ Below w1.heap.size w1 w' := fun hw w1 h => (toNeed_c _ z0 b0 w1 (hN w1) (fun b h => h) hw).mono fun e w' ⟨cs, h1, h2, h3⟩ => by
    obtain ⟨rfl, _, _⟩ := h2
    exact ⟨h1, h3⟩
  replace HT0' := hidden HT0'
  obtain ⟨rfl, s_n, s_r⟩ := r0
  obtain ⟨q1, cap1, hq1, _, _⟩ := reads_strs r1
  subst hq1
  have A0 : BxT w.heap.size z0.n z0.r xa1 xb1 xc1 (.slice q1 z1.length cap1) ((w.alloc (.cells #[.string z0.n, .string z0.r] 59)).alloc (.cells #[.int .i64 xa1, .int .i64 xb1, .int .i64 xc1, .slice q1 z1.length cap1] 60)) := boxTwo (Below.refl _ _)
  clear hN
  by_cases hbig : 1048576 < wtNeed z0
  · have e1 : leftW (wtNeed z0) 1048576 = -1 := leftW_bad (by omega)
    rw [e1] at HZ0
    clear e1 hr1 r1 HZ1 HT0'
    go_enter Tryz.func6, Tryz.ntmps6
    go_wp2_with (go_at_call 30; refine (HZ0.out _).mono ?_; rintro e w1 ⟨rfl, hb1⟩)
    go_ret
    exact ⟨rfl, (hb2 _ _).trans (hb1.mono (hb2 _ _).size)⟩
  have hwt : wtNeed z0 ≤ 1048576 := by omega
  have HT0 := hidden (HT0'.out hwt)
  have hrs : z0.r.size ≤ 1048576 := by unfold wtNeed at hwt; omega
  clear HT0'
  obtain ⟨p, hp⟩ : ∃ p, p = leftW (wtNeed z0) 1048576 := ⟨_, rfl⟩
  rw [← hp] at HZ0
  have hp1 : p ≤ 1048576 := by rw [hp, leftW_good (by omega)]; omega
  have hp0 : 0 ≤ p := by rw [hp, leftW_good (by omega)]; omega
  have HZ1 : Hid (∀ w1, Below w.heap.size w w1 → Calls Tryz.prog 31 #[.agg #[.int .i64 xa1, .int .i64 xb1, .int .i64 xc1, .slice q1 z1.length cap1], .int .i64 p] w1 fun e w' => e = .returned (.int .i64 (leftS z1 p)) ∧ Below w1.heap.size w1 w') := HZ1.out p hp0 hp1
  clear hp
  by_cases hbig1 : p < (bulkS z1 : Int)
  · have e1 : leftS z1 p = -1 := by rw [leftS, if_neg (by omega)]
    rw [e1] at HZ1
    clear e1 hr1 r1 HT0
    go_enter Tryz.func6, Tryz.ntmps6
    go_wp2_with fail
    go_at_call 30
    refine (HZ0.out _).mono ?_
    rintro e w1 ⟨rfl, hb1⟩
    have A1 := A0.keep hb1
    obtain ⟨x0, x1, x2, x3, x4, x5⟩ := A1.six
    have hw1 := (hb2 (.cells #[.string z0.n, .string z0.r] 59) (.cells #[.int .i64 xa1, .int .i64 xb1, .int .i64 xc1, .slice q1 z1.length cap1] 60)).trans (hb1.mono (hb2 _ _).size)
    go_wp2_with fail
    go_at_call 31
    refine (HZ1.out w1 hw1).mono ?_
    rintro e w2 ⟨rfl, hb3⟩
    go_wp2_with fail
    go_ret
    exact ⟨rfl, hw1.trans (hb3.mono hw1.size)⟩
  have hbk1 : bulkS z1 ≤ 1048576 := by omega
  have hn1 : z1.length ≤ 1048576 := by unfold bulkS at hbk1; omega
  obtain ⟨pp, hpp⟩ : ∃ pp, pp = leftS z1 p := ⟨_, rfl⟩
  rw [← hpp] at HZ1
  have hpp0 : 0 ≤ pp := by rw [hpp, leftS, if_pos (by omega)]; omega
  clear hpp
  have HT1 : Hid (∀ w1, Below w.heap.size w w1 → Calls Tryz.prog 33 #[.agg #[.int .i64 xa1, .int .i64 xb1, .int .i64 xc1, .slice q1 z1.length cap1]] w1 fun e w' => ∃ g, e = .returned (.agg #[.int .i64 xa1, .int .i64 xb1, .int .i64 xc1, .slice (some ⟨g, 0, none⟩) z1.length z1.length]) ∧ Reads w' (.slice (some ⟨g, 0, none⟩) z1.length z1.length) (strsV z1) ∧ Below w1.heap.size w1 w') := fun w1 h1 => toVer_c _ _ _ _ z1 w1 (hr1 w1 h1) hn1
  obtain ⟨RR, hRR⟩ : ∃ r, r = mayB z0.r xa1 xb1 xc1 z1 := ⟨_, rfl⟩
  have HR : Hid (∀ w1 g, Reads w1 (.slice (some ⟨g, 0, none⟩) z1.length z1.length) (strsV z1) → Calls Tryz.prog 19 #[.agg #[.string z0.n, .string z0.r], .agg #[.int .i64 xa1, .int .i64 xb1, .int .i64 xc1, .slice (some ⟨g, 0, none⟩) z1.length z1.length]] w1 fun e w' => e = .returned (.bool RR) ∧ Below w1.heap.size w1 w') := fun w1 g h => by rw [hRR]; exact specMay_c _ _ _ _ _ _ z1 w1 hrs h hbk1
  have HI : Hid (∀ w1 g, Below w.heap.size w w1 → Reads w1 (.slice (some ⟨g, 0, none⟩) z1.length z1.length) (strsV z1) → Calls Tryz.prog 18 #[.agg #[.string z0.n, .string z0.r], .agg #[.int .i64 xa1, .int .i64 xb1, .int .i64 xc1, .slice (some ⟨g, 0, none⟩) z1.length z1.length]] w1 fun e w' => e = .returned (.bool RR) ∧ Below w1.heap.size w1 w') := fun w1 g hb h => by rw [hRR]; exact implMay_c _ _ _ _ _ _ z1 w1 hrs h hbk1 (hT.below hb)
  have HE1 : Hid (∀ w1 g g', Reads w1 (.slice (some ⟨g, 0, none⟩) z1.length z1.length) (strsV z1) → Reads w1 (.slice (some ⟨g', 0, none⟩) z1.length z1.length) (strsV z1) → Calls Tryz.prog 34 #[.agg #[.int .i64 xa1, .int .i64 xb1, .int .i64 xc1, .slice (some ⟨g, 0, none⟩) z1.length z1.length], .agg #[.int .i64 xa1, .int .i64 xb1, .int .i64 xc1, .slice (some ⟨g', 0, none⟩) z1.length z1.length]] w1 fun e w' => e = .returned (.bool true) ∧ Below w1.heap.size w1 w') := fun w1 g g' h h' => eqVer_c _ _ _ _ _ z1 w1 h h' hn1
  clear hRR hr1 r1 hT
  go_enter Tryz.func6, Tryz.ntmps6
  go_wp2_with fail
  go_at_call 30
  refine (HZ0.out _).mono ?_
  rintro e w1 ⟨rfl, hb1⟩
  have A1 := A0.keep hb1
  obtain ⟨x0, x1, x2, x3, x4, x5⟩ := A1.six
  have hw1 := (hb2 (.cells #[.string z0.n, .string z0.r] 59) (.cells #[.int .i64 xa1, .int .i64 xb1, .int .i64 xc1, .slice q1 z1.length cap1] 60)).trans (hb1.mono (hb2 _ _).size)
  go_wp2_with fail
  go_at_call 31
  refine (HZ1.out w1 hw1).mono ?_
  rintro e w2 ⟨rfl, hb3⟩
  have A2 := A1.keep hb3
  have hw2 := hw1.trans (hb3.mono hw1.size)
  clear x0 x1 x2 x3 x4 x5 A0 A1 hb1 hb3 hw1 HZ0 HZ1
  go_wp2_with fail
  refine wp_region_held_drew (S := (fun w' => w'.cell? ⟨w.heap.size, 0, none⟩ = some (.string z0.n) ∧ w'.cell? ⟨w.heap.size, 1, none⟩ = some (.string z0.r) ∧ w'.cell? ⟨w.heap.size + 1, 0, none⟩ = some (.int .i64 xa1) ∧ w'.cell? ⟨w.heap.size + 1, 1, none⟩ = some (.int .i64 xb1) ∧ w'.cell? ⟨w.heap.size + 1, 2, none⟩ = some (.int .i64 xc1) ∧ w'.cell? ⟨w.heap.size + 1, 3, none⟩ = some (.slice q1 z1.length cap1))) (by kernel_rfl) ?SR10 (fun hHeld => ?_)
  case SR10 => (first | exact A2.drew.six | exact A3.six | exact A4.six | exact A5.six)
  refine wpAnyH_take (i := 0) (oi := _) (v := ?vR10) rfl (by kernel_rfl) (by kernel_rfl) (by kernel_rfl) (fun _ _ _ h => h) (Or.inl ⟨by rfl, ?yR10⟩) hHeld ?_
  case yR10 => (intro w hSw; (try dsimp only at hSw); go_simp <;> with_reducible rfl)
  try simp only [Act.put, List.getElem_toArray, List.getElem_cons_zero, List.getElem_cons_succ, List.setIfInBounds_toArray, List.set_cons_zero, List.set_cons_succ]
  refine wpAnyH_take (i := 2) (oi := _) (v := ?vR11) rfl (by kernel_rfl) (by kernel_rfl) (by kernel_rfl) (fun _ _ _ h => h) (Or.inl ⟨by rfl, ?yR11⟩) hHeld ?_
  case yR11 => (intro w hSw; (try dsimp only at hSw); go_simp <;> with_reducible rfl)
  try simp only [Act.put, List.getElem_toArray, List.getElem_cons_zero, List.getElem_cons_succ, List.setIfInBounds_toArray, List.set_cons_zero, List.set_cons_succ]
  refine wpAnyH_ready (rs := [1]) (by kernel_rfl) (by simp) ?_
  refine AllReadyH.cons rfl (fun K hK => ?_) AllReadyH.nil
  go_simp
  go_wp2_with (go_at_call 32; refine (HT0.out _ hw2.drew).mono ?_; rintro e w3 ⟨rfl, b3⟩; have A3 := A2.drew.keep b3; have hw3 := hw2.drew.trans (b3.mono hw2.size))
  clear hHeld
  refine hK.out _ _ ?SR13 (fun hHeld => ?_)
  case SR13 => ((try dsimp only); first | exact A2.drew.six | exact A3.six | exact A4.six | exact A5.six)
  clear hK K
  refine wpAnyH_ready (rs := [3]) (by kernel_rfl) (by simp) ?_
  refine AllReadyH.cons rfl (fun K hK => ?_) AllReadyH.nil
  go_simp
  go_wp2_with (go_at_call 33; refine (HT1.out _ hw3).mono ?_; rintro e w4 ⟨g4, rfl, hX4, b4⟩; have A4 := A3.keep b4; have hw4 := hw3.trans (b4.mono hw3.size))
  clear hHeld
  refine hK.out _ _ ?SR14 (fun hHeld => ?_)
  case SR14 => ((try dsimp only); first | exact A2.drew.six | exact A3.six | exact A4.six | exact A5.six)
  clear hK K
  refine wpAnyH_ready (rs := [4]) (by kernel_rfl) (by simp) ?_
  refine AllReadyH.cons rfl (fun K hK => ?_) AllReadyH.nil
  go_simp
  go_wp2_with (go_at_call 19; refine (HR.out w4 g4 hX4).mono ?_; rintro e w5 ⟨rfl, b5⟩; have A5 := A4.keep b5; have hw5 := hw4.trans (b5.mono hw4.size))
  clear hHeld
  refine hK.out _ _ ?SR15 (fun hHeld => ?_)
  case SR15 => ((try dsimp only); first | exact A2.drew.six | exact A3.six | exact A4.six | exact A5.six)
  clear hK K
  refine wpAnyH_take (i := 5) (oi := _) (v := ?vR15) rfl (by kernel_rfl) (by kernel_rfl) (by kernel_rfl) (fun _ _ _ h => h) (Or.inl ⟨by rfl, ?yR15⟩) hHeld ?_
  case yR15 => (intro w hSw; (try dsimp only at hSw); go_simp <;> with_reducible rfl)
  try simp only [Act.put, List.getElem_toArray, List.getElem_cons_zero, List.getElem_cons_succ, List.setIfInBounds_toArray, List.set_cons_zero, List.set_cons_succ]
  refine wpAnyH_done (by kernel_rfl) ?_ _
  clear hX4 b3 b4 b5 A2 A3 A4 HR hw2 hw3 hw4 hHeld
  obtain ⟨x0, x1, x2, x3, x4, x5⟩ := A5.six
  go_wp2_with fail
  go_at_call 33
  refine (HT1.out w5 hw5).mono ?_
  rintro e w6 ⟨g7, rfl, hX6, b6⟩
  have A6 := A5.keep b6
  have hw6 := hw5.trans (b6.mono hw5.size)
  have kB : Below w6.heap.size w6 (w6.alloc (.cells #[.int .i64 xa1, .int .i64 xb1, .int .i64 xc1, .slice (some ⟨g7, 0, none⟩) z1.length z1.length] 30)) := (Below.refl _ _).alloc (Nat.le_refl _) _
  have D7 := four_new w6 30 (.int .i64 xa1) (.int .i64 xb1) (.int .i64 xc1) (.slice (some ⟨g7, 0, none⟩) z1.length z1.length)
  have A7 := A6.keep kB
  have hX7 := hX6.below kB
  have hw7 := hw6.trans (kB.mono hw6.size)
  clear x0 x1 x2 x3 x4 x5 A5 A6 hX6 b6 hw5 kB
  go_wp2_with fail
  obtain ⟨N7, hN7⟩ : ∃ N7, N7 = w6.heap.size := ⟨_, rfl⟩
  obtain ⟨w7, hW7⟩ : ∃ w7, w7 = w6.alloc (.cells #[.int .i64 xa1, .int .i64 xb1, .int .i64 xc1, .slice (some ⟨g7, 0, none⟩) z1.length z1.length] 30) := ⟨_, rfl⟩
  rw [← hN7, ← hW7] at D7
  rw [← hW7] at A7 hX7 hw7
  rw [← hN7, ← hW7]
  clear hN7 hW7 hw6
  refine wp_region_held_drew (S := (fun w' => (w'.cell? ⟨w.heap.size, 0, none⟩ = some (.string z0.n) ∧ w'.cell? ⟨w.heap.size, 1, none⟩ = some (.string z0.r) ∧ w'.cell? ⟨w.heap.size + 1, 0, none⟩ = some (.int .i64 xa1) ∧ w'.cell? ⟨w.heap.size + 1, 1, none⟩ = some (.int .i64 xb1) ∧ w'.cell? ⟨w.heap.size + 1, 2, none⟩ = some (.int .i64 xc1) ∧ w'.cell? ⟨w.heap.size + 1, 3, none⟩ = some (.slice q1 z1.length cap1)) ∧ w'.cell? ⟨N7, 0, none⟩ = some (.int .i64 xa1) ∧ w'.cell? ⟨N7, 1, none⟩ = some (.int .i64 xb1) ∧ w'.cell? ⟨N7, 2, none⟩ = some (.int .i64 xc1) ∧ w'.cell? ⟨N7, 3, none⟩ = some (.slice (some ⟨g7, 0, none⟩) z1.length z1.length))) (by kernel_rfl) ?SR20 (fun hHeld => ?_)
  case SR20 => (first | exact ⟨A7.drew.six, D7.drew.cells⟩ | exact ⟨A8.six, D8.cells⟩ | exact ⟨A9.six, D9.cells⟩)
  refine wpAnyH_take (i := 0) (oi := _) (v := ?vR20) rfl (by kernel_rfl) (by kernel_rfl) (by kernel_rfl) (fun _ _ _ h => h) (Or.inl ⟨by rfl, ?yR20⟩) hHeld ?_
  case yR20 => (intro w hSw; (try dsimp only at hSw); go_simp <;> with_reducible rfl)
  try simp only [Act.put, List.getElem_toArray, List.getElem_cons_zero, List.getElem_cons_succ, List.setIfInBounds_toArray, List.set_cons_zero, List.set_cons_succ]
  refine wpAnyH_take (i := 2) (oi := _) (v := ?vR21) rfl (by kernel_rfl) (by kernel_rfl) (by kernel_rfl) (fun _ _ _ h => h) (Or.inl ⟨by rfl, ?yR21⟩) hHeld ?_
  case yR21 => (intro w hSw; (try dsimp only at hSw); go_simp <;> with_reducible rfl)
  try simp only [Act.put, List.getElem_toArray, List.getElem_cons_zero, List.getElem_cons_succ, List.setIfInBounds_toArray, List.set_cons_zero, List.set_cons_succ]
  refine wpAnyH_ready (rs := [1]) (by kernel_rfl) (by simp) ?_
  refine AllReadyH.cons rfl (fun K hK => ?_) AllReadyH.nil
  go_simp
  go_wp2_with (go_at_call 32; refine (HT0.out _ hw7.drew).mono ?_; rintro e w8 ⟨rfl, b8⟩; have A8 := A7.drew.keep b8; have D8 := D7.drew.keep b8; have hX8 := hX7.below ((Below.refl _ _).drew.trans (b8.mono (Nat.le_refl _))); have hw8 := hw7.drew.trans (b8.mono hw7.size))
  clear hHeld
  refine hK.out _ _ ?SR23 (fun hHeld => ?_)
  case SR23 => ((try dsimp only); first | exact ⟨A7.drew.six, D7.drew.cells⟩ | exact ⟨A8.six, D8.cells⟩ | exact ⟨A9.six, D9.cells⟩)
  clear hK K
  refine wpAnyH_ready (rs := [3]) (by kernel_rfl) (by simp) ?_
  refine AllReadyH.cons rfl (fun K hK => ?_) AllReadyH.nil
  go_simp
  go_wp2_with (go_at_call 18; refine (HI.out w8 g7 hw8 hX8).mono ?_; rintro e w9 ⟨rfl, b9⟩; have A9 := A8.keep b9; have D9 := D8.keep b9; have hX9 := hX8.below b9; have hw9 := hw8.trans (b9.mono hw8.size))
  clear hHeld
  refine hK.out _ _ ?SR24 (fun hHeld => ?_)
  case SR24 => ((try dsimp only); first | exact ⟨A7.drew.six, D7.drew.cells⟩ | exact ⟨A8.six, D8.cells⟩ | exact ⟨A9.six, D9.cells⟩)
  clear hK K
  refine wpAnyH_take (i := 4) (oi := _) (v := ?vR24) rfl (by kernel_rfl) (by kernel_rfl) (by kernel_rfl) (fun _ _ _ h => h) (Or.inl ⟨by rfl, ?yR24⟩) hHeld ?_
  case yR24 => (intro w hSw; (try dsimp only at hSw); go_simp <;> with_reducible rfl)
  try simp only [Act.put, List.getElem_toArray, List.getElem_cons_zero, List.getElem_cons_succ, List.setIfInBounds_toArray, List.set_cons_zero, List.set_cons_succ]
  refine wpAnyH_done (by kernel_rfl) ?_ _
  clear b8 b9 A7 D7 A8 D8 hX7 hX8 hw7 hw8 hHeld HT0 HI
  cases RR
  all_goals (
    go_wp2_with fail
    refine wp_region_held_drew (S := (fun w' => (w'.cell? ⟨w.heap.size, 0, none⟩ = some (.string z0.n) ∧ w'.cell? ⟨w.heap.size, 1, none⟩ = some (.string z0.r) ∧ w'.cell? ⟨w.heap.size + 1, 0, none⟩ = some (.int .i64 xa1) ∧ w'.cell? ⟨w.heap.size + 1, 1, none⟩ = some (.int .i64 xb1) ∧ w'.cell? ⟨w.heap.size + 1, 2, none⟩ = some (.int .i64 xc1) ∧ w'.cell? ⟨w.heap.size + 1, 3, none⟩ = some (.slice q1 z1.length cap1)) ∧ w'.cell? ⟨N7, 0, none⟩ = some (.int .i64 xa1) ∧ w'.cell? ⟨N7, 1, none⟩ = some (.int .i64 xb1) ∧ w'.cell? ⟨N7, 2, none⟩ = some (.int .i64 xc1) ∧ w'.cell? ⟨N7, 3, none⟩ = some (.slice (some ⟨g7, 0, none⟩) z1.length z1.length))) (by kernel_rfl) ?SR30 (fun hHeld => ?_)
    case SR30 => (first | exact ⟨A9.drew.six, D9.drew.cells⟩ | exact ⟨AA.six, DA.cells⟩ | exact ⟨AB.six, DB.cells⟩)
    refine wpAnyH_take (i := 0) (oi := _) (v := ?vR30) rfl (by kernel_rfl) (by kernel_rfl) (by kernel_rfl) (fun _ _ _ h => h) (Or.inl ⟨by rfl, ?yR30⟩) hHeld ?_
    case yR30 => (intro w hSw; (try dsimp only at hSw); go_simp <;> with_reducible rfl)
    try simp only [Act.put, List.getElem_toArray, List.getElem_cons_zero, List.getElem_cons_succ, List.setIfInBounds_toArray, List.set_cons_zero, List.set_cons_succ]
    refine wpAnyH_take (i := 1) (oi := _) (v := ?vR31) rfl (by kernel_rfl) (by kernel_rfl) (by kernel_rfl) (fun _ _ _ h => h) (Or.inl ⟨by rfl, ?yR31⟩) hHeld ?_
    case yR31 => (intro w hSw; (try dsimp only at hSw); go_simp <;> with_reducible rfl)
    try simp only [Act.put, List.getElem_toArray, List.getElem_cons_zero, List.getElem_cons_succ, List.setIfInBounds_toArray, List.set_cons_zero, List.set_cons_succ]
    refine wpAnyH_ready (rs := [2]) (by kernel_rfl) (by simp) ?_
    refine AllReadyH.cons rfl (fun K hK => ?_) AllReadyH.nil
    go_simp
    go_wp2_with (go_at_call 33; refine (HT1.out _ hw9.drew).mono ?_; rintro e wA ⟨gA, rfl, hXA, bA⟩; have AA := A9.drew.keep bA; have DA := D9.drew.keep bA; have hX7A := hX9.below ((Below.refl _ _).drew.trans (bA.mono (Nat.le_refl _))); have hwA := hw9.drew.trans (bA.mono hw9.size))
    clear hHeld
    refine hK.out _ _ ?SR33 (fun hHeld => ?_)
    case SR33 => ((try dsimp only); first | exact ⟨A9.drew.six, D9.drew.cells⟩ | exact ⟨AA.six, DA.cells⟩ | exact ⟨AB.six, DB.cells⟩)
    clear hK K
    refine wpAnyH_ready (rs := [3]) (by kernel_rfl) (by simp) ?_
    refine AllReadyH.cons rfl (fun K hK => ?_) AllReadyH.nil
    go_simp
    go_wp2_with (go_at_call 34; refine (HE1.out wA g7 gA hX7A hXA).mono ?_; rintro e wB ⟨rfl, bB⟩; have AB := AA.keep bB; have DB := DA.keep bB; have hwB := hwA.trans (bB.mono hwA.size))
    clear hHeld
    refine hK.out _ _ ?SR34 (fun hHeld => ?_)
    case SR34 => ((try dsimp only); first | exact ⟨A9.drew.six, D9.drew.cells⟩ | exact ⟨AA.six, DA.cells⟩ | exact ⟨AB.six, DB.cells⟩)
    clear hK K
    refine wpAnyH_take (i := 4) (oi := _) (v := ?vR34) rfl (by kernel_rfl) (by kernel_rfl) (by kernel_rfl) (fun _ _ _ h => h) (Or.inl ⟨by rfl, ?yR34⟩) hHeld ?_
    case yR34 => (intro w hSw; (try dsimp only at hSw); go_simp <;> with_reducible rfl)
    try simp only [Act.put, List.getElem_toArray, List.getElem_cons_zero, List.getElem_cons_succ, List.setIfInBounds_toArray, List.set_cons_zero, List.set_cons_succ]
    refine wpAnyH_done (by kernel_rfl) ?_ _
    go_wp2_with fail
    go_ret
    exact ⟨rfl, hwB⟩)
end Go.Proofs.YtkijckpkojcdcaaGreatDoor

/-! What comes in as a version of the laws' own type: three numbers, and a list of texts that lies in memory: no condition. -/
namespace Go.Proofs.YtkijckpkojcdcaaGreatDoor
open Go.ChangeShapes Go.WideShapes Go.ChangeAt Go.RowKit
set_option linter.unusedSimpArgs false
set_option linter.unusedVariables false

theorem vaddr_add (b off i : Nat) : ((⟨b, off, none⟩ : Addr).add i) = ⟨b, off + i, none⟩ := by unfold Addr.add; split <;> simp_all
theorem list4 {cs : List Value} (h : cs.length = 4) : ∃ c0 c1 c2 c3, cs = [c0, c1, c2, c3] := by
  match cs, h with
  | [c0, c1, c2, c3], _ => exact ⟨c0, c1, c2, c3, rfl⟩

theorem vreads_open {H : Type} {enc : TypeId × Value → H} {w : World} {spare : Nat → Bool} {held : Bool} {fuel : Nat} {c : Value} {x : DataW H × List MemPlace}
    (hf : DataW.trod enc Tryz.prog w 0 spare held fuel 28 [c] = some x) : ∃ ks, Reads w c (strsV ks) ∧ saneP ks := by
  rcases open_strings Tryz.underlying28 Tryz.underlying9 (by kernel_rfl) hf with ⟨hcs, _⟩ | ⟨x, l, cap, zs, hcs, _, hl, hm, hz, _, hcell, hwz⟩
  · simp at hcs
    subst hcs
    exact ⟨[], ⟨none, 0, rfl, Nat.le_refl _, .inl rfl⟩, by simp [saneP]⟩
  · simp at hcs
    subst hcs
    have hz' : l ≤ zs.length := by rw [hz]; split <;> omega
    have hlen : (zs.take l).length = l := by simp; omega
    refine ⟨zs.take l, ?_, by rw [hlen]; omega, fun s hs => hwz s (List.mem_of_mem_take hs)⟩
    by_cases h0 : l = 0
    · subst h0
      exact ⟨some x, cap, by simp [strsV], by simp [strsV], .inl (by simp [strsV])⟩
    · obtain ⟨b, off, spot⟩ := x
      have hc0 := hcell 0 (by omega)
      have hspot : spot = none := by simpa [Addr.add] using World.cell?_spot hc0
      subst hspot
      refine ⟨some ⟨b, off, none⟩, cap, by simp [strsV]; omega, by simp [strsV]; omega, .inr ⟨b, off, rfl, ?_, fun i hi => ?_⟩⟩
      · rw [vaddr_add] at hc0; exact World.block_lt_of_cell? w _ hc0
      · have hi' : i < l := by simp [strsV] at hi; omega
        have := hcell i (by omega)
        rw [vaddr_add] at this
        rw [this]
        simp [strsV, List.getD_eq_getElem?_getD, show i < zs.length by omega]

set_option maxRecDepth 100000 in
theorem ver_of_trod {H : Type} {enc : TypeId × Value → H} {w : World} {spare : Nat → Bool} {held : Bool} (fuel : Nat) (cs : List Value) (x : DataW H × List MemPlace)
    (h : DataW.trod enc Tryz.prog w 0 spare held fuel 60 cs = some x) : ∃ a b c u ps, cs = [.int .i64 a, .int .i64 b, .int .i64 c, u] ∧ Reads w u (strsV ps) ∧ saneP ps := by
  obtain ⟨xs, n, rfl, _, hlen, hxl, hf⟩ := DataW.trod_struct Tryz.underlying60 h
  have h4 : Tryz.prog.cellsOf 60 = 4 := by kernel_rfl
  obtain ⟨c0, c1, c2, c3, rfl⟩ := list4 (hlen.trans h4)
  have hx : ∀ i, i < 4 → ∃ y, xs[i]? = some y := fun i hi => ⟨xs[i]'(by rw [hxl]; exact hi), by rw [List.getElem?_eq_getElem]⟩
  obtain ⟨y0, e0⟩ := hx 0 (by omega)
  obtain ⟨y1, e1⟩ := hx 1 (by omega)
  obtain ⟨y2, e2⟩ := hx 2 (by omega)
  obtain ⟨y3, e3⟩ := hx 3 (by omega)
  have k3 : Tryz.prog.cellsOf 3 = 1 := by kernel_rfl
  have kS : Tryz.prog.cellsOf 28 = 1 := by kernel_rfl
  have f0 : DataW.trod enc Tryz.prog w 0 spare held n 3 [c0] = some y0 := by
    have h : DataW.trod enc Tryz.prog w 0 spare held n 3 ((([c0, c1, c2, c3] : List Value).drop 0).take (Tryz.prog.cellsOf 3)) = some y0 := (hf 0 _ rfl).trans e0
    rw [k3] at h; exact h
  have f1 : DataW.trod enc Tryz.prog w 0 spare held n 3 [c1] = some y1 := by
    have h : DataW.trod enc Tryz.prog w 0 spare held n 3 ((([c0, c1, c2, c3] : List Value).drop 1).take (Tryz.prog.cellsOf 3)) = some y1 := (hf 1 _ rfl).trans e1
    rw [k3] at h; exact h
  have f2 : DataW.trod enc Tryz.prog w 0 spare held n 3 [c2] = some y2 := by
    have h : DataW.trod enc Tryz.prog w 0 spare held n 3 ((([c0, c1, c2, c3] : List Value).drop 2).take (Tryz.prog.cellsOf 3)) = some y2 := (hf 2 _ rfl).trans e2
    rw [k3] at h; exact h
  have f3 : DataW.trod enc Tryz.prog w 0 spare held n 28 [c3] = some y3 := by
    have h : DataW.trod enc Tryz.prog w 0 spare held n 28 ((([c0, c1, c2, c3] : List Value).drop 3).take (Tryz.prog.cellsOf 28)) = some y3 := (hf 3 _ rfl).trans e3
    rw [kS] at h; exact h
  obtain ⟨k, hk, _, _⟩ := DataW.trod_int Tryz.underlying3 f0
  obtain ⟨m, hm, _, _⟩ := DataW.trod_int Tryz.underlying3 f1
  obtain ⟨r, hr, _, _⟩ := DataW.trod_int Tryz.underlying3 f2
  simp at hk hm hr
  subst hk hm hr
  obtain ⟨ks, hr, hsane⟩ := vreads_open f3
  exact ⟨_, _, _, _, _, rfl, hr, hsane⟩
#print axioms ver_of_trod
end Go.Proofs.YtkijckpkojcdcaaGreatDoor

/-! What comes in as packs of the laws' own type: packs that lie in memory: no condition. -/
namespace Go.Proofs.YtkijckpkojcdcaaGreatDoor
open Go.ChangeShapes Go.WideShapes Go.ChangeAt Go.RowKit
set_option linter.unusedSimpArgs false
set_option linter.unusedVariables false

theorem olist2 {cs : List Value} (h : cs.length = 2) : ∃ c0 c1, cs = [c0, c1] := by
  match cs, h with
  | [c0, c1], _ => exact ⟨c0, c1, rfl⟩
theorem olist4 {cs : List Value} (h : cs.length = 4) : ∃ c0 c1 c2 c3, cs = [c0, c1, c2, c3] := by
  match cs, h with
  | [c0, c1, c2, c3], _ => exact ⟨c0, c1, c2, c3, rfl⟩
theorem olist_of {α : Type} {P : Nat → α → Prop} : ∀ n, (∀ i, i < n → ∃ a, P i a) → ∃ l : List α, l.length = n ∧ ∀ i (h : i < l.length), P i l[i]
  | 0, _ => ⟨[], rfl, fun i h => by simp at h⟩
  | n + 1, h => by
    obtain ⟨l, hl, hp⟩ := olist_of n (fun i hi => h i (by omega))
    obtain ⟨a, ha⟩ := h n (by omega)
    refine ⟨l ++ [a], by simp [hl], fun i hi => ?_⟩
    by_cases h1 : i < l.length
    · rw [List.getElem_append_left h1]; exact hp i h1
    · have : i = n := by simp at hi; omega
      subst this
      rw [List.getElem_append_right (by omega)]
      simpa using ha

/-- A row that comes in, out of what its elements are. -/
theorem rows_of_trod {α H : Type} {P : Program} {enc : TypeId × Value → H} {w : World} {spare : Nat → Bool} {held : Bool} (sh : Sh α) {ts te : TypeId} (hu : P.underlying ts = some (.slice te)) (hn : P.cellsOf te = sh.n) (hpos : 0 < sh.n)
    (helem : ∀ n cs y, DataW.trod enc P w 0 spare held n te cs = some y → ∃ a, sh.lies (· < w.heap.size) w cs a) (fuel : Nat) (c : Value) (x : DataW H × List MemPlace)
    (h : DataW.trod enc P w 0 spare held fuel ts [c] = some x) : ∃ xs, RowIn sh (· < w.heap.size) w c xs := by
  rcases DataW.trod_slice hu h with ⟨hcs, _⟩ | ⟨a, len, cap, elems, rest, n', hn', hcs, _, _, hl, hcm, hel, hat, _, _⟩
  · simp at hcs
    subst hcs
    exact ⟨[], none, 0, rfl, by simp, Nat.le_refl _, .inl rfl⟩
  · simp at hcs
    subst hcs
    rw [hn] at hat
    have heach : ∀ i, i < len → ∃ q : α, ∃ cs, cs.length = sh.n ∧ sh.lies (· < w.heap.size) w cs q ∧ ∀ j (hj : j < cs.length), w.cell? ((a.add (i * sh.n)).add j) = some cs[j] := fun i hi => by
      have hb := hat i hi
      rw [List.getElem?_eq_getElem (by omega)] at hb
      obtain ⟨cs', hc1, hc2⟩ := Option.bind_eq_some_iff.1 hb
      obtain ⟨q, hq⟩ := helem _ cs' _ hc2
      obtain ⟨hb1, hl5, hcell⟩ := World.cells?_some hc1
      exact ⟨q, cs', hl5, hq, fun j hj => (hcell j (by omega)).trans (List.getElem?_eq_getElem hj)⟩
    obtain ⟨q, hq, hqp⟩ := olist_of len heach
    refine ⟨q, some a, cap, by rw [hq], by rw [hq]; omega, by rw [hq]; omega, ?_⟩
    by_cases h0 : len = 0
    · left; exact List.eq_nil_of_length_eq_zero (by omega)
    · right
      obtain ⟨b, off, spot⟩ := a
      obtain ⟨cs0, hl0, _, hc0⟩ := hqp 0 (by omega)
      have hc0 := hc0 0 (by omega)
      have hspot : spot = none := by
        have := World.cell?_spot hc0
        simpa [Addr.add] using this
      subst hspot
      refine ⟨b, off, rfl, ?_, fun i hi => ?_⟩
      · rw [vaddr_add, vaddr_add] at hc0; exact World.block_lt_of_cell? w _ hc0
      · obtain ⟨cs, h1, h2, h3⟩ := hqp i hi
        refine ⟨cs, h2, fun j hj => ?_⟩
        have := h3 j hj
        rw [vaddr_add, vaddr_add] at this
        exact this

set_option maxRecDepth 100000 in
theorem need_of_trod {H : Type} {enc : TypeId × Value → H} {w : World} {spare : Nat → Bool} {held : Bool} (fuel : Nat) (cs : List Value) (x : DataW H × List MemPlace)
    (h : DataW.trod enc Tryz.prog w 0 spare held fuel 59 cs = some x) : ∃ d : NeedD, shNeed.lies (· < w.heap.size) w cs d := by
  obtain ⟨xs, n, rfl, _, hlen, hxl, hf⟩ := DataW.trod_struct Tryz.underlying59 h
  have hN : Tryz.prog.cellsOf 59 = 2 := by kernel_rfl
  obtain ⟨c0, c1, rfl⟩ := olist2 (hlen.trans hN)
  have hx : ∀ i, i < 2 → ∃ y, xs[i]? = some y := fun i hi => ⟨xs[i]'(by rw [hxl]; exact hi), by rw [List.getElem?_eq_getElem]⟩
  obtain ⟨y0, e0⟩ := hx 0 (by omega)
  have k0 : Tryz.prog.cellsOf 9 = 1 := by kernel_rfl
  have f0 : DataW.trod enc Tryz.prog w 0 spare held n 9 [c0] = some y0 := by
    have h : DataW.trod enc Tryz.prog w 0 spare held n 9 ((([c0, c1] : List Value).drop 0).take (Tryz.prog.cellsOf 9)) = some y0 := (hf 0 _ rfl).trans e0
    rw [k0] at h; exact h
  obtain ⟨y1, e1⟩ := hx 1 (by omega)
  have k1 : Tryz.prog.cellsOf 9 = 1 := by kernel_rfl
  have f1 : DataW.trod enc Tryz.prog w 0 spare held n 9 [c1] = some y1 := by
    have h : DataW.trod enc Tryz.prog w 0 spare held n 9 ((([c0, c1] : List Value).drop 1).take (Tryz.prog.cellsOf 9)) = some y1 := (hf 1 _ rfl).trans e1
    rw [k1] at h; exact h
  obtain ⟨t0, ht0, _, hl0⟩ := DataW.trod_string Tryz.underlying9 f0
  simp at ht0
  subst ht0
  obtain ⟨t1, ht1, _, hl1⟩ := DataW.trod_string Tryz.underlying9 f1
  simp at ht1
  subst ht1
  exact ⟨⟨t0, t1⟩, rfl, hl0, hl1⟩
set_option maxRecDepth 100000 in
theorem needs_of_trod {H : Type} {enc : TypeId × Value → H} {w : World} {spare : Nat → Bool} {held : Bool} (fuel : Nat) (c : Value) (x : DataW H × List MemPlace)
    (h : DataW.trod enc Tryz.prog w 0 spare held fuel 114 [c] = some x) : ∃ xs, RowIn shNeed (· < w.heap.size) w c xs :=
  rows_of_trod shNeed Tryz.underlying114 (by kernel_rfl) (by decide) (fun n cs y hh => need_of_trod n cs y hh) fuel c x h

end Go.Proofs.YtkijckpkojcdcaaGreatDoor

/-! What the table of signs holds, as the row lists it, and what the library's bound is: a number; no condition. -/
namespace Go.Proofs.YtkijckpkojcdcaaGreatDoor
open Go.ChangeShapes Go.WideShapes Go.RowKit
set_option maxRecDepth 100000

namespace fnExactRegOk
/-- An array of texts that reads as the list holds it, cell for cell. -/
theorem cells_of_texts {H : Type} {enc : TypeId × Value → H} {P : Program} {w : World} {base : Nat} {sp : Nat → Bool} {held : Bool} {fuel : Nat} {t e : TypeId} {n : Nat} {cs : List Value} {zs : List (List UInt8)} {p : List MemPlace}
    (ht : P.underlying t = some (.array n e)) (he : P.underlying e = some .string) (hce : P.cellsOf e = 1) (hct : P.cellsOf t = n)
    (h : DataW.trod enc P w base sp held fuel t cs = some (.agg (zs.map fun z => .lit (.string z)), p)) : cs = zs.map fun z => Value.string ⟨z.toArray⟩ := by
  cases fuel with
  | zero => simp [DataW.trod] at h
  | succ fuel =>
    simp only [DataW.trod, ht, hce, hct, Nat.mul_one] at h
    split at h
    · rename_i hl
      obtain ⟨xs, hm, hx⟩ := Option.map_eq_some_iff.1 h
      have hxs : xs.map (·.1) = zs.map fun z => (DataW.lit (.string z) : DataW H) := by
        have := congrArg Prod.fst hx
        simpa using this
      have hxl : xs.length = n := by simpa using Lib.mapM_length hm
      have hzl : zs.length = n := by
        have := congrArg List.length hxs
        simp at this
        omega
      apply List.ext_getElem?
      intro i
      by_cases hi : i < n
      · obtain ⟨b, hb, hf⟩ := Lib.mapM_at hm i i (by simp [hi])
        obtain ⟨z, hc, rfl, _⟩ := DataW.trod_string he hf
        have h1 : cs[i]? = some (.string z) := by
          have := congrArg (·[0]?) hc
          simpa [List.getElem?_take, List.getElem?_drop] using this
        have h2 : (xs.map (·.1))[i]? = some (DataW.lit (.string z.data.toList) : DataW H) := by simp [hb]
        rw [hxs] at h2
        simp only [List.getElem?_map, Option.map_eq_some_iff, DataW.lit.injEq, Lit.string.injEq] at h2
        obtain ⟨z', hz', rfl⟩ := h2
        simp [h1, hz']
      · rw [List.getElem?_eq_none (by omega), List.getElem?_eq_none (by simp; omega)]
    · cases h

theorem signs_laid {W : World} (h : laidMetH Tryz.prog Rows.fnExactRegOkRow.laid W) : ∀ k (h : k < signsT.length), W.cell? ⟨0, k, none⟩ = some (.string signsT[k]) := by
  have h1 : laidMet Tryz.prog (("loop.example/g00464/impl.signTexts", Rows.laid_loop_example_g00464_impl_signTexts) :: Rows.fnExactRegOkRow.laid.drop 2) W := laidMet.tail h
  obtain ⟨ps, ⟨g', t', cs, fuel, p, q, hg', ht', hvar, hd, _, _⟩, _⟩ := h1
  have hg : Tryz.prog.globalNamed "loop.example/g00464/impl.signTexts" = some 0 := by kernel_rfl
  obtain rfl := Option.some.inj (hg.symm.trans hg')
  have hty : (Tryz.prog.globals[0]?).map (·.type) = some 249 := by kernel_rfl
  obtain rfl := Option.some.inj (hty.symm.trans ht')
  have hcs := cells_of_texts (zs := [[61], [60], [60, 61], [62], [62, 61], [126], [94]]) Tryz.underlying249 Tryz.underlying9 (by kernel_rfl) (by kernel_rfl) hd
  intro k hk
  rw [World.var?_cell hg hvar k, ← Array.getElem?_toList, hcs]
  have hk7 : k < 7 := hk
  match k, hk7 with
  | 0, _ => rfl
  | 1, _ => rfl
  | 2, _ => rfl
  | 3, _ => rfl
  | 4, _ => rfl
  | 5, _ => rfl
  | 6, _ => rfl

theorem bound_shaped {W : World} (h : W.ShapedOpen Tryz.prog) : ∃ m, W.cell? ⟨1, 0, none⟩ = some (.int .i64 m) := by
  obtain ⟨cs, hh, hs, hr⟩ := h.1 1 #[.int .i64 0] 3 (by decide +kernel) (by kernel_rfl)
  obtain ⟨ts, hts, _, hall⟩ := hr (by kernel_rfl)
  have hc : Tryz.prog.cellTypes Tryz.prog.depth 3 = some [3] := by kernel_rfl
  rw [hc] at hts
  cases hts
  have h1 : 0 < cs.size := by rw [hs]; decide
  obtain ⟨u, hu', hok⟩ := hall 0 cs[0] (by simp [h1])
  have : u = 3 := by simpa using hu'.symm
  subst this
  have hcell : W.cell? ⟨1, 0, none⟩ = some cs[0] := by simp [World.cell?, hh, h1]
  rw [hcell]
  unfold Cell.ok at hok
  rw [Tryz.underlying3] at hok
  cases hv : cs[0] <;> rw [hv] at hok <;> simp at hok
  obtain ⟨rfl, _⟩ := hok
  exact ⟨_, rfl⟩
end fnExactRegOk
end Go.Proofs.YtkijckpkojcdcaaGreatDoor

/-! Entries that lie in memory: what they are: no condition. -/
namespace Go.Proofs.YtkijckpkojcdcaaGreatDoor
open Go.RowKit
set_option linter.unusedSimpArgs false
set_option linter.unusedVariables false

structure EntryD where
  name : ByteArray
  vA : Int
  vB : Int
  vC : Int
  vP : List ByteArray
  needs : List NeedD
def wtEntry (d : EntryD) : Nat := d.name.size + bulkS d.vP + wtRow wtNeed d.needs
def shEntry : Sh EntryD where
  n := 6
  lies S w cs d := ∃ u0 u1, cs = [.string d.name, .int .i64 d.vA, .int .i64 d.vB, .int .i64 d.vC, u0, u1] ∧ d.name.size ≤ maxLen ∧ RdB S w u0 (strsV d.vP) ∧ saneP d.vP ∧ RowIn shNeed S w u1 d.needs
  keep hk h := by obtain ⟨u0, u1, h0, h1, h2, h3, h4⟩ := h; exact ⟨u0, u1, h0, h1, h2.keep hk, h3, h4.keep hk⟩
  mono hS h := by obtain ⟨u0, u1, h0, h1, h2, h3, h4⟩ := h; exact ⟨u0, u1, h0, h1, h2.mono hS, h3, h4.mono hS⟩
def shEntryO : Sh EntryD where
  n := 6
  lies S w cs d := ∃ u0 u1, cs = [.string d.name, .int .i64 d.vA, .int .i64 d.vB, .int .i64 d.vC, u0, u1] ∧ d.name.size ≤ maxLen ∧ StrsOwn S w u0 d.vP ∧ saneP d.vP ∧ RowOwn shNeed 39 S w u1 d.needs
  keep hk h := by obtain ⟨u0, u1, h0, h1, h2, h3, h4⟩ := h; exact ⟨u0, u1, h0, h1, h2.keep hk, h3, h4.keep hk⟩
  mono hS h := by obtain ⟨u0, u1, h0, h1, h2, h3, h4⟩ := h; exact ⟨u0, u1, h0, h1, h2.mono hS, h3, h4.mono hS⟩
theorem liesEntry_plain {S : Nat → Prop} {w : World} {cs : List Value} {d : EntryD} (h : shEntryO.lies S w cs d) : shEntry.lies S w cs d := by
  obtain ⟨u0, u1, e0, s_name, r0, p0, r1⟩ := h
  exact ⟨u0, u1, e0, s_name, r0.plain, p0, r1.plain⟩
end Go.Proofs.YtkijckpkojcdcaaGreatDoor

/-! How much they hold, as the law counts it: contracts for the walks; conditions: at most 2 to the 20 is left to count. -/
namespace Go.Proofs.YtkijckpkojcdcaaGreatDoor
open Go.RowKit
set_option linter.unusedSimpArgs false
set_option linter.unusedVariables false

set_option maxHeartbeats 2000000 in
set_option maxRecDepth 100000 in
theorem szEntry_c (S : Nat → Prop) (d : EntryD) (cs : List Value) (left : Int) (h0 : 0 ≤ left) (h1 : left ≤ 1048576) (w : World) (hd : shEntry.lies S w cs d) (hB : ∀ b, S b → b < w.heap.size) :
    Calls Tryz.prog 77 #[.agg cs.toArray, .int .i64 left] w fun e w' => e = .returned (.int .i64 (leftW (wtEntry d) left)) ∧ Below w.heap.size w w' := by
  obtain ⟨u0, u1, rfl, s_name, r0, p0, r1⟩ := hd
  unfold maxLen at s_name
  have hbx : ∀ o, Below w.heap.size w (w.alloc o) := fun o => (Below.refl _ _).alloc (Nat.le_refl _) _
  obtain ⟨R, hR⟩ : ∃ R, R = leftW (wtEntry d) left := ⟨_, rfl⟩
  rw [← hR]
  obtain ⟨q0, hq0⟩ : ∃ q, q = leftW (bulkS d.vP) (left - (d.name.size : Int)) := ⟨_, rfl⟩
  obtain ⟨q1, hq1⟩ : ∃ q, q = leftW (wtRow wtNeed d.needs) q0 := ⟨_, rfl⟩
  have HS0 : Hid (0 ≤ (left - (d.name.size : Int)) → (left - (d.name.size : Int)) ≤ 1048576 → ∀ w1, Below w.heap.size w w1 → Calls Tryz.prog 31 #[.agg #[.int .i64 d.vA, .int .i64 d.vB, .int .i64 d.vC, u0], .int .i64 (left - (d.name.size : Int))] w1 fun e w' => e = .returned (.int .i64 q0) ∧ Below w1.heap.size w1 w') := fun a b w1 hb => by
    rw [hq0]; exact szVer_c _ _ _ u0 d.vP _ a b w1 ((r0.keep (.of hb hB)).reads (fun b h => Nat.lt_of_lt_of_le (hB b h) hb.size)) p0
  have HS1 : Hid (0 ≤ q0 → q0 ≤ 1048576 → ∀ w1, Below w.heap.size w w1 → Calls Tryz.prog 133 #[u1, .int .i64 q0] w1 fun e w' => e = .returned (.int .i64 q1) ∧ Below w1.heap.size w1 w') := fun a b w1 hb => by
    rw [hq1]; exact szNeedS_c S u1 d.needs _ a b w1 (r1.keep (.of hb hB)) (fun b h => Nat.lt_of_lt_of_le (hB b h) hb.size)
  obtain ⟨a0, cap0, eu0, _⟩ := id r0
  rw [length_strsV] at eu0
  subst eu0
  clear r0
  obtain ⟨a1, cap1, eu1, _⟩ := id r1
  subst eu1
  clear r1
  have lt := lw (wtEntry d) left
  have l0 := lw (bulkS d.vP) (left - (d.name.size : Int))
  rw [← hq0] at l0
  have l1 := lw (wtRow wtNeed d.needs) q0
  rw [← hq1] at l1
  rw [← hR] at lt
  unfold wtEntry at lt
  clear hq0 hq1 hR
  by_cases n0 : (left - (d.name.size : Int)) < 0
  · have HR : Hid (R = -1) := by show _ = _; omega
    clear lt l0 l1
    clear HS0
    clear HS1
    go_enter Tryz.func77, Tryz.ntmps77
    go_wp2_with fail
    go_ret
    exact ⟨by rw [HR.out]; rfl, (hbx _)⟩
  by_cases n1 : q0 < 0
  · have HR : Hid (R = -1) := by show _ = _; omega
    have g0a : 0 ≤ (left - (d.name.size : Int)) := by omega
    have g0b : (left - (d.name.size : Int)) ≤ 1048576 := by omega
    have HC0 := HS0.out g0a g0b
    have HD0 := hidden HC0
    clear HC0
    clear lt l0 l1
    clear HS0
    clear HS1
    go_enter Tryz.func77, Tryz.ntmps77
    go_wp2_with fail
    go_at_call 31
    refine (HD0.out _ (hbx _)).mono ?_
    rintro e w1 ⟨rfl, b1⟩
    have k1 : Below w.heap.size w w1 := ((hbx _)).trans (b1.mono (by first | exact ((hbx _)).size | (simp; omega)))
    have hx1 := boxAt b1
    have x0 := vblk_cell hx1 0
    have x1 := vblk_cell hx1 1
    have x2 := vblk_cell hx1 2
    have x3 := vblk_cell hx1 3
    have x4 := vblk_cell hx1 4
    have x5 := vblk_cell hx1 5
    simp only [List.getElem?_toArray, List.getElem?_cons_succ, List.getElem?_cons_zero] at x0 x1 x2 x3 x4 x5
    go_wp2_with fail
    go_ret
    exact ⟨by rw [HR.out]; rfl, k1⟩
  by_cases n2 : q1 < 0
  · have HR : Hid (R = -1) := by show _ = _; omega
    have g0a : 0 ≤ (left - (d.name.size : Int)) := by omega
    have g0b : (left - (d.name.size : Int)) ≤ 1048576 := by omega
    have g1a : 0 ≤ q0 := by omega
    have g1b : q0 ≤ 1048576 := by omega
    have HC0 := HS0.out g0a g0b
    have HD0 := hidden HC0
    clear HC0
    have HC1 := HS1.out g1a g1b
    have HD1 := hidden HC1
    clear HC1
    clear lt l0 l1
    clear HS0
    clear HS1
    go_enter Tryz.func77, Tryz.ntmps77
    go_wp2_with fail
    go_at_call 31
    refine (HD0.out _ (hbx _)).mono ?_
    rintro e w1 ⟨rfl, b1⟩
    have k1 : Below w.heap.size w w1 := ((hbx _)).trans (b1.mono (by first | exact ((hbx _)).size | (simp; omega)))
    have hx1 := boxAt b1
    have x0 := vblk_cell hx1 0
    have x1 := vblk_cell hx1 1
    have x2 := vblk_cell hx1 2
    have x3 := vblk_cell hx1 3
    have x4 := vblk_cell hx1 4
    have x5 := vblk_cell hx1 5
    simp only [List.getElem?_toArray, List.getElem?_cons_succ, List.getElem?_cons_zero] at x0 x1 x2 x3 x4 x5
    go_wp2_with fail
    go_at_call 133
    refine (HD1.out _ k1).mono ?_
    rintro e w2 ⟨rfl, b2⟩
    have k2 : Below w.heap.size w w2 := (k1).trans (b2.mono (by first | exact (k1).size | (simp; omega)))
    have hx2 := (b2.block _ (Array.getElem?_eq_some_iff.1 hx1).1).trans hx1
    have x0 := vblk_cell hx2 0
    have x1 := vblk_cell hx2 1
    have x2 := vblk_cell hx2 2
    have x3 := vblk_cell hx2 3
    have x4 := vblk_cell hx2 4
    have x5 := vblk_cell hx2 5
    simp only [List.getElem?_toArray, List.getElem?_cons_succ, List.getElem?_cons_zero] at x0 x1 x2 x3 x4 x5
    go_wp2_with fail
    go_ret
    exact ⟨by rw [HR.out]; rfl, k2⟩
  have HR : Hid (R = q1) := by show _ = _; omega
  have g0a : 0 ≤ (left - (d.name.size : Int)) := by omega
  have g0b : (left - (d.name.size : Int)) ≤ 1048576 := by omega
  have g1a : 0 ≤ q0 := by omega
  have g1b : q0 ≤ 1048576 := by omega
  have HC0 := HS0.out g0a g0b
  have HD0 := hidden HC0
  clear HC0
  have HC1 := HS1.out g1a g1b
  have HD1 := hidden HC1
  clear HC1
  clear lt l0 l1
  clear HS0
  clear HS1
  go_enter Tryz.func77, Tryz.ntmps77
  go_wp2_with fail
  go_at_call 31
  refine (HD0.out _ (hbx _)).mono ?_
  rintro e w1 ⟨rfl, b1⟩
  have k1 : Below w.heap.size w w1 := ((hbx _)).trans (b1.mono (by first | exact ((hbx _)).size | (simp; omega)))
  have hx1 := boxAt b1
  have x0 := vblk_cell hx1 0
  have x1 := vblk_cell hx1 1
  have x2 := vblk_cell hx1 2
  have x3 := vblk_cell hx1 3
  have x4 := vblk_cell hx1 4
  have x5 := vblk_cell hx1 5
  simp only [List.getElem?_toArray, List.getElem?_cons_succ, List.getElem?_cons_zero] at x0 x1 x2 x3 x4 x5
  go_wp2_with fail
  go_at_call 133
  refine (HD1.out _ k1).mono ?_
  rintro e w2 ⟨rfl, b2⟩
  have k2 : Below w.heap.size w w2 := (k1).trans (b2.mono (by first | exact (k1).size | (simp; omega)))
  have hx2 := (b2.block _ (Array.getElem?_eq_some_iff.1 hx1).1).trans hx1
  have x0 := vblk_cell hx2 0
  have x1 := vblk_cell hx2 1
  have x2 := vblk_cell hx2 2
  have x3 := vblk_cell hx2 3
  have x4 := vblk_cell hx2 4
  have x5 := vblk_cell hx2 5
  simp only [List.getElem?_toArray, List.getElem?_cons_succ, List.getElem?_cons_zero] at x0 x1 x2 x3 x4 x5
  go_wp2_with fail
  go_ret
  exact ⟨by rw [HR.out]; rfl, k2⟩

set_option maxHeartbeats 2000000 in
set_option maxRecDepth 100000 in
theorem szEntryS_c (S : Nat → Prop) (v : Value) (xs : List EntryD) (left : Int) (h0 : 0 ≤ left) (h1 : left ≤ 1048576) (w : World) (hv : RowIn shEntry S w v xs) (hB : ∀ b, S b → b < w.heap.size) :
    Calls Tryz.prog 27 #[v, .int .i64 left] w fun e w' => e = .returned (.int .i64 (leftW (wtRow wtEntry xs) left)) ∧ Below w.heap.size w w' := by
  obtain ⟨a, cap, rfl, hl, hc, ha⟩ := hv
  unfold maxLen at hl
  by_cases hneg : left - (xs.length : Int) < 0
  · have e : leftW (wtRow wtEntry xs) left = -1 := leftW_bad (by have := len_wtRow wtEntry xs; omega)
    rw [e]
    clear ha
    go_enter Tryz.func27, Tryz.ntmps27
    go_wp2_with fail
    go_ret
    exact ⟨rfl, Below.refl _ _⟩
  · go_enter Tryz.func27, Tryz.ntmps27
    go_wp2_with fail
    go_loopw [1, 5] (fun vl vi wr => ∃ (k : Nat) (q : Int), k ≤ xs.length ∧ vi = .int .i64 (k : Int) ∧ vl = .int .i64 q ∧ 0 ≤ q ∧ q ≤ 1048576 ∧ Hid (q = left - (xs.length : Int) - (wtRow wtEntry (xs.take k) : Int) + (k : Int)) ∧ Below w.heap.size w wr) (fun _ vi _ => xs.length - (intOf vi).toNat)
    case atStart => exact ⟨0, _, Nat.zero_le _, rfl, rfl, by omega, by omega, by show _ = _; simp [wtRow], Below.refl _ _⟩
    case round =>
      obtain ⟨k, q, hk, rfl, rfl, hq0, hq1, hq, hbr⟩ := hrel
      by_cases hlt' : k < xs.length
      · rcases ha with rfl | ⟨b, off, rfl, hlt, ha⟩
        · simp at hlt'
        obtain ⟨cs, hL, hcell⟩ := ha k hlt'
        have hL2 := shEntry.keep (.of hbr hB) hL
        have hcell2 := hcell.keep (.of hbr hB) hlt
        have hBr : ∀ b, S b → b < wr.heap.size := fun b h => Nat.lt_of_lt_of_le (hB b h) hbr.size
        have hwt := wtRow_take wtEntry xs k hlt'
        have hsp := wtRow_split wtEntry xs (k + 1)
        have hln := len_wtRow wtEntry (xs.drop (k + 1))
        have hdl : (xs.drop (k + 1)).length = xs.length - (k + 1) := by simp
        obtain ⟨d, hd⟩ : ∃ d, d = xs[k] := ⟨_, rfl⟩
        rw [← hd] at hL2 hwt
        have HW : Hid (wtRow wtEntry (xs.take (k + 1)) = wtRow wtEntry (xs.take k) + (1 + wtEntry d)) := hwt
        have HSP : Hid (wtRow wtEntry xs = wtRow wtEntry (xs.take (k + 1)) + wtRow wtEntry (xs.drop (k + 1)) ∧ xs.length - (k + 1) ≤ wtRow wtEntry (xs.drop (k + 1))) := ⟨hsp, by omega⟩
        have hki : (k : Int) < (xs.length : Int) := by omega
        obtain ⟨p, hp⟩ : ∃ p, p = leftW (wtEntry d) q := ⟨_, rfl⟩
        have HP : Hid (p = leftW (wtEntry d) q) := hp
        have HC := szEntry_c S d cs q hq0 hq1 wr hL2 hBr
        rw [← hp] at HC
        clear hL hcell ha hwt hd hp hsp hln hdl
        obtain ⟨u0, u1, rfl, s_name, r0, p0, r1⟩ := hL2
        clear s_name p0
        obtain ⟨a0, cap0, eu0, _⟩ := id r0
        rw [length_strsV] at eu0
        subst eu0
        clear r0
        obtain ⟨a1, cap1, eu1, _⟩ := id r1
        subst eu1
        clear r1
        have e0 : wr.cell? ⟨b, off + k * 6, none⟩ = some (.string d.name) := hcell2 0 (by simp)
        have e1 : wr.cell? ⟨b, off + k * 6 + 1, none⟩ = some (.int .i64 d.vA) := hcell2 1 (by simp)
        have e2 : wr.cell? ⟨b, off + k * 6 + 2, none⟩ = some (.int .i64 d.vB) := hcell2 2 (by simp)
        have e3 : wr.cell? ⟨b, off + k * 6 + 3, none⟩ = some (.int .i64 d.vC) := hcell2 3 (by simp)
        have e4 : wr.cell? ⟨b, off + k * 6 + 4, none⟩ = some (.slice a0 d.vP.length cap0) := hcell2 4 (by simp)
        have e5 : wr.cell? ⟨b, off + k * 6 + 5, none⟩ = some (.slice a1 d.needs.length cap1) := hcell2 5 (by simp)
        have HC2 := hidden HC
        clear hcell2 HC
        by_cases hpn : p < 0
        · go_wp2_with (go_at_call 77; refine HC2.out.mono ?_; rintro e w1 ⟨rfl, hb1⟩)
          go_ret
          have e : leftW (wtRow wtEntry xs) left = -1 := by
            have h2 := HP.out; have h3 := hq.out; have h4 := HW.out; have h5 := HSP.out
            refine leftW_bad ?_
            by_cases h6 : ((wtEntry d : Nat) : Int) ≤ q
            · rw [leftW_good h6] at h2; omega
            · omega
          exact ⟨by rw [e]; rfl, hbr.trans (hb1.mono hbr.size)⟩
        · go_wp2_with (go_at_call 77; refine HC2.out.mono ?_; rintro e w1 ⟨rfl, hb1⟩)
          go_roundw
          case rel =>
            have h2 := HP.out; have h3 := hq.out; have h4 := HW.out
            have h6 : ((wtEntry d : Nat) : Int) ≤ q := by
              by_cases h6 : ((wtEntry d : Nat) : Int) ≤ q
              · exact h6
              · rw [leftW_bad (by omega)] at h2; omega
            rw [leftW_good h6] at h2
            exact ⟨k + 1, p, by omega, by go_num, rfl, by omega, by omega, (by show _ = _; omega), hbr.trans (hb1.mono hbr.size)⟩
          case measure => simp [intOf]; omega
      · have he : k = xs.length := by omega
        subst he
        clear ha
        go_wp2_with fail
        go_ret
        have e : leftW (wtRow wtEntry xs) left = q := by
          have h3 := hq.out
          rw [List.take_length] at h3
          rw [leftW_good (by omega)]; omega
        exact ⟨by rw [e]; rfl, hbr⟩

end Go.Proofs.YtkijckpkojcdcaaGreatDoor

/-! Copies in memory of their own, as the law makes them: contracts for the walks; condition: what is copied holds at most 2 to the 20. -/
namespace Go.Proofs.YtkijckpkojcdcaaGreatDoor
open Go.RowKit
set_option linter.unusedSimpArgs false
set_option linter.unusedVariables false

set_option maxHeartbeats 2000000 in
set_option maxRecDepth 100000 in
theorem toVerO_c (a b c : Int) (u : Value) (ps : List ByteArray) (w : World) (hu : Reads w u (strsV ps)) (hn : ps.length ≤ 1048576) :
    Calls Tryz.prog 33 #[.agg #[.int .i64 a, .int .i64 b, .int .i64 c, u]] w fun e w' => ∃ g, e = .returned (.agg #[.int .i64 a, .int .i64 b, .int .i64 c, .slice (some ⟨g, 0, none⟩) ps.length ps.length]) ∧ StrsOwn (Ow w.heap.size w'.heap.size) w' (.slice (some ⟨g, 0, none⟩) ps.length ps.length) ps ∧ Below w.heap.size w w' := by
  have huA : ∀ w1, Below w.heap.size w w1 → Reads w1 u (strsV ps) := fun w1 h1 => hu.below h1
  obtain ⟨q, cap, rfl, _, _⟩ := reads_strs hu
  clear hu
  go_enter Tryz.func33, Tryz.ntmps33
  have hb3 : ∀ A R O, Below w.heap.size w (((w.alloc A).alloc R).alloc O) := fun A R O => (((Below.refl _ _).alloc (Nat.le_refl _) _).alloc (by simp) _).alloc (by simp; omega) _
  go_wp2_with (
    go_at_call 81
    refine (toStrs_c _ ps _ (huA _ (hb3 _ _ _)) (by omega)).mono ?_
    rintro e w1 ⟨g, rfl, hM, hb1⟩
    obtain ⟨hA, hR, hO⟩ := vthree hb1
    have o0 := vblk_cell hO 0
    have o1 := vblk_cell hO 1
    have o2 := vblk_cell hO 2
    have o3 := vblk_cell hO 3
    have r0 := vblk_cell hR 0
    have r1 := vblk_cell hR 1
    have r2 := vblk_cell hR 2
    have r3 := vblk_cell hR 3
    have fo := vblk_frozen hO
    have fr := vblk_frozen hR
    simp only [List.getElem?_toArray, List.getElem?_cons_succ, List.getElem?_cons_zero] at o0 o1 o2 o3 r0 r1 r2 r3)
  have s3 : ∀ A R O, (((w.alloc A).alloc R).alloc O).heap.size = w.heap.size + 1 + 1 + 1 := fun A R O => by simp
  rw [s3] at hb1 hM
  have hN : w.heap.size + 1 + 1 + 1 ≤ w1.heap.size := by have := hb1.size; rw [s3] at this; exact this
  refine bodyPost_ret (v := .agg #[.int .i64 a, .int .i64 b, .int .i64 c, .slice (some ⟨g, 0, none⟩) ps.length ps.length]) (by simp [results, Tryz.results33, go_sem, o0, o1, o2, o3, r0, r1, r2, r3]) rfl ⟨_, rfl, ?_, ?_⟩
  · have hX : ∀ {W : World}, W.ownsRow (w.heap.size + 1 + 1 + 1) 9 1 (.slice (some ⟨g, 0, none⟩) ps.length ps.length) ps.length (strsV ps) → StrsOwn (Ow w.heap.size W.heap.size) W (.slice (some ⟨g, 0, none⟩) ps.length ps.length) ps := fun h => ⟨owns_lo (Nat.zero_le _) h, fun b hb => Ow.mono (by omega) (Nat.le_refl _) b (owns_in h b hb)⟩
    refine hX ?_
    refine owns_set (owns_set (owns_set (owns_set (owns_set hM ?_ _) ?_ _) ?_ _) ?_ _) ?_ _ <;> simp
  · have b1 := ((hb3 _ _ _).trans (hb1.mono (by omega)))
    refine Below.setCell (Below.setCell (Below.setCell (Below.setCell (Below.setCell b1 ?_ _) ?_ _) ?_ _) ?_ _) ?_ _ <;> simp <;> omega

set_option maxHeartbeats 2000000 in
set_option maxRecDepth 100000 in
theorem toEntry_c (S : Nat → Prop) (d : EntryD) (cs : List Value) (w : World) (hd : shEntry.lies S w cs d) (hB : ∀ b, S b → b < w.heap.size) (hw : wtEntry d ≤ 1048576) :
    Calls Tryz.prog 78 #[.agg cs.toArray] w fun e w' => ∃ cs', e = .returned (.agg cs'.toArray) ∧ shEntryO.lies (Ow w.heap.size w'.heap.size) w' cs' d ∧ Below w.heap.size w w' := by
  obtain ⟨u0, u1, rfl, s_name, r0, p0, r1⟩ := hd
  have hb3 : ∀ A R O, Below w.heap.size w (((w.alloc A).alloc R).alloc O) := fun A R O => (((Below.refl _ _).alloc (Nat.le_refl _) _).alloc (by simp) _).alloc (by simp; omega) _
  unfold wtEntry at hw
  have HS0 : Hid (∀ w1, Below w.heap.size w w1 → Calls Tryz.prog 33 #[.agg #[.int .i64 d.vA, .int .i64 d.vB, .int .i64 d.vC, u0]] w1 fun e w' => ∃ g, e = .returned (.agg #[.int .i64 d.vA, .int .i64 d.vB, .int .i64 d.vC, .slice (some ⟨g, 0, none⟩) d.vP.length d.vP.length]) ∧ StrsOwn (Ow w1.heap.size w'.heap.size) w' (.slice (some ⟨g, 0, none⟩) d.vP.length d.vP.length) d.vP ∧ Below w1.heap.size w1 w') := fun w1 hb =>
    toVerO_c _ _ _ u0 d.vP w1 ((r0.keep (.of hb hB)).reads (fun b h => Nat.lt_of_lt_of_le (hB b h) hb.size)) (by unfold bulkS at hw; omega)
  have HS1 : Hid (∀ w1, Below w.heap.size w w1 → Calls Tryz.prog 134 #[u1] w1 fun e w' => ∃ g, e = .returned (.slice (some ⟨g, 0, none⟩) d.needs.length d.needs.length) ∧ RowOwn shNeed 39 (Ow w1.heap.size w'.heap.size) w' (.slice (some ⟨g, 0, none⟩) d.needs.length d.needs.length) d.needs ∧ Below w1.heap.size w1 w') := fun w1 hb =>
    toNeedS_c S u1 d.needs w1 (r1.keep (.of hb hB)) (fun b h => Nat.lt_of_lt_of_le (hB b h) hb.size) (by omega)
  obtain ⟨a0, cap0, eu0, _⟩ := id r0
  rw [length_strsV] at eu0
  subst eu0
  clear r0
  obtain ⟨a1, cap1, eu1, _⟩ := id r1
  subst eu1
  clear r1
  go_enter Tryz.func78, Tryz.ntmps78
  go_wp2_with fail
  go_at_call 33
  refine (HS0.out _ (hb3 _ _ _)).mono ?_
  rintro e w1 ⟨g1, rfl, R0, b1⟩
  obtain ⟨hA1, hR1, hO1⟩ := vthree b1
  have s3 : ∀ A R O, (((w.alloc A).alloc R).alloc O).heap.size = w.heap.size + 1 + 1 + 1 := fun A R O => by simp
  rw [s3] at b1 R0
  have m1 : w.heap.size + 3 ≤ w1.heap.size := by have := b1.size; rw [s3] at this; omega
  have kw1 : Below w.heap.size w w1 := (hb3 _ _ _).trans (b1.mono (by omega))
  replace R0 := R0.mono (S' := Ow (w.heap.size + 3) w1.heap.size) (Ow.mono (by omega) (Nat.le_refl _))
  have m1' : w.heap.size + 3 ≤ w1.heap.size := by omega
  have o0 := vblk_cell hO1 0
  have q0 := vblk_cell hR1 0
  have y0 := vblk_cell hA1 0
  have o1 := vblk_cell hO1 1
  have q1 := vblk_cell hR1 1
  have y1 := vblk_cell hA1 1
  have o2 := vblk_cell hO1 2
  have q2 := vblk_cell hR1 2
  have y2 := vblk_cell hA1 2
  have o3 := vblk_cell hO1 3
  have q3 := vblk_cell hR1 3
  have y3 := vblk_cell hA1 3
  have o4 := vblk_cell hO1 4
  have q4 := vblk_cell hR1 4
  have y4 := vblk_cell hA1 4
  have o5 := vblk_cell hO1 5
  have q5 := vblk_cell hR1 5
  have y5 := vblk_cell hA1 5
  have fo := vblk_frozen hO1
  have fr := vblk_frozen hR1
  simp only [List.getElem?_toArray, List.getElem?_cons_succ, List.getElem?_cons_zero, List.setIfInBounds_toArray, List.set_cons_succ, List.set_cons_zero] at o0 q0 y0 o1 q1 y1 o2 q2 y2 o3 q3 y3 o4 q4 y4 o5 q5 y5
  have k1 : Below w.heap.size w ((((w1.setCell ⟨w.heap.size + 1 + 1, 1, none⟩ (.int .i64 d.vA)).setCell ⟨w.heap.size + 1 + 1, 2, none⟩ (.int .i64 d.vB)).setCell ⟨w.heap.size + 1 + 1, 3, none⟩ (.int .i64 d.vC)).setCell ⟨w.heap.size + 1 + 1, 4, none⟩ (.slice (some ⟨g1, 0, none⟩) d.vP.length d.vP.length)) := (Below.setCell (Below.setCell (Below.setCell (Below.setCell kw1 (by simp; omega) _) (by simp; omega) _) (by simp; omega) _) (by simp; omega) _)
  go_wp2_with fail
  go_at_call 134
  refine (HS1.out _ k1).mono ?_
  rintro e w2 ⟨g2, rfl, R1, b2⟩
  have hA2 := (b2.block w.heap.size (by simp [World.setCell]; omega)).trans ((Below.heap_setCell _ _ _ _ (by simp <;> omega)).trans ((Below.heap_setCell _ _ _ _ (by simp <;> omega)).trans ((Below.heap_setCell _ _ _ _ (by simp <;> omega)).trans ((Below.heap_setCell _ _ _ _ (by simp <;> omega)).trans (hA1)))))
  have hR2 := (b2.block (w.heap.size + 1) (by simp [World.setCell]; omega)).trans ((Below.heap_setCell _ _ _ _ (by simp <;> omega)).trans ((Below.heap_setCell _ _ _ _ (by simp <;> omega)).trans ((Below.heap_setCell _ _ _ _ (by simp <;> omega)).trans ((Below.heap_setCell _ _ _ _ (by simp <;> omega)).trans (hR1)))))
  have hO2 := (b2.block (w.heap.size + 1 + 1) (by simp [World.setCell]; omega)).trans (heap_setCell_same _ _ _ _ _ _ (heap_setCell_same _ _ _ _ _ _ (heap_setCell_same _ _ _ _ _ _ (heap_setCell_same _ _ _ _ _ _ hO1))))
  have m2 : w1.heap.size ≤ w2.heap.size := by have := b2.size; simpa [World.setCell] using this
  have kw2 : Below w.heap.size w w2 := k1.trans (b2.mono k1.size)
  replace R1 := R1.mono (S' := Ow (w.heap.size + 3) w2.heap.size) (Ow.mono (by simp [World.setCell]; omega) (Nat.le_refl _))
  replace R0 := (R0.keep (((((Kp.set (Ow.not (by omega))).trans (Kp.set (Ow.not (by omega)))).trans (Kp.set (Ow.not (by omega)))).trans (Kp.set (Ow.not (by omega)))).trans (Kp.of b2 (fun b h => by have := h.2; simp [World.setCell]; omega)))).mono (S' := Ow (w.heap.size + 3) w2.heap.size) (Ow.mono (Nat.le_refl _) (by omega))
  have m2' : w.heap.size + 3 ≤ w2.heap.size := by omega
  have o0 := vblk_cell hO2 0
  have q0 := vblk_cell hR2 0
  have y0 := vblk_cell hA2 0
  have o1 := vblk_cell hO2 1
  have q1 := vblk_cell hR2 1
  have y1 := vblk_cell hA2 1
  have o2 := vblk_cell hO2 2
  have q2 := vblk_cell hR2 2
  have y2 := vblk_cell hA2 2
  have o3 := vblk_cell hO2 3
  have q3 := vblk_cell hR2 3
  have y3 := vblk_cell hA2 3
  have o4 := vblk_cell hO2 4
  have q4 := vblk_cell hR2 4
  have y4 := vblk_cell hA2 4
  have o5 := vblk_cell hO2 5
  have q5 := vblk_cell hR2 5
  have y5 := vblk_cell hA2 5
  have fo := vblk_frozen hO2
  have fr := vblk_frozen hR2
  simp only [List.getElem?_toArray, List.getElem?_cons_succ, List.getElem?_cons_zero, List.setIfInBounds_toArray, List.set_cons_succ, List.set_cons_zero] at o0 q0 y0 o1 q1 y1 o2 q2 y2 o3 q3 y3 o4 q4 y4 o5 q5 y5
  go_wp2_with fail
  refine bodyPost_ret (v := .agg #[.string d.name, .int .i64 d.vA, .int .i64 d.vB, .int .i64 d.vC, .slice (some ⟨g1, 0, none⟩) d.vP.length d.vP.length, .slice (some ⟨g2, 0, none⟩) d.needs.length d.needs.length]) (by simp [results, Tryz.results78, go_sem, o0, q0, o1, q1, o2, q2, o3, q3, o4, q4, o5, q5]) rfl ⟨[.string d.name, .int .i64 d.vA, .int .i64 d.vB, .int .i64 d.vC, .slice (some ⟨g1, 0, none⟩) d.vP.length d.vP.length, .slice (some ⟨g2, 0, none⟩) d.needs.length d.needs.length], rfl, ?_, ?_⟩
  · have hS : ∀ {W : World}, w2.heap.size ≤ W.heap.size → ∀ b, Ow (w.heap.size + 3) w2.heap.size b → Ow w.heap.size W.heap.size b := fun h => Ow.mono (by omega) h
    refine ⟨_, _, rfl, s_name, (R0.keep ?_).mono (hS ?_), p0, (R1.keep ?_).mono (hS ?_)⟩
    all_goals first
      | (simp [World.setCell]; done)
      | ((repeat (refine Kp.trans ?_ (Kp.set (Ow.not (by omega))))); exact fun b hb => rfl)
  · refine ?_
    (repeat (refine Below.setCell ?_ (by simp <;> omega) _))
    exact kw2

set_option maxHeartbeats 2000000 in
set_option maxRecDepth 100000 in
theorem infoEntry : (Tryz.prog.info? 35).map (fun i => (i.zero, i.size, i.bytes)) = some (some (.agg #[.string ⟨#[]⟩, .int .i64 0, .int .i64 0, .int .i64 0, .slice none 0 0, .slice none 0 0]), 6, 88) := by kernel_rfl
set_option maxHeartbeats 2000000 in
set_option maxRecDepth 100000 in
theorem toEntryS_c (S : Nat → Prop) (v : Value) (xs : List EntryD) (w : World) (hv : RowIn shEntry S w v xs) (hB : ∀ b, S b → b < w.heap.size) (hw : wtRow wtEntry xs ≤ 1048576) :
    Calls Tryz.prog 28 #[v] w fun e w' => ∃ g, e = .returned (.slice (some ⟨g, 0, none⟩) xs.length xs.length) ∧ RowOwn shEntryO 35 (Ow w.heap.size w'.heap.size) w' (.slice (some ⟨g, 0, none⟩) xs.length xs.length) xs ∧ Below w.heap.size w w' := by
  obtain ⟨a, cap, rfl, hl, hc, ha⟩ := hv
  have hn := len_wtRow wtEntry xs
  have hlm : xs.length ≤ maxLen := hl
  unfold maxLen at hl
  obtain ⟨i0, hi, hz0, hz1, hz2⟩ := info_parts infoEntry
  go_enter Tryz.func28, Tryz.ntmps28
  go_wp2_with (first
    | (at_make; refine wpList_make_full _ rfl _ _ 24 rfl w.heap.size 35 i0 _ 6 Tryz.underlying24 hi hz0 hz1 _ _ _ _ xs.length rfl rfl rfl rfl (by rw [hz2]; omega) (by unfold maxLen; omega) (Nat.le_refl _) ?_))
  intro w1 hown hgrow
  have hb1 := below_of_grown hgrow
  have hs1 : w.heap.size + 1 ≤ w1.heap.size := by
    rcases hown.2 with ⟨h, _⟩ | ⟨g, cap, cur, h, _, hg, _⟩
    · simp at h
    · simp at h
      have := (Array.getElem?_eq_some_iff.1 hg).1
      omega
  obtain ⟨ys1, hown1⟩ : ∃ ys, w1.ownsRow w.heap.size 35 6 (.slice (some ⟨w.heap.size, 0, none⟩) xs.length xs.length) xs.length ys := ⟨_, hown⟩
  clear hgrow hown
  go_wp2_with fail
  go_loopw [4] (fun vi wr => ∃ (k : Nat) (ys : List Value), k ≤ xs.length ∧ vi = .int .i64 (k : Int) ∧ wr.ownsRow w.heap.size 35 6 (.slice (some ⟨w.heap.size, 0, none⟩) xs.length xs.length) xs.length ys ∧ Hid (Laid shEntryO (Ow (w.heap.size + 1) wr.heap.size) wr ys xs k) ∧ Below w.heap.size w wr ∧ w.heap.size + 1 ≤ wr.heap.size) (fun vi _ => xs.length - (intOf vi).toNat)
  case atStart => exact ⟨0, ys1, Nat.zero_le _, rfl, hown1, (fun i h h0 => by omega), hb1, hs1⟩
  case round =>
    obtain ⟨k, ys, hk, rfl, hownr, hy, hbr, hsr⟩ := hrel
    by_cases hlt' : k < xs.length
    · rcases ha with rfl | ⟨b, off, rfl, hlt, ha⟩
      · simp at hlt'
      obtain ⟨cs, hL, hcell⟩ := ha k hlt'
      have hL2 := shEntry.keep (.of hbr hB) hL
      have hcell2 := hcell.keep (.of hbr hB) hlt
      have hBr : ∀ b, S b → b < wr.heap.size := fun b h => Nat.lt_of_lt_of_le (hB b h) hbr.size
      have hwt : wtEntry xs[k] ≤ 1048576 := by have := wt_wtRow wtEntry (List.getElem_mem hlt'); omega
      have hown2 : ∀ w2, Below wr.heap.size wr w2 → w2.ownsRow w.heap.size 35 6 (.slice (some ⟨w.heap.size, 0, none⟩) xs.length xs.length) xs.length ys := fun w2 h2 => hownr.kept (grown_of_below h2 none) (by simp [Value.ownBlock])
      have hlen := hownr.1
      have HC : Hid (∀ w2, Below wr.heap.size wr w2 → ∀ j, j < 6 → ∃ x, w2.cell? ⟨w.heap.size, k * 6 + j, none⟩ = some x) := fun w2 h2 j hj => ⟨ys.getD (k * 6 + j) undef, by rw [(hown2 w2 h2).cellAt _ (by omega)]; simp [List.getD_eq_getElem?_getD, show k * 6 + j < ys.length by omega]⟩
      have HF : Hid (∀ w2, Below wr.heap.size wr w2 → ∀ j, w2.frozen? ⟨w.heap.size, j, none⟩ = false) := fun w2 h2 j => (hown2 w2 h2).frozenAt j
      have HO : Hid (∀ w2, Below wr.heap.size wr w2 → w2.ownsRow w.heap.size 35 6 (.slice (some ⟨w.heap.size, 0, none⟩) xs.length xs.length) xs.length ys) := hown2
      have HST : Hid (∀ w2 cs, Below wr.heap.size wr w2 → cs.length = 6 → shEntryO.lies (Ow (w.heap.size + 1) w2.heap.size) w2 cs xs[k] → Laid shEntryO (Ow (w.heap.size + 1) (setW w2 w.heap.size (k * 6) cs).heap.size) (setW w2 w.heap.size (k * 6) cs) (putL ys (k * 6) cs) xs (k + 1)) := fun w2 cs h2 hc hr => hy.out.step (sh := shEntryO) hlt' hlen h2 (by omega) hc hr
      obtain ⟨d, hd⟩ : ∃ d, d = xs[k] := ⟨_, rfl⟩
      rw [← hd] at hL2 hwt HST
      have HC1 := toEntry_c S d cs wr hL2 hBr hwt
      clear ha hL hcell hd hown2 hi hz0 hz1 hz2 hown1 hb1 hlen hwt
      obtain ⟨u0, u1, rfl, s_name, r0, p0, r1⟩ := hL2
      clear s_name p0
      obtain ⟨a0, cap0, eu0, _⟩ := id r0
      rw [length_strsV] at eu0
      subst eu0
      clear r0
      obtain ⟨a1, cap1, eu1, _⟩ := id r1
      subst eu1
      clear r1
      have e0 : wr.cell? ⟨b, off + k * 6, none⟩ = some (.string d.name) := hcell2 0 (by simp)
      have e1 : wr.cell? ⟨b, off + k * 6 + 1, none⟩ = some (.int .i64 d.vA) := hcell2 1 (by simp)
      have e2 : wr.cell? ⟨b, off + k * 6 + 2, none⟩ = some (.int .i64 d.vB) := hcell2 2 (by simp)
      have e3 : wr.cell? ⟨b, off + k * 6 + 3, none⟩ = some (.int .i64 d.vC) := hcell2 3 (by simp)
      have e4 : wr.cell? ⟨b, off + k * 6 + 4, none⟩ = some (.slice a0 d.vP.length cap0) := hcell2 4 (by simp)
      have e5 : wr.cell? ⟨b, off + k * 6 + 5, none⟩ = some (.slice a1 d.needs.length cap1) := hcell2 5 (by simp)
      have HC2 := hidden HC1
      have hki : (k : Int) < (xs.length : Int) := by omega
      clear hcell2 HC1
      go_wp2_with (go_at_call 78; refine HC2.out.mono ?_; rintro e w2 ⟨cs, rfl, hX, hb2⟩; have HX := hidden (HST.out w2 cs hb2 (by have h := hX; obtain ⟨u0, u1, h9, s_name, r0, p0, r1⟩ := h; rw [h9]; rfl) (shEntryO.mono (Ow.mono hsr (Nat.le_refl _)) hX)); obtain ⟨u0, u1, rfl, s_name, z0, p0, z1⟩ := hX; obtain ⟨b0, bap0, ev0⟩ := z0.slice; subst ev0; obtain ⟨b1, bap1, ev1⟩ := z1.slice; subst ev1; obtain ⟨y0, d0⟩ := HC.out w2 hb2 0 (by omega); obtain ⟨y1, d1⟩ := HC.out w2 hb2 1 (by omega); obtain ⟨y2, d2⟩ := HC.out w2 hb2 2 (by omega); obtain ⟨y3, d3⟩ := HC.out w2 hb2 3 (by omega); obtain ⟨y4, d4⟩ := HC.out w2 hb2 4 (by omega); obtain ⟨y5, d5⟩ := HC.out w2 hb2 5 (by omega); rw [Nat.add_zero] at d0; have f9 := HF.out w2 hb2)
      go_roundw
      case rel =>
        refine ⟨k + 1, _, by omega, by go_num, setW_owns [.string d.name, .int .i64 d.vA, .int .i64 d.vB, .int .i64 d.vC, .slice b0 d.vP.length bap0, .slice b1 d.needs.length bap1] w2 ys (k * 6) (HO.out w2 hb2), HX.out, setW_below (Nat.le_refl _) [.string d.name, .int .i64 d.vA, .int .i64 d.vB, .int .i64 d.vC, .slice b0 d.vP.length bap0, .slice b1 d.needs.length bap1] w2 w (k * 6) (hbr.trans (hb2.mono hbr.size)), ?_⟩
        have h9 := setW_size [.string d.name, .int .i64 d.vA, .int .i64 d.vB, .int .i64 d.vC, .slice b0 d.vP.length bap0, .slice b1 d.needs.length bap1] w2 w.heap.size (k * 6)
        have := hb2.size
        exact Nat.le_trans (show w.heap.size + 1 ≤ w2.heap.size by omega) (Nat.le_of_eq h9.symm)
      case measure => simp [intOf]; omega
    · have he : k = xs.length := by omega
      subst he
      clear ha
      go_wp2_with fail
      go_ret
      exact ⟨_, rfl, rowOwn_of hownr hlm hy.out, hbr⟩

end Go.Proofs.YtkijckpkojcdcaaGreatDoor
