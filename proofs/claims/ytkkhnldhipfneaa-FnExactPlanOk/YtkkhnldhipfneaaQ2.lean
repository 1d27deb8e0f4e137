/-
  Contracts for the walks, several texts in one: each part says what it proves, and under which conditions.
-/
import Derived.Deep.RegionHeld
import Derived.Sort.OwnSorted
import Derived.Lib.SlicesCompact
import Derived.Sort.Walk0
import Derived.Test.YtkkhnldhipfneaaQ1

/-! A sign cut off ahead of a word, the program's, and the library's cutting off of a beginning: contracts for the walks; conditions: the texts have at most 2 to the 40 bytes, the table of signs holds what the text lays. -/
namespace Go.Proofs.Ytkkhnldhipfneaa
open Go.RowKit
set_option linter.unusedSimpArgs false
set_option linter.unusedVariables false

/-- Does s begin with p? -/
def headB (s p : ByteArray) : Bool := decide (p.size ≤ s.size) && (s.extract 0 p.size).toList == p.toList

def cutRest (s p : ByteArray) : ByteArray := if headB s p then s.extract p.size s.size else s
theorem headB_le {s p : ByteArray} (h : headB s p = true) : p.size ≤ s.size := by
  simp [headB] at h
  exact h.1

def signsT : List ByteArray := [⟨#[61]⟩, ⟨#[60]⟩, ⟨#[60, 61]⟩, ⟨#[62]⟩, ⟨#[62, 61]⟩, ⟨#[126]⟩, ⟨#[94]⟩]
theorem signsT_small : ∀ k (h : k < signsT.length), signsT[k].size ≤ 2 := by decide +kernel
/-- The sign ahead of a word, looked for from the n-th down, and what is left. -/
def signGo (s : ByteArray) : Nat → Int × ByteArray
  | 0 => (0, s)
  | n + 1 => if headB s (signsT.getD n ⟨#[]⟩) then ((n : Int), cutRest s (signsT.getD n ⟨#[]⟩)) else signGo s n
def signOf (s : ByteArray) : Int := (signGo s 7).1
def signRest (s : ByteArray) : ByteArray := (signGo s 7).2

end Go.Proofs.Ytkkhnldhipfneaa

/-! How many pieces a text falls into, and how long they are: no condition. -/
namespace Go.Proofs.Ytkkhnldhipfneaa
open Go.RowKit
set_option linter.unusedSimpArgs false
set_option linter.unusedVariables false

theorem splitS_pos (s : ByteArray) (c : Int) : 0 < (splitS s c).length := by
  have h : ∀ n i b, 0 < (splitGo s c n i b).length := fun n => by
    induction n with
    | zero => intro i b; simp [splitGo]
    | succ n ih => intro i b; rw [splitGo]; split <;> simp [ih]
  exact h _ _ _
theorem splitS_piece (s : ByteArray) (c : Int) : ∀ x ∈ splitS s c, x.size ≤ s.size := by
  have h : ∀ n i b, ∀ x ∈ splitGo s c n i b, x.size ≤ s.size := fun n => by
    induction n with
    | zero => intro i b x hx; simp [splitGo] at hx; subst hx; rw [ByteArray.size_extract]; omega
    | succ n ih =>
      intro i b x hx
      rw [splitGo] at hx
      split at hx
      · rcases List.mem_cons.1 hx with rfl | hx
        · rw [ByteArray.size_extract]; omega
        · exact ih _ _ x hx
      · exact ih _ _ x hx
  exact h _ _ _
theorem splitS_len (s : ByteArray) (c : Int) : (splitS s c).length ≤ s.size + 1 := by
  have h : ∀ n i b, (splitGo s c n i b).length ≤ n + 1 := fun n => by
    induction n with
    | zero => intro i b; simp [splitGo]
    | succ n ih =>
      intro i b
      rw [splitGo]
      split
      · simp only [List.length_cons]; have := ih (i + 1) (i + 1); omega
      · have := ih (i + 1) b; omega
  exact h _ _ _

end Go.Proofs.Ytkkhnldhipfneaa

/-! What the two functions OnOk, the program's and the specification's, answer: the same of every text; contracts for the walks; condition: the text has at most 2 to the 20 bytes. -/
namespace Go.Proofs.Ytkkhnldhipfneaa
open Go.RowKit
set_option linter.unusedSimpArgs false
set_option linter.unusedVariables false

/-- What a rule may wait for. -/
def onB (s : ByteArray) : Bool := if headB s ⟨#[94]⟩ then nameB (cutRest s ⟨#[94]⟩) else if (cutD s 35).2.2 then nameB (cutD s 35).1 && nameB (cutD s 35).2.1 else nameB s

theorem nameB_hash {s : ByteArray} {k : Nat} (h : s.data.toList[k]? = some 35) : nameB s = false := by
  obtain ⟨hk, hv⟩ := List.getElem?_eq_some_iff.1 h
  have hk' : k < s.size := by rw [len_list] at hk; exact hk
  have e : s[k] = 35 := by show s.data[k] = 35; simpa using hv
  rw [nameB, end_false hk' (by rw [e]; simp [okName, smallB, digitB])]; rfl
theorem headB_one (s : ByteArray) : headB s ⟨#[94]⟩ = true ↔ s.data.toList[0]? = some 94 := by
  have h0 : (s.extract 0 1).toList = s.data.toList.take 1 := by rw [ByteArray.toList_eq, extract_list]; simp
  have h1 : (⟨#[94]⟩ : ByteArray).toList = [94] := by simp [ByteArray.toList_eq]
  have h2 : (⟨#[94]⟩ : ByteArray).size = 1 := rfl
  unfold headB
  rw [h2, h0, h1, ← len_list]
  cases s.data.toList with
  | nil => simp
  | cons a l => simp
theorem index_at {s : ByteArray} {c : UInt8} {k : Nat} (h : Lib.indexByte s.data.toList c = (k : Int)) : s.data.toList[k]? = some c := (Lib.indexByte_some h).1
/-- The list that the specification cuts a text into says the same as the first cut. -/
theorem split_cut (s : ByteArray) : (if (splitS s 35).length = 2 then nameB ((splitS s 35).getD 0 ⟨#[]⟩) && nameB ((splitS s 35).getD 1 ⟨#[]⟩) else nameB s) = (if (cutD s 35).2.2 then nameB (cutD s 35).1 && nameB (cutD s 35).2.1 else nameB s) := by
  have e0 : s.extract 0 s.size = s := by simp
  have u35 : (35 : Int).toNat.toUInt8 = 35 := rfl
  rcases search s 35 0 (by omega) (by omega) (by omega) with ⟨h1, h2⟩ | ⟨k, h1, h2, h3⟩
  · rw [e0, u35] at h1
    rw [e0, Nat.sub_zero] at h2
    rw [cutD_none h1, splitS, h2]
    simp
  · rw [e0, u35] at h1
    rw [Nat.sub_zero, Nat.zero_add] at h3
    rw [cutD_some h1, splitS, h3]
    have hs := nameB_hash (index_at h1)
    rcases search s 35 (k + 1) (by omega) (by omega) (by omega) with ⟨g1, g2⟩ | ⟨j, g1, g2, g3⟩
    · rw [g2]
      simp
    · rw [u35] at g1
      have hb := nameB_hash (index_at g1)
      rw [g3]
      have hp : 0 < (splitGo s 35 (s.size - (k + 1 + j + 1)) (k + 1 + j + 1) (k + 1 + j + 1)).length := by
        cases hh : (s.size - (k + 1 + j + 1)) with
        | zero => simp [splitGo]
        | succ n =>
          have : ∀ n i b, 0 < (splitGo s 35 n i b).length := fun n => by
            induction n with
            | zero => intro i b; simp [splitGo]
            | succ n ih => intro i b; rw [splitGo]; split <;> simp [ih]
          exact this _ _ _
      rw [if_neg (by simp only [List.length_cons]; omega), if_pos rfl, hs, hb, Bool.and_false]

end Go.Proofs.Ytkkhnldhipfneaa

/-! What the functions on the names of tasks answer (told of a pack and a task, and read back), the program's and the specification's: the same; contracts for the walks; condition: a text has at most 2 to the 20 bytes. -/
namespace Go.Proofs.Ytkkhnldhipfneaa
open Go.RowKit
set_option linter.unusedSimpArgs false
set_option linter.unusedVariables false

/-- The name of a task, and what is read of a text as one. -/
def tnD (a b : ByteArray) : ByteArray := a ++ ⟨#[35]⟩ ++ b
def ptB (s : ByteArray) : Bool := (cutD s 35).2.2 && (nameB (cutD s 35).1 && nameB (cutD s 35).2.1)
def ptD (s : ByteArray) : ByteArray × ByteArray × Bool := if ptB s then ((cutD s 35).1, (cutD s 35).2.1, true) else (⟨#[]⟩, ⟨#[]⟩, false)
theorem split_two (s : ByteArray) : (splitS s 35 = [(cutD s 35).1, (cutD s 35).2.1] ∧ (cutD s 35).2.2 = true) ∨ ((splitS s 35).length ≠ 2 ∧ ptB s = false) := by
  have e0 : s.extract 0 s.size = s := by simp
  have u35 : (35 : Int).toNat.toUInt8 = 35 := rfl
  rcases search s 35 0 (by omega) (by omega) (by omega) with ⟨h1, h2⟩ | ⟨k, h1, h2, h3⟩
  · rw [e0, u35] at h1
    rw [e0, Nat.sub_zero] at h2
    right
    rw [ptB, cutD_none h1, splitS, h2]
    simp
  · rw [e0, u35] at h1
    rw [Nat.sub_zero, Nat.zero_add] at h3
    rw [ptB, cutD_some h1, splitS, h3]
    have hs := nameB_hash (index_at h1)
    rcases search s 35 (k + 1) (by omega) (by omega) (by omega) with ⟨g1, g2⟩ | ⟨j, g1, g2, g3⟩
    · left
      rw [g2]
      exact ⟨rfl, rfl⟩
    · rw [u35] at g1
      have hb := nameB_hash (index_at g1)
      right
      rw [g3]
      have hp : 0 < (splitGo s 35 (s.size - (k + 1 + j + 1)) (k + 1 + j + 1) (k + 1 + j + 1)).length := by
        have : ∀ n i b, 0 < (splitGo s 35 n i b).length := fun n => by
          induction n with
          | zero => intro i b; simp [splitGo]
          | succ n ih => intro i b; rw [splitGo]; split <;> simp [ih]
        exact this _ _ _
      refine ⟨by simp only [List.length_cons]; omega, ?_⟩
      simp only [hb, Bool.and_false]
theorem cut_le (s : ByteArray) (hs : s.size ≤ 1048576) : (cutD s 35).1.size ≤ 1048576 ∧ (cutD s 35).2.1.size ≤ 1048576 := by
  unfold cutD; split
  · exact ⟨hs, Nat.zero_le 1048576⟩
  · exact ⟨by rw [ByteArray.size_extract]; omega, by rw [ByteArray.size_extract]; omega⟩

set_option maxHeartbeats 2000000 in
set_option maxRecDepth 100000 in
theorem specTn_c (a b : ByteArray) (w : World) (ha : a.size ≤ 1048576) (hb : b.size ≤ 1048576) :
    Calls Try.prog 17 #[.string a, .string b] w fun e w' => e = .returned (.string (tnD a b)) ∧ Below w.heap.size w w' := by
  go_enter Try.func17, Try.ntmps17
  go_wp2_with fail
  go_ret
  exact ⟨rfl, Below.refl _ _⟩

set_option maxHeartbeats 2000000 in
set_option maxRecDepth 100000 in
theorem implTn_c (a b : ByteArray) (w : World) (ha : a.size ≤ 1048576) (hb : b.size ≤ 1048576) :
    Calls Try.prog 18 #[.string a, .string b] w fun e w' => e = .returned (.string (tnD a b)) ∧ Below w.heap.size w w' := by
  go_enter Try.func18, Try.ntmps18
  go_wp2_with fail
  go_ret
  exact ⟨rfl, Below.refl _ _⟩

set_option maxHeartbeats 4000000 in
set_option maxRecDepth 100000 in
theorem implPt_c (s : ByteArray) (w : World) (hs : s.size ≤ 1048576) :
    Calls Try.prog 20 #[.string s] w fun e w' => e = .returned (.tuple #[.string (ptD s).1, .string (ptD s).2.1, .bool (ptD s).2.2]) ∧ Below w.heap.size w w' := by
  have HC := hidden (fun w1 => cut35_c s w1 hs)
  obtain ⟨h2, h3⟩ := cut_le s hs
  have HN : Hid (∀ x : ByteArray, x.size ≤ 1048576 → ∀ w1, Calls Try.prog 49 #[.string x] w1 fun e w' => e = .returned (.bool (nameB x)) ∧ w1 = w') := fun x hx w1 => implName_c x (by unfold maxLen; omega) w1
  unfold ptD ptB
  generalize cutD s 35 = d at *
  obtain ⟨d1, d2, d3⟩ := d
  dsimp only at h2 h3 HC ⊢
  obtain ⟨n1, hn1⟩ : ∃ b, b = nameB d1 := ⟨_, rfl⟩
  obtain ⟨n2, hn2⟩ : ∃ b, b = nameB d2 := ⟨_, rfl⟩
  have HN1 := hidden (HN.out d1 h2)
  have HN2 := hidden (HN.out d2 h3)
  have HL1 := hidden (fun w1 => clone_c d1 w1 h2)
  have HL2 := hidden (fun w1 => clone_c d2 w1 h3)
  rw [← hn1] at HN1 ⊢
  rw [← hn2] at HN2 ⊢
  clear HN h2 h3 hn1 hn2 hs
  go_enter Try.func20, Try.ntmps20
  go_wp2_with fail
  go_at_call 48
  refine (HC.out _).mono ?_
  rintro e w1 ⟨rfl, b1⟩
  cases d3 with
  | false =>
    go_wp2_with fail
    go_ret3
    exact ⟨rfl, b1⟩
  | true =>
    cases n1 with
    | false =>
      go_wp2_with fail
      go_at_call 49
      refine (HN1.out _).mono ?_
      rintro e w2 ⟨rfl, rfl⟩
      go_wp2_with fail
      go_ret3
      exact ⟨rfl, b1⟩
    | true =>
      go_wp2_with fail
      go_at_call 49
      refine (HN1.out _).mono ?_
      rintro e w2 ⟨rfl, rfl⟩
      go_wp2_with fail
      go_at_call 49
      refine (HN2.out _).mono ?_
      rintro e w3 ⟨rfl, rfl⟩
      cases n2 with
      | false =>
        go_wp2_with fail
        go_ret3
        exact ⟨rfl, b1⟩
      | true =>
        go_wp2_with fail
        go_at_call 50
        refine (HL1.out _).mono ?_
        rintro e w4 ⟨rfl, b4⟩
        go_wp2_with fail
        go_at_call 50
        refine (HL2.out _).mono ?_
        rintro e w5 ⟨rfl, b5⟩
        go_wp2_with fail
        go_ret3
        exact ⟨rfl, b1.trans ((b4.trans (b5.mono b4.size)).mono b1.size)⟩

set_option maxHeartbeats 4000000 in
set_option maxRecDepth 100000 in
theorem specPt_c (s : ByteArray) (w : World) (hs : s.size ≤ 1048576) :
    Calls Try.prog 19 #[.string s] w fun e w' => e = .returned (.tuple #[.string (ptD s).1, .string (ptD s).2.1, .bool (ptD s).2.2]) ∧ Below w.heap.size w w' := by
  have HS := hidden (fun w1 => specSplit_c s 35 w1 hs)
  obtain ⟨h2, h3⟩ := cut_le s hs
  have HN : Hid (∀ x : ByteArray, x.size ≤ 1048576 → ∀ w1, Calls Try.prog 47 #[.string x] w1 fun e w' => e = .returned (.bool (nameB x)) ∧ w1 = w') := fun x hx w1 => specName_c x (by unfold maxLen; omega) w1
  rcases split_two s with ⟨hsp, hc⟩ | ⟨hsp, hf⟩
  · rw [hsp] at HS
    unfold ptD ptB
    rw [hc]
    have HN1 := hidden (HN.out _ h2)
    have HN2 := hidden (HN.out _ h3)
    obtain ⟨d1, hd1⟩ : ∃ d, d = (cutD s 35).1 := ⟨_, rfl⟩
    obtain ⟨d2, hd2⟩ : ∃ d, d = (cutD s 35).2.1 := ⟨_, rfl⟩
    rw [← hd1] at HN1 HS ⊢
    rw [← hd2] at HN2 HS ⊢
    obtain ⟨n1, hn1⟩ : ∃ b, b = nameB d1 := ⟨_, rfl⟩
    obtain ⟨n2, hn2⟩ : ∃ b, b = nameB d2 := ⟨_, rfl⟩
    rw [← hn1] at HN1 ⊢
    rw [← hn2] at HN2 ⊢
    clear HN h2 h3 hn1 hn2 hs hsp hc hd1 hd2
    go_enter Try.func19, Try.ntmps19
    go_wp2_with fail
    go_at_call 46
    refine (HS.out _).mono ?_
    rintro e w1 ⟨v, rfl, o1, b1⟩
    obtain ⟨q, cap, rfl, _, hc⟩ := reads_strs (reads_of_owns o1)
    rcases hc with hc | ⟨b9, off, rfl, hlt, hc⟩
    · cases hc
    have c0 := hc 0 (by simp)
    have c1 := hc 1 (by simp)
    simp only [List.getElem_cons_zero, List.getElem_cons_succ, Nat.add_zero] at c0 c1
    clear hc o1
    cases n1 with
    | false =>
      go_wp2_with fail
      go_at_call 47
      refine (HN1.out _).mono ?_
      rintro e w2 ⟨rfl, rfl⟩
      go_wp2_with fail
      go_ret3
      exact ⟨rfl, b1⟩
    | true =>
      go_wp2_with fail
      go_at_call 47
      refine (HN1.out _).mono ?_
      rintro e w2 ⟨rfl, rfl⟩
      go_wp2_with fail
      go_at_call 47
      refine (HN2.out _).mono ?_
      rintro e w3 ⟨rfl, rfl⟩
      cases n2 with
      | false =>
        go_wp2_with fail
        go_ret3
        exact ⟨rfl, b1⟩
      | true =>
        go_wp2_with fail
        go_quiet (fail)
        go_wp2_with fail
        go_ret3
        exact ⟨rfl, below_drewN' b1 _⟩
  · have e9 : ptD s = (⟨#[]⟩, ⟨#[]⟩, false) := by unfold ptD; rw [hf]; rfl
    rw [e9]
    obtain ⟨n, hn⟩ : ∃ n, n = (splitS s 35).length := ⟨_, rfl⟩
    have h2' : ((n : Int) == 2) = false := by rw [beq_eq_false_iff_ne]; omega
    have h24 : ¬ (n : Int) = 2 := by omega
    have h23 : ¬ n = 2 := by omega
    clear HN h2 h3 hs hf e9 hsp
    go_enter Try.func19, Try.ntmps19
    go_wp2_with fail
    go_at_call 46
    refine (HS.out _).mono ?_
    rintro e w1 ⟨v, rfl, o1, b1⟩
    obtain ⟨q, cap, rfl, _, hc⟩ := reads_strs (reads_of_owns o1)
    rw [← hn]
    clear hc o1 hn
    go_wp2_with fail
    go_ret3
    exact ⟨rfl, b1⟩
end Go.Proofs.Ytkkhnldhipfneaa

/-! Rules that lie in memory: what they are: no condition. -/
namespace Go.Proofs.Ytkkhnldhipfneaa
open Go.RowKit
set_option linter.unusedSimpArgs false
set_option linter.unusedVariables false

structure RuleD where
  task : ByteArray
  on : List ByteArray
  ins : List ByteArray
  envs : List ByteArray
  keep : Bool
def wtRule (d : RuleD) : Nat := d.task.size + bulkS d.on + bulkS d.ins + bulkS d.envs
def shRule : Sh RuleD where
  n := 5
  lies S w cs d := ∃ u0 u1 u2, cs = [.string d.task, u0, u1, u2, .bool d.keep] ∧ d.task.size ≤ maxLen ∧ RdB S w u0 (strsV d.on) ∧ saneP d.on ∧ RdB S w u1 (strsV d.ins) ∧ saneP d.ins ∧ RdB S w u2 (strsV d.envs) ∧ saneP d.envs
  keep hk h := by obtain ⟨u0, u1, u2, h0, h1, h2, h3, h4, h5, h6, h7⟩ := h; exact ⟨u0, u1, u2, h0, h1, h2.keep hk, h3, h4.keep hk, h5, h6.keep hk, h7⟩
  mono hS h := by obtain ⟨u0, u1, u2, h0, h1, h2, h3, h4, h5, h6, h7⟩ := h; exact ⟨u0, u1, u2, h0, h1, h2.mono hS, h3, h4.mono hS, h5, h6.mono hS, h7⟩
def shRuleO : Sh RuleD where
  n := 5
  lies S w cs d := ∃ u0 u1 u2, cs = [.string d.task, u0, u1, u2, .bool d.keep] ∧ d.task.size ≤ maxLen ∧ StrsOwn S w u0 d.on ∧ saneP d.on ∧ StrsOwn S w u1 d.ins ∧ saneP d.ins ∧ StrsOwn S w u2 d.envs ∧ saneP d.envs
  keep hk h := by obtain ⟨u0, u1, u2, h0, h1, h2, h3, h4, h5, h6, h7⟩ := h; exact ⟨u0, u1, u2, h0, h1, h2.keep hk, h3, h4.keep hk, h5, h6.keep hk, h7⟩
  mono hS h := by obtain ⟨u0, u1, u2, h0, h1, h2, h3, h4, h5, h6, h7⟩ := h; exact ⟨u0, u1, u2, h0, h1, h2.mono hS, h3, h4.mono hS, h5, h6.mono hS, h7⟩
theorem liesRule_plain {S : Nat → Prop} {w : World} {cs : List Value} {d : RuleD} (h : shRuleO.lies S w cs d) : shRule.lies S w cs d := by
  obtain ⟨u0, u1, u2, e0, s_task, r0, p0, r1, p1, r2, p2⟩ := h
  exact ⟨u0, u1, u2, e0, s_task, r0.plain, p0, r1.plain, p1, r2.plain, p2⟩
end Go.Proofs.Ytkkhnldhipfneaa

/-! Rows that are right one by one and ascend, and the first of a row that is taken: pure facts, no condition. -/
namespace Go.Proofs.Ytkkhnldhipfneaa
open Go.RowKit
set_option linter.unusedSimpArgs false
set_option linter.unusedVariables false

/-- What is asked of an element beside the one ahead of it. -/
def rowOk {α : Type} (p : α → Bool) (key : α → ByteArray) (d : α) (pre : Option α) : Bool := p d && (match pre with | none => true | some c => Op.bytesLess (key c).toList (key d).toList)
def preX {α : Type} (xs : List α) : Nat → Option α
  | 0 => none
  | j + 1 => xs[j]?
def rowUpto {α : Type} (p : α → Bool) (key : α → ByteArray) (xs : List α) : Nat → Bool
  | 0 => true
  | k + 1 => rowUpto p key xs k && (match xs[k]? with | none => true | some d => rowOk p key d (preX xs k))
def rowB {α : Type} (p : α → Bool) (key : α → ByteArray) (xs : List α) : Bool := rowUpto p key xs xs.length
theorem rowUpto_step {α : Type} {p : α → Bool} {key : α → ByteArray} {xs : List α} {k : Nat} (hk : k < xs.length) (h : rowUpto p key xs k = true) (h2 : rowOk p key xs[k] (preX xs k) = true) : rowUpto p key xs (k + 1) = true := by
  rw [rowUpto, h, List.getElem?_eq_getElem hk]; simpa using h2
theorem rowUpto_bad {α : Type} {p : α → Bool} {key : α → ByteArray} {xs : List α} {k : Nat} (hk : k < xs.length) (h2 : rowOk p key xs[k] (preX xs k) = false) : ∀ n, k < n → rowUpto p key xs n = false
  | 0, h => by omega
  | n + 1, h => by
    rw [rowUpto]
    by_cases e : k = n
    · subst e; rw [List.getElem?_eq_getElem hk]; simp [h2]
    · rw [rowUpto_bad hk h2 n (by omega)]; rfl
theorem rowOk_no {α : Type} {p : α → Bool} {key : α → ByteArray} {d : α} {o : Option α} (h : p d = false) : rowOk p key d o = false := by simp [rowOk, h]
theorem rowOk_first {α : Type} {p : α → Bool} {key : α → ByteArray} {d : α} (h : p d = true) : rowOk p key d none = true := by simp [rowOk, h]
theorem rowOk_some {α : Type} {p : α → Bool} {key : α → ByteArray} {d c : α} (h : p d = true) : rowOk p key d (some c) = Op.bytesLess (key c).toList (key d).toList := by simp [rowOk, h]
theorem rowOk_less {α : Type} {p : α → Bool} {key : α → ByteArray} {d c : α} (h : Op.bytesLess (key c).toList (key d).toList = false) : rowOk p key d (some c) = false := by simp [rowOk, h]

def ascB (ts : List ByteArray) : Bool := rowB (fun _ => true) id ts
theorem asc_one (ts : List ByteArray) : rowUpto (fun _ => true) id ts 1 = true := by
  rw [rowUpto, rowUpto]
  cases ts with
  | nil => rfl
  | cons t ts => rfl
theorem asc_end {ts : List ByteArray} {k : Nat} (h1 : 1 ≤ k) (h2 : ¬ k < ts.length) (h3 : k ≤ ts.length ∨ k = 1) (h : rowUpto (fun _ => true) id ts k = true) : ascB ts = true := by
  cases ts with
  | nil => rfl
  | cons t ts =>
    have : k = (t :: ts).length := by
      rcases h3 with h3 | h3
      · omega
      · simp at h2 ⊢; omega
    rw [this] at h
    exact h
theorem rowUpto_split {α : Type} (p : α → Bool) (key : α → ByteArray) (xs : List α) : ∀ k, k ≤ xs.length → rowUpto p key xs k = ((xs.take k).all p && rowUpto (fun _ => true) id (xs.map key) k)
  | 0, _ => rfl
  | k + 1, h => by
    have hk : k < xs.length := by omega
    rw [rowUpto, rowUpto_split p key xs k (by omega), List.getElem?_eq_getElem hk, List.take_succ_eq_append_getElem hk, List.all_append]
    have hm : (xs.map key)[k]? = some (key xs[k]) := by simp [hk]
    have hp : preX (xs.map key) k = (preX xs k).map key := by
      cases k with
      | zero => rfl
      | succ j => simp [preX]
    simp only [rowUpto, hm, hp, rowOk, List.all_cons, List.all_nil, Bool.and_true, Bool.true_and]
    cases preX xs k with
    | none => simp only [Option.map_none]; cases (xs.take k).all p <;> cases rowUpto (fun _ => true) id (xs.map key) k <;> cases p xs[k] <;> rfl
    | some c => simp only [Option.map_some, id]; cases (xs.take k).all p <;> cases rowUpto (fun _ => true) id (xs.map key) k <;> cases p xs[k] <;> cases Op.bytesLess (key c).toList (key xs[k]).toList <;> rfl
theorem rowB_split {α : Type} (p : α → Bool) (key : α → ByteArray) (xs : List α) : rowB p key xs = (xs.all p && ascB (xs.map key)) := by
  unfold rowB ascB rowB
  rw [rowUpto_split p key xs _ (Nat.le_refl _), List.take_length, List.length_map]

/-- The place of the first that p takes, or -1. -/
def firstI {α : Type} (p : α → Bool) (xs : List α) : Int := if xs.findIdx p < xs.length then (xs.findIdx p : Int) else -1
theorem firstI_here {α : Type} {p : α → Bool} {xs : List α} {k : Nat} (h : k < xs.length) (hy : p xs[k] = true) (hn : ∀ j (hj : j < xs.length), j < k → p xs[j] = false) : firstI p xs = (k : Int) := by
  have e : xs.findIdx p = k := by
    rw [List.findIdx_eq h]
    exact ⟨hy, fun j hj => hn j (by omega) hj⟩
  unfold firstI
  rw [e, if_pos h]
theorem firstI_none {α : Type} {p : α → Bool} {xs : List α} (hn : ∀ j (hj : j < xs.length), p xs[j] = false) : firstI p xs = -1 := by
  have e : xs.findIdx p = xs.length := by
    rw [List.findIdx_eq_length]
    intro x hx
    obtain ⟨j, hj, rfl⟩ := List.mem_iff_getElem.1 hx
    exact hn j hj
  unfold firstI
  rw [e, if_neg (by omega)]
theorem firstI_any {α : Type} (p : α → Bool) (xs : List α) : decide (0 ≤ firstI p xs) = xs.any p := by
  unfold firstI
  by_cases h : xs.findIdx p < xs.length
  · rw [if_pos h, decide_eq_true (by omega)]
    have := List.findIdx_lt_length.1 h
    obtain ⟨x, hx, hp⟩ := this
    exact (List.any_eq_true.2 ⟨x, hx, hp⟩).symm
  · rw [if_neg h, decide_eq_false (by omega)]
    have e : xs.findIdx p = xs.length := by have := List.findIdx_le_length (xs := xs) (p := p); omega
    rw [List.findIdx_eq_length] at e
    cases ha : xs.any p with
    | false => rfl
    | true =>
      obtain ⟨x, hx, hp⟩ := List.any_eq_true.1 ha
      have := e x hx
      simp_all
theorem firstI_ge {α : Type} (p : α → Bool) (xs : List α) : -1 ≤ firstI p xs := by unfold firstI; split <;> omega
theorem firstI_le {α : Type} (p : α → Bool) (xs : List α) : firstI p xs ≤ (xs.length : Int) := by unfold firstI; split <;> omega

end Go.Proofs.Ytkkhnldhipfneaa

/-! What the functions that look at a path, name by name, answer (the program's and the specification's): contracts for the walks; condition: the text has at most 2 to the 20 bytes. -/
namespace Go.Proofs.Ytkkhnldhipfneaa
open Go.RowKit
set_option linter.unusedSimpArgs false
set_option linter.unusedVariables false

def pathC (c : Int) : Bool := smallB c || (digitB c || (c == 46 || (c == 45 || c == 95)))

def okPath (_ : Nat) (c : Int) : Bool := pathC c
def pnameB (s : ByteArray) : Bool := allUpto okPath s s.size && (inB s.size 1 12 && (!(s.toList == [46]) && !(s.toList == [46, 46])))

theorem pname_out {s : ByteArray} (h : s.size = 0 ∨ 12 < s.size) : pnameB s = false := by
  have : inB s.size 1 12 = false := by
    simp only [inB, Bool.and_eq_false_iff, decide_eq_false_iff_not]
    omega
  rw [pnameB, this]; simp
theorem pname_in {s : ByteArray} (h0 : 0 < s.size) (h1 : s.size ≤ 12) (h2 : (s.toList == [46]) = false) (h3 : (s.toList == [46, 46]) = false) (h : allUpto okPath s s.size = true) : pnameB s = true := by
  have : inB s.size 1 12 = true := by
    simp only [inB, Bool.and_eq_true, decide_eq_true_eq]
    omega
  rw [pnameB, this, h, h2, h3]; rfl

end Go.Proofs.Ytkkhnldhipfneaa

/-! What the two functions PathOk (the program's and the specification's) answer: the same; condition: the text has at most 2 to the 20 bytes. -/
namespace Go.Proofs.Ytkkhnldhipfneaa
open Go.RowKit
set_option linter.unusedSimpArgs false
set_option linter.unusedVariables false

def pathB (s : ByteArray) : Bool := decide ((splitS s 47).length ≤ 4) && (splitS s 47).all pnameB

theorem all_take_step {l : List ByteArray} {p : ByteArray → Bool} {k : Nat} (hk : k < l.length) (h : (l.take k).all p = true) (hp : p l[k] = true) : (l.take (k + 1)).all p = true := by
  rw [List.take_succ_eq_append_getElem hk, List.all_append, h]; simp [hp]
theorem all_false_at {l : List ByteArray} {p : ByteArray → Bool} {k : Nat} (hk : k < l.length) (hp : p l[k] = false) : l.all p = false := by
  rw [Bool.eq_false_iff]; intro h
  have := List.all_eq_true.1 h _ (List.getElem_mem hk)
  rw [hp] at this; cases this

end Go.Proofs.Ytkkhnldhipfneaa

/-! Steps gone through by going back to the last one that takes many alone, against all ways being tried: they answer alike; no condition (no program stands here). -/
namespace Go.Proofs.Ytkkhnldhipfneaa
set_option linter.unusedSimpArgs false
set_option linter.unusedVariables false

section
variable {α β : Type} (many : α → Bool) (takes : α → β → Bool)

/-- All ways are tried. -/
def fullG : List α → List β → Bool
  | [], l => l.isEmpty
  | a :: p, l => if many a then (List.range (l.length + 1)).any (fun k => fullG p (l.drop k)) else
      match l with
      | [] => false
      | x :: t => takes a x && fullG p t

theorem fullG_nil (l : List β) : fullG many takes [] l = l.isEmpty := by rw [fullG.eq_def]
theorem fullG_many (a : α) (p : List α) (l : List β) (h : many a = true) : fullG many takes (a :: p) l = (List.range (l.length + 1)).any (fun k => fullG many takes p (l.drop k)) := by
  rw [fullG.eq_def]; simp only []; rw [if_pos h]
theorem fullG_none (a : α) (p : List α) (h : many a = false) : fullG many takes (a :: p) [] = false := by
  rw [fullG.eq_def]; simp only []; rw [if_neg (by simp [h])]
theorem fullG_one (a : α) (p : List α) (x : β) (t : List β) (h : many a = false) : fullG many takes (a :: p) (x :: t) = (takes a x && fullG many takes p t) := by
  rw [fullG.eq_def]; simp only []; rw [if_neg (by simp [h])]

/-- From place i of the steps and place j of the things on. -/
def F2 (ps : List α) (xs : List β) (i j : Nat) : Bool := fullG many takes (ps.drop i) (xs.drop j)

variable {many takes} {ps : List α} {xs : List β}

theorem F2_many {i j : Nat} {a : α} (ha : ps[i]? = some a) (hm : many a = true) (hj : j ≤ xs.length) :
    F2 many takes ps xs i j = true ↔ ∃ k, j ≤ k ∧ k ≤ xs.length ∧ F2 many takes ps xs (i + 1) k = true := by
  have hi := (List.getElem?_eq_some_iff.1 ha).1
  have he := (List.getElem?_eq_some_iff.1 ha).2
  unfold F2
  rw [List.drop_eq_getElem_cons hi, he, fullG_many _ _ _ _ _ hm, List.any_eq_true]
  constructor
  · rintro ⟨k, hk, h⟩
    rw [List.mem_range, List.length_drop] at hk
    rw [List.drop_drop] at h
    exact ⟨j + k, by omega, by omega, h⟩
  · rintro ⟨k, h1, h2, h⟩
    refine ⟨k - j, by rw [List.mem_range, List.length_drop]; omega, ?_⟩
    rw [List.drop_drop, show j + (k - j) = k by omega]
    exact h
theorem F2_one {i j : Nat} {a : α} {x : β} (ha : ps[i]? = some a) (hm : many a = false) (hx : xs[j]? = some x) :
    F2 many takes ps xs i j = (takes a x && F2 many takes ps xs (i + 1) (j + 1)) := by
  have hi := (List.getElem?_eq_some_iff.1 ha).1
  have he := (List.getElem?_eq_some_iff.1 ha).2
  have hj := (List.getElem?_eq_some_iff.1 hx).1
  have hxe := (List.getElem?_eq_some_iff.1 hx).2
  unfold F2
  rw [List.drop_eq_getElem_cons hi, he, List.drop_eq_getElem_cons hj, hxe, fullG_one _ _ _ _ _ _ hm]
theorem F2_none {i j : Nat} {a : α} (ha : ps[i]? = some a) (hm : many a = false) (hj : xs.length ≤ j) : F2 many takes ps xs i j = false := by
  have hi := (List.getElem?_eq_some_iff.1 ha).1
  have he := (List.getElem?_eq_some_iff.1 ha).2
  unfold F2
  rw [List.drop_eq_getElem_cons hi, he, List.drop_eq_nil_of_le hj, fullG_none _ _ _ _ hm]
theorem F2_end {i j : Nat} (hi : ps.length ≤ i) : F2 many takes ps xs i j = decide (xs.length ≤ j) := by
  unfold F2
  rw [List.drop_eq_nil_of_le hi, fullG_nil]
  by_cases h : xs.length ≤ j
  · rw [decide_eq_true h, List.drop_eq_nil_of_le h]; rfl
  · rw [decide_eq_false h]
    have : xs.drop j ≠ [] := by
      intro e
      have := congrArg List.length e
      rw [List.length_drop] at this
      simp at this
      omega
    cases hd : xs.drop j with
    | nil => exact absurd hd this
    | cons _ _ => rfl

/-- What a run through steps of which none takes many leads to. -/
theorem F2_pass {b k : Nat} : ∀ (m : Nat), (∀ i a, b ≤ i → i < b + m → ps[i]? = some a → many a = false) → b + m ≤ ps.length → k ≤ xs.length → F2 many takes ps xs b k = true →
    k + m ≤ xs.length ∧ F2 many takes ps xs (b + m) (k + m) = true
  | 0, _, _, hk, h => ⟨hk, h⟩
  | m + 1, hs, hl, hk, h => by
    obtain ⟨h1, h2⟩ := F2_pass m (fun i a h1 h2 h3 => hs i a h1 (by omega) h3) (by omega) hk h
    have ha : ps[b + m]? = some ps[b + m] := List.getElem?_eq_getElem (by omega)
    have hm := hs (b + m) _ (by omega) (by omega) ha
    by_cases hj : k + m < xs.length
    · have hx : xs[k + m]? = some xs[k + m] := List.getElem?_eq_getElem hj
      rw [F2_one ha hm hx, Bool.and_eq_true] at h2
      exact ⟨by omega, h2.2⟩
    · rw [F2_none ha hm (by omega)] at h2
      cases h2

/-- Where the run is: at step s and thing t, behind the last step that takes many (seen: there was one) b steps and tk things lie. -/
def Inv (many : α → Bool) (takes : α → β → Bool) (ps : List α) (xs : List β) (s t b tk : Nat) (seen : Bool) : Prop :=
  s ≤ ps.length ∧ t ≤ xs.length ∧ b ≤ s ∧ t + b = s + tk ∧ (∀ i a, b ≤ i → i < s → ps[i]? = some a → many a = false) ∧
  (F2 many takes ps xs 0 0 = true ↔ (F2 many takes ps xs s t = true ∨ (seen = true ∧ ∃ k, tk < k ∧ k ≤ xs.length ∧ F2 many takes ps xs b k = true)))

theorem inv_start : Inv many takes ps xs 0 0 0 0 false :=
  ⟨Nat.zero_le _, Nat.zero_le _, Nat.le_refl _, rfl, fun i a _ h => by omega, by simp⟩

theorem inv_many {s t b tk : Nat} {seen : Bool} {a : α} (h : Inv many takes ps xs s t b tk seen) (ha : ps[s]? = some a) (hm : many a = true) : Inv many takes ps xs (s + 1) t (s + 1) t true := by
  obtain ⟨h1, h2, h3, h4, h5, h6⟩ := h
  have hs := (List.getElem?_eq_some_iff.1 ha).1
  refine ⟨by omega, h2, Nat.le_refl _, by omega, fun i a h1 h2 => by omega, ?_⟩
  rw [h6]
  have key : ∀ j, t ≤ j → j ≤ xs.length → F2 many takes ps xs s j = true → (F2 many takes ps xs (s + 1) t = true ∨ (true = true ∧ ∃ k, t < k ∧ k ≤ xs.length ∧ F2 many takes ps xs (s + 1) k = true)) := fun j h7 h8 h9 => by
    obtain ⟨k, k1, k2, k3⟩ := (F2_many ha hm h8).1 h9
    by_cases e : k = t
    · subst e; exact .inl k3
    · exact .inr ⟨rfl, k, by omega, k2, k3⟩
  constructor
  · rintro (h | ⟨_, k, k1, k2, k3⟩)
    · exact key t (Nat.le_refl _) h2 h
    · obtain ⟨j1, j2⟩ := F2_pass (s - b) (fun i a q1 q2 q3 => h5 i a q1 (by omega) q3) (by omega) k2 k3
      rw [show b + (s - b) = s by omega] at j2
      exact key _ (by omega) j1 j2
  · rintro (h | ⟨_, k, k1, k2, k3⟩)
    · exact .inl ((F2_many ha hm h2).2 ⟨t, Nat.le_refl _, h2, h⟩)
    · exact .inl ((F2_many ha hm h2).2 ⟨k, by omega, k2, k3⟩)

theorem inv_next {s t b tk : Nat} {seen : Bool} {a : α} {x : β} (h : Inv many takes ps xs s t b tk seen) (ha : ps[s]? = some a) (hm : many a = false) (hx : xs[t]? = some x) (ht : takes a x = true) :
    Inv many takes ps xs (s + 1) (t + 1) b tk seen := by
  obtain ⟨h1, h2, h3, h4, h5, h6⟩ := h
  have hs := (List.getElem?_eq_some_iff.1 ha).1
  have hj := (List.getElem?_eq_some_iff.1 hx).1
  refine ⟨by omega, by omega, by omega, by omega, fun i c q1 q2 q3 => ?_, ?_⟩
  · by_cases e : i = s
    · subst e; rw [ha] at q3; cases q3; exact hm
    · exact h5 i c q1 (by omega) q3
  · rw [h6, F2_one ha hm hx, ht, Bool.true_and]

theorem F2_stop_end {s t : Nat} (hs : s = ps.length) (ht : t ≤ xs.length) (hne : ¬ t = xs.length) : F2 many takes ps xs s t = false := by
  rw [F2_end (by omega)]; simp; omega
theorem F2_stop_none {s t : Nat} {a : α} (ha : ps[s]? = some a) (hm : many a = false) (ht : t = xs.length) : F2 many takes ps xs s t = false := F2_none ha hm (by omega)
theorem F2_stop_not {s t : Nat} {a : α} {x : β} (ha : ps[s]? = some a) (hm : many a = false) (hx : xs[t]? = some x) (ht : takes a x = false) : F2 many takes ps xs s t = false := by
  rw [F2_one ha hm hx, ht]; rfl

theorem inv_back {s t b tk : Nat} {seen : Bool} (h : Inv many takes ps xs s t b tk seen) (hf : F2 many takes ps xs s t = false) (hs : seen = true) (hk : tk < xs.length) : Inv many takes ps xs b (tk + 1) b (tk + 1) true := by
  obtain ⟨h1, h2, h3, h4, h5, h6⟩ := h
  refine ⟨by omega, by omega, Nat.le_refl _, by omega, fun i a q1 q2 => by omega, ?_⟩
  rw [h6, hf]
  constructor
  · rintro (h | ⟨_, k, k1, k2, k3⟩)
    · cases h
    · by_cases e : k = tk + 1
      · subst e; exact .inl k3
      · exact .inr ⟨rfl, k, by omega, k2, k3⟩
  · rintro (h | ⟨_, k, k1, k2, k3⟩)
    · exact .inr ⟨hs, tk + 1, by omega, by omega, h⟩
    · exact .inr ⟨hs, k, by omega, k2, k3⟩

theorem inv_true {s t b tk : Nat} {seen : Bool} (h : Inv many takes ps xs s t b tk seen) (hs : s = ps.length) (ht : t = xs.length) : fullG many takes ps xs = true := by
  have := h.2.2.2.2.2.2 (.inl (by rw [F2_end (by omega)]; simp; omega))
  simpa [F2] using this
theorem inv_false {s t b tk : Nat} {seen : Bool} (h : Inv many takes ps xs s t b tk seen) (hf : F2 many takes ps xs s t = false) (he : seen = false ∨ tk = xs.length) : fullG many takes ps xs = false := by
  rw [Bool.eq_false_iff]
  intro hc
  have h1 : F2 many takes ps xs 0 0 = true := by simpa [F2] using hc
  rcases h.2.2.2.2.2.1 h1 with h2 | ⟨h2, k, h3, h4, _⟩
  · rw [hf] at h2; cases h2
  · rcases he with he | he
    · rw [he] at h2; cases h2
    · omega

/-- How far the run still has to go. -/
def goM (L n s b tk : Nat) : Nat := (L - b) * ((n + 1) * (L + 1)) + (n - tk) * (L + 1) + (L - s)
theorem goM_many {L n s b tk t : Nat} (h1 : b ≤ s) (h2 : s < L) : goM L n (s + 1) (s + 1) t < goM L n s b tk := by
  unfold goM
  have e3 : (n + 1) * (L + 1) = n * (L + 1) + (L + 1) := by rw [Nat.add_mul]; omega
  obtain ⟨M, hM⟩ : ∃ M, M = (n + 1) * (L + 1) := ⟨_, rfl⟩
  rw [← hM] at e3 ⊢
  have e1 : (L - b) * M ≥ (L - (s + 1) + 1) * M := Nat.mul_le_mul_right _ (by omega)
  rw [Nat.add_mul] at e1
  have e2 : (n - t) * (L + 1) ≤ n * (L + 1) := Nat.mul_le_mul_right _ (by omega)
  omega
theorem goM_next {L n s b tk : Nat} (h2 : s < L) : goM L n (s + 1) b tk < goM L n s b tk := by unfold goM; omega
theorem goM_back {L n s b tk : Nat} (h : tk < n) : goM L n b b (tk + 1) < goM L n s b tk := by
  unfold goM
  have e1 : (n - tk) * (L + 1) = (n - (tk + 1)) * (L + 1) + (L + 1) := by
    rw [show n - tk = (n - (tk + 1)) + 1 by omega, Nat.add_mul]; omega
  omega
end
end Go.Proofs.Ytkkhnldhipfneaa

/-! Signs of a pattern's piece, read one by one off its bytes: what is read, and that the rest is read alike from each place; no condition (no program stands here). -/
namespace Go.Proofs.Ytkkhnldhipfneaa
open Go.RowKit
set_option linter.unusedSimpArgs false
set_option linter.unusedVariables false

/-- A sign: it takes many bytes; or one that is in the set (or, nt, is not). -/
structure Sgn where
  many : Bool
  nt : Bool
  set : List UInt8

def setB (c : Int) : Bool := smallB c || digitB c
def runL : List UInt8 → Nat
  | [] => 0
  | c :: t => if setB (c.toNat : Int) then runL t + 1 else 0
def headIs (n : Nat) : List UInt8 → Bool
  | [] => false
  | c :: _ => c.toNat == n
/-- What stands behind a bracket that opens, and how many bytes it takes with the bracket. -/
def setL (t : List UInt8) : Option (Sgn × Nat) :=
  if headIs 93 ((t.drop (headIs 33 t).toNat).drop (runL (t.drop (headIs 33 t).toNat))) && inB (runL (t.drop (headIs 33 t).toNat)) 1 5 then
    some (⟨false, headIs 33 t, (t.drop (headIs 33 t).toNat).take (runL (t.drop (headIs 33 t).toNat))⟩, 1 + (headIs 33 t).toNat + runL (t.drop (headIs 33 t).toNat) + 1)
  else none
def signL : List UInt8 → Option (Sgn × Nat)
  | [] => none
  | c :: t =>
    if c.toNat = 91 then setL t
    else if c.toNat = 42 then some (⟨true, false, []⟩, 1)
    else if c.toNat = 63 then some (⟨false, true, []⟩, 1)
    else if pathC (c.toNat : Int) then some (⟨false, false, [c]⟩, 1)
    else none

theorem signL_cons (c : UInt8) (t : List UInt8) : signL (c :: t) = if c.toNat = 91 then setL t
    else if c.toNat = 42 then some (⟨true, false, []⟩, 1)
    else if c.toNat = 63 then some (⟨false, true, []⟩, 1)
    else if pathC (c.toNat : Int) then some (⟨false, false, [c]⟩, 1)
    else none := rfl
theorem signL_pos {l : List UInt8} {g : Sgn} {k : Nat} (h : signL l = some (g, k)) : 1 ≤ k := by
  cases l with
  | nil => cases h
  | cons c t =>
    rw [signL_cons] at h
    split at h
    · unfold setL at h
      split at h
      · cases h; omega
      · cases h
    split at h
    · cases h; omega
    split at h
    · cases h; omega
    split at h
    · cases h; omega
    · cases h

def signsL : Nat → List UInt8 → Option (List Sgn)
  | 0, _ => some []
  | _ + 1, [] => some []
  | n + 1, c :: t =>
    match signL (c :: t) with
    | none => none
    | some (g, k) => (signsL n ((c :: t).drop k)).map (g :: ·)
theorem signsL_fuel : ∀ (n m : Nat) (l : List UInt8), l.length ≤ n → l.length ≤ m → signsL n l = signsL m l
  | 0, 0, _, _, _ => rfl
  | 0, m + 1, [], _, _ => rfl
  | 0, m + 1, c :: t, h, _ => by simp at h
  | n + 1, 0, [], _, _ => rfl
  | n + 1, 0, c :: t, _, h => by simp at h
  | n + 1, m + 1, [], _, _ => rfl
  | n + 1, m + 1, c :: t, h1, h2 => by
    rw [signsL, signsL]
    cases hs : signL (c :: t) with
    | none => rfl
    | some p =>
      obtain ⟨g, k⟩ := p
      have hk := signL_pos hs
      have hl : ((c :: t).drop k).length ≤ t.length := by rw [List.length_drop]; simp; omega
      simp only [List.length_cons] at h1 h2
      simp only []
      rw [signsL_fuel n m _ (by omega) (by omega)]

/-- All signs; none: they cannot be read. -/
def signsOf (l : List UInt8) : Option (List Sgn) := signsL l.length l
theorem signsOf_nil : signsOf [] = some [] := rfl
theorem signsOf_none {l : List UInt8} (h0 : l ≠ []) (h : signL l = none) : signsOf l = none := by
  cases l with
  | nil => exact absurd rfl h0
  | cons c t => unfold signsOf; rw [List.length_cons, signsL, h]
theorem signsOf_some {l : List UInt8} {g : Sgn} {k : Nat} (h : signL l = some (g, k)) : signsOf l = (signsOf (l.drop k)).map (g :: ·) := by
  cases l with
  | nil => cases h
  | cons c t =>
    have hk := signL_pos h
    unfold signsOf
    rw [List.length_cons, signsL, h]
    simp only []
    rw [signsL_fuel _ _ _ _ (Nat.le_refl _)]
    rw [List.length_drop]; simp; omega

def pieceB (s : ByteArray) : Bool := match signsOf s.data.toList with | some l => inB l.length 1 12 | none => false
def sgnsOf (s : ByteArray) : List Sgn := (signsOf s.data.toList).getD []
def globB (s : ByteArray) : Bool := decide ((splitS s 47).length ≤ 4) && (splitS s 47).all pieceB

theorem drop_cons (s : ByteArray) (i : Nat) (h : i < s.size) : s.data.toList.drop i = s[i] :: s.data.toList.drop (i + 1) := by
  rw [List.drop_eq_getElem_cons (by rw [len_list]; exact h)]; rfl
theorem drop_end (s : ByteArray) (i : Nat) (h : s.size ≤ i) : s.data.toList.drop i = [] := List.drop_eq_nil_of_le (by rw [len_list]; exact h)

/-- What is read so far, and the rest, are all. -/
def ReadTo (l : List UInt8) (i : Nat) (xs : List Sgn) : Prop := signsOf l = (signsOf (l.drop i)).map (xs ++ ·)
theorem readTo_start (l : List UInt8) : ReadTo l 0 [] := by unfold ReadTo; simp
theorem readTo_step {l : List UInt8} {i k : Nat} {xs : List Sgn} {g : Sgn} (h : ReadTo l i xs) (hs : signL (l.drop i) = some (g, k)) : ReadTo l (i + k) (xs ++ [g]) := by
  unfold ReadTo at *
  rw [h, signsOf_some hs, List.drop_drop, Option.map_map]
  congr 1
  funext ys
  simp
theorem readTo_none {l : List UInt8} {i : Nat} {xs : List Sgn} (h : ReadTo l i xs) (hi : i < l.length) (hs : signL (l.drop i) = none) : signsOf l = none := by
  unfold ReadTo at h
  rw [h, signsOf_none (by intro e; have := congrArg List.length e; rw [List.length_drop] at this; simp at this; omega) hs]; rfl
theorem readTo_end {l : List UInt8} {i : Nat} {xs : List Sgn} (h : ReadTo l i xs) (hi : l.length ≤ i) : signsOf l = some xs := by
  unfold ReadTo at h
  rw [h, List.drop_eq_nil_of_le hi]; simp [signsOf_nil]
/-- Where a thing is left to be read there is one more sign, or none at all can be read. -/
theorem readTo_more {l : List UInt8} {i : Nat} {xs ys : List Sgn} (h : ReadTo l i xs) (hi : i < l.length) (hy : signsOf l = some ys) : xs.length + 1 ≤ ys.length := by
  cases hs : signL (l.drop i) with
  | none => rw [readTo_none h hi hs] at hy; cases hy
  | some p =>
    obtain ⟨g, k⟩ := p
    have h2 := readTo_step h hs
    unfold ReadTo at h2
    rw [hy] at h2
    cases hz : signsOf (l.drop (i + k)) with
    | none => rw [hz] at h2; cases h2
    | some zs =>
      rw [hz] at h2
      simp only [Option.map_some, Option.some.injEq] at h2
      rw [h2]; simp

theorem runL_take {l : List UInt8} {i : Nat} : ∀ (n : Nat), (∀ j, j < n → ∃ c, l[i + j]? = some c ∧ setB (c.toNat : Int) = true) → runL (l.drop i) = n + runL (l.drop (i + n))
  | 0, _ => by simp
  | n + 1, h => by
    rw [runL_take n (fun j hj => h j (by omega))]
    obtain ⟨c, hc, hb⟩ := h n (by omega)
    have hi := (List.getElem?_eq_some_iff.1 hc).1
    have he := (List.getElem?_eq_some_iff.1 hc).2
    rw [List.drop_eq_getElem_cons hi, he, runL, if_pos hb, show i + (n + 1) = i + n + 1 by omega]
    omega
theorem runL_stop {l : List UInt8} (h : ∀ c t, l = c :: t → setB (c.toNat : Int) = false) : runL l = 0 := by
  cases l with
  | nil => rfl
  | cons c t => rw [runL, if_neg (by simp [h c t rfl])]
end Go.Proofs.Ytkkhnldhipfneaa

/-! What the specification's functions that look at a pattern answer (a set in brackets, a piece, a pattern): contracts for the walks; condition: the text has at most 2 to the 20 bytes. -/
namespace Go.Proofs.Ytkkhnldhipfneaa
open Go.RowKit
set_option linter.unusedSimpArgs false
set_option linter.unusedVariables false

theorem setL_at (l : List UInt8) (i m n : Nat) (hm : (headIs 33 (l.drop (i + 1))).toNat = m) (hn : runL (l.drop (i + 1 + m)) = n) :
    setL (l.drop (i + 1)) = if headIs 93 (l.drop (i + 1 + m + n)) && inB n 1 5 then some (⟨false, headIs 33 (l.drop (i + 1)), (l.drop (i + 1 + m)).take n⟩, 1 + m + n + 1) else none := by
  unfold setL
  have e : (l.drop (i + 1)).drop m = l.drop (i + 1 + m) := by rw [List.drop_drop]
  rw [hm, e, hn, List.drop_drop]

/-- The place behind what stands in brackets; -1: it is none. -/
def classI (s : ByteArray) (i : Nat) : Int := match setL (s.data.toList.drop (i + 1)) with | some (_, k) => ((i + k : Nat) : Int) | none => -1

theorem headIs_at (s : ByteArray) (n i : Nat) (h : i < s.size) : headIs n (s.data.toList.drop i) = ((s[i]).toNat == n) := by rw [drop_cons s i h]; rfl
theorem headIs_end (s : ByteArray) (n i : Nat) (h : s.size ≤ i) : headIs n (s.data.toList.drop i) = false := by rw [drop_end s i h]; rfl
theorem list_at (s : ByteArray) (i : Nat) (h : i < s.size) : s.data.toList[i]? = some s[i] := by
  rw [bang_list s i h, byteBang s i h]

/-- A run of bytes of a set, from place f on, j of them. -/
def RunTo (s : ByteArray) (f j : Nat) : Prop := ∀ i, i < j → ∃ c, s.data.toList[f + i]? = some c ∧ setB (c.toNat : Int) = true
theorem runTo_step {s : ByteArray} {f j : Nat} (h : RunTo s f j) (hk : f + j < s.size) (hb : setB ((s[f + j]).toNat : Int) = true) : RunTo s f (j + 1) := fun i hi => by
  by_cases e : i = j
  · subst e; exact ⟨_, list_at s _ hk, hb⟩
  · exact h i (by omega)
theorem runTo_end {s : ByteArray} {f j : Nat} (h : RunTo s f j) (he : ∀ (hk : f + j < s.size), setB ((s[f + j]).toNat : Int) = false) : runL (s.data.toList.drop f) = j := by
  rw [runL_take j h, runL_stop, Nat.add_zero]
  intro c t hc
  by_cases hk : f + j < s.size
  · rw [drop_cons s _ hk] at hc
    cases hc
    exact he hk
  · rw [drop_end s _ (by omega)] at hc
    cases hc
theorem classI_of {s : ByteArray} {i m n : Nat} (hm : (headIs 33 (s.data.toList.drop (i + 1))).toNat = m) (hn : runL (s.data.toList.drop (i + 1 + m)) = n) :
    classI s i = if headIs 93 (s.data.toList.drop (i + 1 + m + n)) && inB n 1 5 then ((i + 1 + m + n + 1 : Nat) : Int) else -1 := by
  unfold classI
  rw [setL_at _ i m n hm hn]
  split
  · rename_i h
    split at h
    · cases h
      rename_i hc
      rw [if_pos hc]
      omega
    · cases h
  · rename_i h
    split at h
    · cases h
    · rename_i hc
      rw [if_neg hc]

end Go.Proofs.Ytkkhnldhipfneaa

/-! What the specification's functions that look at a piece and at a pattern answer: contracts for the walks; condition: the text has at most 2 to the 20 bytes. -/
namespace Go.Proofs.Ytkkhnldhipfneaa
open Go.RowKit
set_option linter.unusedSimpArgs false
set_option linter.unusedVariables false

theorem headIs_pos {n : Nat} {l : List UInt8} (h : headIs n l = true) : 0 < l.length := by
  cases l with
  | nil => cases h
  | cons c t => simp
theorem headIs_len {n : Nat} {l : List UInt8} : (headIs n l).toNat ≤ l.length := by
  cases l with
  | nil => simp [headIs]
  | cons c t => have : (headIs n (c :: t)).toNat ≤ 1 := Bool.toNat_le _; simp; omega
theorem setL_le {t : List UInt8} {g : Sgn} {k : Nat} (h : setL t = some (g, k)) : k ≤ t.length + 1 := by
  unfold setL at h
  split at h
  · rename_i hc
    rw [Bool.and_eq_true] at hc
    have h1 := headIs_pos hc.1
    rw [List.drop_drop, List.length_drop] at h1
    cases h
    omega
  · cases h
theorem signL_le {l : List UInt8} {g : Sgn} {k : Nat} (h : signL l = some (g, k)) : k ≤ l.length := by
  cases l with
  | nil => cases h
  | cons c t =>
    rw [signL_cons] at h
    simp only [List.length_cons]
    split at h
    · exact setL_le h
    split at h
    · cases h; omega
    split at h
    · cases h; omega
    split at h
    · cases h; omega
    · cases h

theorem signL_set {s : ByteArray} {i : Nat} (hi : i < s.size) (h : (s[i]).toNat = 91) : signL (s.data.toList.drop i) = setL (s.data.toList.drop (i + 1)) := by
  rw [drop_cons s i hi, signL_cons, if_pos h]
theorem signL_star {s : ByteArray} {i : Nat} (hi : i < s.size) (h : (s[i]).toNat = 42) : signL (s.data.toList.drop i) = some (⟨true, false, []⟩, 1) := by
  rw [drop_cons s i hi, signL_cons, if_neg (by omega), if_pos h]
theorem signL_any {s : ByteArray} {i : Nat} (hi : i < s.size) (h : (s[i]).toNat = 63) : signL (s.data.toList.drop i) = some (⟨false, true, []⟩, 1) := by
  rw [drop_cons s i hi, signL_cons, if_neg (by omega), if_neg (by omega), if_pos h]
theorem pathC_not {n : Nat} (h : pathC (n : Int) = true) : n ≠ 91 ∧ n ≠ 42 ∧ n ≠ 63 ∧ n ≠ 33 := by
  refine ⟨?_, ?_, ?_, ?_⟩ <;> (rintro rfl; exact absurd h (by decide))
theorem signL_path {s : ByteArray} {i : Nat} (hi : i < s.size) (h : pathC ((s[i]).toNat : Int) = true) : signL (s.data.toList.drop i) = some (⟨false, false, [s[i]]⟩, 1) := by
  obtain ⟨h1, h2, h3, _⟩ := pathC_not h
  rw [drop_cons s i hi, signL_cons, if_neg h1, if_neg h2, if_neg h3, if_pos h]
theorem signL_bad {s : ByteArray} {i : Nat} (hi : i < s.size) (h1 : (s[i]).toNat ≠ 91) (h2 : (s[i]).toNat ≠ 42) (h3 : (s[i]).toNat ≠ 63) (h : pathC ((s[i]).toNat : Int) = false) : signL (s.data.toList.drop i) = none := by
  rw [drop_cons s i hi, signL_cons, if_neg h1, if_neg h2, if_neg h3, if_neg (by simp [h])]

theorem pieceB_none {s : ByteArray} (h : signsOf s.data.toList = none) : pieceB s = false := by unfold pieceB; rw [h]
theorem pieceB_some {s : ByteArray} {l : List Sgn} (h : signsOf s.data.toList = some l) : pieceB s = inB l.length 1 12 := by unfold pieceB; rw [h]

theorem readTo_bad {s : ByteArray} {i : Nat} {xs : List Sgn} (h : ReadTo s.data.toList i xs) (hi : i < s.size) (hs : signL (s.data.toList.drop i) = none) : pieceB s = false :=
  pieceB_none (readTo_none h (by rw [len_list]; exact hi) hs)
theorem readTo_all {s : ByteArray} {i : Nat} {xs : List Sgn} (h : ReadTo s.data.toList i xs) (hi : s.size ≤ i) : pieceB s = inB xs.length 1 12 :=
  pieceB_some (readTo_end h (by rw [len_list]; exact hi))
theorem signL_in {s : ByteArray} {i k : Nat} {g : Sgn} (hi : i < s.size) (h : signL (s.data.toList.drop i) = some (g, k)) : i + k ≤ s.size := by
  have := signL_le h
  rw [List.length_drop, len_list] at this
  omega

theorem pieceB_stars {s : ByteArray} (h : s.toList = [42, 42]) : pieceB s = true := by
  have e : s.data.toList = [42, 42] := by rw [← Lib.toList_data]; exact h
  rw [pieceB_some (l := [⟨true, false, []⟩, ⟨true, false, []⟩]) (by rw [e]; rfl)]
  rfl

end Go.Proofs.Ytkkhnldhipfneaa

/-! When a rule, and rules, are right; no condition. -/
namespace Go.Proofs.Ytkkhnldhipfneaa
open Go.RowKit
set_option linter.unusedSimpArgs false
set_option linter.unusedVariables false

def fewB (p : ByteArray → Bool) (n : Nat) (l : List ByteArray) : Bool := decide (l.length ≤ n) && l.all p
def inTB (s : ByteArray) : Bool := decide (s.size ≤ 60) && globB s
def ruleB (d : RuleD) : Bool := nameB d.task && (fewB onB 4 d.on && (fewB inTB 4 d.ins && fewB nameB 3 d.envs))
def rulesB (xs : List RuleD) : Bool := rowB ruleB RuleD.task xs && decide (xs.length ≤ 5)
theorem not_any_r {α : Type} (p : α → Bool) (xs : List α) : (!(xs.any fun x => !p x)) = xs.all p := by
  induction xs with
  | nil => rfl
  | cons a l ih => simp only [List.any_cons, List.all_cons, Bool.not_or, Bool.not_not, ih]
theorem rulesB_eq (xs : List RuleD) : rulesB xs = (decide (xs.length ≤ 5) && (ascB (xs.map RuleD.task) && !(xs.any fun d => !ruleB d))) := by
  rw [rulesB, rowB_split, not_any_r]
  cases decide (xs.length ≤ 5) <;> cases ascB (xs.map RuleD.task) <;> cases xs.all ruleB <;> rfl
/-- Each text of a rule has at most 2 to the 20 bytes. -/
def smallR (d : RuleD) : Prop := (∀ s ∈ d.on, s.size ≤ 1048576) ∧ (∀ s ∈ d.ins, s.size ≤ 1048576) ∧ (∀ s ∈ d.envs, s.size ≤ 1048576)
theorem bulk_mem {ss : List ByteArray} {s : ByteArray} (h : s ∈ ss) : s.size ≤ bulkS ss := by
  have : s.size ≤ (ss.map ByteArray.size).sum := by
    induction ss with
    | nil => simp at h
    | cons a l ih =>
      simp only [List.map_cons, List.sum_cons]
      rcases List.mem_cons.1 h with rfl | h
      · omega
      · have := ih h; omega
  unfold bulkS; omega
theorem smallR_of {d : RuleD} (h : wtRule d ≤ 1048576) : smallR d := by
  unfold wtRule at h
  refine ⟨fun s hs => ?_, fun s hs => ?_, fun s hs => ?_⟩ <;> (have := bulk_mem hs; omega)
theorem smallRs_of {xs : List RuleD} (h : wtRow wtRule xs ≤ 1048576) : ∀ d ∈ xs, smallR d := fun d hd => smallR_of (by have := wt_wtRow wtRule hd; omega)
theorem below_nextR {w w1 w2 : World} (h : Below w.heap.size w w1) (h2 : Below w1.heap.size w1 w2) : Below w.heap.size w w2 := h.trans (h2.mono h.size)
end Go.Proofs.Ytkkhnldhipfneaa

/-! Rows of texts: whether they ascend, whether one is among them, whether one is no name or not plain, as the program asks it: contracts for the walks; conditions: the rows lie in memory. -/
namespace Go.Proofs.Ytkkhnldhipfneaa
open Go.RowKit
set_option linter.unusedSimpArgs false
set_option linter.unusedVariables false

theorem text_alike (a b : ByteArray) : (a.toList == b.toList) = decide (a = b) := by
  by_cases h : a = b
  · subst h; simp
  · rw [decide_eq_false h]
    cases hh : (a.toList == b.toList) with
    | false => rfl
    | true => exact absurd (bytes_eq_of_toList (by simpa using hh)) h
set_option maxHeartbeats 2000000 in
set_option maxRecDepth 100000 in
theorem indexStr_c (v : Value) (ss : List ByteArray) (n : ByteArray) (w : World) (hv : Reads w v (strsV ss)) (hs : saneP ss) :
    Calls Try.prog 68 #[v, .string n] w fun e w' => e = .returned (.int .i64 (firstI (fun u => decide (n = u)) ss)) ∧ Below w.heap.size w w' := by
  obtain ⟨a, cap, rfl, _, ha⟩ := reads_strs hv
  obtain ⟨hl, hsz⟩ := hs
  clear hv
  unfold maxLen at hl
  obtain ⟨R, hR⟩ : ∃ R, R = firstI (fun u => decide (n = u)) ss := ⟨_, rfl⟩
  rw [← hR]
  have HR := hidden hR
  clear hR
  go_enter Try.func68, Try.ntmps68
  go_wp2_with fail
  go_loopw [8] (fun vi wr => ∃ k : Nat, k ≤ ss.length ∧ vi = .int .i64 (k : Int) ∧ Hid (∀ j (hj : j < ss.length), j < k → (fun u => decide (n = u)) ss[j] = false) ∧ Below w.heap.size w wr) (fun vi _ => ss.length - (intOf vi).toNat)
  case atStart => exact ⟨0, Nat.zero_le _, rfl, (fun j hj h => by omega), Below.refl _ _⟩
  case round =>
    obtain ⟨k, hk, rfl, hno, hbr⟩ := hrel
    by_cases hlt' : k < ss.length
    · rcases ha with rfl | ⟨b, off, rfl, hlt, ha⟩
      · simp at hlt'
      have e0 : wr.cell? ⟨b, off + k, none⟩ = some (.string ss[k]) := (hbr.cell (by simpa using hlt)).trans (ha k hlt')
      have HT : Hid ((fun u => decide (n = u)) ss[k] = true → R = (k : Int)) := fun h => HR.out.trans (firstI_here hlt' h hno.out)
      have HN : Hid ((fun u => decide (n = u)) ss[k] = false → ∀ j (hj : j < ss.length), j < k + 1 → (fun u => decide (n = u)) ss[j] = false) := fun h j hj hjk => by
        by_cases e : j = k
        · subst e; exact h
        · exact hno.out j hj (by omega)
      obtain ⟨t, ht⟩ : ∃ t, t = ss[k] := ⟨_, rfl⟩
      rw [← ht] at e0 HT HN
      have hal := text_alike n t
      have hki : (k : Int) < (ss.length : Int) := by omega
      clear ha ht hno hsz
      by_cases hts : n = t
      · have hq : (n.toList == t.toList) = true := by rw [hal]; simpa using hts
        have HT2 := hidden (HT.out (by simpa using hts))
        clear HT HN hts hal
        go_wp2_with fail
        go_ret
        exact ⟨by rw [HT2.out]; rfl, hbr⟩
      · have hq : (n.toList == t.toList) = false := by rw [hal]; simpa using hts
        have HN2 := hidden (HN.out (by simpa using hts))
        clear HT HN hts hal
        go_wp2_with fail
        go_roundw
        case rel => exact ⟨k + 1, by omega, by go_num, HN2.out, hbr⟩
        case measure => simp [intOf]; omega
    · have he : k = ss.length := by omega
      subst he
      have HE : Hid (R = -1) := HR.out.trans (firstI_none (fun j hj => hno.out j hj hj))
      clear ha hno HR hsz
      go_wp2_with fail
      go_ret
      exact ⟨by rw [HE.out]; rfl, hbr⟩
set_option maxHeartbeats 1000000 in
theorem hasStr_c (v : Value) (ss : List ByteArray) (n : ByteArray) (w : World) (hv : Reads w v (strsV ss)) (hs : saneP ss) :
    Calls Try.prog 41 #[v, .string n] w fun e w' => e = .returned (.bool (ss.any fun u => decide (n = u))) ∧ Below w.heap.size w w' := by
  have HF := indexStr_c v ss n w hv hs
  have hA := firstI_any (fun u => decide (n = u)) ss
  obtain ⟨R, hR⟩ : ∃ R, R = firstI (fun u => decide (n = u)) ss := ⟨_, rfl⟩
  rw [← hR] at HF hA
  rw [← hA]
  have HF2 := hidden HF
  obtain ⟨a, cap, rfl, _, _⟩ := reads_strs hv
  clear hv hR hA HF
  by_cases h0 : 0 ≤ R
  · rw [decide_eq_true h0]
    go_enter Try.func41, Try.ntmps41
    go_wp2_with (go_at_call 68; refine HF2.out.mono ?_; rintro e w1 ⟨rfl, b1⟩)
    go_ret
    exact ⟨by first | rfl | simp [h0] | (simp; omega), b1⟩
  · rw [decide_eq_false h0]
    go_enter Try.func41, Try.ntmps41
    go_wp2_with (go_at_call 68; refine HF2.out.mono ?_; rintro e w1 ⟨rfl, b1⟩)
    go_ret
    exact ⟨by first | rfl | simp [h0] | (simp; omega), b1⟩

set_option maxHeartbeats 8000000 in
set_option maxRecDepth 100000 in
theorem l7Asc_c (v : Value) (ss : List ByteArray) (w : World) (hv : Reads w v (strsV ss)) (hs : saneP ss) :
    Calls Try.prog 53 #[v] w fun e w' => e = .returned (.bool (ascB ss)) ∧ Below w.heap.size w w' := by
  obtain ⟨a, cap, rfl, _, ha⟩ := reads_strs hv
  obtain ⟨hl, hsz⟩ := hs
  clear hv hsz
  unfold maxLen at hl
  obtain ⟨R, hR⟩ : ∃ R, R = ascB ss := ⟨_, rfl⟩
  rw [← hR]
  have HR := hidden hR
  clear hR
  go_enter Try.func53, Try.ntmps53
  go_wp2_with fail
  go_loopw [3] (fun vi wr => ∃ k : Nat, 1 ≤ k ∧ (k ≤ ss.length ∨ k = 1) ∧ vi = .int .i64 (k : Int) ∧ Hid (rowUpto (fun _ => true) id ss k = true) ∧ Below w.heap.size w wr) (fun vi _ => ss.length - (intOf vi).toNat)
  case atStart => exact ⟨1, Nat.le_refl _, .inr rfl, rfl, asc_one _, Below.refl _ _⟩
  case round =>
    obtain ⟨k, hk1, hk, rfl, hh, hbr⟩ := hrel
    by_cases hlt' : k < ss.length
    · rcases ha with rfl | ⟨b, off, rfl, hlt, ha⟩
      · simp at hlt'
      obtain ⟨j, rfl⟩ : ∃ j, k = j + 1 := ⟨k - 1, by omega⟩
      have hj' : j < ss.length := by omega
      have hbb : b < wr.heap.size := Nat.lt_of_lt_of_le hlt hbr.size
      have yv : wr.cell? ⟨b, off + j, none⟩ = some (.string ss[j]) := (hbr.cell (by simpa using hlt)).trans (ha j hj')
      have xv : wr.cell? ⟨b, off + (j + 1), none⟩ = some (.string ss[j + 1]) := (hbr.cell (by simpa using hlt)).trans (ha (j + 1) hlt')
      have hpre : preX ss (j + 1) = some ss[j] := by simp [preX, hj']
      have HBD : Hid (Op.bytesLess ss[j].toList ss[j + 1].toList = false → R = false) := fun h => HR.out.trans (rowUpto_bad hlt' (by rw [hpre]; exact rowOk_less h) _ hlt')
      have HGD : Hid (Op.bytesLess ss[j].toList ss[j + 1].toList = true → rowUpto (fun _ => true) id ss (j + 1 + 1) = true) := fun h => rowUpto_step hlt' hh.out (by rw [hpre, rowOk_some rfl]; exact h)
      obtain ⟨c, hc0⟩ : ∃ c, c = ss[j] := ⟨_, rfl⟩
      obtain ⟨d, hd0'⟩ : ∃ d, d = ss[j + 1] := ⟨_, rfl⟩
      rw [← hc0] at yv HBD HGD
      rw [← hd0'] at xv HBD HGD
      clear ha hpre hc0 hd0' hh
      have hj0 : (0 : Int) ≤ (j : Int) + 1 := by omega
      have hj2 : (j : Int) + 1 < (ss.length : Int) := by omega
      have hj3 : (j : Int) < (ss.length : Int) := by omega
      have hjw : IntKind.i64.wrap (j : Int) = (j : Int) := IntWalk.i64_in _ ⟨by omega, by omega⟩
      have hd0 : Below wr.heap.size wr wr.drew := (Below.refl _ _).drew
      have KEEP : Hid (∀ w1, Below wr.heap.size wr w1 → w1.cell? ⟨b, off + j, none⟩ = some (.string c) ∧ w1.cell? ⟨b, off + (j + 1), none⟩ = some (.string d)) := fun w1 h => ⟨(h.cell (by simpa using hbb)).trans yv, (h.cell (by simpa using hbb)).trans xv⟩
      clear yv xv
      go_wp2_with fail
      refine wp_region_held_drew (S := (fun w' => w'.cell? ⟨b, off + j, none⟩ = some (.string c) ∧ w'.cell? ⟨b, off + (j + 1), none⟩ = some (.string d))) (by kernel_rfl) ?SR20 (fun hHeld => ?_)
      case SR20 => (with_reducible exact KEEP.out _ hd0)
      refine wpAnyH_take (i := 0) (oi := _) (v := ?vR20) rfl (by kernel_rfl) (by kernel_rfl) (by kernel_rfl) (fun _ _ _ h => h) (Or.inl ⟨by rfl, ?yR20⟩) hHeld ?_
      case yR20 => (intro w hSw; (try dsimp only at hSw); go_simp <;> with_reducible rfl)
      try simp only [Act.put, List.getElem_toArray, List.getElem_cons_zero, List.getElem_cons_succ, List.setIfInBounds_toArray, List.set_cons_zero, List.set_cons_succ]
      refine wpAnyH_take (i := 1) (oi := _) (v := ?vR21) rfl (by kernel_rfl) (by kernel_rfl) (by kernel_rfl) (fun _ _ _ h => h) (Or.inl ⟨by rfl, ?yR21⟩) hHeld ?_
      case yR21 => (intro w hSw; (try dsimp only at hSw); go_simp <;> with_reducible rfl)
      try simp only [Act.put, List.getElem_toArray, List.getElem_cons_zero, List.getElem_cons_succ, List.setIfInBounds_toArray, List.set_cons_zero, List.set_cons_succ]
      refine wpAnyH_take (i := 2) (oi := _) (v := ?vR22) rfl (by kernel_rfl) (by kernel_rfl) (by kernel_rfl) (fun _ _ _ h => h) (Or.inl ⟨by rfl, ?yR22⟩) hHeld ?_
      case yR22 => (intro w hSw; (try dsimp only at hSw); go_simp <;> with_reducible rfl)
      try simp only [Act.put, List.getElem_toArray, List.getElem_cons_zero, List.getElem_cons_succ, List.setIfInBounds_toArray, List.set_cons_zero, List.set_cons_succ]
      refine wpAnyH_take (i := 3) (oi := _) (v := ?vR23) rfl (by kernel_rfl) (by kernel_rfl) (by kernel_rfl) (fun _ _ _ h => h) (Or.inl ⟨by rfl, ?yR23⟩) hHeld ?_
      case yR23 => (intro w hSw; (try dsimp only at hSw); go_simp <;> with_reducible rfl)
      try simp only [Act.put, List.getElem_toArray, List.getElem_cons_zero, List.getElem_cons_succ, List.setIfInBounds_toArray, List.set_cons_zero, List.set_cons_succ]
      refine wpAnyH_take (i := 4) (oi := _) (v := ?vR24) rfl (by kernel_rfl) (by kernel_rfl) (by kernel_rfl) (fun _ _ _ h => h) (Or.inl ⟨by rfl, ?yR24⟩) hHeld ?_
      case yR24 => (intro w hSw; (try dsimp only at hSw); go_simp <;> with_reducible rfl)
      try simp only [Act.put, List.getElem_toArray, List.getElem_cons_zero, List.getElem_cons_succ, List.setIfInBounds_toArray, List.set_cons_zero, List.set_cons_succ]
      refine wpAnyH_take (i := 5) (oi := _) (v := ?vR25) rfl (by kernel_rfl) (by kernel_rfl) (by kernel_rfl) (fun _ _ _ h => h) (Or.inl ⟨by rfl, ?yR25⟩) hHeld ?_
      case yR25 => (intro w hSw; (try dsimp only at hSw); go_simp <;> with_reducible rfl)
      try simp only [Act.put, List.getElem_toArray, List.getElem_cons_zero, List.getElem_cons_succ, List.setIfInBounds_toArray, List.set_cons_zero, List.set_cons_succ]
      refine wpAnyH_take (i := 6) (oi := _) (v := ?vR26) rfl (by kernel_rfl) (by kernel_rfl) (by kernel_rfl) (fun _ _ _ h => h) (Or.inl ⟨by rfl, ?yR26⟩) hHeld ?_
      case yR26 => (intro w hSw; (try dsimp only at hSw); go_simp <;> with_reducible rfl)
      try simp only [Act.put, List.getElem_toArray, List.getElem_cons_zero, List.getElem_cons_succ, List.setIfInBounds_toArray, List.set_cons_zero, List.set_cons_succ]
      refine wpAnyH_take (i := 7) (oi := _) (v := ?vR27) rfl (by kernel_rfl) (by kernel_rfl) (by kernel_rfl) (fun _ _ _ h => h) (Or.inl ⟨by rfl, ?yR27⟩) hHeld ?_
      case yR27 => (intro w hSw; (try dsimp only at hSw); go_simp <;> with_reducible rfl)
      try simp only [Act.put, List.getElem_toArray, List.getElem_cons_zero, List.getElem_cons_succ, List.setIfInBounds_toArray, List.set_cons_zero, List.set_cons_succ]
      refine wpAnyH_take (i := 8) (oi := _) (v := ?vR28) rfl (by kernel_rfl) (by kernel_rfl) (by kernel_rfl) (fun _ _ _ h => h) (Or.inl ⟨by rfl, ?yR28⟩) hHeld ?_
      case yR28 => (intro w hSw; (try dsimp only at hSw); go_simp <;> with_reducible rfl)
      try simp only [Act.put, List.getElem_toArray, List.getElem_cons_zero, List.getElem_cons_succ, List.setIfInBounds_toArray, List.set_cons_zero, List.set_cons_succ]
      refine wpAnyH_take (i := 9) (oi := _) (v := ?vR29) rfl (by kernel_rfl) (by kernel_rfl) (by kernel_rfl) (fun _ _ _ h => h) (Or.inl ⟨by rfl, ?yR29⟩) hHeld ?_
      case yR29 => (intro w hSw; (try dsimp only at hSw); go_simp <;> with_reducible rfl)
      try simp only [Act.put, List.getElem_toArray, List.getElem_cons_zero, List.getElem_cons_succ, List.setIfInBounds_toArray, List.set_cons_zero, List.set_cons_succ]
      refine wpAnyH_done (by kernel_rfl) ?_ _
      go_wp2_with fail
      · have hlx : (!Op.bytesLess c.toList d.toList) = true := by assumption
        go_ret
        exact ⟨by rw [HBD.out (by simpa using hlx)]; rfl, hbr.trans (hd0.mono hbr.size)⟩
      · have hlx : (!Op.bytesLess c.toList d.toList) = false := by assumption
        go_roundw
        case rel => exact ⟨j + 1 + 1, by omega, .inl (by omega), by go_num, HGD.out (by simpa using hlx), hbr.trans (hd0.mono hbr.size)⟩
        case measure => simp [intOf]; omega
    · have HE : Hid (R = true) := HR.out.trans (asc_end hk1 hlt' hk hh.out)
      clear ha hh
      go_wp2_with fail
      go_ret
      exact ⟨by rw [HE.out]; rfl, hbr⟩

end Go.Proofs.Ytkkhnldhipfneaa

/-! Lists of texts that rise: two of them with the same members are one list; the plain facts on the order of texts, byte by byte; no condition. -/
namespace Go.Proofs.Ytkkhnldhipfneaa
open Go.RowKit
set_option linter.unusedSimpArgs false
set_option linter.unusedVariables false

theorem ltL_irrefl (x : List UInt8) : ¬ x < x := List.lt_irrefl x
theorem ltL_trans {x y z : List UInt8} (h : x < y) (k : y < z) : x < z := List.lt_trans h k
theorem ltL_total {x y : List UInt8} (h : ¬ x < y) (k : ¬ y < x) : x = y := List.le_antisymm (by simpa using k) (by simpa using h)

def Rises (l : List (List UInt8)) : Prop := l.Pairwise (· < ·)

theorem rises_eq : ∀ (a b : List (List UInt8)), Rises a → Rises b → (∀ x, x ∈ a ↔ x ∈ b) → a = b
  | [], [], _, _, _ => rfl
  | [], y :: b, _, _, h => by have := (h y).2 (by simp); simp at this
  | x :: a, [], _, _, h => by have := (h x).1 (by simp); simp at this
  | x :: a, y :: b, ha, hb, h => by
    have ha' := List.pairwise_cons.1 ha
    have hb' := List.pairwise_cons.1 hb
    have hxy : x = y := by
      rcases List.mem_cons.1 ((h x).1 (by simp)) with e | e
      · exact e
      · rcases List.mem_cons.1 ((h y).2 (by simp)) with e' | e'
        · exact e'.symm
        · exact absurd (ltL_trans (hb'.1 x e) (ha'.1 y e')) (ltL_irrefl _)
    subst hxy
    have hab : a = b := rises_eq a b ha'.2 hb'.2 (fun z => by
      constructor
      · intro hz
        rcases List.mem_cons.1 ((h z).1 (List.mem_cons_of_mem _ hz)) with e | e
        · subst e; exact absurd (ha'.1 z hz) (ltL_irrefl _)
        · exact e
      · intro hz
        rcases List.mem_cons.1 ((h z).2 (List.mem_cons_of_mem _ hz)) with e | e
        · subst e; exact absurd (hb'.1 z hz) (ltL_irrefl _)
        · exact e)
    rw [hab]

def bytesL (s : ByteArray) : List UInt8 := s.data.toList
theorem bytesL_inj {a b : ByteArray} (h : bytesL a = bytesL b) : a = b := ByteArray.ext (Array.toList_inj.1 h)
def risesS (ss : List ByteArray) : Prop := Rises (ss.map bytesL)

theorem risesS_eq {a b : List ByteArray} (ha : risesS a) (hb : risesS b) (h : ∀ x, x ∈ a ↔ x ∈ b) : a = b := by
  have e := rises_eq _ _ ha hb (fun x => by
    constructor
    · intro hx
      obtain ⟨s, hs, rfl⟩ := List.mem_map.1 hx
      exact List.mem_map.2 ⟨s, (h s).1 hs, rfl⟩
    · intro hx
      obtain ⟨s, hs, rfl⟩ := List.mem_map.1 hx
      exact List.mem_map.2 ⟨s, (h s).2 hs, rfl⟩)
  exact List.map_inj_right (fun _ _ => bytesL_inj) |>.1 e

/-- What is put in where all behind is greater and all ahead is less. -/
theorem rises_insert {xs : List ByteArray} {x : ByteArray} {k : Nat} (hk : k ≤ xs.length) (h : risesS xs) (hl : ∀ j (hj : j < xs.length), j < k → bytesL xs[j] < bytesL x) (hg : ∀ j (hj : j < xs.length), k ≤ j → bytesL x < bytesL xs[j]) :
    risesS (xs.take k ++ x :: xs.drop k) := by
  unfold risesS Rises at *
  rw [List.map_append, List.map_cons, List.pairwise_append]
  refine ⟨?_, ?_, ?_⟩
  · rw [List.map_take]; exact h.sublist (List.take_sublist _ _)
  · rw [List.pairwise_cons]
    refine ⟨fun y hy => ?_, ?_⟩
    · obtain ⟨s, hs, rfl⟩ := List.mem_map.1 hy
      obtain ⟨j, hj, rfl⟩ := List.getElem_of_mem hs
      rw [List.getElem_drop]
      simp at hj
      exact hg _ (by omega) (by omega)
    · rw [List.map_drop]; exact h.sublist (List.drop_sublist _ _)
  · intro a ha b hb
    obtain ⟨s, hs, rfl⟩ := List.mem_map.1 ha
    obtain ⟨j, hj, rfl⟩ := List.getElem_of_mem hs
    rw [List.getElem_take]
    simp at hj
    have h1 := hl j (by omega) (by omega)
    rcases List.mem_cons.1 hb with rfl | hb
    · exact h1
    · obtain ⟨s', hs', rfl⟩ := List.mem_map.1 hb
      obtain ⟨j', hj', rfl⟩ := List.getElem_of_mem hs'
      rw [List.getElem_drop]
      simp at hj'
      exact ltL_trans h1 (hg _ (by omega) (by omega))

theorem mem_insert (xs : List ByteArray) (x y : ByteArray) (k : Nat) : y ∈ xs.take k ++ x :: xs.drop k ↔ y = x ∨ y ∈ xs := by
  rw [List.mem_append, List.mem_cons]
  constructor
  · rintro (h | h | h)
    · exact .inr (List.mem_of_mem_take h)
    · exact .inl h
    · exact .inr (List.mem_of_mem_drop h)
  · rintro (h | h)
    · exact .inr (.inl h)
    · rw [← List.take_append_drop k xs, List.mem_append] at h
      rcases h with h | h
      · exact .inl h
      · exact .inr (.inr h)
end Go.Proofs.Ytkkhnldhipfneaa

/-! What the specification's Sorted answers: a list that rises and has the members of the list handed in, in memory of its own; conditions: the list lies in memory as told and has at most 2 to the 20 texts. -/
namespace Go.Proofs.Ytkkhnldhipfneaa
open Go.RowKit
set_option linter.unusedSimpArgs false
set_option linter.unusedVariables false

def hasS (ss : List ByteArray) (s : ByteArray) : Bool := decide (bytesL s ∈ ss.map bytesL)
theorem hasS_iff (ss : List ByteArray) (s : ByteArray) : hasS ss s = true ↔ s ∈ ss := by
  rw [hasS, decide_eq_true_iff, List.mem_map]
  constructor
  · rintro ⟨t, ht, e⟩
    rw [← bytesL_inj e]; exact ht
  · intro h; exact ⟨s, h, rfl⟩
theorem hasS_not {ss : List ByteArray} {s : ByteArray} (h : ¬ s ∈ ss) : hasS ss s = false := by
  cases e : hasS ss s with
  | false => rfl
  | true => exact absurd ((hasS_iff ss s).1 e) h

set_option maxHeartbeats 1000000 in
set_option maxRecDepth 100000 in
theorem has_c (v : Value) (ss : List ByteArray) (s : ByteArray) (w : World) (hv : Reads w v (strsV ss)) (hn : ss.length ≤ 1099511627776) :
    Calls Try.prog 54 #[v, .string s] w fun e w' => e = .returned (.bool (hasS ss s)) ∧ w = w' := by
  obtain ⟨a, cap, rfl, _, hc⟩ := reads_strs hv
  clear hv
  rcases hc with rfl | ⟨b, off, rfl, hlt, hc⟩
  · go_enter Try.func54, Try.ntmps54
    go_wp2
    go_loop [5] (fun vi => vi = .int .i64 0) (fun _ => 0)
    case atStart => rfl
    case round =>
      obtain rfl := hrel
      go_wp2
      go_ret
      exact ⟨rfl, rfl⟩
  · go_enter Try.func54, Try.ntmps54
    go_wp2
    go_loop [5] (fun vi => ∃ k : Nat, k ≤ ss.length ∧ vi = .int .i64 (k : Int) ∧ Hid (∀ j (h : j < ss.length), j < k → ss[j] ≠ s)) (fun vi => ss.length - (intOf vi).toNat)
    case atStart => exact ⟨0, Nat.zero_le _, rfl, fun j h hj => by omega⟩
    case round =>
      obtain ⟨k, hk, rfl, hh⟩ := hrel
      by_cases hlt' : k < ss.length
      · have hcx := hc k hlt'
        obtain ⟨t, ht⟩ : ∃ t, t = ss[k] := ⟨_, rfl⟩
        rw [← ht] at hcx
        have HT : Hid (t = ss[k]) := ht
        have hki : (k : Int) < (ss.length : Int) := by omega
        clear hc ht
        go_wp2
        · have h1 : (t.toList == s.toList) = true := by assumption
          have e : t = s := bytes_eq_of_toList (by simpa using h1)
          have hm : s ∈ ss := by rw [← e, HT.out]; exact List.getElem_mem hlt'
          go_ret
          exact ⟨by rw [(hasS_iff ss s).2 hm]; rfl, rfl⟩
        · have h1 : (t.toList == s.toList) = false := by assumption
          have e : t ≠ s := fun e => by subst e; simp at h1
          go_round
          case rel => exact ⟨k + 1, by omega, by go_num, fun j h hj => (by
            by_cases ej : j = k
            · subst ej; rw [← HT.out]; exact e
            · exact hh.out j h (by omega))⟩
          case measure => simp [intOf]; omega
      · have he : k = ss.length := by omega
        subst he
        have hm : ¬ s ∈ ss := fun hm => by
          obtain ⟨j, hj, e⟩ := List.getElem_of_mem hm
          exact hh.out j hj hj e
        clear hc
        go_wp2
        go_ret
        exact ⟨by rw [hasS_not hm]; rfl, rfl⟩

theorem gt_iff (a b : ByteArray) : (!(Op.bytesLess a.toList b.toList || a.toList == b.toList)) = decide (bytesL b < bytesL a) := by
  rw [ByteArray.toList_eq, ByteArray.toList_eq, bytesLess_eq]
  show _ = decide (b.data.toList < a.data.toList)
  by_cases h : b.data.toList < a.data.toList
  · have h1 : ¬ a.data.toList < b.data.toList := fun k => ltL_irrefl _ (ltL_trans h k)
    have h2 : ¬ a.data = b.data := fun e => by rw [e] at h; exact ltL_irrefl _ h
    simp [h, h1, h2]
  · by_cases h1 : a.data.toList < b.data.toList
    · simp [h, h1]
    · have h2 : a.data.toList = b.data.toList := ltL_total h1 h
      simp [h2, ltL_irrefl]

theorem below_all {xs : List ByteArray} {t : ByteArray} {j : Nat} (hr : risesS xs) (hin : ¬ t ∈ xs) (hj : j ≤ xs.length) (h : j = 0 ∨ ∃ h0 : j - 1 < xs.length, ¬ bytesL t < bytesL xs[j - 1]) : ∀ i (hi : i < xs.length), i < j → bytesL xs[i] < bytesL t := by
  intro i hi hij
  rcases h with h | ⟨h0, h⟩
  · omega
  · have h1 : bytesL xs[j - 1] < bytesL t := by
      by_cases k : bytesL xs[j - 1] < bytesL t
      · exact k
      · have e := bytesL_inj (ltL_total h k)
        exact absurd (by rw [e]; exact List.getElem_mem h0) hin
    by_cases e : i = j - 1
    · subst e; exact h1
    · have hp := List.pairwise_iff_getElem.1 (show (xs.map bytesL).Pairwise (· < ·) from hr) i (j - 1) (by simpa using hi) (by simpa using h0) (by omega)
      simp at hp
      exact ltL_trans hp h1

theorem ins_cells {xs : List ByteArray} {t : ByteArray} {j : Nat} {ys : List Value} (hj : j ≤ xs.length) (hl : ys.length = xs.length + 1) (h1 : ∀ i, i < j → ys[i]? = (strsV xs)[i]?) (h2 : ∀ i, j < i → i ≤ xs.length → ys[i]? = (strsV xs)[i - 1]?) :
    ys.set j (.string t) = strsV (xs.take j ++ t :: xs.drop j) := by
  refine list_done (n := xs.length + 1) (by simp [hl]) (by simp; omega) (fun i hi => ?_)
  rw [List.getElem?_set]
  by_cases e : j = i
  · subst e
    rw [if_pos rfl, if_pos (by omega), strsV, List.getElem?_map, List.getElem?_append_right (by simp; omega)]
    simp [Nat.min_eq_left hj]
  · rw [if_neg e]
    by_cases k : i < j
    · rw [h1 i k, strsV, strsV, List.getElem?_map, List.getElem?_map, List.getElem?_append_left (by simp; omega), List.getElem?_take, if_pos k]
    · rw [h2 i (by omega) (by omega), strsV, strsV, List.getElem?_map, List.getElem?_map, List.getElem?_append_right (by simp; omega)]
      simp only [List.length_take, Nat.min_eq_left hj]
      rw [show i - j = (i - j - 1) + 1 by omega, List.getElem?_cons_succ, List.getElem?_drop, show j + (i - j - 1) = i - 1 by omega]

/-- What the inner loop holds on to. -/
def Shifted (xs : List ByteArray) (t : ByteArray) (j : Nat) (ys : List Value) : Prop :=
  ys.length = xs.length + 1 ∧ (∀ i, i < j → ys[i]? = (strsV xs)[i]?) ∧ (∀ i, j < i → i ≤ xs.length → ys[i]? = (strsV xs)[i - 1]?) ∧ ∀ i (h : i < xs.length), j ≤ i → bytesL t < bytesL xs[i]

theorem shifted_start (xs : List ByteArray) (t : ByteArray) : Shifted xs t xs.length (strsV (xs ++ [t])) := by
  refine ⟨by simp, fun i hi => ?_, fun i h1 h2 => by omega, fun i h1 h2 => by omega⟩
  rw [strsV, strsV, List.getElem?_map, List.getElem?_map, List.getElem?_append_left hi]
theorem shifted_step {xs : List ByteArray} {t : ByteArray} {j : Nat} {ys : List Value} (hj : 0 < j) (hjl : j - 1 < xs.length) (h : Shifted xs t j ys) (hg : bytesL t < bytesL xs[j - 1]) : Shifted xs t (j - 1) (ys.set j (.string xs[j - 1])) := by
  obtain ⟨h0, h1, h2, h3⟩ := h
  refine ⟨by simp [h0], fun i hi => ?_, fun i hi1 hi2 => ?_, fun i hi hji => ?_⟩
  · rw [List.getElem?_set, if_neg (by omega)]; exact h1 i (by omega)
  · rw [List.getElem?_set]
    by_cases e : j = i
    · subst e; rw [if_pos rfl, if_pos (by omega), strsV_at xs (j - 1) hjl]
    · rw [if_neg e]; exact h2 i (by omega) hi2
  · by_cases e : i = j - 1
    · subst e; exact hg
    · exact h3 i hi (by omega)

end Go.Proofs.Ytkkhnldhipfneaa

/-! Whether a plan is right, as the program asks it: contracts for the walks; conditions: it lies in memory, and holds at most 2 to the 20. -/
namespace Go.Proofs.Ytkkhnldhipfneaa
open Go.RowKit
set_option linter.unusedSimpArgs false
set_option linter.unusedVariables false

/-- When a plan is right. -/
def depsB (ts l : List ByteArray) : Bool := ascB l && l.all (fun t => hasS ts t)
def planB (d : PlanD) : Bool := decide (d.tasks.length ≤ 16) && (decide (d.deps.length = d.tasks.length) && (ascB d.tasks && (d.tasks.all ptB && d.deps.all (depsB d.tasks))))
/-- Each text of a plan has at most 2 to the 20 bytes. -/
theorem sane_wt {ss : List ByteArray} (h : bulkS ss ≤ 1048576) : saneP ss ∧ (∀ s ∈ ss, s.size ≤ 1048576) ∧ ss.length ≤ 1048576 := by
  have h1 : ss.length ≤ 1048576 := by unfold bulkS at h; omega
  have h2 : ∀ s ∈ ss, s.size ≤ 1048576 := fun s hs => by have := bulk_mem hs; omega
  exact ⟨⟨by unfold maxLen; omega, fun s hs => by have := h2 s hs; unfold maxLen; omega⟩, h2, h1⟩
theorem txtAsc_c (s : ByteArray) (w : World) : Calls Try.prog 91 #[.string s] w fun e w' => e = .returned (.string s) ∧ Below w.heap.size w w' := by
  go_enter Try.func91, Try.ntmps91
  go_wp2_with fail
  go_ret
  exact ⟨rfl, Below.refl _ _⟩

set_option maxHeartbeats 8000000 in
set_option maxRecDepth 100000 in
theorem ascTx_c (v : Value) (ss : List ByteArray) (w : World) (hv : Reads w v (strsV ss)) (hs : saneP ss) :
    Calls Try.prog 90 #[v, .func (.func 91) #[] #[]] w fun e w' => e = .returned (.bool (ascB ss)) ∧ Below w.heap.size w w' := by
  obtain ⟨a, cap, rfl, _, ha⟩ := reads_strs hv
  obtain ⟨hl, hsz⟩ := hs
  clear hv hsz
  unfold maxLen at hl
  obtain ⟨R, hR⟩ : ∃ R, R = ascB ss := ⟨_, rfl⟩
  rw [← hR]
  have HR := hidden hR
  clear hR
  go_enter Try.func90, Try.ntmps90
  go_wp2_with fail
  go_loopw [5] (fun vi wr => ∃ k : Nat, 1 ≤ k ∧ (k ≤ ss.length ∨ k = 1) ∧ vi = .int .i64 (k : Int) ∧ Hid (rowUpto (fun _ => true) id ss k = true) ∧ Below w.heap.size w wr) (fun vi _ => ss.length - (intOf vi).toNat)
  case atStart => exact ⟨1, Nat.le_refl _, .inr rfl, rfl, asc_one _, Below.refl _ _⟩
  case round =>
    obtain ⟨k, hk1, hk, rfl, hh, hbr⟩ := hrel
    by_cases hlt' : k < ss.length
    · rcases ha with rfl | ⟨b, off, rfl, hlt, ha⟩
      · simp at hlt'
      obtain ⟨j, rfl⟩ : ∃ j, k = j + 1 := ⟨k - 1, by omega⟩
      have hj' : j < ss.length := by omega
      have hbb : b < wr.heap.size := Nat.lt_of_lt_of_le hlt hbr.size
      have yv : wr.cell? ⟨b, off + j, none⟩ = some (.string ss[j]) := (hbr.cell (by simpa using hlt)).trans (ha j hj')
      have xv : wr.cell? ⟨b, off + (j + 1), none⟩ = some (.string ss[j + 1]) := (hbr.cell (by simpa using hlt)).trans (ha (j + 1) hlt')
      have hpre : preX ss (j + 1) = some ss[j] := by simp [preX, hj']
      have HBD : Hid (Op.bytesLess ss[j].toList ss[j + 1].toList = false → R = false) := fun h => HR.out.trans (rowUpto_bad hlt' (by rw [hpre]; exact rowOk_less h) _ hlt')
      have HGD : Hid (Op.bytesLess ss[j].toList ss[j + 1].toList = true → rowUpto (fun _ => true) id ss (j + 1 + 1) = true) := fun h => rowUpto_step hlt' hh.out (by rw [hpre, rowOk_some rfl]; exact h)
      obtain ⟨c, hc0⟩ : ∃ c, c = ss[j] := ⟨_, rfl⟩
      obtain ⟨d, hd0'⟩ : ∃ d, d = ss[j + 1] := ⟨_, rfl⟩
      rw [← hc0] at yv HBD HGD
      rw [← hd0'] at xv HBD HGD
      clear ha hpre hc0 hd0' hh
      have hj0 : (0 : Int) ≤ (j : Int) + 1 := by omega
      have hj2 : (j : Int) + 1 < (ss.length : Int) := by omega
      have hj3 : (j : Int) < (ss.length : Int) := by omega
      have hjw : IntKind.i64.wrap (j : Int) = (j : Int) := IntWalk.i64_in _ ⟨by omega, by omega⟩
      have hd0 : Below wr.heap.size wr wr.drew := (Below.refl _ _).drew
      have KEEP : Hid (∀ w1, Below wr.heap.size wr w1 → w1.cell? ⟨b, off + j, none⟩ = some (.string c) ∧ w1.cell? ⟨b, off + (j + 1), none⟩ = some (.string d)) := fun w1 h => ⟨(h.cell (by simpa using hbb)).trans yv, (h.cell (by simpa using hbb)).trans xv⟩
      clear yv xv
      go_wp2_with fail
      refine wp_region_held_drew (S := (fun w' => w'.cell? ⟨b, off + j, none⟩ = some (.string c) ∧ w'.cell? ⟨b, off + (j + 1), none⟩ = some (.string d))) (by kernel_rfl) ?SR10 (fun hHeld => ?_)
      case SR10 => (first | (with_reducible exact KEEP.out _ hd2) | (with_reducible exact KEEP.out _ hd1) | (with_reducible exact KEEP.out _ hd0))
      refine wpAnyH_take (i := 0) (oi := _) (v := ?vR10) rfl (by kernel_rfl) (by kernel_rfl) (by kernel_rfl) (fun _ _ _ h => h) (Or.inl ⟨by rfl, ?yR10⟩) hHeld ?_
      case yR10 => (intro w hSw; (try dsimp only at hSw); go_simp <;> with_reducible rfl)
      try simp only [Act.put, List.getElem_toArray, List.getElem_cons_zero, List.getElem_cons_succ, List.setIfInBounds_toArray, List.set_cons_zero, List.set_cons_succ]
      refine wpAnyH_take (i := 1) (oi := _) (v := ?vR11) rfl (by kernel_rfl) (by kernel_rfl) (by kernel_rfl) (fun _ _ _ h => h) (Or.inl ⟨by rfl, ?yR11⟩) hHeld ?_
      case yR11 => (intro w hSw; (try dsimp only at hSw); go_simp <;> with_reducible rfl)
      try simp only [Act.put, List.getElem_toArray, List.getElem_cons_zero, List.getElem_cons_succ, List.setIfInBounds_toArray, List.set_cons_zero, List.set_cons_succ]
      refine wpAnyH_take (i := 2) (oi := _) (v := ?vR12) rfl (by kernel_rfl) (by kernel_rfl) (by kernel_rfl) (fun _ _ _ h => h) (Or.inl ⟨by rfl, ?yR12⟩) hHeld ?_
      case yR12 => (intro w hSw; (try dsimp only at hSw); go_simp <;> with_reducible rfl)
      try simp only [Act.put, List.getElem_toArray, List.getElem_cons_zero, List.getElem_cons_succ, List.setIfInBounds_toArray, List.set_cons_zero, List.set_cons_succ]
      refine wpAnyH_take (i := 3) (oi := _) (v := ?vR13) rfl (by kernel_rfl) (by kernel_rfl) (by kernel_rfl) (fun _ _ _ h => h) (Or.inl ⟨by rfl, ?yR13⟩) hHeld ?_
      case yR13 => (intro w hSw; (try dsimp only at hSw); go_simp <;> with_reducible rfl)
      try simp only [Act.put, List.getElem_toArray, List.getElem_cons_zero, List.getElem_cons_succ, List.setIfInBounds_toArray, List.set_cons_zero, List.set_cons_succ]
      refine wpAnyH_take (i := 4) (oi := _) (v := ?vR14) rfl (by kernel_rfl) (by kernel_rfl) (by kernel_rfl) (fun _ _ _ h => h) (Or.inl ⟨by rfl, ?yR14⟩) hHeld ?_
      case yR14 => (intro w hSw; (try dsimp only at hSw); go_simp <;> with_reducible rfl)
      try simp only [Act.put, List.getElem_toArray, List.getElem_cons_zero, List.getElem_cons_succ, List.setIfInBounds_toArray, List.set_cons_zero, List.set_cons_succ]
      refine wpAnyH_take (i := 5) (oi := _) (v := ?vR15) rfl (by kernel_rfl) (by kernel_rfl) (by kernel_rfl) (fun _ _ _ h => h) (Or.inl ⟨by rfl, ?yR15⟩) hHeld ?_
      case yR15 => (intro w hSw; (try dsimp only at hSw); go_simp <;> with_reducible rfl)
      try simp only [Act.put, List.getElem_toArray, List.getElem_cons_zero, List.getElem_cons_succ, List.setIfInBounds_toArray, List.set_cons_zero, List.set_cons_succ]
      refine wpAnyH_take (i := 7) (oi := _) (v := ?vR16) rfl (by kernel_rfl) (by kernel_rfl) (by kernel_rfl) (fun _ _ _ h => h) (Or.inl ⟨by rfl, ?yR16⟩) hHeld ?_
      case yR16 => (intro w hSw; (try dsimp only at hSw); go_simp <;> with_reducible rfl)
      try simp only [Act.put, List.getElem_toArray, List.getElem_cons_zero, List.getElem_cons_succ, List.setIfInBounds_toArray, List.set_cons_zero, List.set_cons_succ]
      refine wpAnyH_take (i := 8) (oi := _) (v := ?vR17) rfl (by kernel_rfl) (by kernel_rfl) (by kernel_rfl) (fun _ _ _ h => h) (Or.inl ⟨by rfl, ?yR17⟩) hHeld ?_
      case yR17 => (intro w hSw; (try dsimp only at hSw); go_simp <;> with_reducible rfl)
      try simp only [Act.put, List.getElem_toArray, List.getElem_cons_zero, List.getElem_cons_succ, List.setIfInBounds_toArray, List.set_cons_zero, List.set_cons_succ]
      refine wpAnyH_take (i := 9) (oi := _) (v := ?vR18) rfl (by kernel_rfl) (by kernel_rfl) (by kernel_rfl) (fun _ _ _ h => h) (Or.inl ⟨by rfl, ?yR18⟩) hHeld ?_
      case yR18 => (intro w hSw; (try dsimp only at hSw); go_simp <;> with_reducible rfl)
      try simp only [Act.put, List.getElem_toArray, List.getElem_cons_zero, List.getElem_cons_succ, List.setIfInBounds_toArray, List.set_cons_zero, List.set_cons_succ]
      refine wpAnyH_take (i := 10) (oi := _) (v := ?vR19) rfl (by kernel_rfl) (by kernel_rfl) (by kernel_rfl) (fun _ _ _ h => h) (Or.inl ⟨by rfl, ?yR19⟩) hHeld ?_
      case yR19 => (intro w hSw; (try dsimp only at hSw); go_simp <;> with_reducible rfl)
      try simp only [Act.put, List.getElem_toArray, List.getElem_cons_zero, List.getElem_cons_succ, List.setIfInBounds_toArray, List.set_cons_zero, List.set_cons_succ]
      refine wpAnyH_take (i := 11) (oi := _) (v := ?vR110) rfl (by kernel_rfl) (by kernel_rfl) (by kernel_rfl) (fun _ _ _ h => h) (Or.inl ⟨by rfl, ?yR110⟩) hHeld ?_
      case yR110 => (intro w hSw; (try dsimp only at hSw); go_simp <;> with_reducible rfl)
      try simp only [Act.put, List.getElem_toArray, List.getElem_cons_zero, List.getElem_cons_succ, List.setIfInBounds_toArray, List.set_cons_zero, List.set_cons_succ]
      refine wpAnyH_ready (rs := [6]) (by kernel_rfl) (by simp) ?_
      refine AllReadyH.cons rfl (fun K hK => ?_) AllReadyH.nil
      go_simp
      go_wp2_with (go_at_call 91; refine (txtAsc_c c _).mono ?_; rintro e w1 ⟨rfl, b1⟩; have hd1 : Below wr.heap.size wr w1 := hd0.trans (b1.mono hd0.size))
      clear hHeld
      refine hK.out _ _ ?SR112 (fun hHeld => ?_)
      case SR112 => ((try dsimp only); first | (with_reducible exact KEEP.out _ hd2) | (with_reducible exact KEEP.out _ hd1) | (with_reducible exact KEEP.out _ hd0))
      clear hK K
      refine wpAnyH_ready (rs := [12]) (by kernel_rfl) (by simp) ?_
      refine AllReadyH.cons rfl (fun K hK => ?_) AllReadyH.nil
      go_simp
      go_wp2_with (go_at_call 91; refine (txtAsc_c d _).mono ?_; rintro e w2 ⟨rfl, b2⟩; have hd2 : Below wr.heap.size wr w2 := hd1.trans (b2.mono hd1.size))
      clear hHeld
      refine hK.out _ _ ?SR113 (fun hHeld => ?_)
      case SR113 => ((try dsimp only); first | (with_reducible exact KEEP.out _ hd2) | (with_reducible exact KEEP.out _ hd1) | (with_reducible exact KEEP.out _ hd0))
      clear hK K
      refine wpAnyH_take (i := 13) (oi := _) (v := ?vR113) rfl (by kernel_rfl) (by kernel_rfl) (by kernel_rfl) (fun _ _ _ h => h) (Or.inl ⟨by rfl, ?yR113⟩) hHeld ?_
      case yR113 => (intro w hSw; (try dsimp only at hSw); go_simp <;> with_reducible rfl)
      try simp only [Act.put, List.getElem_toArray, List.getElem_cons_zero, List.getElem_cons_succ, List.setIfInBounds_toArray, List.set_cons_zero, List.set_cons_succ]
      refine wpAnyH_done (by kernel_rfl) ?_ _
      go_wp2_with fail
      · have hlx : (!Op.bytesLess c.toList d.toList) = true := by assumption
        go_ret
        exact ⟨by rw [HBD.out (by simpa using hlx)]; rfl, hbr.trans (hd2.mono hbr.size)⟩
      · have hlx : (!Op.bytesLess c.toList d.toList) = false := by assumption
        go_roundw
        case rel => exact ⟨j + 1 + 1, by omega, .inl (by omega), by go_num, HGD.out (by simpa using hlx), hbr.trans (hd2.mono hbr.size)⟩
        case measure => simp [intOf]; omega
    · have HE : Hid (R = true) := HR.out.trans (asc_end hk1 hlt' hk hh.out)
      clear ha hh
      go_wp2_with fail
      go_ret
      exact ⟨by rw [HE.out]; rfl, hbr⟩

set_option maxHeartbeats 2000000 in
set_option maxRecDepth 100000 in
theorem textsAscend_c (v : Value) (ss : List ByteArray) (w : World) (hv : Reads w v (strsV ss)) (hs : saneP ss) :
    Calls Try.prog 57 #[v] w fun e w' => e = .returned (.bool (ascB ss)) ∧ Below w.heap.size w w' := by
  have H := hidden (ascTx_c v ss w hv hs)
  obtain ⟨a, cap, rfl, _, _⟩ := reads_strs hv
  clear hv hs
  generalize ascB ss = r at *
  go_enter Try.func57, Try.ntmps57
  go_wp2_with fail
  go_at_call 90
  refine H.out.mono ?_
  rintro e w1 ⟨rfl, b1⟩
  go_wp2_with fail
  go_ret
  exact ⟨rfl, b1⟩

set_option maxHeartbeats 2000000 in
set_option maxRecDepth 100000 in
theorem notTask_c (s : ByteArray) (hs : s.size ≤ 1048576) (w : World) : Calls Try.prog 59 #[.string s] w fun e w' => e = .returned (.bool (!ptB s)) ∧ Below w.heap.size w w' := by
  have H0 := implPt_c s w hs
  have e0 : (ptD s).2.2 = ptB s := by unfold ptD; cases ptB s <;> rfl
  rw [e0] at H0
  have H := hidden H0
  generalize (ptD s).1 = x at *
  generalize (ptD s).2.1 = y at *
  generalize ptB s = r at *
  clear H0 e0
  go_enter Try.func59, Try.ntmps59
  go_wp2_with fail
  go_at_call 20
  refine H.out.mono ?_
  rintro e w1 ⟨rfl, b1⟩
  go_wp2_with fail
  go_ret
  exact ⟨rfl, b1⟩

set_option maxHeartbeats 2000000 in
set_option maxRecDepth 100000 in
theorem indexH_c (v : Value) (ss : List ByteArray) (s : ByteArray) (w : World) (hv : Reads w v (strsV ss)) (hn : ss.length ≤ 1099511627776) :
    Calls Try.prog 68 #[v, .string s] w fun e w' => (∃ r : Int, e = .returned (.int .i64 r) ∧ decide (0 ≤ r) = hasS ss s) ∧ w = w' := by
  obtain ⟨a, cap, rfl, _, hc⟩ := reads_strs hv
  clear hv
  rcases hc with rfl | ⟨b, off, rfl, hlt, hc⟩
  · go_enter Try.func68, Try.ntmps68
    go_wp2
    go_loop [8] (fun vi => vi = .int .i64 0) (fun _ => 0)
    case atStart => rfl
    case round =>
      obtain rfl := hrel
      go_wp2
      go_ret
      exact ⟨⟨-1, rfl, by simp [hasS]⟩, rfl⟩
  · go_enter Try.func68, Try.ntmps68
    go_wp2
    go_loop [8] (fun vi => ∃ k : Nat, k ≤ ss.length ∧ vi = .int .i64 (k : Int) ∧ Hid (∀ j (h : j < ss.length), j < k → ss[j] ≠ s)) (fun vi => ss.length - (intOf vi).toNat)
    case atStart => exact ⟨0, Nat.zero_le _, rfl, fun j h hj => by omega⟩
    case round =>
      obtain ⟨k, hk, rfl, hh⟩ := hrel
      by_cases hlt' : k < ss.length
      · have hcx := hc k hlt'
        obtain ⟨t, ht⟩ : ∃ t, t = ss[k] := ⟨_, rfl⟩
        rw [← ht] at hcx
        have HT : Hid (t = ss[k]) := ht
        have hki : (k : Int) < (ss.length : Int) := by omega
        clear hc ht
        go_wp2
        · have h1 : (s.toList == t.toList) = true := by assumption
          have e : s = t := bytes_eq_of_toList (by simpa using h1)
          have hm : s ∈ ss := by rw [e, HT.out]; exact List.getElem_mem hlt'
          go_ret
          exact ⟨⟨(k : Int), rfl, by rw [(hasS_iff ss s).2 hm]; simp⟩, rfl⟩
        · have h1 : (s.toList == t.toList) = false := by assumption
          have e : t ≠ s := fun e => by subst e; simp at h1
          go_round
          case rel => exact ⟨k + 1, by omega, by go_num, fun j h hj => (by
            by_cases ej : j = k
            · subst ej; rw [← HT.out]; exact e
            · exact hh.out j h (by omega))⟩
          case measure => simp [intOf]; omega
      · have he : k = ss.length := by omega
        subst he
        have hm : ¬ s ∈ ss := fun hm => by
          obtain ⟨j, hj, e⟩ := List.getElem_of_mem hm
          exact hh.out j hj hj e
        have hf : hasS ss s = false := by
          cases hq : hasS ss s with
          | false => rfl
          | true => exact absurd ((hasS_iff ss s).1 hq) hm
        have HF := hidden hf
        clear hc hf
        go_wp2
        go_ret
        exact ⟨⟨-1, rfl, by rw [HF.out]; rfl⟩, rfl⟩

set_option maxHeartbeats 2000000 in
set_option maxRecDepth 100000 in
theorem containsH_c (v : Value) (ss : List ByteArray) (s : ByteArray) (w : World) (hv : Reads w v (strsV ss)) (hn : ss.length ≤ 1099511627776) :
    Calls Try.prog 41 #[v, .string s] w fun e w' => e = .returned (.bool (hasS ss s)) ∧ w = w' := by
  have HI := hidden (indexH_c v ss s w hv hn)
  obtain ⟨a, cap, rfl, _, _⟩ := reads_strs hv
  clear hv
  go_enter Try.func41, Try.ntmps41
  go_wp2_with (go_at_call 68; refine HI.out.mono ?_; rintro e w1 ⟨⟨r, rfl, hr⟩, rfl⟩)
  go_ret
  exact ⟨by rw [← hr]; rfl, rfl⟩

set_option maxHeartbeats 8000000 in
set_option maxRecDepth 100000 in
theorem idxNotTask_c (p : ByteArray → Bool) (v : Value) (ss : List ByteArray) (w : World) (hv : Reads w v (strsV ss)) (hs : saneP ss) (hF : ∀ t ∈ ss, ∀ w1, Below w.heap.size w w1 → Calls Try.prog 59 #[.string t] w1 fun e w' => e = .returned (.bool (!p t)) ∧ Below w1.heap.size w1 w') :
    Calls Try.prog 92 #[v, .func (.func 59) #[] #[]] w fun e w' => e = .returned (.int .i64 (firstI (fun s => !p s) ss)) ∧ Below w.heap.size w w' := by
  obtain ⟨a, cap, rfl, _, ha⟩ := reads_strs hv
  obtain ⟨hl, hsz⟩ := hs
  clear hv
  have hl' := hl
  unfold maxLen at hl
  obtain ⟨R, hR⟩ : ∃ R, R = firstI (fun s => !p s) ss := ⟨_, rfl⟩
  rw [← hR]
  have HR := hidden hR
  clear hR
  go_enter Try.func92, Try.ntmps92
  go_wp2_with fail
  go_loopw [8] (fun vi wr => ∃ k : Nat, k ≤ ss.length ∧ vi = .int .i64 (k : Int) ∧ Hid (∀ j (hj : j < ss.length), j < k → (!p ss[j]) = false) ∧ Below w.heap.size w wr) (fun vi _ => ss.length - (intOf vi).toNat)
  case atStart => exact ⟨0, Nat.zero_le _, rfl, (fun j hj h => by omega), Below.refl _ _⟩
  case round =>
    obtain ⟨k, hk, rfl, hno, hbr⟩ := hrel
    by_cases hlt' : k < ss.length
    · rcases ha with rfl | ⟨b, off, rfl, hlt, ha⟩
      · simp at hlt'
      have e0 : wr.cell? ⟨b, off + k, none⟩ = some (.string ss[k]) := (hbr.cell (by simpa using hlt)).trans (ha k hlt')
      have hsk := hsz ss[k] (List.getElem_mem hlt')
      have HT : Hid ((!p ss[k]) = true → R = (k : Int)) := fun h => HR.out.trans (firstI_here hlt' h hno.out)
      have HN : Hid ((!p ss[k]) = false → ∀ j (hj : j < ss.length), j < k + 1 → (!p ss[j]) = false) := fun h j hj hjk => by
        by_cases e : j = k
        · subst e; exact h
        · exact hno.out j hj (by omega)
      have hFk := hF ss[k] (List.getElem_mem hlt') wr hbr
      obtain ⟨t, ht⟩ : ∃ t, t = ss[k] := ⟨_, rfl⟩
      rw [← ht] at e0 hsk HT HN hFk
      have HC : Calls Try.prog 59 #[.string t] wr fun e w' => e = .returned (.bool ((!p t))) ∧ Below wr.heap.size wr w' := hFk
      obtain ⟨r, hr⟩ : ∃ r, r = (!p t) := ⟨_, rfl⟩
      rw [← hr] at HC HT HN
      have HC2 := hidden HC
      have hki : (k : Int) < (ss.length : Int) := by omega
      clear ha ht hno HC hr hsz hsk hF hFk
      cases r with
      | true =>
        have HT2 := hidden (HT.out rfl)
        clear HT HN
        go_wp2_with (go_at_call 59; refine HC2.out.mono ?_; rintro e w1 ⟨rfl, b1⟩)
        go_ret
        exact ⟨by rw [HT2.out]; rfl, hbr.trans (b1.mono hbr.size)⟩
      | false =>
        have HN2 := hidden (HN.out rfl)
        clear HT HN
        go_wp2_with (go_at_call 59; refine HC2.out.mono ?_; rintro e w1 ⟨rfl, b1⟩)
        go_roundw
        case rel => exact ⟨k + 1, by omega, by go_num, HN2.out, hbr.trans (b1.mono hbr.size)⟩
        case measure => simp [intOf]; omega
    · have he : k = ss.length := by omega
      subst he
      have HE : Hid (R = -1) := HR.out.trans (firstI_none (fun j hj => hno.out j hj hj))
      clear ha hno HR hsz hF
      go_wp2_with fail
      go_ret
      exact ⟨by rw [HE.out]; rfl, hbr⟩

set_option maxHeartbeats 8000000 in
set_option maxRecDepth 100000 in
theorem anyNotTask_c (p : ByteArray → Bool) (v : Value) (ss : List ByteArray) (w : World) (hv : Reads w v (strsV ss)) (hs : saneP ss) (hF : ∀ t ∈ ss, ∀ w1, Below w.heap.size w w1 → Calls Try.prog 59 #[.string t] w1 fun e w' => e = .returned (.bool (!p t)) ∧ Below w1.heap.size w1 w') :
    Calls Try.prog 58 #[v, .func (.func 59) #[] #[]] w fun e w' => e = .returned (.bool (ss.any (fun s => !p s))) ∧ Below w.heap.size w w' := by
  have HF := idxNotTask_c p v ss w hv hs hF
  have hA := firstI_any (fun s => !p s) ss
  obtain ⟨R, hR⟩ : ∃ R, R = firstI (fun s => !p s) ss := ⟨_, rfl⟩
  rw [← hR] at HF hA
  rw [← hA]
  have HF2 := hidden HF
  obtain ⟨a, cap, rfl, _, _⟩ := reads_strs hv
  clear hv hR hA HF hF
  by_cases h0 : 0 ≤ R
  · rw [decide_eq_true h0]
    have h1 : decide (0 ≤ R) = true := decide_eq_true h0
    go_enter Try.func58, Try.ntmps58
    go_wp2_with (go_at_call 92; refine HF2.out.mono ?_; rintro e w1 ⟨rfl, b1⟩)
    go_ret
    exact ⟨by first | rfl | simp [h0] | (simp; omega), b1⟩
  · rw [decide_eq_false h0]
    have h1 : decide (0 ≤ R) = false := decide_eq_false h0
    go_enter Try.func58, Try.ntmps58
    go_wp2_with (go_at_call 92; refine HF2.out.mono ?_; rintro e w1 ⟨rfl, b1⟩)
    go_ret
    exact ⟨by first | rfl | simp [h0] | (simp; omega), b1⟩

set_option maxHeartbeats 8000000 in
set_option maxRecDepth 100000 in
theorem idxAmong_c (p : ByteArray → Bool) (ptr v : Value) (ss : List ByteArray) (w : World) (hv : Reads w v (strsV ss)) (hs : saneP ss) (hF : ∀ t ∈ ss, ∀ w1, Below w.heap.size w w1 → Calls Try.prog 94 #[.string t, ptr] w1 fun e w' => e = .returned (.bool (!p t)) ∧ Below w1.heap.size w1 w') :
    Calls Try.prog 92 #[v, .func (.func 94) #[] #[ptr]] w fun e w' => e = .returned (.int .i64 (firstI (fun s => !p s) ss)) ∧ Below w.heap.size w w' := by
  obtain ⟨a, cap, rfl, _, ha⟩ := reads_strs hv
  obtain ⟨hl, hsz⟩ := hs
  clear hv
  have hl' := hl
  unfold maxLen at hl
  obtain ⟨R, hR⟩ : ∃ R, R = firstI (fun s => !p s) ss := ⟨_, rfl⟩
  rw [← hR]
  have HR := hidden hR
  clear hR
  go_enter Try.func92, Try.ntmps92
  go_wp2_with fail
  go_loopw [8] (fun vi wr => ∃ k : Nat, k ≤ ss.length ∧ vi = .int .i64 (k : Int) ∧ Hid (∀ j (hj : j < ss.length), j < k → (!p ss[j]) = false) ∧ Below w.heap.size w wr) (fun vi _ => ss.length - (intOf vi).toNat)
  case atStart => exact ⟨0, Nat.zero_le _, rfl, (fun j hj h => by omega), Below.refl _ _⟩
  case round =>
    obtain ⟨k, hk, rfl, hno, hbr⟩ := hrel
    by_cases hlt' : k < ss.length
    · rcases ha with rfl | ⟨b, off, rfl, hlt, ha⟩
      · simp at hlt'
      have e0 : wr.cell? ⟨b, off + k, none⟩ = some (.string ss[k]) := (hbr.cell (by simpa using hlt)).trans (ha k hlt')
      have hsk := hsz ss[k] (List.getElem_mem hlt')
      have HT : Hid ((!p ss[k]) = true → R = (k : Int)) := fun h => HR.out.trans (firstI_here hlt' h hno.out)
      have HN : Hid ((!p ss[k]) = false → ∀ j (hj : j < ss.length), j < k + 1 → (!p ss[j]) = false) := fun h j hj hjk => by
        by_cases e : j = k
        · subst e; exact h
        · exact hno.out j hj (by omega)
      have hFk := hF ss[k] (List.getElem_mem hlt') wr hbr
      obtain ⟨t, ht⟩ : ∃ t, t = ss[k] := ⟨_, rfl⟩
      rw [← ht] at e0 hsk HT HN hFk
      have HC : Calls Try.prog 94 #[.string t, ptr] wr fun e w' => e = .returned (.bool ((!p t))) ∧ Below wr.heap.size wr w' := hFk
      obtain ⟨r, hr⟩ : ∃ r, r = (!p t) := ⟨_, rfl⟩
      rw [← hr] at HC HT HN
      have HC2 := hidden HC
      have hki : (k : Int) < (ss.length : Int) := by omega
      clear ha ht hno HC hr hsz hsk hF hFk
      cases r with
      | true =>
        have HT2 := hidden (HT.out rfl)
        clear HT HN
        go_wp2_with (go_at_call 94; refine HC2.out.mono ?_; rintro e w1 ⟨rfl, b1⟩)
        go_ret
        exact ⟨by rw [HT2.out]; rfl, hbr.trans (b1.mono hbr.size)⟩
      | false =>
        have HN2 := hidden (HN.out rfl)
        clear HT HN
        go_wp2_with (go_at_call 94; refine HC2.out.mono ?_; rintro e w1 ⟨rfl, b1⟩)
        go_roundw
        case rel => exact ⟨k + 1, by omega, by go_num, HN2.out, hbr.trans (b1.mono hbr.size)⟩
        case measure => simp [intOf]; omega
    · have he : k = ss.length := by omega
      subst he
      have HE : Hid (R = -1) := HR.out.trans (firstI_none (fun j hj => hno.out j hj hj))
      clear ha hno HR hsz hF
      go_wp2_with fail
      go_ret
      exact ⟨by rw [HE.out]; rfl, hbr⟩

set_option maxHeartbeats 8000000 in
set_option maxRecDepth 100000 in
theorem anyAmong_c (p : ByteArray → Bool) (ptr v : Value) (ss : List ByteArray) (w : World) (hv : Reads w v (strsV ss)) (hs : saneP ss) (hF : ∀ t ∈ ss, ∀ w1, Below w.heap.size w w1 → Calls Try.prog 94 #[.string t, ptr] w1 fun e w' => e = .returned (.bool (!p t)) ∧ Below w1.heap.size w1 w') :
    Calls Try.prog 58 #[v, .func (.func 94) #[] #[ptr]] w fun e w' => e = .returned (.bool (ss.any (fun s => !p s))) ∧ Below w.heap.size w w' := by
  have HF := idxAmong_c p ptr v ss w hv hs hF
  have hA := firstI_any (fun s => !p s) ss
  obtain ⟨R, hR⟩ : ∃ R, R = firstI (fun s => !p s) ss := ⟨_, rfl⟩
  rw [← hR] at HF hA
  rw [← hA]
  have HF2 := hidden HF
  obtain ⟨a, cap, rfl, _, _⟩ := reads_strs hv
  clear hv hR hA HF hF
  by_cases h0 : 0 ≤ R
  · rw [decide_eq_true h0]
    have h1 : decide (0 ≤ R) = true := decide_eq_true h0
    go_enter Try.func58, Try.ntmps58
    go_wp2_with (go_at_call 92; refine HF2.out.mono ?_; rintro e w1 ⟨rfl, b1⟩)
    go_ret
    exact ⟨by first | rfl | simp [h0] | (simp; omega), b1⟩
  · rw [decide_eq_false h0]
    have h1 : decide (0 ≤ R) = false := decide_eq_false h0
    go_enter Try.func58, Try.ntmps58
    go_wp2_with (go_at_call 92; refine HF2.out.mono ?_; rintro e w1 ⟨rfl, b1⟩)
    go_ret
    exact ⟨by first | rfl | simp [h0] | (simp; omega), b1⟩

set_option maxHeartbeats 2000000 in
set_option maxRecDepth 100000 in
theorem amongFn_c (u : Value) (ts : List ByteArray) (t : ByteArray) (B : Nat) (w : World) (hu : Reads w u (strsV ts)) (hn : ts.length ≤ 1048576) (hc : w.cell? ⟨B, 0, none⟩ = some u) :
    Calls Try.prog 94 #[.string t, .pointer (some ⟨B, 0, none⟩)] w fun e w' => e = .returned (.bool (!hasS ts t)) ∧ Below w.heap.size w w' := by
  have H := hidden (containsH_c u ts t w hu (by omega))
  obtain ⟨a, cap, rfl, _, _⟩ := reads_strs hu
  clear hu hn
  generalize hasS ts t = r at *
  go_enter Try.func94, Try.ntmps94
  go_wp2_with fail
  go_at_call 41
  refine H.out.mono ?_
  rintro e w1 ⟨rfl, rfl⟩
  go_wp2_with fail
  go_ret
  exact ⟨rfl, Below.refl _ _⟩

set_option maxHeartbeats 2000000 in
set_option maxRecDepth 100000 in
theorem allAmong_c (v u : Value) (ss ts : List ByteArray) (w : World) (hv : Reads w v (strsV ss)) (hs : saneP ss) (hu : Reads w u (strsV ts)) (hn : ts.length ≤ 1048576) :
    Calls Try.prog 62 #[v, u] w fun e w' => e = .returned (.bool (ss.all fun t => hasS ts t)) ∧ Below w.heap.size w w' := by
  have hmf : ∀ (fn : Fn) (first cap : Array Value) (w : World), (Instr.makeFunc fn first cap).run Try.prog w = .ok (.func fn first cap) w := fun _ _ _ _ => rfl
  have hbx : ∀ o, Below w.heap.size w (w.alloc o) := fun o => (Below.refl _ _).alloc (Nat.le_refl _) _
  have HA : Hid (∀ T, Calls Try.prog 58 #[v, .func (.func 94) #[] #[.pointer (some ⟨w.heap.size, 0, none⟩)]] (w.alloc (.cells #[u] T)) fun e w' => e = .returned (.bool (ss.any (fun s => !hasS ts s))) ∧ Below (w.alloc (.cells #[u] T)).heap.size (w.alloc (.cells #[u] T)) w') := fun T =>
    anyAmong_c (fun s => hasS ts s) _ v ss _ (hv.below (hbx _)) hs (fun t ht w1 h => amongFn_c u ts t _ w1 ((hu.below (hbx _)).below h) hn ((h.cell (by simp)).trans ((vblk_cell (vheap_new w (.cells #[u] T)) 0).trans rfl)))
  have e1 : (ss.all fun t => hasS ts t) = !(ss.any fun s => !hasS ts s) := (not_any_r _ _).symm
  rw [e1]
  obtain ⟨a, cap, rfl, _, _⟩ := reads_strs hv
  obtain ⟨a2, cap2, rfl, _, _⟩ := reads_strs hu
  generalize (ss.any fun s => !hasS ts s) = q at *
  clear hv hs hu hn e1
  go_enter Try.func62, Try.ntmps62
  go_wp2_with fail
  go_at_call 58
  refine (HA.out _).mono ?_
  rintro e w1 ⟨rfl, b1⟩
  go_wp2_with fail
  go_ret
  exact ⟨rfl, (hbx _).trans (b1.mono (hbx _).size)⟩

set_option maxHeartbeats 8000000 in
set_option maxRecDepth 100000 in
theorem planFn_c (v u x : Value) (l ts : List ByteArray) (B : Nat) (w : World) (hv : Reads w v (strsV l)) (hs : saneP l) (hu : Reads w u (strsV ts)) (hn : ts.length ≤ 1048576) (hB : w.heap[B]? = some (.cells #[u, x] 47 (0, 0))) :
    Calls Try.prog 61 #[v, .pointer (some ⟨B, 0, none⟩)] w fun e w' => e = .returned (.bool (!depsB ts l)) ∧ Below w.heap.size w w' := by
  have HT := hidden (textsAscend_c v l w hv hs)
  have HA : Hid (∀ w1, Below w.heap.size w w1 → Calls Try.prog 62 #[v, u] w1 fun e w' => e = .returned (.bool (l.all fun t => hasS ts t)) ∧ Below w1.heap.size w1 w') := fun w1 h => allAmong_c v u l ts w1 (hv.below h) hs (hu.below h) hn
  have HB : Hid (∀ w1, Below w.heap.size w w1 → w1.cell? ⟨B, 0, none⟩ = some u ∧ w1.cell? ⟨B, 1, none⟩ = some x) := fun w1 h => by
    have h1 := (h.block B (Array.getElem?_eq_some_iff.1 hB).1).trans hB
    exact ⟨vblk_cell h1 0, vblk_cell h1 1⟩
  unfold depsB
  obtain ⟨a, cap, rfl, _, _⟩ := reads_strs hv
  obtain ⟨a2, cap2, rfl, _, _⟩ := reads_strs hu
  generalize ascB l = r at *
  generalize (l.all fun t => hasS ts t) = q at *
  clear hv hs hu hn hB
  go_enter Try.func61, Try.ntmps61
  go_wp2_with fail
  go_at_call 57
  refine HT.out.mono ?_
  rintro e w1 ⟨rfl, b1⟩
  obtain ⟨c0, c1⟩ := HB.out w1 b1
  cases r with
  | false =>
    go_wp2_with fail
    go_ret
    exact ⟨rfl, b1⟩
  | true =>
    go_wp2_with fail
    go_at_call 62
    refine (HA.out _ b1).mono ?_
    rintro e w2 ⟨rfl, b2⟩
    go_wp2_with fail
    go_ret
    exact ⟨by simp, b1.trans (b2.mono b1.size)⟩

set_option maxHeartbeats 8000000 in
set_option maxRecDepth 100000 in
theorem idxDeps_c (S : Nat → Prop) (p : List ByteArray → Bool) (ptr v : Value) (xs : List StringSD) (w : World) (hv : RowIn shStringS S w v xs) (hB : ∀ b, S b → b < w.heap.size)
    (hF : ∀ l ∈ xs, ∀ u w1, Below w.heap.size w w1 → Reads w1 u (strsV l) → Calls Try.prog 61 #[u, ptr] w1 fun e w' => e = .returned (.bool (!p l)) ∧ Below w1.heap.size w1 w') :
    Calls Try.prog 93 #[v, .func (.func 61) #[] #[ptr]] w fun e w' => e = .returned (.int .i64 (firstI (fun s => !p s) xs)) ∧ Below w.heap.size w w' := by
  obtain ⟨a, cap, rfl, hl, hc, ha⟩ := hv
  unfold maxLen at hl
  obtain ⟨R, hR⟩ : ∃ R, R = firstI (fun s => !p s) xs := ⟨_, rfl⟩
  rw [← hR]
  have HR := hidden hR
  clear hR
  go_enter Try.func93, Try.ntmps93
  go_wp2_with fail
  go_loopw [8] (fun vi wr => ∃ k : Nat, k ≤ xs.length ∧ vi = .int .i64 (k : Int) ∧ Hid (∀ j (hj : j < xs.length), j < k → (!p xs[j]) = false) ∧ Below w.heap.size w wr) (fun vi _ => xs.length - (intOf vi).toNat)
  case atStart => exact ⟨0, Nat.zero_le _, rfl, (fun j hj h => by omega), Below.refl _ _⟩
  case round =>
    obtain ⟨k, hk, rfl, hno, hbr⟩ := hrel
    by_cases hlt' : k < xs.length
    · rcases ha with rfl | ⟨b, off, rfl, hlt, ha⟩
      · simp at hlt'
      obtain ⟨cs, ⟨u0, rfl, r0, p0⟩, hcell⟩ := ha k hlt'
      have e0 : wr.cell? ⟨b, off + k, none⟩ = some u0 := by
        have h9 := (hcell.keep (.of hbr hB) hlt) 0 (by simp)
        simpa [shStringS] using h9
      have hrd : Reads wr u0 (strsV xs[k]) := (r0.reads hB).below hbr
      have HT : Hid ((!p xs[k]) = true → R = (k : Int)) := fun h => HR.out.trans (firstI_here hlt' h hno.out)
      have HN : Hid ((!p xs[k]) = false → ∀ j (hj : j < xs.length), j < k + 1 → (!p xs[j]) = false) := fun h j hj hjk => by
        by_cases e : j = k
        · subst e; exact h
        · exact hno.out j hj (by omega)
      have HC0 := hF xs[k] (List.getElem_mem hlt') u0 wr hbr hrd
      obtain ⟨t, ht⟩ : ∃ t, t = xs[k] := ⟨_, rfl⟩
      rw [← ht] at hrd HT HN HC0
      obtain ⟨r, hr⟩ : ∃ r, r = (!p t) := ⟨_, rfl⟩
      rw [← hr] at HC0 HT HN
      have HC2 := hidden HC0
      obtain ⟨a0, c0, e9, _⟩ := id hrd
      rw [length_strsV] at e9
      subst e9
      have hki : (k : Int) < (xs.length : Int) := by omega
      clear ha ht hno HC0 hr r0 p0 hcell hF hrd
      cases r with
      | true =>
        have HT2 := hidden (HT.out rfl)
        clear HT HN
        go_wp2_with (go_at_call 61; refine HC2.out.mono ?_; rintro e w1 ⟨rfl, b1⟩)
        go_ret
        exact ⟨by rw [HT2.out]; rfl, hbr.trans (b1.mono hbr.size)⟩
      | false =>
        have HN2 := hidden (HN.out rfl)
        clear HT HN
        go_wp2_with (go_at_call 61; refine HC2.out.mono ?_; rintro e w1 ⟨rfl, b1⟩)
        go_roundw
        case rel => exact ⟨k + 1, by omega, by go_num, HN2.out, hbr.trans (b1.mono hbr.size)⟩
        case measure => simp [intOf]; omega
    · have he : k = xs.length := by omega
      subst he
      have HE : Hid (R = -1) := HR.out.trans (firstI_none (fun j hj => hno.out j hj hj))
      clear ha hno HR hF
      go_wp2_with fail
      go_ret
      exact ⟨by rw [HE.out]; rfl, hbr⟩

set_option maxHeartbeats 8000000 in
set_option maxRecDepth 100000 in
theorem anyDeps_c (S : Nat → Prop) (p : List ByteArray → Bool) (ptr v : Value) (xs : List StringSD) (w : World) (hv : RowIn shStringS S w v xs) (hB : ∀ b, S b → b < w.heap.size)
    (hF : ∀ l ∈ xs, ∀ u w1, Below w.heap.size w w1 → Reads w1 u (strsV l) → Calls Try.prog 61 #[u, ptr] w1 fun e w' => e = .returned (.bool (!p l)) ∧ Below w1.heap.size w1 w') :
    Calls Try.prog 60 #[v, .func (.func 61) #[] #[ptr]] w fun e w' => e = .returned (.bool (xs.any (fun s => !p s))) ∧ Below w.heap.size w w' := by
  have HF := idxDeps_c S p ptr v xs w hv hB hF
  have hA := firstI_any (fun s => !p s) xs
  obtain ⟨R, hR⟩ : ∃ R, R = firstI (fun s => !p s) xs := ⟨_, rfl⟩
  rw [← hR] at HF hA
  rw [← hA]
  have HF2 := hidden HF
  obtain ⟨a, cap, rfl, _⟩ := hv
  clear hR hA HF hF
  by_cases h0 : 0 ≤ R
  · rw [decide_eq_true h0]
    have h1 : decide (0 ≤ R) = true := decide_eq_true h0
    go_enter Try.func60, Try.ntmps60
    go_wp2_with (go_at_call 93; refine HF2.out.mono ?_; rintro e w1 ⟨rfl, b1⟩)
    go_ret
    exact ⟨by first | rfl | simp [h0] | (simp; omega), b1⟩
  · rw [decide_eq_false h0]
    have h1 : decide (0 ≤ R) = false := decide_eq_false h0
    go_enter Try.func60, Try.ntmps60
    go_wp2_with (go_at_call 93; refine HF2.out.mono ?_; rintro e w1 ⟨rfl, b1⟩)
    go_ret
    exact ⟨by first | rfl | simp [h0] | (simp; omega), b1⟩

set_option maxHeartbeats 8000000 in
set_option maxRecDepth 100000 in
theorem implPlanOk_c (S : Nat → Prop) (d : PlanD) (cs : List Value) (w : World) (hd : shPlan.lies S w cs d) (hB : ∀ b, S b → b < w.heap.size) (hw : wtPlan d ≤ 1048576) :
    Calls Try.prog 24 #[.agg cs.toArray] w fun e w' => e = .returned (.bool (planB d)) ∧ Below w.heap.size w w' := by
  obtain ⟨u0, u1, rfl, r0, p0, r1⟩ := hd
  have hmf : ∀ (fn : Fn) (first cap : Array Value) (w : World), (Instr.makeFunc fn first cap).run Try.prog w = .ok (.func fn first cap) w := fun _ _ _ _ => rfl
  have hbx : ∀ o, Below w.heap.size w (w.alloc o) := fun o => (Below.refl _ _).alloc (Nat.le_refl _) _
  unfold wtPlan at hw
  obtain ⟨q0, q1, q2⟩ := sane_wt (ss := d.tasks) (by omega)
  have hdl : d.deps.length ≤ 1048576 := by have := len_wtRow wtStringS d.deps; omega
  have hel : ∀ l ∈ d.deps, saneP l := fun l hl => (sane_wt (ss := l) (by have h9 : wtStringS l ≤ wtRow wtStringS d.deps := wt_wtRow wtStringS hl; have h8 : wtStringS l = bulkS l := rfl; omega)).1
  have hR0 : Reads w u0 (strsV d.tasks) := r0.reads hB
  have HT : Hid (∀ w1, Below w.heap.size w w1 → Calls Try.prog 57 #[u0] w1 fun e w' => e = .returned (.bool (ascB d.tasks)) ∧ Below w1.heap.size w1 w') := fun w1 h => textsAscend_c u0 d.tasks w1 (hR0.below h) q0
  have HN : Hid (∀ w1, Below w.heap.size w w1 → Calls Try.prog 58 #[u0, .func (.func 59) #[] #[]] w1 fun e w' => e = .returned (.bool (d.tasks.any (fun s => !ptB s))) ∧ Below w1.heap.size w1 w') := fun w1 h => anyNotTask_c ptB u0 d.tasks w1 (hR0.below h) q0 (fun t ht w2 _ => notTask_c t (q1 t ht) w2)
  have HD : Hid (∀ w1, Below w.heap.size w w1 → w1.heap[w.heap.size]? = some (.cells #[u0, u1] 47 (0, 0)) → Calls Try.prog 60 #[u1, .func (.func 61) #[] #[.pointer (some ⟨w.heap.size, 0, none⟩)]] w1 fun e w' => e = .returned (.bool (d.deps.any (fun s => !depsB d.tasks s))) ∧ Below w1.heap.size w1 w') := fun w1 h hbk =>
    anyDeps_c S (depsB d.tasks) _ u1 d.deps w1 (r1.keep (.of h hB)) (fun b hb => Nat.lt_of_lt_of_le (hB b hb) h.size) (fun l hl u w2 h2 hu => planFn_c u u0 u1 l d.tasks w.heap.size w2 hu (hel l hl) ((hR0.below h).below h2) q2 ((h2.block _ (Array.getElem?_eq_some_iff.1 hbk).1).trans hbk))
  have hA0 : ∀ A, (w.alloc A).heap[w.heap.size]? = some A := fun A => vheap_new _ _
  unfold planB
  rw [← not_any_r ptB d.tasks, ← not_any_r (depsB d.tasks) d.deps]
  obtain ⟨a, cap, rfl, _, _⟩ := reads_strs hR0
  obtain ⟨a1, cap1, rfl, _⟩ := id r1
  generalize ascB d.tasks = t0 at *
  generalize (d.tasks.any fun s => !ptB s) = t1 at *
  generalize (d.deps.any fun s => !depsB d.tasks s) = t2 at *
  obtain ⟨n, hn⟩ : ∃ n, n = d.tasks.length := ⟨_, rfl⟩
  obtain ⟨m, hm⟩ : ∃ n, n = d.deps.length := ⟨_, rfl⟩
  rw [← hn] at HT HN HD q2 ⊢
  rw [← hm] at HD hdl ⊢
  clear hw r0 r1 p0 hB q0 q1 hel hR0 hn hm
  by_cases h16 : n ≤ 16
  · rw [decide_eq_true h16]
    have g1 : ¬ (16 : Int) < (n : Int) := by omega
    by_cases hmn : m = n
    · rw [decide_eq_true hmn]
      have g2 : (m : Int) = (n : Int) := by omega
      subst hmn
      clear g2 h16
      go_enter Try.func24, Try.ntmps24
      go_wp2_with fail
      go_at_call 57
      refine (HT.out _ (hbx _)).mono ?_
      rintro e w1 ⟨rfl, b1⟩
      have hx1 := boxAt b1
      have k1 : Below w.heap.size w w1 := (hbx _).trans (b1.mono (hbx _).size)
      have x0 := vblk_cell hx1 0
      have x1 := vblk_cell hx1 1
      simp only [List.getElem?_toArray, List.getElem?_cons_succ, List.getElem?_cons_zero] at x0 x1
      cases t0 with
      | false =>
        go_wp2_with fail
        go_ret
        exact ⟨by simp, k1⟩
      | true =>
        go_wp2_with fail
        go_at_call 58
        refine (HN.out _ k1).mono ?_
        rintro e w2 ⟨rfl, b2⟩
        have hx2 := (b2.block _ (Array.getElem?_eq_some_iff.1 hx1).1).trans hx1
        have k2 : Below w.heap.size w w2 := k1.trans (b2.mono k1.size)
        have y0 := vblk_cell hx2 0
        have y1 := vblk_cell hx2 1
        simp only [List.getElem?_toArray, List.getElem?_cons_succ, List.getElem?_cons_zero] at y0 y1
        cases t1 with
        | true =>
          go_wp2_with fail
          go_ret
          exact ⟨by simp, k2⟩
        | false =>
          go_wp2_with fail
          go_at_call 60
          refine (HD.out _ k2 hx2).mono ?_
          rintro e w3 ⟨rfl, b3⟩
          go_wp2_with fail
          go_ret
          exact ⟨by simp, k2.trans (b3.mono k2.size)⟩
    · rw [decide_eq_false hmn]
      have g2 : ¬ (m : Int) = (n : Int) := by omega
      have g3 : ((m : Int) == (n : Int)) = false := by rw [beq_eq_false_iff_ne]; exact g2
      clear HT HN HD
      go_enter Try.func24, Try.ntmps24
      go_wp2_with fail
      go_ret
      exact ⟨by simp, hbx _⟩
  · rw [decide_eq_false h16]
    have g1 : (16 : Int) < (n : Int) := by omega
    clear HT HN HD
    go_enter Try.func24, Try.ntmps24
    go_wp2_with fail
    go_ret
    exact ⟨by simp, hbx _⟩
end Go.Proofs.Ytkkhnldhipfneaa
