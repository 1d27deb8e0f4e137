/-
  Contracts for the walks, several texts in one: each part says what it proves, and under which conditions.
-/
import Derived.Test.YtkkhnldhipfneaaGreatDoorQ1

/-! A sign cut off ahead of a word, the program's, and the library's cutting off of a beginning: contracts for the walks; conditions: the texts have at most 2 to the 40 bytes, the table of signs holds what the text lays. -/
namespace Go.Proofs.YtkkhnldhipfneaaGreatDoor
open Go.RowKit
set_option linter.unusedSimpArgs false
set_option linter.unusedVariables false

/-- Does s begin with p? -/
def headB (s p : ByteArray) : Bool := decide (p.size ≤ s.size) && (s.extract 0 p.size).toList == p.toList

set_option maxHeartbeats 1000000 in
set_option maxRecDepth 100000 in
theorem hasPrefix_c (s p : ByteArray) (hs : s.size ≤ 1099511627776) (hp : p.size ≤ 1099511627776) (w : World) :
    Calls Tryz.prog 251 #[.string s, .string p] w fun e w' => e = .returned (.bool (headB s p)) ∧ w = w' := by
  by_cases h : p.size ≤ s.size
  · have e : headB s p = ((s.extract 0 p.size).toList == p.toList) := by simp [headB, h]
    rw [e]
    clear e
    have h' : (p.size : Int) ≤ (s.size : Int) := by omega
    go_enter Tryz.func251, Tryz.ntmps251
    go_wp2
    go_ret
    exact ⟨rfl, rfl⟩
  · have e : headB s p = false := by simp [headB, h]
    rw [e]
    clear e
    have h' : ¬ (p.size : Int) ≤ (s.size : Int) := by omega
    go_enter Tryz.func251, Tryz.ntmps251
    go_wp2
    go_ret
    exact ⟨rfl, rfl⟩

def cutRest (s p : ByteArray) : ByteArray := if headB s p then s.extract p.size s.size else s
theorem headB_le {s p : ByteArray} (h : headB s p = true) : p.size ≤ s.size := by
  simp [headB] at h
  exact h.1

set_option maxHeartbeats 1000000 in
set_option maxRecDepth 100000 in
theorem cutPrefixLite_c (s p : ByteArray) (hs : s.size ≤ 1099511627776) (hp : p.size ≤ 1099511627776) (w : World) :
    Calls Tryz.prog 202 #[.string s, .string p] w fun e w' => e = .returned (.tuple #[.string (cutRest s p), .bool (headB s p)]) ∧ w = w' := by
  have HC : Hid (∀ w1, Calls Tryz.prog 251 #[.string s, .string p] w1 fun e w' => e = .returned (.bool (headB s p)) ∧ w1 = w') := fun w1 => hasPrefix_c s p hs hp w1
  have hle := @headB_le s p
  have HR : Hid (cutRest s p = if headB s p then s.extract p.size s.size else s) := rfl
  obtain ⟨r, hr⟩ : ∃ r, r = headB s p := ⟨_, rfl⟩
  obtain ⟨t, ht⟩ : ∃ t, t = cutRest s p := ⟨_, rfl⟩
  rw [← hr] at HC HR hle
  rw [← ht] at HR
  rw [← hr, ← ht]
  clear hr ht
  cases r with
  | true =>
    have hl : (p.size : Int) ≤ (s.size : Int) := by have := hle rfl; omega
    have e : t = s.extract p.size s.size := HR.out
    subst e
    clear HR hle
    go_enter Tryz.func202, Tryz.ntmps202
    go_wp2_with (go_at_call 251; refine (HC.out _).mono ?_; rintro e w1 ⟨rfl, rfl⟩)
    go_ret2
    exact ⟨rfl, rfl⟩
  | false =>
    have e : t = s := HR.out
    subst e
    clear HR hle
    go_enter Tryz.func202, Tryz.ntmps202
    go_wp2_with (go_at_call 251; refine (HC.out _).mono ?_; rintro e w1 ⟨rfl, rfl⟩)
    go_ret2
    exact ⟨rfl, rfl⟩

set_option maxHeartbeats 1000000 in
set_option maxRecDepth 100000 in
theorem cutPrefix_c (s p : ByteArray) (hs : s.size ≤ 1099511627776) (hp : p.size ≤ 1099511627776) (w : World) :
    Calls Tryz.prog 147 #[.string s, .string p] w fun e w' => e = .returned (.tuple #[.string (cutRest s p), .bool (headB s p)]) ∧ w = w' := by
  have HC : Hid (∀ w1, Calls Tryz.prog 202 #[.string s, .string p] w1 fun e w' => e = .returned (.tuple #[.string (cutRest s p), .bool (headB s p)]) ∧ w1 = w') := fun w1 => cutPrefixLite_c s p hs hp w1
  go_enter Tryz.func147, Tryz.ntmps147
  go_wp2_with (go_at_call 202; refine (HC.out _).mono ?_; rintro e w1 ⟨rfl, rfl⟩)
  go_ret2
  exact ⟨rfl, rfl⟩

def signsT : List ByteArray := [⟨#[61]⟩, ⟨#[60]⟩, ⟨#[60, 61]⟩, ⟨#[62]⟩, ⟨#[62, 61]⟩, ⟨#[126]⟩, ⟨#[94]⟩]
theorem signsT_small : ∀ k (h : k < signsT.length), signsT[k].size ≤ 2 := by decide +kernel
/-- The sign ahead of a word, looked for from the n-th down, and what is left. -/
def signGo (s : ByteArray) : Nat → Int × ByteArray
  | 0 => (0, s)
  | n + 1 => if headB s (signsT.getD n ⟨#[]⟩) then ((n : Int), cutRest s (signsT.getD n ⟨#[]⟩)) else signGo s n
def signOf (s : ByteArray) : Int := (signGo s 7).1
def signRest (s : ByteArray) : ByteArray := (signGo s 7).2

set_option maxHeartbeats 1000000 in
set_option maxRecDepth 100000 in
theorem cutSign_c (s : ByteArray) (hs : s.size ≤ 1048576) (w : World) (hsg : ∀ k (h : k < signsT.length), w.cell? ⟨2, k, none⟩ = some (.string signsT[k])) :
    Calls Tryz.prog 309 #[.string s] w fun e w' => e = .returned (.tuple #[.int .i64 (signOf s), .string (signRest s)]) ∧ w = w' := by
  have HC : Hid (∀ p : ByteArray, p.size ≤ 2 → ∀ w1, Calls Tryz.prog 147 #[.string s, .string p] w1 fun e w' => e = .returned (.tuple #[.string (cutRest s p), .bool (headB s p)]) ∧ w1 = w') := fun p hp w1 => cutPrefix_c s p (by omega) (by omega) w1
  have HG : Hid (∀ k (h : k < signsT.length), w.cell? ⟨2, k, none⟩ = some (.string signsT[k])) := hsg
  clear hsg
  go_enter Tryz.func309, Tryz.ntmps309
  go_wp2_with fail
  go_loop [4] (fun vi => ∃ n : Nat, n ≤ 7 ∧ vi = .int .i64 ((n : Int) - 1) ∧ Hid (signGo s n = signGo s 7)) (fun vi => (intOf vi + 1).toNat)
  case atStart => exact ⟨7, by omega, by simp, rfl⟩
  case round =>
    obtain ⟨n, hn, rfl, hh⟩ := hrel
    by_cases h0 : n = 0
    · subst h0
      have e1 : Hid (signOf s = 0) := by show _ = _; rw [signOf, ← hh.out]; rfl
      have e2 : Hid (signRest s = s) := by show _ = _; rw [signRest, ← hh.out]; rfl
      clear hh
      go_wp2_with fail
      go_ret2
      exact ⟨by rw [e1.out, e2.out]; rfl, rfl⟩
    · obtain ⟨m, rfl⟩ : ∃ m, n = m + 1 := ⟨n - 1, by omega⟩
      have hm : m < signsT.length := by simp [signsT]; omega
      have hcx := HG.out m hm
      have hsz := signsT_small m hm
      have hgd : signsT.getD m ⟨#[]⟩ = signsT[m] := by simp [List.getD_eq_getElem?_getD, hm]
      obtain ⟨p, hp⟩ : ∃ p, p = signsT[m] := ⟨_, rfl⟩
      rw [← hp] at hcx hsz hgd
      have hst : signGo s (m + 1) = if headB s p then ((m : Int), cutRest s p) else signGo s m := by rw [signGo, hgd]
      have HS : Hid (signGo s 7 = if headB s p then ((m : Int), cutRest s p) else signGo s m) := hh.out.symm.trans hst
      have HC2 := HC.out p hsz
      obtain ⟨r, hr⟩ : ∃ r, r = headB s p := ⟨_, rfl⟩
      rw [← hr] at HS
      have HC3 : Hid (∀ w1, Calls Tryz.prog 147 #[.string s, .string p] w1 fun e w' => e = .returned (.tuple #[.string (cutRest s p), .bool r]) ∧ w1 = w') := fun w1 => by rw [hr]; exact HC2 w1
      have hmm : ((m + 1 : Nat) : Int) - 1 = (m : Int) := by omega
      have hm7 : (m : Int) < 7 := by omega
      rw [hmm]
      clear HC2 hr hst hgd hp hh hmm hm h0
      cases r with
      | true =>
        have e1 : Hid (signOf s = (m : Int)) := by show _ = _; rw [signOf, HS.out]; rfl
        have e2 : Hid (signRest s = cutRest s p) := by show _ = _; rw [signRest, HS.out]; rfl
        clear HS
        go_wp2_with (go_at_call 147; refine (HC3.out _).mono ?_; rintro e w1 ⟨rfl, rfl⟩)
        go_ret2
        exact ⟨by rw [e1.out, e2.out]; rfl, rfl⟩
      | false =>
        have e3 : Hid (signGo s m = signGo s 7) := by show _ = _; rw [HS.out]; rfl
        clear HS
        go_wp2_with (go_at_call 147; refine (HC3.out _).mono ?_; rintro e w1 ⟨rfl, rfl⟩)
        go_round
        case rel => exact ⟨m, by omega, rfl, e3⟩
        case measure => simp [intOf]
end Go.Proofs.YtkkhnldhipfneaaGreatDoor

/-! How many pieces a text falls into, and how long they are: no condition. -/
namespace Go.Proofs.YtkkhnldhipfneaaGreatDoor
open Go.RowKit
set_option linter.unusedSimpArgs false
set_option linter.unusedVariables false

theorem splitS_pos (s : ByteArray) (c : Int) : 0 < (splitS s c).length := by
  have h : ∀ n i b, 0 < (splitGo s c n i b).length := fun n => by
    induction n with
    | zero => intro i b; simp [splitGo]
    | succ n ih => intro i b; rw [splitGo]; split <;> simp [ih]
  exact h _ _ _
theorem splitS_piece (s : ByteArray) (c : Int) : ∀ x ∈ splitS s c, x.size ≤ s.size := by
  have h : ∀ n i b, ∀ x ∈ splitGo s c n i b, x.size ≤ s.size := fun n => by
    induction n with
    | zero => intro i b x hx; simp [splitGo] at hx; subst hx; rw [ByteArray.size_extract]; omega
    | succ n ih =>
      intro i b x hx
      rw [splitGo] at hx
      split at hx
      · rcases List.mem_cons.1 hx with rfl | hx
        · rw [ByteArray.size_extract]; omega
        · exact ih _ _ x hx
      · exact ih _ _ x hx
  exact h _ _ _
theorem splitS_len (s : ByteArray) (c : Int) : (splitS s c).length ≤ s.size + 1 := by
  have h : ∀ n i b, (splitGo s c n i b).length ≤ n + 1 := fun n => by
    induction n with
    | zero => intro i b; simp [splitGo]
    | succ n ih =>
      intro i b
      rw [splitGo]
      split
      · simp only [List.length_cons]; have := ih (i + 1) (i + 1); omega
      · have := ih (i + 1) b; omega
  exact h _ _ _

end Go.Proofs.YtkkhnldhipfneaaGreatDoor

/-! What the two functions OnOk, the program's and the specification's, answer: the same of every text; contracts for the walks; condition: the text has at most 2 to the 20 bytes. -/
namespace Go.Proofs.YtkkhnldhipfneaaGreatDoor
open Go.RowKit
set_option linter.unusedSimpArgs false
set_option linter.unusedVariables false

/-- What a rule may wait for. -/
def onB (s : ByteArray) : Bool := if headB s ⟨#[94]⟩ then nameB (cutRest s ⟨#[94]⟩) else if (cutD s 35).2.2 then nameB (cutD s 35).1 && nameB (cutD s 35).2.1 else nameB s

theorem nameB_hash {s : ByteArray} {k : Nat} (h : s.data.toList[k]? = some 35) : nameB s = false := by
  obtain ⟨hk, hv⟩ := List.getElem?_eq_some_iff.1 h
  have hk' : k < s.size := by rw [len_list] at hk; exact hk
  have e : s[k] = 35 := by show s.data[k] = 35; simpa using hv
  rw [nameB, end_false hk' (by rw [e]; simp [okName, smallB, digitB])]; rfl
theorem headB_one (s : ByteArray) : headB s ⟨#[94]⟩ = true ↔ s.data.toList[0]? = some 94 := by
  have h0 : (s.extract 0 1).toList = s.data.toList.take 1 := by rw [ByteArray.toList_eq, extract_list]; simp
  have h1 : (⟨#[94]⟩ : ByteArray).toList = [94] := by simp [ByteArray.toList_eq]
  have h2 : (⟨#[94]⟩ : ByteArray).size = 1 := rfl
  unfold headB
  rw [h2, h0, h1, ← len_list]
  cases s.data.toList with
  | nil => simp
  | cons a l => simp
theorem index_at {s : ByteArray} {c : UInt8} {k : Nat} (h : Lib.indexByte s.data.toList c = (k : Int)) : s.data.toList[k]? = some c := (Lib.indexByte_some h).1
/-- The list that the specification cuts a text into says the same as the first cut. -/
theorem split_cut (s : ByteArray) : (if (splitS s 35).length = 2 then nameB ((splitS s 35).getD 0 ⟨#[]⟩) && nameB ((splitS s 35).getD 1 ⟨#[]⟩) else nameB s) = (if (cutD s 35).2.2 then nameB (cutD s 35).1 && nameB (cutD s 35).2.1 else nameB s) := by
  have e0 : s.extract 0 s.size = s := by simp
  have u35 : (35 : Int).toNat.toUInt8 = 35 := rfl
  rcases search s 35 0 (by omega) (by omega) (by omega) with ⟨h1, h2⟩ | ⟨k, h1, h2, h3⟩
  · rw [e0, u35] at h1
    rw [e0, Nat.sub_zero] at h2
    rw [cutD_none h1, splitS, h2]
    simp
  · rw [e0, u35] at h1
    rw [Nat.sub_zero, Nat.zero_add] at h3
    rw [cutD_some h1, splitS, h3]
    have hs := nameB_hash (index_at h1)
    rcases search s 35 (k + 1) (by omega) (by omega) (by omega) with ⟨g1, g2⟩ | ⟨j, g1, g2, g3⟩
    · rw [g2]
      simp
    · rw [u35] at g1
      have hb := nameB_hash (index_at g1)
      rw [g3]
      have hp : 0 < (splitGo s 35 (s.size - (k + 1 + j + 1)) (k + 1 + j + 1) (k + 1 + j + 1)).length := by
        cases hh : (s.size - (k + 1 + j + 1)) with
        | zero => simp [splitGo]
        | succ n =>
          have : ∀ n i b, 0 < (splitGo s 35 n i b).length := fun n => by
            induction n with
            | zero => intro i b; simp [splitGo]
            | succ n ih => intro i b; rw [splitGo]; split <;> simp [ih]
          exact this _ _ _
      rw [if_neg (by simp only [List.length_cons]; omega), if_pos rfl, hs, hb, Bool.and_false]

set_option maxHeartbeats 4000000 in
set_option maxRecDepth 100000 in
theorem implOn_c (s : ByteArray) (w : World) (hs : s.size ≤ 1048576) :
    Calls Tryz.prog 183 #[.string s] w fun e w' => e = .returned (.bool (onB s)) ∧ Below w.heap.size w w' := by
  have HP := hidden (fun w1 => cutPrefix_c s ⟨#[94]⟩ (by omega) (by decide) w1)
  have HC := hidden (fun w1 => cut35_c s w1 hs)
  have h1 : (cutRest s ⟨#[94]⟩).size ≤ 1048576 := by
    unfold cutRest; split
    · rw [ByteArray.size_extract]; omega
    · exact hs
  have h23 : (cutD s 35).1.size ≤ 1048576 ∧ (cutD s 35).2.1.size ≤ 1048576 := by
    unfold cutD; split
    · exact ⟨hs, Nat.zero_le 1048576⟩
    · exact ⟨by rw [ByteArray.size_extract]; omega, by rw [ByteArray.size_extract]; omega⟩
  have HN : Hid (∀ x : ByteArray, x.size ≤ 1048576 → ∀ w1, Calls Tryz.prog 72 #[.string x] w1 fun e w' => e = .returned (.bool (nameB x)) ∧ w1 = w') := fun x hx w1 => implName_c x (by unfold maxLen; omega) w1
  unfold onB
  generalize headB s ⟨#[94]⟩ = b0 at *
  generalize cutRest s ⟨#[94]⟩ = x0 at *
  generalize cutD s 35 = d at *
  obtain ⟨d1, d2, d3⟩ := d
  dsimp only at h23 HC ⊢
  obtain ⟨h2, h3⟩ := h23
  obtain ⟨n0, hn0⟩ : ∃ b, b = nameB x0 := ⟨_, rfl⟩
  obtain ⟨n1, hn1⟩ : ∃ b, b = nameB d1 := ⟨_, rfl⟩
  obtain ⟨n2, hn2⟩ : ∃ b, b = nameB d2 := ⟨_, rfl⟩
  obtain ⟨n3, hn3⟩ : ∃ b, b = nameB s := ⟨_, rfl⟩
  have HN0 := hidden (HN.out x0 h1)
  have HN1 := hidden (HN.out d1 h2)
  have HN2 := hidden (HN.out d2 h3)
  have HN3 := hidden (HN.out s hs)
  rw [← hn0] at HN0 ⊢
  rw [← hn1] at HN1 ⊢
  rw [← hn2] at HN2 ⊢
  rw [← hn3] at HN3 ⊢
  clear HN h1 h2 h3 hn0 hn1 hn2 hn3 hs
  cases b0 with
  | true =>
    go_enter Tryz.func183, Tryz.ntmps183
    go_wp2_with fail
    go_at_call 147
    refine (HP.out _).mono ?_
    rintro e w1 ⟨rfl, rfl⟩
    go_wp2_with fail
    go_at_call 72
    refine (HN0.out _).mono ?_
    rintro e w1 ⟨rfl, rfl⟩
    go_wp2_with fail
    go_ret
    exact ⟨rfl, Below.refl _ _⟩
  | false =>
    cases d3 with
    | true =>
      cases n1 with
      | true =>
        go_enter Tryz.func183, Tryz.ntmps183
        go_wp2_with fail
        go_at_call 147
        refine (HP.out _).mono ?_
        rintro e w1 ⟨rfl, rfl⟩
        go_wp2_with fail
        go_at_call 71
        refine (HC.out _).mono ?_
        rintro e w1 ⟨rfl, b1⟩
        go_wp2_with fail
        go_at_call 72
        refine (HN1.out _).mono ?_
        rintro e w2 ⟨rfl, rfl⟩
        go_wp2_with fail
        go_at_call 72
        refine (HN2.out _).mono ?_
        rintro e w2 ⟨rfl, rfl⟩
        go_wp2_with fail
        go_ret
        exact ⟨rfl, b1⟩
      | false =>
        go_enter Tryz.func183, Tryz.ntmps183
        go_wp2_with fail
        go_at_call 147
        refine (HP.out _).mono ?_
        rintro e w1 ⟨rfl, rfl⟩
        go_wp2_with fail
        go_at_call 71
        refine (HC.out _).mono ?_
        rintro e w1 ⟨rfl, b1⟩
        go_wp2_with fail
        go_at_call 72
        refine (HN1.out _).mono ?_
        rintro e w2 ⟨rfl, rfl⟩
        go_wp2_with fail
        go_ret
        exact ⟨rfl, b1⟩
    | false =>
      go_enter Tryz.func183, Tryz.ntmps183
      go_wp2_with fail
      go_at_call 147
      refine (HP.out _).mono ?_
      rintro e w1 ⟨rfl, rfl⟩
      go_wp2_with fail
      go_at_call 71
      refine (HC.out _).mono ?_
      rintro e w1 ⟨rfl, b1⟩
      go_wp2_with fail
      go_at_call 72
      refine (HN3.out _).mono ?_
      rintro e w2 ⟨rfl, rfl⟩
      go_wp2_with fail
      go_ret
      exact ⟨rfl, b1⟩

set_option maxHeartbeats 4000000 in
set_option maxRecDepth 100000 in
theorem specOn_c (s : ByteArray) (w : World) (hs : s.size ≤ 1048576) :
    Calls Tryz.prog 158 #[.string s] w fun e w' => e = .returned (.bool (onB s)) ∧ Below w.heap.size w w' := by
  have HN : Hid (∀ x : ByteArray, x.size ≤ 1048576 → ∀ w1, Calls Tryz.prog 129 #[.string x] w1 fun e w' => e = .returned (.bool (nameB x)) ∧ w1 = w') := fun x hx w1 => specName_c x (by unfold maxLen; omega) w1
  by_cases hh : headB s ⟨#[94]⟩ = true
  · have e : onB s = nameB (s.extract 1 s.size) := by unfold onB; rw [if_pos hh, cutRest, if_pos hh]; rfl
    rw [e]
    have h94 := (headB_one s).1 hh
    obtain ⟨hk, hv⟩ := List.getElem?_eq_some_iff.1 h94
    have hk' : 0 < s.size := by rw [len_list] at hk; exact hk
    have hv' : s[0] = 94 := by show s.data[0] = 94; simpa using hv
    have hbang := byteBang s 0 hk'
    have h1 : (s.extract 1 s.size).size ≤ 1048576 := by rw [ByteArray.size_extract]; omega
    have HN0 := hidden (HN.out _ h1)
    have heq : (((s[0]).toNat : Int) == 94) = true := by rw [hv']; rfl
    have hle : (1 : Int) ≤ (s.size : Int) := by omega
    have hgt : (0 : Int) < (s.size : Int) := by omega
    obtain ⟨n0, hn0⟩ : ∃ b, b = nameB (s.extract 1 s.size) := ⟨_, rfl⟩
    rw [← hn0] at HN0 ⊢
    clear HN h1 hn0 e h94 hv hk hh hv' hbang
    go_enter Tryz.func158, Tryz.ntmps158
    go_wp2_with fail
    go_at_call 129
    refine (HN0.out _).mono ?_
    rintro e w1 ⟨rfl, rfl⟩
    go_wp2_with fail
    go_ret
    exact ⟨rfl, Below.refl _ _⟩
  · have e : onB s = (if (splitS s 35).length = 2 then nameB ((splitS s 35).getD 0 ⟨#[]⟩) && nameB ((splitS s 35).getD 1 ⟨#[]⟩) else nameB s) := by rw [split_cut]; unfold onB; rw [if_neg hh]
    rw [e]
    have HS := hidden (fun w1 => specSplit_c s 35 w1 hs)
    have hpl := splitS_piece s 35
    have hlen := splitS_len s 35
    have hne : s.size = 0 ∨ ∃ h : 0 < s.size, (((s[0]).toNat : Int) == 94) = false := by
      rcases Nat.eq_zero_or_pos s.size with h | h
      · exact .inl h
      · refine .inr ⟨h, ?_⟩
        rw [beq_eq_false_iff_ne]
        intro h2
        apply hh
        rw [headB_one, List.getElem?_eq_getElem (by rw [len_list]; exact h)]
        have : s[0] = 94 := by
          have h3 : (s[0]).toNat = 94 := by omega
          exact UInt8.toNat_inj.1 h3
        have h4 : s.data[0] = 94 := this
        simpa using h4
    have HN3 := hidden (HN.out s hs)
    generalize splitS s 35 = l at *
    clear e hh
    by_cases h2 : l.length = 2
    · obtain ⟨a, b, rfl⟩ : ∃ a b, l = [a, b] := by
        match l, h2 with
        | [a, b], _ => exact ⟨a, b, rfl⟩
      have HNa := hidden (HN.out a (Nat.le_trans (hpl a (by simp)) hs))
      have HNb := hidden (HN.out b (Nat.le_trans (hpl b (by simp)) hs))
      rw [if_pos h2]
      simp only [List.getD_cons_zero, List.getD_cons_succ]
      obtain ⟨na, hna⟩ : ∃ x, x = nameB a := ⟨_, rfl⟩
      obtain ⟨nb, hnb⟩ : ∃ x, x = nameB b := ⟨_, rfl⟩
      rw [← hna] at HNa ⊢
      rw [← hnb] at HNb ⊢
      clear HN HN3 hpl hlen hna hnb h2
      rcases hne with h0 | ⟨h0, hneq⟩
      · have hgt : ¬ (0 : Int) < (s.size : Int) := by omega
        clear h0
        go_enter Tryz.func158, Tryz.ntmps158
        go_wp2_with fail
        go_at_call 128
        refine (HS.out _).mono ?_
        rintro e w1 ⟨v, rfl, o1, b1⟩
        obtain ⟨q, cap, rfl, _, hc⟩ := reads_strs (reads_of_owns o1)
        rcases hc with hc | ⟨b9, off, rfl, hlt, hc⟩
        · cases hc
        have c0 := hc 0 (by simp)
        have c1 := hc 1 (by simp)
        simp only [List.getElem_cons_zero, List.getElem_cons_succ, Nat.add_zero] at c0 c1
        clear hc o1
        cases na with
        | true =>
          go_wp2_with fail
          go_at_call 129
          refine (HNa.out _).mono ?_
          rintro e w2 ⟨rfl, rfl⟩
          go_wp2_with fail
          go_at_call 129
          refine (HNb.out _).mono ?_
          rintro e w2 ⟨rfl, rfl⟩
          go_wp2_with fail
          go_ret
          exact ⟨rfl, b1⟩
        | false =>
          go_wp2_with fail
          go_at_call 129
          refine (HNa.out _).mono ?_
          rintro e w2 ⟨rfl, rfl⟩
          go_wp2_with fail
          go_ret
          exact ⟨rfl, b1⟩
      · have hgt : (0 : Int) < (s.size : Int) := by omega
        have hbang := byteBang s 0 h0
        go_enter Tryz.func158, Tryz.ntmps158
        go_wp2_with fail
        go_at_call 128
        refine (HS.out _).mono ?_
        rintro e w1 ⟨v, rfl, o1, b1⟩
        obtain ⟨q, cap, rfl, _, hc⟩ := reads_strs (reads_of_owns o1)
        rcases hc with hc | ⟨b9, off, rfl, hlt, hc⟩
        · cases hc
        have c0 := hc 0 (by simp)
        have c1 := hc 1 (by simp)
        simp only [List.getElem_cons_zero, List.getElem_cons_succ, Nat.add_zero] at c0 c1
        clear hc o1
        cases na with
        | true =>
          go_wp2_with fail
          go_at_call 129
          refine (HNa.out _).mono ?_
          rintro e w2 ⟨rfl, rfl⟩
          go_wp2_with fail
          go_at_call 129
          refine (HNb.out _).mono ?_
          rintro e w2 ⟨rfl, rfl⟩
          go_wp2_with fail
          go_ret
          exact ⟨rfl, b1⟩
        | false =>
          go_wp2_with fail
          go_at_call 129
          refine (HNa.out _).mono ?_
          rintro e w2 ⟨rfl, rfl⟩
          go_wp2_with fail
          go_ret
          exact ⟨rfl, b1⟩
    · rw [if_neg h2]
      obtain ⟨n, hn⟩ : ∃ n, n = l.length := ⟨_, rfl⟩
      have h2' : ((n : Int) == 2) = false := by rw [beq_eq_false_iff_ne]; omega
      obtain ⟨ns, hns⟩ : ∃ x, x = nameB s := ⟨_, rfl⟩
      rw [← hns] at HN3 ⊢
      clear HN hpl hns h2
      rcases hne with h0 | ⟨h0, hneq⟩
      · have hgt : ¬ (0 : Int) < (s.size : Int) := by omega
        clear h0
        go_enter Tryz.func158, Tryz.ntmps158
        go_wp2_with fail
        go_at_call 128
        refine (HS.out _).mono ?_
        rintro e w1 ⟨v, rfl, o1, b1⟩
        obtain ⟨q, cap, rfl, _, hc⟩ := reads_strs (reads_of_owns o1)
        rw [← hn]
        clear hc o1 hn hlen
        go_wp2_with fail
        go_at_call 129
        refine (HN3.out _).mono ?_
        rintro e w2 ⟨rfl, rfl⟩
        go_wp2_with fail
        go_ret
        exact ⟨rfl, b1⟩
      · have hgt : (0 : Int) < (s.size : Int) := by omega
        have hbang := byteBang s 0 h0
        go_enter Tryz.func158, Tryz.ntmps158
        go_wp2_with fail
        go_at_call 128
        refine (HS.out _).mono ?_
        rintro e w1 ⟨v, rfl, o1, b1⟩
        obtain ⟨q, cap, rfl, _, hc⟩ := reads_strs (reads_of_owns o1)
        rw [← hn]
        clear hc o1 hn hlen
        go_wp2_with fail
        go_at_call 129
        refine (HN3.out _).mono ?_
        rintro e w2 ⟨rfl, rfl⟩
        go_wp2_with fail
        go_ret
        exact ⟨rfl, b1⟩
end Go.Proofs.YtkkhnldhipfneaaGreatDoor

/-! What the functions that look at a path, name by name, answer (the program's and the specification's): contracts for the walks; condition: the text has at most 2 to the 20 bytes. -/
namespace Go.Proofs.YtkkhnldhipfneaaGreatDoor
open Go.RowKit
set_option linter.unusedSimpArgs false
set_option linter.unusedVariables false

def pathC (c : Int) : Bool := smallB c || (digitB c || (c == 46 || (c == 45 || c == 95)))

theorem isPath_c (c : Int) (w : World) : Calls Tryz.prog 301 #[.int .u8 c] w fun e w' => e = .returned (.bool (pathC c)) ∧ w = w' := by
  cases h1 : smallB c with
  | true =>
    have hb : pathC c = true := by simp [pathC, h1]
    rw [hb]
    go_enter Tryz.func301, Tryz.ntmps301
    go_wp2_with (go_at_call 139; refine (isSmall_c _ _).mono ?_; rintro e w' ⟨rfl, rfl⟩; rw [h1])
    go_ret
    exact ⟨rfl, rfl⟩
  | false =>
    cases h2 : digitB c with
    | true =>
      have hb : pathC c = true := by simp [pathC, h2]
      rw [hb]
      go_enter Tryz.func301, Tryz.ntmps301
      go_wp2_with (first
        | (go_at_call 139; refine (isSmall_c _ _).mono ?_; rintro e w' ⟨rfl, rfl⟩; rw [h1])
        | (go_at_call 140; refine (isDigit_c _ _).mono ?_; rintro e w' ⟨rfl, rfl⟩; rw [h2]))
      go_ret
      exact ⟨rfl, rfl⟩
    | false =>
      go_enter Tryz.func301, Tryz.ntmps301
      go_wp2_with (first
        | (go_at_call 139; refine (isSmall_c _ _).mono ?_; rintro e w' ⟨rfl, rfl⟩; rw [h1])
        | (go_at_call 140; refine (isDigit_c _ _).mono ?_; rintro e w' ⟨rfl, rfl⟩; rw [h2]))
      all_goals go_ret
      all_goals exact ⟨by simp [pathC, Bool.or_assoc, *], rfl⟩

theorem letter5_c (c : Int) (k0 : 0 ≤ c) (k1 : c ≤ 255) (w : World) : Calls Tryz.prog 254 #[.int .u8 c] w fun e w' => e = .returned (.bool (pathC c)) ∧ w = w' := by
  cases h1 : smallB c with
  | true =>
    have hb : pathC c = true := by simp [pathC, h1]
    rw [hb]
    go_enter Tryz.func254, Tryz.ntmps254
    go_wp2_with (go_at_call 188; refine (small_c _ k0 k1 _).mono ?_; rintro e w' ⟨rfl, rfl⟩; rw [h1])
    go_ret
    exact ⟨rfl, rfl⟩
  | false =>
    cases h2 : digitB c with
    | true =>
      have hb : pathC c = true := by simp [pathC, h2]
      rw [hb]
      go_enter Tryz.func254, Tryz.ntmps254
      go_wp2_with (first
        | (go_at_call 188; refine (small_c _ k0 k1 _).mono ?_; rintro e w' ⟨rfl, rfl⟩; rw [h1])
        | (go_at_call 189; refine (digit_c _ k0 k1 _).mono ?_; rintro e w' ⟨rfl, rfl⟩; rw [h2]))
      go_ret
      exact ⟨rfl, rfl⟩
    | false =>
      go_enter Tryz.func254, Tryz.ntmps254
      go_wp2_with (first
        | (go_at_call 188; refine (small_c _ k0 k1 _).mono ?_; rintro e w' ⟨rfl, rfl⟩; rw [h1])
        | (go_at_call 189; refine (digit_c _ k0 k1 _).mono ?_; rintro e w' ⟨rfl, rfl⟩; rw [h2]))
      all_goals go_ret
      all_goals exact ⟨by simp [pathC, Bool.or_assoc, *], rfl⟩

def okPath (_ : Nat) (c : Int) : Bool := pathC c
def pnameB (s : ByteArray) : Bool := allUpto okPath s s.size && (inB s.size 1 12 && (!(s.toList == [46]) && !(s.toList == [46, 46])))

theorem pname_out {s : ByteArray} (h : s.size = 0 ∨ 12 < s.size) : pnameB s = false := by
  have : inB s.size 1 12 = false := by
    simp only [inB, Bool.and_eq_false_iff, decide_eq_false_iff_not]
    omega
  rw [pnameB, this]; simp
theorem pname_in {s : ByteArray} (h0 : 0 < s.size) (h1 : s.size ≤ 12) (h2 : (s.toList == [46]) = false) (h3 : (s.toList == [46, 46]) = false) (h : allUpto okPath s s.size = true) : pnameB s = true := by
  have : inB s.size 1 12 = true := by
    simp only [inB, Bool.and_eq_true, decide_eq_true_eq]
    omega
  rw [pnameB, this, h, h2, h3]; rfl

end Go.Proofs.YtkkhnldhipfneaaGreatDoor

/-! What the two functions PathOk (the program's and the specification's) answer: the same; condition: the text has at most 2 to the 20 bytes. -/
namespace Go.Proofs.YtkkhnldhipfneaaGreatDoor
open Go.RowKit
set_option linter.unusedSimpArgs false
set_option linter.unusedVariables false

def pathB (s : ByteArray) : Bool := decide ((splitS s 47).length ≤ 4) && (splitS s 47).all pnameB

theorem all_take_step {l : List ByteArray} {p : ByteArray → Bool} {k : Nat} (hk : k < l.length) (h : (l.take k).all p = true) (hp : p l[k] = true) : (l.take (k + 1)).all p = true := by
  rw [List.take_succ_eq_append_getElem hk, List.all_append, h]; simp [hp]
theorem all_false_at {l : List ByteArray} {p : ByteArray → Bool} {k : Nat} (hk : k < l.length) (hp : p l[k] = false) : l.all p = false := by
  rw [Bool.eq_false_iff]; intro h
  have := List.all_eq_true.1 h _ (List.getElem_mem hk)
  rw [hp] at this; cases this

end Go.Proofs.YtkkhnldhipfneaaGreatDoor

/-! Steps gone through by going back to the last one that takes many alone, against all ways being tried: they answer alike; no condition (no program stands here). -/
namespace Go.Proofs.YtkkhnldhipfneaaGreatDoor
set_option linter.unusedSimpArgs false
set_option linter.unusedVariables false

section
variable {α β : Type} (many : α → Bool) (takes : α → β → Bool)

/-- All ways are tried. -/
def fullG : List α → List β → Bool
  | [], l => l.isEmpty
  | a :: p, l => if many a then (List.range (l.length + 1)).any (fun k => fullG p (l.drop k)) else
      match l with
      | [] => false
      | x :: t => takes a x && fullG p t

theorem fullG_nil (l : List β) : fullG many takes [] l = l.isEmpty := by rw [fullG.eq_def]
theorem fullG_many (a : α) (p : List α) (l : List β) (h : many a = true) : fullG many takes (a :: p) l = (List.range (l.length + 1)).any (fun k => fullG many takes p (l.drop k)) := by
  rw [fullG.eq_def]; simp only []; rw [if_pos h]
theorem fullG_none (a : α) (p : List α) (h : many a = false) : fullG many takes (a :: p) [] = false := by
  rw [fullG.eq_def]; simp only []; rw [if_neg (by simp [h])]
theorem fullG_one (a : α) (p : List α) (x : β) (t : List β) (h : many a = false) : fullG many takes (a :: p) (x :: t) = (takes a x && fullG many takes p t) := by
  rw [fullG.eq_def]; simp only []; rw [if_neg (by simp [h])]

/-- From place i of the steps and place j of the things on. -/
def F2 (ps : List α) (xs : List β) (i j : Nat) : Bool := fullG many takes (ps.drop i) (xs.drop j)

variable {many takes} {ps : List α} {xs : List β}

theorem F2_many {i j : Nat} {a : α} (ha : ps[i]? = some a) (hm : many a = true) (hj : j ≤ xs.length) :
    F2 many takes ps xs i j = true ↔ ∃ k, j ≤ k ∧ k ≤ xs.length ∧ F2 many takes ps xs (i + 1) k = true := by
  have hi := (List.getElem?_eq_some_iff.1 ha).1
  have he := (List.getElem?_eq_some_iff.1 ha).2
  unfold F2
  rw [List.drop_eq_getElem_cons hi, he, fullG_many _ _ _ _ _ hm, List.any_eq_true]
  constructor
  · rintro ⟨k, hk, h⟩
    rw [List.mem_range, List.length_drop] at hk
    rw [List.drop_drop] at h
    exact ⟨j + k, by omega, by omega, h⟩
  · rintro ⟨k, h1, h2, h⟩
    refine ⟨k - j, by rw [List.mem_range, List.length_drop]; omega, ?_⟩
    rw [List.drop_drop, show j + (k - j) = k by omega]
    exact h
theorem F2_one {i j : Nat} {a : α} {x : β} (ha : ps[i]? = some a) (hm : many a = false) (hx : xs[j]? = some x) :
    F2 many takes ps xs i j = (takes a x && F2 many takes ps xs (i + 1) (j + 1)) := by
  have hi := (List.getElem?_eq_some_iff.1 ha).1
  have he := (List.getElem?_eq_some_iff.1 ha).2
  have hj := (List.getElem?_eq_some_iff.1 hx).1
  have hxe := (List.getElem?_eq_some_iff.1 hx).2
  unfold F2
  rw [List.drop_eq_getElem_cons hi, he, List.drop_eq_getElem_cons hj, hxe, fullG_one _ _ _ _ _ _ hm]
theorem F2_none {i j : Nat} {a : α} (ha : ps[i]? = some a) (hm : many a = false) (hj : xs.length ≤ j) : F2 many takes ps xs i j = false := by
  have hi := (List.getElem?_eq_some_iff.1 ha).1
  have he := (List.getElem?_eq_some_iff.1 ha).2
  unfold F2
  rw [List.drop_eq_getElem_cons hi, he, List.drop_eq_nil_of_le hj, fullG_none _ _ _ _ hm]
theorem F2_end {i j : Nat} (hi : ps.length ≤ i) : F2 many takes ps xs i j = decide (xs.length ≤ j) := by
  unfold F2
  rw [List.drop_eq_nil_of_le hi, fullG_nil]
  by_cases h : xs.length ≤ j
  · rw [decide_eq_true h, List.drop_eq_nil_of_le h]; rfl
  · rw [decide_eq_false h]
    have : xs.drop j ≠ [] := by
      intro e
      have := congrArg List.length e
      rw [List.length_drop] at this
      simp at this
      omega
    cases hd : xs.drop j with
    | nil => exact absurd hd this
    | cons _ _ => rfl

/-- What a run through steps of which none takes many leads to. -/
theorem F2_pass {b k : Nat} : ∀ (m : Nat), (∀ i a, b ≤ i → i < b + m → ps[i]? = some a → many a = false) → b + m ≤ ps.length → k ≤ xs.length → F2 many takes ps xs b k = true →
    k + m ≤ xs.length ∧ F2 many takes ps xs (b + m) (k + m) = true
  | 0, _, _, hk, h => ⟨hk, h⟩
  | m + 1, hs, hl, hk, h => by
    obtain ⟨h1, h2⟩ := F2_pass m (fun i a h1 h2 h3 => hs i a h1 (by omega) h3) (by omega) hk h
    have ha : ps[b + m]? = some ps[b + m] := List.getElem?_eq_getElem (by omega)
    have hm := hs (b + m) _ (by omega) (by omega) ha
    by_cases hj : k + m < xs.length
    · have hx : xs[k + m]? = some xs[k + m] := List.getElem?_eq_getElem hj
      rw [F2_one ha hm hx, Bool.and_eq_true] at h2
      exact ⟨by omega, h2.2⟩
    · rw [F2_none ha hm (by omega)] at h2
      cases h2

/-- Where the run is: at step s and thing t, behind the last step that takes many (seen: there was one) b steps and tk things lie. -/
def Inv (many : α → Bool) (takes : α → β → Bool) (ps : List α) (xs : List β) (s t b tk : Nat) (seen : Bool) : Prop :=
  s ≤ ps.length ∧ t ≤ xs.length ∧ b ≤ s ∧ t + b = s + tk ∧ (∀ i a, b ≤ i → i < s → ps[i]? = some a → many a = false) ∧
  (F2 many takes ps xs 0 0 = true ↔ (F2 many takes ps xs s t = true ∨ (seen = true ∧ ∃ k, tk < k ∧ k ≤ xs.length ∧ F2 many takes ps xs b k = true)))

theorem inv_start : Inv many takes ps xs 0 0 0 0 false :=
  ⟨Nat.zero_le _, Nat.zero_le _, Nat.le_refl _, rfl, fun i a _ h => by omega, by simp⟩

theorem inv_many {s t b tk : Nat} {seen : Bool} {a : α} (h : Inv many takes ps xs s t b tk seen) (ha : ps[s]? = some a) (hm : many a = true) : Inv many takes ps xs (s + 1) t (s + 1) t true := by
  obtain ⟨h1, h2, h3, h4, h5, h6⟩ := h
  have hs := (List.getElem?_eq_some_iff.1 ha).1
  refine ⟨by omega, h2, Nat.le_refl _, by omega, fun i a h1 h2 => by omega, ?_⟩
  rw [h6]
  have key : ∀ j, t ≤ j → j ≤ xs.length → F2 many takes ps xs s j = true → (F2 many takes ps xs (s + 1) t = true ∨ (true = true ∧ ∃ k, t < k ∧ k ≤ xs.length ∧ F2 many takes ps xs (s + 1) k = true)) := fun j h7 h8 h9 => by
    obtain ⟨k, k1, k2, k3⟩ := (F2_many ha hm h8).1 h9
    by_cases e : k = t
    · subst e; exact .inl k3
    · exact .inr ⟨rfl, k, by omega, k2, k3⟩
  constructor
  · rintro (h | ⟨_, k, k1, k2, k3⟩)
    · exact key t (Nat.le_refl _) h2 h
    · obtain ⟨j1, j2⟩ := F2_pass (s - b) (fun i a q1 q2 q3 => h5 i a q1 (by omega) q3) (by omega) k2 k3
      rw [show b + (s - b) = s by omega] at j2
      exact key _ (by omega) j1 j2
  · rintro (h | ⟨_, k, k1, k2, k3⟩)
    · exact .inl ((F2_many ha hm h2).2 ⟨t, Nat.le_refl _, h2, h⟩)
    · exact .inl ((F2_many ha hm h2).2 ⟨k, by omega, k2, k3⟩)

theorem inv_next {s t b tk : Nat} {seen : Bool} {a : α} {x : β} (h : Inv many takes ps xs s t b tk seen) (ha : ps[s]? = some a) (hm : many a = false) (hx : xs[t]? = some x) (ht : takes a x = true) :
    Inv many takes ps xs (s + 1) (t + 1) b tk seen := by
  obtain ⟨h1, h2, h3, h4, h5, h6⟩ := h
  have hs := (List.getElem?_eq_some_iff.1 ha).1
  have hj := (List.getElem?_eq_some_iff.1 hx).1
  refine ⟨by omega, by omega, by omega, by omega, fun i c q1 q2 q3 => ?_, ?_⟩
  · by_cases e : i = s
    · subst e; rw [ha] at q3; cases q3; exact hm
    · exact h5 i c q1 (by omega) q3
  · rw [h6, F2_one ha hm hx, ht, Bool.true_and]

theorem F2_stop_end {s t : Nat} (hs : s = ps.length) (ht : t ≤ xs.length) (hne : ¬ t = xs.length) : F2 many takes ps xs s t = false := by
  rw [F2_end (by omega)]; simp; omega
theorem F2_stop_none {s t : Nat} {a : α} (ha : ps[s]? = some a) (hm : many a = false) (ht : t = xs.length) : F2 many takes ps xs s t = false := F2_none ha hm (by omega)
theorem F2_stop_not {s t : Nat} {a : α} {x : β} (ha : ps[s]? = some a) (hm : many a = false) (hx : xs[t]? = some x) (ht : takes a x = false) : F2 many takes ps xs s t = false := by
  rw [F2_one ha hm hx, ht]; rfl

theorem inv_back {s t b tk : Nat} {seen : Bool} (h : Inv many takes ps xs s t b tk seen) (hf : F2 many takes ps xs s t = false) (hs : seen = true) (hk : tk < xs.length) : Inv many takes ps xs b (tk + 1) b (tk + 1) true := by
  obtain ⟨h1, h2, h3, h4, h5, h6⟩ := h
  refine ⟨by omega, by omega, Nat.le_refl _, by omega, fun i a q1 q2 => by omega, ?_⟩
  rw [h6, hf]
  constructor
  · rintro (h | ⟨_, k, k1, k2, k3⟩)
    · cases h
    · by_cases e : k = tk + 1
      · subst e; exact .inl k3
      · exact .inr ⟨rfl, k, by omega, k2, k3⟩
  · rintro (h | ⟨_, k, k1, k2, k3⟩)
    · exact .inr ⟨hs, tk + 1, by omega, by omega, h⟩
    · exact .inr ⟨hs, k, by omega, k2, k3⟩

theorem inv_true {s t b tk : Nat} {seen : Bool} (h : Inv many takes ps xs s t b tk seen) (hs : s = ps.length) (ht : t = xs.length) : fullG many takes ps xs = true := by
  have := h.2.2.2.2.2.2 (.inl (by rw [F2_end (by omega)]; simp; omega))
  simpa [F2] using this
theorem inv_false {s t b tk : Nat} {seen : Bool} (h : Inv many takes ps xs s t b tk seen) (hf : F2 many takes ps xs s t = false) (he : seen = false ∨ tk = xs.length) : fullG many takes ps xs = false := by
  rw [Bool.eq_false_iff]
  intro hc
  have h1 : F2 many takes ps xs 0 0 = true := by simpa [F2] using hc
  rcases h.2.2.2.2.2.1 h1 with h2 | ⟨h2, k, h3, h4, _⟩
  · rw [hf] at h2; cases h2
  · rcases he with he | he
    · rw [he] at h2; cases h2
    · omega

/-- How far the run still has to go. -/
def goM (L n s b tk : Nat) : Nat := (L - b) * ((n + 1) * (L + 1)) + (n - tk) * (L + 1) + (L - s)
theorem goM_many {L n s b tk t : Nat} (h1 : b ≤ s) (h2 : s < L) : goM L n (s + 1) (s + 1) t < goM L n s b tk := by
  unfold goM
  have e3 : (n + 1) * (L + 1) = n * (L + 1) + (L + 1) := by rw [Nat.add_mul]; omega
  obtain ⟨M, hM⟩ : ∃ M, M = (n + 1) * (L + 1) := ⟨_, rfl⟩
  rw [← hM] at e3 ⊢
  have e1 : (L - b) * M ≥ (L - (s + 1) + 1) * M := Nat.mul_le_mul_right _ (by omega)
  rw [Nat.add_mul] at e1
  have e2 : (n - t) * (L + 1) ≤ n * (L + 1) := Nat.mul_le_mul_right _ (by omega)
  omega
theorem goM_next {L n s b tk : Nat} (h2 : s < L) : goM L n (s + 1) b tk < goM L n s b tk := by unfold goM; omega
theorem goM_back {L n s b tk : Nat} (h : tk < n) : goM L n b b (tk + 1) < goM L n s b tk := by
  unfold goM
  have e1 : (n - tk) * (L + 1) = (n - (tk + 1)) * (L + 1) + (L + 1) := by
    rw [show n - tk = (n - (tk + 1)) + 1 by omega, Nat.add_mul]; omega
  omega
end
end Go.Proofs.YtkkhnldhipfneaaGreatDoor

/-! Signs of a pattern's piece, read one by one off its bytes: what is read, and that the rest is read alike from each place; no condition (no program stands here). -/
namespace Go.Proofs.YtkkhnldhipfneaaGreatDoor
open Go.RowKit
set_option linter.unusedSimpArgs false
set_option linter.unusedVariables false

/-- A sign: it takes many bytes; or one that is in the set (or, nt, is not). -/
structure Sgn where
  many : Bool
  nt : Bool
  set : List UInt8

def setB (c : Int) : Bool := smallB c || digitB c
def runL : List UInt8 → Nat
  | [] => 0
  | c :: t => if setB (c.toNat : Int) then runL t + 1 else 0
def headIs (n : Nat) : List UInt8 → Bool
  | [] => false
  | c :: _ => c.toNat == n
/-- What stands behind a bracket that opens, and how many bytes it takes with the bracket. -/
def setL (t : List UInt8) : Option (Sgn × Nat) :=
  if headIs 93 ((t.drop (headIs 33 t).toNat).drop (runL (t.drop (headIs 33 t).toNat))) && inB (runL (t.drop (headIs 33 t).toNat)) 1 5 then
    some (⟨false, headIs 33 t, (t.drop (headIs 33 t).toNat).take (runL (t.drop (headIs 33 t).toNat))⟩, 1 + (headIs 33 t).toNat + runL (t.drop (headIs 33 t).toNat) + 1)
  else none
def signL : List UInt8 → Option (Sgn × Nat)
  | [] => none
  | c :: t =>
    if c.toNat = 91 then setL t
    else if c.toNat = 42 then some (⟨true, false, []⟩, 1)
    else if c.toNat = 63 then some (⟨false, true, []⟩, 1)
    else if pathC (c.toNat : Int) then some (⟨false, false, [c]⟩, 1)
    else none

theorem signL_cons (c : UInt8) (t : List UInt8) : signL (c :: t) = if c.toNat = 91 then setL t
    else if c.toNat = 42 then some (⟨true, false, []⟩, 1)
    else if c.toNat = 63 then some (⟨false, true, []⟩, 1)
    else if pathC (c.toNat : Int) then some (⟨false, false, [c]⟩, 1)
    else none := rfl
theorem signL_pos {l : List UInt8} {g : Sgn} {k : Nat} (h : signL l = some (g, k)) : 1 ≤ k := by
  cases l with
  | nil => cases h
  | cons c t =>
    rw [signL_cons] at h
    split at h
    · unfold setL at h
      split at h
      · cases h; omega
      · cases h
    split at h
    · cases h; omega
    split at h
    · cases h; omega
    split at h
    · cases h; omega
    · cases h

def signsL : Nat → List UInt8 → Option (List Sgn)
  | 0, _ => some []
  | _ + 1, [] => some []
  | n + 1, c :: t =>
    match signL (c :: t) with
    | none => none
    | some (g, k) => (signsL n ((c :: t).drop k)).map (g :: ·)
theorem signsL_fuel : ∀ (n m : Nat) (l : List UInt8), l.length ≤ n → l.length ≤ m → signsL n l = signsL m l
  | 0, 0, _, _, _ => rfl
  | 0, m + 1, [], _, _ => rfl
  | 0, m + 1, c :: t, h, _ => by simp at h
  | n + 1, 0, [], _, _ => rfl
  | n + 1, 0, c :: t, _, h => by simp at h
  | n + 1, m + 1, [], _, _ => rfl
  | n + 1, m + 1, c :: t, h1, h2 => by
    rw [signsL, signsL]
    cases hs : signL (c :: t) with
    | none => rfl
    | some p =>
      obtain ⟨g, k⟩ := p
      have hk := signL_pos hs
      have hl : ((c :: t).drop k).length ≤ t.length := by rw [List.length_drop]; simp; omega
      simp only [List.length_cons] at h1 h2
      simp only []
      rw [signsL_fuel n m _ (by omega) (by omega)]

/-- All signs; none: they cannot be read. -/
def signsOf (l : List UInt8) : Option (List Sgn) := signsL l.length l
theorem signsOf_nil : signsOf [] = some [] := rfl
theorem signsOf_none {l : List UInt8} (h0 : l ≠ []) (h : signL l = none) : signsOf l = none := by
  cases l with
  | nil => exact absurd rfl h0
  | cons c t => unfold signsOf; rw [List.length_cons, signsL, h]
theorem signsOf_some {l : List UInt8} {g : Sgn} {k : Nat} (h : signL l = some (g, k)) : signsOf l = (signsOf (l.drop k)).map (g :: ·) := by
  cases l with
  | nil => cases h
  | cons c t =>
    have hk := signL_pos h
    unfold signsOf
    rw [List.length_cons, signsL, h]
    simp only []
    rw [signsL_fuel _ _ _ _ (Nat.le_refl _)]
    rw [List.length_drop]; simp; omega

def pieceB (s : ByteArray) : Bool := match signsOf s.data.toList with | some l => inB l.length 1 12 | none => false
def sgnsOf (s : ByteArray) : List Sgn := (signsOf s.data.toList).getD []
def globB (s : ByteArray) : Bool := decide ((splitS s 47).length ≤ 4) && (splitS s 47).all pieceB

theorem drop_cons (s : ByteArray) (i : Nat) (h : i < s.size) : s.data.toList.drop i = s[i] :: s.data.toList.drop (i + 1) := by
  rw [List.drop_eq_getElem_cons (by rw [len_list]; exact h)]; rfl
theorem drop_end (s : ByteArray) (i : Nat) (h : s.size ≤ i) : s.data.toList.drop i = [] := List.drop_eq_nil_of_le (by rw [len_list]; exact h)

/-- What is read so far, and the rest, are all. -/
def ReadTo (l : List UInt8) (i : Nat) (xs : List Sgn) : Prop := signsOf l = (signsOf (l.drop i)).map (xs ++ ·)
theorem readTo_start (l : List UInt8) : ReadTo l 0 [] := by unfold ReadTo; simp
theorem readTo_step {l : List UInt8} {i k : Nat} {xs : List Sgn} {g : Sgn} (h : ReadTo l i xs) (hs : signL (l.drop i) = some (g, k)) : ReadTo l (i + k) (xs ++ [g]) := by
  unfold ReadTo at *
  rw [h, signsOf_some hs, List.drop_drop, Option.map_map]
  congr 1
  funext ys
  simp
theorem readTo_none {l : List UInt8} {i : Nat} {xs : List Sgn} (h : ReadTo l i xs) (hi : i < l.length) (hs : signL (l.drop i) = none) : signsOf l = none := by
  unfold ReadTo at h
  rw [h, signsOf_none (by intro e; have := congrArg List.length e; rw [List.length_drop] at this; simp at this; omega) hs]; rfl
theorem readTo_end {l : List UInt8} {i : Nat} {xs : List Sgn} (h : ReadTo l i xs) (hi : l.length ≤ i) : signsOf l = some xs := by
  unfold ReadTo at h
  rw [h, List.drop_eq_nil_of_le hi]; simp [signsOf_nil]
/-- Where a thing is left to be read there is one more sign, or none at all can be read. -/
theorem readTo_more {l : List UInt8} {i : Nat} {xs ys : List Sgn} (h : ReadTo l i xs) (hi : i < l.length) (hy : signsOf l = some ys) : xs.length + 1 ≤ ys.length := by
  cases hs : signL (l.drop i) with
  | none => rw [readTo_none h hi hs] at hy; cases hy
  | some p =>
    obtain ⟨g, k⟩ := p
    have h2 := readTo_step h hs
    unfold ReadTo at h2
    rw [hy] at h2
    cases hz : signsOf (l.drop (i + k)) with
    | none => rw [hz] at h2; cases h2
    | some zs =>
      rw [hz] at h2
      simp only [Option.map_some, Option.some.injEq] at h2
      rw [h2]; simp

theorem runL_take {l : List UInt8} {i : Nat} : ∀ (n : Nat), (∀ j, j < n → ∃ c, l[i + j]? = some c ∧ setB (c.toNat : Int) = true) → runL (l.drop i) = n + runL (l.drop (i + n))
  | 0, _ => by simp
  | n + 1, h => by
    rw [runL_take n (fun j hj => h j (by omega))]
    obtain ⟨c, hc, hb⟩ := h n (by omega)
    have hi := (List.getElem?_eq_some_iff.1 hc).1
    have he := (List.getElem?_eq_some_iff.1 hc).2
    rw [List.drop_eq_getElem_cons hi, he, runL, if_pos hb, show i + (n + 1) = i + n + 1 by omega]
    omega
theorem runL_stop {l : List UInt8} (h : ∀ c t, l = c :: t → setB (c.toNat : Int) = false) : runL l = 0 := by
  cases l with
  | nil => rfl
  | cons c t => rw [runL, if_neg (by simp [h c t rfl])]
end Go.Proofs.YtkkhnldhipfneaaGreatDoor

/-! What the specification's functions that look at a pattern answer (a set in brackets, a piece, a pattern): contracts for the walks; condition: the text has at most 2 to the 20 bytes. -/
namespace Go.Proofs.YtkkhnldhipfneaaGreatDoor
open Go.RowKit
set_option linter.unusedSimpArgs false
set_option linter.unusedVariables false

theorem setL_at (l : List UInt8) (i m n : Nat) (hm : (headIs 33 (l.drop (i + 1))).toNat = m) (hn : runL (l.drop (i + 1 + m)) = n) :
    setL (l.drop (i + 1)) = if headIs 93 (l.drop (i + 1 + m + n)) && inB n 1 5 then some (⟨false, headIs 33 (l.drop (i + 1)), (l.drop (i + 1 + m)).take n⟩, 1 + m + n + 1) else none := by
  unfold setL
  have e : (l.drop (i + 1)).drop m = l.drop (i + 1 + m) := by rw [List.drop_drop]
  rw [hm, e, hn, List.drop_drop]

/-- The place behind what stands in brackets; -1: it is none. -/
def classI (s : ByteArray) (i : Nat) : Int := match setL (s.data.toList.drop (i + 1)) with | some (_, k) => ((i + k : Nat) : Int) | none => -1

theorem headIs_at (s : ByteArray) (n i : Nat) (h : i < s.size) : headIs n (s.data.toList.drop i) = ((s[i]).toNat == n) := by rw [drop_cons s i h]; rfl
theorem headIs_end (s : ByteArray) (n i : Nat) (h : s.size ≤ i) : headIs n (s.data.toList.drop i) = false := by rw [drop_end s i h]; rfl
theorem list_at (s : ByteArray) (i : Nat) (h : i < s.size) : s.data.toList[i]? = some s[i] := by
  rw [bang_list s i h, byteBang s i h]

/-- A run of bytes of a set, from place f on, j of them. -/
def RunTo (s : ByteArray) (f j : Nat) : Prop := ∀ i, i < j → ∃ c, s.data.toList[f + i]? = some c ∧ setB (c.toNat : Int) = true
theorem runTo_step {s : ByteArray} {f j : Nat} (h : RunTo s f j) (hk : f + j < s.size) (hb : setB ((s[f + j]).toNat : Int) = true) : RunTo s f (j + 1) := fun i hi => by
  by_cases e : i = j
  · subst e; exact ⟨_, list_at s _ hk, hb⟩
  · exact h i (by omega)
theorem runTo_end {s : ByteArray} {f j : Nat} (h : RunTo s f j) (he : ∀ (hk : f + j < s.size), setB ((s[f + j]).toNat : Int) = false) : runL (s.data.toList.drop f) = j := by
  rw [runL_take j h, runL_stop, Nat.add_zero]
  intro c t hc
  by_cases hk : f + j < s.size
  · rw [drop_cons s _ hk] at hc
    cases hc
    exact he hk
  · rw [drop_end s _ (by omega)] at hc
    cases hc
theorem classI_of {s : ByteArray} {i m n : Nat} (hm : (headIs 33 (s.data.toList.drop (i + 1))).toNat = m) (hn : runL (s.data.toList.drop (i + 1 + m)) = n) :
    classI s i = if headIs 93 (s.data.toList.drop (i + 1 + m + n)) && inB n 1 5 then ((i + 1 + m + n + 1 : Nat) : Int) else -1 := by
  unfold classI
  rw [setL_at _ i m n hm hn]
  split
  · rename_i h
    split at h
    · cases h
      rename_i hc
      rw [if_pos hc]
      omega
    · cases h
  · rename_i h
    split at h
    · cases h
    · rename_i hc
      rw [if_neg hc]

set_option maxHeartbeats 2000000 in
theorem class6_c (s : ByteArray) (i : Nat) (hi : i < s.size) (hs : s.size ≤ 1048576) (w : World) :
    Calls Tryz.prog 253 #[.string s, .int .i64 (i : Int)] w fun e w' => e = .returned (.int .i64 (classI s i)) ∧ w = w' := by
  by_cases h0 : i + 1 < s.size
  · have h0i : (i : Int) + 1 < (s.size : Int) := by omega
    cases hb : ((s[i + 1]).toNat == 33) with
    | true =>
      have hbi : (((s[i + 1]).toNat : Int) == 33) = true := by simp at hb ⊢; omega
      have HM : Hid ((headIs 33 (s.data.toList.drop (i + 1))).toNat = 1) := by show _ = _; rw [headIs_at s 33 _ h0, hb]; rfl
      go_enter Tryz.func253, Tryz.ntmps253
      go_wp2

      go_loop [5, 6] (fun v5 v6 => ∃ (j k : Nat), v5 = .int .i64 (k : Int) ∧ v6 = .int .i64 (j : Int) ∧ k ≤ s.size ∧ j ≤ k ∧ Hid (k = i + 1 + 1 + j ∧ RunTo s (i + 1 + 1) j)) (fun v5 _ => s.size - (intOf v5).toNat)
      case atStart => exact ⟨0, i + 1 + 1, by go_num, rfl, by omega, by omega, ⟨by omega, fun _ h => absurd h (by omega)⟩⟩
      case round =>
        obtain ⟨j, k, rfl, rfl, hk, hjk, hh⟩ := hrel
        by_cases hlt : k < s.size
        · have hki : (k : Int) < (s.size : Int) := by omega
          have hki2 : ¬ (s.size : Int) ≤ (k : Int) := by omega
          cases h1 : smallB ((s[k]).toNat : Int) with
          | true =>
            go_wp2_with (first
              | (go_at_call 188; refine (small_c _ (byte0 _) (byte255 _) _).mono ?_; rintro e w' ⟨rfl, rfl⟩; rw [h1]))
            go_round
            case rel => exact ⟨j + 1, k + 1, by go_num, by go_num, by omega, by omega, ⟨by have := hh.out.1; omega, by obtain ⟨rfl, h⟩ := hh.out; exact runTo_step h hlt (by simp [setB, h1])⟩⟩
            case measure => simp [intOf]; omega
          | false =>
            cases h2 : digitB ((s[k]).toNat : Int) with
            | true =>
              go_wp2_with (first
                | (go_at_call 188; refine (small_c _ (byte0 _) (byte255 _) _).mono ?_; rintro e w' ⟨rfl, rfl⟩; rw [h1])
                | (go_at_call 189; refine (digit_c _ (byte0 _) (byte255 _) _).mono ?_; rintro e w' ⟨rfl, rfl⟩; rw [h2]))
              go_round
              case rel => exact ⟨j + 1, k + 1, by go_num, by go_num, by omega, by omega, ⟨by have := hh.out.1; omega, by obtain ⟨rfl, h⟩ := hh.out; exact runTo_step h hlt (by simp [setB, h2])⟩⟩
              case measure => simp [intOf]; omega
            | false =>
              have HE : Hid (classI s i = if ((s[k]).toNat == 93) && inB j 1 5 then ((k + 1 : Nat) : Int) else -1) := by
                obtain ⟨rfl, h⟩ := hh.out
                have hr := runTo_end h (fun hk => by simp [setB, h1, h2])
                show _ = _
                rw [classI_of HM.out hr, headIs_at s 93 _ hlt]
              cases hin : inB j 1 5 with
              | false =>
                go_wp2_with (first
                  | (go_at_call 188; refine (small_c _ (byte0 _) (byte255 _) _).mono ?_; rintro e w' ⟨rfl, rfl⟩; rw [h1])
                  | (go_at_call 189; refine (digit_c _ (byte0 _) (byte255 _) _).mono ?_; rintro e w' ⟨rfl, rfl⟩; rw [h2])
                  | (go_at_call 190; refine (in_c _ _ _ _).mono ?_; rintro e w' ⟨rfl, rfl⟩; rw [hin]))
                go_ret
                exact ⟨by rw [HE.out, hin]; simp, rfl⟩
              | true =>
                cases h93 : ((s[k]).toNat == 93) with
                | true =>
                  have h93' : (((s[k]).toNat : Int) != 93) = false := by simp at h93 ⊢; omega
                  go_wp2_with (first
                    | (go_at_call 188; refine (small_c _ (byte0 _) (byte255 _) _).mono ?_; rintro e w' ⟨rfl, rfl⟩; rw [h1])
                    | (go_at_call 189; refine (digit_c _ (byte0 _) (byte255 _) _).mono ?_; rintro e w' ⟨rfl, rfl⟩; rw [h2])
                    | (go_at_call 190; refine (in_c _ _ _ _).mono ?_; rintro e w' ⟨rfl, rfl⟩; rw [hin]))
                  go_ret
                  exact ⟨by rw [HE.out, hin, h93]; simp, rfl⟩
                | false =>
                  have h93' : (((s[k]).toNat : Int) != 93) = true := by simp at h93 ⊢; omega
                  go_wp2_with (first
                    | (go_at_call 188; refine (small_c _ (byte0 _) (byte255 _) _).mono ?_; rintro e w' ⟨rfl, rfl⟩; rw [h1])
                    | (go_at_call 189; refine (digit_c _ (byte0 _) (byte255 _) _).mono ?_; rintro e w' ⟨rfl, rfl⟩; rw [h2])
                    | (go_at_call 190; refine (in_c _ _ _ _).mono ?_; rintro e w' ⟨rfl, rfl⟩; rw [hin]))
                  go_ret
                  exact ⟨by rw [HE.out, hin, h93]; simp, rfl⟩
        · have hki : ¬ (k : Int) < (s.size : Int) := by omega
          have hki2 : (s.size : Int) ≤ (k : Int) := by omega
          have HE : Hid (classI s i = -1) := by
            obtain ⟨rfl, h⟩ := hh.out
            have hr := runTo_end h (fun hk => absurd hk hlt)
            show _ = _
            rw [classI_of HM.out hr, headIs_end s 93 _ (by omega)]; rfl
          cases hin : inB j 1 5 with
          | false =>
            go_wp2_with (go_at_call 190; refine (in_c _ _ _ _).mono ?_; rintro e w' ⟨rfl, rfl⟩; rw [hin])
            go_ret
            exact ⟨by rw [HE.out]; rfl, rfl⟩
          | true =>
            go_wp2_with (go_at_call 190; refine (in_c _ _ _ _).mono ?_; rintro e w' ⟨rfl, rfl⟩; rw [hin])
            go_ret
            exact ⟨by rw [HE.out]; rfl, rfl⟩

    | false =>
      have hbi : (((s[i + 1]).toNat : Int) == 33) = false := by simp at hb ⊢; omega
      have HM : Hid ((headIs 33 (s.data.toList.drop (i + 1))).toNat = 0) := by show _ = _; rw [headIs_at s 33 _ h0, hb]; rfl
      go_enter Tryz.func253, Tryz.ntmps253
      go_wp2

      go_loop [5, 6] (fun v5 v6 => ∃ (j k : Nat), v5 = .int .i64 (k : Int) ∧ v6 = .int .i64 (j : Int) ∧ k ≤ s.size ∧ j ≤ k ∧ Hid (k = i + 1 + 0 + j ∧ RunTo s (i + 1 + 0) j)) (fun v5 _ => s.size - (intOf v5).toNat)
      case atStart => exact ⟨0, i + 1 + 0, by go_num, rfl, by omega, by omega, ⟨by omega, fun _ h => absurd h (by omega)⟩⟩
      case round =>
        obtain ⟨j, k, rfl, rfl, hk, hjk, hh⟩ := hrel
        by_cases hlt : k < s.size
        · have hki : (k : Int) < (s.size : Int) := by omega
          have hki2 : ¬ (s.size : Int) ≤ (k : Int) := by omega
          cases h1 : smallB ((s[k]).toNat : Int) with
          | true =>
            go_wp2_with (first
              | (go_at_call 188; refine (small_c _ (byte0 _) (byte255 _) _).mono ?_; rintro e w' ⟨rfl, rfl⟩; rw [h1]))
            go_round
            case rel => exact ⟨j + 1, k + 1, by go_num, by go_num, by omega, by omega, ⟨by have := hh.out.1; omega, by obtain ⟨rfl, h⟩ := hh.out; exact runTo_step h hlt (by simp [setB, h1])⟩⟩
            case measure => simp [intOf]; omega
          | false =>
            cases h2 : digitB ((s[k]).toNat : Int) with
            | true =>
              go_wp2_with (first
                | (go_at_call 188; refine (small_c _ (byte0 _) (byte255 _) _).mono ?_; rintro e w' ⟨rfl, rfl⟩; rw [h1])
                | (go_at_call 189; refine (digit_c _ (byte0 _) (byte255 _) _).mono ?_; rintro e w' ⟨rfl, rfl⟩; rw [h2]))
              go_round
              case rel => exact ⟨j + 1, k + 1, by go_num, by go_num, by omega, by omega, ⟨by have := hh.out.1; omega, by obtain ⟨rfl, h⟩ := hh.out; exact runTo_step h hlt (by simp [setB, h2])⟩⟩
              case measure => simp [intOf]; omega
            | false =>
              have HE : Hid (classI s i = if ((s[k]).toNat == 93) && inB j 1 5 then ((k + 1 : Nat) : Int) else -1) := by
                obtain ⟨rfl, h⟩ := hh.out
                have hr := runTo_end h (fun hk => by simp [setB, h1, h2])
                show _ = _
                rw [classI_of HM.out hr, headIs_at s 93 _ hlt]
              cases hin : inB j 1 5 with
              | false =>
                go_wp2_with (first
                  | (go_at_call 188; refine (small_c _ (byte0 _) (byte255 _) _).mono ?_; rintro e w' ⟨rfl, rfl⟩; rw [h1])
                  | (go_at_call 189; refine (digit_c _ (byte0 _) (byte255 _) _).mono ?_; rintro e w' ⟨rfl, rfl⟩; rw [h2])
                  | (go_at_call 190; refine (in_c _ _ _ _).mono ?_; rintro e w' ⟨rfl, rfl⟩; rw [hin]))
                go_ret
                exact ⟨by rw [HE.out, hin]; simp, rfl⟩
              | true =>
                cases h93 : ((s[k]).toNat == 93) with
                | true =>
                  have h93' : (((s[k]).toNat : Int) != 93) = false := by simp at h93 ⊢; omega
                  go_wp2_with (first
                    | (go_at_call 188; refine (small_c _ (byte0 _) (byte255 _) _).mono ?_; rintro e w' ⟨rfl, rfl⟩; rw [h1])
                    | (go_at_call 189; refine (digit_c _ (byte0 _) (byte255 _) _).mono ?_; rintro e w' ⟨rfl, rfl⟩; rw [h2])
                    | (go_at_call 190; refine (in_c _ _ _ _).mono ?_; rintro e w' ⟨rfl, rfl⟩; rw [hin]))
                  go_ret
                  exact ⟨by rw [HE.out, hin, h93]; simp, rfl⟩
                | false =>
                  have h93' : (((s[k]).toNat : Int) != 93) = true := by simp at h93 ⊢; omega
                  go_wp2_with (first
                    | (go_at_call 188; refine (small_c _ (byte0 _) (byte255 _) _).mono ?_; rintro e w' ⟨rfl, rfl⟩; rw [h1])
                    | (go_at_call 189; refine (digit_c _ (byte0 _) (byte255 _) _).mono ?_; rintro e w' ⟨rfl, rfl⟩; rw [h2])
                    | (go_at_call 190; refine (in_c _ _ _ _).mono ?_; rintro e w' ⟨rfl, rfl⟩; rw [hin]))
                  go_ret
                  exact ⟨by rw [HE.out, hin, h93]; simp, rfl⟩
        · have hki : ¬ (k : Int) < (s.size : Int) := by omega
          have hki2 : (s.size : Int) ≤ (k : Int) := by omega
          have HE : Hid (classI s i = -1) := by
            obtain ⟨rfl, h⟩ := hh.out
            have hr := runTo_end h (fun hk => absurd hk hlt)
            show _ = _
            rw [classI_of HM.out hr, headIs_end s 93 _ (by omega)]; rfl
          cases hin : inB j 1 5 with
          | false =>
            go_wp2_with (go_at_call 190; refine (in_c _ _ _ _).mono ?_; rintro e w' ⟨rfl, rfl⟩; rw [hin])
            go_ret
            exact ⟨by rw [HE.out]; rfl, rfl⟩
          | true =>
            go_wp2_with (go_at_call 190; refine (in_c _ _ _ _).mono ?_; rintro e w' ⟨rfl, rfl⟩; rw [hin])
            go_ret
            exact ⟨by rw [HE.out]; rfl, rfl⟩

  · have h0i : ¬ (i : Int) + 1 < (s.size : Int) := by omega
    have HM : Hid ((headIs 33 (s.data.toList.drop (i + 1))).toNat = 0) := by show _ = _; rw [headIs_end s 33 _ (by omega)]; rfl
    go_enter Tryz.func253, Tryz.ntmps253
    go_wp2

    go_loop [5, 6] (fun v5 v6 => ∃ (j k : Nat), v5 = .int .i64 (k : Int) ∧ v6 = .int .i64 (j : Int) ∧ k ≤ s.size ∧ j ≤ k ∧ Hid (k = i + 1 + 0 + j ∧ RunTo s (i + 1 + 0) j)) (fun v5 _ => s.size - (intOf v5).toNat)
    case atStart => exact ⟨0, i + 1 + 0, by go_num, rfl, by omega, by omega, ⟨by omega, fun _ h => absurd h (by omega)⟩⟩
    case round =>
      obtain ⟨j, k, rfl, rfl, hk, hjk, hh⟩ := hrel
      by_cases hlt : k < s.size
      · have hki : (k : Int) < (s.size : Int) := by omega
        have hki2 : ¬ (s.size : Int) ≤ (k : Int) := by omega
        cases h1 : smallB ((s[k]).toNat : Int) with
        | true =>
          go_wp2_with (first
            | (go_at_call 188; refine (small_c _ (byte0 _) (byte255 _) _).mono ?_; rintro e w' ⟨rfl, rfl⟩; rw [h1]))
          go_round
          case rel => exact ⟨j + 1, k + 1, by go_num, by go_num, by omega, by omega, ⟨by have := hh.out.1; omega, by obtain ⟨rfl, h⟩ := hh.out; exact runTo_step h hlt (by simp [setB, h1])⟩⟩
          case measure => simp [intOf]; omega
        | false =>
          cases h2 : digitB ((s[k]).toNat : Int) with
          | true =>
            go_wp2_with (first
              | (go_at_call 188; refine (small_c _ (byte0 _) (byte255 _) _).mono ?_; rintro e w' ⟨rfl, rfl⟩; rw [h1])
              | (go_at_call 189; refine (digit_c _ (byte0 _) (byte255 _) _).mono ?_; rintro e w' ⟨rfl, rfl⟩; rw [h2]))
            go_round
            case rel => exact ⟨j + 1, k + 1, by go_num, by go_num, by omega, by omega, ⟨by have := hh.out.1; omega, by obtain ⟨rfl, h⟩ := hh.out; exact runTo_step h hlt (by simp [setB, h2])⟩⟩
            case measure => simp [intOf]; omega
          | false =>
            have HE : Hid (classI s i = if ((s[k]).toNat == 93) && inB j 1 5 then ((k + 1 : Nat) : Int) else -1) := by
              obtain ⟨rfl, h⟩ := hh.out
              have hr := runTo_end h (fun hk => by simp [setB, h1, h2])
              show _ = _
              rw [classI_of HM.out hr, headIs_at s 93 _ hlt]
            cases hin : inB j 1 5 with
            | false =>
              go_wp2_with (first
                | (go_at_call 188; refine (small_c _ (byte0 _) (byte255 _) _).mono ?_; rintro e w' ⟨rfl, rfl⟩; rw [h1])
                | (go_at_call 189; refine (digit_c _ (byte0 _) (byte255 _) _).mono ?_; rintro e w' ⟨rfl, rfl⟩; rw [h2])
                | (go_at_call 190; refine (in_c _ _ _ _).mono ?_; rintro e w' ⟨rfl, rfl⟩; rw [hin]))
              go_ret
              exact ⟨by rw [HE.out, hin]; simp, rfl⟩
            | true =>
              cases h93 : ((s[k]).toNat == 93) with
              | true =>
                have h93' : (((s[k]).toNat : Int) != 93) = false := by simp at h93 ⊢; omega
                go_wp2_with (first
                  | (go_at_call 188; refine (small_c _ (byte0 _) (byte255 _) _).mono ?_; rintro e w' ⟨rfl, rfl⟩; rw [h1])
                  | (go_at_call 189; refine (digit_c _ (byte0 _) (byte255 _) _).mono ?_; rintro e w' ⟨rfl, rfl⟩; rw [h2])
                  | (go_at_call 190; refine (in_c _ _ _ _).mono ?_; rintro e w' ⟨rfl, rfl⟩; rw [hin]))
                go_ret
                exact ⟨by rw [HE.out, hin, h93]; simp, rfl⟩
              | false =>
                have h93' : (((s[k]).toNat : Int) != 93) = true := by simp at h93 ⊢; omega
                go_wp2_with (first
                  | (go_at_call 188; refine (small_c _ (byte0 _) (byte255 _) _).mono ?_; rintro e w' ⟨rfl, rfl⟩; rw [h1])
                  | (go_at_call 189; refine (digit_c _ (byte0 _) (byte255 _) _).mono ?_; rintro e w' ⟨rfl, rfl⟩; rw [h2])
                  | (go_at_call 190; refine (in_c _ _ _ _).mono ?_; rintro e w' ⟨rfl, rfl⟩; rw [hin]))
                go_ret
                exact ⟨by rw [HE.out, hin, h93]; simp, rfl⟩
      · have hki : ¬ (k : Int) < (s.size : Int) := by omega
        have hki2 : (s.size : Int) ≤ (k : Int) := by omega
        have HE : Hid (classI s i = -1) := by
          obtain ⟨rfl, h⟩ := hh.out
          have hr := runTo_end h (fun hk => absurd hk hlt)
          show _ = _
          rw [classI_of HM.out hr, headIs_end s 93 _ (by omega)]; rfl
        cases hin : inB j 1 5 with
        | false =>
          go_wp2_with (go_at_call 190; refine (in_c _ _ _ _).mono ?_; rintro e w' ⟨rfl, rfl⟩; rw [hin])
          go_ret
          exact ⟨by rw [HE.out]; rfl, rfl⟩
        | true =>
          go_wp2_with (go_at_call 190; refine (in_c _ _ _ _).mono ?_; rintro e w' ⟨rfl, rfl⟩; rw [hin])
          go_ret
          exact ⟨by rw [HE.out]; rfl, rfl⟩

end Go.Proofs.YtkkhnldhipfneaaGreatDoor

/-! What the specification's functions that look at a piece and at a pattern answer: contracts for the walks; condition: the text has at most 2 to the 20 bytes. -/
namespace Go.Proofs.YtkkhnldhipfneaaGreatDoor
open Go.RowKit
set_option linter.unusedSimpArgs false
set_option linter.unusedVariables false

theorem headIs_pos {n : Nat} {l : List UInt8} (h : headIs n l = true) : 0 < l.length := by
  cases l with
  | nil => cases h
  | cons c t => simp
theorem headIs_len {n : Nat} {l : List UInt8} : (headIs n l).toNat ≤ l.length := by
  cases l with
  | nil => simp [headIs]
  | cons c t => have : (headIs n (c :: t)).toNat ≤ 1 := Bool.toNat_le _; simp; omega
theorem setL_le {t : List UInt8} {g : Sgn} {k : Nat} (h : setL t = some (g, k)) : k ≤ t.length + 1 := by
  unfold setL at h
  split at h
  · rename_i hc
    rw [Bool.and_eq_true] at hc
    have h1 := headIs_pos hc.1
    rw [List.drop_drop, List.length_drop] at h1
    cases h
    omega
  · cases h
theorem signL_le {l : List UInt8} {g : Sgn} {k : Nat} (h : signL l = some (g, k)) : k ≤ l.length := by
  cases l with
  | nil => cases h
  | cons c t =>
    rw [signL_cons] at h
    simp only [List.length_cons]
    split at h
    · exact setL_le h
    split at h
    · cases h; omega
    split at h
    · cases h; omega
    split at h
    · cases h; omega
    · cases h

theorem signL_set {s : ByteArray} {i : Nat} (hi : i < s.size) (h : (s[i]).toNat = 91) : signL (s.data.toList.drop i) = setL (s.data.toList.drop (i + 1)) := by
  rw [drop_cons s i hi, signL_cons, if_pos h]
theorem signL_star {s : ByteArray} {i : Nat} (hi : i < s.size) (h : (s[i]).toNat = 42) : signL (s.data.toList.drop i) = some (⟨true, false, []⟩, 1) := by
  rw [drop_cons s i hi, signL_cons, if_neg (by omega), if_pos h]
theorem signL_any {s : ByteArray} {i : Nat} (hi : i < s.size) (h : (s[i]).toNat = 63) : signL (s.data.toList.drop i) = some (⟨false, true, []⟩, 1) := by
  rw [drop_cons s i hi, signL_cons, if_neg (by omega), if_neg (by omega), if_pos h]
theorem pathC_not {n : Nat} (h : pathC (n : Int) = true) : n ≠ 91 ∧ n ≠ 42 ∧ n ≠ 63 ∧ n ≠ 33 := by
  refine ⟨?_, ?_, ?_, ?_⟩ <;> (rintro rfl; exact absurd h (by decide))
theorem signL_path {s : ByteArray} {i : Nat} (hi : i < s.size) (h : pathC ((s[i]).toNat : Int) = true) : signL (s.data.toList.drop i) = some (⟨false, false, [s[i]]⟩, 1) := by
  obtain ⟨h1, h2, h3, _⟩ := pathC_not h
  rw [drop_cons s i hi, signL_cons, if_neg h1, if_neg h2, if_neg h3, if_pos h]
theorem signL_bad {s : ByteArray} {i : Nat} (hi : i < s.size) (h1 : (s[i]).toNat ≠ 91) (h2 : (s[i]).toNat ≠ 42) (h3 : (s[i]).toNat ≠ 63) (h : pathC ((s[i]).toNat : Int) = false) : signL (s.data.toList.drop i) = none := by
  rw [drop_cons s i hi, signL_cons, if_neg h1, if_neg h2, if_neg h3, if_neg (by simp [h])]

theorem pieceB_none {s : ByteArray} (h : signsOf s.data.toList = none) : pieceB s = false := by unfold pieceB; rw [h]
theorem pieceB_some {s : ByteArray} {l : List Sgn} (h : signsOf s.data.toList = some l) : pieceB s = inB l.length 1 12 := by unfold pieceB; rw [h]

theorem readTo_bad {s : ByteArray} {i : Nat} {xs : List Sgn} (h : ReadTo s.data.toList i xs) (hi : i < s.size) (hs : signL (s.data.toList.drop i) = none) : pieceB s = false :=
  pieceB_none (readTo_none h (by rw [len_list]; exact hi) hs)
theorem readTo_all {s : ByteArray} {i : Nat} {xs : List Sgn} (h : ReadTo s.data.toList i xs) (hi : s.size ≤ i) : pieceB s = inB xs.length 1 12 :=
  pieceB_some (readTo_end h (by rw [len_list]; exact hi))
theorem signL_in {s : ByteArray} {i k : Nat} {g : Sgn} (hi : i < s.size) (h : signL (s.data.toList.drop i) = some (g, k)) : i + k ≤ s.size := by
  have := signL_le h
  rw [List.length_drop, len_list] at this
  omega

set_option maxHeartbeats 2000000 in
theorem piece6_c (s : ByteArray) (hs : s.size ≤ 1048576) (w : World) :
    Calls Tryz.prog 206 #[.string s] w fun e w' => e = .returned (.bool (pieceB s)) ∧ w = w' := by
  go_enter Tryz.func206, Tryz.ntmps206
  go_wp2
  go_loop [3, 4] (fun v3 v4 => ∃ (n i : Nat), v3 = .int .i64 (n : Int) ∧ v4 = .int .i64 (i : Int) ∧ i ≤ s.size ∧ n ≤ i ∧ Hid (∃ xs, xs.length = n ∧ ReadTo s.data.toList i xs)) (fun _ v4 => s.size - (intOf v4).toNat)
  case atStart => exact ⟨0, 0, rfl, rfl, by omega, by omega, ⟨[], rfl, readTo_start _⟩⟩
  case round =>
    obtain ⟨n, i, rfl, rfl, hi, hn, HH⟩ := hrel
    by_cases hlt : i < s.size
    · have hki : (i : Int) < (s.size : Int) := by omega
      have HG : Hid (∀ g k, signL (s.data.toList.drop i) = some (g, k) → 1 ≤ k ∧ i + k ≤ s.size ∧ ∃ xs, xs.length = n + 1 ∧ ReadTo s.data.toList (i + k) xs) := fun g k h => by
        obtain ⟨xs, h1, h2⟩ := HH.out
        exact ⟨signL_pos h, signL_in hlt h, xs ++ [g], by simp [h1], readTo_step h2 h⟩
      have HB : Hid (signL (s.data.toList.drop i) = none → pieceB s = false) := fun h => by
        obtain ⟨xs, h1, h2⟩ := HH.out
        exact readTo_bad h2 hlt h
      by_cases h91 : (s[i]).toNat = 91
      · have h91' : (((s[i]).toNat : Int) == 91) = true := by simp; omega
        have HS : Hid (signL (s.data.toList.drop i) = setL (s.data.toList.drop (i + 1))) := signL_set hlt h91
        cases hc : setL (s.data.toList.drop (i + 1)) with
        | none =>
          have hv : classI s i = -1 := by unfold classI; rw [hc]
          have HP : Hid (pieceB s = false) := HB.out (by rw [HS.out, hc])
          clear hc HS HB HG h91
          go_wp2_with (go_at_call 253; refine (class6_c s i hlt hs _).mono ?_; rintro e w' ⟨rfl, rfl⟩; rw [hv])
          go_ret
          exact ⟨by rw [HP.out]; rfl, rfl⟩
        | some p =>
          obtain ⟨g, k⟩ := p
          have hv : classI s i = ((i + k : Nat) : Int) := by unfold classI; rw [hc]
          obtain ⟨q1, q2, q3⟩ := HG.out g k (by rw [HS.out, hc])
          have HQ : Hid (∃ xs, xs.length = n + 1 ∧ ReadTo s.data.toList (i + k) xs) := q3
          obtain ⟨j, hj⟩ : ∃ j, j = i + k := ⟨_, rfl⟩
          rw [← hj] at hv HQ q2
          have hnj : n + 1 ≤ j ∧ i < j := by omega
          have hj0 : ¬ (j : Int) < 0 := by omega
          clear hc HS HB HG q3 h91 hj q1
          go_wp2_with (go_at_call 253; refine (class6_c s i hlt hs _).mono ?_; rintro e w' ⟨rfl, rfl⟩; rw [hv])
          go_round
          case rel => exact ⟨n + 1, j, by go_num, rfl, q2, hnj.1, HQ⟩
          case measure => simp [intOf]; omega
      · have h91' : (((s[i]).toNat : Int) == 91) = false := by simp; omega
        cases hp : pathC ((s[i]).toNat : Int) with
        | true =>
          obtain ⟨_, q2, q3⟩ := HG.out _ _ (signL_path hlt hp)
          have HQ : Hid (∃ xs, xs.length = n + 1 ∧ ReadTo s.data.toList (i + 1) xs) := q3
          clear HB HG q3 h91
          go_wp2_with (go_at_call 254; refine (letter5_c _ (byte0 _) (byte255 _) _).mono ?_; rintro e w' ⟨rfl, rfl⟩; rw [hp])
          go_round
          case rel => exact ⟨n + 1, i + 1, by go_num, by go_num, by omega, by omega, HQ⟩
          case measure => simp [intOf]; omega
        | false =>
          by_cases h63 : (s[i]).toNat = 63
          · have h63' : (((s[i]).toNat : Int) == 63) = true := by simp; omega
            obtain ⟨_, q2, q3⟩ := HG.out _ _ (signL_any hlt h63)
            have HQ : Hid (∃ xs, xs.length = n + 1 ∧ ReadTo s.data.toList (i + 1) xs) := q3
            clear HB HG q3 h91 h63
            go_wp2_with (go_at_call 254; refine (letter5_c _ (byte0 _) (byte255 _) _).mono ?_; rintro e w' ⟨rfl, rfl⟩; rw [hp])
            go_round
            case rel => exact ⟨n + 1, i + 1, by go_num, by go_num, by omega, by omega, HQ⟩
            case measure => simp [intOf]; omega
          · have h63' : (((s[i]).toNat : Int) == 63) = false := by simp; omega
            by_cases h42 : (s[i]).toNat = 42
            · have h42' : (((s[i]).toNat : Int) == 42) = true := by simp; omega
              obtain ⟨_, q2, q3⟩ := HG.out _ _ (signL_star hlt h42)
              have HQ : Hid (∃ xs, xs.length = n + 1 ∧ ReadTo s.data.toList (i + 1) xs) := q3
              clear HB HG q3 h91 h63 h42
              go_wp2_with (go_at_call 254; refine (letter5_c _ (byte0 _) (byte255 _) _).mono ?_; rintro e w' ⟨rfl, rfl⟩; rw [hp])
              go_round
              case rel => exact ⟨n + 1, i + 1, by go_num, by go_num, by omega, by omega, HQ⟩
              case measure => simp [intOf]; omega
            · have h42' : (((s[i]).toNat : Int) == 42) = false := by simp; omega
              have HP : Hid (pieceB s = false) := HB.out (signL_bad hlt h91 h42 h63 hp)
              clear HB HG h91 h63 h42
              go_wp2_with (go_at_call 254; refine (letter5_c _ (byte0 _) (byte255 _) _).mono ?_; rintro e w' ⟨rfl, rfl⟩; rw [hp])
              go_ret
              exact ⟨by rw [HP.out]; rfl, rfl⟩
    · have hki : ¬ (i : Int) < (s.size : Int) := by omega
      have HP : Hid (pieceB s = inB n 1 12) := by
        obtain ⟨xs, h1, h2⟩ := HH.out
        show _ = _
        rw [readTo_all h2 (by omega), h1]
      go_wp2_with (go_at_call 190; refine (in_c _ _ _ _).mono ?_; rintro e w' ⟨rfl, rfl⟩)
      go_ret
      exact ⟨by rw [HP.out]; rfl, rfl⟩

theorem pieceB_stars {s : ByteArray} (h : s.toList = [42, 42]) : pieceB s = true := by
  have e : s.data.toList = [42, 42] := by rw [← Lib.toList_data]; exact h
  rw [pieceB_some (l := [⟨true, false, []⟩, ⟨true, false, []⟩]) (by rw [e]; rfl)]
  rfl

set_option maxHeartbeats 1000000 in
set_option maxRecDepth 100000 in
theorem specGlob_c (s : ByteArray) (w : World) (hs : s.size ≤ 1048576) :
    Calls Tryz.prog 159 #[.string s] w fun e w' => e = .returned (.bool (globB s)) ∧ Below w.heap.size w w' := by
  obtain ⟨l, hl⟩ : ∃ l, l = splitS s 47 := ⟨_, rfl⟩
  have hsz : ∀ x ∈ l, x.size ≤ 1048576 := fun x hx => by rw [hl] at hx; have := splitS_piece s 47 x hx; omega
  have hln : l.length ≤ 1048577 := by rw [hl]; have := splitS_len s 47; omega
  have hpb : globB s = (decide (l.length ≤ 4) && l.all pieceB) := by rw [globB, ← hl]
  have hcs := specSplit_c s 47 w hs
  rw [← hl] at hcs
  rw [hpb]
  clear hl hpb
  go_enter Tryz.func159, Tryz.ntmps159
  go_wp2_with (go_at_call 128; refine hcs.mono ?_; rintro e w1 ⟨v, rfl, ho, hb⟩; obtain ⟨a, cap, rfl, _, hc⟩ := reads_strs (reads_of_owns ho); clear ho hcs)
  go_loopw [4] (fun vi wr => ∃ k : Nat, k ≤ l.length ∧ vi = .int .i64 (k : Int) ∧ Hid ((l.take k).all pieceB = true) ∧ wr = w1) (fun vi _ => l.length - (intOf vi).toNat)
  case atStart => exact ⟨0, Nat.zero_le _, rfl, (by show _ = _; simp), rfl⟩
  case round =>
    obtain ⟨k, hk, rfl, hh, rfl⟩ := hrel
    by_cases hlt : k < l.length
    · rcases hc with rfl | ⟨b, off, rfl, hbl, hc⟩
      · simp at hlt
      have hki : (k : Int) < (l.length : Int) := by omega
      have hcx := hc k hlt
      have hx := hsz l[k] (List.getElem_mem hlt)
      obtain ⟨x, hxe⟩ : ∃ x, x = l[k] := ⟨_, rfl⟩
      rw [← hxe] at hcx hx
      have HX : Hid (x = l[k]) := hxe
      clear hc hxe hsz
      cases h2 : (x.toList == [42, 42]) with
      | true =>
        have hp : pieceB x = true := pieceB_stars (by simpa using h2)
        have h2' : (x.toList != [42, 42]) = false := by simp [bne, h2]
        go_wp2_with fail
        go_roundw
        case rel => exact ⟨k + 1, by omega, by go_num, all_take_step hlt hh.out (by rw [← HX.out]; exact hp), (by first | rfl | trivial)⟩
        case measure => simp [intOf]; omega
      | false =>
        have h2' : (x.toList != [42, 42]) = true := by simp [bne, h2]
        cases hp : pieceB x with
        | true =>
          go_wp2_with (go_at_call 206; refine (piece6_c x hx _).mono ?_; rintro e w' ⟨rfl, rfl⟩; rw [hp])
          go_roundw
          case rel => exact ⟨k + 1, by omega, by go_num, all_take_step hlt hh.out (by rw [← HX.out]; exact hp), (by first | rfl | trivial)⟩
          case measure => simp [intOf]; omega
        | false =>
          go_wp2_with (go_at_call 206; refine (piece6_c x hx _).mono ?_; rintro e w' ⟨rfl, rfl⟩; rw [hp])
          go_ret
          exact ⟨by rw [all_false_at hlt (by rw [← HX.out]; exact hp)]; simp, hb⟩
    · have he : k = l.length := by omega
      subst he
      have ha : l.all pieceB = true := by have := hh.out; rwa [List.take_length] at this
      clear hc hsz
      go_wp2
      go_ret
      exact ⟨by rw [ha]; simp; omega, hb⟩
end Go.Proofs.YtkkhnldhipfneaaGreatDoor

/-! When a rule, and rules, are right; no condition. -/
namespace Go.Proofs.YtkkhnldhipfneaaGreatDoor
open Go.RowKit
set_option linter.unusedSimpArgs false
set_option linter.unusedVariables false

def fewB (p : ByteArray → Bool) (n : Nat) (l : List ByteArray) : Bool := decide (l.length ≤ n) && l.all p
def inTB (s : ByteArray) : Bool := decide (s.size ≤ 60) && globB s
def ruleB (d : RuleD) : Bool := nameB d.task && (fewB onB 4 d.on && (fewB inTB 4 d.ins && fewB nameB 3 d.envs))
def rulesB (xs : List RuleD) : Bool := rowB ruleB RuleD.task xs && decide (xs.length ≤ 5)
theorem not_any_r {α : Type} (p : α → Bool) (xs : List α) : (!(xs.any fun x => !p x)) = xs.all p := by
  induction xs with
  | nil => rfl
  | cons a l ih => simp only [List.any_cons, List.all_cons, Bool.not_or, Bool.not_not, ih]
theorem rulesB_eq (xs : List RuleD) : rulesB xs = (decide (xs.length ≤ 5) && (ascB (xs.map RuleD.task) && !(xs.any fun d => !ruleB d))) := by
  rw [rulesB, rowB_split, not_any_r]
  cases decide (xs.length ≤ 5) <;> cases ascB (xs.map RuleD.task) <;> cases xs.all ruleB <;> rfl
/-- Each text of a rule has at most 2 to the 20 bytes. -/
def smallR (d : RuleD) : Prop := (∀ s ∈ d.on, s.size ≤ 1048576) ∧ (∀ s ∈ d.ins, s.size ≤ 1048576) ∧ (∀ s ∈ d.envs, s.size ≤ 1048576)
theorem bulk_mem {ss : List ByteArray} {s : ByteArray} (h : s ∈ ss) : s.size ≤ bulkS ss := by
  have : s.size ≤ (ss.map ByteArray.size).sum := by
    induction ss with
    | nil => simp at h
    | cons a l ih =>
      simp only [List.map_cons, List.sum_cons]
      rcases List.mem_cons.1 h with rfl | h
      · omega
      · have := ih h; omega
  unfold bulkS; omega
theorem smallR_of {d : RuleD} (h : wtRule d ≤ 1048576) : smallR d := by
  unfold wtRule at h
  refine ⟨fun s hs => ?_, fun s hs => ?_, fun s hs => ?_⟩ <;> (have := bulk_mem hs; omega)
theorem smallRs_of {xs : List RuleD} (h : wtRow wtRule xs ≤ 1048576) : ∀ d ∈ xs, smallR d := fun d hd => smallR_of (by have := wt_wtRow wtRule hd; omega)
theorem below_nextR {w w1 w2 : World} (h : Below w.heap.size w w1) (h2 : Below w1.heap.size w1 w2) : Below w.heap.size w w2 := h.trans (h2.mono h.size)
end Go.Proofs.YtkkhnldhipfneaaGreatDoor

/-! A value as a tree, how much it holds, and what it means that it lies in memory below a block number; no condition but those told. -/
namespace Go.Proofs.YtkkhnldhipfneaaGreatDoor
open Go.RowKit
set_option linter.unusedSimpArgs false
set_option linter.unusedVariables false

inductive Tree where
  | mk (k n : Int) (s : ByteArray) (l : List Tree) (keys : List ByteArray) : Tree

theorem Tree.ind {P : Tree → Prop} (h : ∀ k n s l ks, (∀ U ∈ l, P U) → P (.mk k n s l ks)) : ∀ T, P T
  | .mk k n s l ks => h k n s l ks (fun U _ => Tree.ind h U)
  termination_by T => SizeOf.sizeOf T
  decreasing_by
    rename_i hU
    have := List.sizeOf_lt_of_mem hU
    simp
    omega

mutual
def Tree.wt : Tree → Nat
  | .mk _ _ s l ks => s.size + (wtL l + bulkS ks)
def wtL : List Tree → Nat
  | [] => 0
  | t :: r => 1 + t.wt + wtL r
end

theorem wtL_append (a b : List Tree) : wtL (a ++ b) = wtL a + wtL b := by
  induction a with
  | nil => simp [wtL]
  | cons t r ih => simp only [List.cons_append, wtL, ih]; omega

theorem wtL_take_succ (l : List Tree) (k : Nat) (h : k < l.length) : wtL (l.take (k + 1)) = wtL (l.take k) + 1 + (l[k]).wt := by
  rw [List.take_succ_eq_append_getElem h, wtL_append]
  simp [wtL]; omega

theorem wtL_take_le (l : List Tree) (k : Nat) : wtL (l.take k) ≤ wtL l := by
  conv => rhs; rw [← List.take_append_drop k l, wtL_append]
  omega

theorem length_le_wtL (l : List Tree) : l.length ≤ wtL l := by
  induction l with
  | nil => simp
  | cons t r ih => simp only [List.length_cons, wtL]; omega

theorem wtL_take_rest (l : List Tree) (k : Nat) : wtL (l.take k) + (l.length - k) ≤ wtL l := by
  conv => rhs; rw [← List.take_append_drop k l, wtL_append]
  have := length_le_wtL (l.drop k)
  simp at this
  omega

theorem wt_le_wtL {l : List Tree} {U : Tree} (h : U ∈ l) : U.wt + 1 ≤ wtL l := by
  induction l with
  | nil => simp at h
  | cons t r ih =>
    simp only [List.mem_cons] at h
    simp only [wtL]
    rcases h with rfl | h
    · omega
    · have := ih h; omega

/-- In blocks of S the world w' is as w was. -/
def KeptIn (S : Nat → Prop) (w w' : World) : Prop := ∀ b, S b → w'.heap[b]? = w.heap[b]?
theorem KeptIn.cell {S : Nat → Prop} {w w' : World} (h : KeptIn S w w') {b : Nat} (hb : S b) (o : Nat) : w'.cell? ⟨b, o, none⟩ = w.cell? ⟨b, o, none⟩ := World.cell?_of_block (w := w) (h b hb)
theorem KeptIn.trans {S : Nat → Prop} {a b c : World} (h : KeptIn S a b) (k : KeptIn S b c) : KeptIn S a c := fun i hi => (k i hi).trans (h i hi)
theorem KeptIn.of {S : Nat → Prop} {B : Nat} {w w' : World} (hb : Below B w w') (hS : ∀ b, S b → b < B) : KeptIn S w w' := fun b h => hb.block b (hS b h)

/-- A list of texts that lies in blocks of S. -/
def ReadsB (S : Nat → Prop) (w : World) (v : Value) (xs : List Value) : Prop :=
  ∃ a cap, v = .slice a xs.length cap ∧ xs.length ≤ cap ∧ (xs = [] ∨ ∃ b off, a = some ⟨b, off, none⟩ ∧ S b ∧ ∀ k (h : k < xs.length), w.cell? ⟨b, off + k, none⟩ = some xs[k])

theorem ReadsB.reads {S : Nat → Prop} {w : World} {v : Value} {xs : List Value} (h : ReadsB S w v xs) (hS : ∀ b, S b → b < w.heap.size) : Reads w v xs := by
  obtain ⟨a, cap, hv, hc, h⟩ := h
  refine ⟨a, cap, hv, hc, ?_⟩
  rcases h with h | ⟨b, off, ha, hb, h⟩
  · exact .inl h
  · exact .inr ⟨b, off, ha, hS b hb, h⟩

theorem ReadsB.of {w : World} {v : Value} {xs : List Value} (h : Reads w v xs) : ReadsB (· < w.heap.size) w v xs := h

theorem ReadsB.keep {S : Nat → Prop} {w w' : World} {v : Value} {xs : List Value} (hb : KeptIn S w w') (h : ReadsB S w v xs) : ReadsB S w' v xs := by
  obtain ⟨a, cap, hv, hc, h⟩ := h
  refine ⟨a, cap, hv, hc, ?_⟩
  rcases h with h | ⟨b, off, ha, hlt, h⟩
  · exact .inl h
  · exact .inr ⟨b, off, ha, hlt, fun k hk => (hb.cell hlt _).trans (h k hk)⟩

theorem ReadsB.mono {S S' : Nat → Prop} {w : World} {v : Value} {xs : List Value} (hB : ∀ b, S b → S' b) (h : ReadsB S w v xs) : ReadsB S' w v xs := by
  obtain ⟨a, cap, hv, hc, h⟩ := h
  refine ⟨a, cap, hv, hc, ?_⟩
  rcases h with h | ⟨b, off, ha, hlt, h⟩
  · exact .inl h
  · exact .inr ⟨b, off, ha, hB b hlt, h⟩

def saneS (ks : List ByteArray) : Prop := ks.length ≤ maxLen ∧ ∀ s ∈ ks, s.size ≤ maxLen

/-- The value v is the tree T, all of whose memory lies in blocks of S. -/
inductive Lies (S : Nat → Prop) (w : World) : Value → Tree → Prop
  | mk (k n : Int) (s : ByteArray) (l : List Tree) (ks : List ByteArray) (a : Option Addr) (cap : Nat) (u : Value) (C : Nat → Nat → Value)
      (hs : s.size ≤ maxLen) (hl : l.length ≤ maxLen) (hk : saneS ks) (hc : l.length ≤ cap) (hu : ReadsB S w u (strsV ks))
      (ha : l = [] ∨ ∃ b off, a = some ⟨b, off, none⟩ ∧ S b ∧ ∀ i, i < l.length → ∀ j, j < 5 → w.cell? ⟨b, off + i * 5 + j, none⟩ = some (C i j))
      (hC : ∀ i (h : i < l.length), Lies S w (.agg #[C i 0, C i 1, C i 2, C i 3, C i 4]) l[i]) :
      Lies S w (.agg #[.int .i64 k, .int .i64 n, .string s, .slice a l.length cap, u]) (.mk k n s l ks)

/-- The list of values v is l. -/
def LiesL (S : Nat → Prop) (w : World) (v : Value) (l : List Tree) : Prop :=
  ∃ a cap, ∃ C : Nat → Nat → Value, v = .slice a l.length cap ∧ l.length ≤ maxLen ∧ l.length ≤ cap ∧
    (l = [] ∨ ∃ b off, a = some ⟨b, off, none⟩ ∧ S b ∧ ∀ i, i < l.length → ∀ j, j < 5 → w.cell? ⟨b, off + i * 5 + j, none⟩ = some (C i j)) ∧
    ∀ i (h : i < l.length), Lies S w (.agg #[C i 0, C i 1, C i 2, C i 3, C i 4]) l[i]

theorem Lies.out {S : Nat → Prop} {w : World} {v : Value} {k n : Int} {s : ByteArray} {l : List Tree} {ks : List ByteArray} (h : Lies S w v (.mk k n s l ks)) :
    ∃ c u, v = .agg #[.int .i64 k, .int .i64 n, .string s, c, u] ∧ s.size ≤ maxLen ∧ saneS ks ∧ LiesL S w c l ∧ ReadsB S w u (strsV ks) := by
  cases h with
  | mk k n s l ks a cap u C hs hl hk hc hu ha hC => exact ⟨_, u, rfl, hs, hk, ⟨a, cap, C, rfl, hl, hc, ha, hC⟩, hu⟩

theorem Lies.of {S : Nat → Prop} {w : World} {c u : Value} {k n : Int} {s : ByteArray} {l : List Tree} {ks : List ByteArray} (hs : s.size ≤ maxLen) (hk : saneS ks) (hl : LiesL S w c l) (hu : ReadsB S w u (strsV ks)) :
    Lies S w (.agg #[.int .i64 k, .int .i64 n, .string s, c, u]) (.mk k n s l ks) := by
  obtain ⟨a, cap, C, rfl, hl, hc, ha, hC⟩ := hl
  exact .mk k n s l ks a cap u C hs hl hk hc hu ha hC

theorem LiesL.mk_keep {S : Nat → Prop} {w w' : World} {v : Value} {l : List Tree} (hb : KeptIn S w w') (hi : ∀ U ∈ l, ∀ x, Lies S w x U → Lies S w' x U) (h : LiesL S w v l) : LiesL S w' v l := by
  obtain ⟨a, cap, C, rfl, hl, hc, ha, hC⟩ := h
  refine ⟨a, cap, C, rfl, hl, hc, ?_, fun i h => hi _ (List.getElem_mem h) _ (hC i h)⟩
  rcases ha with ha | ⟨b, off, ha, hlt, hcell⟩
  · exact .inl ha
  · exact .inr ⟨b, off, ha, hlt, fun i hi j hj => (hb.cell hlt _).trans (hcell i hi j hj)⟩

theorem Lies.keep {S : Nat → Prop} {w w' : World} (hb : KeptIn S w w') : ∀ {T : Tree} {v : Value}, Lies S w v T → Lies S w' v T := by
  have h := Tree.ind (P := fun T => ∀ v, Lies S w v T → Lies S w' v T) ?_
  · exact fun {T v} hx => h T v hx
  intro k n s l ks ih v h
  obtain ⟨c, u, rfl, hs, hk, hl, hu⟩ := h.out
  exact Lies.of hs hk (hl.mk_keep hb ih) (hu.keep hb)

theorem LiesL.keep {S : Nat → Prop} {w w' : World} {v : Value} {l : List Tree} (hb : KeptIn S w w') (h : LiesL S w v l) : LiesL S w' v l :=
  h.mk_keep hb fun U _ x hx => Lies.keep hb hx

theorem LiesL.mk_mono {S S' : Nat → Prop} {w : World} {v : Value} {l : List Tree} (hB : ∀ b, S b → S' b) (hi : ∀ U ∈ l, ∀ x, Lies S w x U → Lies S' w x U) (h : LiesL S w v l) : LiesL S' w v l := by
  obtain ⟨a, cap, C, rfl, hl, hc, ha, hC⟩ := h
  refine ⟨a, cap, C, rfl, hl, hc, ?_, fun i h => hi _ (List.getElem_mem h) _ (hC i h)⟩
  rcases ha with ha | ⟨b, off, ha, hlt, hcell⟩
  · exact .inl ha
  · exact .inr ⟨b, off, ha, hB b hlt, hcell⟩

theorem Lies.mono {S S' : Nat → Prop} {w : World} (hB : ∀ b, S b → S' b) : ∀ {T : Tree} {v : Value}, Lies S w v T → Lies S' w v T := by
  have h := Tree.ind (P := fun T => ∀ v, Lies S w v T → Lies S' w v T) ?_
  · exact fun {T v} hx => h T v hx
  intro k n s l ks ih v h
  obtain ⟨c, u, rfl, hs, hk, hl, hu⟩ := h.out
  exact Lies.of hs hk (hl.mk_mono hB ih) (hu.mono hB)

theorem LiesL.mono {S S' : Nat → Prop} {w : World} {v : Value} {l : List Tree} (hB : ∀ b, S b → S' b) (h : LiesL S w v l) : LiesL S' w v l :=
  h.mk_mono hB fun U _ x hx => Lies.mono hB hx

/-- What is at place i of a list of values: five cells, which are the tree there. -/
theorem LiesL.at {S : Nat → Prop} {w : World} {v : Value} {l : List Tree} (h : LiesL S w v l) :
    ∃ a cap, v = .slice a l.length cap ∧ l.length ≤ maxLen ∧ l.length ≤ cap ∧ (l = [] ∨ ∃ b off, a = some ⟨b, off, none⟩ ∧ S b ∧ ∀ i (h : i < l.length), ∃ c0 c1 c2 c3 c4,
      w.cell? ⟨b, off + i * 5, none⟩ = some c0 ∧ w.cell? ⟨b, off + i * 5 + 1, none⟩ = some c1 ∧ w.cell? ⟨b, off + i * 5 + 2, none⟩ = some c2 ∧ w.cell? ⟨b, off + i * 5 + 3, none⟩ = some c3 ∧ w.cell? ⟨b, off + i * 5 + 4, none⟩ = some c4 ∧
      Lies S w (.agg #[c0, c1, c2, c3, c4]) l[i]) := by
  obtain ⟨a, cap, C, rfl, hl, hc, ha, hC⟩ := h
  refine ⟨a, cap, rfl, hl, hc, ?_⟩
  rcases ha with ha | ⟨b, off, ha, hlt, hcell⟩
  · exact .inl ha
  · refine .inr ⟨b, off, ha, hlt, fun i hi => ⟨C i 0, C i 1, C i 2, C i 3, C i 4, ?_, ?_, ?_, ?_, ?_, hC i hi⟩⟩
    · simpa using hcell i hi 0 (by omega)
    · exact hcell i hi 1 (by omega)
    · exact hcell i hi 2 (by omega)
    · exact hcell i hi 3 (by omega)
    · exact hcell i hi 4 (by omega)

/-- A parameter that was put into a block of its own is still there behind a call. -/
theorem box5 {w w1 : World} {c0 c1 c2 c3 c4 : Value} {t : TypeId} (hb : Below (w.alloc (.cells #[c0, c1, c2, c3, c4] t)).heap.size (w.alloc (.cells #[c0, c1, c2, c3, c4] t)) w1) :
    w1.cell? ⟨w.heap.size, 0, none⟩ = some c0 ∧ w1.cell? ⟨w.heap.size, 1, none⟩ = some c1 ∧ w1.cell? ⟨w.heap.size, 2, none⟩ = some c2 ∧ w1.cell? ⟨w.heap.size, 3, none⟩ = some c3 ∧ w1.cell? ⟨w.heap.size, 4, none⟩ = some c4 := by
  have h : ∀ j, w1.cell? ⟨w.heap.size, j, none⟩ = (#[c0, c1, c2, c3, c4] : Array Value)[j]? := fun j => by
    rw [hb.cell (p := ⟨w.heap.size, j, none⟩) (by simp)]
    have e : (w.alloc (.cells #[c0, c1, c2, c3, c4] t)).heap[w.heap.size]? = some (.cells #[c0, c1, c2, c3, c4] t) := by show (w.heap.push _)[w.heap.size]? = _; simp
    simp only [World.cell?, e]; rfl
  exact ⟨h 0, h 1, h 2, h 3, h 4⟩

theorem heap_new (w : World) (o : Obj) : (w.alloc o).heap[w.heap.size]? = some o := by show (w.heap.push _)[w.heap.size]? = _; simp
theorem heap_old (w : World) (o : Obj) {b : Nat} (h : b < w.heap.size) : (w.alloc o).heap[b]? = w.heap[b]? := Below.heap_alloc w o b h
theorem three {w w1 : World} {A R O : Obj} (hb : Below (((w.alloc A).alloc R).alloc O).heap.size (((w.alloc A).alloc R).alloc O) w1) :
    w1.heap[w.heap.size]? = some A ∧ w1.heap[w.heap.size + 1]? = some R ∧ w1.heap[w.heap.size + 1 + 1]? = some O := by
  have s1 : (w.alloc A).heap.size = w.heap.size + 1 := by simp
  have s2 : ((w.alloc A).alloc R).heap.size = w.heap.size + 1 + 1 := by simp
  refine ⟨?_, ?_, ?_⟩
  · rw [hb.block _ (by simp; omega), heap_old _ _ (by simp; omega), heap_old _ _ (by simp), heap_new]
  · rw [hb.block _ (by simp), heap_old _ _ (by simp), ← s1, heap_new]
  · rw [hb.block _ (by simp), ← s2, heap_new]
theorem blk_cell {w : World} {b : Nat} {cs : Array Value} {t : TypeId} (h : w.heap[b]? = some (.cells cs t (0, 0))) (j : Nat) : w.cell? ⟨b, j, none⟩ = cs[j]? := cell_of_row w b j cs t (0, 0) h
theorem blk_frozen {w : World} {b : Nat} {cs : Array Value} {t : TypeId} (h : w.heap[b]? = some (.cells cs t (0, 0))) (j : Nat) : w.frozen? ⟨b, j, none⟩ = false := frozen_of_row w b j cs t h
theorem blk_set {w : World} {b : Nat} {cs : Array Value} {t : TypeId} (h : w.heap[b]? = some (.cells cs t (0, 0))) (j : Nat) (v : Value) : (w.setCell ⟨b, j, none⟩ v).heap[b]? = some (.cells (cs.setIfInBounds j v) t (0, 0)) := heap_setCell_same w b j cs t v h

#print axioms Lies.keep
end Go.Proofs.YtkkhnldhipfneaaGreatDoor

/-! How much a value holds, as the law's own helper reckons it: a contract for every value that lies in memory. -/
namespace Go.Proofs.YtkkhnldhipfneaaGreatDoor
open Go.RowKit
set_option linter.unusedSimpArgs false
set_option linter.unusedVariables false

set_option maxHeartbeats 1000000 in
set_option maxRecDepth 100000 in
theorem sizeStrsT_c (v : Value) (ss : List ByteArray) (w : World) (left : Int) (hl0 : 0 ≤ left) (hl1 : left ≤ 1048576) (hv : Reads w v (strsV ss)) (hn : ss.length ≤ maxLen) (hs : ∀ s ∈ ss, s.size ≤ maxLen) :
    Calls Tryz.prog 31 #[v, .int .i64 left] w fun e w' => e = .returned (.int .i64 (leftS ss left)) ∧ w = w' := by
  obtain ⟨a, cap, rfl, _, hc⟩ := reads_strs hv
  clear hv
  unfold maxLen at hn hs
  by_cases h0 : left < (ss.length : Int)
  · have hneg : left - (ss.length : Int) < 0 := by omega
    have e : leftS ss left = -1 := by rw [leftS, bulkS, if_neg (by omega)]
    rw [e]
    clear hc hs
    go_enter Tryz.func31, Tryz.ntmps31
    go_wp2
    go_ret
    exact ⟨rfl, rfl⟩
  · have hpos : ¬ (left - (ss.length : Int) < 0) := by omega
    rcases hc with rfl | ⟨b, off, rfl, hlt, hc⟩
    · go_enter Tryz.func31, Tryz.ntmps31
      go_wp2
      go_loop [1, 5] (fun vl vi => vl = .int .i64 left ∧ vi = .int .i64 0) (fun _ _ => 0)
      case atStart => exact ⟨rfl, rfl⟩
      case round =>
        obtain ⟨rfl, rfl⟩ := hrel
        go_wp2
        go_ret
        exact ⟨by rw [show leftS [] left = left by simp [leftS, bulkS, hl0]]; rfl, rfl⟩
    · go_enter Tryz.func31, Tryz.ntmps31
      go_wp2
      go_loop [1, 5] (fun vl vi => ∃ (k : Nat) (l : Int), k ≤ ss.length ∧ vi = .int .i64 (k : Int) ∧ vl = .int .i64 l ∧ 0 ≤ l ∧ l ≤ 1048576 ∧ Hid (l = left - (ss.length : Int) - (((ss.take k).map ByteArray.size).sum : Int))) (fun _ vi => ss.length - (intOf vi).toNat)
      case atStart => exact ⟨0, _, Nat.zero_le _, rfl, rfl, by omega, by omega, by show _ = _; simp⟩
      case round =>
        obtain ⟨k, l, hk, rfl, rfl, hq0, hq1, hl⟩ := hrel
        by_cases hlt' : k < ss.length
        · have hcx := hc k hlt'
          have hsk := hs ss[k] (List.getElem_mem hlt')
          have hsum := sum_take_succ ss k hlt'
          obtain ⟨t, ht⟩ : ∃ t, t = ss[k] := ⟨_, rfl⟩
          rw [← ht] at hcx hsk hsum
          have HS : Hid (((ss.take (k + 1)).map ByteArray.size).sum = ((ss.take k).map ByteArray.size).sum + t.size) := hsum
          have hki : (k : Int) < (ss.length : Int) := by omega
          clear hc hs ht hsum
          by_cases hneg : l - (t.size : Int) < 0
          · have e : leftS ss left = -1 := by
              have h1 := HS.out; have h2 := hl.out; have h3 := sum_take_le ss (k + 1)
              rw [leftS, bulkS, if_neg (by omega)]
            have HE : Hid (leftS ss left = -1) := e
            clear e
            go_wp2
            go_ret
            exact ⟨by rw [HE.out]; rfl, rfl⟩
          · go_wp2
            go_round
            case rel => exact ⟨k + 1, l - (t.size : Int), by omega, by go_num, rfl, by omega, by omega, (by show _ = _; rw [HS.out, hl.out]; omega)⟩
            case measure => simp [intOf]; omega
        · have he : k = ss.length := by omega
          subst he
          have e : leftS ss left = l := by
            have h2 := hl.out
            rw [List.take_length] at h2
            rw [leftS, bulkS, if_pos (by omega)]; omega
          have HE : Hid (leftS ss left = l) := e
          clear hc hs e
          go_wp2
          go_ret
          exact ⟨by rw [HE.out]; rfl, rfl⟩
def leftN (n : Nat) (left : Int) : Int := if (n : Int) ≤ left then left - (n : Int) else -1
theorem leftN_bad {n : Nat} {left : Int} (h : left < (n : Int)) : leftN n left = -1 := by unfold leftN; rw [if_neg (by omega)]
theorem leftN_good {n : Nat} {left : Int} (h : (n : Int) ≤ left) : leftN n left = left - (n : Int) := by unfold leftN; rw [if_pos h]
theorem leftS_N (ks : List ByteArray) (left : Int) : leftS ks left = leftN (bulkS ks) left := rfl
theorem wt_mk (k n : Int) (s : ByteArray) (l : List Tree) (ks : List ByteArray) : (Tree.mk k n s l ks).wt = s.size + (wtL l + bulkS ks) := by rw [Tree.wt]

def SzC (T : Tree) : Prop := ∀ (S : Nat → Prop) (v : Value) (w : World) (left : Int), Lies S w v T → (∀ b, S b → b < w.heap.size) → 0 ≤ left → left ≤ 1048576 →
  Calls Tryz.prog 20 #[v, .int .i64 left] w fun e w' => e = .returned (.int .i64 (leftN T.wt left)) ∧ Below w.heap.size w w'
def SzLC (l : List Tree) : Prop := ∀ (S : Nat → Prop) (v : Value) (w : World) (left : Int), LiesL S w v l → (∀ b, S b → b < w.heap.size) → 0 ≤ left → left ≤ 1048576 →
  Calls Tryz.prog 88 #[v, .int .i64 left] w fun e w' => e = .returned (.int .i64 (leftN (wtL l) left)) ∧ Below w.heap.size w w'

set_option maxHeartbeats 2000000 in
set_option maxRecDepth 100000 in
theorem szVal_step (k n : Int) (s : ByteArray) (l : List Tree) (ks : List ByteArray) (ih : SzLC l) : SzC (.mk k n s l ks) := by
  intro S v w left hv hB h0 h1
  obtain ⟨c, u, rfl, hs, hk, hl, hu⟩ := hv.out
  clear hv
  unfold maxLen at hs
  have hbx : ∀ o, Below w.heap.size w (w.alloc o) := fun o => (Below.refl _ _).alloc (Nat.le_refl _) _
  by_cases hneg : left - (s.size : Int) < 0
  · have e : leftN (Tree.mk k n s l ks).wt left = -1 := leftN_bad (by rw [wt_mk]; omega)
    rw [e]
    go_enter Tryz.func20, Tryz.ntmps20
    go_wp2_with fail
    go_ret
    exact ⟨rfl, hbx _⟩
  · obtain ⟨p, hp⟩ : ∃ p, p = leftN (wtL l) (left - (s.size : Int)) := ⟨_, rfl⟩
    have hpb : p ≤ 1048576 := by unfold leftN at hp; split at hp <;> omega
    have HP : Hid (p = leftN (wtL l) (left - (s.size : Int))) := hp
    clear hp
    have hlA : ∀ o, LiesL S (w.alloc o) c l := fun o => hl.keep (.of (hbx _) hB)
    have huA : ∀ w1, Below w.heap.size w w1 → Reads w1 u (strsV ks) := fun w1 h1 => (hu.keep (.of h1 hB)).reads (fun b h => Nat.lt_of_lt_of_le (hB b h) h1.size)
    have hBA : ∀ o b, S b → b < (w.alloc o).heap.size := fun o b h => Nat.lt_of_lt_of_le (hB b h) (hbx o).size
    by_cases hpn : p < 0
    · have e : leftN (Tree.mk k n s l ks).wt left = -1 := by
        have := HP.out
        refine leftN_bad ?_
        rw [wt_mk]
        by_cases hh : ((wtL l : Nat) : Int) ≤ left - (s.size : Int)
        · rw [leftN_good hh] at this; omega
        · omega
      have HE : Hid (leftN (Tree.mk k n s l ks).wt left = -1) := e
      clear e
      go_enter Tryz.func20, Tryz.ntmps20
      go_wp2_with (go_at_call 88; refine (ih S c _ (left - (s.size : Int)) (hlA _) (hBA _) (by omega) (by omega)).mono ?_; rintro e w1 ⟨rfl, hb1⟩; rw [← HP.out])
      go_ret
      exact ⟨by rw [HE.out]; rfl, (hbx _).trans (hb1.mono (by simp))⟩
    · have e : leftN (Tree.mk k n s l ks).wt left = leftS ks p := by
        have := HP.out
        rw [leftS_N]
        by_cases hh : ((wtL l : Nat) : Int) ≤ left - (s.size : Int)
        · rw [leftN_good hh] at this
          by_cases h2 : ((bulkS ks : Nat) : Int) ≤ p
          · rw [leftN_good h2, leftN_good (by rw [wt_mk]; omega), wt_mk]; omega
          · rw [leftN_bad (n := (Tree.mk k n s l ks).wt) (by rw [wt_mk]; omega), leftN_bad (by omega)]
        · rw [leftN_bad (by omega)] at this; omega
      have HE : Hid (leftN (Tree.mk k n s l ks).wt left = leftS ks p) := e
      obtain ⟨q, hq⟩ : ∃ q, q = leftS ks p := ⟨_, rfl⟩
      have HQ : Hid (q = leftS ks p) := hq
      clear e hq
      go_enter Tryz.func20, Tryz.ntmps20
      go_wp2_with (first
        | (go_at_call 88; refine (ih S c _ (left - (s.size : Int)) (hlA _) (hBA _) (by omega) (by omega)).mono ?_; rintro e w1 ⟨rfl, hb1⟩; rw [← HP.out]; obtain ⟨x0, x1, x2, x3, x4⟩ := box5 hb1)
        | (go_at_call 31; refine (sizeStrsT_c u ks _ p (by omega) (by omega) (huA _ ((hbx _).trans (hb1.mono (by simp)))) hk.1 hk.2).mono ?_; rintro e w2 ⟨rfl, rfl⟩; rw [← HQ.out]))
      · go_ret
        have hq : q = -1 := by
          have := HQ.out
          rw [leftS_N] at this
          by_cases h2 : ((bulkS ks : Nat) : Int) ≤ p
          · rw [leftN_good h2] at this; omega
          · rw [leftN_bad (by omega)] at this; exact this
        exact ⟨by rw [HE.out, ← HQ.out, hq]; rfl, (hbx _).trans (hb1.mono (by simp))⟩
      · go_ret
        exact ⟨by rw [HE.out, ← HQ.out]; rfl, (hbx _).trans (hb1.mono (by simp))⟩

set_option maxHeartbeats 2000000 in
set_option maxRecDepth 100000 in
theorem szValS_step (l : List Tree) (ih : ∀ U ∈ l, SzC U) : SzLC l := by
  intro S v w left hv hB h0 h1
  obtain ⟨a, cap, rfl, hl, hc, ha⟩ := hv.at
  unfold maxLen at hl
  by_cases hneg : left - (l.length : Int) < 0
  · have e : leftN (wtL l) left = -1 := leftN_bad (by have := length_le_wtL l; omega)
    rw [e]
    go_enter Tryz.func88, Tryz.ntmps88
    go_wp2_with fail
    go_ret
    exact ⟨rfl, Below.refl _ _⟩
  · rcases ha with rfl | ⟨b, off, rfl, hlt, ha⟩
    · have e : leftN (wtL []) left = left := by rw [leftN_good (by simpa [wtL] using h0)]; simp [wtL]
      rw [e]
      go_enter Tryz.func88, Tryz.ntmps88
      go_wp2_with fail
      go_loop [1, 5] (fun vl vi => vl = .int .i64 left ∧ vi = .int .i64 0) (fun _ _ => 0)
      case atStart => exact ⟨by simp, rfl⟩
      case round =>
        obtain ⟨rfl, rfl⟩ := hrel
        go_wp2_with fail
        go_ret
        exact ⟨rfl, Below.refl _ _⟩
    · go_enter Tryz.func88, Tryz.ntmps88
      go_wp2_with fail
      go_loopw [1, 5] (fun vl vi wr => ∃ (k : Nat) (q : Int), k ≤ l.length ∧ vi = .int .i64 (k : Int) ∧ vl = .int .i64 q ∧ 0 ≤ q ∧ q ≤ 1048576 ∧ Hid (q = left - (l.length : Int) - (wtL (l.take k) : Int) + (k : Int)) ∧ Below w.heap.size w wr) (fun _ vi _ => l.length - (intOf vi).toNat)
      case atStart => exact ⟨0, _, Nat.zero_le _, rfl, rfl, by omega, by omega, by show _ = _; simp [wtL], Below.refl _ _⟩
      case round =>
        obtain ⟨k, q, hk, rfl, rfl, hq0, hq1, hq, hbr⟩ := hrel
        by_cases hlt' : k < l.length
        · obtain ⟨c0, c1, c2, c3, c4, e0, e1, e2, e3, e4, hT⟩ := ha k hlt'
          have hlt2 : b < w.heap.size := hB b hlt
          rw [← hbr.cell (by simpa using hlt2)] at e0 e1 e2 e3 e4
          have ihk := ih _ (List.getElem_mem hlt')
          have hwt := wtL_take_succ l k hlt'
          obtain ⟨U, hU⟩ : ∃ U, U = l[k] := ⟨_, rfl⟩
          rw [← hU] at hT ihk hwt
          have HW : Hid (wtL (l.take (k + 1)) = wtL (l.take k) + 1 + U.wt) := hwt
          have hki : (k : Int) < (l.length : Int) := by omega
          have hT' := hT.keep (.of hbr hB)
          have hBr : ∀ b, S b → b < wr.heap.size := fun b h => Nat.lt_of_lt_of_le (hB b h) hbr.size
          obtain ⟨p, hp⟩ : ∃ p, p = leftN U.wt q := ⟨_, rfl⟩
          have HP : Hid (p = leftN U.wt q) := hp
          clear ha ih hwt hU hT hp hv
          by_cases hpn : p < 0
          · go_wp2_with (go_at_call 20; refine (ihk S _ _ q hT' hBr hq0 hq1).mono ?_; rintro e w1 ⟨rfl, hb1⟩; rw [← HP.out])
            go_ret
            have e : leftN (wtL l) left = -1 := by
              have h2 := HP.out; have h3 := hq.out; have h4 := HW.out; have h5 := wtL_take_rest l (k + 1)
              refine leftN_bad ?_
              by_cases h6 : (U.wt : Int) ≤ q
              · rw [leftN_good h6] at h2; omega
              · omega
            exact ⟨by rw [e]; rfl, hbr.trans (hb1.mono hbr.size)⟩
          · go_wp2_with (go_at_call 20; refine (ihk S _ _ q hT' hBr hq0 hq1).mono ?_; rintro e w1 ⟨rfl, hb1⟩; rw [← HP.out])
            go_roundw
            case rel =>
              have h2 := HP.out; have h3 := hq.out; have h4 := HW.out
              have h6 : (U.wt : Int) ≤ q := by
                by_cases h6 : (U.wt : Int) ≤ q
                · exact h6
                · rw [leftN_bad (by omega)] at h2; omega
              rw [leftN_good h6] at h2
              exact ⟨k + 1, p, by omega, by go_num, rfl, by omega, by omega, (by show _ = _; omega), hbr.trans (hb1.mono hbr.size)⟩
            case measure => simp [intOf]; omega
        · have he : k = l.length := by omega
          subst he
          clear ha
          go_wp2_with fail
          go_ret
          have e : leftN (wtL l) left = q := by
            have h3 := hq.out
            rw [List.take_length] at h3
            rw [leftN_good (by omega)]; omega
          exact ⟨by rw [e]; rfl, hbr⟩

theorem szVal_all : ∀ T, SzC T := by
  refine Tree.ind ?_
  intro k n s l ks ih
  exact szVal_step k n s l ks (szValS_step l ih)
#print axioms szVal_all
end Go.Proofs.YtkkhnldhipfneaaGreatDoor

/-! A value copied into memory of its own, as the law's helper does it: a contract for every value that lies in memory and holds at most 2 to the 20. -/
namespace Go.Proofs.YtkkhnldhipfneaaGreatDoor
open Go.RowKit
set_option linter.unusedSimpArgs false
set_option linter.unusedVariables false

/-- The blocks from lo on, below hi. -/
def Own (lo hi : Nat) (b : Nat) : Prop := lo ≤ b ∧ b < hi
theorem Own.set {lo hi : Nat} {w : World} {g j : Nat} {v : Value} (h : g < lo) : KeptIn (Own lo hi) w (w.setCell ⟨g, j, none⟩ v) := fun b hb => Below.heap_setCell w ⟨g, j, none⟩ v b (by have := hb.1; simp; omega)
theorem Own.below {lo : Nat} {w w' : World} (h : Below w.heap.size w w') : KeptIn (Own lo w.heap.size) w w' := fun b hb => h.block b hb.2
theorem Own.mono {lo lo' hi hi' : Nat} (h1 : lo' ≤ lo) (h2 : hi ≤ hi') : ∀ b, Own lo hi b → Own lo' hi' b := fun b h => ⟨Nat.le_trans h1 h.1, Nat.lt_of_lt_of_le h.2 h2⟩

def ToC (T : Tree) : Prop := ∀ (S : Nat → Prop) (v : Value) (w : World), Lies S w v T → (∀ b, S b → b < w.heap.size) → T.wt ≤ 1048576 →
  Calls Tryz.prog 22 #[v] w fun e w' => ∃ x, e = .returned x ∧ Lies (Own w.heap.size w'.heap.size) w' x T ∧ Below w.heap.size w w'
def ToLC (l : List Tree) : Prop := ∀ (S : Nat → Prop) (v : Value) (w : World), LiesL S w v l → (∀ b, S b → b < w.heap.size) → wtL l ≤ 1048576 →
  Calls Tryz.prog 92 #[v] w fun e w' => ∃ g, e = .returned (.slice (some ⟨g, 0, none⟩) l.length l.length) ∧ LiesL (Own w.heap.size w'.heap.size) w' (.slice (some ⟨g, 0, none⟩) l.length l.length) l ∧ Below w.heap.size w w'

theorem readsB_of_owns {w : World} {base : Nat} {e : TypeId} {v : Value} {n : Nat} {xs : List Value} (h : w.ownsRow base e 1 v n xs) : ReadsB (Own base w.heap.size) w v xs := by
  have h0 := reads_of_owns h
  obtain ⟨a, cap, hv, hc, hx⟩ := h0
  refine ⟨a, cap, hv, hc, ?_⟩
  rcases hx with hx | ⟨b, off, rfl, hlt, hx⟩
  · exact .inl hx
  · refine .inr ⟨b, off, rfl, ⟨?_, hlt⟩, hx⟩
    rcases h.2 with ⟨hn, _⟩ | ⟨g, cap', cur, hv', hg, _⟩
    · rw [hn] at hv; simp at hv
    · rw [hv'] at hv
      simp only [Value.slice.injEq, Option.some.injEq, Addr.mk.injEq] at hv
      omega

theorem toVal_facts {w1 w2 : World} {N : Nat} {t t' : TypeId} {x o0 o1 o2 o3 o4 r0 r1 r2 r3 r4 : Value} (hR : w1.heap[N + 1]? = some (.cells #[r0, r1, r2, r3, r4] t)) (hO : w1.heap[N + 1 + 1]? = some (.cells #[o0, o1, o2, o3, o4] t'))
    (hb : Below (w1.setCell ⟨N + 1 + 1, 3, none⟩ x).heap.size (w1.setCell ⟨N + 1 + 1, 3, none⟩ x) w2) :
    (w2.cell? ⟨N + 1 + 1, 0, none⟩ = some o0 ∧ w2.cell? ⟨N + 1 + 1, 1, none⟩ = some o1 ∧ w2.cell? ⟨N + 1 + 1, 2, none⟩ = some o2 ∧ w2.cell? ⟨N + 1 + 1, 3, none⟩ = some x ∧ w2.cell? ⟨N + 1 + 1, 4, none⟩ = some o4) ∧
    (w2.cell? ⟨N + 1, 0, none⟩ = some r0 ∧ w2.cell? ⟨N + 1, 1, none⟩ = some r1 ∧ w2.cell? ⟨N + 1, 2, none⟩ = some r2 ∧ w2.cell? ⟨N + 1, 3, none⟩ = some r3 ∧ w2.cell? ⟨N + 1, 4, none⟩ = some r4) ∧
    (∀ j, w2.frozen? ⟨N + 1 + 1, j, none⟩ = false) ∧ (∀ j, w2.frozen? ⟨N + 1, j, none⟩ = false) := by
  have l1 : N + 1 < w1.heap.size := (Array.getElem?_eq_some_iff.1 hR).1
  have l2 : N + 1 + 1 < w1.heap.size := (Array.getElem?_eq_some_iff.1 hO).1
  have s1 : (w1.setCell ⟨N + 1 + 1, 3, none⟩ x).heap.size = w1.heap.size := by simp [World.setCell]
  have eO := blk_set hO 3 x
  have eR : (w1.setCell ⟨N + 1 + 1, 3, none⟩ x).heap[N + 1]? = _ := (Below.heap_setCell w1 ⟨N + 1 + 1, 3, none⟩ x (N + 1) (by simp)).trans hR
  rw [← hb.block _ (by rw [s1]; exact l2)] at eO
  rw [← hb.block _ (by rw [s1]; exact l1)] at eR
  exact ⟨⟨blk_cell eO 0, blk_cell eO 1, blk_cell eO 2, blk_cell eO 3, blk_cell eO 4⟩, ⟨blk_cell eR 0, blk_cell eR 1, blk_cell eR 2, blk_cell eR 3, blk_cell eR 4⟩, blk_frozen eO, blk_frozen eR⟩

set_option maxHeartbeats 2000000 in
set_option maxRecDepth 100000 in
theorem toVal_step (k n : Int) (s : ByteArray) (l : List Tree) (ks : List ByteArray) (ih : ToLC l) : ToC (.mk k n s l ks) := by
  intro S v w hv hB hw
  rw [wt_mk] at hw
  obtain ⟨c, u, rfl, hs, hk, hl, hu⟩ := hv.out
  clear hv
  have hwl : wtL l ≤ 1048576 := by omega
  have hkn : ks.length ≤ 1099511627776 := by unfold bulkS at hw; omega
  have hb3 : ∀ A R O, Below w.heap.size w (((w.alloc A).alloc R).alloc O) := fun A R O => (((Below.refl _ _).alloc (Nat.le_refl _) _).alloc (by simp) _).alloc (by simp; omega) _
  have hlA : ∀ A R O, LiesL S (((w.alloc A).alloc R).alloc O) c l := fun A R O => hl.keep (.of (hb3 A R O) hB)
  have huA : ∀ w1, Below w.heap.size w w1 → Reads w1 u (strsV ks) := fun w1 h1 => (hu.keep (.of h1 hB)).reads (fun b h => Nat.lt_of_lt_of_le (hB b h) h1.size)
  have hBA : ∀ A R O b, S b → b < (((w.alloc A).alloc R).alloc O).heap.size := fun A R O b h => Nat.lt_of_lt_of_le (hB b h) (hb3 A R O).size
  go_enter Tryz.func22, Tryz.ntmps22
  go_wp2_with (first
    | (go_at_call 92; refine (ih S c _ (hlA _ _ _) (hBA _ _ _) hwl).mono ?_; rintro e w1 ⟨g, rfl, hL, hb1⟩; obtain ⟨hA, hR, hO⟩ := three hb1; have ca := blk_cell hA; have co := blk_cell hO; have fo := blk_frozen hO; have a4 := ca 4; have o3 := co 3; have f3 := fo 3; clear ca co fo; simp only [List.getElem?_toArray, List.getElem?_cons_succ, List.getElem?_cons_zero] at a4 o3)
    | (go_at_call 34; refine (toStrs_c u ks _ (huA _ (((hb3 _ _ _).trans (hb1.mono (by simp; omega))).setCell (by simp; omega) _)) hkn).mono ?_; rintro e w2 ⟨g2, rfl, hM, hb2⟩; obtain ⟨⟨p0, p1, p2, p3, p4⟩, ⟨q0, q1, q2, q3, q4⟩, fO, fR⟩ := toVal_facts hR hO hb2))
  have hz2 : ∀ a v, (w2.setCell a v).heap.size = w2.heap.size := fun a v => by simp [World.setCell]
  have s3 : ∀ A R O, (((w.alloc A).alloc R).alloc O).heap.size = w.heap.size + 1 + 1 + 1 := fun A R O => by simp
  rw [s3] at hb1 hL
  have z1 : ∀ a v, (w1.setCell a v).heap.size = w1.heap.size := fun a v => by simp [World.setCell]
  have hN : w.heap.size + 1 + 1 + 1 ≤ w1.heap.size := by have := hb1.size; rw [s3] at this; exact this
  have hN2 : w1.heap.size ≤ w2.heap.size := by have := hb2.size; rw [z1] at this; exact this
  have k1 : KeptIn (Own (w.heap.size + 1 + 1 + 1) w1.heap.size) w1 w2 := (Own.set (by omega)).trans (.of hb2 fun b hb => by rw [z1]; exact hb.2)
  have hM' := readsB_of_owns hM
  rw [z1] at hM'
  refine bodyPost_ret (v := .agg #[.int .i64 k, .int .i64 n, .string s, .slice (some ⟨g, 0, none⟩) l.length l.length, .slice (some ⟨g2, 0, none⟩) ks.length ks.length]) (by simp [results, Tryz.results22, go_sem, p0, p1, p2, p3, p4, q0, q1, q2, q3, q4]) rfl ⟨_, rfl, ?_, ?_⟩
  · refine Lies.mono (S := Own (w.heap.size + 1 + 1 + 1) w2.heap.size) (Own.mono (by omega) (by simp [World.setCell])) ?_
    refine Lies.keep (w := w2) ?_ (Lies.of hs hk ((hL.keep k1).mono (Own.mono (Nat.le_refl _) hN2)) (hM'.mono (Own.mono hN (Nat.le_refl _))))
    refine KeptIn.trans (KeptIn.trans (KeptIn.trans (KeptIn.trans (KeptIn.trans (Own.set ?_) (Own.set ?_)) (Own.set ?_)) (Own.set ?_)) (Own.set ?_)) (Own.set ?_) <;> omega
  · have b1 := ((hb3 _ _ _).trans (hb1.mono (by omega)))
    have b2 := (b1.setCell (p := ⟨w.heap.size + 1 + 1, 3, none⟩) (by simp; omega) (.slice (some ⟨g, 0, none⟩) l.length l.length)).trans (hb2.mono (by rw [z1]; omega))
    refine Below.setCell (Below.setCell (Below.setCell (Below.setCell (Below.setCell (Below.setCell b2 ?_ _) ?_ _) ?_ _) ?_ _) ?_ _) ?_ _ <;> simp <;> omega

theorem infoVal : (Tryz.prog.info? 56).map (fun i => (i.zero, i.size, i.bytes)) = some (some (.agg #[.int .i64 0, .int .i64 0, .string ⟨#[]⟩, .slice none 0 0, .slice none 0 0]), 5, 80) := by kernel_rfl

def cellsAt (ys : List Value) (i : Nat) : Value := .agg #[ys.getD (i * 5) undef, ys.getD (i * 5 + 1) undef, ys.getD (i * 5 + 2) undef, ys.getD (i * 5 + 3) undef, ys.getD (i * 5 + 4) undef]

def set5 (ys : List Value) (i : Nat) (c0 c1 c2 c3 c4 : Value) : List Value := ((((ys.set (i * 5) c0).set (i * 5 + 1) c1).set (i * 5 + 2) c2).set (i * 5 + 3) c3).set (i * 5 + 4) c4

theorem cellsAt_same (ys : List Value) (i : Nat) (c0 c1 c2 c3 c4 : Value) (h : i * 5 + 4 < ys.length) : cellsAt (set5 ys i c0 c1 c2 c3 c4) i = .agg #[c0, c1, c2, c3, c4] := by
  simp [cellsAt, set5, List.getD_eq_getElem?_getD, List.getElem?_set, h, show i * 5 < ys.length by omega, show i * 5 + 1 < ys.length by omega, show i * 5 + 2 < ys.length by omega, show i * 5 + 3 < ys.length by omega]

theorem getD_set_ne (ys : List Value) (a b : Nat) (v : Value) (h : a ≠ b) : (ys.set a v).getD b undef = ys.getD b undef := by
  simp [List.getD_eq_getElem?_getD, List.getElem?_set, h]

theorem cellsAt_other (ys : List Value) (i j : Nat) (c0 c1 c2 c3 c4 : Value) (h : j < i) : cellsAt (set5 ys i c0 c1 c2 c3 c4) j = cellsAt ys j := by
  have e : ∀ q, q < 5 → (set5 ys i c0 c1 c2 c3 c4).getD (j * 5 + q) undef = ys.getD (j * 5 + q) undef := fun q hq => by
    unfold set5
    rw [getD_set_ne _ _ _ _ (by omega), getD_set_ne _ _ _ _ (by omega), getD_set_ne _ _ _ _ (by omega), getD_set_ne _ _ _ _ (by omega), getD_set_ne _ _ _ _ (by omega)]
  have e0 := e 0 (by omega)
  rw [Nat.add_zero] at e0
  simp only [cellsAt, e0, e 1 (by omega), e 2 (by omega), e 3 (by omega), e 4 (by omega)]

theorem liesL_of_owns {w : World} {lo g n : Nat} {ys : List Value} {l : List Tree} (hg : w.ownsRow lo 56 5 (.slice (some ⟨g, 0, none⟩) n n) n ys) (hn : n = l.length) (hl : l.length ≤ maxLen) (hlo : lo ≤ g)
    (h : ∀ i (h : i < l.length), Lies (Own lo w.heap.size) w (cellsAt ys i) l[i]) : LiesL (Own lo w.heap.size) w (.slice (some ⟨g, 0, none⟩) l.length l.length) l := by
  subst hn
  refine ⟨_, _, fun i j => ys.getD (i * 5 + j) undef, rfl, hl, Nat.le_refl _, ?_, fun i hi => h i hi⟩
  have hlen := hg.1
  by_cases h0 : l = []
  · exact .inl h0
  · have hpos : 0 < l.length := List.length_pos_iff.2 h0
    refine .inr ⟨g, 0, rfl, ⟨hlo, ?_⟩, fun i hi j hj => ?_⟩
    · have := hg.cellAt 0 (by omega)
      have h2 : w.cell? ⟨g, 0, none⟩ = some (ys.getD 0 undef) := by rw [this]; simp [List.getD_eq_getElem?_getD, show 0 < ys.length by omega]
      exact World.block_lt_of_cell? w _ h2
    · rw [Nat.zero_add, hg.cellAt _ (by omega)]
      simp [List.getD_eq_getElem?_getD, show i * 5 + j < ys.length by omega]

end Go.Proofs.YtkkhnldhipfneaaGreatDoor
