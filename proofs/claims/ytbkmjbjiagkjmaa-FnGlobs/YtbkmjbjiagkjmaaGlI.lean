/-
  What the program's function that reads the signs of a piece answers: as many as the specification counts, and each as it is read; a contract for the walks; condition: the text has at most 2 to the 20 bytes.
-/
import Derived.Test.YtbkmjbjiagkjmaaGlH
import Derived.Deep.Cut
namespace Go.Proofs.Ytbkmjbjiagkjmaa
open Go.RowKit
set_option linter.unusedSimpArgs false
set_option linter.unusedVariables false

/-- Within brackets: they were opened at p, what they hold begins at fr, the run has come to i. -/
def WithinAt (s : ByteArray) (p fr i : Nat) (xs : List Sgn) (nt : Bool) : Prop :=
  p < s.size ∧ signL (s.data.toList.drop p) = setL (s.data.toList.drop (p + 1)) ∧ ReadTo s.data.toList p xs ∧ xs.length < 12 ∧ nt = headIs 33 (s.data.toList.drop (p + 1)) ∧ fr = p + 1 + (headIs 33 (s.data.toList.drop (p + 1))).toNat ∧ fr ≤ i ∧ RunTo s fr (i - fr)
theorem within_step {s : ByteArray} {p fr i : Nat} {xs : List Sgn} {nt : Bool} (h : WithinAt s p fr i xs nt) (hi : i < s.size) (hb : setB ((s[i]).toNat : Int) = true) : WithinAt s p fr (i + 1) xs nt := by
  obtain ⟨h1, h2, h3, h4, h5, h6, h7, h8⟩ := h
  refine ⟨h1, h2, h3, h4, h5, h6, by omega, ?_⟩
  rw [show i + 1 - fr = (i - fr) + 1 by omega]
  exact runTo_step h8 (by omega) (by simp only [show fr + (i - fr) = i by omega]; exact hb)
theorem within_set {s : ByteArray} {p fr i : Nat} {xs : List Sgn} {nt : Bool} (h : WithinAt s p fr i xs nt) (he : ∀ hi : i < s.size, setB ((s[i]).toNat : Int) = false) :
    signL (s.data.toList.drop p) = if headIs 93 (s.data.toList.drop i) && inB ((i - fr : Nat) : Int) 1 5 then some (⟨false, nt, (s.data.toList.drop fr).take (i - fr)⟩, i + 1 - p) else none := by
  obtain ⟨h1, h2, h3, h4, h5, h6, h7, h8⟩ := h
  have hr := runTo_end h8 (fun hk => by simp only [show fr + (i - fr) = i by omega]; exact he (by omega))
  rw [h2, setL_at _ p _ (i - fr) rfl (by rw [← h6]; exact hr), ← h6, ← h5, show fr + (i - fr) = i by omega, show 1 + nt.toNat + (i - fr) + 1 = i + 1 - p by rw [h5]; omega]
theorem within_good {s : ByteArray} {p fr i : Nat} {xs : List Sgn} {nt : Bool} (h : WithinAt s p fr i xs nt) (hi : i < s.size) (h93 : (s[i]).toNat = 93) (hne : ¬ i = fr) (h5 : i - fr ≤ 5) :
    ReadTo s.data.toList (i + 1) (xs ++ [⟨false, nt, (s.data.toList.drop fr).take (i - fr)⟩]) := by
  have he := within_set h (fun _ => by rw [h93]; decide)
  have hin : inB ((i - fr : Nat) : Int) 1 5 = true := by
    have := h.2.2.2.2.2.2.1
    simp only [inB, Bool.and_eq_true, decide_eq_true_eq]; omega
  rw [headIs_at s 93 i hi, h93, hin] at he
  have h2 := readTo_step h.2.2.1 he
  rw [show p + (i + 1 - p) = i + 1 by have := h.1; have := h.2.2.2.2.2.2.1; have := h.2.2.2.2.2.1; omega] at h2
  exact h2
theorem within_bad {s : ByteArray} {p fr i : Nat} {xs : List Sgn} {nt : Bool} (h : WithinAt s p fr i xs nt) (he : ∀ hi : i < s.size, setB ((s[i]).toNat : Int) = false) (hb : headIs 93 (s.data.toList.drop i) = false ∨ i = fr ∨ 5 < i - fr) : pieceB s = false := by
  have h2 := within_set h he
  have hc : (headIs 93 (s.data.toList.drop i) && inB ((i - fr : Nat) : Int) 1 5) = false := by
    rcases hb with hb | hb | hb
    · rw [hb]; rfl
    · have : inB ((i - fr : Nat) : Int) 1 5 = false := by simp only [inB, Bool.and_eq_false_iff, decide_eq_false_iff_not]; omega
      rw [this, Bool.and_false]
    · have : inB ((i - fr : Nat) : Int) 1 5 = false := by simp only [inB, Bool.and_eq_false_iff, decide_eq_false_iff_not]; omega
      rw [this, Bool.and_false]
  rw [hc] at h2
  exact readTo_bad h.2.2.1 h.1 h2
theorem within_start {s : ByteArray} {p : Nat} {xs : List Sgn} {m : Nat} {nt : Bool} (hp : p < s.size) (h91 : (s[p]).toNat = 91) (hr : ReadTo s.data.toList p xs) (hx : xs.length < 12) (hm : headIs 33 (s.data.toList.drop (p + 1)) = nt) (hn : nt.toNat = m) : WithinAt s p (p + 1 + m) (p + 1 + m) xs nt :=
  ⟨hp, signL_set hp h91, hr, hx, hm.symm, by rw [hm, hn], Nat.le_refl _, by rw [Nat.sub_self]; exact fun _ h => absurd h (by omega)⟩

/-- The frame of the reader: its words, the scratch forgotten. -/
def FrR (s : ByteArray) (g : Nat) (x4 x6 x7 : Value) (f : Act) : Prop :=
  ∃ (u8 u9 u10 u11 u12 u13 u14 u15 u16 u17 u18 u19 u20 u21 u22 u23 u24 u25 u26 u27 u28 u29 u30 u31 u32 u33 u34 u35 u36 u37 u38 u39 u40 u41 u42 u43 u44 u45 u46 u47 u48 u49 u50 u51 u52 u53 u54 u55 u56 u57 u58 u59 u60 u61 u62 u63 u64 u65 u66 u67 u68 u69 u70 u71 u72 u73 u74 u75 u76 u77 u78 u79 u80 u81 u82 u83 u84 u85 u86 u87 u88 u89 u90 u91 u92 u93 u94 u95 u96 u97 u98 u99 u100 u101 u102 u103 u104 u105 u106 u107 u108 u109 u110 u111 u112 u113 u114 u115 u116 u117 u118 u119 u120 u121 u122 u123 u124 u125 : Value), f = { tmps := #[.string s, undef, .slice none 0 0, .bool false, x4, .pointer (some ⟨g, 0, none⟩), x6, x7, u8, u9, u10, u11, u12, u13, u14, u15, u16, u17, u18, u19, u20, u21, u22, u23, u24, u25, u26, u27, u28, u29, u30, u31, u32, u33, u34, u35, u36, u37, u38, u39, u40, u41, u42, u43, u44, u45, u46, u47, u48, u49, u50, u51, u52, u53, u54, u55, u56, u57, u58, u59, u60, u61, u62, u63, u64, u65, u66, u67, u68, u69, u70, u71, u72, u73, u74, u75, u76, u77, u78, u79, u80, u81, u82, u83, u84, u85, u86, u87, u88, u89, u90, u91, u92, u93, u94, u95, u96, u97, u98, u99, u100, u101, u102, u103, u104, u105, u106, u107, u108, u109, u110, u111, u112, u113, u114, u115, u116, u117, u118, u119, u120, u121, u122, u123, u124, u125], defers := [] }
theorem FrR.elim {C : Act → Prop} {s : ByteArray} {g : Nat} {x4 x6 x7 : Value} {f : Act} (h : FrR s g x4 x6 x7 f)
    (k : ∀ (u8 u9 u10 u11 u12 u13 u14 u15 u16 u17 u18 u19 u20 u21 u22 u23 u24 u25 u26 u27 u28 u29 u30 u31 u32 u33 u34 u35 u36 u37 u38 u39 u40 u41 u42 u43 u44 u45 u46 u47 u48 u49 u50 u51 u52 u53 u54 u55 u56 u57 u58 u59 u60 u61 u62 u63 u64 u65 u66 u67 u68 u69 u70 u71 u72 u73 u74 u75 u76 u77 u78 u79 u80 u81 u82 u83 u84 u85 u86 u87 u88 u89 u90 u91 u92 u93 u94 u95 u96 u97 u98 u99 u100 u101 u102 u103 u104 u105 u106 u107 u108 u109 u110 u111 u112 u113 u114 u115 u116 u117 u118 u119 u120 u121 u122 u123 u124 u125 : Value), C { tmps := #[.string s, undef, .slice none 0 0, .bool false, x4, .pointer (some ⟨g, 0, none⟩), x6, x7, u8, u9, u10, u11, u12, u13, u14, u15, u16, u17, u18, u19, u20, u21, u22, u23, u24, u25, u26, u27, u28, u29, u30, u31, u32, u33, u34, u35, u36, u37, u38, u39, u40, u41, u42, u43, u44, u45, u46, u47, u48, u49, u50, u51, u52, u53, u54, u55, u56, u57, u58, u59, u60, u61, u62, u63, u64, u65, u66, u67, u68, u69, u70, u71, u72, u73, u74, u75, u76, u77, u78, u79, u80, u81, u82, u83, u84, u85, u86, u87, u88, u89, u90, u91, u92, u93, u94, u95, u96, u97, u98, u99, u100, u101, u102, u103, u104, u105, u106, u107, u108, u109, u110, u111, u112, u113, u114, u115, u116, u117, u118, u119, u120, u121, u122, u123, u124, u125], defers := [] }) : C f :=
  Exists.elim h fun u8 h => Exists.elim h fun u9 h => Exists.elim h fun u10 h => Exists.elim h fun u11 h => Exists.elim h fun u12 h => Exists.elim h fun u13 h => Exists.elim h fun u14 h => Exists.elim h fun u15 h => Exists.elim h fun u16 h => Exists.elim h fun u17 h => Exists.elim h fun u18 h => Exists.elim h fun u19 h => Exists.elim h fun u20 h => Exists.elim h fun u21 h => Exists.elim h fun u22 h => Exists.elim h fun u23 h => Exists.elim h fun u24 h => Exists.elim h fun u25 h => Exists.elim h fun u26 h => Exists.elim h fun u27 h => Exists.elim h fun u28 h => Exists.elim h fun u29 h => Exists.elim h fun u30 h => Exists.elim h fun u31 h => Exists.elim h fun u32 h => Exists.elim h fun u33 h => Exists.elim h fun u34 h => Exists.elim h fun u35 h => Exists.elim h fun u36 h => Exists.elim h fun u37 h => Exists.elim h fun u38 h => Exists.elim h fun u39 h => Exists.elim h fun u40 h => Exists.elim h fun u41 h => Exists.elim h fun u42 h => Exists.elim h fun u43 h => Exists.elim h fun u44 h => Exists.elim h fun u45 h => Exists.elim h fun u46 h => Exists.elim h fun u47 h => Exists.elim h fun u48 h => Exists.elim h fun u49 h => Exists.elim h fun u50 h => Exists.elim h fun u51 h => Exists.elim h fun u52 h => Exists.elim h fun u53 h => Exists.elim h fun u54 h => Exists.elim h fun u55 h => Exists.elim h fun u56 h => Exists.elim h fun u57 h => Exists.elim h fun u58 h => Exists.elim h fun u59 h => Exists.elim h fun u60 h => Exists.elim h fun u61 h => Exists.elim h fun u62 h => Exists.elim h fun u63 h => Exists.elim h fun u64 h => Exists.elim h fun u65 h => Exists.elim h fun u66 h => Exists.elim h fun u67 h => Exists.elim h fun u68 h => Exists.elim h fun u69 h => Exists.elim h fun u70 h => Exists.elim h fun u71 h => Exists.elim h fun u72 h => Exists.elim h fun u73 h => Exists.elim h fun u74 h => Exists.elim h fun u75 h => Exists.elim h fun u76 h => Exists.elim h fun u77 h => Exists.elim h fun u78 h => Exists.elim h fun u79 h => Exists.elim h fun u80 h => Exists.elim h fun u81 h => Exists.elim h fun u82 h => Exists.elim h fun u83 h => Exists.elim h fun u84 h => Exists.elim h fun u85 h => Exists.elim h fun u86 h => Exists.elim h fun u87 h => Exists.elim h fun u88 h => Exists.elim h fun u89 h => Exists.elim h fun u90 h => Exists.elim h fun u91 h => Exists.elim h fun u92 h => Exists.elim h fun u93 h => Exists.elim h fun u94 h => Exists.elim h fun u95 h => Exists.elim h fun u96 h => Exists.elim h fun u97 h => Exists.elim h fun u98 h => Exists.elim h fun u99 h => Exists.elim h fun u100 h => Exists.elim h fun u101 h => Exists.elim h fun u102 h => Exists.elim h fun u103 h => Exists.elim h fun u104 h => Exists.elim h fun u105 h => Exists.elim h fun u106 h => Exists.elim h fun u107 h => Exists.elim h fun u108 h => Exists.elim h fun u109 h => Exists.elim h fun u110 h => Exists.elim h fun u111 h => Exists.elim h fun u112 h => Exists.elim h fun u113 h => Exists.elim h fun u114 h => Exists.elim h fun u115 h => Exists.elim h fun u116 h => Exists.elim h fun u117 h => Exists.elim h fun u118 h => Exists.elim h fun u119 h => Exists.elim h fun u120 h => Exists.elim h fun u121 h => Exists.elim h fun u122 h => Exists.elim h fun u123 h => Exists.elim h fun u124 h => Exists.elim h fun u125 h => Eq.mpr (congrArg C h) (k u8 u9 u10 u11 u12 u13 u14 u15 u16 u17 u18 u19 u20 u21 u22 u23 u24 u25 u26 u27 u28 u29 u30 u31 u32 u33 u34 u35 u36 u37 u38 u39 u40 u41 u42 u43 u44 u45 u46 u47 u48 u49 u50 u51 u52 u53 u54 u55 u56 u57 u58 u59 u60 u61 u62 u63 u64 u65 u66 u67 u68 u69 u70 u71 u72 u73 u74 u75 u76 u77 u78 u79 u80 u81 u82 u83 u84 u85 u86 u87 u88 u89 u90 u91 u92 u93 u94 u95 u96 u97 u98 u99 u100 u101 u102 u103 u104 u105 u106 u107 u108 u109 u110 u111 u112 u113 u114 u115 u116 u117 u118 u119 u120 u121 u122 u123 u124 u125)
/-- What holds at the three labels (0: next, 1: opened, 2: within). -/
def JR (w : World) (s : ByteArray) (l n : Nat) (f : Act) (wr : World) : Prop :=
  ∃ (i fr : Nat) (xs : List Sgn) (nt : Bool) (x : ByteArray) (x4 x6 x7 : Value), FrR s w.heap.size x4 x6 x7 f ∧ x6 = .int .i64 (i : Int) ∧ x7 = .int .i64 (fr : Int) ∧ MemR w wr x4 xs nt x ∧ i ≤ s.size ∧ xs.length ≤ 12 ∧
    ((l = 0 ∧ n = 4 * (s.size - i) + 3 ∧ ReadTo s.data.toList i xs) ∨
     (l = 1 ∧ n = 4 * (s.size - i) + 2 ∧ ReadTo s.data.toList i xs ∧ xs.length < 12 ∧ ∃ h : i < s.size, (s[i]).toNat = 91) ∨
     (l = 2 ∧ n = 4 * (s.size - i) + 1 ∧ ∃ p, WithinAt s p fr i xs nt))

def SgnsPost (w : World) (s : ByteArray) (e : Ending) (w' : World) : Prop :=
  ∃ v, e = .returned (.tuple #[v, .bool (pieceB s)]) ∧ (pieceB s = true → w'.ownsRow w.heap.size 136 3 v (sgnsOf s).length (cellsS (sgnsOf s)) ∧ (sgnsOf s).length ≤ 12) ∧ Below w.heap.size w w'

theorem owns_lower3 {w : World} {base base' : Nat} {e : TypeId} {z : Nat} {v : Value} {n : Nat} {xs : List Value} (h : w.ownsRow base e z v n xs) (hb : base' ≤ base) : w.ownsRow base' e z v n xs := by
  obtain ⟨h1, h2⟩ := h
  refine ⟨h1, ?_⟩
  rcases h2 with h2 | ⟨g, cap, cur, a, b, c⟩
  · exact .inl h2
  · exact .inr ⟨g, cap, cur, a, Nat.le_trans hb b, c⟩
theorem sgns_done {w wr : World} {s : ByteArray} {i : Nat} {xs : List Sgn} {v : Value} {nt : Bool} {x : ByteArray} (hr : ReadTo s.data.toList i xs) (hi : i = s.size) (hm : MemR w wr v xs nt x) (h12 : xs.length ≤ 12) :
    pieceB s = decide (0 < xs.length) ∧ wr.ownsRow w.heap.size 136 3 v (sgnsOf s).length (cellsS (sgnsOf s)) ∧ (sgnsOf s).length ≤ 12 := by
  have h1 := readTo_end hr (by rw [len_list]; omega)
  refine ⟨?_, ?_⟩
  · rw [pieceB_some h1]
    by_cases h0 : 0 < xs.length
    · rw [decide_eq_true h0]; simp only [inB, Bool.and_eq_true, decide_eq_true_eq]; omega
    · rw [decide_eq_false h0]; simp only [inB, Bool.and_eq_false_iff, decide_eq_false_iff_not]; omega
  · have : sgnsOf s = xs := by unfold sgnsOf; rw [h1]; rfl
    rw [this]
    exact ⟨owns_lower3 hm.2.1 (by omega), h12⟩
theorem sgns_many {s : ByteArray} {i : Nat} {xs : List Sgn} (hr : ReadTo s.data.toList i xs) (hi : i < s.size) (h12 : xs.length = 12) : pieceB s = false := by
  cases h : signsOf s.data.toList with
  | none => exact pieceB_none h
  | some ys =>
    rw [pieceB_some h]
    have := readTo_more hr (by rw [len_list]; exact hi) h
    simp only [inB, Bool.and_eq_false_iff, decide_eq_false_iff_not]; omega

set_option maxHeartbeats 8000000 in
set_option maxRecDepth 100000 in
theorem implSigns_c (s : ByteArray) (w : World) (hs : s.size ≤ 1048576) :
    Calls Try.prog 112 #[.string s] w (SgnsPost w s) := by
  obtain ⟨i0, hi0, hz0, hz1, hz2⟩ := info_parts infoSgn
  go_enter Try.func112, Try.ntmps112
  go_wp2_with fail
  refine wp_scope_three 2 1 0 (JR w s) rfl rfl rfl ?hl ?pa ?pb ?pc ?first
  case hl =>
    rintro l n f wr ⟨_, _, _, _, _, _, _, _, _, _, _, _, _, _, h⟩
    rcases h with ⟨h, _⟩ | ⟨h, _⟩ | ⟨h, _⟩
    · exact .inr (.inr h)
    · exact .inr (.inl h)
    · exact .inl h
  case pa =>
    rintro n f wr ⟨i, fr, xs, nt, x, x4, x6, x7, hfr, rfl, rfl, hm, hi, hx, hcase⟩ H hH
    refine FrR.elim (C := fun f => Code.wp _ _ _ f wr) hfr ?_
    clear hfr
    intro u8 u9 u10 u11 u12 u13 u14 u15 u16 u17 u18 u19 u20 u21 u22 u23 u24 u25 u26 u27 u28 u29 u30 u31 u32 u33 u34 u35 u36 u37 u38 u39 u40 u41 u42 u43 u44 u45 u46 u47 u48 u49 u50 u51 u52 u53 u54 u55 u56 u57 u58 u59 u60 u61 u62 u63 u64 u65 u66 u67 u68 u69 u70 u71 u72 u73 u74 u75 u76 u77 u78 u79 u80 u81 u82 u83 u84 u85 u86 u87 u88 u89 u90 u91 u92 u93 u94 u95 u96 u97 u98 u99 u100 u101 u102 u103 u104 u105 u106 u107 u108 u109 u110 u111 u112 u113 u114 u115 u116 u117 u118 u119 u120 u121 u122 u123 u124 u125
    have HH : Hid (∀ l' n' a' w', n' < n → JR w s l' n' a' w' → H l' a' w') := hH
    obtain ⟨q4, c4, rfl⟩ := hm.slice
    clear hH
    rcases hcase with ⟨h, _⟩ | ⟨h, _⟩ | ⟨_, hnn, p, hw⟩
    · cases h
    · cases h
    have HN : Hid (n = 4 * (s.size - i) + 1) := hnn
    have HW : Hid (WithinAt s p fr i xs nt) := hw
    have hfi : fr ≤ i := hw.2.2.2.2.2.2.1
    have hx12 : xs.length < 12 := hw.2.2.2.1
    clear hnn hw
    by_cases hlt : i < s.size
    · have hki : (i : Int) < (s.size : Int) := by omega
      have hke : ((i : Int) == (s.size : Int)) = false := by rw [beq_eq_false_iff_ne]; omega
      cases h1 : smallB ((s[i]).toNat : Int) with
      | true =>
        have HG : Hid (WithinAt s p fr (i + 1) xs nt) := within_step HW.out hlt (by simp [setB, h1])
        go_wp2_with (go_at_call 121; refine (isSmall_c _ _).mono ?_; rintro e w' ⟨rfl, rfl⟩; rw [h1])
        go_step3
        show H 2 _ _
        exact HH.out 2 (4 * (s.size - (i + 1)) + 1) _ _ (by have := HN.out; omega) ⟨i + 1, fr, xs, nt, x, _, _, _, ⟨_, _, _, _, _, _, _, _, _, _, _, _, _, _, _, _, _, _, _, _, _, _, _, _, _, _, _, _, _, _, _, _, _, _, _, _, _, _, _, _, _, _, _, _, _, _, _, _, _, _, _, _, _, _, _, _, _, _, _, _, _, _, _, _, _, _, _, _, _, _, _, _, _, _, _, _, _, _, _, _, _, _, _, _, _, _, _, _, _, _, _, _, _, _, _, _, _, _, _, _, _, _, _, _, _, _, _, _, _, _, _, _, _, _, _, _, _, _, rfl⟩, by go_num, rfl, hm, by omega, hx, .inr (.inr ⟨rfl, rfl, p, HG.out⟩)⟩
      | false =>
        cases h2 : digitB ((s[i]).toNat : Int) with
        | true =>
          have HG : Hid (WithinAt s p fr (i + 1) xs nt) := within_step HW.out hlt (by simp [setB, h2])
          go_wp2_with (first | (go_at_call 121; refine (isSmall_c _ _).mono ?_; rintro e w' ⟨rfl, rfl⟩; rw [h1]) | (go_at_call 122; refine (isDigit_c _ _).mono ?_; rintro e w' ⟨rfl, rfl⟩; rw [h2]))
          go_step3
          show H 2 _ _
          exact HH.out 2 (4 * (s.size - (i + 1)) + 1) _ _ (by have := HN.out; omega) ⟨i + 1, fr, xs, nt, x, _, _, _, ⟨_, _, _, _, _, _, _, _, _, _, _, _, _, _, _, _, _, _, _, _, _, _, _, _, _, _, _, _, _, _, _, _, _, _, _, _, _, _, _, _, _, _, _, _, _, _, _, _, _, _, _, _, _, _, _, _, _, _, _, _, _, _, _, _, _, _, _, _, _, _, _, _, _, _, _, _, _, _, _, _, _, _, _, _, _, _, _, _, _, _, _, _, _, _, _, _, _, _, _, _, _, _, _, _, _, _, _, _, _, _, _, _, _, _, _, _, _, _, rfl⟩, by go_num, rfl, hm, by omega, hx, .inr (.inr ⟨rfl, rfl, p, HG.out⟩)⟩
        | false =>
          have HB : Hid (headIs 93 (s.data.toList.drop i) = false ∨ i = fr ∨ 5 < i - fr → pieceB s = false) := fun h => within_bad HW.out (fun _ => by simp [setB, h1, h2]) h
          by_cases h93 : (s[i]).toNat = 93
          · have h93' : (((s[i]).toNat : Int) != 93) = false := by simp; omega
            by_cases hf : i = fr
            · have hf' : ((i : Int) == (fr : Int)) = true := by rw [beq_iff_eq]; omega
              have HP : Hid (pieceB s = false) := HB.out (.inr (.inl hf))
              clear hf h93 HB
              go_wp2_with (first | (go_at_call 121; refine (isSmall_c _ _).mono ?_; rintro e w' ⟨rfl, rfl⟩; rw [h1]) | (go_at_call 122; refine (isDigit_c _ _).mono ?_; rintro e w' ⟨rfl, rfl⟩; rw [h2]))
              rw [jumpsTo_ret]
              go_ret2
              exact ⟨_, by rw [HP.out]; rfl, (fun h => by rw [HP.out] at h; cases h), hm.2.2⟩
            · have hf' : ((i : Int) == (fr : Int)) = false := by rw [beq_eq_false_iff_ne]; omega
              by_cases h5 : 5 < i - fr
              · have h5' : (5 : Int) < (i : Int) - (fr : Int) := by omega
                have HP : Hid (pieceB s = false) := HB.out (.inr (.inr h5))
                clear hf h93 h5 HB
                go_wp2_with (first | (go_at_call 121; refine (isSmall_c _ _).mono ?_; rintro e w' ⟨rfl, rfl⟩; rw [h1]) | (go_at_call 122; refine (isDigit_c _ _).mono ?_; rintro e w' ⟨rfl, rfl⟩; rw [h2]))
                rw [jumpsTo_ret]
                go_ret2
                exact ⟨_, by rw [HP.out]; rfl, (fun h => by rw [HP.out] at h; cases h), hm.2.2⟩
              · have h5' : ¬ (5 : Int) < (i : Int) - (fr : Int) := by omega
                have HG : Hid (ReadTo s.data.toList (i + 1) (xs ++ [⟨false, nt, (s.data.toList.drop fr).take (i - fr)⟩])) := within_good HW.out hlt h93 hf (by omega)
                obtain ⟨e0, e1, e2, ef⟩ := hm.cells
                have hm2 := hm.setSet (s.extract fr i)
                clear hf h93 h5 HB
                go_upto_region 27 with (first | (go_at_call 121; refine (isSmall_c _ _).mono ?_; rintro e w' ⟨rfl, rfl⟩; rw [h1]) | (go_at_call 122; refine (isDigit_c _ _).mono ?_; rintro e w' ⟨rfl, rfl⟩; rw [h2]))
                generalize (wr.setCell ⟨w.heap.size, 2, none⟩ (.string (s.extract fr i))) = W at hm2 ⊢
                clear e0 e1 e2 ef
                obtain ⟨e0, e1, e2, ef⟩ := hm2.cells
                go_wp2_with (at_builtin; refine wpList_append_own _ rfl _ _ 97 rfl (w.heap.size + 1) 136 i0 (.agg #[.bool false, .bool false, .string ⟨#[]⟩]) 3 24 Try.underlying97 hi0 hz0 hz1 hz2 rfl (by decide) _ xs.length (cellsS xs) rfl (hm2.2.1.alloc _) ⟨W.heap.size, 0, none⟩ 1 1 [.bool false, .bool nt, .string (s.extract fr i)] rfl rfl (cell_three_c _ _ _ _ _) (fun u hu => by simp at hu; rcases hu with rfl | rfl | rfl <;> rfl) (by unfold maxLen; omega) (by omega) (by have := hm2.lt; simp; omega) ?_)
                intro v3 w3 o3 gr3 _
                rw [show cellsS xs ++ _ = cellsS (xs ++ [(⟨false, nt, (s.data.toList.drop fr).take (i - fr)⟩ : Sgn)]) from by rw [cellsS_append]; rw [extract_run]; rfl, show xs.length + 1 = (xs ++ [(⟨false, nt, (s.data.toList.drop fr).take (i - fr)⟩ : Sgn)]).length from by simp] at o3
                have hm3 := hm2.grown gr3 o3
                clear gr3 o3
                go_wp2_with fail
                go_step3
                show H 0 _ _
                exact HH.out 0 (4 * (s.size - (i + 1)) + 3) _ _ (by have := HN.out; omega) ⟨i + 1, fr, _, nt, _, _, _, _, ⟨_, _, _, _, _, _, _, _, _, _, _, _, _, _, _, _, _, _, _, _, _, _, _, _, _, _, _, _, _, _, _, _, _, _, _, _, _, _, _, _, _, _, _, _, _, _, _, _, _, _, _, _, _, _, _, _, _, _, _, _, _, _, _, _, _, _, _, _, _, _, _, _, _, _, _, _, _, _, _, _, _, _, _, _, _, _, _, _, _, _, _, _, _, _, _, _, _, _, _, _, _, _, _, _, _, _, _, _, _, _, _, _, _, _, _, _, _, _, rfl⟩, by go_num, rfl, hm3, by omega, by simp; omega, .inl ⟨rfl, rfl, HG.out⟩⟩
          · have h93' : (((s[i]).toNat : Int) != 93) = true := by simp; omega
            have HP : Hid (pieceB s = false) := HB.out (.inl (by rw [headIs_at s 93 i hlt]; simpa using h93))
            clear h93 HB
            go_wp2_with (first | (go_at_call 121; refine (isSmall_c _ _).mono ?_; rintro e w' ⟨rfl, rfl⟩; rw [h1]) | (go_at_call 122; refine (isDigit_c _ _).mono ?_; rintro e w' ⟨rfl, rfl⟩; rw [h2]))
            rw [jumpsTo_ret]
            go_ret2
            exact ⟨_, by rw [HP.out]; rfl, (fun h => by rw [HP.out] at h; cases h), hm.2.2⟩
    · have hki : ¬ (i : Int) < (s.size : Int) := by omega
      have hke : ((i : Int) == (s.size : Int)) = true := by rw [beq_iff_eq]; omega
      have HP : Hid (pieceB s = false) := within_bad HW.out (fun h => absurd h hlt) (.inl (headIs_end s 93 i (by omega)))
      go_wp2_with fail
      rw [jumpsTo_ret]
      go_ret2
      exact ⟨_, by rw [HP.out]; rfl, (fun h => by rw [HP.out] at h; cases h), hm.2.2⟩
  case pb =>
    intro PA
    have PA' : Hid (Pass _ _ _ _ _) := PA
    clear PA
    rintro n f wr ⟨i, fr, xs, nt, x, x4, x6, x7, hfr, rfl, rfl, hm, hi, hx, hcase⟩ H hH
    refine FrR.elim (C := fun f => Code.wp _ _ _ f wr) hfr ?_
    clear hfr
    intro u8 u9 u10 u11 u12 u13 u14 u15 u16 u17 u18 u19 u20 u21 u22 u23 u24 u25 u26 u27 u28 u29 u30 u31 u32 u33 u34 u35 u36 u37 u38 u39 u40 u41 u42 u43 u44 u45 u46 u47 u48 u49 u50 u51 u52 u53 u54 u55 u56 u57 u58 u59 u60 u61 u62 u63 u64 u65 u66 u67 u68 u69 u70 u71 u72 u73 u74 u75 u76 u77 u78 u79 u80 u81 u82 u83 u84 u85 u86 u87 u88 u89 u90 u91 u92 u93 u94 u95 u96 u97 u98 u99 u100 u101 u102 u103 u104 u105 u106 u107 u108 u109 u110 u111 u112 u113 u114 u115 u116 u117 u118 u119 u120 u121 u122 u123 u124 u125
    have HH : Hid (∀ l' n' a' w', n' < n → JR w s l' n' a' w' → H l' a' w') := hH
    obtain ⟨q4, c4, rfl⟩ := hm.slice
    clear hH
    rcases hcase with ⟨h, _⟩ | ⟨_, hnn, hr, hx12, hlt, h91⟩ | ⟨h, _⟩
    · cases h
    rotate_left
    · cases h
    have HN : Hid (n = 4 * (s.size - i) + 2) := hnn
    have HR : Hid (∀ nt m, headIs 33 (s.data.toList.drop (i + 1)) = nt → nt.toNat = m → WithinAt s i (i + 1 + m) (i + 1 + m) xs nt) := fun nt m h1 h2 => within_start hlt h91 hr hx12 h1 h2
    obtain ⟨e0, e1, e2, ef⟩ := hm.cells
    clear hnn hr h91
    by_cases h0 : i + 1 < s.size
    · have h0i : (i : Int) + 1 < (s.size : Int) := by omega
      cases hb : ((s[i + 1]).toNat == 33) with
      | true =>
        have hbi : (((s[i + 1]).toNat : Int) == 33) = true := by simp at hb ⊢; omega
        have HD : Hid (headIs 33 (s.data.toList.drop (i + 1)) = true) := by show _ = _; rw [headIs_at s 33 _ h0, hb]
        clear hb
        have hm2 := hm.setNot true
        go_upto_region 19 with fail
        generalize (wr.setCell ⟨w.heap.size, 1, none⟩ (.bool true)) = W at hm2 ⊢
        clear e0 e1 e2 ef
        obtain ⟨e0, e1, e2, ef⟩ := hm2.cells
        go_wp2_with fail
        go_step3
        go_step
        go_step
        refine PA'.out (4 * (s.size - (i + 1 + 1)) + 1) _ _ ⟨i + 1 + 1, i + 1 + 1, xs, true, x, _, _, _, ⟨_, _, _, _, _, _, _, _, _, _, _, _, _, _, _, _, _, _, _, _, _, _, _, _, _, _, _, _, _, _, _, _, _, _, _, _, _, _, _, _, _, _, _, _, _, _, _, _, _, _, _, _, _, _, _, _, _, _, _, _, _, _, _, _, _, _, _, _, _, _, _, _, _, _, _, _, _, _, _, _, _, _, _, _, _, _, _, _, _, _, _, _, _, _, _, _, _, _, _, _, _, _, _, _, _, _, _, _, _, _, _, _, _, _, _, _, _, _, rfl⟩, by go_num, by go_num, hm2, by omega, hx, .inr (.inr ⟨rfl, rfl, i, HR.out _ _ HD.out rfl⟩)⟩ H (fun l' n' a' w' h1 h2 => HH.out l' n' a' w' (by have := HN.out; omega) h2)
      | false =>
        have hbi : (((s[i + 1]).toNat : Int) == 33) = false := by simp at hb ⊢; omega
        have HD : Hid (headIs 33 (s.data.toList.drop (i + 1)) = false) := by show _ = _; rw [headIs_at s 33 _ h0, hb]
        clear hb
        have hm2 := hm.setNot false
        go_upto_region 19 with fail
        generalize (wr.setCell ⟨w.heap.size, 1, none⟩ (.bool false)) = W at hm2 ⊢
        clear e0 e1 e2 ef
        obtain ⟨e0, e1, e2, ef⟩ := hm2.cells
        go_wp2_with fail
        go_step3
        go_step
        go_step
        refine PA'.out (4 * (s.size - (i + 1 + 0)) + 1) _ _ ⟨i + 1 + 0, i + 1 + 0, xs, false, x, _, _, _, ⟨_, _, _, _, _, _, _, _, _, _, _, _, _, _, _, _, _, _, _, _, _, _, _, _, _, _, _, _, _, _, _, _, _, _, _, _, _, _, _, _, _, _, _, _, _, _, _, _, _, _, _, _, _, _, _, _, _, _, _, _, _, _, _, _, _, _, _, _, _, _, _, _, _, _, _, _, _, _, _, _, _, _, _, _, _, _, _, _, _, _, _, _, _, _, _, _, _, _, _, _, _, _, _, _, _, _, _, _, _, _, _, _, _, _, _, _, _, _, rfl⟩, by go_num, by go_num, hm2, by omega, hx, .inr (.inr ⟨rfl, rfl, i, HR.out _ _ HD.out rfl⟩)⟩ H (fun l' n' a' w' h1 h2 => HH.out l' n' a' w' (by have := HN.out; omega) h2)
    · have h0i : ¬ (i : Int) + 1 < (s.size : Int) := by omega
      have HD : Hid (headIs 33 (s.data.toList.drop (i + 1)) = false) := by show _ = _; rw [headIs_end s 33 _ (by omega)]
      have hm2 := hm.setNot false
      go_upto_region 19 with fail
      generalize (wr.setCell ⟨w.heap.size, 1, none⟩ (.bool false)) = W at hm2 ⊢
      clear e0 e1 e2 ef
      obtain ⟨e0, e1, e2, ef⟩ := hm2.cells
      go_wp2_with fail
      go_step3
      go_step
      go_step
      refine PA'.out (4 * (s.size - (i + 1 + 0)) + 1) _ _ ⟨i + 1 + 0, i + 1 + 0, xs, false, x, _, _, _, ⟨_, _, _, _, _, _, _, _, _, _, _, _, _, _, _, _, _, _, _, _, _, _, _, _, _, _, _, _, _, _, _, _, _, _, _, _, _, _, _, _, _, _, _, _, _, _, _, _, _, _, _, _, _, _, _, _, _, _, _, _, _, _, _, _, _, _, _, _, _, _, _, _, _, _, _, _, _, _, _, _, _, _, _, _, _, _, _, _, _, _, _, _, _, _, _, _, _, _, _, _, _, _, _, _, _, _, _, _, _, _, _, _, _, _, _, _, _, _, rfl⟩, by go_num, by go_num, hm2, by omega, hx, .inr (.inr ⟨rfl, rfl, i, HR.out _ _ HD.out rfl⟩)⟩ H (fun l' n' a' w' h1 h2 => HH.out l' n' a' w' (by have := HN.out; omega) h2)
  case pc =>
    intro _ _
    rintro n f wr ⟨i, fr, xs, nt, x, x4, x6, x7, hfr, rfl, rfl, hm, hi, hx, hcase⟩ H hH
    refine FrR.elim (C := fun f => Code.wp _ _ _ f wr) hfr ?_
    clear hfr
    intro u8 u9 u10 u11 u12 u13 u14 u15 u16 u17 u18 u19 u20 u21 u22 u23 u24 u25 u26 u27 u28 u29 u30 u31 u32 u33 u34 u35 u36 u37 u38 u39 u40 u41 u42 u43 u44 u45 u46 u47 u48 u49 u50 u51 u52 u53 u54 u55 u56 u57 u58 u59 u60 u61 u62 u63 u64 u65 u66 u67 u68 u69 u70 u71 u72 u73 u74 u75 u76 u77 u78 u79 u80 u81 u82 u83 u84 u85 u86 u87 u88 u89 u90 u91 u92 u93 u94 u95 u96 u97 u98 u99 u100 u101 u102 u103 u104 u105 u106 u107 u108 u109 u110 u111 u112 u113 u114 u115 u116 u117 u118 u119 u120 u121 u122 u123 u124 u125
    have HH : Hid (∀ l' n' a' w', n' < n → JR w s l' n' a' w' → H l' a' w') := hH
    obtain ⟨q4, c4, rfl⟩ := hm.slice
    clear hH
    rcases hcase with ⟨_, hnn, hr⟩ | ⟨h, _⟩ | ⟨h, _⟩
    rotate_left
    · cases h
    · cases h
    have HN : Hid (n = 4 * (s.size - i) + 3) := hnn
    have HR : Hid (ReadTo s.data.toList i xs) := hr
    clear hnn hr
    by_cases hie : i = s.size
    · have hke : ((i : Int) == (s.size : Int)) = true := by rw [beq_iff_eq]; omega
      have HP : Hid (pieceB s = decide (0 < xs.length) ∧ wr.ownsRow w.heap.size 136 3 (.slice q4 xs.length c4) (sgnsOf s).length (cellsS (sgnsOf s)) ∧ (sgnsOf s).length ≤ 12) := sgns_done HR.out hie hm hx
      clear hie
      go_wp2_with fail
      rw [jumpsTo_ret]
      go_ret2
      exact ⟨_, by rw [HP.out.1]; simp, fun _ => HP.out.2, hm.2.2⟩
    have hlt : i < s.size := by omega
    have hki : (i : Int) < (s.size : Int) := by omega
    have hke : ((i : Int) == (s.size : Int)) = false := by rw [beq_eq_false_iff_ne]; omega
    clear hie
    by_cases h12 : xs.length = 12
    · have h12' : ((xs.length : Int) == 12) = true := by rw [beq_iff_eq]; omega
      have HP : Hid (pieceB s = false) := sgns_many HR.out hlt h12
      clear h12
      go_wp2_with fail
      rw [jumpsTo_ret]
      go_ret2
      exact ⟨_, by rw [HP.out]; rfl, (fun h => by rw [HP.out] at h; cases h), hm.2.2⟩
    have h12' : ((xs.length : Int) == 12) = false := by rw [beq_eq_false_iff_ne]; omega
    have hx12 : xs.length < 12 := by omega
    clear h12
    have HB : Hid (signL (s.data.toList.drop i) = none → pieceB s = false) := fun h => readTo_bad HR.out hlt h
    by_cases h91 : (s[i]).toNat = 91
    · have h91' : (((s[i]).toNat : Int) == 91) = true := by simp; omega
      have H91 : Hid (∃ h : i < s.size, (s[i]).toNat = 91) := ⟨hlt, h91⟩
      clear h91 HB
      go_wp2_with fail
      go_step3
      show H 1 _ _
      exact HH.out 1 (4 * (s.size - i) + 2) _ _ (by have := HN.out; omega) ⟨i, fr, xs, nt, x, _, _, _, ⟨_, _, _, _, _, _, _, _, _, _, _, _, _, _, _, _, _, _, _, _, _, _, _, _, _, _, _, _, _, _, _, _, _, _, _, _, _, _, _, _, _, _, _, _, _, _, _, _, _, _, _, _, _, _, _, _, _, _, _, _, _, _, _, _, _, _, _, _, _, _, _, _, _, _, _, _, _, _, _, _, _, _, _, _, _, _, _, _, _, _, _, _, _, _, _, _, _, _, _, _, _, _, _, _, _, _, _, _, _, _, _, _, _, _, _, _, _, _, rfl⟩, rfl, rfl, hm, hi, hx, .inr (.inl ⟨rfl, rfl, HR.out, hx12, H91.out⟩)⟩
    have h91' : (((s[i]).toNat : Int) == 91) = false := by simp; omega
    by_cases h42 : (s[i]).toNat = 42
    · have h42' : (((s[i]).toNat : Int) == 42) = true := by simp; omega
      have HG : Hid (ReadTo s.data.toList (i + 1) (xs ++ [⟨true, false, []⟩])) := readTo_step HR.out (signL_star hlt h42)
      clear HB
      go_wp2_with (at_builtin; refine wpList_append_own _ rfl _ _ 97 rfl (w.heap.size + 1) 136 i0 (.agg #[.bool false, .bool false, .string ⟨#[]⟩]) 3 24 Try.underlying97 hi0 hz0 hz1 hz2 rfl (by decide) _ xs.length (cellsS xs) rfl (hm.2.1.alloc _) ⟨wr.heap.size, 0, none⟩ 1 1 [.bool true, .bool false, .string ⟨#[]⟩] rfl rfl (cell_three_c _ _ _ _ _) (fun u hu => by simp at hu; rcases hu with rfl | rfl | rfl <;> rfl) (by unfold maxLen; omega) (by omega) (by have := hm.lt; simp; omega) ?_)
      intro v3 w3 o3 gr3 _
      rw [show cellsS xs ++ _ = cellsS (xs ++ [(⟨true, false, []⟩ : Sgn)]) from by rw [cellsS_append]; skip; rfl, show xs.length + 1 = (xs ++ [(⟨true, false, []⟩ : Sgn)]).length from by simp] at o3
      have hm3 := hm.grown gr3 o3
      clear gr3 o3
      go_wp2_with fail
      go_step3
      show H 0 _ _
      exact HH.out 0 (4 * (s.size - (i + 1)) + 3) _ _ (by have := HN.out; omega) ⟨i + 1, fr, _, nt, _, _, _, _, ⟨_, _, _, _, _, _, _, _, _, _, _, _, _, _, _, _, _, _, _, _, _, _, _, _, _, _, _, _, _, _, _, _, _, _, _, _, _, _, _, _, _, _, _, _, _, _, _, _, _, _, _, _, _, _, _, _, _, _, _, _, _, _, _, _, _, _, _, _, _, _, _, _, _, _, _, _, _, _, _, _, _, _, _, _, _, _, _, _, _, _, _, _, _, _, _, _, _, _, _, _, _, _, _, _, _, _, _, _, _, _, _, _, _, _, _, _, _, _, rfl⟩, by go_num, rfl, hm3, by omega, by simp; omega, .inl ⟨rfl, rfl, HG.out⟩⟩
    have h42' : (((s[i]).toNat : Int) == 42) = false := by simp; omega
    by_cases h63 : (s[i]).toNat = 63
    · have h63' : (((s[i]).toNat : Int) == 63) = true := by simp; omega
      have HG : Hid (ReadTo s.data.toList (i + 1) (xs ++ [⟨false, true, []⟩])) := readTo_step HR.out (signL_any hlt h63)
      clear HB
      go_wp2_with (at_builtin; refine wpList_append_own _ rfl _ _ 97 rfl (w.heap.size + 1) 136 i0 (.agg #[.bool false, .bool false, .string ⟨#[]⟩]) 3 24 Try.underlying97 hi0 hz0 hz1 hz2 rfl (by decide) _ xs.length (cellsS xs) rfl (hm.2.1.alloc _) ⟨wr.heap.size, 0, none⟩ 1 1 [.bool false, .bool true, .string ⟨#[]⟩] rfl rfl (cell_three_c _ _ _ _ _) (fun u hu => by simp at hu; rcases hu with rfl | rfl | rfl <;> rfl) (by unfold maxLen; omega) (by omega) (by have := hm.lt; simp; omega) ?_)
      intro v3 w3 o3 gr3 _
      rw [show cellsS xs ++ _ = cellsS (xs ++ [(⟨false, true, []⟩ : Sgn)]) from by rw [cellsS_append]; skip; rfl, show xs.length + 1 = (xs ++ [(⟨false, true, []⟩ : Sgn)]).length from by simp] at o3
      have hm3 := hm.grown gr3 o3
      clear gr3 o3
      go_wp2_with fail
      go_step3
      show H 0 _ _
      exact HH.out 0 (4 * (s.size - (i + 1)) + 3) _ _ (by have := HN.out; omega) ⟨i + 1, fr, _, nt, _, _, _, _, ⟨_, _, _, _, _, _, _, _, _, _, _, _, _, _, _, _, _, _, _, _, _, _, _, _, _, _, _, _, _, _, _, _, _, _, _, _, _, _, _, _, _, _, _, _, _, _, _, _, _, _, _, _, _, _, _, _, _, _, _, _, _, _, _, _, _, _, _, _, _, _, _, _, _, _, _, _, _, _, _, _, _, _, _, _, _, _, _, _, _, _, _, _, _, _, _, _, _, _, _, _, _, _, _, _, _, _, _, _, _, _, _, _, _, _, _, _, _, _, rfl⟩, by go_num, rfl, hm3, by omega, by simp; omega, .inl ⟨rfl, rfl, HG.out⟩⟩
    have h63' : (((s[i]).toNat : Int) == 63) = false := by simp; omega
    cases hp : pathC ((s[i]).toNat : Int) with
    | true =>
      have HG : Hid (ReadTo s.data.toList (i + 1) (xs ++ [⟨false, false, [s[i]]⟩])) := readTo_step HR.out (signL_path hlt hp)
      clear HB
      go_wp2_with (first | (go_at_call 106; refine (isPath_c _ _).mono ?_; rintro e w' ⟨rfl, rfl⟩; rw [hp]) | (at_builtin; refine wpList_append_own _ rfl _ _ 97 rfl (w.heap.size + 1) 136 i0 (.agg #[.bool false, .bool false, .string ⟨#[]⟩]) 3 24 Try.underlying97 hi0 hz0 hz1 hz2 rfl (by decide) _ xs.length (cellsS xs) rfl (hm.2.1.alloc _) ⟨wr.heap.size, 0, none⟩ 1 1 [.bool false, .bool false, .string (s.extract i (i + 1))] rfl rfl (cell_three_c _ _ _ _ _) (fun u hu => by simp at hu; rcases hu with rfl | rfl | rfl <;> rfl) (by unfold maxLen; omega) (by omega) (by have := hm.lt; simp; omega) ?_))
      intro v3 w3 o3 gr3 _
      rw [show cellsS xs ++ _ = cellsS (xs ++ [(⟨false, false, [s[i]]⟩ : Sgn)]) from by rw [cellsS_append]; rw [extract_one s i hlt]; rfl, show xs.length + 1 = (xs ++ [(⟨false, false, [s[i]]⟩ : Sgn)]).length from by simp] at o3
      have hm3 := hm.grown gr3 o3
      clear gr3 o3
      go_wp2_with fail
      go_step3
      show H 0 _ _
      exact HH.out 0 (4 * (s.size - (i + 1)) + 3) _ _ (by have := HN.out; omega) ⟨i + 1, fr, _, nt, _, _, _, _, ⟨_, _, _, _, _, _, _, _, _, _, _, _, _, _, _, _, _, _, _, _, _, _, _, _, _, _, _, _, _, _, _, _, _, _, _, _, _, _, _, _, _, _, _, _, _, _, _, _, _, _, _, _, _, _, _, _, _, _, _, _, _, _, _, _, _, _, _, _, _, _, _, _, _, _, _, _, _, _, _, _, _, _, _, _, _, _, _, _, _, _, _, _, _, _, _, _, _, _, _, _, _, _, _, _, _, _, _, _, _, _, _, _, _, _, _, _, _, _, rfl⟩, by go_num, rfl, hm3, by omega, by simp; omega, .inl ⟨rfl, rfl, HG.out⟩⟩
    | false =>
      have HP : Hid (pieceB s = false) := HB.out (signL_bad hlt h91 h42 h63 hp)
      clear h91 h42 h63 HB
      go_wp2_with (go_at_call 106; refine (isPath_c _ _).mono ?_; rintro e w' ⟨rfl, rfl⟩; rw [hp])
      rw [jumpsTo_ret]
      go_ret2
      exact ⟨_, by rw [HP.out]; rfl, (fun h => by rw [HP.out] at h; cases h), hm.2.2⟩
  case first =>
    intro pa pb pc H hH
    go_wp2_with fail
    go_step3
    go_step
    go_step
    exact pc _ _ _ ⟨0, 0, [], false, _, _, _, _, ⟨_, _, _, _, _, _, _, _, _, _, _, _, _, _, _, _, _, _, _, _, _, _, _, _, _, _, _, _, _, _, _, _, _, _, _, _, _, _, _, _, _, _, _, _, _, _, _, _, _, _, _, _, _, _, _, _, _, _, _, _, _, _, _, _, _, _, _, _, _, _, _, _, _, _, _, _, _, _, _, _, _, _, _, _, _, _, _, _, _, _, _, _, _, _, _, _, _, _, _, _, _, _, _, _, _, _, _, _, _, _, _, _, _, _, _, _, _, _, rfl⟩, rfl, rfl, MemR.start w, Nat.zero_le _, by simp, .inl ⟨rfl, rfl, readTo_start _⟩⟩ H (fun l' n' a' w' _ h => hH l' n' a' w' h)
end Go.Proofs.Ytbkmjbjiagkjmaa
