/-
  Contracts for the walks, several texts in one: each part says what it proves, and under which conditions.
-/
import Derived.Deep.Cut
import Derived.Deep.RegionHeld
import Derived.Handy
import Derived.Shelf.Small.Strs
import Derived.Shelf.Small.Wraps
import Derived.Shelf.LaysM
import Derived.Shelf.Strconv.Clone
import Derived.Shelf.Strings.Search1
import Derived.Shelf.Strings.Search2
import Derived.Shelf.Strings.Search3
import Derived.Shelf.Strings.Cut
import Derived.Shelf.Strings.Count
import Derived.Shelf.Strings.Shaped
import Derived.Shelf.Strings.Prefix
import Derived.Shelf.Strings.Split
import Derived.Shelf.Strings.SplitShaped
import Derived.Shelf.Unicode.DecodeSlow
import Derived.Shelf.Unicode.DecodeAny
import Derived.Test.YtdiopkegaeliaaaDoorProg
import Derived.Test.YtdiopkegaeliaaaDoorQ2

/-! What the program's function that reads the signs of a piece answers: as many as the specification counts, and each as it is read; a contract for the walks; condition: the text has at most 2 to the 20 bytes. -/
namespace Go.Proofs.YtdiopkegaeliaaaDoor
open Go.RowKit
set_option linter.unusedSimpArgs false
set_option linter.unusedVariables false

/-- Within brackets: they were opened at p, what they hold begins at fr, the run has come to i. -/
def WithinAt (s : ByteArray) (p fr i : Nat) (xs : List Sgn) (nt : Bool) : Prop :=
  p < s.size ∧ signL (s.data.toList.drop p) = setL (s.data.toList.drop (p + 1)) ∧ ReadTo s.data.toList p xs ∧ xs.length < 12 ∧ nt = headIs 33 (s.data.toList.drop (p + 1)) ∧ fr = p + 1 + (headIs 33 (s.data.toList.drop (p + 1))).toNat ∧ fr ≤ i ∧ RunTo s fr (i - fr)
theorem within_step {s : ByteArray} {p fr i : Nat} {xs : List Sgn} {nt : Bool} (h : WithinAt s p fr i xs nt) (hi : i < s.size) (hb : setB ((s[i]).toNat : Int) = true) : WithinAt s p fr (i + 1) xs nt := by
  obtain ⟨h1, h2, h3, h4, h5, h6, h7, h8⟩ := h
  refine ⟨h1, h2, h3, h4, h5, h6, by omega, ?_⟩
  rw [show i + 1 - fr = (i - fr) + 1 by omega]
  exact runTo_step h8 (by omega) (by simp only [show fr + (i - fr) = i by omega]; exact hb)
theorem within_set {s : ByteArray} {p fr i : Nat} {xs : List Sgn} {nt : Bool} (h : WithinAt s p fr i xs nt) (he : ∀ hi : i < s.size, setB ((s[i]).toNat : Int) = false) :
    signL (s.data.toList.drop p) = if headIs 93 (s.data.toList.drop i) && inB ((i - fr : Nat) : Int) 1 5 then some (⟨false, nt, (s.data.toList.drop fr).take (i - fr)⟩, i + 1 - p) else none := by
  obtain ⟨h1, h2, h3, h4, h5, h6, h7, h8⟩ := h
  have hr := runTo_end h8 (fun hk => by simp only [show fr + (i - fr) = i by omega]; exact he (by omega))
  rw [h2, setL_at _ p _ (i - fr) rfl (by rw [← h6]; exact hr), ← h6, ← h5, show fr + (i - fr) = i by omega, show 1 + nt.toNat + (i - fr) + 1 = i + 1 - p by rw [h5]; omega]
theorem within_good {s : ByteArray} {p fr i : Nat} {xs : List Sgn} {nt : Bool} (h : WithinAt s p fr i xs nt) (hi : i < s.size) (h93 : (s[i]).toNat = 93) (hne : ¬ i = fr) (h5 : i - fr ≤ 5) :
    ReadTo s.data.toList (i + 1) (xs ++ [⟨false, nt, (s.data.toList.drop fr).take (i - fr)⟩]) := by
  have he := within_set h (fun _ => by rw [h93]; decide)
  have hin : inB ((i - fr : Nat) : Int) 1 5 = true := by
    have := h.2.2.2.2.2.2.1
    simp only [inB, Bool.and_eq_true, decide_eq_true_eq]; omega
  rw [headIs_at s 93 i hi, h93, hin] at he
  have h2 := readTo_step h.2.2.1 he
  rw [show p + (i + 1 - p) = i + 1 by have := h.1; have := h.2.2.2.2.2.2.1; have := h.2.2.2.2.2.1; omega] at h2
  exact h2
theorem within_bad {s : ByteArray} {p fr i : Nat} {xs : List Sgn} {nt : Bool} (h : WithinAt s p fr i xs nt) (he : ∀ hi : i < s.size, setB ((s[i]).toNat : Int) = false) (hb : headIs 93 (s.data.toList.drop i) = false ∨ i = fr ∨ 5 < i - fr) : pieceB s = false := by
  have h2 := within_set h he
  have hc : (headIs 93 (s.data.toList.drop i) && inB ((i - fr : Nat) : Int) 1 5) = false := by
    rcases hb with hb | hb | hb
    · rw [hb]; rfl
    · have : inB ((i - fr : Nat) : Int) 1 5 = false := by simp only [inB, Bool.and_eq_false_iff, decide_eq_false_iff_not]; omega
      rw [this, Bool.and_false]
    · have : inB ((i - fr : Nat) : Int) 1 5 = false := by simp only [inB, Bool.and_eq_false_iff, decide_eq_false_iff_not]; omega
      rw [this, Bool.and_false]
  rw [hc] at h2
  exact readTo_bad h.2.2.1 h.1 h2
theorem within_start {s : ByteArray} {p : Nat} {xs : List Sgn} {m : Nat} {nt : Bool} (hp : p < s.size) (h91 : (s[p]).toNat = 91) (hr : ReadTo s.data.toList p xs) (hx : xs.length < 12) (hm : headIs 33 (s.data.toList.drop (p + 1)) = nt) (hn : nt.toNat = m) : WithinAt s p (p + 1 + m) (p + 1 + m) xs nt :=
  ⟨hp, signL_set hp h91, hr, hx, hm.symm, by rw [hm, hn], Nat.le_refl _, by rw [Nat.sub_self]; exact fun _ h => absurd h (by omega)⟩

/-- The frame of the reader: its words, the scratch forgotten. -/
def FrR (s : ByteArray) (g : Nat) (x4 x6 x7 : Value) (f : Act) : Prop :=
  ∃ (u8 u9 u10 u11 u12 u13 u14 u15 u16 u17 u18 u19 u20 u21 u22 u23 u24 u25 u26 u27 u28 u29 u30 u31 u32 u33 u34 u35 u36 u37 u38 u39 u40 u41 u42 u43 u44 u45 u46 u47 u48 u49 u50 u51 u52 u53 u54 u55 u56 u57 u58 u59 u60 u61 u62 u63 u64 u65 u66 u67 u68 u69 u70 u71 u72 u73 u74 u75 u76 u77 u78 u79 u80 u81 u82 u83 u84 u85 u86 u87 u88 u89 u90 u91 u92 u93 u94 u95 u96 u97 u98 u99 u100 u101 u102 u103 u104 u105 u106 u107 u108 u109 u110 u111 u112 u113 u114 u115 u116 u117 u118 u119 u120 u121 u122 u123 u124 u125 : Value), f = { tmps := #[.string s, undef, .slice none 0 0, .bool false, x4, .pointer (some ⟨g, 0, none⟩), x6, x7, u8, u9, u10, u11, u12, u13, u14, u15, u16, u17, u18, u19, u20, u21, u22, u23, u24, u25, u26, u27, u28, u29, u30, u31, u32, u33, u34, u35, u36, u37, u38, u39, u40, u41, u42, u43, u44, u45, u46, u47, u48, u49, u50, u51, u52, u53, u54, u55, u56, u57, u58, u59, u60, u61, u62, u63, u64, u65, u66, u67, u68, u69, u70, u71, u72, u73, u74, u75, u76, u77, u78, u79, u80, u81, u82, u83, u84, u85, u86, u87, u88, u89, u90, u91, u92, u93, u94, u95, u96, u97, u98, u99, u100, u101, u102, u103, u104, u105, u106, u107, u108, u109, u110, u111, u112, u113, u114, u115, u116, u117, u118, u119, u120, u121, u122, u123, u124, u125], defers := [] }
theorem FrR.elim {C : Act → Prop} {s : ByteArray} {g : Nat} {x4 x6 x7 : Value} {f : Act} (h : FrR s g x4 x6 x7 f)
    (k : ∀ (u8 u9 u10 u11 u12 u13 u14 u15 u16 u17 u18 u19 u20 u21 u22 u23 u24 u25 u26 u27 u28 u29 u30 u31 u32 u33 u34 u35 u36 u37 u38 u39 u40 u41 u42 u43 u44 u45 u46 u47 u48 u49 u50 u51 u52 u53 u54 u55 u56 u57 u58 u59 u60 u61 u62 u63 u64 u65 u66 u67 u68 u69 u70 u71 u72 u73 u74 u75 u76 u77 u78 u79 u80 u81 u82 u83 u84 u85 u86 u87 u88 u89 u90 u91 u92 u93 u94 u95 u96 u97 u98 u99 u100 u101 u102 u103 u104 u105 u106 u107 u108 u109 u110 u111 u112 u113 u114 u115 u116 u117 u118 u119 u120 u121 u122 u123 u124 u125 : Value), C { tmps := #[.string s, undef, .slice none 0 0, .bool false, x4, .pointer (some ⟨g, 0, none⟩), x6, x7, u8, u9, u10, u11, u12, u13, u14, u15, u16, u17, u18, u19, u20, u21, u22, u23, u24, u25, u26, u27, u28, u29, u30, u31, u32, u33, u34, u35, u36, u37, u38, u39, u40, u41, u42, u43, u44, u45, u46, u47, u48, u49, u50, u51, u52, u53, u54, u55, u56, u57, u58, u59, u60, u61, u62, u63, u64, u65, u66, u67, u68, u69, u70, u71, u72, u73, u74, u75, u76, u77, u78, u79, u80, u81, u82, u83, u84, u85, u86, u87, u88, u89, u90, u91, u92, u93, u94, u95, u96, u97, u98, u99, u100, u101, u102, u103, u104, u105, u106, u107, u108, u109, u110, u111, u112, u113, u114, u115, u116, u117, u118, u119, u120, u121, u122, u123, u124, u125], defers := [] }) : C f :=
  Exists.elim h fun u8 h => Exists.elim h fun u9 h => Exists.elim h fun u10 h => Exists.elim h fun u11 h => Exists.elim h fun u12 h => Exists.elim h fun u13 h => Exists.elim h fun u14 h => Exists.elim h fun u15 h => Exists.elim h fun u16 h => Exists.elim h fun u17 h => Exists.elim h fun u18 h => Exists.elim h fun u19 h => Exists.elim h fun u20 h => Exists.elim h fun u21 h => Exists.elim h fun u22 h => Exists.elim h fun u23 h => Exists.elim h fun u24 h => Exists.elim h fun u25 h => Exists.elim h fun u26 h => Exists.elim h fun u27 h => Exists.elim h fun u28 h => Exists.elim h fun u29 h => Exists.elim h fun u30 h => Exists.elim h fun u31 h => Exists.elim h fun u32 h => Exists.elim h fun u33 h => Exists.elim h fun u34 h => Exists.elim h fun u35 h => Exists.elim h fun u36 h => Exists.elim h fun u37 h => Exists.elim h fun u38 h => Exists.elim h fun u39 h => Exists.elim h fun u40 h => Exists.elim h fun u41 h => Exists.elim h fun u42 h => Exists.elim h fun u43 h => Exists.elim h fun u44 h => Exists.elim h fun u45 h => Exists.elim h fun u46 h => Exists.elim h fun u47 h => Exists.elim h fun u48 h => Exists.elim h fun u49 h => Exists.elim h fun u50 h => Exists.elim h fun u51 h => Exists.elim h fun u52 h => Exists.elim h fun u53 h => Exists.elim h fun u54 h => Exists.elim h fun u55 h => Exists.elim h fun u56 h => Exists.elim h fun u57 h => Exists.elim h fun u58 h => Exists.elim h fun u59 h => Exists.elim h fun u60 h => Exists.elim h fun u61 h => Exists.elim h fun u62 h => Exists.elim h fun u63 h => Exists.elim h fun u64 h => Exists.elim h fun u65 h => Exists.elim h fun u66 h => Exists.elim h fun u67 h => Exists.elim h fun u68 h => Exists.elim h fun u69 h => Exists.elim h fun u70 h => Exists.elim h fun u71 h => Exists.elim h fun u72 h => Exists.elim h fun u73 h => Exists.elim h fun u74 h => Exists.elim h fun u75 h => Exists.elim h fun u76 h => Exists.elim h fun u77 h => Exists.elim h fun u78 h => Exists.elim h fun u79 h => Exists.elim h fun u80 h => Exists.elim h fun u81 h => Exists.elim h fun u82 h => Exists.elim h fun u83 h => Exists.elim h fun u84 h => Exists.elim h fun u85 h => Exists.elim h fun u86 h => Exists.elim h fun u87 h => Exists.elim h fun u88 h => Exists.elim h fun u89 h => Exists.elim h fun u90 h => Exists.elim h fun u91 h => Exists.elim h fun u92 h => Exists.elim h fun u93 h => Exists.elim h fun u94 h => Exists.elim h fun u95 h => Exists.elim h fun u96 h => Exists.elim h fun u97 h => Exists.elim h fun u98 h => Exists.elim h fun u99 h => Exists.elim h fun u100 h => Exists.elim h fun u101 h => Exists.elim h fun u102 h => Exists.elim h fun u103 h => Exists.elim h fun u104 h => Exists.elim h fun u105 h => Exists.elim h fun u106 h => Exists.elim h fun u107 h => Exists.elim h fun u108 h => Exists.elim h fun u109 h => Exists.elim h fun u110 h => Exists.elim h fun u111 h => Exists.elim h fun u112 h => Exists.elim h fun u113 h => Exists.elim h fun u114 h => Exists.elim h fun u115 h => Exists.elim h fun u116 h => Exists.elim h fun u117 h => Exists.elim h fun u118 h => Exists.elim h fun u119 h => Exists.elim h fun u120 h => Exists.elim h fun u121 h => Exists.elim h fun u122 h => Exists.elim h fun u123 h => Exists.elim h fun u124 h => Exists.elim h fun u125 h => Eq.mpr (congrArg C h) (k u8 u9 u10 u11 u12 u13 u14 u15 u16 u17 u18 u19 u20 u21 u22 u23 u24 u25 u26 u27 u28 u29 u30 u31 u32 u33 u34 u35 u36 u37 u38 u39 u40 u41 u42 u43 u44 u45 u46 u47 u48 u49 u50 u51 u52 u53 u54 u55 u56 u57 u58 u59 u60 u61 u62 u63 u64 u65 u66 u67 u68 u69 u70 u71 u72 u73 u74 u75 u76 u77 u78 u79 u80 u81 u82 u83 u84 u85 u86 u87 u88 u89 u90 u91 u92 u93 u94 u95 u96 u97 u98 u99 u100 u101 u102 u103 u104 u105 u106 u107 u108 u109 u110 u111 u112 u113 u114 u115 u116 u117 u118 u119 u120 u121 u122 u123 u124 u125)
/-- What holds at the three labels (0: next, 1: opened, 2: within). -/
def JR (w : World) (s : ByteArray) (l n : Nat) (f : Act) (wr : World) : Prop :=
  ∃ (i fr : Nat) (xs : List Sgn) (nt : Bool) (x : ByteArray) (x4 x6 x7 : Value), FrR s w.heap.size x4 x6 x7 f ∧ x6 = .int .i64 (i : Int) ∧ x7 = .int .i64 (fr : Int) ∧ MemR w wr x4 xs nt x ∧ i ≤ s.size ∧ xs.length ≤ 12 ∧
    ((l = 0 ∧ n = 4 * (s.size - i) + 3 ∧ ReadTo s.data.toList i xs) ∨
     (l = 1 ∧ n = 4 * (s.size - i) + 2 ∧ ReadTo s.data.toList i xs ∧ xs.length < 12 ∧ ∃ h : i < s.size, (s[i]).toNat = 91) ∨
     (l = 2 ∧ n = 4 * (s.size - i) + 1 ∧ ∃ p, WithinAt s p fr i xs nt))

def SgnsPost (w : World) (s : ByteArray) (e : Ending) (w' : World) : Prop :=
  ∃ v, e = .returned (.tuple #[v, .bool (pieceB s)]) ∧ (pieceB s = true → w'.ownsRow w.heap.size 76 3 v (sgnsOf s).length (cellsS (sgnsOf s)) ∧ (sgnsOf s).length ≤ 12) ∧ Below w.heap.size w w'

theorem owns_lower3 {w : World} {base base' : Nat} {e : TypeId} {z : Nat} {v : Value} {n : Nat} {xs : List Value} (h : w.ownsRow base e z v n xs) (hb : base' ≤ base) : w.ownsRow base' e z v n xs := by
  obtain ⟨h1, h2⟩ := h
  refine ⟨h1, ?_⟩
  rcases h2 with h2 | ⟨g, cap, cur, a, b, c⟩
  · exact .inl h2
  · exact .inr ⟨g, cap, cur, a, Nat.le_trans hb b, c⟩
theorem sgns_done {w wr : World} {s : ByteArray} {i : Nat} {xs : List Sgn} {v : Value} {nt : Bool} {x : ByteArray} (hr : ReadTo s.data.toList i xs) (hi : i = s.size) (hm : MemR w wr v xs nt x) (h12 : xs.length ≤ 12) :
    pieceB s = decide (0 < xs.length) ∧ wr.ownsRow w.heap.size 76 3 v (sgnsOf s).length (cellsS (sgnsOf s)) ∧ (sgnsOf s).length ≤ 12 := by
  have h1 := readTo_end hr (by rw [len_list]; omega)
  refine ⟨?_, ?_⟩
  · rw [pieceB_some h1]
    by_cases h0 : 0 < xs.length
    · rw [decide_eq_true h0]; simp only [inB, Bool.and_eq_true, decide_eq_true_eq]; omega
    · rw [decide_eq_false h0]; simp only [inB, Bool.and_eq_false_iff, decide_eq_false_iff_not]; omega
  · have : sgnsOf s = xs := by unfold sgnsOf; rw [h1]; rfl
    rw [this]
    exact ⟨owns_lower3 hm.2.1 (by omega), h12⟩
theorem sgns_many {s : ByteArray} {i : Nat} {xs : List Sgn} (hr : ReadTo s.data.toList i xs) (hi : i < s.size) (h12 : xs.length = 12) : pieceB s = false := by
  cases h : signsOf s.data.toList with
  | none => exact pieceB_none h
  | some ys =>
    rw [pieceB_some h]
    have := readTo_more hr (by rw [len_list]; exact hi) h
    simp only [inB, Bool.and_eq_false_iff, decide_eq_false_iff_not]; omega

set_option maxHeartbeats 8000000 in
set_option maxRecDepth 100000 in
theorem implSigns_c (s : ByteArray) (w : World) (hs : s.size ≤ 1048576) :
    Calls Tryd.prog 51 #[.string s] w (SgnsPost w s) := by
  obtain ⟨i0, hi0, hz0, hz1, hz2⟩ := info_parts infoSgn
  go_enter Tryd.func51, Tryd.ntmps51
  go_wp2_with fail
  refine wp_scope_three 2 1 0 (JR w s) rfl rfl rfl ?hl ?pa ?pb ?pc ?first
  case hl =>
    rintro l n f wr ⟨_, _, _, _, _, _, _, _, _, _, _, _, _, _, h⟩
    rcases h with ⟨h, _⟩ | ⟨h, _⟩ | ⟨h, _⟩
    · exact .inr (.inr h)
    · exact .inr (.inl h)
    · exact .inl h
  case pa =>
    rintro n f wr ⟨i, fr, xs, nt, x, x4, x6, x7, hfr, rfl, rfl, hm, hi, hx, hcase⟩ H hH
    refine FrR.elim (C := fun f => Code.wp _ _ _ f wr) hfr ?_
    clear hfr
    intro u8 u9 u10 u11 u12 u13 u14 u15 u16 u17 u18 u19 u20 u21 u22 u23 u24 u25 u26 u27 u28 u29 u30 u31 u32 u33 u34 u35 u36 u37 u38 u39 u40 u41 u42 u43 u44 u45 u46 u47 u48 u49 u50 u51 u52 u53 u54 u55 u56 u57 u58 u59 u60 u61 u62 u63 u64 u65 u66 u67 u68 u69 u70 u71 u72 u73 u74 u75 u76 u77 u78 u79 u80 u81 u82 u83 u84 u85 u86 u87 u88 u89 u90 u91 u92 u93 u94 u95 u96 u97 u98 u99 u100 u101 u102 u103 u104 u105 u106 u107 u108 u109 u110 u111 u112 u113 u114 u115 u116 u117 u118 u119 u120 u121 u122 u123 u124 u125
    have HH : Hid (∀ l' n' a' w', n' < n → JR w s l' n' a' w' → H l' a' w') := hH
    obtain ⟨q4, c4, rfl⟩ := hm.slice
    clear hH
    rcases hcase with ⟨h, _⟩ | ⟨h, _⟩ | ⟨_, hnn, p, hw⟩
    · cases h
    · cases h
    have HN : Hid (n = 4 * (s.size - i) + 1) := hnn
    have HW : Hid (WithinAt s p fr i xs nt) := hw
    have hfi : fr ≤ i := hw.2.2.2.2.2.2.1
    have hx12 : xs.length < 12 := hw.2.2.2.1
    clear hnn hw
    by_cases hlt : i < s.size
    · have hki : (i : Int) < (s.size : Int) := by omega
      have hke : ((i : Int) == (s.size : Int)) = false := by rw [beq_eq_false_iff_ne]; omega
      cases h1 : smallB ((s[i]).toNat : Int) with
      | true =>
        have HG : Hid (WithinAt s p fr (i + 1) xs nt) := within_step HW.out hlt (by simp [setB, h1])
        go_wp2_with (go_at_call 64; refine (isSmall_c _ _).mono ?_; rintro e w' ⟨rfl, rfl⟩; rw [h1])
        go_step3
        show H 2 _ _
        exact HH.out 2 (4 * (s.size - (i + 1)) + 1) _ _ (by have := HN.out; omega) ⟨i + 1, fr, xs, nt, x, _, _, _, ⟨_, _, _, _, _, _, _, _, _, _, _, _, _, _, _, _, _, _, _, _, _, _, _, _, _, _, _, _, _, _, _, _, _, _, _, _, _, _, _, _, _, _, _, _, _, _, _, _, _, _, _, _, _, _, _, _, _, _, _, _, _, _, _, _, _, _, _, _, _, _, _, _, _, _, _, _, _, _, _, _, _, _, _, _, _, _, _, _, _, _, _, _, _, _, _, _, _, _, _, _, _, _, _, _, _, _, _, _, _, _, _, _, _, _, _, _, _, _, rfl⟩, by go_num, rfl, hm, by omega, hx, .inr (.inr ⟨rfl, rfl, p, HG.out⟩)⟩
      | false =>
        cases h2 : digitB ((s[i]).toNat : Int) with
        | true =>
          have HG : Hid (WithinAt s p fr (i + 1) xs nt) := within_step HW.out hlt (by simp [setB, h2])
          go_wp2_with (first | (go_at_call 64; refine (isSmall_c _ _).mono ?_; rintro e w' ⟨rfl, rfl⟩; rw [h1]) | (go_at_call 65; refine (isDigit_c _ _).mono ?_; rintro e w' ⟨rfl, rfl⟩; rw [h2]))
          go_step3
          show H 2 _ _
          exact HH.out 2 (4 * (s.size - (i + 1)) + 1) _ _ (by have := HN.out; omega) ⟨i + 1, fr, xs, nt, x, _, _, _, ⟨_, _, _, _, _, _, _, _, _, _, _, _, _, _, _, _, _, _, _, _, _, _, _, _, _, _, _, _, _, _, _, _, _, _, _, _, _, _, _, _, _, _, _, _, _, _, _, _, _, _, _, _, _, _, _, _, _, _, _, _, _, _, _, _, _, _, _, _, _, _, _, _, _, _, _, _, _, _, _, _, _, _, _, _, _, _, _, _, _, _, _, _, _, _, _, _, _, _, _, _, _, _, _, _, _, _, _, _, _, _, _, _, _, _, _, _, _, _, rfl⟩, by go_num, rfl, hm, by omega, hx, .inr (.inr ⟨rfl, rfl, p, HG.out⟩)⟩
        | false =>
          have HB : Hid (headIs 93 (s.data.toList.drop i) = false ∨ i = fr ∨ 5 < i - fr → pieceB s = false) := fun h => within_bad HW.out (fun _ => by simp [setB, h1, h2]) h
          by_cases h93 : (s[i]).toNat = 93
          · have h93' : (((s[i]).toNat : Int) != 93) = false := by simp; omega
            by_cases hf : i = fr
            · have hf' : ((i : Int) == (fr : Int)) = true := by rw [beq_iff_eq]; omega
              have HP : Hid (pieceB s = false) := HB.out (.inr (.inl hf))
              clear hf h93 HB
              go_wp2_with (first | (go_at_call 64; refine (isSmall_c _ _).mono ?_; rintro e w' ⟨rfl, rfl⟩; rw [h1]) | (go_at_call 65; refine (isDigit_c _ _).mono ?_; rintro e w' ⟨rfl, rfl⟩; rw [h2]))
              rw [jumpsTo_ret]
              go_ret2
              exact ⟨_, by rw [HP.out]; rfl, (fun h => by rw [HP.out] at h; cases h), hm.2.2⟩
            · have hf' : ((i : Int) == (fr : Int)) = false := by rw [beq_eq_false_iff_ne]; omega
              by_cases h5 : 5 < i - fr
              · have h5' : (5 : Int) < (i : Int) - (fr : Int) := by omega
                have HP : Hid (pieceB s = false) := HB.out (.inr (.inr h5))
                clear hf h93 h5 HB
                go_wp2_with (first | (go_at_call 64; refine (isSmall_c _ _).mono ?_; rintro e w' ⟨rfl, rfl⟩; rw [h1]) | (go_at_call 65; refine (isDigit_c _ _).mono ?_; rintro e w' ⟨rfl, rfl⟩; rw [h2]))
                rw [jumpsTo_ret]
                go_ret2
                exact ⟨_, by rw [HP.out]; rfl, (fun h => by rw [HP.out] at h; cases h), hm.2.2⟩
              · have h5' : ¬ (5 : Int) < (i : Int) - (fr : Int) := by omega
                have HG : Hid (ReadTo s.data.toList (i + 1) (xs ++ [⟨false, nt, (s.data.toList.drop fr).take (i - fr)⟩])) := within_good HW.out hlt h93 hf (by omega)
                obtain ⟨e0, e1, e2, ef⟩ := hm.cells
                have hm2 := hm.setSet (s.extract fr i)
                clear hf h93 h5 HB
                go_upto_region 27 with (first | (go_at_call 64; refine (isSmall_c _ _).mono ?_; rintro e w' ⟨rfl, rfl⟩; rw [h1]) | (go_at_call 65; refine (isDigit_c _ _).mono ?_; rintro e w' ⟨rfl, rfl⟩; rw [h2]))
                generalize (wr.setCell ⟨w.heap.size, 2, none⟩ (.string (s.extract fr i))) = W at hm2 ⊢
                clear e0 e1 e2 ef
                obtain ⟨e0, e1, e2, ef⟩ := hm2.cells
                go_wp2_with (at_builtin; refine wpList_append_own _ rfl _ _ 66 rfl (w.heap.size + 1) 76 i0 (.agg #[.bool false, .bool false, .string ⟨#[]⟩]) 3 24 Tryd.underlying66 hi0 hz0 hz1 hz2 rfl (by decide) _ xs.length (cellsS xs) rfl (hm2.2.1.alloc _) ⟨W.heap.size, 0, none⟩ 1 1 [.bool false, .bool nt, .string (s.extract fr i)] rfl rfl (cell_three_c _ _ _ _ _) (fun u hu => by simp at hu; rcases hu with rfl | rfl | rfl <;> rfl) (by unfold maxLen; omega) (by omega) (by have := hm2.lt; simp; omega) ?_)
                intro v3 w3 o3 gr3 _
                rw [show cellsS xs ++ _ = cellsS (xs ++ [(⟨false, nt, (s.data.toList.drop fr).take (i - fr)⟩ : Sgn)]) from by rw [cellsS_append]; rw [extract_run]; rfl, show xs.length + 1 = (xs ++ [(⟨false, nt, (s.data.toList.drop fr).take (i - fr)⟩ : Sgn)]).length from by simp] at o3
                have hm3 := hm2.grown gr3 o3
                clear gr3 o3
                go_wp2_with fail
                go_step3
                show H 0 _ _
                exact HH.out 0 (4 * (s.size - (i + 1)) + 3) _ _ (by have := HN.out; omega) ⟨i + 1, fr, _, nt, _, _, _, _, ⟨_, _, _, _, _, _, _, _, _, _, _, _, _, _, _, _, _, _, _, _, _, _, _, _, _, _, _, _, _, _, _, _, _, _, _, _, _, _, _, _, _, _, _, _, _, _, _, _, _, _, _, _, _, _, _, _, _, _, _, _, _, _, _, _, _, _, _, _, _, _, _, _, _, _, _, _, _, _, _, _, _, _, _, _, _, _, _, _, _, _, _, _, _, _, _, _, _, _, _, _, _, _, _, _, _, _, _, _, _, _, _, _, _, _, _, _, _, _, rfl⟩, by go_num, rfl, hm3, by omega, by simp; omega, .inl ⟨rfl, rfl, HG.out⟩⟩
          · have h93' : (((s[i]).toNat : Int) != 93) = true := by simp; omega
            have HP : Hid (pieceB s = false) := HB.out (.inl (by rw [headIs_at s 93 i hlt]; simpa using h93))
            clear h93 HB
            go_wp2_with (first | (go_at_call 64; refine (isSmall_c _ _).mono ?_; rintro e w' ⟨rfl, rfl⟩; rw [h1]) | (go_at_call 65; refine (isDigit_c _ _).mono ?_; rintro e w' ⟨rfl, rfl⟩; rw [h2]))
            rw [jumpsTo_ret]
            go_ret2
            exact ⟨_, by rw [HP.out]; rfl, (fun h => by rw [HP.out] at h; cases h), hm.2.2⟩
    · have hki : ¬ (i : Int) < (s.size : Int) := by omega
      have hke : ((i : Int) == (s.size : Int)) = true := by rw [beq_iff_eq]; omega
      have HP : Hid (pieceB s = false) := within_bad HW.out (fun h => absurd h hlt) (.inl (headIs_end s 93 i (by omega)))
      go_wp2_with fail
      rw [jumpsTo_ret]
      go_ret2
      exact ⟨_, by rw [HP.out]; rfl, (fun h => by rw [HP.out] at h; cases h), hm.2.2⟩
  case pb =>
    intro PA
    have PA' : Hid (Pass _ _ _ _ _) := PA
    clear PA
    rintro n f wr ⟨i, fr, xs, nt, x, x4, x6, x7, hfr, rfl, rfl, hm, hi, hx, hcase⟩ H hH
    refine FrR.elim (C := fun f => Code.wp _ _ _ f wr) hfr ?_
    clear hfr
    intro u8 u9 u10 u11 u12 u13 u14 u15 u16 u17 u18 u19 u20 u21 u22 u23 u24 u25 u26 u27 u28 u29 u30 u31 u32 u33 u34 u35 u36 u37 u38 u39 u40 u41 u42 u43 u44 u45 u46 u47 u48 u49 u50 u51 u52 u53 u54 u55 u56 u57 u58 u59 u60 u61 u62 u63 u64 u65 u66 u67 u68 u69 u70 u71 u72 u73 u74 u75 u76 u77 u78 u79 u80 u81 u82 u83 u84 u85 u86 u87 u88 u89 u90 u91 u92 u93 u94 u95 u96 u97 u98 u99 u100 u101 u102 u103 u104 u105 u106 u107 u108 u109 u110 u111 u112 u113 u114 u115 u116 u117 u118 u119 u120 u121 u122 u123 u124 u125
    have HH : Hid (∀ l' n' a' w', n' < n → JR w s l' n' a' w' → H l' a' w') := hH
    obtain ⟨q4, c4, rfl⟩ := hm.slice
    clear hH
    rcases hcase with ⟨h, _⟩ | ⟨_, hnn, hr, hx12, hlt, h91⟩ | ⟨h, _⟩
    · cases h
    rotate_left
    · cases h
    have HN : Hid (n = 4 * (s.size - i) + 2) := hnn
    have HR : Hid (∀ nt m, headIs 33 (s.data.toList.drop (i + 1)) = nt → nt.toNat = m → WithinAt s i (i + 1 + m) (i + 1 + m) xs nt) := fun nt m h1 h2 => within_start hlt h91 hr hx12 h1 h2
    obtain ⟨e0, e1, e2, ef⟩ := hm.cells
    clear hnn hr h91
    by_cases h0 : i + 1 < s.size
    · have h0i : (i : Int) + 1 < (s.size : Int) := by omega
      cases hb : ((s[i + 1]).toNat == 33) with
      | true =>
        have hbi : (((s[i + 1]).toNat : Int) == 33) = true := by simp at hb ⊢; omega
        have HD : Hid (headIs 33 (s.data.toList.drop (i + 1)) = true) := by show _ = _; rw [headIs_at s 33 _ h0, hb]
        clear hb
        have hm2 := hm.setNot true
        go_upto_region 19 with fail
        generalize (wr.setCell ⟨w.heap.size, 1, none⟩ (.bool true)) = W at hm2 ⊢
        clear e0 e1 e2 ef
        obtain ⟨e0, e1, e2, ef⟩ := hm2.cells
        go_wp2_with fail
        go_step3
        go_step
        go_step
        refine PA'.out (4 * (s.size - (i + 1 + 1)) + 1) _ _ ⟨i + 1 + 1, i + 1 + 1, xs, true, x, _, _, _, ⟨_, _, _, _, _, _, _, _, _, _, _, _, _, _, _, _, _, _, _, _, _, _, _, _, _, _, _, _, _, _, _, _, _, _, _, _, _, _, _, _, _, _, _, _, _, _, _, _, _, _, _, _, _, _, _, _, _, _, _, _, _, _, _, _, _, _, _, _, _, _, _, _, _, _, _, _, _, _, _, _, _, _, _, _, _, _, _, _, _, _, _, _, _, _, _, _, _, _, _, _, _, _, _, _, _, _, _, _, _, _, _, _, _, _, _, _, _, _, rfl⟩, by go_num, by go_num, hm2, by omega, hx, .inr (.inr ⟨rfl, rfl, i, HR.out _ _ HD.out rfl⟩)⟩ H (fun l' n' a' w' h1 h2 => HH.out l' n' a' w' (by have := HN.out; omega) h2)
      | false =>
        have hbi : (((s[i + 1]).toNat : Int) == 33) = false := by simp at hb ⊢; omega
        have HD : Hid (headIs 33 (s.data.toList.drop (i + 1)) = false) := by show _ = _; rw [headIs_at s 33 _ h0, hb]
        clear hb
        have hm2 := hm.setNot false
        go_upto_region 19 with fail
        generalize (wr.setCell ⟨w.heap.size, 1, none⟩ (.bool false)) = W at hm2 ⊢
        clear e0 e1 e2 ef
        obtain ⟨e0, e1, e2, ef⟩ := hm2.cells
        go_wp2_with fail
        go_step3
        go_step
        go_step
        refine PA'.out (4 * (s.size - (i + 1 + 0)) + 1) _ _ ⟨i + 1 + 0, i + 1 + 0, xs, false, x, _, _, _, ⟨_, _, _, _, _, _, _, _, _, _, _, _, _, _, _, _, _, _, _, _, _, _, _, _, _, _, _, _, _, _, _, _, _, _, _, _, _, _, _, _, _, _, _, _, _, _, _, _, _, _, _, _, _, _, _, _, _, _, _, _, _, _, _, _, _, _, _, _, _, _, _, _, _, _, _, _, _, _, _, _, _, _, _, _, _, _, _, _, _, _, _, _, _, _, _, _, _, _, _, _, _, _, _, _, _, _, _, _, _, _, _, _, _, _, _, _, _, _, rfl⟩, by go_num, by go_num, hm2, by omega, hx, .inr (.inr ⟨rfl, rfl, i, HR.out _ _ HD.out rfl⟩)⟩ H (fun l' n' a' w' h1 h2 => HH.out l' n' a' w' (by have := HN.out; omega) h2)
    · have h0i : ¬ (i : Int) + 1 < (s.size : Int) := by omega
      have HD : Hid (headIs 33 (s.data.toList.drop (i + 1)) = false) := by show _ = _; rw [headIs_end s 33 _ (by omega)]
      have hm2 := hm.setNot false
      go_upto_region 19 with fail
      generalize (wr.setCell ⟨w.heap.size, 1, none⟩ (.bool false)) = W at hm2 ⊢
      clear e0 e1 e2 ef
      obtain ⟨e0, e1, e2, ef⟩ := hm2.cells
      go_wp2_with fail
      go_step3
      go_step
      go_step
      refine PA'.out (4 * (s.size - (i + 1 + 0)) + 1) _ _ ⟨i + 1 + 0, i + 1 + 0, xs, false, x, _, _, _, ⟨_, _, _, _, _, _, _, _, _, _, _, _, _, _, _, _, _, _, _, _, _, _, _, _, _, _, _, _, _, _, _, _, _, _, _, _, _, _, _, _, _, _, _, _, _, _, _, _, _, _, _, _, _, _, _, _, _, _, _, _, _, _, _, _, _, _, _, _, _, _, _, _, _, _, _, _, _, _, _, _, _, _, _, _, _, _, _, _, _, _, _, _, _, _, _, _, _, _, _, _, _, _, _, _, _, _, _, _, _, _, _, _, _, _, _, _, _, _, rfl⟩, by go_num, by go_num, hm2, by omega, hx, .inr (.inr ⟨rfl, rfl, i, HR.out _ _ HD.out rfl⟩)⟩ H (fun l' n' a' w' h1 h2 => HH.out l' n' a' w' (by have := HN.out; omega) h2)
  case pc =>
    intro _ _
    rintro n f wr ⟨i, fr, xs, nt, x, x4, x6, x7, hfr, rfl, rfl, hm, hi, hx, hcase⟩ H hH
    refine FrR.elim (C := fun f => Code.wp _ _ _ f wr) hfr ?_
    clear hfr
    intro u8 u9 u10 u11 u12 u13 u14 u15 u16 u17 u18 u19 u20 u21 u22 u23 u24 u25 u26 u27 u28 u29 u30 u31 u32 u33 u34 u35 u36 u37 u38 u39 u40 u41 u42 u43 u44 u45 u46 u47 u48 u49 u50 u51 u52 u53 u54 u55 u56 u57 u58 u59 u60 u61 u62 u63 u64 u65 u66 u67 u68 u69 u70 u71 u72 u73 u74 u75 u76 u77 u78 u79 u80 u81 u82 u83 u84 u85 u86 u87 u88 u89 u90 u91 u92 u93 u94 u95 u96 u97 u98 u99 u100 u101 u102 u103 u104 u105 u106 u107 u108 u109 u110 u111 u112 u113 u114 u115 u116 u117 u118 u119 u120 u121 u122 u123 u124 u125
    have HH : Hid (∀ l' n' a' w', n' < n → JR w s l' n' a' w' → H l' a' w') := hH
    obtain ⟨q4, c4, rfl⟩ := hm.slice
    clear hH
    rcases hcase with ⟨_, hnn, hr⟩ | ⟨h, _⟩ | ⟨h, _⟩
    rotate_left
    · cases h
    · cases h
    have HN : Hid (n = 4 * (s.size - i) + 3) := hnn
    have HR : Hid (ReadTo s.data.toList i xs) := hr
    clear hnn hr
    by_cases hie : i = s.size
    · have hke : ((i : Int) == (s.size : Int)) = true := by rw [beq_iff_eq]; omega
      have HP : Hid (pieceB s = decide (0 < xs.length) ∧ wr.ownsRow w.heap.size 76 3 (.slice q4 xs.length c4) (sgnsOf s).length (cellsS (sgnsOf s)) ∧ (sgnsOf s).length ≤ 12) := sgns_done HR.out hie hm hx
      clear hie
      go_wp2_with fail
      rw [jumpsTo_ret]
      go_ret2
      exact ⟨_, by rw [HP.out.1]; simp, fun _ => HP.out.2, hm.2.2⟩
    have hlt : i < s.size := by omega
    have hki : (i : Int) < (s.size : Int) := by omega
    have hke : ((i : Int) == (s.size : Int)) = false := by rw [beq_eq_false_iff_ne]; omega
    clear hie
    by_cases h12 : xs.length = 12
    · have h12' : ((xs.length : Int) == 12) = true := by rw [beq_iff_eq]; omega
      have HP : Hid (pieceB s = false) := sgns_many HR.out hlt h12
      clear h12
      go_wp2_with fail
      rw [jumpsTo_ret]
      go_ret2
      exact ⟨_, by rw [HP.out]; rfl, (fun h => by rw [HP.out] at h; cases h), hm.2.2⟩
    have h12' : ((xs.length : Int) == 12) = false := by rw [beq_eq_false_iff_ne]; omega
    have hx12 : xs.length < 12 := by omega
    clear h12
    have HB : Hid (signL (s.data.toList.drop i) = none → pieceB s = false) := fun h => readTo_bad HR.out hlt h
    by_cases h91 : (s[i]).toNat = 91
    · have h91' : (((s[i]).toNat : Int) == 91) = true := by simp; omega
      have H91 : Hid (∃ h : i < s.size, (s[i]).toNat = 91) := ⟨hlt, h91⟩
      clear h91 HB
      go_wp2_with fail
      go_step3
      show H 1 _ _
      exact HH.out 1 (4 * (s.size - i) + 2) _ _ (by have := HN.out; omega) ⟨i, fr, xs, nt, x, _, _, _, ⟨_, _, _, _, _, _, _, _, _, _, _, _, _, _, _, _, _, _, _, _, _, _, _, _, _, _, _, _, _, _, _, _, _, _, _, _, _, _, _, _, _, _, _, _, _, _, _, _, _, _, _, _, _, _, _, _, _, _, _, _, _, _, _, _, _, _, _, _, _, _, _, _, _, _, _, _, _, _, _, _, _, _, _, _, _, _, _, _, _, _, _, _, _, _, _, _, _, _, _, _, _, _, _, _, _, _, _, _, _, _, _, _, _, _, _, _, _, _, rfl⟩, rfl, rfl, hm, hi, hx, .inr (.inl ⟨rfl, rfl, HR.out, hx12, H91.out⟩)⟩
    have h91' : (((s[i]).toNat : Int) == 91) = false := by simp; omega
    by_cases h42 : (s[i]).toNat = 42
    · have h42' : (((s[i]).toNat : Int) == 42) = true := by simp; omega
      have HG : Hid (ReadTo s.data.toList (i + 1) (xs ++ [⟨true, false, []⟩])) := readTo_step HR.out (signL_star hlt h42)
      clear HB
      go_wp2_with (at_builtin; refine wpList_append_own _ rfl _ _ 66 rfl (w.heap.size + 1) 76 i0 (.agg #[.bool false, .bool false, .string ⟨#[]⟩]) 3 24 Tryd.underlying66 hi0 hz0 hz1 hz2 rfl (by decide) _ xs.length (cellsS xs) rfl (hm.2.1.alloc _) ⟨wr.heap.size, 0, none⟩ 1 1 [.bool true, .bool false, .string ⟨#[]⟩] rfl rfl (cell_three_c _ _ _ _ _) (fun u hu => by simp at hu; rcases hu with rfl | rfl | rfl <;> rfl) (by unfold maxLen; omega) (by omega) (by have := hm.lt; simp; omega) ?_)
      intro v3 w3 o3 gr3 _
      rw [show cellsS xs ++ _ = cellsS (xs ++ [(⟨true, false, []⟩ : Sgn)]) from by rw [cellsS_append]; skip; rfl, show xs.length + 1 = (xs ++ [(⟨true, false, []⟩ : Sgn)]).length from by simp] at o3
      have hm3 := hm.grown gr3 o3
      clear gr3 o3
      go_wp2_with fail
      go_step3
      show H 0 _ _
      exact HH.out 0 (4 * (s.size - (i + 1)) + 3) _ _ (by have := HN.out; omega) ⟨i + 1, fr, _, nt, _, _, _, _, ⟨_, _, _, _, _, _, _, _, _, _, _, _, _, _, _, _, _, _, _, _, _, _, _, _, _, _, _, _, _, _, _, _, _, _, _, _, _, _, _, _, _, _, _, _, _, _, _, _, _, _, _, _, _, _, _, _, _, _, _, _, _, _, _, _, _, _, _, _, _, _, _, _, _, _, _, _, _, _, _, _, _, _, _, _, _, _, _, _, _, _, _, _, _, _, _, _, _, _, _, _, _, _, _, _, _, _, _, _, _, _, _, _, _, _, _, _, _, _, rfl⟩, by go_num, rfl, hm3, by omega, by simp; omega, .inl ⟨rfl, rfl, HG.out⟩⟩
    have h42' : (((s[i]).toNat : Int) == 42) = false := by simp; omega
    by_cases h63 : (s[i]).toNat = 63
    · have h63' : (((s[i]).toNat : Int) == 63) = true := by simp; omega
      have HG : Hid (ReadTo s.data.toList (i + 1) (xs ++ [⟨false, true, []⟩])) := readTo_step HR.out (signL_any hlt h63)
      clear HB
      go_wp2_with (at_builtin; refine wpList_append_own _ rfl _ _ 66 rfl (w.heap.size + 1) 76 i0 (.agg #[.bool false, .bool false, .string ⟨#[]⟩]) 3 24 Tryd.underlying66 hi0 hz0 hz1 hz2 rfl (by decide) _ xs.length (cellsS xs) rfl (hm.2.1.alloc _) ⟨wr.heap.size, 0, none⟩ 1 1 [.bool false, .bool true, .string ⟨#[]⟩] rfl rfl (cell_three_c _ _ _ _ _) (fun u hu => by simp at hu; rcases hu with rfl | rfl | rfl <;> rfl) (by unfold maxLen; omega) (by omega) (by have := hm.lt; simp; omega) ?_)
      intro v3 w3 o3 gr3 _
      rw [show cellsS xs ++ _ = cellsS (xs ++ [(⟨false, true, []⟩ : Sgn)]) from by rw [cellsS_append]; skip; rfl, show xs.length + 1 = (xs ++ [(⟨false, true, []⟩ : Sgn)]).length from by simp] at o3
      have hm3 := hm.grown gr3 o3
      clear gr3 o3
      go_wp2_with fail
      go_step3
      show H 0 _ _
      exact HH.out 0 (4 * (s.size - (i + 1)) + 3) _ _ (by have := HN.out; omega) ⟨i + 1, fr, _, nt, _, _, _, _, ⟨_, _, _, _, _, _, _, _, _, _, _, _, _, _, _, _, _, _, _, _, _, _, _, _, _, _, _, _, _, _, _, _, _, _, _, _, _, _, _, _, _, _, _, _, _, _, _, _, _, _, _, _, _, _, _, _, _, _, _, _, _, _, _, _, _, _, _, _, _, _, _, _, _, _, _, _, _, _, _, _, _, _, _, _, _, _, _, _, _, _, _, _, _, _, _, _, _, _, _, _, _, _, _, _, _, _, _, _, _, _, _, _, _, _, _, _, _, _, rfl⟩, by go_num, rfl, hm3, by omega, by simp; omega, .inl ⟨rfl, rfl, HG.out⟩⟩
    have h63' : (((s[i]).toNat : Int) == 63) = false := by simp; omega
    cases hp : pathC ((s[i]).toNat : Int) with
    | true =>
      have HG : Hid (ReadTo s.data.toList (i + 1) (xs ++ [⟨false, false, [s[i]]⟩])) := readTo_step HR.out (signL_path hlt hp)
      clear HB
      go_wp2_with (first | (go_at_call 63; refine (isPath_c _ _).mono ?_; rintro e w' ⟨rfl, rfl⟩; rw [hp]) | (at_builtin; refine wpList_append_own _ rfl _ _ 66 rfl (w.heap.size + 1) 76 i0 (.agg #[.bool false, .bool false, .string ⟨#[]⟩]) 3 24 Tryd.underlying66 hi0 hz0 hz1 hz2 rfl (by decide) _ xs.length (cellsS xs) rfl (hm.2.1.alloc _) ⟨wr.heap.size, 0, none⟩ 1 1 [.bool false, .bool false, .string (s.extract i (i + 1))] rfl rfl (cell_three_c _ _ _ _ _) (fun u hu => by simp at hu; rcases hu with rfl | rfl | rfl <;> rfl) (by unfold maxLen; omega) (by omega) (by have := hm.lt; simp; omega) ?_))
      intro v3 w3 o3 gr3 _
      rw [show cellsS xs ++ _ = cellsS (xs ++ [(⟨false, false, [s[i]]⟩ : Sgn)]) from by rw [cellsS_append]; rw [extract_one s i hlt]; rfl, show xs.length + 1 = (xs ++ [(⟨false, false, [s[i]]⟩ : Sgn)]).length from by simp] at o3
      have hm3 := hm.grown gr3 o3
      clear gr3 o3
      go_wp2_with fail
      go_step3
      show H 0 _ _
      exact HH.out 0 (4 * (s.size - (i + 1)) + 3) _ _ (by have := HN.out; omega) ⟨i + 1, fr, _, nt, _, _, _, _, ⟨_, _, _, _, _, _, _, _, _, _, _, _, _, _, _, _, _, _, _, _, _, _, _, _, _, _, _, _, _, _, _, _, _, _, _, _, _, _, _, _, _, _, _, _, _, _, _, _, _, _, _, _, _, _, _, _, _, _, _, _, _, _, _, _, _, _, _, _, _, _, _, _, _, _, _, _, _, _, _, _, _, _, _, _, _, _, _, _, _, _, _, _, _, _, _, _, _, _, _, _, _, _, _, _, _, _, _, _, _, _, _, _, _, _, _, _, _, _, rfl⟩, by go_num, rfl, hm3, by omega, by simp; omega, .inl ⟨rfl, rfl, HG.out⟩⟩
    | false =>
      have HP : Hid (pieceB s = false) := HB.out (signL_bad hlt h91 h42 h63 hp)
      clear h91 h42 h63 HB
      go_wp2_with (go_at_call 63; refine (isPath_c _ _).mono ?_; rintro e w' ⟨rfl, rfl⟩; rw [hp])
      rw [jumpsTo_ret]
      go_ret2
      exact ⟨_, by rw [HP.out]; rfl, (fun h => by rw [HP.out] at h; cases h), hm.2.2⟩
  case first =>
    intro pa pb pc H hH
    go_wp2_with fail
    go_step3
    go_step
    go_step
    exact pc _ _ _ ⟨0, 0, [], false, _, _, _, _, ⟨_, _, _, _, _, _, _, _, _, _, _, _, _, _, _, _, _, _, _, _, _, _, _, _, _, _, _, _, _, _, _, _, _, _, _, _, _, _, _, _, _, _, _, _, _, _, _, _, _, _, _, _, _, _, _, _, _, _, _, _, _, _, _, _, _, _, _, _, _, _, _, _, _, _, _, _, _, _, _, _, _, _, _, _, _, _, _, _, _, _, _, _, _, _, _, _, _, _, _, _, _, _, _, _, _, _, _, _, _, _, _, _, _, _, _, _, _, _, rfl⟩, rfl, rfl, MemR.start w, Nat.zero_le _, by simp, .inl ⟨rfl, rfl, readTo_start _⟩⟩ H (fun l' n' a' w' _ h => hH l' n' a' w' h)
end Go.Proofs.YtdiopkegaeliaaaDoor

/-! Pieces gone through by names, the program's: the answer is as if all ways were tried; a contract for the walks; conditions: both lists lie in memory, at most 4 pieces, names of at most 2 to the 20 bytes. -/
namespace Go.Proofs.YtdiopkegaeliaaaDoor
open Go.RowKit
set_option linter.unusedSimpArgs false
set_option linter.unusedVariables false

/-- What holds at the three labels (0: many, 1: look, 2: back). -/
def JP (w : World) (q : Option Addr) (gs : List ByteArray) (cap : Nat) (a : Option Addr) (zs : List ByteArray) (cap2 : Nat) (l n : Nat) (f : Act) (wr : World) : Prop :=
  ∃ (s t b tk : Nat) (seen : Bool) (x5 x6 x7 x8 : Value), FrS q gs.length cap a zs.length cap2 x5 x6 x7 x8 (.bool seen) f ∧ x5 = .int .i64 (s : Int) ∧ x6 = .int .i64 (t : Int) ∧ x7 = .int .i64 (b : Int) ∧ x8 = .int .i64 (tk : Int) ∧
    Inv manyT takesT gs zs s t b tk seen ∧ Below w.heap.size w wr ∧
    ((l = 1 ∧ n = 2 * goM gs.length zs.length s b tk + 1) ∨ (l = 0 ∧ n = 2 * goM gs.length zs.length s b tk ∧ ∃ g, gs[s]? = some g ∧ manyT g = true) ∨ (l = 2 ∧ n = 2 * goM gs.length zs.length s b tk ∧ F2 manyT takesT gs zs s t = false))

set_option maxHeartbeats 4000000 in
set_option maxRecDepth 100000 in
theorem goPieces_c (S : Nat → Prop) (v u : Value) (gs zs : List ByteArray) (w : World) (hv : PcsIn S w v gs) (hB : ∀ b, S b → b < w.heap.size) (hu : Reads w u (strsV zs)) (hz : ∀ y ∈ zs, y.size ≤ 1048576) (hn : zs.length ≤ 1048577) :
    Calls Tryd.prog 53 #[v, u] w fun e w' => e = .returned (.bool (fullG manyT takesT gs zs)) ∧ Below w.heap.size w w' := by
  obtain ⟨q, cap, rfl, hL, hcap, hq⟩ := hv
  obtain ⟨a, cap2, rfl, hcap2, hc2⟩ := reads_strs hu
  have HV : Hid (∀ w1, Below w.heap.size w w1 → ∀ k (h : k < gs.length), ∃ b off, q = some ⟨b, off, none⟩ ∧ b < w1.heap.size ∧ PceAt S w1 b (off + k * 2) gs[k]) := fun w1 hb k h => by
    rcases hq with rfl | ⟨b, off, rfl, hS, hc⟩
    · simp at h
    · have hlt := hB b hS
      obtain ⟨e0, v0, e1, e2⟩ := hc k h
      exact ⟨b, off, rfl, Nat.lt_of_lt_of_le hlt hb.size, (hb.cell (by simpa using hlt)).trans e0, v0, (hb.cell (by simpa using hlt)).trans e1, e2.keep (.of hb hB)⟩
  have HU : Hid (∀ w1, Below w.heap.size w w1 → ∀ k (h : k < zs.length), ∃ b off, a = some ⟨b, off, none⟩ ∧ b < w1.heap.size ∧ w1.cell? ⟨b, off + k, none⟩ = some (.string zs[k])) := fun w1 hb k h => by
    rcases hc2 with rfl | ⟨b, off, rfl, hlt, hc⟩
    · simp at h
    · exact ⟨b, off, rfl, Nat.lt_of_lt_of_le hlt hb.size, (hb.cell (by simpa using hlt)).trans (hc k h)⟩
  have HZ : Hid (∀ y ∈ zs, y.size ≤ 1048576) := hz
  have HBB : Hid (∀ w1, Below w.heap.size w w1 → ∀ b, S b → b < w1.heap.size) := fun w1 h b hb => Nat.lt_of_lt_of_le (hB b hb) h.size
  clear hq hc2 hu hz
  go_enter Tryd.func53, Tryd.ntmps53
  go_wp2_with fail
  refine wp_scope_three 0 2 1 (JP w q gs cap a zs cap2) rfl rfl rfl ?hl ?pa ?pb ?pc ?first
  case hl =>
    rintro l n f wr ⟨_, _, _, _, _, _, _, _, _, _, _, _, _, _, _, _, h⟩
    rcases h with ⟨h, _⟩ | ⟨h, _⟩ | ⟨h, _⟩
    · exact .inr (.inr h)
    · exact .inl h
    · exact .inr (.inl h)
  case pa =>
    rintro n f wr ⟨s, t, b, tk, seen, x5, x6, x7, x8, hfr, rfl, rfl, rfl, rfl, hinv, hbr, hcase⟩ H hH
    refine FrS.elim (C := fun f => Code.wp _ _ _ f wr) hfr ?_
    clear hfr
    intro u10 u11 u12 u13 u14 u15 u16 u17 u18 u19 u20 u21 u22 u23 u24 u25 u26 u27 u28 u29 u30 u31 u32 u33 u34 u35 u36 u37 u38 u39 u40 u41 u42 u43 u44 u45 u46 u47 u48 u49 u50 u51 u52 u53 u54 u55 u56 u57 u58 u59 u60 u61 u62 u63 u64 u65 u66 u67 u68 u69 u70 u71 u72 u73 u74
    have HH : Hid (∀ l' n' a' w', n' < n → JP w q gs cap a zs cap2 l' n' a' w' → H l' a' w') := hH
    obtain ⟨hs1, ht1, hb1, hk1⟩ := inv_le hinv
    have HI : Hid (Inv manyT takesT gs zs s t b tk seen) := hinv
    clear hH hinv
    rcases hcase with ⟨h, _⟩ | ⟨_, hnn, g, hg, hgm⟩ | ⟨h, _⟩
    · cases h
    · have hsL : s < gs.length := (List.getElem?_eq_some_iff.1 hg).1
      have HJ := inv_many HI.out hg hgm
      have HN : Hid (n = 2 * goM gs.length zs.length s b tk) := hnn
      have HG : Hid (Inv manyT takesT gs zs (s + 1) t (s + 1) t true) := HJ
      clear hnn hg hgm HJ
      go_wp2_with fail
      go_step3
      show H 1 _ _
      exact HH.out 1 (2 * goM gs.length zs.length (s + 1) (s + 1) t + 1) _ _ (by have h1 := HN.out; have h2 := goM_many (L := gs.length) (n := zs.length) (tk := tk) (t := t) hb1 hsL; omega) ⟨s + 1, t, s + 1, t, true, _, _, _, _, ⟨_, _, _, _, _, _, _, _, _, _, _, _, _, _, _, _, _, _, _, _, _, _, _, _, _, _, _, _, _, _, _, _, _, _, _, _, _, _, _, _, _, _, _, _, _, _, _, _, _, _, _, _, _, _, _, _, _, _, _, _, _, _, _, _, _, rfl⟩, by go_num, by go_num, by go_num, by go_num, HG.out, hbr, .inl ⟨rfl, rfl⟩⟩
    · cases h
  case pb =>
    intro _
    rintro n f wr ⟨s, t, b, tk, seen, x5, x6, x7, x8, hfr, rfl, rfl, rfl, rfl, hinv, hbr, hcase⟩ H hH
    refine FrS.elim (C := fun f => Code.wp _ _ _ f wr) hfr ?_
    clear hfr
    intro u10 u11 u12 u13 u14 u15 u16 u17 u18 u19 u20 u21 u22 u23 u24 u25 u26 u27 u28 u29 u30 u31 u32 u33 u34 u35 u36 u37 u38 u39 u40 u41 u42 u43 u44 u45 u46 u47 u48 u49 u50 u51 u52 u53 u54 u55 u56 u57 u58 u59 u60 u61 u62 u63 u64 u65 u66 u67 u68 u69 u70 u71 u72 u73 u74
    have HH : Hid (∀ l' n' a' w', n' < n → JP w q gs cap a zs cap2 l' n' a' w' → H l' a' w') := hH
    obtain ⟨hs1, ht1, hb1, hk1⟩ := inv_le hinv
    have HI : Hid (Inv manyT takesT gs zs s t b tk seen) := hinv
    clear hH hinv
    rcases hcase with ⟨h, _⟩ | ⟨h, _⟩ | ⟨_, hnn, hF⟩
    · cases h
    · cases h
    · have HN : Hid (n = 2 * goM gs.length zs.length s b tk) := hnn
      have HF : Hid (F2 manyT takesT gs zs s t = false) := hF
      clear hnn hF
      cases seen with
      | false =>
        go_wp2_with fail
        rw [jumpsTo_ret]
        go_ret
        exact ⟨by rw [inv_false HI.out HF.out (.inl rfl)]; rfl, hbr⟩
      | true =>
        by_cases hk : tk = zs.length
        · have hk' : ((tk : Int) == (zs.length : Int)) = true := by rw [beq_iff_eq]; omega
          have HE : Hid (fullG manyT takesT gs zs = false) := inv_false HI.out HF.out (.inr hk)
          clear hk
          go_wp2_with fail
          rw [jumpsTo_ret]
          go_ret
          exact ⟨by rw [HE.out]; rfl, hbr⟩
        · have hk' : ((tk : Int) == (zs.length : Int)) = false := by rw [beq_eq_false_iff_ne]; omega
          have hkl : tk < zs.length := by omega
          have HG : Hid (Inv manyT takesT gs zs b (tk + 1) b (tk + 1) true) := inv_back HI.out HF.out rfl hkl
          clear hk
          go_wp2_with fail
          go_step3
          show H 1 _ _
          exact HH.out 1 (2 * goM gs.length zs.length b b (tk + 1) + 1) _ _ (by have h1 := HN.out; have h2 := goM_back (L := gs.length) (s := s) (b := b) hkl; omega) ⟨b, tk + 1, b, tk + 1, true, _, _, _, _, ⟨_, _, _, _, _, _, _, _, _, _, _, _, _, _, _, _, _, _, _, _, _, _, _, _, _, _, _, _, _, _, _, _, _, _, _, _, _, _, _, _, _, _, _, _, _, _, _, _, _, _, _, _, _, _, _, _, _, _, _, _, _, _, _, _, _, rfl⟩, by go_num, by go_num, by go_num, by go_num, HG.out, hbr, .inl ⟨rfl, rfl⟩⟩
  case pc =>
    intro _ _
    rintro n f wr ⟨s, t, b, tk, seen, x5, x6, x7, x8, hfr, rfl, rfl, rfl, rfl, hinv, hbr, hcase⟩ H hH
    refine FrS.elim (C := fun f => Code.wp _ _ _ f wr) hfr ?_
    clear hfr
    intro u10 u11 u12 u13 u14 u15 u16 u17 u18 u19 u20 u21 u22 u23 u24 u25 u26 u27 u28 u29 u30 u31 u32 u33 u34 u35 u36 u37 u38 u39 u40 u41 u42 u43 u44 u45 u46 u47 u48 u49 u50 u51 u52 u53 u54 u55 u56 u57 u58 u59 u60 u61 u62 u63 u64 u65 u66 u67 u68 u69 u70 u71 u72 u73 u74
    have HH : Hid (∀ l' n' a' w', n' < n → JP w q gs cap a zs cap2 l' n' a' w' → H l' a' w') := hH
    obtain ⟨hs1, ht1, hb1, hk1⟩ := inv_le hinv
    have HI : Hid (Inv manyT takesT gs zs s t b tk seen) := hinv
    clear hH hinv
    rcases hcase with ⟨_, hnn⟩ | ⟨h, _⟩ | ⟨h, _⟩
    rotate_left
    · cases h
    · cases h
    have HN : Hid (n = 2 * goM gs.length zs.length s b tk + 1) := hnn
    clear hnn
    by_cases hsL : s < gs.length
    · obtain ⟨bs, off, rfl, hbs, e0, v0, e1, hsg⟩ := HV.out wr hbr s hsL
      have hg : gs[s]? = some gs[s] := List.getElem?_eq_getElem hsL
      have hsi : (s : Int) < (gs.length : Int) := by omega
      have hse : ((s : Int) == (gs.length : Int)) = false := by rw [beq_eq_false_iff_ne]; omega
      obtain ⟨g, hge⟩ : ∃ g, g = gs[s] := ⟨_, rfl⟩
      rw [← hge] at e0 hsg hg
      have HGS : Hid (gs[s]? = some g) := hg
      have HSG : Hid (SgnsIn S wr v0 (sgnsOf g)) := hsg
      clear hge hg hsg
      obtain ⟨g0, hg0⟩ : ∃ g0, g0 = manyT g := ⟨_, rfl⟩
      rw [← hg0] at e0
      have HM : Hid (manyT g = g0) := hg0.symm
      clear hg0
      cases g0 with
      | true =>
        go_wp2_with (go_at_call 86; refine (pceMany_c _ _ _).mono ?_; rintro e w1 ⟨rfl, b1⟩; have k1 := hbr.trans (b1.mono hbr.size))
        go_step3
        show H 0 _ _
        exact HH.out 0 (2 * goM gs.length zs.length s b tk) _ _ (by have h1 := HN.out; omega) ⟨s, t, b, tk, seen, _, _, _, _, ⟨_, _, _, _, _, _, _, _, _, _, _, _, _, _, _, _, _, _, _, _, _, _, _, _, _, _, _, _, _, _, _, _, _, _, _, _, _, _, _, _, _, _, _, _, _, _, _, _, _, _, _, _, _, _, _, _, _, _, _, _, _, _, _, _, _, rfl⟩, by go_num, by go_num, by go_num, by go_num, HI.out, k1, .inr (.inl ⟨rfl, rfl, _, HGS.out, HM.out⟩)⟩
      | false =>
        by_cases ht : t = zs.length
        · have hte : ((t : Int) == (zs.length : Int)) = true := by rw [beq_iff_eq]; omega
          have HF : Hid (F2 manyT takesT gs zs s t = false) := F2_stop_none HGS.out HM.out ht
          clear ht
          go_wp2_with (go_at_call 86; refine (pceMany_c _ _ _).mono ?_; rintro e w1 ⟨rfl, b1⟩; have k1 := hbr.trans (b1.mono hbr.size))
          go_quiet (fail)
          go_wp2_with fail
          go_step3
          show H 2 _ _
          exact HH.out 2 (2 * goM gs.length zs.length s b tk) _ _ (by have h1 := HN.out; omega) ⟨s, t, b, tk, seen, _, _, _, _, ⟨_, _, _, _, _, _, _, _, _, _, _, _, _, _, _, _, _, _, _, _, _, _, _, _, _, _, _, _, _, _, _, _, _, _, _, _, _, _, _, _, _, _, _, _, _, _, _, _, _, _, _, _, _, _, _, _, _, _, _, _, _, _, _, _, _, rfl⟩, by go_num, by go_num, by go_num, by go_num, HI.out, below_drewN' k1 _, .inr (.inr ⟨rfl, rfl, HF.out⟩)⟩
        · have hte : ((t : Int) == (zs.length : Int)) = false := by rw [beq_eq_false_iff_ne]; omega
          have htl : t < zs.length := by omega
          have hti : (t : Int) < (zs.length : Int) := by omega
          obtain ⟨bz, offz, rfl, hbz, f0⟩ := HU.out wr hbr t htl
          have hx : zs[t]? = some zs[t] := List.getElem?_eq_getElem htl
          have hc0 := HZ.out _ (List.getElem_mem htl)
          obtain ⟨c, hce⟩ : ∃ c, c = zs[t] := ⟨_, rfl⟩
          rw [← hce] at f0 hx hc0
          have HX : Hid (zs[t]? = some c) := hx
          obtain ⟨r, hr⟩ : ∃ r, r = takesT g c := ⟨_, rfl⟩
          have HR : Hid (takesT g c = r) := hr.symm
          have HTW : Hid (∀ w1 w2, Below wr.heap.size wr w1 → Below w1.heap.size w1 w2 → Calls Tryd.prog 85 #[.agg #[.bool false, v0], .string c] w2 fun e w' => e = .returned (.bool r) ∧ Below w2.heap.size w2 w') := fun w1 w2 h1 h2 => by
            have h := h1.trans (h2.mono h1.size)
            rw [hr]
            exact pceTakes_c S false v0 _ c w2 (HSG.out.keep (.of h (HBB.out wr hbr))) (fun b hb => Nat.lt_of_lt_of_le (HBB.out wr hbr b hb) h.size) hc0
          have KEEPW : Hid (∀ w1 w2, Below wr.heap.size wr w1 → Below w1.heap.size w1 w2 → w2.cell? ⟨bs, off + s * 2, none⟩ = some (.bool false) ∧ w2.cell? ⟨bs, off + s * 2 + 1, none⟩ = some v0 ∧ w2.cell? ⟨bz, offz + t, none⟩ = some (.string c)) := fun w1 w2 h1 h2 => by
            have h := h1.trans (h2.mono h1.size)
            exact ⟨(h.cell (by simpa using hbs)).trans e0, (h.cell (by simpa using hbs)).trans e1, (h.cell (by simpa using hbz)).trans f0⟩
          clear hce hx hr ht f0
          go_wp2_with (go_at_call 86; refine (pceMany_c _ _ _).mono ?_; rintro e w1 ⟨rfl, b1⟩; have k1 := hbr.trans (b1.mono hbr.size))
          have KEEP : Hid (∀ w2, Below w1.heap.size w1 w2 → w2.cell? ⟨bs, off + s * 2, none⟩ = some (.bool false) ∧ w2.cell? ⟨bs, off + s * 2 + 1, none⟩ = some v0 ∧ w2.cell? ⟨bz, offz + t, none⟩ = some (.string c)) := fun w2 h => KEEPW.out w1 w2 b1 h
          have hd0 : Below w1.heap.size w1 w1.drew := (Below.refl _ _).drew
          have HT : Hid (∀ w2, Below w1.heap.size w1 w2 → Calls Tryd.prog 85 #[.agg #[.bool false, v0], .string c] w2 fun e w' => e = .returned (.bool r) ∧ Below w2.heap.size w2 w') := fun w2 h => HTW.out w1 w2 b1 h
          clear e0 e1 KEEPW HTW
          have k2 : Hid (∀ w2, Below w1.heap.size w1 w2 → Below w.heap.size w w2) := fun w2 h => k1.trans (h.mono k1.size)
          cases r with
          | true =>
            refine wp_region_held_drew (S := (fun w' => w'.cell? ⟨bs, off + s * 2, none⟩ = some (.bool false) ∧ w'.cell? ⟨bs, off + s * 2 + 1, none⟩ = some v0 ∧ w'.cell? ⟨bz, offz + t, none⟩ = some (.string c))) (by kernel_rfl) ?SR10 (fun hHeld => ?_)
            case SR10 => (first | (with_reducible exact KEEP.out _ hd0) | (with_reducible exact KEEP.out _ hd1))
            refine wpAnyH_take (i := 0) (oi := _) (v := ?vR10) rfl (by kernel_rfl) (by kernel_rfl) (by kernel_rfl) (fun _ _ _ h => h) (Or.inl ⟨by rfl, ?yR10⟩) hHeld ?_
            case yR10 => (intro w hSw; (try dsimp only at hSw); go_simp <;> with_reducible rfl)
            try simp only [Act.put, List.getElem_toArray, List.getElem_cons_zero, List.getElem_cons_succ, List.setIfInBounds_toArray, List.set_cons_zero, List.set_cons_succ]
            refine wpAnyH_take (i := 1) (oi := _) (v := ?vR11) rfl (by kernel_rfl) (by kernel_rfl) (by kernel_rfl) (fun _ _ _ h => h) (Or.inl ⟨by rfl, ?yR11⟩) hHeld ?_
            case yR11 => (intro w hSw; (try dsimp only at hSw); go_simp <;> with_reducible rfl)
            try simp only [Act.put, List.getElem_toArray, List.getElem_cons_zero, List.getElem_cons_succ, List.setIfInBounds_toArray, List.set_cons_zero, List.set_cons_succ]
            refine wpAnyH_take (i := 2) (oi := _) (v := ?vR12) rfl (by kernel_rfl) (by kernel_rfl) (by kernel_rfl) (fun _ _ _ h => h) (Or.inl ⟨by rfl, ?yR12⟩) hHeld ?_
            case yR12 => (intro w hSw; (try dsimp only at hSw); go_simp <;> with_reducible rfl)
            try simp only [Act.put, List.getElem_toArray, List.getElem_cons_zero, List.getElem_cons_succ, List.setIfInBounds_toArray, List.set_cons_zero, List.set_cons_succ]
            refine wpAnyH_take (i := 3) (oi := _) (v := ?vR13) rfl (by kernel_rfl) (by kernel_rfl) (by kernel_rfl) (fun _ _ _ h => h) (Or.inl ⟨by rfl, ?yR13⟩) hHeld ?_
            case yR13 => (intro w hSw; (try dsimp only at hSw); go_simp <;> with_reducible rfl)
            try simp only [Act.put, List.getElem_toArray, List.getElem_cons_zero, List.getElem_cons_succ, List.setIfInBounds_toArray, List.set_cons_zero, List.set_cons_succ]
            refine wpAnyH_take (i := 4) (oi := _) (v := ?vR14) rfl (by kernel_rfl) (by kernel_rfl) (by kernel_rfl) (fun _ _ _ h => h) (Or.inl ⟨by rfl, ?yR14⟩) hHeld ?_
            case yR14 => (intro w hSw; (try dsimp only at hSw); go_simp <;> with_reducible rfl)
            try simp only [Act.put, List.getElem_toArray, List.getElem_cons_zero, List.getElem_cons_succ, List.setIfInBounds_toArray, List.set_cons_zero, List.set_cons_succ]
            refine wpAnyH_take (i := 5) (oi := _) (v := ?vR15) rfl (by kernel_rfl) (by kernel_rfl) (by kernel_rfl) (fun _ _ _ h => h) (Or.inl ⟨by rfl, ?yR15⟩) hHeld ?_
            case yR15 => (intro w hSw; (try dsimp only at hSw); go_simp <;> with_reducible rfl)
            try simp only [Act.put, List.getElem_toArray, List.getElem_cons_zero, List.getElem_cons_succ, List.setIfInBounds_toArray, List.set_cons_zero, List.set_cons_succ]
            refine wpAnyH_take (i := 6) (oi := _) (v := ?vR16) rfl (by kernel_rfl) (by kernel_rfl) (by kernel_rfl) (fun _ _ _ h => h) (Or.inl ⟨by rfl, ?yR16⟩) hHeld ?_
            case yR16 => (intro w hSw; (try dsimp only at hSw); go_simp <;> with_reducible rfl)
            try simp only [Act.put, List.getElem_toArray, List.getElem_cons_zero, List.getElem_cons_succ, List.setIfInBounds_toArray, List.set_cons_zero, List.set_cons_succ]
            refine wpAnyH_take (i := 7) (oi := _) (v := ?vR17) rfl (by kernel_rfl) (by kernel_rfl) (by kernel_rfl) (fun _ _ _ h => h) (Or.inl ⟨by rfl, ?yR17⟩) hHeld ?_
            case yR17 => (intro w hSw; (try dsimp only at hSw); go_simp <;> with_reducible rfl)
            try simp only [Act.put, List.getElem_toArray, List.getElem_cons_zero, List.getElem_cons_succ, List.setIfInBounds_toArray, List.set_cons_zero, List.set_cons_succ]
            refine wpAnyH_take (i := 8) (oi := _) (v := ?vR18) rfl (by kernel_rfl) (by kernel_rfl) (by kernel_rfl) (fun _ _ _ h => h) (Or.inl ⟨by rfl, ?yR18⟩) hHeld ?_
            case yR18 => (intro w hSw; (try dsimp only at hSw); go_simp <;> with_reducible rfl)
            try simp only [Act.put, List.getElem_toArray, List.getElem_cons_zero, List.getElem_cons_succ, List.setIfInBounds_toArray, List.set_cons_zero, List.set_cons_succ]
            refine wpAnyH_take (i := 9) (oi := _) (v := ?vR19) rfl (by kernel_rfl) (by kernel_rfl) (by kernel_rfl) (fun _ _ _ h => h) (Or.inl ⟨by rfl, ?yR19⟩) hHeld ?_
            case yR19 => (intro w hSw; (try dsimp only at hSw); go_simp <;> with_reducible rfl)
            try simp only [Act.put, List.getElem_toArray, List.getElem_cons_zero, List.getElem_cons_succ, List.setIfInBounds_toArray, List.set_cons_zero, List.set_cons_succ]
            refine wpAnyH_take (i := 10) (oi := _) (v := ?vR110) rfl (by kernel_rfl) (by kernel_rfl) (by kernel_rfl) (fun _ _ _ h => h) (Or.inl ⟨by rfl, ?yR110⟩) hHeld ?_
            case yR110 => (intro w hSw; (try dsimp only at hSw); go_simp <;> with_reducible rfl)
            try simp only [Act.put, List.getElem_toArray, List.getElem_cons_zero, List.getElem_cons_succ, List.setIfInBounds_toArray, List.set_cons_zero, List.set_cons_succ]
            refine wpAnyH_take (i := 11) (oi := _) (v := ?vR111) rfl (by kernel_rfl) (by kernel_rfl) (by kernel_rfl) (fun _ _ _ h => h) (Or.inl ⟨by rfl, ?yR111⟩) hHeld ?_
            case yR111 => (intro w hSw; (try dsimp only at hSw); go_simp <;> with_reducible rfl)
            try simp only [Act.put, List.getElem_toArray, List.getElem_cons_zero, List.getElem_cons_succ, List.setIfInBounds_toArray, List.set_cons_zero, List.set_cons_succ]
            refine wpAnyH_take (i := 12) (oi := _) (v := ?vR112) rfl (by kernel_rfl) (by kernel_rfl) (by kernel_rfl) (fun _ _ _ h => h) (Or.inl ⟨by rfl, ?yR112⟩) hHeld ?_
            case yR112 => (intro w hSw; (try dsimp only at hSw); go_simp <;> with_reducible rfl)
            try simp only [Act.put, List.getElem_toArray, List.getElem_cons_zero, List.getElem_cons_succ, List.setIfInBounds_toArray, List.set_cons_zero, List.set_cons_succ]
            refine wpAnyH_take (i := 13) (oi := _) (v := ?vR113) rfl (by kernel_rfl) (by kernel_rfl) (by kernel_rfl) (fun _ _ _ h => h) (Or.inl ⟨by rfl, ?yR113⟩) hHeld ?_
            case yR113 => (intro w hSw; (try dsimp only at hSw); go_simp <;> with_reducible rfl)
            try simp only [Act.put, List.getElem_toArray, List.getElem_cons_zero, List.getElem_cons_succ, List.setIfInBounds_toArray, List.set_cons_zero, List.set_cons_succ]
            refine wpAnyH_take (i := 14) (oi := _) (v := ?vR114) rfl (by kernel_rfl) (by kernel_rfl) (by kernel_rfl) (fun _ _ _ h => h) (Or.inl ⟨by rfl, ?yR114⟩) hHeld ?_
            case yR114 => (intro w hSw; (try dsimp only at hSw); go_simp <;> with_reducible rfl)
            try simp only [Act.put, List.getElem_toArray, List.getElem_cons_zero, List.getElem_cons_succ, List.setIfInBounds_toArray, List.set_cons_zero, List.set_cons_succ]
            refine wpAnyH_take (i := 15) (oi := _) (v := ?vR115) rfl (by kernel_rfl) (by kernel_rfl) (by kernel_rfl) (fun _ _ _ h => h) (Or.inl ⟨by rfl, ?yR115⟩) hHeld ?_
            case yR115 => (intro w hSw; (try dsimp only at hSw); go_simp <;> with_reducible rfl)
            try simp only [Act.put, List.getElem_toArray, List.getElem_cons_zero, List.getElem_cons_succ, List.setIfInBounds_toArray, List.set_cons_zero, List.set_cons_succ]
            refine wpAnyH_take (i := 16) (oi := _) (v := ?vR116) rfl (by kernel_rfl) (by kernel_rfl) (by kernel_rfl) (fun _ _ _ h => h) (Or.inl ⟨by rfl, ?yR116⟩) hHeld ?_
            case yR116 => (intro w hSw; (try dsimp only at hSw); go_simp <;> with_reducible rfl)
            try simp only [Act.put, List.getElem_toArray, List.getElem_cons_zero, List.getElem_cons_succ, List.setIfInBounds_toArray, List.set_cons_zero, List.set_cons_succ]
            refine wpAnyH_take (i := 17) (oi := _) (v := ?vR117) rfl (by kernel_rfl) (by kernel_rfl) (by kernel_rfl) (fun _ _ _ h => h) (Or.inl ⟨by rfl, ?yR117⟩) hHeld ?_
            case yR117 => (intro w hSw; (try dsimp only at hSw); go_simp <;> with_reducible rfl)
            try simp only [Act.put, List.getElem_toArray, List.getElem_cons_zero, List.getElem_cons_succ, List.setIfInBounds_toArray, List.set_cons_zero, List.set_cons_succ]
            refine wpAnyH_take (i := 18) (oi := _) (v := ?vR118) rfl (by kernel_rfl) (by kernel_rfl) (by kernel_rfl) (fun _ _ _ h => h) (Or.inl ⟨by rfl, ?yR118⟩) hHeld ?_
            case yR118 => (intro w hSw; (try dsimp only at hSw); go_simp <;> with_reducible rfl)
            try simp only [Act.put, List.getElem_toArray, List.getElem_cons_zero, List.getElem_cons_succ, List.setIfInBounds_toArray, List.set_cons_zero, List.set_cons_succ]
            refine wpAnyH_take (i := 19) (oi := _) (v := ?vR119) rfl (by kernel_rfl) (by kernel_rfl) (by kernel_rfl) (fun _ _ _ h => h) (Or.inl ⟨by rfl, ?yR119⟩) hHeld ?_
            case yR119 => (intro w hSw; (try dsimp only at hSw); go_simp <;> with_reducible rfl)
            try simp only [Act.put, List.getElem_toArray, List.getElem_cons_zero, List.getElem_cons_succ, List.setIfInBounds_toArray, List.set_cons_zero, List.set_cons_succ]
            refine wpAnyH_ready (rs := [20]) (by kernel_rfl) (by simp) ?_
            refine AllReadyH.cons rfl (fun K hK => ?_) AllReadyH.nil
            go_simp
            go_wp2_with (go_at_call 85; refine (HT.out _ hd0).mono ?_; rintro e w2 ⟨rfl, b2⟩; have hd1 : Below w1.heap.size w1 w2 := hd0.trans (b2.mono hd0.size))
            clear hHeld
            refine hK.out _ _ ?SR121 (fun hHeld => ?_)
            case SR121 => ((try dsimp only); first | (with_reducible exact KEEP.out _ hd0) | (with_reducible exact KEEP.out _ hd1))
            clear hK K
            refine wpAnyH_take (i := 21) (oi := _) (v := ?vR121) rfl (by kernel_rfl) (by kernel_rfl) (by kernel_rfl) (fun _ _ _ h => h) (Or.inl ⟨by rfl, ?yR121⟩) hHeld ?_
            case yR121 => (intro w hSw; (try dsimp only at hSw); go_simp <;> with_reducible rfl)
            try simp only [Act.put, List.getElem_toArray, List.getElem_cons_zero, List.getElem_cons_succ, List.setIfInBounds_toArray, List.set_cons_zero, List.set_cons_succ]
            refine wpAnyH_take (i := 22) (oi := _) (v := ?vR122) rfl (by kernel_rfl) (by kernel_rfl) (by kernel_rfl) (fun _ _ _ h => h) (Or.inl ⟨by rfl, ?yR122⟩) hHeld ?_
            case yR122 => (intro w hSw; (try dsimp only at hSw); go_simp <;> with_reducible rfl)
            try simp only [Act.put, List.getElem_toArray, List.getElem_cons_zero, List.getElem_cons_succ, List.setIfInBounds_toArray, List.set_cons_zero, List.set_cons_succ]
            refine wpAnyH_done (by kernel_rfl) ?_ _
            go_wp2_with fail
            go_step3
            show H 1 _ _
            exact HH.out 1 (2 * goM gs.length zs.length (s + 1) b tk + 1) _ _ (by have h1 := HN.out; have h2 := goM_next (n := zs.length) (b := b) (tk := tk) hsL; omega) ⟨s + 1, t + 1, b, tk, seen, _, _, _, _, ⟨_, _, _, _, _, _, _, _, _, _, _, _, _, _, _, _, _, _, _, _, _, _, _, _, _, _, _, _, _, _, _, _, _, _, _, _, _, _, _, _, _, _, _, _, _, _, _, _, _, _, _, _, _, _, _, _, _, _, _, _, _, _, _, _, _, rfl⟩, by go_num, by go_num, by go_num, by go_num, inv_next HI.out HGS.out HM.out HX.out HR.out, k2.out _ hd1, .inl ⟨rfl, rfl⟩⟩
          | false =>
            refine wp_region_held_drew (S := (fun w' => w'.cell? ⟨bs, off + s * 2, none⟩ = some (.bool false) ∧ w'.cell? ⟨bs, off + s * 2 + 1, none⟩ = some v0 ∧ w'.cell? ⟨bz, offz + t, none⟩ = some (.string c))) (by kernel_rfl) ?SR20 (fun hHeld => ?_)
            case SR20 => (first | (with_reducible exact KEEP.out _ hd0) | (with_reducible exact KEEP.out _ hd1))
            refine wpAnyH_take (i := 0) (oi := _) (v := ?vR20) rfl (by kernel_rfl) (by kernel_rfl) (by kernel_rfl) (fun _ _ _ h => h) (Or.inl ⟨by rfl, ?yR20⟩) hHeld ?_
            case yR20 => (intro w hSw; (try dsimp only at hSw); go_simp <;> with_reducible rfl)
            try simp only [Act.put, List.getElem_toArray, List.getElem_cons_zero, List.getElem_cons_succ, List.setIfInBounds_toArray, List.set_cons_zero, List.set_cons_succ]
            refine wpAnyH_take (i := 1) (oi := _) (v := ?vR21) rfl (by kernel_rfl) (by kernel_rfl) (by kernel_rfl) (fun _ _ _ h => h) (Or.inl ⟨by rfl, ?yR21⟩) hHeld ?_
            case yR21 => (intro w hSw; (try dsimp only at hSw); go_simp <;> with_reducible rfl)
            try simp only [Act.put, List.getElem_toArray, List.getElem_cons_zero, List.getElem_cons_succ, List.setIfInBounds_toArray, List.set_cons_zero, List.set_cons_succ]
            refine wpAnyH_take (i := 2) (oi := _) (v := ?vR22) rfl (by kernel_rfl) (by kernel_rfl) (by kernel_rfl) (fun _ _ _ h => h) (Or.inl ⟨by rfl, ?yR22⟩) hHeld ?_
            case yR22 => (intro w hSw; (try dsimp only at hSw); go_simp <;> with_reducible rfl)
            try simp only [Act.put, List.getElem_toArray, List.getElem_cons_zero, List.getElem_cons_succ, List.setIfInBounds_toArray, List.set_cons_zero, List.set_cons_succ]
            refine wpAnyH_take (i := 3) (oi := _) (v := ?vR23) rfl (by kernel_rfl) (by kernel_rfl) (by kernel_rfl) (fun _ _ _ h => h) (Or.inl ⟨by rfl, ?yR23⟩) hHeld ?_
            case yR23 => (intro w hSw; (try dsimp only at hSw); go_simp <;> with_reducible rfl)
            try simp only [Act.put, List.getElem_toArray, List.getElem_cons_zero, List.getElem_cons_succ, List.setIfInBounds_toArray, List.set_cons_zero, List.set_cons_succ]
            refine wpAnyH_take (i := 4) (oi := _) (v := ?vR24) rfl (by kernel_rfl) (by kernel_rfl) (by kernel_rfl) (fun _ _ _ h => h) (Or.inl ⟨by rfl, ?yR24⟩) hHeld ?_
            case yR24 => (intro w hSw; (try dsimp only at hSw); go_simp <;> with_reducible rfl)
            try simp only [Act.put, List.getElem_toArray, List.getElem_cons_zero, List.getElem_cons_succ, List.setIfInBounds_toArray, List.set_cons_zero, List.set_cons_succ]
            refine wpAnyH_take (i := 5) (oi := _) (v := ?vR25) rfl (by kernel_rfl) (by kernel_rfl) (by kernel_rfl) (fun _ _ _ h => h) (Or.inl ⟨by rfl, ?yR25⟩) hHeld ?_
            case yR25 => (intro w hSw; (try dsimp only at hSw); go_simp <;> with_reducible rfl)
            try simp only [Act.put, List.getElem_toArray, List.getElem_cons_zero, List.getElem_cons_succ, List.setIfInBounds_toArray, List.set_cons_zero, List.set_cons_succ]
            refine wpAnyH_take (i := 6) (oi := _) (v := ?vR26) rfl (by kernel_rfl) (by kernel_rfl) (by kernel_rfl) (fun _ _ _ h => h) (Or.inl ⟨by rfl, ?yR26⟩) hHeld ?_
            case yR26 => (intro w hSw; (try dsimp only at hSw); go_simp <;> with_reducible rfl)
            try simp only [Act.put, List.getElem_toArray, List.getElem_cons_zero, List.getElem_cons_succ, List.setIfInBounds_toArray, List.set_cons_zero, List.set_cons_succ]
            refine wpAnyH_take (i := 7) (oi := _) (v := ?vR27) rfl (by kernel_rfl) (by kernel_rfl) (by kernel_rfl) (fun _ _ _ h => h) (Or.inl ⟨by rfl, ?yR27⟩) hHeld ?_
            case yR27 => (intro w hSw; (try dsimp only at hSw); go_simp <;> with_reducible rfl)
            try simp only [Act.put, List.getElem_toArray, List.getElem_cons_zero, List.getElem_cons_succ, List.setIfInBounds_toArray, List.set_cons_zero, List.set_cons_succ]
            refine wpAnyH_take (i := 8) (oi := _) (v := ?vR28) rfl (by kernel_rfl) (by kernel_rfl) (by kernel_rfl) (fun _ _ _ h => h) (Or.inl ⟨by rfl, ?yR28⟩) hHeld ?_
            case yR28 => (intro w hSw; (try dsimp only at hSw); go_simp <;> with_reducible rfl)
            try simp only [Act.put, List.getElem_toArray, List.getElem_cons_zero, List.getElem_cons_succ, List.setIfInBounds_toArray, List.set_cons_zero, List.set_cons_succ]
            refine wpAnyH_take (i := 9) (oi := _) (v := ?vR29) rfl (by kernel_rfl) (by kernel_rfl) (by kernel_rfl) (fun _ _ _ h => h) (Or.inl ⟨by rfl, ?yR29⟩) hHeld ?_
            case yR29 => (intro w hSw; (try dsimp only at hSw); go_simp <;> with_reducible rfl)
            try simp only [Act.put, List.getElem_toArray, List.getElem_cons_zero, List.getElem_cons_succ, List.setIfInBounds_toArray, List.set_cons_zero, List.set_cons_succ]
            refine wpAnyH_take (i := 10) (oi := _) (v := ?vR210) rfl (by kernel_rfl) (by kernel_rfl) (by kernel_rfl) (fun _ _ _ h => h) (Or.inl ⟨by rfl, ?yR210⟩) hHeld ?_
            case yR210 => (intro w hSw; (try dsimp only at hSw); go_simp <;> with_reducible rfl)
            try simp only [Act.put, List.getElem_toArray, List.getElem_cons_zero, List.getElem_cons_succ, List.setIfInBounds_toArray, List.set_cons_zero, List.set_cons_succ]
            refine wpAnyH_take (i := 11) (oi := _) (v := ?vR211) rfl (by kernel_rfl) (by kernel_rfl) (by kernel_rfl) (fun _ _ _ h => h) (Or.inl ⟨by rfl, ?yR211⟩) hHeld ?_
            case yR211 => (intro w hSw; (try dsimp only at hSw); go_simp <;> with_reducible rfl)
            try simp only [Act.put, List.getElem_toArray, List.getElem_cons_zero, List.getElem_cons_succ, List.setIfInBounds_toArray, List.set_cons_zero, List.set_cons_succ]
            refine wpAnyH_take (i := 12) (oi := _) (v := ?vR212) rfl (by kernel_rfl) (by kernel_rfl) (by kernel_rfl) (fun _ _ _ h => h) (Or.inl ⟨by rfl, ?yR212⟩) hHeld ?_
            case yR212 => (intro w hSw; (try dsimp only at hSw); go_simp <;> with_reducible rfl)
            try simp only [Act.put, List.getElem_toArray, List.getElem_cons_zero, List.getElem_cons_succ, List.setIfInBounds_toArray, List.set_cons_zero, List.set_cons_succ]
            refine wpAnyH_take (i := 13) (oi := _) (v := ?vR213) rfl (by kernel_rfl) (by kernel_rfl) (by kernel_rfl) (fun _ _ _ h => h) (Or.inl ⟨by rfl, ?yR213⟩) hHeld ?_
            case yR213 => (intro w hSw; (try dsimp only at hSw); go_simp <;> with_reducible rfl)
            try simp only [Act.put, List.getElem_toArray, List.getElem_cons_zero, List.getElem_cons_succ, List.setIfInBounds_toArray, List.set_cons_zero, List.set_cons_succ]
            refine wpAnyH_take (i := 14) (oi := _) (v := ?vR214) rfl (by kernel_rfl) (by kernel_rfl) (by kernel_rfl) (fun _ _ _ h => h) (Or.inl ⟨by rfl, ?yR214⟩) hHeld ?_
            case yR214 => (intro w hSw; (try dsimp only at hSw); go_simp <;> with_reducible rfl)
            try simp only [Act.put, List.getElem_toArray, List.getElem_cons_zero, List.getElem_cons_succ, List.setIfInBounds_toArray, List.set_cons_zero, List.set_cons_succ]
            refine wpAnyH_take (i := 15) (oi := _) (v := ?vR215) rfl (by kernel_rfl) (by kernel_rfl) (by kernel_rfl) (fun _ _ _ h => h) (Or.inl ⟨by rfl, ?yR215⟩) hHeld ?_
            case yR215 => (intro w hSw; (try dsimp only at hSw); go_simp <;> with_reducible rfl)
            try simp only [Act.put, List.getElem_toArray, List.getElem_cons_zero, List.getElem_cons_succ, List.setIfInBounds_toArray, List.set_cons_zero, List.set_cons_succ]
            refine wpAnyH_take (i := 16) (oi := _) (v := ?vR216) rfl (by kernel_rfl) (by kernel_rfl) (by kernel_rfl) (fun _ _ _ h => h) (Or.inl ⟨by rfl, ?yR216⟩) hHeld ?_
            case yR216 => (intro w hSw; (try dsimp only at hSw); go_simp <;> with_reducible rfl)
            try simp only [Act.put, List.getElem_toArray, List.getElem_cons_zero, List.getElem_cons_succ, List.setIfInBounds_toArray, List.set_cons_zero, List.set_cons_succ]
            refine wpAnyH_take (i := 17) (oi := _) (v := ?vR217) rfl (by kernel_rfl) (by kernel_rfl) (by kernel_rfl) (fun _ _ _ h => h) (Or.inl ⟨by rfl, ?yR217⟩) hHeld ?_
            case yR217 => (intro w hSw; (try dsimp only at hSw); go_simp <;> with_reducible rfl)
            try simp only [Act.put, List.getElem_toArray, List.getElem_cons_zero, List.getElem_cons_succ, List.setIfInBounds_toArray, List.set_cons_zero, List.set_cons_succ]
            refine wpAnyH_take (i := 18) (oi := _) (v := ?vR218) rfl (by kernel_rfl) (by kernel_rfl) (by kernel_rfl) (fun _ _ _ h => h) (Or.inl ⟨by rfl, ?yR218⟩) hHeld ?_
            case yR218 => (intro w hSw; (try dsimp only at hSw); go_simp <;> with_reducible rfl)
            try simp only [Act.put, List.getElem_toArray, List.getElem_cons_zero, List.getElem_cons_succ, List.setIfInBounds_toArray, List.set_cons_zero, List.set_cons_succ]
            refine wpAnyH_take (i := 19) (oi := _) (v := ?vR219) rfl (by kernel_rfl) (by kernel_rfl) (by kernel_rfl) (fun _ _ _ h => h) (Or.inl ⟨by rfl, ?yR219⟩) hHeld ?_
            case yR219 => (intro w hSw; (try dsimp only at hSw); go_simp <;> with_reducible rfl)
            try simp only [Act.put, List.getElem_toArray, List.getElem_cons_zero, List.getElem_cons_succ, List.setIfInBounds_toArray, List.set_cons_zero, List.set_cons_succ]
            refine wpAnyH_ready (rs := [20]) (by kernel_rfl) (by simp) ?_
            refine AllReadyH.cons rfl (fun K hK => ?_) AllReadyH.nil
            go_simp
            go_wp2_with (go_at_call 85; refine (HT.out _ hd0).mono ?_; rintro e w2 ⟨rfl, b2⟩; have hd1 : Below w1.heap.size w1 w2 := hd0.trans (b2.mono hd0.size))
            clear hHeld
            refine hK.out _ _ ?SR221 (fun hHeld => ?_)
            case SR221 => ((try dsimp only); first | (with_reducible exact KEEP.out _ hd0) | (with_reducible exact KEEP.out _ hd1))
            clear hK K
            refine wpAnyH_take (i := 21) (oi := _) (v := ?vR221) rfl (by kernel_rfl) (by kernel_rfl) (by kernel_rfl) (fun _ _ _ h => h) (Or.inl ⟨by rfl, ?yR221⟩) hHeld ?_
            case yR221 => (intro w hSw; (try dsimp only at hSw); go_simp <;> with_reducible rfl)
            try simp only [Act.put, List.getElem_toArray, List.getElem_cons_zero, List.getElem_cons_succ, List.setIfInBounds_toArray, List.set_cons_zero, List.set_cons_succ]
            refine wpAnyH_take (i := 22) (oi := _) (v := ?vR222) rfl (by kernel_rfl) (by kernel_rfl) (by kernel_rfl) (fun _ _ _ h => h) (Or.inl ⟨by rfl, ?yR222⟩) hHeld ?_
            case yR222 => (intro w hSw; (try dsimp only at hSw); go_simp <;> with_reducible rfl)
            try simp only [Act.put, List.getElem_toArray, List.getElem_cons_zero, List.getElem_cons_succ, List.setIfInBounds_toArray, List.set_cons_zero, List.set_cons_succ]
            refine wpAnyH_done (by kernel_rfl) ?_ _
            go_wp2_with fail
            go_step3
            show H 2 _ _
            exact HH.out 2 (2 * goM gs.length zs.length s b tk) _ _ (by have h1 := HN.out; omega) ⟨s, t, b, tk, seen, _, _, _, _, ⟨_, _, _, _, _, _, _, _, _, _, _, _, _, _, _, _, _, _, _, _, _, _, _, _, _, _, _, _, _, _, _, _, _, _, _, _, _, _, _, _, _, _, _, _, _, _, _, _, _, _, _, _, _, _, _, _, _, _, _, _, _, _, _, _, _, rfl⟩, by go_num, by go_num, by go_num, by go_num, HI.out, k2.out _ hd1, .inr (.inr ⟨rfl, rfl, F2_stop_not HGS.out HM.out HX.out HR.out⟩)⟩
    · have hse : s = gs.length := by omega
      have hsi : ¬ (s : Int) < (gs.length : Int) := by omega
      have hse' : ((s : Int) == (gs.length : Int)) = true := by rw [beq_iff_eq]; omega
      by_cases ht : t = zs.length
      · have hte : ((t : Int) == (zs.length : Int)) = true := by rw [beq_iff_eq]; omega
        have HE : Hid (fullG manyT takesT gs zs = true) := inv_true HI.out hse ht
        clear hse ht hsL
        go_wp2_with fail
        rw [jumpsTo_ret]
        go_ret
        exact ⟨by rw [HE.out]; rfl, hbr⟩
      · have hte : ((t : Int) == (zs.length : Int)) = false := by rw [beq_eq_false_iff_ne]; omega
        have HF : Hid (F2 manyT takesT gs zs s t = false) := F2_stop_end hse ht1 ht
        clear hse ht hsL
        go_wp2_with fail
        go_quiet (fail)
        go_wp2_with fail
        go_step3
        show H 2 _ _
        exact HH.out 2 (2 * goM gs.length zs.length s b tk) _ _ (by have h1 := HN.out; omega) ⟨s, t, b, tk, seen, _, _, _, _, ⟨_, _, _, _, _, _, _, _, _, _, _, _, _, _, _, _, _, _, _, _, _, _, _, _, _, _, _, _, _, _, _, _, _, _, _, _, _, _, _, _, _, _, _, _, _, _, _, _, _, _, _, _, _, _, _, _, _, _, _, _, _, _, _, _, _, rfl⟩, by go_num, by go_num, by go_num, by go_num, HI.out, below_drewN' hbr _, .inr (.inr ⟨rfl, rfl, HF.out⟩)⟩
  case first =>
    intro pa pb pc H hH
    go_wp2_with fail
    go_step3
    go_step
    go_step
    exact pc _ _ _ ⟨0, 0, 0, 0, false, _, _, _, _, ⟨_, _, _, _, _, _, _, _, _, _, _, _, _, _, _, _, _, _, _, _, _, _, _, _, _, _, _, _, _, _, _, _, _, _, _, _, _, _, _, _, _, _, _, _, _, _, _, _, _, _, _, _, _, _, _, _, _, _, _, _, _, _, _, _, _, rfl⟩, rfl, rfl, rfl, rfl, inv_start, Below.refl _ _, .inl ⟨rfl, rfl⟩⟩ H (fun l' n' a' w' _ h => hH l' n' a' w' h)
end Go.Proofs.YtdiopkegaeliaaaDoor

/-! What the program's functions that read a pattern, and ask whether one takes a path, answer: contracts for the walks; condition: texts of at most 2 to the 20 bytes. -/
namespace Go.Proofs.YtdiopkegaeliaaaDoor
open Go.RowKit
set_option linter.unusedSimpArgs false
set_option linter.unusedVariables false

theorem infoPce : (Tryd.prog.info? 70).map (fun i => (i.zero, i.size, i.bytes)) = some (some (.agg #[.bool false, .slice none 0 0]), 2, 32) := by kernel_rfl

theorem rows_apart2 {w : World} {base base' e e' z z' : Nat} {v v' : Value} {n n' : Nat} {xs xs' : List Value} (h : w.ownsRow base e z v n xs) (h' : w.ownsRow base' e' z' v' n' xs') (hne : e ≠ e') : v'.ownBlock = none ∨ v'.ownBlock ≠ v.ownBlock := by
  rcases h.2 with ⟨rfl, _⟩ | ⟨g, cap, cur, rfl, _, hg, _⟩
  · rcases h'.2 with ⟨rfl, _⟩ | ⟨g', cap', cur', rfl, _, hg', _⟩
    · exact .inl rfl
    · exact .inr (by simp [Value.ownBlock])
  · rcases h'.2 with ⟨rfl, _⟩ | ⟨g', cap', cur', rfl, _, hg', _⟩
    · exact .inl rfl
    · refine .inr fun e1 => hne ?_
      simp only [Value.ownBlock, Option.some.injEq] at e1
      subst e1
      rw [hg] at hg'
      simp only [Option.some.injEq, Obj.cells.injEq] at hg'
      exact hg'.2.1
theorem owns_any_below {w w' : World} {base : Nat} {e : TypeId} {z : Nat} {v : Value} {n : Nat} {xs : List Value} (h : w.ownsRow base e z v n xs) (b : Below w.heap.size w w') : w'.ownsRow base e z v n xs :=
  h.kept (grown_of_below b none) (by cases hv : v.ownBlock <;> simp)

/-- Pieces in a row of the call's own, each with a row of signs of its own. -/
def PcsOwn (base : Nat) (w : World) (vo : Value) (xs : List ByteArray) : Prop :=
  ∃ cs, w.ownsRow base 70 2 vo xs.length cs ∧ ∀ k (h : k < xs.length), cs[k * 2]? = some (.bool (manyT xs[k])) ∧ ∃ v, cs[k * 2 + 1]? = some v ∧ w.ownsRow base 76 3 v (sgnsOf xs[k]).length (cellsS (sgnsOf xs[k])) ∧ (sgnsOf xs[k]).length ≤ 12
theorem PcsOwn.start (base : Nat) (w : World) : PcsOwn base w (.slice none 0 0) [] := ⟨[], World.ownsRow_nil _ _ _ _, fun k h => by simp at h⟩
theorem PcsOwn.below {base : Nat} {w w' : World} {vo : Value} {xs : List ByteArray} (h : PcsOwn base w vo xs) (b : Below w.heap.size w w') : PcsOwn base w' vo xs := by
  obtain ⟨cs, h1, h2⟩ := h
  refine ⟨cs, owns_any_below h1 b, fun k hk => ?_⟩
  obtain ⟨e0, v, e1, e2, e3⟩ := h2 k hk
  exact ⟨e0, v, e1, owns_any_below e2 b, e3⟩
theorem PcsOwn.grown {base : Nat} {w w3 : World} {vo v3 v : Value} {xs : List ByteArray} {x : ByteArray} {cs : List Value} (h1 : w.ownsRow base 70 2 vo xs.length cs)
    (h2 : ∀ k (h : k < xs.length), cs[k * 2]? = some (.bool (manyT xs[k])) ∧ ∃ v, cs[k * 2 + 1]? = some v ∧ w.ownsRow base 76 3 v (sgnsOf xs[k]).length (cellsS (sgnsOf xs[k])) ∧ (sgnsOf xs[k]).length ≤ 12)
    (hv : w.ownsRow base 76 3 v (sgnsOf x).length (cellsS (sgnsOf x))) (hl : (sgnsOf x).length ≤ 12) (gr : w.grownBy w3 vo.ownBlock) (o3 : w3.ownsRow base 70 2 v3 (xs.length + 1) (cs ++ [.bool (manyT x), v])) : PcsOwn base w3 v3 (xs ++ [x]) := by
  have hcl : cs.length = xs.length * 2 := by have := h1.1; omega
  refine ⟨cs ++ [.bool (manyT x), v], by rw [List.length_append]; exact o3, fun k hk => ?_⟩
  rw [List.length_append, List.length_cons, List.length_nil] at hk
  by_cases e : k < xs.length
  · obtain ⟨e0, v', e1, e2, e3⟩ := h2 k e
    rw [List.getElem_append_left e, List.getElem?_append_left (by omega), List.getElem?_append_left (by omega)]
    exact ⟨e0, v', e1, e2.kept gr (rows_apart2 h1 e2 (by decide)), e3⟩
  · have hke : k = xs.length := by omega
    subst hke
    rw [List.getElem_append_right (Nat.le_refl _), List.getElem?_append_right (by omega), List.getElem?_append_right (by omega)]
    rw [show xs.length * 2 - cs.length = 0 by omega, show xs.length * 2 + 1 - cs.length = 1 by omega]
    simp only [Nat.sub_self, List.getElem_cons_zero]
    exact ⟨rfl, v, rfl, hv.kept gr (rows_apart2 h1 hv (by decide)), hl⟩
theorem PcsOwn.pcs {base : Nat} {w : World} {vo : Value} {xs : List ByteArray} (h : PcsOwn base w vo xs) (h4 : xs.length ≤ 4) : PcsIn (Ow base w.heap.size) w vo xs := by
  obtain ⟨cs, h1, h2⟩ := h
  rcases h1.2 with ⟨hn, h0⟩ | ⟨g, cap, cur, hv, hlo, hg', hcap, hmax, _⟩
  · exact ⟨_, _, by rw [h0]; exact hn, h4, by omega, .inl (List.eq_nil_of_length_eq_zero h0)⟩
  · have hgl := (Array.getElem?_eq_some_iff.1 hg').1
    refine ⟨_, _, hv, h4, hcap, .inr ⟨g, 0, rfl, ⟨hlo, hgl⟩, fun k hk => ?_⟩⟩
    obtain ⟨e0, v, e1, e2, e3⟩ := h2 k hk
    subst hv
    rw [Nat.zero_add]
    exact ⟨(h1.cellAt _ (by omega)).trans e0, v, (h1.cellAt _ (by omega)).trans e1, sgnsIn_owns e2 e3⟩

theorem PcsIn.mono {S S' : Nat → Prop} {w : World} {v : Value} {xs : List ByteArray} (hS : ∀ b, S b → S' b) (h : PcsIn S w v xs) : PcsIn S' w v xs := by
  obtain ⟨q, cap, hv, h4, hc, h⟩ := h
  refine ⟨q, cap, hv, h4, hc, ?_⟩
  rcases h with h | ⟨b, off, hq, hb, h⟩
  · exact .inl h
  · refine .inr ⟨b, off, hq, hS b hb, fun k hk => ?_⟩
    obtain ⟨e0, v, e1, e2⟩ := h k hk
    exact ⟨e0, v, e1, e2.mono hS⟩
theorem PcsIn.keep {S : Nat → Prop} {w w' : World} {v : Value} {xs : List ByteArray} (hk : Kp S w w') (h : PcsIn S w v xs) : PcsIn S w' v xs := by
  obtain ⟨q, cap, hv, h4, hc, h⟩ := h
  refine ⟨q, cap, hv, h4, hc, ?_⟩
  rcases h with h | ⟨b, off, hq, hb, h⟩
  · exact .inl h
  · refine .inr ⟨b, off, hq, hb, fun k hh => ?_⟩
    obtain ⟨e0, v, e1, e2⟩ := h k hh
    exact ⟨(hk.cell hb _).trans e0, v, (hk.cell hb _).trans e1, e2.keep hk⟩

def GlobPost (w : World) (s : ByteArray) (e : Ending) (w' : World) : Prop :=
  ∃ v, e = .returned (.tuple #[v, .bool (globB s)]) ∧ (globB s = true → PcsIn (Ow w.heap.size w'.heap.size) w' v (splitS s 47)) ∧ Below w.heap.size w w'

set_option maxHeartbeats 4000000 in
set_option maxRecDepth 100000 in
theorem implRead_c (s : ByteArray) (w : World) (hs : s.size ≤ 1048576) : Calls Tryd.prog 38 #[.string s] w (GlobPost w s) := by
  obtain ⟨i0, hi0, hz0, hz1, hz2⟩ := info_parts infoPce
  obtain ⟨l, hl⟩ : ∃ l, l = splitS s 47 := ⟨_, rfl⟩
  have hsz : ∀ x ∈ l, x.size ≤ 1048576 := fun x hx => by rw [hl] at hx; have := splitS_piece s 47 x hx; omega
  have hln : l.length ≤ 1048577 := by rw [hl]; have := splitS_len s 47; omega
  have HG : Hid (globB s = (decide (l.length ≤ 4) && l.all pieceB)) := by show _ = _; rw [globB, ← hl]
  have HL : Hid (splitS s 47 = l) := hl.symm
  have hcs := implSplit_c s 47 w hs (by omega) (by omega)
  rw [← hl] at hcs
  clear hl
  by_cases h4 : 4 < l.length
  · have h4' : (4 : Int) < (l.length : Int) := by omega
    have HP : Hid (globB s = false) := by show _ = _; rw [HG.out, decide_eq_false (by omega)]; rfl
    go_enter Tryd.func38, Tryd.ntmps38
    go_wp2_with (go_at_call 50; refine hcs.mono ?_; rintro e w1 ⟨v, rfl, ho, hb⟩; obtain ⟨a, cap, rfl, _, hc⟩ := reads_strs (reads_of_owns ho); clear ho hcs)
    go_ret2
    exact ⟨_, by rw [HP.out]; rfl, (fun h => by rw [HP.out] at h; cases h), hb⟩
  have h4' : ¬ (4 : Int) < (l.length : Int) := by omega
  have hl4 : l.length ≤ 4 := by omega
  clear h4
  go_enter Tryd.func38, Tryd.ntmps38
  go_wp2_with (go_at_call 50; refine hcs.mono ?_; rintro e w1 ⟨v, rfl, ho, hb⟩; obtain ⟨a, cap, rfl, _, hc⟩ := reads_strs (reads_of_owns ho); clear ho hcs)
  go_loopw [5, 17] (fun vo vi wr => ∃ k : Nat, k ≤ l.length ∧ vi = .int .i64 (k : Int) ∧ Hid ((l.take k).all pieceB = true) ∧ PcsOwn w1.heap.size wr vo (l.take k) ∧ Below w1.heap.size w1 wr) (fun _ vi _ => l.length - (intOf vi).toNat)
  case atStart => exact ⟨0, Nat.zero_le _, rfl, (by show _ = _; simp), PcsOwn.start _ _, Below.refl _ _⟩
  case round =>
    obtain ⟨k, hk, rfl, hh, hpo, hbr⟩ := hrel
    have hbw : Below w.heap.size w wr := hb.trans (hbr.mono hb.size)
    by_cases hlt : k < l.length
    · rcases hc with rfl | ⟨b, off, rfl, hbl, hc⟩
      · simp at hlt
      have hki : (k : Int) < (l.length : Int) := by omega
      have hcx := (hbr.cell (p := ⟨b, off + k, none⟩) hbl).trans (hc k hlt)
      have hx := hsz l[k] (List.getElem_mem hlt)
      have htk : (l.take k).length = k := by rw [List.length_take]; omega
      have htk1 : l.take (k + 1) = l.take k ++ [l[k]] := List.take_succ_eq_append_getElem hlt
      obtain ⟨x, hxe⟩ : ∃ x, x = l[k] := ⟨_, rfl⟩
      rw [← hxe] at hcx hx htk1
      have HX : Hid (x = l[k]) := hxe
      have HTK : Hid (l.take (k + 1) = l.take k ++ [x]) := htk1
      have HC : Hid (∀ w, Calls Tryd.prog 51 #[.string x] w (SgnsPost w x)) := fun w => implSigns_c x w hx
      clear hc hxe hsz htk1
      cases hp : pieceB x with
      | false =>
        have HP : Hid (globB s = false) := by show _ = _; rw [HG.out, all_false_at hlt (by rw [← HX.out]; exact hp), Bool.and_false]
        go_wp2_with (go_at_call 51; refine (HC.out _).mono ?_; rintro e w2 ⟨v2, rfl, _, b2⟩; rw [hp])
        go_ret2
        exact ⟨_, by rw [HP.out]; rfl, (fun h => by rw [HP.out] at h; cases h), hbw.trans (b2.mono hbw.size)⟩
      | true =>
        have hall := all_take_step hlt hh.out (by rw [← HX.out]; exact hp)
        have HALL : Hid ((l.take (k + 1)).all pieceB = true) := hall
        clear hall
        go_wp2_with (first
          | (go_at_call 51; refine (HC.out _).mono ?_; rintro e w2 ⟨v2, rfl, o2, b2⟩
             obtain ⟨o2, hl2⟩ := o2 hp
             rw [hp]
             have o2 := owns_lower3 o2 hbr.size
             obtain ⟨cs, hco, hcc⟩ := hpo.below b2
             have hb2 : Below w1.heap.size w1 w2 := hbr.trans (b2.mono hbr.size)
             obtain ⟨q2, c2, hv2⟩ : ∃ q c, v2 = .slice q (sgnsOf x).length c := by
               rcases o2.2 with ⟨h1, h2⟩ | ⟨g, c, cur, rfl, _⟩
               · exact ⟨none, 0, by rw [h1, h2]⟩
               · exact ⟨_, _, rfl⟩
             subst hv2)
          | (at_builtin; refine wpList_append_own _ rfl _ _ 57 rfl w1.heap.size 70 i0 (.agg #[.bool false, .slice none 0 0]) 2 32 Tryd.underlying57 hi0 hz0 hz1 hz2 rfl (by decide) _ (l.take k).length cs rfl (hco.alloc _) ⟨w2.heap.size, 0, none⟩ 1 1 [.bool (x.toList == [42, 42]), .slice q2 (sgnsOf x).length c2] rfl rfl (cell_two_c _ _ _ _) (fun u hu => by simp at hu; rcases hu with rfl | rfl <;> rfl) (by unfold maxLen; omega) (by omega) (by have := hb2.size; simp; omega) ?_))
        intro v3 w3 o3 gr3 _
        have hb3 : Below w1.heap.size w1 w3 := Below.grown (hb2.alloc hb2.size _) gr3 (by have := hb2.size; simp; omega) (fun j hj => (hco.lt _ hj).1)
        have hpo3 : PcsOwn w1.heap.size w3 v3 (l.take k ++ [x]) := PcsOwn.grown (hco.alloc _) (fun j hj => by obtain ⟨e0, v, e1, e2, e3⟩ := hcc j hj; exact ⟨e0, v, e1, e2.alloc _, e3⟩) (o2.alloc _) hl2 gr3 (by rw [htk]; exact o3)
        rw [← HTK.out] at hpo3
        clear gr3 o3 hco hcc o2
        go_wp2_with fail
        go_roundw
        case rel => exact ⟨k + 1, by omega, by go_num, HALL, hpo3, hb3⟩
        case measure => simp [intOf]; omega
    · have he : k = l.length := by omega
      subst he
      have ha : l.all pieceB = true := by have := hh.out; rwa [List.take_length] at this
      rw [List.take_length] at hpo
      have HP : Hid (globB s = true) := by show _ = _; rw [HG.out, ha, decide_eq_true hl4]; rfl
      have HQ : Hid (PcsIn (Ow w.heap.size wr.heap.size) wr (u5) (splitS s 47)) := by rw [HL.out]; exact (hpo.pcs hl4).mono (fun b h => ⟨Nat.le_trans hb.size h.1, h.2⟩)
      clear hc hsz ha
      go_wp2_with fail
      go_ret2
      exact ⟨_, by rw [HP.out]; rfl, fun _ => HQ.out, hbw⟩

theorem implGlob_c (s : ByteArray) (w : World) (hs : s.size ≤ 1048576) :
    Calls Tryd.prog 22 #[.string s] w fun e w' => e = .returned (.bool (globB s)) ∧ Below w.heap.size w w' := by
  have HC := implRead_c s w hs
  go_enter Tryd.func22, Tryd.ntmps22
  go_wp2_with (go_at_call 38; refine HC.mono ?_; rintro e w1 ⟨v, rfl, _, b1⟩)
  go_ret
  exact ⟨rfl, b1⟩

def matchB (g p : ByteArray) : Bool := globB g && (pathB p && fullG manyT takesT (splitS g 47) (splitS p 47))

set_option maxHeartbeats 1000000 in
theorem implMatches_c (g p : ByteArray) (w : World) (hg : g.size ≤ 1048576) (hp : p.size ≤ 1048576) :
    Calls Tryd.prog 40 #[.string g, .string p] w fun e w' => e = .returned (.bool (matchB g p)) ∧ Below w.heap.size w w' := by
  have HC := implRead_c g w hg
  have HP : Hid (∀ w, Calls Tryd.prog 52 #[.string p] w fun e w' => e = .returned (.bool (pathB p)) ∧ Below w.heap.size w w') := fun w => implPath_c p w hp
  have HS : Hid (∀ w, Calls Tryd.prog 50 #[.string p, .int .u8 47] w fun e w' => ∃ v, e = .returned v ∧ w'.ownsRow w.heap.size 9 1 v (splitS p 47).length (strsV (splitS p 47)) ∧ Below w.heap.size w w') := fun w => implSplit_c p 47 w hp (by omega) (by omega)
  have HM : Hid (matchB g p = (globB g && (pathB p && fullG manyT takesT (splitS g 47) (splitS p 47)))) := rfl
  have hsz : ∀ x ∈ splitS p 47, x.size ≤ 1048576 := fun x hx => by have := splitS_piece p 47 x hx; omega
  have hln : (splitS p 47).length ≤ 1048577 := by have := splitS_len p 47; omega
  cases h1 : globB g with
  | false =>
    have HE : Hid (matchB g p = false) := by show _ = _; rw [HM.out, h1]; rfl
    go_enter Tryd.func40, Tryd.ntmps40
    go_wp2_with (go_at_call 38; refine HC.mono ?_; rintro e w1 ⟨v, rfl, _, b1⟩; rw [h1])
    go_ret
    exact ⟨by rw [HE.out]; try rfl, b1⟩
  | true =>
    cases h2 : pathB p with
    | false =>
      have HE : Hid (matchB g p = false) := by show _ = _; rw [HM.out, h1, h2]; rfl
      go_enter Tryd.func40, Tryd.ntmps40
      go_wp2_with (first
        | (go_at_call 38; refine HC.mono ?_; rintro e w1 ⟨v, rfl, _, b1⟩; rw [h1])
        | (go_at_call 52; refine (HP.out _).mono ?_; rintro e w2 ⟨rfl, b2⟩; rw [h2]))
      go_ret
      exact ⟨by rw [HE.out]; try rfl, b1.trans (b2.mono b1.size)⟩
    | true =>
      have HE : Hid (matchB g p = fullG manyT takesT (splitS g 47) (splitS p 47)) := by show _ = _; rw [HM.out, h1, h2]; rfl
      go_enter Tryd.func40, Tryd.ntmps40
      go_wp2_with (first
        | (go_at_call 38; refine HC.mono ?_; rintro e w1 ⟨v, rfl, hpi, b1⟩; rw [h1]; have hpi := hpi h1)
        | (go_at_call 52; refine (HP.out _).mono ?_; rintro e w2 ⟨rfl, b2⟩; rw [h2]; have hpi2 := hpi.keep (Ow.below b2))
        | (go_at_call 50; refine (HS.out _).mono ?_; rintro e w3 ⟨u, rfl, o3, b3⟩; have hpi3 := hpi2.keep (.of b3 (fun b h => Nat.lt_of_lt_of_le h.2 b2.size)))
        | (go_at_call 53; refine (goPieces_c _ v u _ _ w3 hpi3 (fun b h => Nat.lt_of_lt_of_le h.2 (Nat.le_trans b2.size b3.size)) (reads_of_owns o3) hsz hln).mono ?_; rintro e w4 ⟨rfl, b4⟩))
      go_ret
      have k2 := b1.trans (b2.mono b1.size)
      have k3 := k2.trans (b3.mono k2.size)
      exact ⟨by rw [HE.out]; try rfl, k3.trans (b4.mono k3.size)⟩
end Go.Proofs.YtdiopkegaeliaaaDoor

/-! The contracts of the library for whether a text begins with another one, for what is left of it without it ahead or behind, and for whether it has a sign, taken over from the library of contracts at the numbers of this program; conditions as each says. -/
namespace Go.Proofs
open Go.Shelf
def Tryd.lays210_ren : Go.Shelf.Ren := ⟨fun | 210 => 45 | 206 => 24 | n => n, fun | 9 => 9 | 4 => 4 | 3 => 3 | n => n, fun | n => n⟩
theorem Tryd.lays210 : Go.Proofs.Lays.n210 Tryd.prog Tryd.lays210_ren := {
  mixed := by kernel_rfl
  f206 := Tryd.func24.trans (congrArg some (by kernel_rfl))
  f210 := Tryd.func45.trans (congrArg some (by kernel_rfl))
  t3 := Tryd.underlying3
  a3 := Tryd.isAgg3
  z3 := Tryd.sizeOf3
  v3 := Tryd.zeroValue3
  t4 := Tryd.underlying4
  a4 := Tryd.isAgg4
  z4 := Tryd.sizeOf4
  v4 := Tryd.zeroValue4
  t9 := Tryd.underlying9
  a9 := Tryd.isAgg9
  z9 := Tryd.sizeOf9
  v9 := Tryd.zeroValue9 }
open Go.RowKit in
theorem Tryd.stringslite_CutPrefix (s p : ByteArray) (w : World) :
    Calls Tryd.prog 45 #[.string s, .string p] w fun e w' => e = .returned (.tuple #[.string ⟨(Lib.trimPrefix s.data.toList p.data.toList).toArray⟩, .bool (Lib.hasPrefix s.data.toList p.data.toList)]) ∧ w' = w := Any.stringslite_CutPrefix Tryd.lays210 s p w
def Tryd.lays103_ren : Go.Shelf.Ren := ⟨fun | 103 => 30 | 210 => 45 | 206 => 24 | n => n, fun | 9 => 9 | 4 => 4 | 24 => 46 | 3 => 3 | n => n, fun | n => n⟩
theorem Tryd.lays103 : Go.Proofs.Lays.n103 Tryd.prog Tryd.lays103_ren := {
  mixed := by kernel_rfl
  f103 := Tryd.func30.trans (congrArg some (by kernel_rfl))
  f206 := Tryd.func24.trans (congrArg some (by kernel_rfl))
  f210 := Tryd.func45.trans (congrArg some (by kernel_rfl))
  t3 := Tryd.underlying3
  a3 := Tryd.isAgg3
  z3 := Tryd.sizeOf3
  v3 := Tryd.zeroValue3
  t4 := Tryd.underlying4
  a4 := Tryd.isAgg4
  z4 := Tryd.sizeOf4
  v4 := Tryd.zeroValue4
  t9 := Tryd.underlying9
  a9 := Tryd.isAgg9
  z9 := Tryd.sizeOf9
  v9 := Tryd.zeroValue9
  t24 := Tryd.underlying46
  a24 := Tryd.isAgg46
  z24 := Tryd.sizeOf46
  v24 := Tryd.zeroValue46 }
open Go.RowKit in
theorem Tryd.strings_CutPrefix (s p : ByteArray) (w : World) :
    Calls Tryd.prog 30 #[.string s, .string p] w fun e w' => e = .returned (.tuple #[.string ⟨(Lib.trimPrefix s.data.toList p.data.toList).toArray⟩, .bool (Lib.hasPrefix s.data.toList p.data.toList)]) ∧ w' = w := Any.strings_CutPrefix Tryd.lays103 s p w
def Tryd.lays211_ren : Go.Shelf.Ren := ⟨fun | 211 => 48 | 207 => 60 | n => n, fun | 9 => 9 | 4 => 4 | 3 => 3 | n => n, fun | n => n⟩
theorem Tryd.lays211 : Go.Proofs.Lays.n211 Tryd.prog Tryd.lays211_ren := {
  mixed := by kernel_rfl
  f207 := Tryd.func60.trans (congrArg some (by kernel_rfl))
  f211 := Tryd.func48.trans (congrArg some (by kernel_rfl))
  t3 := Tryd.underlying3
  a3 := Tryd.isAgg3
  z3 := Tryd.sizeOf3
  v3 := Tryd.zeroValue3
  t4 := Tryd.underlying4
  a4 := Tryd.isAgg4
  z4 := Tryd.sizeOf4
  v4 := Tryd.zeroValue4
  t9 := Tryd.underlying9
  a9 := Tryd.isAgg9
  z9 := Tryd.sizeOf9
  v9 := Tryd.zeroValue9 }
open Go.RowKit in
theorem Tryd.stringslite_CutSuffix (s p : ByteArray) (w : World) (hs : s.size ≤ 9223372036854775807) :
    Calls Tryd.prog 48 #[.string s, .string p] w fun e w' => e = .returned (.tuple #[.string ⟨(Lib.trimSuffix s.data.toList p.data.toList).toArray⟩, .bool (Lib.hasSuffix s.data.toList p.data.toList)]) ∧ w' = w := Any.stringslite_CutSuffix Tryd.lays211 s p w hs
def Tryd.lays104_ren : Go.Shelf.Ren := ⟨fun | 104 => 33 | 211 => 48 | 207 => 60 | n => n, fun | 9 => 9 | 4 => 4 | 24 => 46 | 3 => 3 | n => n, fun | n => n⟩
theorem Tryd.lays104 : Go.Proofs.Lays.n104 Tryd.prog Tryd.lays104_ren := {
  mixed := by kernel_rfl
  f104 := Tryd.func33.trans (congrArg some (by kernel_rfl))
  f207 := Tryd.func60.trans (congrArg some (by kernel_rfl))
  f211 := Tryd.func48.trans (congrArg some (by kernel_rfl))
  t3 := Tryd.underlying3
  a3 := Tryd.isAgg3
  z3 := Tryd.sizeOf3
  v3 := Tryd.zeroValue3
  t4 := Tryd.underlying4
  a4 := Tryd.isAgg4
  z4 := Tryd.sizeOf4
  v4 := Tryd.zeroValue4
  t9 := Tryd.underlying9
  a9 := Tryd.isAgg9
  z9 := Tryd.sizeOf9
  v9 := Tryd.zeroValue9
  t24 := Tryd.underlying46
  a24 := Tryd.isAgg46
  z24 := Tryd.sizeOf46
  v24 := Tryd.zeroValue46 }
open Go.RowKit in
theorem Tryd.strings_CutSuffix (s p : ByteArray) (w : World) (hs : s.size ≤ 9223372036854775807) :
    Calls Tryd.prog 33 #[.string s, .string p] w fun e w' => e = .returned (.tuple #[.string ⟨(Lib.trimSuffix s.data.toList p.data.toList).toArray⟩, .bool (Lib.hasSuffix s.data.toList p.data.toList)]) ∧ w' = w := Any.strings_CutSuffix Tryd.lays104 s p w hs
def Tryd.lays144_ren : Go.Shelf.Ren := ⟨fun | 144 => 21 | 143 => 29 | 219 => 44 | 217 => 55 | 225 => 56 | 224 => 57 | 267 => 58 | 266 => 67 | 314 => 68 | n => n, fun | 9 => 9 | 4 => 4 | 3 => 3 | 5 => 5 | 46 => 73 | 146 => 83 | 51 => 82 | n => n, fun | 1 => 0 | n => n⟩
theorem Tryd.lays144 : Go.Proofs.Lays.n144 Tryd.prog Tryd.lays144_ren := {
  mixed := by kernel_rfl
  f143 := Tryd.func29.trans (congrArg some (by kernel_rfl))
  f144 := Tryd.func21.trans (congrArg some (by kernel_rfl))
  f217 := Tryd.func55.trans (congrArg some (by kernel_rfl))
  f219 := Tryd.func44.trans (congrArg some (by kernel_rfl))
  f224 := Tryd.func57.trans (congrArg some (by kernel_rfl))
  f225 := Tryd.func56.trans (congrArg some (by kernel_rfl))
  f266 := Tryd.func67.trans (congrArg some (by kernel_rfl))
  f267 := Tryd.func58.trans (congrArg some (by kernel_rfl))
  f314 := Tryd.func68.trans (congrArg some (by kernel_rfl))
  t3 := Tryd.underlying3
  a3 := Tryd.isAgg3
  z3 := Tryd.sizeOf3
  v3 := Tryd.zeroValue3
  t4 := Tryd.underlying4
  a4 := Tryd.isAgg4
  z4 := Tryd.sizeOf4
  v4 := Tryd.zeroValue4
  t5 := Tryd.underlying5
  a5 := Tryd.isAgg5
  z5 := Tryd.sizeOf5
  v5 := Tryd.zeroValue5
  t9 := Tryd.underlying9
  a9 := Tryd.isAgg9
  z9 := Tryd.sizeOf9
  v9 := Tryd.zeroValue9
  t46 := Tryd.underlying73
  a46 := Tryd.isAgg73
  z46 := Tryd.sizeOf73
  v46 := Tryd.zeroValue73
  t51 := Tryd.underlying82
  a51 := Tryd.isAgg82
  z51 := Tryd.sizeOf82
  v51 := Tryd.zeroValue82
  t146 := Tryd.underlying83
  a146 := Tryd.isAgg83
  z146 := Tryd.sizeOf83
  v146 := Tryd.zeroValue83
  g1 := by kernel_rfl }
open Go.RowKit Go.Lib in
theorem Tryd.strings_Contains_one (s : ByteArray) (c : UInt8) (w : World) :
    Calls Tryd.prog 21 #[.string s, .string ⟨#[c]⟩] w fun e w' => e = .returned (.bool (decide (0 ≤ Lib.indexByte s.data.toList c))) ∧ w' = w := Any.strings_Contains_one Tryd.lays144 s c w
open Go.RowKit Go.Lib in
theorem Tryd.strings_Contains (s sub : ByteArray) (m : Int) (w : World) (hs : s.size < 4294967281) (hm : w.cell? ⟨0, 0, none⟩ = some (.int .i64 m)) :
    Calls Tryd.prog 21 #[.string s, .string sub] w fun e w' => e = .returned (.bool (Lib.contains s.data.toList sub.data.toList)) ∧ w' = w := Any.strings_Contains Tryd.lays144 s sub m w hs hm
def Tryd.lays206_ren : Go.Shelf.Ren := ⟨fun | 206 => 24 | n => n, fun | 9 => 9 | 4 => 4 | 3 => 3 | n => n, fun | n => n⟩
theorem Tryd.lays206 : Go.Proofs.Lays.n206 Tryd.prog Tryd.lays206_ren := {
  mixed := by kernel_rfl
  f206 := Tryd.func24.trans (congrArg some (by kernel_rfl))
  t3 := Tryd.underlying3
  a3 := Tryd.isAgg3
  z3 := Tryd.sizeOf3
  v3 := Tryd.zeroValue3
  t4 := Tryd.underlying4
  a4 := Tryd.isAgg4
  z4 := Tryd.sizeOf4
  v4 := Tryd.zeroValue4
  t9 := Tryd.underlying9
  a9 := Tryd.isAgg9
  z9 := Tryd.sizeOf9
  v9 := Tryd.zeroValue9 }
open Go.RowKit Go.Lib in
theorem Tryd.stringslite_HasPrefix (s p : ByteArray) (w : World) :
    Calls Tryd.prog 24 #[.string s, .string p] w fun e w' => e = .returned (.bool (Lib.hasPrefix s.data.toList p.data.toList)) ∧ w' = w := Any.stringslite_HasPrefix Tryd.lays206 s p w
def Tryd.lays99_ren : Go.Shelf.Ren := ⟨fun | 99 => 14 | 206 => 24 | n => n, fun | 9 => 9 | 4 => 4 | 3 => 3 | n => n, fun | n => n⟩
theorem Tryd.lays99 : Go.Proofs.Lays.n99 Tryd.prog Tryd.lays99_ren := {
  mixed := by kernel_rfl
  f99 := Tryd.func14.trans (congrArg some (by kernel_rfl))
  f206 := Tryd.func24.trans (congrArg some (by kernel_rfl))
  t3 := Tryd.underlying3
  a3 := Tryd.isAgg3
  z3 := Tryd.sizeOf3
  v3 := Tryd.zeroValue3
  t4 := Tryd.underlying4
  a4 := Tryd.isAgg4
  z4 := Tryd.sizeOf4
  v4 := Tryd.zeroValue4
  t9 := Tryd.underlying9
  a9 := Tryd.isAgg9
  z9 := Tryd.sizeOf9
  v9 := Tryd.zeroValue9 }
open Go.RowKit Go.Lib in
theorem Tryd.strings_HasPrefix (s p : ByteArray) (w : World) :
    Calls Tryd.prog 14 #[.string s, .string p] w fun e w' => e = .returned (.bool (Lib.hasPrefix s.data.toList p.data.toList)) ∧ w' = w := Any.strings_HasPrefix Tryd.lays99 s p w
end Go.Proofs

/-! The contract of the library for cutting a text at each place where another stands, taken over from the library of contracts at the numbers of this program; conditions as it says. -/
namespace Go.Proofs
open Go.Shelf
def Tryd.lays147_ren : Go.Shelf.Ren := ⟨fun | 147 => 12 | 221 => 18 | 268 => 27 | 138 => 28 | 143 => 29 | 195 => 41 | 197 => 42 | 218 => 43 | 219 => 44 | 260 => 54 | 217 => 55 | 225 => 56 | 224 => 57 | 267 => 58 | 266 => 67 | 314 => 68 | n => n, fun | 9 => 9 | 3 => 3 | 31 => 23 | 4 => 4 | 0 => 0 | 105 => 61 | 21 => 21 | 5 => 5 | 46 => 73 | 119 => 78 | 139 => 81 | 138 => 80 | 146 => 83 | 51 => 82 | n => n, fun | 1 => 0 | 3 => 1 | 4 => 2 | n => n⟩
theorem Tryd.lays147 : Go.Proofs.Lays.n147 Tryd.prog Tryd.lays147_ren := {
  mixed := by kernel_rfl
  f138 := Tryd.func28.trans (congrArg some (by kernel_rfl))
  f143 := Tryd.func29.trans (congrArg some (by kernel_rfl))
  f147 := Tryd.func12.trans (congrArg some (by kernel_rfl))
  f195 := Tryd.func41.trans (congrArg some (by kernel_rfl))
  f197 := Tryd.func42.trans (congrArg some (by kernel_rfl))
  f217 := Tryd.func55.trans (congrArg some (by kernel_rfl))
  f218 := Tryd.func43.trans (congrArg some (by kernel_rfl))
  f219 := Tryd.func44.trans (congrArg some (by kernel_rfl))
  f221 := Tryd.func18.trans (congrArg some (by kernel_rfl))
  f224 := Tryd.func57.trans (congrArg some (by kernel_rfl))
  f225 := Tryd.func56.trans (congrArg some (by kernel_rfl))
  f260 := Tryd.func54.trans (congrArg some (by kernel_rfl))
  f266 := Tryd.func67.trans (congrArg some (by kernel_rfl))
  f267 := Tryd.func58.trans (congrArg some (by kernel_rfl))
  f268 := Tryd.func27.trans (congrArg some (by kernel_rfl))
  f314 := Tryd.func68.trans (congrArg some (by kernel_rfl))
  t0 := Tryd.underlying0
  a0 := Tryd.isAgg0
  z0 := Tryd.sizeOf0
  v0 := Tryd.zeroValue0
  t3 := Tryd.underlying3
  a3 := Tryd.isAgg3
  z3 := Tryd.sizeOf3
  v3 := Tryd.zeroValue3
  t4 := Tryd.underlying4
  a4 := Tryd.isAgg4
  z4 := Tryd.sizeOf4
  v4 := Tryd.zeroValue4
  t5 := Tryd.underlying5
  a5 := Tryd.isAgg5
  z5 := Tryd.sizeOf5
  v5 := Tryd.zeroValue5
  t9 := Tryd.underlying9
  a9 := Tryd.isAgg9
  z9 := Tryd.sizeOf9
  v9 := Tryd.zeroValue9
  t21 := Tryd.underlying21
  a21 := Tryd.isAgg21
  z21 := Tryd.sizeOf21
  v21 := Tryd.zeroValue21
  t31 := Tryd.underlying23
  a31 := Tryd.isAgg23
  z31 := Tryd.sizeOf23
  v31 := Tryd.zeroValue23
  t46 := Tryd.underlying73
  a46 := Tryd.isAgg73
  z46 := Tryd.sizeOf73
  v46 := Tryd.zeroValue73
  t51 := Tryd.underlying82
  a51 := Tryd.isAgg82
  z51 := Tryd.sizeOf82
  v51 := Tryd.zeroValue82
  t105 := Tryd.underlying61
  a105 := Tryd.isAgg61
  z105 := Tryd.sizeOf61
  v105 := Tryd.zeroValue61
  t119 := Tryd.underlying78
  a119 := Tryd.isAgg78
  z119 := Tryd.sizeOf78
  t138 := Tryd.underlying80
  a138 := Tryd.isAgg80
  z138 := Tryd.sizeOf80
  v138 := Tryd.zeroValue80
  t139 := Tryd.underlying81
  a139 := Tryd.isAgg81
  z139 := Tryd.sizeOf81
  v139 := Tryd.zeroValue81
  t146 := Tryd.underlying83
  a146 := Tryd.isAgg83
  z146 := Tryd.sizeOf83
  v146 := Tryd.zeroValue83
  g1 := by kernel_rfl
  g3 := by kernel_rfl
  g4 := by kernel_rfl }
open Go.RowKit Go.Lib in
theorem Tryd.strings_SplitN (s sep : ByteArray) (n : Nat) (m : Int) (w : World) (hs : s.size < 4294967281) (hm : w.cell? ⟨0, 0, none⟩ = some (.int .i64 m)) (h1 : 1 ≤ sep.size) (hn : 1 ≤ n) (hn63 : n ≤ 9223372036854775807) :
    Calls Tryd.prog 12 #[.string s, .string sep, .int .i64 n] w fun e w' =>
      e = .returned (.slice (some ⟨w.heap.size, 0, none⟩) (Lib.splitB sep 0 (min n (s.size + 1) - 1) s).length (min n (s.size + 1))) ∧ w' = w.alloc (.cells (Lib.cellsOf (Lib.splitB sep 0 (min n (s.size + 1) - 1) s) (min n (s.size + 1))) 9) := Any.strings_SplitN Tryd.lays147 (by kernel_rfl) s sep n m w hs hm h1 hn hn63
end Go.Proofs
