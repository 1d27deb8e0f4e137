/-
  What the program's ParseVer answers: what its reader tells of the text's bytes: a contract for the walks; condition: the text has at most 2 to the 20 bytes.
-/
import Derived.Test.YtdnpfkknnaepoaaDoorVerN
namespace Go.Proofs.YtdnpfkknnaepoaaDoor
open Go.RowKit
set_option linter.unusedSimpArgs false
set_option linter.unusedVariables false

def wordL (s : ByteArray) (b i : Nat) : List Int := (s.extract b i).data.toList.map fun u => (u.toNat : Int)
theorem word_str (s : ByteArray) (b i : Nat) : strOfNums (wordL s b i) = s.extract b i := by
  apply vext
  rw [strOfNums_data, wordL, List.map_map]
  conv => rhs; rw [← List.map_id (s.extract b i).data.toList]
  apply List.map_congr_left
  intro u _
  simp
theorem word_nil (s : ByteArray) (b : Nat) : wordL s b b = [] := by rw [wordL, vextract, Nat.sub_self]; rfl
theorem word_snoc (s : ByteArray) (b i : Nat) (hb : b ≤ i) (hi : i < s.size) : wordL s b (i + 1) = wordL s b i ++ [((s.data[i]!).toNat : Int)] := by
  rw [wordL, wordL, vextract, vextract, show i + 1 - b = (i - b) + 1 by omega, List.take_succ_eq_append_getElem (by rw [List.length_drop, vlen]; omega), List.map_append, List.getElem_drop]
  have e : s.data.toList[b + (i - b)]'(by rw [vlen]; omega) = s.data[i]! := by
    rw [getElem!_pos s.data i hi]
    simp [show b + (i - b) = i by omega]
  rw [e]; rfl
theorem word_len (s : ByteArray) (b i : Nat) (hb : b ≤ i) (hi : i ≤ s.size) : (wordL s b i).length = i - b := by
  rw [wordL, List.length_map, vlen, vsize s b i hb hi]

/-- What a sign does. -/
def endsB (c : Int) (inP : Bool) : Bool := c == 46 || (c == 45 && !inP)
def takeOk (c : Int) (ns : List Int) (ps : List ByteArray) (inP : Bool) (t : ByteArray) : Bool := if endsB c inP then endOk ns ps inP t else preB c
def takeNs (c : Int) (ns : List Int) (inP : Bool) (t : ByteArray) : List Int := if endsB c inP then endNs ns inP t else ns
def takePs (c : Int) (ps : List ByteArray) (inP : Bool) (t : ByteArray) : List ByteArray := if endsB c inP then endPs ps inP t else ps
def takeIn (c : Int) (inP : Bool) : Bool := inP || c == 45
def takeWs (c : Int) (ws : List Int) (inP : Bool) : List Int := if endsB c inP then [] else ws ++ [c]

theorem takes_c (R base : Nat) (ws ns : List Int) (ps : List ByteArray) (inP : Bool) (c : Int) (w : World) (h : Rd w R base ws ns ps inP) (hR : R < base) (hbw : base ≤ w.heap.size) (hw : ws.length ≤ 1048576) (hns : ns.length ≤ 1048576) (hps : ps.length ≤ 1048576) :
    Calls Tryd.prog 36 #[.pointer (some ⟨R, 0, none⟩), .int .i32 c] w fun e w' => e = .returned (.bool (takeOk c ns ps inP (strOfNums ws))) ∧ (takeOk c ns ps inP (strOfNums ws) = true → Rd w' R base (takeWs c ws inP) (takeNs c ns inP (strOfNums ws)) (takePs c ps inP (strOfNums ws)) (takeIn c inP)) ∧ Only R base w w' := by
  by_cases h1 : c = 46
  · subst h1
    refine (takes_dot R base ws ns ps inP w h hR hbw hw hns hps).mono ?_
    rintro e w' ⟨rfl, h1, o1⟩
    have e : endsB 46 inP = true := by simp [endsB]
    have e2 : takeIn 46 inP = inP := by simp [takeIn]
    rw [takeOk, takeWs, takeNs, takePs, e, e2]
    exact ⟨rfl, fun _ => h1, o1⟩
  · by_cases h2 : c = 45 ∧ inP = false
    · obtain ⟨rfl, rfl⟩ := h2
      refine (takes_dash R base ws ns ps w h hR hbw hw hns hps).mono ?_
      rintro e w' ⟨rfl, h1, o1⟩
      exact ⟨rfl, fun _ => h1, o1⟩
    · have e : endsB c inP = false := by
        cases inP
        · have : ¬ c = 45 := fun h => h2 ⟨h, rfl⟩
          simp [endsB, h1, this]
        · simp [endsB, h1]
      rw [takeOk, takeWs, takeNs, takePs, e]
      cases hp : preB c with
      | true =>
        refine (takes_sign R base ws ns ps inP c w h hR hbw hw h1 h2 hp).mono ?_
        rintro e w' ⟨rfl, h1, o1⟩
        have e2 : takeIn c inP = inP := by
          cases inP
          · have : ¬ c = 45 := fun h => h2 ⟨h, rfl⟩
            simp [takeIn, this]
          · simp [takeIn]
        rw [e2]
        exact ⟨rfl, fun _ => h1, o1⟩
      | false =>
        have h3 : ¬ c = 45 := fun h => by subst h; exact absurd hp (by decide)
        refine (takes_bad R base ws ns ps inP c w h h1 h3 hp).mono ?_
        rintro e w' ⟨rfl, rfl⟩
        exact ⟨rfl, fun h => by simp at h, Only.refl _ _ _⟩

theorem reads_step (s : ByteArray) (i b : Nat) (ns : List Int) (ps : List ByteArray) (inP : Bool) (hi : i < s.size) (c : Int) (hc : c = ((s.data[i]!).toNat : Int)) :
    reads s (s.size - i) i b ns ps inP = if takeOk c ns ps inP (s.extract b i) then reads s (s.size - (i + 1)) (i + 1) (if endsB c inP then i + 1 else b) (takeNs c ns inP (s.extract b i)) (takePs c ps inP (s.extract b i)) (takeIn c inP) else none := by
  subst hc
  rw [show s.size - i = (s.size - (i + 1)) + 1 by omega, reads]
  generalize ((s.data[i]!).toNat : Int) = c
  by_cases h1 : c = 46
  · subst h1
    simp [takeOk, takeNs, takePs, takeIn, endsB]
  · rw [if_neg h1]
    by_cases h2 : c = 45 ∧ inP = false
    · obtain ⟨rfl, rfl⟩ := h2
      simp [takeOk, takeNs, takePs, takeIn, endsB]
    · rw [if_neg h2]
      have e : endsB c inP = false := by
        cases inP
        · have : ¬ c = 45 := fun h => h2 ⟨h, rfl⟩
          simp [endsB, h1, this]
        · simp [endsB, h1]
      have e2 : takeIn c inP = inP := by
        cases inP
        · have : ¬ c = 45 := fun h => h2 ⟨h, rfl⟩
          simp [takeIn, this]
        · simp [takeIn]
      rw [takeOk, takeNs, takePs, e, e2]
      simp

theorem take_len {c : Int} {ns : List Int} {ps : List ByteArray} {inP : Bool} {t : ByteArray} (h : takeOk c ns ps inP t = true) (hn : ns.length ≤ 3) (hp : ps.length ≤ 3) : (takeNs c ns inP t).length ≤ 3 ∧ (takePs c ps inP t).length ≤ 3 := by
  unfold takeOk takeNs takePs at *
  cases he : endsB c inP
  · simp [he, hn, hp]
  · rw [he] at h
    cases inP
    · simp [endOk, endNs, endPs] at *; omega
    · simp [endOk, endNs, endPs] at *; omega

theorem iter_four {w : World} {R k : Nat} {t : TypeId} {c0 c1 c2 c3 : Value} (h : Four w R t c0 c1 c2 c3) (hk : R ≠ k) (s : ByteArray) (p : Nat) : Four (w.iterAt k s p) R t c0 c1 c2 c3 := (Lib.iterAt_other w k R s p hk).trans h
theorem iter_owns {w : World} {base : Nat} {e : TypeId} {v : Value} {n : Nat} {xs : List Value} (h : w.ownsRow base e 1 v n xs) {k : Nat} (hk : k < base) (s : ByteArray) (p : Nat) : (w.iterAt k s p).ownsRow base e 1 v n xs := by
  obtain ⟨h1, h2⟩ := h
  refine ⟨h1, ?_⟩
  rcases h2 with h2 | ⟨g, cap, cur, a, b, c, d⟩
  · exact .inl h2
  · exact .inr ⟨g, cap, cur, a, b, by rw [Lib.iterAt_other _ _ _ _ _ (by omega)]; exact c, d⟩
theorem Rd.iter {w : World} {R base : Nat} {ws ns : List Int} {ps : List ByteArray} {inP : Bool} (h : Rd w R base ws ns ps inP) {k : Nat} (hk : k < base) (hR : R ≠ k) (s : ByteArray) (p : Nat) : Rd (w.iterAt k s p) R base ws ns ps inP := by
  obtain ⟨x1, x2, x3, y1, y2, y3, y4⟩ := h
  exact ⟨x1, x2, x3, iter_four y1 hR s p, iter_owns y2 hk s p, iter_owns y3 hk s p, iter_owns y4 hk s p⟩

def resAll (s : ByteArray) : Option (List Int × List ByteArray) := reads s s.size 0 0 [] [] false
def resOk (s : ByteArray) : Bool := (resAll s).isSome
def resN (s : ByteArray) (j : Nat) : Int := match resAll s with | some (ns, _) => ns.getD j 0 | none => 0
def resP (s : ByteArray) : List ByteArray := match resAll s with | some (_, ps) => ps | none => []
end Go.Proofs.YtdnpfkknnaepoaaDoor
