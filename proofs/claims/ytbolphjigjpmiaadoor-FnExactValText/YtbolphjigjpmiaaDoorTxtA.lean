/-
  The text of a value: what it is, and how long at most; no program.
-/
import Derived.Test.YtbolphjigjpmiaaDoorValC
import Derived.Test.YtbolphjigjpmiaaDoorNumTextS
import Derived.Lib.ItoaLen
namespace Go.Proofs.YtbolphjigjpmiaaDoor
open Go.RowKit
set_option linter.unusedSimpArgs false
set_option linter.unusedVariables false

def escOf (u : UInt8) : ByteArray := if u = 34 then ⟨#[92, 34]⟩ else if u = 92 then ⟨#[92, 92]⟩ else if u = 10 then ⟨#[92, 110]⟩ else if u = 9 then ⟨#[92, 116]⟩ else ⟨#[u]⟩
def quoteUpto (s : ByteArray) : Nat → ByteArray
  | 0 => ⟨#[34]⟩
  | k + 1 => quoteUpto s k ++ escOf s.data[k]!
def quoteS (s : ByteArray) : ByteArray := quoteUpto s s.size ++ ⟨#[34]⟩
def numS (n : Int) : ByteArray := ⟨(Lib.itoa n).toArray⟩

mutual
def Tree.txt : Tree → ByteArray
  | .mk k n s l ks => if k = 0 then ⟨#[110, 117, 108, 108]⟩ else if k = 1 then (if n = 1 then ⟨#[116, 114, 117, 101]⟩ else ⟨#[102, 97, 108, 115, 101]⟩) else if k = 2 then numS n else if k = 3 then quoteS s
    else if k = 5 then ⟨#[123]⟩ ++ (fieldsTxt l ks true ++ ⟨#[125]⟩) else ⟨#[91]⟩ ++ (itemsTxt l true ++ ⟨#[93]⟩)
def itemsTxt : List Tree → Bool → ByteArray
  | [], _ => ⟨#[]⟩
  | t :: r, first => (if first then ⟨#[]⟩ else ⟨#[44]⟩) ++ t.txt ++ itemsTxt r false
def fieldsTxt : List Tree → List ByteArray → Bool → ByteArray
  | [], _, _ => ⟨#[]⟩
  | t :: r, ks, first => (if first then ⟨#[]⟩ else ⟨#[44]⟩) ++ (quoteS (ks.headD ⟨#[]⟩) ++ ⟨#[58]⟩) ++ t.txt ++ fieldsTxt r ks.tail false
end
theorem txt_mk (k n : Int) (s : ByteArray) (l : List Tree) (ks : List ByteArray) : (Tree.mk k n s l ks).txt = if k = 0 then ⟨#[110, 117, 108, 108]⟩ else if k = 1 then (if n = 1 then ⟨#[116, 114, 117, 101]⟩ else ⟨#[102, 97, 108, 115, 101]⟩) else if k = 2 then numS n else if k = 3 then quoteS s
    else if k = 5 then ⟨#[123]⟩ ++ (fieldsTxt l ks true ++ ⟨#[125]⟩) else ⟨#[91]⟩ ++ (itemsTxt l true ++ ⟨#[93]⟩) := by rw [Tree.txt]

theorem empty_append' (b : ByteArray) : (⟨#[]⟩ : ByteArray) ++ b = b := by apply ByteArray.ext; simp [ByteArray.data_append]
theorem append_empty' (b : ByteArray) : b ++ (⟨#[]⟩ : ByteArray) = b := by apply ByteArray.ext; simp [ByteArray.data_append]

theorem items_snoc (a : List Tree) (t : Tree) : ∀ f, itemsTxt (a ++ [t]) f = itemsTxt a f ++ (if a = [] ∧ f = true then ⟨#[]⟩ else ⟨#[44]⟩) ++ t.txt := by
  induction a with
  | nil => intro f; cases f <;> simp [itemsTxt, empty_append', append_empty']
  | cons x r ih =>
    intro f
    simp only [List.cons_append, itemsTxt, ih false]
    simp [ByteArray.append_assoc]
theorem items_take (l : List Tree) (i : Nat) (h : i < l.length) : itemsTxt (l.take (i + 1)) true = itemsTxt (l.take i) true ++ (if i = 0 then ⟨#[]⟩ else ⟨#[44]⟩) ++ (l[i]).txt := by
  rw [List.take_succ_eq_append_getElem h, items_snoc]
  have : (l.take i = [] ∧ true = true) ↔ i = 0 := by
    constructor
    · intro hh
      have := congrArg List.length hh.1
      simp at this
      rcases this with h1 | h1
      · exact h1
      · subst h1; simp at h
    · intro hh; subst hh; simp
  by_cases h0 : i = 0
  · rw [if_pos (this.2 h0), if_pos h0]
  · rw [if_neg (fun hh => h0 (this.1 hh)), if_neg h0]

theorem fields_snoc (a : List Tree) (t : Tree) : ∀ ks f, fieldsTxt (a ++ [t]) ks f = fieldsTxt a ks f ++ (if a = [] ∧ f = true then ⟨#[]⟩ else ⟨#[44]⟩) ++ (quoteS (ks.getD a.length ⟨#[]⟩) ++ ⟨#[58]⟩) ++ t.txt := by
  induction a with
  | nil => intro ks f; cases f <;> cases ks <;> simp [fieldsTxt, empty_append', append_empty']
  | cons x r ih =>
    intro ks f
    simp only [List.cons_append, fieldsTxt, ih ks.tail false]
    have : ks.tail.getD r.length ⟨#[]⟩ = ks.getD (r.length + 1) ⟨#[]⟩ := by cases ks <;> simp
    rw [this]
    simp [ByteArray.append_assoc]
theorem fields_take (l : List Tree) (ks : List ByteArray) (i : Nat) (h : i < l.length) : fieldsTxt (l.take (i + 1)) ks true = fieldsTxt (l.take i) ks true ++ (if i = 0 then ⟨#[]⟩ else ⟨#[44]⟩) ++ (quoteS (ks.getD i ⟨#[]⟩) ++ ⟨#[58]⟩) ++ (l[i]).txt := by
  rw [List.take_succ_eq_append_getElem h, fields_snoc]
  have : (l.take i = [] ∧ true = true) ↔ i = 0 := by
    constructor
    · intro hh
      have := congrArg List.length hh.1
      simp at this
      rcases this with h1 | h1
      · exact h1
      · subst h1; simp at h
    · intro hh; subst hh; simp
  have hl : (l.take i).length = i := by simp; omega
  rw [hl]
  by_cases h0 : i = 0
  · rw [if_pos (this.2 h0), if_pos h0]
  · rw [if_neg (fun hh => h0 (this.1 hh)), if_neg h0]

theorem esc_size (u : UInt8) : (escOf u).size ≤ 2 := by
  unfold escOf
  repeat' split
  all_goals first | decide | exact (by decide : (1 : Nat) ≤ 2)
theorem quoteUpto_size (s : ByteArray) : ∀ k, (quoteUpto s k).size ≤ 1 + 2 * k
  | 0 => by show (⟨#[34]⟩ : ByteArray).size ≤ 1 + 2 * 0; decide
  | k + 1 => by
    rw [quoteUpto, ByteArray.size_append]
    have := quoteUpto_size s k
    have := esc_size s.data[k]!
    omega
theorem quote_size (s : ByteArray) : (quoteS s).size ≤ 2 + 2 * s.size := by
  rw [quoteS, ByteArray.size_append]
  have := quoteUpto_size s s.size
  have : (⟨#[34]⟩ : ByteArray).size = 1 := by decide
  omega

theorem goodL_mem {l : List Tree} {d : Nat} (h : goodL l d = true) : ∀ U ∈ l, U.good d = true := by
  induction l with
  | nil => intro U hU; simp at hU
  | cons t r ih =>
    intro U hU
    rw [goodL] at h
    simp at h
    simp only [List.mem_cons] at hU
    rcases hU with rfl | hU
    · exact h.1
    · exact ih h.2 U hU

theorem items_size {l : List Tree} (h : ∀ U ∈ l, U.txt.size ≤ 29 * U.wt + 24) : ∀ f, (itemsTxt l f).size ≤ 29 * wtL l := by
  induction l with
  | nil => intro f; simp [itemsTxt, ByteArray.size]
  | cons t r ih =>
    intro f
    have h1 := h t (by simp)
    have h2 := ih (fun U hU => h U (by simp [hU])) false
    have hc : (if f then (⟨#[]⟩ : ByteArray) else ⟨#[44]⟩).size ≤ 1 := by cases f <;> decide
    simp only [itemsTxt, ByteArray.size_append, wtL]
    omega
theorem fields_size {l : List Tree} (h : ∀ U ∈ l, U.txt.size ≤ 29 * U.wt + 24) : ∀ ks f, (fieldsTxt l ks f).size ≤ 29 * wtL l + 2 * bulkS ks := by
  induction l with
  | nil => intro ks f; simp [fieldsTxt, ByteArray.size]
  | cons t r ih =>
    intro ks f
    have h1 := h t (by simp)
    have h2 := ih (fun U hU => h U (by simp [hU])) ks.tail false
    have hc : (if f then (⟨#[]⟩ : ByteArray) else ⟨#[44]⟩).size ≤ 1 := by cases f <;> decide
    have h3 := quote_size (ks.headD ⟨#[]⟩)
    have h4 : (⟨#[58]⟩ : ByteArray).size = 1 := by decide
    have h5 : (ks.headD ⟨#[]⟩).size + bulkS ks.tail ≤ bulkS ks := by
      cases ks with
      | nil => simp [bulkS, ByteArray.size]
      | cons a b => simp [bulkS]; omega
    simp only [fieldsTxt, ByteArray.size_append, wtL]
    omega

theorem num_size (n : Int) (h0 : -9223372036854775808 ≤ n) (h1 : n ≤ 9223372036854775807) : (numS n).size ≤ 21 := by
  have := Lib.itoa_length_le n h0 h1
  simpa [numS, ByteArray.size] using this

theorem txt_size : ∀ (T : Tree) (d : Nat), T.good d = true → T.txt.size ≤ 29 * T.wt + 24 := by
  refine Tree.ind ?_
  intro k n s l ks ih d hg
  rw [good_mk] at hg
  simp at hg
  obtain ⟨⟨_, hh⟩, hl⟩ := hg
  have hU : ∀ U ∈ l, U.txt.size ≤ 29 * U.wt + 24 := fun U hu => ih U hu (d + 1) (goodL_mem hl U hu)
  rw [txt_mk, wt_mk]
  by_cases h0 : k = 0
  · rw [if_pos h0]
    have e : (⟨#[110, 117, 108, 108]⟩ : ByteArray).size = 4 := by decide
    omega
  rw [if_neg h0]
  by_cases h1 : k = 1
  · rw [if_pos h1]
    have e1 : (⟨#[116, 114, 117, 101]⟩ : ByteArray).size = 4 := by decide
    have e2 : (⟨#[102, 97, 108, 115, 101]⟩ : ByteArray).size = 5 := by decide
    split <;> omega
  rw [if_neg h1]
  by_cases h2 : k = 2
  · rw [if_pos h2]
    subst h2
    have : inB n (-999999) 999999 = true := by unfold hereB at hh; simp at hh; exact hh.2
    unfold inB at this
    simp at this
    have := num_size n (by omega) (by omega)
    omega
  rw [if_neg h2]
  by_cases h3 : k = 3
  · rw [if_pos h3]
    have := quote_size s
    omega
  rw [if_neg h3]
  by_cases h5 : k = 5
  · rw [if_pos h5, ByteArray.size_append, ByteArray.size_append]
    have := fields_size hU ks true
    have e1 : (⟨#[123]⟩ : ByteArray).size = 1 := by decide
    have e2 : (⟨#[125]⟩ : ByteArray).size = 1 := by decide
    omega
  · rw [if_neg h5, ByteArray.size_append, ByteArray.size_append]
    have := items_size hU true
    have e1 : (⟨#[91]⟩ : ByteArray).size = 1 := by decide
    have e2 : (⟨#[93]⟩ : ByteArray).size = 1 := by decide
    omega
end Go.Proofs.YtbolphjigjpmiaaDoor
