/-
  What the program's own reading of a value asks ahead of its parts: its counter, the fields that a kind does not name, a copy of a text; for every value.
-/
import Derived.Test.YtbolphjigjpmiaaDoorValC
import Derived.Test.YtbolphjigjpmiaaDoorShelfA
namespace Go.Proofs.YtbolphjigjpmiaaDoor
open Go.RowKit
set_option linter.unusedSimpArgs false
set_option linter.unusedVariables false

/-- The counter in block g holds c. -/
def CtrAt (w : World) (g : Nat) (c : Int) : Prop := w.heap[g]? = some (.cells #[.int .i64 c] 51 (0, 0))
theorem CtrAt.cell {w : World} {g : Nat} {c : Int} (h : CtrAt w g c) : w.cell? ⟨g, 0, none⟩ = some (.int .i64 c) := blk_cell h 0
theorem CtrAt.frozen {w : World} {g : Nat} {c : Int} (h : CtrAt w g c) : w.frozen? ⟨g, 0, none⟩ = false := blk_frozen h 0
theorem CtrAt.lt {w : World} {g : Nat} {c : Int} (h : CtrAt w g c) : g < w.heap.size := (Array.getElem?_eq_some_iff.1 h).1
theorem CtrAt.set {w : World} {g : Nat} {c : Int} (h : CtrAt w g c) (c' : Int) : CtrAt (w.setCell ⟨g, 0, none⟩ (.int .i64 c')) g c' := blk_set h 0 _
theorem CtrAt.keep {w w' : World} {g : Nat} {c : Int} (h : CtrAt w g c) (hb : Below w.heap.size w w') : CtrAt w' g c := (hb.block g h.lt).trans h

theorem grown_set' (w : World) (g j : Nat) (u : Value) : w.grownBy (w.setCell ⟨g, j, none⟩ u) (some g) :=
  ⟨rfl, rfl, rfl, by simp [World.setCell], fun k _ hk => Below.heap_setCell w ⟨g, j, none⟩ u k (fun e => hk (by simp at e; rw [e]))⟩

set_option maxHeartbeats 1000000 in
theorem room_c (g : Nat) (c : Int) (d : Int) (w : World) (hc : CtrAt w g c) (h0 : 0 ≤ c) (h1 : c ≤ 1000000) :
    Calls Tryd.prog 30 #[.pointer (some ⟨g, 0, none⟩), .int .i64 d] w fun e w' => e = .returned (.bool (decide (d ≤ 6) && decide (c + 1 ≤ 80))) ∧ w' = w.setCell ⟨g, 0, none⟩ (.int .i64 (c + 1)) := by
  have c0 := hc.cell
  have f0 := hc.frozen
  clear hc
  by_cases hd : d ≤ 6
  · go_enter Tryd.func30, Tryd.ntmps30
    go_wp2_with fail
    go_ret
    exact ⟨by simp [hd], rfl⟩
  · go_enter Tryd.func30, Tryd.ntmps30
    go_wp2_with fail
    go_ret
    exact ⟨by rw [show decide (d ≤ 6) = false by simp; omega]; rfl, rfl⟩

theorem castz (n : Nat) : ((n : Int) == 0) = (n == 0) := by rw [Bool.eq_iff_iff]; simp

def emptyB (k n : Int) (s : ByteArray) (nl : Nat) (ks : List ByteArray) : Bool :=
  (n == 0 || k == 1 || k == 2) && (s.toList.isEmpty || k == 3) && (nl == 0 || k == 4 || k == 5) && (ks.length == 0 || k == 5)

set_option maxHeartbeats 1000000 in
theorem empty_c (k n : Int) (s : ByteArray) (a a' : Option Addr) (m cap cap' : Nat) (ks : List ByteArray) (w : World) :
    Calls Tryd.prog 31 #[.agg #[.int .i64 k, .int .i64 n, .string s, .slice a m cap, .slice a' ks.length cap']] w fun e w' => e = .returned (.bool (emptyB k n s m ks)) ∧ Below w.heap.size w w' := by
  have hbx : ∀ o, Below w.heap.size w (w.alloc o) := fun o => (Below.refl _ _).alloc (Nat.le_refl _) _
  obtain ⟨m', hm'⟩ : ∃ m', m' = ks.length := ⟨_, rfl⟩
  rw [← hm']
  have HM : Hid (m' = ks.length) := hm'
  clear hm'
  go_enter Tryd.func31, Tryd.ntmps31
  go_wp2_with fail
  all_goals go_ret
  all_goals (refine ⟨?_, hbx _⟩; have := HM.out; go_light; simp_all [emptyB, castz])

def kindB (k n : Int) (s : ByteArray) (nl : Nat) (ks : List ByteArray) : Bool :=
  if k = 0 then true else if k = 1 then inB n 0 1 else if k = 2 then inB n (-999999) 999999 else if k = 3 then textB s else if k = 4 then true else if k = 5 then (ks.length == nl && keysUpto ks ks.length) else false

theorem text_nil {s : ByteArray} (h : s.toList.isEmpty = true) : textB s = true := by
  have h0 : s.size = 0 := by
    have : s.toList = [] := by simpa using h
    have h2 : s.toList.length = s.size := by rw [ByteArray.toList_eq]; simp
    rw [this] at h2; simpa using h2.symm
  unfold textB
  rw [h0]
  rfl

theorem here_split (k n : Int) (s : ByteArray) (nl : Nat) (ks : List ByteArray) : hereB k n s nl ks = (emptyB k n s nl ks && kindB k n s nl ks) := by
  have ht := @text_nil s
  unfold hereB emptyB kindB
  by_cases h0 : k = 0
  · subst h0
    cases he : s.toList.isEmpty
    · simp
    · rw [ht he]; simp [Bool.and_comm, Bool.and_left_comm, Bool.and_assoc]
  by_cases h1 : k = 1
  · subst h1; simp [Bool.and_comm, Bool.and_left_comm, Bool.and_assoc]
  by_cases h2 : k = 2
  · subst h2; simp [Bool.and_comm, Bool.and_left_comm, Bool.and_assoc]
  by_cases h3 : k = 3
  · subst h3; simp [Bool.and_comm, Bool.and_left_comm, Bool.and_assoc]
  by_cases h4 : k = 4
  · subst h4
    cases he : s.toList.isEmpty
    · simp
    · rw [ht he]; simp [Bool.and_comm, Bool.and_left_comm, Bool.and_assoc]
  by_cases h5 : k = 5
  · subst h5; simp [Bool.and_comm, Bool.and_left_comm, Bool.and_assoc]
  · simp [h0, h1, h2, h3, h4, h5]

theorem clone2_c (s : ByteArray) (w : World) (h : s.size ≤ 1048576) : Calls Tryd.prog 32 #[.string s] w fun e w' => e = .returned (.string s) ∧ Below w.heap.size w w' := by
  go_enter Tryd.func32, Tryd.ntmps32
  go_wp2_with (go_at_call 40; refine (Tryd.stringslite_Clone s _ (by omega)).mono ?_; rintro e w1 ⟨rfl, b1⟩)
  go_ret
  exact ⟨rfl, b1⟩
end Go.Proofs.YtbolphjigjpmiaaDoor
