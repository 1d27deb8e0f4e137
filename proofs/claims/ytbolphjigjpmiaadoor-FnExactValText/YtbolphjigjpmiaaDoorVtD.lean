/-
  The text of a value, as the specification tells it: a contract by the tree; conditions: the value lies in memory, is right, and holds at most 2 to the 20.
-/
import Derived.Test.YtbolphjigjpmiaaDoorVtC
import Derived.Test.YtbolphjigjpmiaaDoorNumTextS
import Derived.Test.YtbolphjigjpmiaaDoorTreeSz
namespace Go.Proofs.YtbolphjigjpmiaaDoor
open Go.RowKit
set_option linter.unusedSimpArgs false
set_option linter.unusedVariables false

theorem numS_pos {n : Int} (h : ¬ n < 0) : numS n = numStr n.toNat := by unfold numS numStr Lib.itoa; rw [if_neg h]
theorem numS_neg {n : Int} (h : n < 0) : numS n = ⟨#[45]⟩ ++ numStr (-n).toNat := by
  unfold numS numStr Lib.itoa
  rw [if_pos h, show n.natAbs = (-n).toNat by omega]
  apply ByteArray.ext
  simp [ByteArray.data_append]

set_option maxHeartbeats 2000000 in
set_option maxRecDepth 100000 in
theorem specNum_c (n : Int) (w : World) (h0 : -999999 ≤ n) (h1 : n ≤ 999999) :
    Calls Tryd.prog 20 #[.int .i64 n] w fun e w' => e = .returned (.string (numS n)) ∧ Below w.heap.size w w' := by
  by_cases hn : n < 0
  · have HN := specNumText_pos (-n).toNat w (by omega)
    rw [show (((-n).toNat : Nat) : Int) = -n by omega] at HN
    have hsz : (numStr (-n).toNat).size ≤ 22 := by
      have h9 := num_size n (by omega) (by omega)
      rw [numS_neg hn, ByteArray.size_append] at h9
      omega
    rw [numS_neg hn]
    obtain ⟨X, hX⟩ : ∃ X, X = numStr (-n).toNat := ⟨_, rfl⟩
    rw [← hX] at HN hsz
    rw [← hX]
    have HN2 := hidden HN
    clear HN hX
    go_enter Tryd.func20, Tryd.ntmps20
    go_wp2_with (go_at_call 29; refine HN2.out.mono ?_; rintro e w1 ⟨rfl, b1⟩)
    go_ret
    exact ⟨rfl, b1⟩
  · have HN := specNumText_pos n.toNat w (by omega)
    rw [show ((n.toNat : Nat) : Int) = n by omega] at HN
    rw [numS_pos hn]
    obtain ⟨X, hX⟩ : ∃ X, X = numStr n.toNat := ⟨_, rfl⟩
    rw [← hX] at HN
    rw [← hX]
    have HN2 := hidden HN
    clear HN hX
    go_enter Tryd.func20, Tryd.ntmps20
    go_wp2_with (go_at_call 29; refine HN2.out.mono ?_; rintro e w1 ⟨rfl, b1⟩)
    go_ret
    exact ⟨rfl, b1⟩

def PutSC (T : Tree) : Prop := ∀ (S : Nat → Prop) (v : Value) (w : World) (d : Nat), Lies S w v T → (∀ b, S b → b < w.heap.size) → T.good d = true → T.wt ≤ 1048576 →
  Calls Tryd.prog 12 #[v] w fun e w' => e = .returned (.string T.txt) ∧ Below w.heap.size w w'
theorem kind_of {k n : Int} {s : ByteArray} {nl : Nat} {ks : List ByteArray} (h : hereB k n s nl ks = true) : k = 0 ∨ k = 1 ∨ (k = 2 ∧ -999999 ≤ n ∧ n ≤ 999999) ∨ k = 3 ∨ k = 4 ∨ (k = 5 ∧ ks.length = nl) := by
  unfold hereB inB at h
  simp only [Bool.and_eq_true, Bool.or_eq_true, beq_iff_eq] at h
  obtain ⟨_, h⟩ := h
  by_cases h0 : k = 0
  · exact .inl h0
  by_cases h1 : k = 1
  · exact .inr (.inl h1)
  by_cases h2 : k = 2
  · subst h2
    simp at h
    exact .inr (.inr (.inl ⟨rfl, h.1, h.2⟩))
  by_cases h3 : k = 3
  · exact .inr (.inr (.inr (.inl h3)))
  by_cases h4 : k = 4
  · exact .inr (.inr (.inr (.inr (.inl h4))))
  by_cases h5 : k = 5
  · subst h5
    simp at h
    exact .inr (.inr (.inr (.inr (.inr ⟨rfl, h.2.2⟩))))
  · simp [h0, h1, h2, h3, h4, h5] at h
theorem mem_wt {l : List Tree} {U : Tree} (h : U ∈ l) : U.wt ≤ wtL l := by
  induction l with
  | nil => simp at h
  | cons a r ih =>
    rw [wtL]
    rcases List.mem_cons.1 h with rfl | h
    · omega
    · have := ih h; omega
theorem wtL_take (l : List Tree) (i : Nat) : wtL (l.take i) ≤ wtL l := by
  induction l generalizing i with
  | nil => simp
  | cons a r ih =>
    cases i with
    | zero => simp [wtL]
    | succ i => rw [List.take_succ_cons, wtL, wtL]; have := ih i; omega
theorem items_small {l : List Tree} {d : Nat} (hg : goodL l d = true) (hw : wtL l ≤ 1048576) (i : Nat) : (itemsTxt (l.take i) true).size ≤ 30408704 := by
  have h1 := items_size (l := l.take i) (fun U hU => txt_size U d (goodL_mem hg U (List.mem_of_mem_take hU))) true
  have h2 := wtL_take l i
  omega
theorem fields_small {l : List Tree} {d : Nat} {ks : List ByteArray} (hg : goodL l d = true) (hw : wtL l ≤ 1048576) (hk : bulkS ks ≤ 1048576) (i : Nat) : (fieldsTxt (l.take i) ks true).size ≤ 32505856 := by
  have h1 := fields_size (l := l.take i) (fun U hU => txt_size U d (goodL_mem hg U (List.mem_of_mem_take hU))) ks true
  have h2 := wtL_take l i
  omega
end Go.Proofs.YtbolphjigjpmiaaDoor
