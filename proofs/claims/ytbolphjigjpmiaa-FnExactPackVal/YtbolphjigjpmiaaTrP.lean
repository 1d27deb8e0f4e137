/-
  Marks put into a value that may be written, and found again, as the law does it: contracts for the walks; conditions: no two rows are the same, and there are at most 2 to the 32 marks.
-/
import Derived.Test.YtbolphjigjpmiaaTrO
namespace Go.Proofs.Ytbolphjigjpmiaa
open Go.RowKit
set_option linter.unusedSimpArgs false
set_option linter.unusedVariables false

/-- A value's list and keys that may be written: in blocks of B, and of K, which have none in common. -/
structure OwnV (w : World) (B K : Nat → Prop) (c u : Value) (l : List Tree) (n : Nat) : Prop where
  list : OwnL w B c l
  keys : ∃ xs, w.ownsRow 0 9 1 u n xs
  inK : ∀ g, u.ownBlock = some g → K g
  apart : ∀ b, B b → ¬ K b
/-- A value's list and keys that bear the marks from k on. -/
structure MarkV (w : World) (S : Nat → Prop) (k : Nat) (c u : Value) (l : List Tree) (n : Nat) : Prop where
  list : MarkL w S k c l
  keys : RdB S w u (strsV (marksS (k + cntL l) n))
theorem MarkV.keep {w w' : World} {S : Nat → Prop} {k : Nat} {c u : Value} {l : List Tree} {n : Nat} (h : MarkV w S k c u l n) (hk : Kp S w w') : MarkV w' S k c u l n := ⟨h.list.keep hk, h.keys.keep hk⟩
theorem OwnV.keep {w w' : World} {B K : Nat → Prop} {c u : Value} {l : List Tree} {n : Nat} (h : OwnV w B K c u l n) (hk : Kp (fun b => B b ∨ K b) w w') : OwnV w' B K c u l n := by
  obtain ⟨xs, hx⟩ := h.keys
  exact ⟨h.list.keep (fun b hb => hk b (.inl hb)), ⟨xs, owns_kept (S := K) (fun b hb => hk b (.inr hb)) h.inK hx⟩, h.inK, h.apart⟩

set_option maxHeartbeats 2000000 in
set_option maxRecDepth 100000 in
theorem markVal_c (a n0 : Int) (s : ByteArray) (c u : Value) (l : List Tree) (n k : Nat) (B K : Nat → Prop) (w : World) (h : OwnV w B K c u l n) (hB : ∀ b, B b ∨ K b → b < w.heap.size) (h1 : 1 ≤ k) (h2 : k + cntL l + n ≤ 4294967296) :
    Calls Try.prog 18 #[.agg #[.int .i64 a, .int .i64 n0, .string s, c, u], .int .i64 (k : Int)] w fun e w' => e = .returned (.int .i64 ((k + cntL l + n : Nat) : Int)) ∧ MarkV w' (fun b => B b ∨ K b) k c u l n ∧ Chg (fun b => B b ∨ K b) w w' := by
  obtain ⟨hl, ⟨xs, hx⟩, hin, hap⟩ := h
  obtain ⟨qc, cc, rfl⟩ := hl.slice
  obtain ⟨qu, cu, rfl⟩ := owns_sl hx
  have hbx : ∀ o, Below w.heap.size w (w.alloc o) := fun o => (Below.refl _ _).alloc (Nat.le_refl _) _
  obtain ⟨p, hp⟩ : ∃ p, p = k + cntL l := ⟨_, rfl⟩
  have HP := hidden hp
  have HM : Hid (∀ o, Calls Try.prog 58 #[.slice qc l.length cc, .int .i64 (k : Int)] (w.alloc o) fun e w' => e = .returned (.int .i64 (p : Int)) ∧ MarkL w' B k (.slice qc l.length cc) l ∧ Chg B (w.alloc o) w') := fun o => by
    rw [hp]
    exact markValS_c l B _ (w.alloc o) k (hl.keep (.of (hbx o) (fun b hb => hB b (.inl hb)))) (fun b hb => Nat.lt_of_lt_of_le (hB b (.inl hb)) (hbx o).size) h1 (by omega)
  have HX := hidden hx
  clear hl hx hp
  have hBl : ∀ b, B b → b < w.heap.size := fun b hb => hB b (.inl hb)
  have hKl : ∀ b, K b → b < w.heap.size := fun b hb => hB b (.inr hb)
  go_enter Try.func18, Try.ntmps18
  go_wp2_with fail
  go_at_call 58
  refine (HM.out _).mono ?_
  rintro e w1 ⟨rfl, M1, ch1⟩
  have hbox := (ch1.block w.heap.size (by simp) (fun h => by have := hBl _ h; omega)).trans (vheap_new w _)
  have x4 := vblk_cell hbox 4
  simp only [List.getElem?_toArray, List.getElem?_cons_succ, List.getElem?_cons_zero] at x4
  have hs1 : w.heap.size + 1 ≤ w1.heap.size := by have := ch1.size; simpa using this
  have kK : Kp K w w1 := fun b hb => (ch1.block b (by have := hKl b hb; simp; omega) (fun h => hap b h hb)).trans (vheap_old w _ (hKl b hb))
  have X1 := owns_kept kK hin HX.out
  have hpb : p ≤ 4294967296 := by have := HP.out; omega
  have HS := hidden (markStrs_c _ 0 n xs p w1 X1 (by have := HP.out; omega) hpb (by omega) (Nat.zero_le _))
  have hnb : n ≤ 4294967296 := by omega
  go_wp2_with fail
  go_at_call 55
  refine HS.out.mono ?_
  rintro e w2 ⟨rfl, X2, g2⟩
  go_wp2_with fail
  go_ret
  have ch2 := Chg.grown (S := K) g2 hin
  refine ⟨by rw [← HP.out]; simp, ⟨(M1.keep (ch2.kp (fun b hb => ⟨by have := hBl b hb; omega, hap b hb⟩))).mono (fun b hb => .inl hb), by rw [← HP.out]; exact (rdB_in X2 hin).mono (fun b hb => .inr hb)⟩, ?_⟩
  exact (Chg.of (hbx _)).trans ((ch1.mono (fun b hb => .inl hb)).trans (ch2.mono (fun b hb => .inr hb)))

set_option maxHeartbeats 2000000 in
set_option maxRecDepth 100000 in
theorem heldVal_c (a n0 : Int) (s : ByteArray) (c u : Value) (l : List Tree) (n k : Nat) (S : Nat → Prop) (w : World) (h : MarkV w S k c u l n) (hS : ∀ b, S b → b < w.heap.size) (h1 : 1 ≤ k) (h2 : k + cntL l + n ≤ 4294967296) :
    Calls Try.prog 19 #[.agg #[.int .i64 a, .int .i64 n0, .string s, c, u], .int .i64 (k : Int)] w fun e w' => e = .returned (.int .i64 ((k + cntL l + n : Nat) : Int)) ∧ Below w.heap.size w w' := by
  obtain ⟨hl, hx⟩ := h
  obtain ⟨qc, cc, rfl⟩ := hl.slice
  have hbx : ∀ o, Below w.heap.size w (w.alloc o) := fun o => (Below.refl _ _).alloc (Nat.le_refl _) _
  obtain ⟨p, hp⟩ : ∃ p, p = k + cntL l := ⟨_, rfl⟩
  have HP := hidden hp
  rw [← hp] at hx
  have HM : Hid (∀ o, Calls Try.prog 59 #[.slice qc l.length cc, .int .i64 (k : Int)] (w.alloc o) fun e w' => e = .returned (.int .i64 (p : Int)) ∧ Below (w.alloc o).heap.size (w.alloc o) w') := fun o => by
    rw [hp]
    exact heldValS_c l S _ (w.alloc o) k (hl.keep (.of (hbx o) hS)) (fun b hb => Nat.lt_of_lt_of_le (hS b hb) (hbx o).size) h1 (by omega)
  have hpb : p ≤ 4294967296 := by omega
  have hp1 : 1 ≤ p := by omega
  have hnb : n ≤ 4294967296 := by omega
  have HX : Hid (∀ w', Below w.heap.size w w' → Calls Try.prog 60 #[u, .int .i64 (p : Int)] w' fun e w2 => e = .returned (.int .i64 ((p : Int) + (n : Int))) ∧ Below w'.heap.size w' w2) := fun w' hb =>
    heldStrs_c u n p w' ((hx.keep (.of hb hS)).reads (fun b h => Nat.lt_of_lt_of_le (hS b h) hb.size)) hp1 hpb hnb
  obtain ⟨qu, cu, eu, _⟩ := hx
  rw [length_strsV, length_marksS] at eu
  subst eu
  clear hl hp
  go_enter Try.func19, Try.ntmps19
  go_wp2_with fail
  go_at_call 59
  refine (HM.out _).mono ?_
  rintro e w1 ⟨rfl, b1⟩
  have hbox := boxAt b1
  have x4 := vblk_cell hbox 4
  simp only [List.getElem?_toArray, List.getElem?_cons_succ, List.getElem?_cons_zero] at x4
  have k1 : Below w.heap.size w w1 := (hbx _).trans (b1.mono (hbx _).size)
  go_wp2_with fail
  go_at_call 60
  refine (HX.out _ k1).mono ?_
  rintro e w2 ⟨rfl, b2⟩
  go_wp2_with fail
  go_ret
  exact ⟨by rw [← HP.out]; simp, k1.trans (b2.mono k1.size)⟩
end Go.Proofs.Ytbolphjigjpmiaa
