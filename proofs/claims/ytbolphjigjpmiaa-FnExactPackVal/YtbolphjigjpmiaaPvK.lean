/-
  What the law on PackVal needs of the functions that it calls, told at the slices of a pack and of a value; conditions: what comes in lies in memory and holds at most 2 to the 20.
-/
import Derived.Test.YtbolphjigjpmiaaPvJ
import Derived.Test.YtbolphjigjpmiaaPkA3
import Derived.Test.YtbolphjigjpmiaaPkB2
import Derived.Test.YtbolphjigjpmiaaPkC2
import Derived.Test.YtbolphjigjpmiaaPkM
namespace Go.Proofs.Ytbolphjigjpmiaa
open Go.RowKit
set_option linter.unusedSimpArgs false
set_option linter.unusedVariables false

/-- A pack's four cells, as slices. -/
theorem pack_cells {S : Nat → Prop} {w : World} {cs : List Value} {d : PackD} (h : shPack.lies S w cs d) : ∃ x0 y0 x1 y1 x2 y2, cs = [.string d.name, .slice x0 d.uses.length y0, .slice x1 d.needs.length y1, .slice x2 d.cmds.length y2] := by
  obtain ⟨u0, u1, u2, rfl, _, r0, _, r1, r2⟩ := h
  obtain ⟨a0, c0, e0, _⟩ := r0
  rw [length_strsV] at e0
  obtain ⟨a1, c1, e1, _⟩ := r1
  obtain ⟨a2, c2, e2, _⟩ := r2
  exact ⟨a0, c0, a1, c1, a2, c2, by rw [e0, e1, e2]⟩
theorem packO_cells {S : Nat → Prop} {w : World} {cs : List Value} {d : PackD} (h : shPackO.lies S w cs d) : ∃ x0 y0 x1 y1 x2 y2, cs = [.string d.name, .slice x0 d.uses.length y0, .slice x1 d.needs.length y1, .slice x2 d.cmds.length y2] := pack_cells (liesPack_plain h)
/-- A value that is a pack's, its four keys and four values in blocks from lo up to hi. -/
def ValR (w : World) (lo hi : Nat) (c u : Value) (d : PackD) : Prop := Mk w (fun b => lo ≤ b ∧ b < hi) c u (packKids d) packKeys ∧ hi ≤ w.heap.size
theorem ValR.chg {w w' : World} {lo hi : Nat} {c u : Value} {d : PackD} {S : Nat → Prop} (h : ValR w lo hi c u d) (k : Chg S w w') (n : ∀ b, lo ≤ b → b < hi → ¬ S b) : ValR w' lo hi c u d :=
  ⟨h.1.keep k.size (fun b hb => k.block b (Nat.lt_of_lt_of_le hb.2 h.2) (n b hb.1 hb.2)), Nat.le_trans h.2 k.size⟩
theorem ValR.below {w w' : World} {lo hi : Nat} {c u : Value} {d : PackD} (h : ValR w lo hi c u d) (k : Below w.heap.size w w') : ValR w' lo hi c u d := h.chg (Chg.of (S := fun _ => False) k) (fun _ _ _ => id)
def PackR (w : World) (lo hi : Nat) (cs : List Value) (d : PackD) : Prop := shPackO.lies (Ow lo hi) w cs d ∧ hi ≤ w.heap.size
theorem PackR.chg {w w' : World} {lo hi : Nat} {cs : List Value} {d : PackD} {S : Nat → Prop} (h : PackR w lo hi cs d) (k : Chg S w w') (n : ∀ b, lo ≤ b → b < hi → ¬ S b) : PackR w' lo hi cs d :=
  ⟨shPackO.keep (fun b hb => k.block b (Nat.lt_of_lt_of_le hb.2 h.2) (n b hb.1 hb.2)) h.1, Nat.le_trans h.2 k.size⟩
theorem PackR.below {w w' : World} {lo hi : Nat} {cs : List Value} {d : PackD} (h : PackR w lo hi cs d) (k : Below w.heap.size w w') : PackR w' lo hi cs d := h.chg (Chg.of (S := fun _ => False) k) (fun _ _ _ => id)

set_option maxHeartbeats 1000000 in
set_option maxRecDepth 100000 in
theorem toPackL (S : Nat → Prop) (d : PackD) (x0 : Option Addr) (y0 : Nat) (x1 : Option Addr) (y1 : Nat) (x2 : Option Addr) (y2 : Nat) (w : World) (hd : shPack.lies S w [.string d.name, .slice x0 d.uses.length y0, .slice x1 d.needs.length y1, .slice x2 d.cmds.length y2] d) (hB : ∀ b, S b → b < w.heap.size) (hw : wtPack d ≤ 1048576) :
    Calls Try.prog 14 #[.agg #[.string d.name, .slice x0 d.uses.length y0, .slice x1 d.needs.length y1, .slice x2 d.cmds.length y2]] w fun e w' => ∃ p0 q0 p1 q1 p2 q2, e = .returned (.agg #[.string d.name, .slice p0 d.uses.length q0, .slice p1 d.needs.length q1, .slice p2 d.cmds.length q2]) ∧ PackR w' w.heap.size w'.heap.size [.string d.name, .slice p0 d.uses.length q0, .slice p1 d.needs.length q1, .slice p2 d.cmds.length q2] d ∧ Below w.heap.size w w' := by
  refine (toPack_c S d [.string d.name, .slice x0 d.uses.length y0, .slice x1 d.needs.length y1, .slice x2 d.cmds.length y2] w hd hB hw).mono ?_
  rintro e w' ⟨cs', he, hl, hb⟩
  obtain ⟨p0, q0, p1, q1, p2, q2, rfl⟩ := packO_cells hl
  exact ⟨p0, q0, p1, q1, p2, q2, he, ⟨hl, Nat.le_refl _⟩, hb⟩

set_option maxHeartbeats 1000000 in
set_option maxRecDepth 100000 in
theorem specPackL (lo hi : Nat) (d : PackD) (x0 : Option Addr) (y0 : Nat) (x1 : Option Addr) (y1 : Nat) (x2 : Option Addr) (y2 : Nat) (w : World) (hd : PackR w lo hi [.string d.name, .slice x0 d.uses.length y0, .slice x1 d.needs.length y1, .slice x2 d.cmds.length y2] d) (hw : wtPack d ≤ 1048576) :
    Calls Try.prog 13 #[.agg #[.string d.name, .slice x0 d.uses.length y0, .slice x1 d.needs.length y1, .slice x2 d.cmds.length y2]] w fun e w' => ∃ n c g u v, e = .returned (.agg #[.int .i64 5, .int .i64 0, .string ⟨#[]⟩, .slice c n g, .slice u n v]) ∧ ValR w' w.heap.size w'.heap.size (.slice c n g) (.slice u n v) d ∧ Below w.heap.size w w' := by
  refine (specPackVal_c (Ow lo hi) [.string d.name, .slice x0 d.uses.length y0, .slice x1 d.needs.length y1, .slice x2 d.cmds.length y2] d w (liesPack_plain hd.1) (fun b hb => Nat.lt_of_lt_of_le hb.2 hd.2) hw).mono ?_
  rintro e w' ⟨c, u, he, m, hb⟩
  obtain ⟨n, qc, cc, qu, cu, _, rfl, rfl⟩ := m.slicesN
  exact ⟨n, qc, cc, qu, cu, he, ⟨m, Nat.le_refl _⟩, hb⟩

set_option maxHeartbeats 1000000 in
set_option maxRecDepth 100000 in
theorem implPackL (lo hi : Nat) (d : PackD) (x0 : Option Addr) (y0 : Nat) (x1 : Option Addr) (y1 : Nat) (x2 : Option Addr) (y2 : Nat) (w : World) (hd : PackR w lo hi [.string d.name, .slice x0 d.uses.length y0, .slice x1 d.needs.length y1, .slice x2 d.cmds.length y2] d) (hw : wtPack d ≤ 1048576) :
    Calls Try.prog 15 #[.agg #[.string d.name, .slice x0 d.uses.length y0, .slice x1 d.needs.length y1, .slice x2 d.cmds.length y2]] w fun e w' => ∃ n c g u v, e = .returned (.agg #[.int .i64 5, .int .i64 0, .string ⟨#[]⟩, .slice c n g, .slice u n v]) ∧ ValR w' w.heap.size w'.heap.size (.slice c n g) (.slice u n v) d ∧ Below w.heap.size w w' := by
  refine (packVal_c (Ow lo hi) [.string d.name, .slice x0 d.uses.length y0, .slice x1 d.needs.length y1, .slice x2 d.cmds.length y2] d w (liesPack_plain hd.1) (fun b hb => Nat.lt_of_lt_of_le hb.2 hd.2) hw).mono ?_
  rintro e w' ⟨c, u, he, m, hb⟩
  obtain ⟨n, qc, cc, qu, cu, _, rfl, rfl⟩ := m.slicesN
  exact ⟨n, qc, cc, qu, cu, he, ⟨m, Nat.le_refl _⟩, hb⟩

set_option maxHeartbeats 1000000 in
set_option maxRecDepth 100000 in
theorem eqPackL (lo hi lo' hi' : Nat) (d : PackD) (x0 : Option Addr) (y0 : Nat) (x1 : Option Addr) (y1 : Nat) (x2 : Option Addr) (y2 : Nat) (p0 : Option Addr) (q0 : Nat) (p1 : Option Addr) (q1 : Nat) (p2 : Option Addr) (q2 : Nat) (w : World) (hd : PackR w lo hi [.string d.name, .slice x0 d.uses.length y0, .slice x1 d.needs.length y1, .slice x2 d.cmds.length y2] d) (hd' : PackR w lo' hi' [.string d.name, .slice p0 d.uses.length q0, .slice p1 d.needs.length q1, .slice p2 d.cmds.length q2] d) (hw : wtPack d ≤ 1048576) :
    Calls Try.prog 16 #[.agg #[.string d.name, .slice x0 d.uses.length y0, .slice x1 d.needs.length y1, .slice x2 d.cmds.length y2], .agg #[.string d.name, .slice p0 d.uses.length q0, .slice p1 d.needs.length q1, .slice p2 d.cmds.length q2]] w fun e w' => e = .returned (.bool true) ∧ Below w.heap.size w w' :=
  eqPack_c (Ow lo hi) (Ow lo' hi') d [.string d.name, .slice x0 d.uses.length y0, .slice x1 d.needs.length y1, .slice x2 d.cmds.length y2] [.string d.name, .slice p0 d.uses.length q0, .slice p1 d.needs.length q1, .slice p2 d.cmds.length q2] w (liesPack_plain hd.1) (liesPack_plain hd'.1) (fun b hb => Nat.lt_of_lt_of_le hb.2 hd.2) (fun b hb => Nat.lt_of_lt_of_le hb.2 hd'.2) hw

set_option maxHeartbeats 1000000 in
set_option maxRecDepth 100000 in
theorem markPackL (lo hi : Nat) (d : PackD) (x0 : Option Addr) (y0 : Nat) (x1 : Option Addr) (y1 : Nat) (x2 : Option Addr) (y2 : Nat) (w : World) (hd : PackR w lo hi [.string d.name, .slice x0 d.uses.length y0, .slice x1 d.needs.length y1, .slice x2 d.cmds.length y2] d) (hw : wtPack d ≤ 1048576) :
    Calls Try.prog 17 #[.agg #[.string d.name, .slice x0 d.uses.length y0, .slice x1 d.needs.length y1, .slice x2 d.cmds.length y2], .int .i64 1] w fun e w' => ∃ q : Nat, e = .returned (.int .i64 (q : Int)) ∧ Chg (Ow lo hi) w w' := by
  refine (markPack_c (Ow lo hi) d [.string d.name, .slice x0 d.uses.length y0, .slice x1 d.needs.length y1, .slice x2 d.cmds.length y2] w hd.1 (fun b hb => Nat.lt_of_lt_of_le hb.2 hd.2) hw).mono ?_
  rintro e w' ⟨q, he, _, hc⟩
  exact ⟨q, he, hc⟩

set_option maxHeartbeats 1000000 in
set_option maxRecDepth 100000 in
theorem eqValL (lo hi lo' hi' : Nat) (d : PackD) (n : Nat) (c : Option Addr) (g : Nat) (u : Option Addr) (v : Nat) (n' : Nat) (c' : Option Addr) (g' : Nat) (u' : Option Addr) (v' : Nat) (w : World) (h : ValR w lo hi (.slice c n g) (.slice u n v) d) (h' : ValR w lo' hi' (.slice c' n' g') (.slice u' n' v') d) (hw : wtPack d ≤ 1048576) :
    Calls Try.prog 11 #[.agg #[.int .i64 5, .int .i64 0, .string ⟨#[]⟩, .slice c n g, .slice u n v], .agg #[.int .i64 5, .int .i64 0, .string ⟨#[]⟩, .slice c' n' g', .slice u' n' v']] w fun e w' => e = .returned (.bool true) ∧ Below w.heap.size w w' :=
  eqVal_allW (packT d) _ _ _ _ w h.1.lies h'.1.lies h.1.low h'.1.low (wt_pack d hw)

set_option maxHeartbeats 1000000 in
set_option maxRecDepth 100000 in
theorem markValL (lo hi : Nat) (d : PackD) (n : Nat) (c : Option Addr) (g : Nat) (u : Option Addr) (v : Nat) (w : World) (h : ValR w lo hi (.slice c n g) (.slice u n v) d) (hw : wtPack d ≤ 1048576) :
    Calls Try.prog 18 #[.agg #[.int .i64 5, .int .i64 0, .string ⟨#[]⟩, .slice c n g, .slice u n v], .int .i64 1] w fun e w' => e = .returned (.int .i64 ((1 + cntL (packKids d) + 4 : Nat) : Int)) ∧ (∃ D : Nat → Prop, MarkV w' D 1 (.slice c n g) (.slice u n v) (packKids d) 4 ∧ ∀ b, D b → lo ≤ b ∧ b < hi) ∧ Chg (Ow lo hi) w w' := by
  obtain ⟨B, K, ho, hs⟩ := h.1.ownV
  refine (markVal_c 5 0 ⟨#[]⟩ (.slice c n g) (.slice u n v) (packKids d) 4 1 B K w ho (fun b hb => h.1.low b (hs b hb)) (Nat.le_refl _) (cnt_pack d hw)).mono ?_
  rintro e w' ⟨he, m, ch⟩
  exact ⟨he, ⟨_, m, hs⟩, ch.mono hs⟩

set_option maxHeartbeats 1000000 in
set_option maxRecDepth 100000 in
theorem heldValL (D : Nat → Prop) (d : PackD) (n : Nat) (c : Option Addr) (g : Nat) (u : Option Addr) (v : Nat) (w : World) (h : MarkV w D 1 (.slice c n g) (.slice u n v) (packKids d) 4) (hD : ∀ b, D b → b < w.heap.size) (hw : wtPack d ≤ 1048576) :
    Calls Try.prog 19 #[.agg #[.int .i64 5, .int .i64 0, .string ⟨#[]⟩, .slice c n g, .slice u n v], .int .i64 1] w fun e w' => e = .returned (.int .i64 ((1 + cntL (packKids d) + 4 : Nat) : Int)) ∧ Below w.heap.size w w' :=
  heldVal_c 5 0 ⟨#[]⟩ (.slice c n g) (.slice u n v) (packKids d) 4 1 D w h hD (Nat.le_refl _) (cnt_pack d hw)
end Go.Proofs.Ytbolphjigjpmiaa
