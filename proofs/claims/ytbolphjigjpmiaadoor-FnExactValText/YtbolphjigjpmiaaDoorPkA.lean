/-
  Needs, commands and packs that lie in memory: what they are, and how much they hold, as the law counts it: contracts for the walks; conditions: at most 2 to the 20 is left to count.
-/
import Derived.Test.YtbolphjigjpmiaaDoorRow
import Derived.Test.YtbolphjigjpmiaaDoorSzS
import Derived.Test.YtbolphjigjpmiaaDoorVerD
namespace Go.Proofs.YtbolphjigjpmiaaDoor
open Go.RowKit
set_option linter.unusedSimpArgs false
set_option linter.unusedVariables false

theorem lw (n : Nat) (l : Int) : ((n : Int) ≤ l ∧ leftW n l = l - (n : Int)) ∨ (l < (n : Int) ∧ leftW n l = -1) := by
  by_cases h : (n : Int) ≤ l
  · exact .inl ⟨h, leftW_good h⟩
  · exact .inr ⟨by omega, leftW_bad h⟩

/-- A list of texts that may be written. -/
def StrsOwn (S : Nat → Prop) (w : World) (u : Value) (ss : List ByteArray) : Prop := w.ownsRow 0 9 1 u ss.length (strsV ss) ∧ ∀ g, u.ownBlock = some g → S g
theorem StrsOwn.keep {S : Nat → Prop} {w w' : World} {u : Value} {ss : List ByteArray} (hk : Kp S w w') (h : StrsOwn S w u ss) : StrsOwn S w' u ss := ⟨owns_kept hk h.2 h.1, h.2⟩
theorem StrsOwn.mono {S S' : Nat → Prop} {w : World} {u : Value} {ss : List ByteArray} (hS : ∀ b, S b → S' b) (h : StrsOwn S w u ss) : StrsOwn S' w u ss := ⟨h.1, fun g hg => hS g (h.2 g hg)⟩
theorem StrsOwn.plain {S : Nat → Prop} {w : World} {u : Value} {ss : List ByteArray} (h : StrsOwn S w u ss) : RdB S w u (strsV ss) := by
  obtain ⟨a, cap, hv, hc, hx⟩ := reads_of_owns h.1
  refine ⟨a, cap, hv, hc, ?_⟩
  rcases hx with hx | ⟨b, off, rfl, hlt, hx⟩
  · exact .inl hx
  · exact .inr ⟨b, off, rfl, h.2 b (by rw [hv]; rfl), hx⟩

structure NeedD where
  n : ByteArray
  r : ByteArray
def wtNeed (d : NeedD) : Nat := d.n.size + d.r.size
def shNeed : Sh NeedD where
  n := 2
  lies S w cs d := cs = [.string d.n, .string d.r] ∧ d.n.size ≤ maxLen ∧ d.r.size ≤ maxLen
  keep hk h := by obtain ⟨h0, h1, h2⟩ := h; exact ⟨h0, h1, h2⟩
  mono hS h := by obtain ⟨h0, h1, h2⟩ := h; exact ⟨h0, h1, h2⟩

structure CmdD where
  t : ByteArray
  acts : List ByteArray
def wtCmd (d : CmdD) : Nat := d.t.size + bulkS d.acts
def shCmd : Sh CmdD where
  n := 2
  lies S w cs d := ∃ u0, cs = [.string d.t, u0] ∧ d.t.size ≤ maxLen ∧ RdB S w u0 (strsV d.acts) ∧ saneP d.acts
  keep hk h := by obtain ⟨u0, h0, h1, h2, h3⟩ := h; exact ⟨u0, h0, h1, h2.keep hk, h3⟩
  mono hS h := by obtain ⟨u0, h0, h1, h2, h3⟩ := h; exact ⟨u0, h0, h1, h2.mono hS, h3⟩
def shCmdO : Sh CmdD where
  n := 2
  lies S w cs d := ∃ u0, cs = [.string d.t, u0] ∧ d.t.size ≤ maxLen ∧ StrsOwn S w u0 d.acts ∧ saneP d.acts
  keep hk h := by obtain ⟨u0, h0, h1, h2, h3⟩ := h; exact ⟨u0, h0, h1, h2.keep hk, h3⟩
  mono hS h := by obtain ⟨u0, h0, h1, h2, h3⟩ := h; exact ⟨u0, h0, h1, h2.mono hS, h3⟩
theorem liesCmd_plain {S : Nat → Prop} {w : World} {cs : List Value} {d : CmdD} (h : shCmdO.lies S w cs d) : shCmd.lies S w cs d := by
  obtain ⟨u0, e0, s_t, r0, p0⟩ := h
  exact ⟨u0, e0, s_t, r0.plain, p0⟩

structure PackD where
  name : ByteArray
  uses : List ByteArray
  needs : List NeedD
  cmds : List CmdD
def wtPack (d : PackD) : Nat := d.name.size + bulkS d.uses + wtRow wtNeed d.needs + wtRow wtCmd d.cmds
def shPack : Sh PackD where
  n := 4
  lies S w cs d := ∃ u0 u1 u2, cs = [.string d.name, u0, u1, u2] ∧ d.name.size ≤ maxLen ∧ RdB S w u0 (strsV d.uses) ∧ saneP d.uses ∧ RowIn shNeed S w u1 d.needs ∧ RowIn shCmd S w u2 d.cmds
  keep hk h := by obtain ⟨u0, u1, u2, h0, h1, h2, h3, h4, h5⟩ := h; exact ⟨u0, u1, u2, h0, h1, h2.keep hk, h3, h4.keep hk, h5.keep hk⟩
  mono hS h := by obtain ⟨u0, u1, u2, h0, h1, h2, h3, h4, h5⟩ := h; exact ⟨u0, u1, u2, h0, h1, h2.mono hS, h3, h4.mono hS, h5.mono hS⟩
end Go.Proofs.YtbolphjigjpmiaaDoor
