/-
  Picks that lie in memory: what they are: no condition.
-/
import Derived.Test.YtbolphjigjpmiaaPkA
namespace Go.Proofs.Ytbolphjigjpmiaa
open Go.RowKit
set_option linter.unusedSimpArgs false
set_option linter.unusedVariables false

structure PickD where
  name : ByteArray
  vA : Int
  vB : Int
  vC : Int
  vP : List ByteArray
def wtPick (d : PickD) : Nat := d.name.size + bulkS d.vP
def shPick : Sh PickD where
  n := 5
  lies S w cs d := ∃ u0, cs = [.string d.name, .int .i64 d.vA, .int .i64 d.vB, .int .i64 d.vC, u0] ∧ d.name.size ≤ maxLen ∧ RdB S w u0 (strsV d.vP) ∧ saneP d.vP
  keep hk h := by obtain ⟨u0, h0, h1, h2, h3⟩ := h; exact ⟨u0, h0, h1, h2.keep hk, h3⟩
  mono hS h := by obtain ⟨u0, h0, h1, h2, h3⟩ := h; exact ⟨u0, h0, h1, h2.mono hS, h3⟩
def shPickO : Sh PickD where
  n := 5
  lies S w cs d := ∃ u0, cs = [.string d.name, .int .i64 d.vA, .int .i64 d.vB, .int .i64 d.vC, u0] ∧ d.name.size ≤ maxLen ∧ StrsOwn S w u0 d.vP ∧ saneP d.vP
  keep hk h := by obtain ⟨u0, h0, h1, h2, h3⟩ := h; exact ⟨u0, h0, h1, h2.keep hk, h3⟩
  mono hS h := by obtain ⟨u0, h0, h1, h2, h3⟩ := h; exact ⟨u0, h0, h1, h2.mono hS, h3⟩
theorem liesPick_plain {S : Nat → Prop} {w : World} {cs : List Value} {d : PickD} (h : shPickO.lies S w cs d) : shPick.lies S w cs d := by
  obtain ⟨u0, e0, s_name, r0, p0⟩ := h
  exact ⟨u0, e0, s_name, r0.plain, p0⟩
end Go.Proofs.Ytbolphjigjpmiaa
