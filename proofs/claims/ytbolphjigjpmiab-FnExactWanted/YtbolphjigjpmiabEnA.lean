/-
  Entries that lie in memory: what they are: no condition.
-/
import Derived.Test.YtbolphjigjpmiabPkA
namespace Go.Proofs.Ytbolphjigjpmiab
open Go.RowKit
set_option linter.unusedSimpArgs false
set_option linter.unusedVariables false

structure EntryD where
  name : ByteArray
  vA : Int
  vB : Int
  vC : Int
  vP : List ByteArray
  needs : List NeedD
def wtEntry (d : EntryD) : Nat := d.name.size + bulkS d.vP + wtRow wtNeed d.needs
def shEntry : Sh EntryD where
  n := 6
  lies S w cs d := ∃ u0 u1, cs = [.string d.name, .int .i64 d.vA, .int .i64 d.vB, .int .i64 d.vC, u0, u1] ∧ d.name.size ≤ maxLen ∧ RdB S w u0 (strsV d.vP) ∧ saneP d.vP ∧ RowIn shNeed S w u1 d.needs
  keep hk h := by obtain ⟨u0, u1, h0, h1, h2, h3, h4⟩ := h; exact ⟨u0, u1, h0, h1, h2.keep hk, h3, h4.keep hk⟩
  mono hS h := by obtain ⟨u0, u1, h0, h1, h2, h3, h4⟩ := h; exact ⟨u0, u1, h0, h1, h2.mono hS, h3, h4.mono hS⟩
def shEntryO : Sh EntryD where
  n := 6
  lies S w cs d := ∃ u0 u1, cs = [.string d.name, .int .i64 d.vA, .int .i64 d.vB, .int .i64 d.vC, u0, u1] ∧ d.name.size ≤ maxLen ∧ StrsOwn S w u0 d.vP ∧ saneP d.vP ∧ RowOwn shNeed 46 S w u1 d.needs
  keep hk h := by obtain ⟨u0, u1, h0, h1, h2, h3, h4⟩ := h; exact ⟨u0, u1, h0, h1, h2.keep hk, h3, h4.keep hk⟩
  mono hS h := by obtain ⟨u0, u1, h0, h1, h2, h3, h4⟩ := h; exact ⟨u0, u1, h0, h1, h2.mono hS, h3, h4.mono hS⟩
theorem liesEntry_plain {S : Nat → Prop} {w : World} {cs : List Value} {d : EntryD} (h : shEntryO.lies S w cs d) : shEntry.lies S w cs d := by
  obtain ⟨u0, u1, e0, s_name, r0, p0, r1⟩ := h
  exact ⟨u0, u1, e0, s_name, r0.plain, p0, r1.plain⟩
end Go.Proofs.Ytbolphjigjpmiab
