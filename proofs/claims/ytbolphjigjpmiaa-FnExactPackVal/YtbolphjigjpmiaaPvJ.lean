/-
  How much the value of a pack weighs, how many marks it bears, and what its two makers leave, told as the law needs it; conditions: the pack weighs at most 2 to the 20.
-/
import Derived.Test.YtbolphjigjpmiaaPvH
import Derived.Test.YtbolphjigjpmiaaTreeEqW
namespace Go.Proofs.Ytbolphjigjpmiaa
open Go.RowKit
set_option linter.unusedSimpArgs false
set_option linter.unusedVariables false

theorem wt_texts (ss : List ByteArray) : wtL (ss.map textT) = bulkS ss := by
  induction ss with
  | nil => simp [wtL, bulkS]
  | cons a r ih => simp only [List.map_cons, wtL, textT, wt_mk, ih]; simp [bulkS, wtL]; omega
theorem cnt_texts (ss : List ByteArray) : cntL (ss.map textT) = 3 * ss.length := by
  induction ss with
  | nil => simp [cntL]
  | cons a r ih => simp only [List.map_cons, cntL, textT, Tree.cnt, ih, List.length_cons]; simp; omega
theorem wt_needs (xs : List NeedD) : wtL (xs.map needT) + bulkS (xs.map (·.n)) ≤ 2 * wtRow wtNeed xs := by
  induction xs with
  | nil => simp [wtL, bulkS, wtRow]
  | cons a r ih =>
    simp only [List.map_cons, wtL, needT, textT, wt_mk, wtRow, wtNeed, bulkS, List.sum_cons, List.length_cons, List.length_nil, List.map_nil, List.sum_nil] at ih ⊢
    omega
theorem cnt_needs (xs : List NeedD) : cntL (xs.map needT) = 3 * xs.length := by
  induction xs with
  | nil => simp [cntL]
  | cons a r ih => simp only [List.map_cons, cntL, needT, textT, Tree.cnt, List.length_cons] at ih ⊢; simp; omega
theorem wt_cmds (xs : List CmdD) : wtL (xs.map cmdT) + bulkS (xs.map (·.t)) ≤ 2 * wtRow wtCmd xs := by
  induction xs with
  | nil => simp [wtL, bulkS, wtRow]
  | cons a r ih =>
    have h := wt_texts a.acts
    simp only [List.map_cons, wtL, cmdT, listT, wt_mk, h, wtRow, wtCmd, bulkS, List.sum_cons, List.length_cons, List.length_nil, List.map_nil, List.sum_nil] at ih ⊢
    have e : (⟨#[]⟩ : ByteArray).size = 0 := rfl
    rw [e]
    omega
theorem cnt_cmds (xs : List CmdD) : cntL (xs.map cmdT) ≤ 3 * wtRow wtCmd xs := by
  induction xs with
  | nil => simp [cntL]
  | cons a r ih =>
    have h := cnt_texts a.acts
    simp only [List.map_cons, cntL, cmdT, listT, Tree.cnt, h, wtRow, wtCmd, bulkS, List.sum_cons, List.length_nil] at ih ⊢
    omega
def packT (d : PackD) : Tree := .mk 5 0 ⟨#[]⟩ (packKids d) packKeys
theorem wt_pack (d : PackD) (hw : wtPack d ≤ 1048576) : (packT d).wt ≤ 16777216 := by
  have h1 := wt_needs d.needs
  have h2 := wt_cmds d.cmds
  have h3 := wt_texts d.uses
  have e : (⟨#[]⟩ : ByteArray).size = 0 := rfl
  have hk1 : packKeys.length = 4 := rfl
  have hk2 : (packKeys.map ByteArray.size).sum = 18 := rfl
  simp only [wtPack] at hw
  simp only [packT, packKids, mapT, listT, textT, wt_mk, wtL, h3, e, bulkS, List.length_nil, List.map_nil, List.sum_nil] at h1 h2 hw ⊢
  omega
theorem cnt_pack (d : PackD) (hw : wtPack d ≤ 1048576) : 1 + cntL (packKids d) + 4 ≤ 4294967296 := by
  have h1 := cnt_needs d.needs
  have h2 := cnt_cmds d.cmds
  have h3 := cnt_texts d.uses
  have l1 := len_wtRow wtNeed d.needs
  have l2 := len_wtRow wtCmd d.cmds
  simp only [wtPack, bulkS] at hw
  simp only [packKids, mapT, listT, textT, Tree.cnt, cntL, h1, h3, List.length_nil, List.length_map]
  omega
theorem Mk.lies {w : World} {S : Nat → Prop} {c u : Value} {d : PackD} (h : Mk w S c u (packKids d) packKeys) : Lies S w (.agg #[.int .i64 5, .int .i64 0, .string ⟨#[]⟩, c, u]) (packT d) := by
  obtain ⟨R1, R2, p, h1, h2⟩ := h.part (by simp [packKids]; unfold maxLen; omega)
  exact Lies.of (Nat.zero_le _) ⟨by simp [packKeys]; unfold maxLen; omega, by decide⟩ (p.lies.mono h1) ((readsB_in p.keys p.inK).mono h2)
theorem Mk.ownV {w : World} {S : Nat → Prop} {c u : Value} {d : PackD} (h : Mk w S c u (packKids d) packKeys) : ∃ B K : Nat → Prop, OwnV w B K c u (packKids d) 4 ∧ ∀ b, B b ∨ K b → S b := by
  obtain ⟨R1, R2, p, h1, h2⟩ := h.part (by simp [packKids]; unfold maxLen; omega)
  exact ⟨R1, R2, ⟨p.own, ⟨_, p.keys⟩, p.inK, p.apart⟩, fun b hb => hb.elim (h1 b) (h2 b)⟩
end Go.Proofs.Ytbolphjigjpmiaa
