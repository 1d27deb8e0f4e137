/-
  A file dropped, the specification's: a contract for the walks; conditions: the list lies in memory, and holds at most 2 to the 20.
-/
import Derived.Test.YtlnofdlhjeomfaaFiI
import Derived.Deep.RegionHeld
namespace Go.Proofs.Ytlnofdlhjeomfaa
open Go.RowKit Go.Maps
set_option linter.unusedSimpArgs false
set_option linter.unusedVariables false

def dropS (fs : List FileD) (p : ByteArray) : List FileD := fs.eraseP fun f => decide (f.p = p)
def dropSOk (fs : List FileD) (p : ByteArray) : Bool := (getF fs p).isSome && filesB (dropS fs p)
def dropSO (fs : List FileD) (p : ByteArray) : List FileD := if dropSOk fs p then dropS fs p else fs
theorem dropS_at {fs : List FileD} {p : ByteArray} {k : Nat} (h : k < fs.length) (hp : fs[k].p = p) (hn : ∀ j (hj : j < fs.length), j < k → ¬ fs[j].p = p) : dropS fs p = fs.take k ++ fs.drop (k + 1) := by
  have hi : fs.findIdx? (fun f => decide (f.p = p)) = some k := by
    rw [List.findIdx?_eq_some_iff_getElem]
    exact ⟨h, by simpa using hp, fun j hj => by simpa using hn j (by omega) hj⟩
  unfold dropS
  rw [List.eraseP_eq_eraseIdx, hi]
  exact List.eraseIdx_eq_take_drop_succ _ _
theorem dropS_mem {fs : List FileD} {p : ByteArray} {f : FileD} (h : f ∈ dropS fs p) : f ∈ fs := List.mem_of_mem_eraseP h
theorem cells_part {w : World} {b off : Nat} {fs : List FileD} (ha : ∀ j (h : j < fs.length), FileAt w b (off + j * 2) fs[j]) : ∀ j u, (cellsF fs)[j]? = some u → w.cell? ((⟨b, off, none⟩ : Addr).add j) = some u := fun j u hj => by
  have hlt : j < fs.length * 2 := by rw [← cellsF_length]; exact (List.getElem?_eq_some_iff.1 hj).1
  rw [addr_addF]
  have hk : j / 2 < fs.length := by omega
  obtain ⟨h1, h2⟩ := ha (j / 2) hk
  obtain ⟨g1, g2⟩ := cellsF_at fs (j / 2) hk
  rcases Nat.mod_two_eq_zero_or_one j with hm | hm
  · have e : j = j / 2 * 2 := by omega
    rw [← e] at h1 g1
    rw [hj] at g1
    rw [h1, g1]
  · have e : j = j / 2 * 2 + 1 := by omega
    have e2 : off + j / 2 * 2 + 1 = off + j := by omega
    rw [e2] at h2
    rw [← e] at g2
    rw [hj] at g2
    rw [h2, g2]
theorem cells_take {w : World} {b off k : Nat} {fs : List FileD} (ha : ∀ j (h : j < fs.length), FileAt w b (off + j * 2) fs[j]) : ∀ j u, (cellsF (fs.take k))[j]? = some u → w.cell? ((⟨b, off, none⟩ : Addr).add j) = some u :=
  cells_part fun j h => by rw [List.length_take] at h; rw [List.getElem_take]; exact ha j (by omega)
theorem cells_drop {w : World} {b off k cap : Nat} {fs : List FileD} (hc : fs.length ≤ cap) {ad : Addr} (had : (if cap = k then some ⟨b, off, none⟩ else some ⟨b, off + k * 2, none⟩ : Option Addr) = some ad) (ha : ∀ j (h : j < fs.length), FileAt w b (off + j * 2) fs[j]) : ∀ j u, (cellsF (fs.drop k))[j]? = some u → w.cell? (ad.add j) = some u := by
  by_cases e : cap = k
  · rw [List.drop_eq_nil_of_le (by omega)]
    intro j u h
    simp [cellsF] at h
  · rw [if_neg e] at had
    obtain ⟨rfl⟩ := Option.some.inj had
    refine cells_part fun j h => ?_
    rw [List.length_drop] at h
    rw [List.getElem_drop]
    have := ha (k + j) (by omega)
    rw [show off + k * 2 + j * 2 = off + (k + j) * 2 by omega]
    exact this

end Go.Proofs.Ytlnofdlhjeomfaa
