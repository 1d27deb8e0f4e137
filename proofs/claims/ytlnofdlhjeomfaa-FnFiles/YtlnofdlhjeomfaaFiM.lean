/-
  The paths of a map of files, collected in whatever order: a contract for the walks; condition: the map holds at most 2 to the 22 files.
-/
import Derived.Test.YtlnofdlhjeomfaaFiL
import Derived.Test.YtlnofdlhjeomfaaShelfK
import Derived.Test.YtlnofdlhjeomfaaSortB
namespace Go.Proofs.Ytlnofdlhjeomfaa
open Go.RowKit Go.Maps Go.Sort Go.Shelf
set_option linter.unusedSimpArgs false
set_option linter.unusedVariables false

theorem keysF_c (mb : Option Nat) (W : World) : Calls Try.prog 48 #[.map mb] W fun e w' => e = .returned (.func (.func 91) #[] #[.pointer (some ⟨W.heap.size, 0, none⟩)]) ∧ w' = W.alloc (.cells #[.map mb] 77) :=
  (callsIn_wide (n := 5)).1 (AnyZ.keys_in Try.keysL Fence.wide 5 trivial rfl mb W)

theorem keys_mem {w : World} {b n : Nat} {D : DataW Unit} (h : w.ownsMap Try.prog 9 fileElem b n D) (p : ByteArray) : bytesL p ∈ strKeys D ↔ Maps.has D (klF p) = true := by
  obtain ⟨es, clock, _, F, _, rfl⟩ := h
  have key : ∀ q ∈ (es.toList.map (WideElems.rg Try.prog 9 fileElem)).foldr DataW.insert [], ∃ x : ByteArray, q.1 = klF x := fun q hq => by
    obtain ⟨x, hx, rfl⟩ := List.mem_map.1 (mem_sorted.1 hq)
    obtain ⟨y, hy⟩ := F.reads x hx
    rw [WideElems.rg_of hy]
    obtain ⟨z, _, hz, _⟩ := key_inv (WideElems.rd_key hy)
    exact ⟨z, hz⟩
  show bytesL p ∈ List.map _ _ ↔ List.any _ _ = true
  rw [List.mem_map, List.any_eq_true]
  constructor
  · rintro ⟨q, hq, he⟩
    obtain ⟨x, hx⟩ := key q hq
    refine ⟨q, hq, ?_⟩
    rw [hx] at he ⊢
    have : x = p := bytesL_inj he
    rw [this]
    exact WideAt.sameKey_self (klF_key p)
  · rintro ⟨q, hq, he⟩
    refine ⟨q, hq, ?_⟩
    rw [WideAt.sameKey_eq he]
    rfl

set_option maxHeartbeats 1000000 in
theorem collectF_c (b n : Nat) (m : ByteArray → Option FileD) (w : World) (h : MapF w b n m) (hn : n ≤ 4194304) :
    Calls Try.prog 47 #[.func (.func 91) #[] #[.pointer (some ⟨w.heap.size, 0, none⟩)]] (w.alloc (.cells #[.map (some b)] 77)) fun e w' =>
      ∃ (v : Value) (ts : List ByteArray), e = .returned v ∧ (∀ p, p ∈ ts ↔ (m p).isSome = true) ∧ ts.length ≤ n ∧ w'.ownsRow (w.alloc (.cells #[.map (some b)] 77)).heap.size 9 1 v ts.length (strsV ts) ∧ Below (w.alloc (.cells #[.map (some b)] 77)).heap.size (w.alloc (.cells #[.map (some b)] 77)) w' := by
  obtain ⟨D, hown, h2⟩ := h
  have hbl := hown.lt
  have hsz := hown.size_le
  have hseq : SeqGives Fence.wide 3 Try.prog 91 #[.pointer (some ⟨w.heap.size, 0, none⟩)] encStr (fun ss => ss.Perm (strKeys D)) (Maps.size D) (w.alloc (.cells #[.map (some b)] 77)) :=
    AnyZ.keys_gives (ρ := Try.keysL_ren) { Try.keysL with } Fence.wide _ trivial rfl (by omega) w.heap.size b n D _ (by simp) (by simp) (hown.alloc _)
  refine ((callsIn_wide (n := 5)).1 (AnyZ.collect_in Try.collectL Fence.wide 5 trivial trivial rfl (by omega) 91 #[.pointer (some ⟨w.heap.size, 0, none⟩)] trivial (enters_of Try.func91 (by kernel_rfl) rfl) _ (Maps.size D) (by unfold maxLen; omega) (by omega) _ hseq)).mono ?_
  rintro e w' ⟨v, ss, rfl, hS, hrow, _, hb⟩
  refine ⟨v, ss.map strOf', rfl, fun p => ?_, ?_, ?_, hb⟩
  · rw [← (h2 p).1, ← keys_mem hown p, ← hS.mem_iff, List.mem_map]
    constructor
    · rintro ⟨s, hs, rfl⟩
      rw [bytesL_strOf]; exact hs
    · intro hs
      exact ⟨_, hs, strOf_bytesL p⟩
  · have : ss.length = (strKeys D).length := hS.length_eq
    rw [List.length_map, this]
    have hk : (strKeys D).length = Maps.size D := by
      obtain ⟨es, clock, _, F, _, rfl⟩ := hown
      simp [strKeys, Maps.size]
    omega
  · rw [List.length_map, ← enc_strs]; exact hrow
end Go.Proofs.Ytlnofdlhjeomfaa
