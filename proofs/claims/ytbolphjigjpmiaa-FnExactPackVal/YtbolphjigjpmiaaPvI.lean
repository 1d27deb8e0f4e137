/-
  The value of a pack put together out of its four parts: a fact on memory; conditions: the parts lie in blocks of their own.
-/
import Derived.Test.YtbolphjigjpmiaaPvG
namespace Go.Proofs.Ytbolphjigjpmiaa
open Go.RowKit
set_option linter.unusedSimpArgs false
set_option linter.unusedVariables false

def fourC (cN cT cU : Value) : Nat → Value | 1 => cN | 2 => cT | 3 => cU | _ => .slice none 0 0
def fourU (uN uT : Value) : Nat → Value | 1 => uN | 2 => uT | _ => .slice none 0 0
def fourB (RN RT RU : Nat → Prop) : Nat → Nat → Prop | 1, b => RN b | 2, b => RT b | 3, b => RU b | _, _ => False
def fourK (KN KT : Nat → Prop) : Nat → Nat → Prop | 1, b => KN b | 2, b => KT b | _, _ => False
theorem fourB_in {RN RT RU : Nat → Prop} {i b : Nat} (h : fourB RN RT RU i b) : (i = 1 ∧ RN b) ∨ (i = 2 ∧ RT b) ∨ (i = 3 ∧ RU b) := by
  match i, h with
  | 1, h => exact .inl ⟨rfl, h⟩
  | 2, h => exact .inr (.inl ⟨rfl, h⟩)
  | 3, h => exact .inr (.inr ⟨rfl, h⟩)
theorem fourK_in {KN KT : Nat → Prop} {i b : Nat} (h : fourK KN KT i b) : (i = 1 ∧ KN b) ∨ (i = 2 ∧ KT b) := by
  match i, h with
  | 1, h => exact .inl ⟨rfl, h⟩
  | 2, h => exact .inr ⟨rfl, h⟩
theorem mk_four {W : World} {c u cN uN cT uT cU : Value} {name : ByteArray} {lN lT lU : List Tree} {kN kT : List ByteArray} {RN KN RT KT RU S1 S2 S3 : Nat → Prop}
    (hc : W.ownsRow 0 30 5 c 4 [.int .i64 3, .int .i64 0, .string name, .slice none 0 0, .slice none 0 0, .int .i64 5, .int .i64 0, .string ⟨#[]⟩, cN, uN, .int .i64 5, .int .i64 0, .string ⟨#[]⟩, cT, uT, .int .i64 4, .int .i64 0, .string ⟨#[]⟩, cU, .slice none 0 0])
    (hu : W.ownsRow 0 9 1 u 4 (strsV packKeys))
    (hn : name.size ≤ maxLen) (sN : saneS kN) (sT : saneS kT)
    (pN : Part W RN KN cN uN lN kN) (pT : Part W RT KT cT uT lT kT) (pU : Part W RU (fun _ => False) cU (.slice none 0 0) lU [])
    (iN : ∀ b, RN b ∨ KN b → S1 b) (iT : ∀ b, RT b ∨ KT b → S2 b) (iU : ∀ b, RU b → S3 b)
    (d12 : ∀ b, S1 b → ¬ S2 b) (d13 : ∀ b, S1 b → ¬ S3 b) (d23 : ∀ b, S2 b → ¬ S3 b)
    (bc : ∀ g, c.ownBlock = some g → ¬ S1 g ∧ ¬ S2 g ∧ ¬ S3 g) (bu : ∀ g, u.ownBlock = some g → ¬ S1 g ∧ ¬ S2 g ∧ ¬ S3 g)
    (low : ∀ b, S1 b ∨ S2 b ∨ S3 b → b < W.heap.size) :
    Mk W (fun b => S1 b ∨ S2 b ∨ S3 b ∨ c.ownBlock = some b ∨ u.ownBlock = some b) c u [textT name, .mk 5 0 ⟨#[]⟩ lN kN, .mk 5 0 ⟨#[]⟩ lT kT, .mk 4 0 ⟨#[]⟩ lU []] packKeys := by
  have hB : ∀ {i b}, fourB RN RT RU i b → (i = 1 ∧ S1 b) ∨ (i = 2 ∧ S2 b) ∨ (i = 3 ∧ S3 b) := fun h => by
    rcases fourB_in h with h | h | h
    · exact .inl ⟨h.1, iN _ (.inl h.2)⟩
    · exact .inr (.inl ⟨h.1, iT _ (.inl h.2)⟩)
    · exact .inr (.inr ⟨h.1, iU _ h.2⟩)
  have hK : ∀ {i b}, fourK KN KT i b → (i = 1 ∧ S1 b) ∨ (i = 2 ∧ S2 b) := fun h => by
    rcases fourK_in h with h | h
    · exact .inl ⟨h.1, iN _ (.inr h.2)⟩
    · exact .inr ⟨h.1, iT _ (.inr h.2)⟩
  have no : ∀ g, (¬ S1 g ∧ ¬ S2 g ∧ ¬ S3 g) → ∀ i, ¬ fourB RN RT RU i g ∧ ¬ fourK KN KT i g := fun g h i => by
    refine ⟨fun k => ?_, fun k => ?_⟩
    · rcases hB k with k | k | k
      · exact h.1 k.2
      · exact h.2.1 k.2
      · exact h.2.2 k.2
    · rcases hK k with k | k
      · exact h.1 k.2
      · exact h.2.1 k.2
  refine ⟨rfl, ?_, ⟨_, fourC cN cT cU, fourU uN uT, fourB RN RT RU, fourK KN KT, hc, fun g h => ⟨.inr (.inr (.inr (.inl h))), no g (bc g h)⟩, fun g h => ⟨.inr (.inr (.inr (.inr h))), no g (bu g h)⟩, ?_, ?_, ?_, ?_, ?_, ?_, ?_, ?_, ?_⟩, hu⟩
  · rintro b (h | h | h | h | h)
    · exact low b (.inl h)
    · exact low b (.inr (.inl h))
    · exact low b (.inr (.inr h))
    · exact (owns_in hc b h).2
    · exact (owns_in hu b h).2
  · intro i hi
    match i, hi with
    | 0, _ => exact ⟨rfl, rfl, rfl, rfl, rfl⟩
    | 1, _ => exact ⟨rfl, rfl, rfl, rfl, rfl⟩
    | 2, _ => exact ⟨rfl, rfl, rfl, rfl, rfl⟩
    | 3, _ => exact ⟨rfl, rfl, rfl, rfl, rfl⟩
  · intro i hi
    match i, hi with
    | 0, _ => exact ⟨hn, saneNil⟩
    | 1, _ => exact ⟨Nat.zero_le _, sN⟩
    | 2, _ => exact ⟨Nat.zero_le _, sT⟩
    | 3, _ => exact ⟨Nat.zero_le _, saneNil⟩
  · intro i b h
    rcases hB h with h | h | h
    · exact .inl h.2
    · exact .inr (.inl h.2)
    · exact .inr (.inr (.inl h.2))
  · intro i b h
    rcases hK h with h | h
    · exact .inl h.2
    · exact .inr (.inl h.2)
  · intro i j b hij h k
    rcases hB h with ⟨rfl, h1⟩ | ⟨rfl, h1⟩ | ⟨rfl, h1⟩ <;> rcases hB k with ⟨rfl, k1⟩ | ⟨rfl, k1⟩ | ⟨rfl, k1⟩ <;> first | exact hij rfl | exact d12 b h1 k1 | exact d13 b h1 k1 | exact d23 b h1 k1 | exact d12 b k1 h1 | exact d13 b k1 h1 | exact d23 b k1 h1
  · intro i j b h k
    rcases fourB_in h with ⟨rfl, h1⟩ | ⟨rfl, h1⟩ | ⟨rfl, h1⟩ <;> rcases fourK_in k with ⟨rfl, k1⟩ | ⟨rfl, k1⟩
    · exact pN.apart b h1 k1
    · exact d12 b (iN b (.inl h1)) (iT b (.inr k1))
    · exact d12 b (iN b (.inr k1)) (iT b (.inl h1))
    · exact pT.apart b h1 k1
    · exact d13 b (iN b (.inr k1)) (iU b h1)
    · exact d23 b (iT b (.inr k1)) (iU b h1)
  · intro i j b hij h k
    rcases hK h with ⟨rfl, h1⟩ | ⟨rfl, h1⟩ <;> rcases hK k with ⟨rfl, k1⟩ | ⟨rfl, k1⟩ <;> first | exact hij rfl | exact d12 b h1 k1 | exact d12 b k1 h1
  · intro i hi
    match i, hi with
    | 0, _ => exact nil_own W _
    | 1, _ => exact ⟨pN.own, pN.lies⟩
    | 2, _ => exact ⟨pT.own, pT.lies⟩
    | 3, _ => exact ⟨pU.own, pU.lies⟩
  · intro i hi
    match i, hi with
    | 0, _ => exact ⟨⟨rfl, .inl ⟨rfl, rfl⟩⟩, fun g h => by simp [fourU, Value.ownBlock] at h⟩
    | 1, _ => exact ⟨pN.keys, pN.inK⟩
    | 2, _ => exact ⟨pT.keys, pT.inK⟩
    | 3, _ => exact ⟨⟨rfl, .inl ⟨rfl, rfl⟩⟩, fun g h => by simp [fourU, Value.ownBlock] at h⟩
end Go.Proofs.Ytbolphjigjpmiaa
