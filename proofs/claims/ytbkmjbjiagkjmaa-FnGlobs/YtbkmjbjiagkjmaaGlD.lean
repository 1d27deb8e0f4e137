/-
  Signs that lie in memory, and what one sign answers of a byte (the program's): contracts for the walks; conditions as each says.
-/
import Derived.Test.YtbkmjbjiagkjmaaGlC
import Derived.Test.YtbkmjbjiagkjmaaGlJ
import Derived.Test.YtbkmjbjiagkjmaaFiF
import Derived.Deep.RegionWith
namespace Go.Proofs.Ytbkmjbjiagkjmaa
open Go.RowKit
set_option linter.unusedSimpArgs false
set_option linter.unusedVariables false

def takesS (g : Sgn) (c : Int) : Bool := (g.set.any fun u => (u.toNat : Int) == c) != g.nt
def sgnV (g : Sgn) : Value := .agg #[.bool g.many, .bool g.nt, .string ⟨g.set.toArray⟩]

/-- The three cells from place j on in block b are the sign g. -/
def SgnAt (w : World) (b j : Nat) (g : Sgn) : Prop := w.cell? ⟨b, j, none⟩ = some (.bool g.many) ∧ w.cell? ⟨b, j + 1, none⟩ = some (.bool g.nt) ∧ w.cell? ⟨b, j + 2, none⟩ = some (.string ⟨g.set.toArray⟩)
/-- The list of signs v is gs. -/
def SgnsIn (S : Nat → Prop) (w : World) (v : Value) (gs : List Sgn) : Prop :=
  ∃ q cap, v = .slice q gs.length cap ∧ gs.length ≤ 12 ∧ gs.length ≤ cap ∧ (gs = [] ∨ ∃ (b off : Nat), q = some ⟨b, off, none⟩ ∧ S b ∧ ∀ k (h : k < gs.length), SgnAt w b (off + k * 3) gs[k])
theorem SgnsIn.keep {S : Nat → Prop} {w w' : World} {v : Value} {gs : List Sgn} (hk : Kp S w w') (h : SgnsIn S w v gs) : SgnsIn S w' v gs := by
  obtain ⟨q, cap, hv, hm, hc, h⟩ := h
  refine ⟨q, cap, hv, hm, hc, ?_⟩
  rcases h with h | ⟨b, off, hq, hb, h⟩
  · exact .inl h
  · exact .inr ⟨b, off, hq, hb, fun k hh => ⟨(hk.cell hb _).trans (h k hh).1, (hk.cell hb _).trans (h k hh).2.1, (hk.cell hb _).trans (h k hh).2.2⟩⟩
theorem SgnsIn.mono {S S' : Nat → Prop} {w : World} {v : Value} {gs : List Sgn} (hS : ∀ b, S b → S' b) (h : SgnsIn S w v gs) : SgnsIn S' w v gs := by
  obtain ⟨q, cap, hv, hm, hc, h⟩ := h
  refine ⟨q, cap, hv, hm, hc, ?_⟩
  rcases h with h | ⟨b, off, hq, hb, h⟩
  · exact .inl h
  · exact .inr ⟨b, off, hq, hS b hb, h⟩

theorem sgnMany_c (m n : Bool) (x : ByteArray) (w : World) :
    Calls Try.prog 166 #[.agg #[.bool m, .bool n, .string x]] w fun e w' => e = .returned (.bool m) ∧ Below w.heap.size w w' := by
  have hbx : ∀ o, Below w.heap.size w (w.alloc o) := fun o => (Below.refl _ _).alloc (Nat.le_refl _) _
  go_enter Try.func166, Try.ntmps166
  go_wp2_with fail
  go_ret
  exact ⟨rfl, hbx _⟩

theorem indexByte_any (l : List UInt8) (c : Int) (h0 : 0 ≤ c) (h1 : c ≤ 255) : decide (0 ≤ Lib.indexByte l c.toNat.toUInt8) = l.any (fun u => (u.toNat : Int) == c) := by
  have hcn : ∀ u : UInt8, ((u.toNat : Int) == c) = true ↔ u = c.toNat.toUInt8 := fun u => by
    have hu := u.toNat_lt
    rw [beq_iff_eq]
    constructor
    · intro e
      have : u.toNat = c.toNat := by omega
      rw [← this]; simp
    · intro e
      subst e
      simp [UInt8.toNat_ofNat']
      omega
  have hge := Lib.indexByte_ge l c.toNat.toUInt8
  by_cases hm : Lib.indexByte l c.toNat.toUInt8 = -1
  · rw [hm]
    have : l.any (fun u => (u.toNat : Int) == c) = false := by
      rw [List.any_eq_false]
      intro u hu hc
      obtain ⟨k, hk, he⟩ := List.getElem_of_mem hu
      have h2 := Lib.indexByte_none hm k
      rw [List.getElem?_eq_getElem hk, he, (hcn u).1 hc] at h2
      exact h2 rfl
    rw [this]; rfl
  · obtain ⟨k, hk⟩ := Int.eq_ofNat_of_zero_le (show 0 ≤ Lib.indexByte l c.toNat.toUInt8 by omega)
    obtain ⟨hh, hbef⟩ := Lib.indexByte_some hk
    have : l.any (fun u => (u.toNat : Int) == c) = true := by
      rw [List.any_eq_true]
      exact ⟨_, List.mem_of_getElem? hh, (hcn _).2 rfl⟩
    rw [this, hk]
    exact decide_eq_true (by omega)

set_option maxHeartbeats 1000000 in
theorem sgnTakes_c (m n : Bool) (x : List UInt8) (c : Int) (h0 : 0 ≤ c) (h1 : c ≤ 255) (w : World) :
    Calls Try.prog 165 #[.agg #[.bool m, .bool n, .string ⟨x.toArray⟩], .int .u8 c] w fun e w' => e = .returned (.bool (takesS ⟨m, n, x⟩ c)) ∧ Below w.heap.size w w' := by
  have hbx : ∀ o, Below w.heap.size w (w.alloc o) := fun o => (Below.refl _ _).alloc (Nat.le_refl _) _
  have hbA : ∀ t, (w.alloc (.cells #[.bool m, .bool n, .string ⟨x.toArray⟩] t)).heap[w.heap.size]? = some (.cells #[.bool m, .bool n, .string ⟨x.toArray⟩] t (0, 0)) := fun t => vheap_new _ _
  have hi := indexByte_any x c h0 h1
  obtain ⟨r, hr⟩ : ∃ r, r = Lib.indexByte x c.toNat.toUInt8 := ⟨_, rfl⟩
  have HR : Hid (takesS ⟨m, n, x⟩ c = (decide (0 ≤ r) != n)) := by show _ = _; unfold takesS; rw [← hi, hr]
  have hc := fun w => Try.strings_IndexByte ⟨x.toArray⟩ c w
  simp only [← hr] at hc
  clear hi hr
  go_enter Try.func165, Try.ntmps165
  go_wp2_with fail
  go_region_with (go_at_call 105; refine (hc _).mono ?_; rintro e w1 ⟨rfl, rfl⟩)
  all_goals go_wp2_with fail
  all_goals go_ret
  all_goals exact ⟨by rw [HR.out]; rfl, (hbx _).drew⟩
end Go.Proofs.Ytbkmjbjiagkjmaa
