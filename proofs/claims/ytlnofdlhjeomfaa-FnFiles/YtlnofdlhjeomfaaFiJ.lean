/-
  Lists of files that are drawn: contracts for the walks; conditions: the cursor lies in memory as told.
-/
import Derived.Test.YtlnofdlhjeomfaaFiI
import Derived.Test.YtlnofdlhjeomfaaDraw
namespace Go.Proofs.Ytlnofdlhjeomfaa
open Go.RowKit Go.Maps
set_option linter.unusedSimpArgs false
set_option linter.unusedVariables false

def pathsL : List ByteArray := [⟨#[97, 47, 120]⟩, ⟨#[97, 47, 121]⟩, ⟨#[97, 47, 115, 114, 99, 47, 109]⟩, ⟨#[98, 47, 120]⟩, ⟨#[98, 47, 116, 46, 109, 100]⟩, ⟨#[99, 47, 120]⟩, ⟨#[99, 47, 115, 114, 99, 47, 110, 46, 103, 111]⟩, ⟨#[116, 111, 112]⟩]
theorem pathsL_small : ∀ t ∈ pathsL, t.size ≤ 20 := by decide +kernel
def textsL : List ByteArray := [⟨#[]⟩, ⟨#[49]⟩, ⟨#[104, 101, 108, 108, 111]⟩, ⟨#[116, 119, 111, 10]⟩]
theorem textsL_small : ∀ t ∈ textsL, t.size ≤ 20 := by decide +kernel

theorem strAt_c (base g : Nat) (zs : List Int) (xs : List ByteArray) (w : World) (hc : Cur w base g zs) (hm : 0 < xs.length) (hm2 : xs.length ≤ 1048576) :
    Calls Try.prog 37 #[.pointer (some ⟨g, 0, none⟩), .slice (some ⟨w.heap.size, 0, none⟩) xs.length xs.length] (w.alloc (.cells (xs.map Value.string).toArray 9)) fun e w' => ∃ t, t ∈ xs ∧ e = .returned (.string t) ∧ Cur w' base g zs ∧ (w.alloc (.cells (xs.map Value.string).toArray 9)).grownBy w' (some g) :=
  str_c base g zs w.heap.size xs.length xs _ (cur_alloc hc _) hm hm2 (by have := cur_lt hc; omega) (lit_strs w xs)

set_option maxHeartbeats 1000000 in
theorem path5_c (base g : Nat) (zs : List Int) (w : World) (hc : Cur w base g zs) :
    Calls Try.prog 38 #[.pointer (some ⟨g, 0, none⟩)] w fun e w' => ∃ t, t ∈ pathsL ∧ e = .returned (.string t) ∧ Cur w' base g zs ∧ w.grownBy w' (some g) := by
  have H := strAt_c base g zs pathsL w hc (by decide) (by decide)
  go_enter Try.func38, Try.ntmps38
  go_wp2_with (go_at_call 37; refine H.mono ?_; rintro e w1 ⟨t, ht, rfl, c1, g1⟩)
  go_ret
  exact ⟨t, ht, rfl, c1, grown_trans (World.grownBy_alloc _ _ _) g1⟩

/-- A drawn file is small. -/
def smallF (f : FileD) : Prop := f.p.size ≤ 70 ∧ f.t.size ≤ 70
theorem smallF_sane {f : FileD} (h : smallF f) : saneF f := ⟨by unfold maxLen; have := h.1; omega, by unfold maxLen; have := h.2; omega⟩
/-- A drawn list: right, of small files, at most n. -/
def drawnF (n : Nat) (L : List FileD) : Prop := filesB L = true ∧ (∀ f ∈ L, smallF f ∧ f.p ∈ pathsL) ∧ L.length ≤ n
theorem putOut_drawn {n : Nat} {L : List FileD} {f : FileD} (h : drawnF n L) (hf : smallF f ∧ f.p ∈ pathsL) : drawnF (n + 1) (putOut L f) := by
  obtain ⟨h1, h2, h3⟩ := h
  unfold putOut orOld
  split
  · rename_i hb
    refine ⟨hb, fun g hg => by rcases putS_mem hg with rfl | hg; exact hf; exact h2 g hg, ?_⟩
    have hs := putSt_len f L ([], false)
    have hp : (putS L f).length ≤ L.length + 1 := by
      unfold putS putSt
      unfold putSt at hs
      split <;> simp_all <;> omega
    omega
  · exact ⟨h1, h2, by omega⟩

set_option maxHeartbeats 4000000 in
set_option maxRecDepth 100000 in
theorem draw5_c (base g : Nat) (zs : List Int) (w : World) (hc : Cur w base g zs) (hbw : base ≤ w.heap.size) :
    Calls Try.prog 78 #[.pointer (some ⟨g, 0, none⟩)] w fun e w' => ∃ (v : Value) (L : List FileD), e = .returned v ∧ w'.ownsRow w.heap.size 26 2 v L.length (cellsF L) ∧ drawnF 8 L ∧ Cur w' base g zs ∧ w.grownBy w' (some g) := by
  have hgl := cur_lt hc
  have ho : (w.alloc (.cells #[] 26)).ownsRow w.heap.size 26 2 (.slice (some ⟨w.heap.size, 0, none⟩) 0 0) 0 [] := World.ownsRow_lit w #[] 0 (Nat.le_refl _) (by unfold maxLen; omega) rfl
  have H0 := below_c base g zs 9 _ (cur_alloc hc (.cells #[] 26))
  go_enter Try.func78, Try.ntmps78
  go_wp2_with (go_at_call 79; refine H0.mono ?_; rintro e w1 ⟨x, rfl, hx, c1, g1⟩)
  have hx9 : x ≤ 8 := by have := hx (by omega); omega
  have o1 := ho.kept g1 (.inr (by simp [Value.ownBlock]; omega))
  have G1 : w.grownBy w1 (some g) := grown_trans (World.grownBy_alloc _ _ _) g1
  clear H0 ho hx g1
  go_loopw [3, 4] (fun vo vi wr => ∃ (i : Nat) (L : List FileD), i ≤ x ∧ vi = .int .i64 (i : Int) ∧ wr.ownsRow w.heap.size 26 2 vo L.length (cellsF L) ∧ Hid (drawnF (x - i) L) ∧ Cur wr base g zs ∧ w.grownBy wr (some g)) (fun _ vi _ => (intOf vi).toNat)
  case atStart => exact ⟨x, [], Nat.le_refl _, rfl, o1, ⟨rfl, by simp, by simp⟩, c1, G1⟩
  case round =>
    obtain ⟨i, L, hi, rfl, hown, hdr, hcr, hgr⟩ := hrel
    clear o1 c1 G1
    by_cases h0 : i = 0
    · subst h0
      go_wp2_with fail
      go_ret
      obtain ⟨d1, d2, d3⟩ := hdr.out
      exact ⟨_, L, rfl, hown, ⟨d1, d2, by omega⟩, hcr, hgr⟩
    · have hip : (0 : Int) < (i : Int) := by omega
      have hnb : ∀ {W : World} {v : Value} {n : Nat} {xs : List Value}, W.ownsRow w.heap.size 26 2 v n xs → v.ownBlock = none ∨ v.ownBlock ≠ some g := fun h => .inr (fun e => by have := (h.lt g e).1; omega)
      have hsl : ∃ q m c, u3 = .slice q m c := by rcases hown.2 with ⟨rfl, _⟩ | ⟨g, c, cur, rfl, _⟩ <;> exact ⟨_, _, _, rfl⟩
      have hLl : L.length ≤ 8 := by have := hdr.out.2.2; omega
      go_wp2_with (first
        | (go_at_call 38; refine (path5_c base g zs _ hcr).mono ?_; rintro e wa ⟨p, hp, rfl, ca, ga⟩
           have owna := hown.kept ga (hnb hown)
           have HT := strAt_c base g zs textsL wa ca (by decide) (by decide))
        | (go_at_call 37; refine HT.mono ?_; rintro e wb ⟨t, ht, rfl, cb, gb⟩
           have ownb := (owna.alloc (.cells (textsL.map Value.string).toArray 9)).kept gb (hnb owna)
           have Gb : w.grownBy wb (some g) := grown_trans (grown_trans (grown_trans hgr ga) (World.grownBy_alloc _ _ _)) gb
           have hsm : smallF ⟨p, t⟩ := ⟨by have := pathsL_small p hp; show p.size ≤ 70; omega, by have := textsL_small t ht; show t.size ≤ 70; omega⟩
           have HP := specPut_c _ _ L ⟨p, t⟩ wb (filesIn_owns ownb (fun f hf => smallF_sane (hdr.out.2.1 f hf).1)) (fun b h => h.2) (by omega) (smallF_sane hsm) (fun f hf => by have := (hdr.out.2.1 f hf).1.1; omega) (by have := hsm.1; omega))
        | (go_at_call 10; refine HP.mono ?_; rintro e wc ⟨xv, rfl, oc, bc⟩))
      have hsz := Gb.size
      have cc := cur_grown cb (grown_of_below bc none) (fun k hk => by cases hk) (by simp)
      go_roundw
      case rel => exact ⟨i - 1, _, by omega, by go_num, owns_lower2 oc hsz, (by have := putOut_drawn hdr.out ⟨hsm, hp⟩; rw [show x - (i - 1) = x - i + 1 by omega]; exact this), cc, grown_trans Gb (grown_of_below bc _)⟩
      case measure => simp [intOf]; omega
end Go.Proofs.Ytlnofdlhjeomfaa
