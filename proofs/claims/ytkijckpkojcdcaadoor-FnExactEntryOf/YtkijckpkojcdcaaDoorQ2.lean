/-
  Contracts for the walks, several texts in one: each part says what it proves, and under which conditions.
-/
import Derived.Lib.Strings
import Derived.Lib.IndexLaws
import Derived.WalkSpells
import Derived.Shelf.Strings.Builder1
import Derived.Shelf.Strings.BuilderF
import Derived.Shelf.Strconv.Itoa0
import Derived.Shelf.Strconv.Itoa1
import Derived.Shelf.LaysM
import Derived.Shelf.Strconv.Itoa2
import Derived.Shelf.Strconv.Itoa3
import Derived.Shelf.Strconv.Clone
import Derived.Test.YtkijckpkojcdcaaDoorProg
import Derived.Deep.RegionHeld
import Derived.Test.YtkijckpkojcdcaaDoorQ1

/-! What the law's helpers over versions answer (how much there is, a copy, whether two are alike): contracts for the walks; conditions: the lists of texts lie in memory as told. -/
namespace Go.Proofs.YtkijckpkojcdcaaDoor
open Go.RowKit
set_option linter.unusedSimpArgs false
set_option linter.unusedVariables false

theorem owns_set {w : World} {base : Nat} {e : TypeId} {v : Value} {n : Nat} {xs : List Value} (h : w.ownsRow base e 1 v n xs) {p : Addr} (hp : p.block < base) (x : Value) : (w.setCell p x).ownsRow base e 1 v n xs := by
  obtain ⟨h1, h2⟩ := h
  refine ⟨h1, ?_⟩
  rcases h2 with h2 | ⟨g, cap, cur, a, b, c, d⟩
  · exact .inl h2
  · exact .inr ⟨g, cap, cur, a, b, by rw [Below.heap_setCell _ _ _ _ (by omega)]; exact c, d⟩

/-- A parameter that was put into a block of its own is still there behind a call. -/
theorem box4 {w w1 : World} {c0 c1 c2 c3 : Value} {t : TypeId} (hb : Below (w.alloc (.cells #[c0, c1, c2, c3] t)).heap.size (w.alloc (.cells #[c0, c1, c2, c3] t)) w1) :
    w1.cell? ⟨w.heap.size, 0, none⟩ = some c0 ∧ w1.cell? ⟨w.heap.size, 1, none⟩ = some c1 ∧ w1.cell? ⟨w.heap.size, 2, none⟩ = some c2 ∧ w1.cell? ⟨w.heap.size, 3, none⟩ = some c3 := by
  have h : ∀ j, w1.cell? ⟨w.heap.size, j, none⟩ = (#[c0, c1, c2, c3] : Array Value)[j]? := fun j => by
    rw [hb.cell (p := ⟨w.heap.size, j, none⟩) (by simp)]
    exact vblk_cell (vheap_new _ _) j
  exact ⟨h 0, h 1, h 2, h 3⟩

def saneP (ps : List ByteArray) : Prop := ps.length ≤ maxLen ∧ ∀ s ∈ ps, s.size ≤ maxLen

set_option maxHeartbeats 1000000 in
set_option maxRecDepth 100000 in
theorem sizeStrsL_c (v : Value) (ss : List ByteArray) (w : World) (left : Int) (hl0 : 0 ≤ left) (hl1 : left ≤ 1048576) (hv : Reads w v (strsV ss)) (hn : ss.length ≤ maxLen) (hs : ∀ s ∈ ss, s.size ≤ maxLen) :
    Calls Tryd.prog 24 #[v, .int .i64 left] w fun e w' => e = .returned (.int .i64 (leftS ss left)) ∧ w = w' := by
  obtain ⟨a, cap, rfl, _, hc⟩ := reads_strs hv
  clear hv
  unfold maxLen at hn hs
  by_cases h0 : left < (ss.length : Int)
  · have hneg : left - (ss.length : Int) < 0 := by omega
    have e : leftS ss left = -1 := by rw [leftS, bulkS, if_neg (by omega)]
    rw [e]
    clear hc hs
    go_enter Tryd.func24, Tryd.ntmps24
    go_wp2
    go_ret
    exact ⟨rfl, rfl⟩
  · have hpos : ¬ (left - (ss.length : Int) < 0) := by omega
    rcases hc with rfl | ⟨b, off, rfl, hlt, hc⟩
    · go_enter Tryd.func24, Tryd.ntmps24
      go_wp2
      go_loop [1, 5] (fun vl vi => vl = .int .i64 left ∧ vi = .int .i64 0) (fun _ _ => 0)
      case atStart => exact ⟨rfl, rfl⟩
      case round =>
        obtain ⟨rfl, rfl⟩ := hrel
        go_wp2
        go_ret
        exact ⟨by rw [show leftS [] left = left by simp [leftS, bulkS, hl0]]; rfl, rfl⟩
    · go_enter Tryd.func24, Tryd.ntmps24
      go_wp2
      go_loop [1, 5] (fun vl vi => ∃ (k : Nat) (l : Int), k ≤ ss.length ∧ vi = .int .i64 (k : Int) ∧ vl = .int .i64 l ∧ 0 ≤ l ∧ l ≤ 1048576 ∧ Hid (l = left - (ss.length : Int) - (((ss.take k).map ByteArray.size).sum : Int))) (fun _ vi => ss.length - (intOf vi).toNat)
      case atStart => exact ⟨0, _, Nat.zero_le _, rfl, rfl, by omega, by omega, by show _ = _; simp⟩
      case round =>
        obtain ⟨k, l, hk, rfl, rfl, hq0, hq1, hl⟩ := hrel
        by_cases hlt' : k < ss.length
        · have hcx := hc k hlt'
          have hsk := hs ss[k] (List.getElem_mem hlt')
          have hsum := sum_take_succ ss k hlt'
          obtain ⟨t, ht⟩ : ∃ t, t = ss[k] := ⟨_, rfl⟩
          rw [← ht] at hcx hsk hsum
          have HS : Hid (((ss.take (k + 1)).map ByteArray.size).sum = ((ss.take k).map ByteArray.size).sum + t.size) := hsum
          have hki : (k : Int) < (ss.length : Int) := by omega
          clear hc hs ht hsum
          by_cases hneg : l - (t.size : Int) < 0
          · have e : leftS ss left = -1 := by
              have h1 := HS.out; have h2 := hl.out; have h3 := sum_take_le ss (k + 1)
              rw [leftS, bulkS, if_neg (by omega)]
            have HE : Hid (leftS ss left = -1) := e
            clear e
            go_wp2
            go_ret
            exact ⟨by rw [HE.out]; rfl, rfl⟩
          · go_wp2
            go_round
            case rel => exact ⟨k + 1, l - (t.size : Int), by omega, by go_num, rfl, by omega, by omega, (by show _ = _; rw [HS.out, hl.out]; omega)⟩
            case measure => simp [intOf]; omega
        · have he : k = ss.length := by omega
          subst he
          have e : leftS ss left = l := by
            have h2 := hl.out
            rw [List.take_length] at h2
            rw [leftS, bulkS, if_pos (by omega)]; omega
          have HE : Hid (leftS ss left = l) := e
          clear hc hs e
          go_wp2
          go_ret
          exact ⟨by rw [HE.out]; rfl, rfl⟩

theorem szVer_c (a b c : Int) (u : Value) (ps : List ByteArray) (left : Int) (hl0 : 0 ≤ left) (hl1 : left ≤ 1048576) (w : World) (hu : Reads w u (strsV ps)) (hs : saneP ps) :
    Calls Tryd.prog 11 #[.agg #[.int .i64 a, .int .i64 b, .int .i64 c, u], .int .i64 left] w fun e w' => e = .returned (.int .i64 (leftS ps left)) ∧ Below w.heap.size w w' := by
  have hbx : ∀ o, Below w.heap.size w (w.alloc o) := fun o => (Below.refl _ _).alloc (Nat.le_refl _) _
  have hr : ∀ o, Reads (w.alloc o) u (strsV ps) := fun o => hu.below (hbx o)
  obtain ⟨p, hp⟩ : ∃ p, p = leftS ps left := ⟨_, rfl⟩
  have HS : Hid (∀ o, Calls Tryd.prog 24 #[u, .int .i64 left] (w.alloc o) fun e w' => e = .returned (.int .i64 p) ∧ w.alloc o = w') := fun o => by rw [hp]; exact sizeStrsL_c u ps _ left hl0 hl1 (hr o) hs.1 hs.2
  have hneg : p < 0 → p = -1 := by
    rw [hp]; unfold leftS; split <;> intro h
    · omega
    · rfl
  have HN : Hid (p < 0 → p = -1) := hneg
  rw [← hp]
  obtain ⟨q, cap, rfl, _, _⟩ := reads_strs hu
  clear hneg hp hu hr hs
  by_cases h : p < 0
  · have e := HN.out h
    subst e
    go_enter Tryd.func11, Tryd.ntmps11
    go_wp2_with (go_at_call 24; refine (HS.out _).mono ?_; rintro e w1 ⟨rfl, rfl⟩)
    go_ret
    exact ⟨rfl, hbx _⟩
  · go_enter Tryd.func11, Tryd.ntmps11
    go_wp2_with (go_at_call 24; refine (HS.out _).mono ?_; rintro e w1 ⟨rfl, rfl⟩)
    go_ret
    exact ⟨rfl, hbx _⟩

set_option maxHeartbeats 1000000 in
set_option maxRecDepth 100000 in
theorem eqVer_c (a b c : Int) (u u' : Value) (ps : List ByteArray) (w : World) (hu : Reads w u (strsV ps)) (hu' : Reads w u' (strsV ps)) (hn : ps.length ≤ 1048576) :
    Calls Tryd.prog 18 #[.agg #[.int .i64 a, .int .i64 b, .int .i64 c, u], .agg #[.int .i64 a, .int .i64 b, .int .i64 c, u']] w fun e w' => e = .returned (.bool true) ∧ Below w.heap.size w w' := by
  have hbx : ∀ o o', Below w.heap.size w ((w.alloc o).alloc o') := fun o o' => ((Below.refl _ _).alloc (Nat.le_refl _) _).alloc (by simp) _
  have HS : Hid (∀ o o', Calls Tryd.prog 32 #[u, u'] ((w.alloc o).alloc o') fun e w' => e = .returned (.bool true) ∧ Below ((w.alloc o).alloc o').heap.size ((w.alloc o).alloc o') w') := fun o o' => by
    have := eqStrs_c u u' ps ps _ (hu.below (hbx o o')) (hu'.below (hbx o o')) (by omega)
    rwa [decide_eq_true rfl] at this
  obtain ⟨q, cap, rfl, _, _⟩ := reads_strs hu
  obtain ⟨q', cap', rfl, _, _⟩ := reads_strs hu'
  clear hu hu'
  go_enter Tryd.func18, Tryd.ntmps18
  go_wp2_with (go_at_call 32; refine (HS.out _ _).mono ?_; rintro e w1 ⟨rfl, b1⟩)
  go_ret
  exact ⟨rfl, (hbx _ _).trans (b1.mono (by simp; omega))⟩

theorem vthree {w w1 : World} {A R O : Obj} (hb : Below (((w.alloc A).alloc R).alloc O).heap.size (((w.alloc A).alloc R).alloc O) w1) :
    w1.heap[w.heap.size]? = some A ∧ w1.heap[w.heap.size + 1]? = some R ∧ w1.heap[w.heap.size + 1 + 1]? = some O := by
  have s1 : (w.alloc A).heap.size = w.heap.size + 1 := by simp
  have s2 : ((w.alloc A).alloc R).heap.size = w.heap.size + 1 + 1 := by simp
  refine ⟨?_, ?_, ?_⟩
  · rw [hb.block _ (by simp; omega), vheap_old _ _ (by simp; omega), vheap_old _ _ (by simp), vheap_new]
  · rw [hb.block _ (by simp), vheap_old _ _ (by simp), ← s1, vheap_new]
  · rw [hb.block _ (by simp), ← s2, vheap_new]

set_option maxHeartbeats 1000000 in
set_option maxRecDepth 100000 in
theorem toVer_c (a b c : Int) (u : Value) (ps : List ByteArray) (w : World) (hu : Reads w u (strsV ps)) (hn : ps.length ≤ 1048576) :
    Calls Tryd.prog 14 #[.agg #[.int .i64 a, .int .i64 b, .int .i64 c, u]] w fun e w' => ∃ g, e = .returned (.agg #[.int .i64 a, .int .i64 b, .int .i64 c, .slice (some ⟨g, 0, none⟩) ps.length ps.length]) ∧ Reads w' (.slice (some ⟨g, 0, none⟩) ps.length ps.length) (strsV ps) ∧ Below w.heap.size w w' := by
  have huA : ∀ w1, Below w.heap.size w w1 → Reads w1 u (strsV ps) := fun w1 h1 => hu.below h1
  obtain ⟨q, cap, rfl, _, _⟩ := reads_strs hu
  clear hu
  go_enter Tryd.func14, Tryd.ntmps14
  have hb3 : ∀ A R O, Below w.heap.size w (((w.alloc A).alloc R).alloc O) := fun A R O => (((Below.refl _ _).alloc (Nat.le_refl _) _).alloc (by simp) _).alloc (by simp; omega) _
  go_wp2_with (
    go_at_call 28
    refine (toStrs_c _ ps _ (huA _ (hb3 _ _ _)) (by omega)).mono ?_
    rintro e w1 ⟨g, rfl, hM, hb1⟩
    obtain ⟨hA, hR, hO⟩ := vthree hb1
    have o0 := vblk_cell hO 0
    have o1 := vblk_cell hO 1
    have o2 := vblk_cell hO 2
    have o3 := vblk_cell hO 3
    have r0 := vblk_cell hR 0
    have r1 := vblk_cell hR 1
    have r2 := vblk_cell hR 2
    have r3 := vblk_cell hR 3
    have fo := vblk_frozen hO
    have fr := vblk_frozen hR
    simp only [List.getElem?_toArray, List.getElem?_cons_succ, List.getElem?_cons_zero] at o0 o1 o2 o3 r0 r1 r2 r3)
  have s3 : ∀ A R O, (((w.alloc A).alloc R).alloc O).heap.size = w.heap.size + 1 + 1 + 1 := fun A R O => by simp
  rw [s3] at hb1 hM
  have hN : w.heap.size + 1 + 1 + 1 ≤ w1.heap.size := by have := hb1.size; rw [s3] at this; exact this
  refine bodyPost_ret (v := .agg #[.int .i64 a, .int .i64 b, .int .i64 c, .slice (some ⟨g, 0, none⟩) ps.length ps.length]) (by simp [results, Tryd.results14, go_sem, o0, o1, o2, o3, r0, r1, r2, r3]) rfl ⟨_, rfl, ?_, ?_⟩
  · refine reads_of_owns (base := w.heap.size + 1 + 1 + 1) (e := 9) (n := ps.length) ?_
    refine owns_set (owns_set (owns_set (owns_set (owns_set hM ?_ _) ?_ _) ?_ _) ?_ _) ?_ _ <;> simp
  · have b1 := ((hb3 _ _ _).trans (hb1.mono (by omega)))
    refine Below.setCell (Below.setCell (Below.setCell (Below.setCell (Below.setCell b1 ?_ _) ?_ _) ?_ _) ?_ _) ?_ _ <;> simp <;> omega
end Go.Proofs.YtkijckpkojcdcaaDoor

/-! Needs, commands and packs that lie in memory: what they are, and how much they hold, as the law counts it: contracts for the walks; conditions: at most 2 to the 20 is left to count. -/
namespace Go.Proofs.YtkijckpkojcdcaaDoor
open Go.RowKit
set_option linter.unusedSimpArgs false
set_option linter.unusedVariables false

theorem lw (n : Nat) (l : Int) : ((n : Int) ≤ l ∧ leftW n l = l - (n : Int)) ∨ (l < (n : Int) ∧ leftW n l = -1) := by
  by_cases h : (n : Int) ≤ l
  · exact .inl ⟨h, leftW_good h⟩
  · exact .inr ⟨by omega, leftW_bad h⟩

/-- A list of texts that may be written. -/
def StrsOwn (S : Nat → Prop) (w : World) (u : Value) (ss : List ByteArray) : Prop := w.ownsRow 0 9 1 u ss.length (strsV ss) ∧ ∀ g, u.ownBlock = some g → S g
theorem StrsOwn.keep {S : Nat → Prop} {w w' : World} {u : Value} {ss : List ByteArray} (hk : Kp S w w') (h : StrsOwn S w u ss) : StrsOwn S w' u ss := ⟨owns_kept hk h.2 h.1, h.2⟩
theorem StrsOwn.mono {S S' : Nat → Prop} {w : World} {u : Value} {ss : List ByteArray} (hS : ∀ b, S b → S' b) (h : StrsOwn S w u ss) : StrsOwn S' w u ss := ⟨h.1, fun g hg => hS g (h.2 g hg)⟩
theorem StrsOwn.plain {S : Nat → Prop} {w : World} {u : Value} {ss : List ByteArray} (h : StrsOwn S w u ss) : RdB S w u (strsV ss) := by
  obtain ⟨a, cap, hv, hc, hx⟩ := reads_of_owns h.1
  refine ⟨a, cap, hv, hc, ?_⟩
  rcases hx with hx | ⟨b, off, rfl, hlt, hx⟩
  · exact .inl hx
  · exact .inr ⟨b, off, rfl, h.2 b (by rw [hv]; rfl), hx⟩

structure NeedD where
  n : ByteArray
  r : ByteArray
def wtNeed (d : NeedD) : Nat := d.n.size + d.r.size
def shNeed : Sh NeedD where
  n := 2
  lies S w cs d := cs = [.string d.n, .string d.r] ∧ d.n.size ≤ maxLen ∧ d.r.size ≤ maxLen
  keep hk h := by obtain ⟨h0, h1, h2⟩ := h; exact ⟨h0, h1, h2⟩
  mono hS h := by obtain ⟨h0, h1, h2⟩ := h; exact ⟨h0, h1, h2⟩

structure CmdD where
  t : ByteArray
  acts : List ByteArray
def wtCmd (d : CmdD) : Nat := d.t.size + bulkS d.acts
def shCmd : Sh CmdD where
  n := 2
  lies S w cs d := ∃ u0, cs = [.string d.t, u0] ∧ d.t.size ≤ maxLen ∧ RdB S w u0 (strsV d.acts) ∧ saneP d.acts
  keep hk h := by obtain ⟨u0, h0, h1, h2, h3⟩ := h; exact ⟨u0, h0, h1, h2.keep hk, h3⟩
  mono hS h := by obtain ⟨u0, h0, h1, h2, h3⟩ := h; exact ⟨u0, h0, h1, h2.mono hS, h3⟩
def shCmdO : Sh CmdD where
  n := 2
  lies S w cs d := ∃ u0, cs = [.string d.t, u0] ∧ d.t.size ≤ maxLen ∧ StrsOwn S w u0 d.acts ∧ saneP d.acts
  keep hk h := by obtain ⟨u0, h0, h1, h2, h3⟩ := h; exact ⟨u0, h0, h1, h2.keep hk, h3⟩
  mono hS h := by obtain ⟨u0, h0, h1, h2, h3⟩ := h; exact ⟨u0, h0, h1, h2.mono hS, h3⟩
theorem liesCmd_plain {S : Nat → Prop} {w : World} {cs : List Value} {d : CmdD} (h : shCmdO.lies S w cs d) : shCmd.lies S w cs d := by
  obtain ⟨u0, e0, s_t, r0, p0⟩ := h
  exact ⟨u0, e0, s_t, r0.plain, p0⟩

structure PackD where
  name : ByteArray
  uses : List ByteArray
  needs : List NeedD
  cmds : List CmdD
def wtPack (d : PackD) : Nat := d.name.size + bulkS d.uses + wtRow wtNeed d.needs + wtRow wtCmd d.cmds
def shPack : Sh PackD where
  n := 4
  lies S w cs d := ∃ u0 u1 u2, cs = [.string d.name, u0, u1, u2] ∧ d.name.size ≤ maxLen ∧ RdB S w u0 (strsV d.uses) ∧ saneP d.uses ∧ RowIn shNeed S w u1 d.needs ∧ RowIn shCmd S w u2 d.cmds
  keep hk h := by obtain ⟨u0, u1, u2, h0, h1, h2, h3, h4, h5⟩ := h; exact ⟨u0, u1, u2, h0, h1, h2.keep hk, h3, h4.keep hk, h5.keep hk⟩
  mono hS h := by obtain ⟨u0, u1, u2, h0, h1, h2, h3, h4, h5⟩ := h; exact ⟨u0, u1, u2, h0, h1, h2.mono hS, h3, h4.mono hS, h5.mono hS⟩
end Go.Proofs.YtkijckpkojcdcaaDoor

/-! Entries that lie in memory: what they are: no condition. -/
namespace Go.Proofs.YtkijckpkojcdcaaDoor
open Go.RowKit
set_option linter.unusedSimpArgs false
set_option linter.unusedVariables false

structure EntryD where
  name : ByteArray
  vA : Int
  vB : Int
  vC : Int
  vP : List ByteArray
  needs : List NeedD
def wtEntry (d : EntryD) : Nat := d.name.size + bulkS d.vP + wtRow wtNeed d.needs
def shEntry : Sh EntryD where
  n := 6
  lies S w cs d := ∃ u0 u1, cs = [.string d.name, .int .i64 d.vA, .int .i64 d.vB, .int .i64 d.vC, u0, u1] ∧ d.name.size ≤ maxLen ∧ RdB S w u0 (strsV d.vP) ∧ saneP d.vP ∧ RowIn shNeed S w u1 d.needs
  keep hk h := by obtain ⟨u0, u1, h0, h1, h2, h3, h4⟩ := h; exact ⟨u0, u1, h0, h1, h2.keep hk, h3, h4.keep hk⟩
  mono hS h := by obtain ⟨u0, u1, h0, h1, h2, h3, h4⟩ := h; exact ⟨u0, u1, h0, h1, h2.mono hS, h3, h4.mono hS⟩
def shEntryO : Sh EntryD where
  n := 6
  lies S w cs d := ∃ u0 u1, cs = [.string d.name, .int .i64 d.vA, .int .i64 d.vB, .int .i64 d.vC, u0, u1] ∧ d.name.size ≤ maxLen ∧ StrsOwn S w u0 d.vP ∧ saneP d.vP ∧ RowOwn shNeed 106 S w u1 d.needs
  keep hk h := by obtain ⟨u0, u1, h0, h1, h2, h3, h4⟩ := h; exact ⟨u0, u1, h0, h1, h2.keep hk, h3, h4.keep hk⟩
  mono hS h := by obtain ⟨u0, u1, h0, h1, h2, h3, h4⟩ := h; exact ⟨u0, u1, h0, h1, h2.mono hS, h3, h4.mono hS⟩
theorem liesEntry_plain {S : Nat → Prop} {w : World} {cs : List Value} {d : EntryD} (h : shEntryO.lies S w cs d) : shEntry.lies S w cs d := by
  obtain ⟨u0, u1, e0, s_name, r0, p0, r1⟩ := h
  exact ⟨u0, u1, e0, s_name, r0.plain, p0, r1.plain⟩
end Go.Proofs.YtkijckpkojcdcaaDoor

/-! Copies of needs and commands, and of rows of them, in memory of their own, as the law makes them: contracts for the walks; condition: what is copied holds at most 2 to the 20. -/
namespace Go.Proofs.YtkijckpkojcdcaaDoor
open Go.RowKit
set_option linter.unusedSimpArgs false
set_option linter.unusedVariables false

theorem owns_sliceP {w : World} {lo : Nat} {e : TypeId} {sz n : Nat} {v : Value} {xs : List Value} (hg : w.ownsRow lo e sz v n xs) : ∃ q cap, v = .slice q n cap := by
  rcases hg.2 with ⟨h1, h2⟩ | ⟨g, cap, cur, h1, _⟩
  · exact ⟨none, 0, by rw [h1, h2]⟩
  · exact ⟨_, _, h1⟩
theorem StrsOwn.slice {S : Nat → Prop} {w : World} {u : Value} {ss : List ByteArray} (h : StrsOwn S w u ss) : ∃ q cap, u = .slice q ss.length cap := owns_sliceP h.1
theorem RowOwn.slice {α : Type} {sh : Sh α} {t : TypeId} {S : Nat → Prop} {w : World} {v : Value} {xs : List α} (h : RowOwn sh t S w v xs) : ∃ q cap, v = .slice q xs.length cap := by
  obtain ⟨_, ys, h1, _⟩ := h; exact owns_sliceP h1

set_option maxHeartbeats 2000000 in
set_option maxRecDepth 100000 in
theorem toNeed_c (S : Nat → Prop) (d : NeedD) (cs : List Value) (w : World) (hd : shNeed.lies S w cs d) (hB : ∀ b, S b → b < w.heap.size) (hw : wtNeed d ≤ 1048576) :
    Calls Tryd.prog 76 #[.agg cs.toArray] w fun e w' => ∃ cs', e = .returned (.agg cs'.toArray) ∧ shNeed.lies (Ow w.heap.size w'.heap.size) w' cs' d ∧ Below w.heap.size w w' := by
  obtain ⟨rfl, s_n, s_r⟩ := hd
  have hb3 : ∀ A R O, Below w.heap.size w (((w.alloc A).alloc R).alloc O) := fun A R O => (((Below.refl _ _).alloc (Nat.le_refl _) _).alloc (by simp) _).alloc (by simp; omega) _
  go_enter Tryd.func76, Tryd.ntmps76
  go_wp2_with fail
  refine bodyPost_ret (v := .agg #[.string d.n, .string d.r]) (by simp [results, Tryd.results76, go_sem]) rfl ⟨_, rfl, ⟨rfl, s_n, s_r⟩, ?_⟩
  exact hb3 _ _ _

set_option maxHeartbeats 2000000 in
set_option maxRecDepth 100000 in
theorem infoNeed : (Tryd.prog.info? 106).map (fun i => (i.zero, i.size, i.bytes)) = some (some (.agg #[.string ⟨#[]⟩, .string ⟨#[]⟩]), 2, 32) := by kernel_rfl
set_option maxHeartbeats 2000000 in
set_option maxRecDepth 100000 in
theorem toNeedS_c (S : Nat → Prop) (v : Value) (xs : List NeedD) (w : World) (hv : RowIn shNeed S w v xs) (hB : ∀ b, S b → b < w.heap.size) (hw : wtRow wtNeed xs ≤ 1048576) :
    Calls Tryd.prog 59 #[v] w fun e w' => ∃ g, e = .returned (.slice (some ⟨g, 0, none⟩) xs.length xs.length) ∧ RowOwn shNeed 106 (Ow w.heap.size w'.heap.size) w' (.slice (some ⟨g, 0, none⟩) xs.length xs.length) xs ∧ Below w.heap.size w w' := by
  obtain ⟨a, cap, rfl, hl, hc, ha⟩ := hv
  have hn := len_wtRow wtNeed xs
  have hlm : xs.length ≤ maxLen := hl
  unfold maxLen at hl
  obtain ⟨i0, hi, hz0, hz1, hz2⟩ := info_parts infoNeed
  go_enter Tryd.func59, Tryd.ntmps59
  go_wp2_with (first
    | (at_make; refine wpList_make_full _ rfl _ _ 40 rfl w.heap.size 106 i0 _ 2 Tryd.underlying40 hi hz0 hz1 _ _ _ _ xs.length rfl rfl rfl rfl (by rw [hz2]; omega) (by unfold maxLen; omega) (Nat.le_refl _) ?_))
  intro w1 hown hgrow
  have hb1 := below_of_grown hgrow
  have hs1 : w.heap.size + 1 ≤ w1.heap.size := by
    rcases hown.2 with ⟨h, _⟩ | ⟨g, cap, cur, h, _, hg, _⟩
    · simp at h
    · simp at h
      have := (Array.getElem?_eq_some_iff.1 hg).1
      omega
  obtain ⟨ys1, hown1⟩ : ∃ ys, w1.ownsRow w.heap.size 106 2 (.slice (some ⟨w.heap.size, 0, none⟩) xs.length xs.length) xs.length ys := ⟨_, hown⟩
  clear hgrow hown
  go_wp2_with fail
  go_loopw [4] (fun vi wr => ∃ (k : Nat) (ys : List Value), k ≤ xs.length ∧ vi = .int .i64 (k : Int) ∧ wr.ownsRow w.heap.size 106 2 (.slice (some ⟨w.heap.size, 0, none⟩) xs.length xs.length) xs.length ys ∧ Hid (Laid shNeed (Ow (w.heap.size + 1) wr.heap.size) wr ys xs k) ∧ Below w.heap.size w wr ∧ w.heap.size + 1 ≤ wr.heap.size) (fun vi _ => xs.length - (intOf vi).toNat)
  case atStart => exact ⟨0, ys1, Nat.zero_le _, rfl, hown1, (fun i h h0 => by omega), hb1, hs1⟩
  case round =>
    obtain ⟨k, ys, hk, rfl, hownr, hy, hbr, hsr⟩ := hrel
    by_cases hlt' : k < xs.length
    · rcases ha with rfl | ⟨b, off, rfl, hlt, ha⟩
      · simp at hlt'
      obtain ⟨cs, hL, hcell⟩ := ha k hlt'
      have hL2 := shNeed.keep (.of hbr hB) hL
      have hcell2 := hcell.keep (.of hbr hB) hlt
      have hBr : ∀ b, S b → b < wr.heap.size := fun b h => Nat.lt_of_lt_of_le (hB b h) hbr.size
      have hwt : wtNeed xs[k] ≤ 1048576 := by have := wt_wtRow wtNeed (List.getElem_mem hlt'); omega
      have hown2 : ∀ w2, Below wr.heap.size wr w2 → w2.ownsRow w.heap.size 106 2 (.slice (some ⟨w.heap.size, 0, none⟩) xs.length xs.length) xs.length ys := fun w2 h2 => hownr.kept (grown_of_below h2 none) (by simp [Value.ownBlock])
      have hlen := hownr.1
      have HC : Hid (∀ w2, Below wr.heap.size wr w2 → ∀ j, j < 2 → ∃ x, w2.cell? ⟨w.heap.size, k * 2 + j, none⟩ = some x) := fun w2 h2 j hj => ⟨ys.getD (k * 2 + j) undef, by rw [(hown2 w2 h2).cellAt _ (by omega)]; simp [List.getD_eq_getElem?_getD, show k * 2 + j < ys.length by omega]⟩
      have HF : Hid (∀ w2, Below wr.heap.size wr w2 → ∀ j, w2.frozen? ⟨w.heap.size, j, none⟩ = false) := fun w2 h2 j => (hown2 w2 h2).frozenAt j
      have HO : Hid (∀ w2, Below wr.heap.size wr w2 → w2.ownsRow w.heap.size 106 2 (.slice (some ⟨w.heap.size, 0, none⟩) xs.length xs.length) xs.length ys) := hown2
      have HST : Hid (∀ w2 cs, Below wr.heap.size wr w2 → cs.length = 2 → shNeed.lies (Ow (w.heap.size + 1) w2.heap.size) w2 cs xs[k] → Laid shNeed (Ow (w.heap.size + 1) (setW w2 w.heap.size (k * 2) cs).heap.size) (setW w2 w.heap.size (k * 2) cs) (putL ys (k * 2) cs) xs (k + 1)) := fun w2 cs h2 hc hr => hy.out.step (sh := shNeed) hlt' hlen h2 (by omega) hc hr
      obtain ⟨d, hd⟩ : ∃ d, d = xs[k] := ⟨_, rfl⟩
      rw [← hd] at hL2 hwt HST
      have HC1 := toNeed_c S d cs wr hL2 hBr hwt
      clear ha hL hcell hd hown2 hi hz0 hz1 hz2 hown1 hb1 hlen hwt
      obtain ⟨rfl, s_n, s_r⟩ := hL2
      clear s_n s_r
      have e0 : wr.cell? ⟨b, off + k * 2, none⟩ = some (.string d.n) := hcell2 0 (by simp)
      have e1 : wr.cell? ⟨b, off + k * 2 + 1, none⟩ = some (.string d.r) := hcell2 1 (by simp)
      have HC2 := hidden HC1
      have hki : (k : Int) < (xs.length : Int) := by omega
      clear hcell2 HC1
      go_wp2_with (go_at_call 76; refine HC2.out.mono ?_; rintro e w2 ⟨cs, rfl, hX, hb2⟩; have HX := hidden (HST.out w2 cs hb2 (by have h := hX; obtain ⟨h9, s_n, s_r⟩ := h; rw [h9]; rfl) (shNeed.mono (Ow.mono hsr (Nat.le_refl _)) hX)); obtain ⟨rfl, s_n, s_r⟩ := hX; obtain ⟨y0, d0⟩ := HC.out w2 hb2 0 (by omega); obtain ⟨y1, d1⟩ := HC.out w2 hb2 1 (by omega); rw [Nat.add_zero] at d0; have f9 := HF.out w2 hb2)
      go_roundw
      case rel =>
        refine ⟨k + 1, _, by omega, by go_num, setW_owns [.string d.n, .string d.r] w2 ys (k * 2) (HO.out w2 hb2), HX.out, setW_below (Nat.le_refl _) [.string d.n, .string d.r] w2 w (k * 2) (hbr.trans (hb2.mono hbr.size)), ?_⟩
        have h9 := setW_size [.string d.n, .string d.r] w2 w.heap.size (k * 2)
        have := hb2.size
        exact Nat.le_trans (show w.heap.size + 1 ≤ w2.heap.size by omega) (Nat.le_of_eq h9.symm)
      case measure => simp [intOf]; omega
    · have he : k = xs.length := by omega
      subst he
      clear ha
      go_wp2_with fail
      go_ret
      exact ⟨_, rfl, rowOwn_of hownr hlm hy.out, hbr⟩

end Go.Proofs.YtkijckpkojcdcaaDoor

/-! Copies in memory of their own, as the law makes them: contracts for the walks; condition: what is copied holds at most 2 to the 20. -/
namespace Go.Proofs.YtkijckpkojcdcaaDoor
open Go.RowKit
set_option linter.unusedSimpArgs false
set_option linter.unusedVariables false

set_option maxHeartbeats 2000000 in
set_option maxRecDepth 100000 in
theorem toVerO_c (a b c : Int) (u : Value) (ps : List ByteArray) (w : World) (hu : Reads w u (strsV ps)) (hn : ps.length ≤ 1048576) :
    Calls Tryd.prog 14 #[.agg #[.int .i64 a, .int .i64 b, .int .i64 c, u]] w fun e w' => ∃ g, e = .returned (.agg #[.int .i64 a, .int .i64 b, .int .i64 c, .slice (some ⟨g, 0, none⟩) ps.length ps.length]) ∧ StrsOwn (Ow w.heap.size w'.heap.size) w' (.slice (some ⟨g, 0, none⟩) ps.length ps.length) ps ∧ Below w.heap.size w w' := by
  have huA : ∀ w1, Below w.heap.size w w1 → Reads w1 u (strsV ps) := fun w1 h1 => hu.below h1
  obtain ⟨q, cap, rfl, _, _⟩ := reads_strs hu
  clear hu
  go_enter Tryd.func14, Tryd.ntmps14
  have hb3 : ∀ A R O, Below w.heap.size w (((w.alloc A).alloc R).alloc O) := fun A R O => (((Below.refl _ _).alloc (Nat.le_refl _) _).alloc (by simp) _).alloc (by simp; omega) _
  go_wp2_with (
    go_at_call 28
    refine (toStrs_c _ ps _ (huA _ (hb3 _ _ _)) (by omega)).mono ?_
    rintro e w1 ⟨g, rfl, hM, hb1⟩
    obtain ⟨hA, hR, hO⟩ := vthree hb1
    have o0 := vblk_cell hO 0
    have o1 := vblk_cell hO 1
    have o2 := vblk_cell hO 2
    have o3 := vblk_cell hO 3
    have r0 := vblk_cell hR 0
    have r1 := vblk_cell hR 1
    have r2 := vblk_cell hR 2
    have r3 := vblk_cell hR 3
    have fo := vblk_frozen hO
    have fr := vblk_frozen hR
    simp only [List.getElem?_toArray, List.getElem?_cons_succ, List.getElem?_cons_zero] at o0 o1 o2 o3 r0 r1 r2 r3)
  have s3 : ∀ A R O, (((w.alloc A).alloc R).alloc O).heap.size = w.heap.size + 1 + 1 + 1 := fun A R O => by simp
  rw [s3] at hb1 hM
  have hN : w.heap.size + 1 + 1 + 1 ≤ w1.heap.size := by have := hb1.size; rw [s3] at this; exact this
  refine bodyPost_ret (v := .agg #[.int .i64 a, .int .i64 b, .int .i64 c, .slice (some ⟨g, 0, none⟩) ps.length ps.length]) (by simp [results, Tryd.results14, go_sem, o0, o1, o2, o3, r0, r1, r2, r3]) rfl ⟨_, rfl, ?_, ?_⟩
  · have hX : ∀ {W : World}, W.ownsRow (w.heap.size + 1 + 1 + 1) 9 1 (.slice (some ⟨g, 0, none⟩) ps.length ps.length) ps.length (strsV ps) → StrsOwn (Ow w.heap.size W.heap.size) W (.slice (some ⟨g, 0, none⟩) ps.length ps.length) ps := fun h => ⟨owns_lo (Nat.zero_le _) h, fun b hb => Ow.mono (by omega) (Nat.le_refl _) b (owns_in h b hb)⟩
    refine hX ?_
    refine owns_set (owns_set (owns_set (owns_set (owns_set hM ?_ _) ?_ _) ?_ _) ?_ _) ?_ _ <;> simp
  · have b1 := ((hb3 _ _ _).trans (hb1.mono (by omega)))
    refine Below.setCell (Below.setCell (Below.setCell (Below.setCell (Below.setCell b1 ?_ _) ?_ _) ?_ _) ?_ _) ?_ _ <;> simp <;> omega

set_option maxHeartbeats 2000000 in
set_option maxRecDepth 100000 in
theorem toEntry_c (S : Nat → Prop) (d : EntryD) (cs : List Value) (w : World) (hd : shEntry.lies S w cs d) (hB : ∀ b, S b → b < w.heap.size) (hw : wtEntry d ≤ 1048576) :
    Calls Tryd.prog 36 #[.agg cs.toArray] w fun e w' => ∃ cs', e = .returned (.agg cs'.toArray) ∧ shEntryO.lies (Ow w.heap.size w'.heap.size) w' cs' d ∧ Below w.heap.size w w' := by
  obtain ⟨u0, u1, rfl, s_name, r0, p0, r1⟩ := hd
  have hb3 : ∀ A R O, Below w.heap.size w (((w.alloc A).alloc R).alloc O) := fun A R O => (((Below.refl _ _).alloc (Nat.le_refl _) _).alloc (by simp) _).alloc (by simp; omega) _
  unfold wtEntry at hw
  have HS0 : Hid (∀ w1, Below w.heap.size w w1 → Calls Tryd.prog 14 #[.agg #[.int .i64 d.vA, .int .i64 d.vB, .int .i64 d.vC, u0]] w1 fun e w' => ∃ g, e = .returned (.agg #[.int .i64 d.vA, .int .i64 d.vB, .int .i64 d.vC, .slice (some ⟨g, 0, none⟩) d.vP.length d.vP.length]) ∧ StrsOwn (Ow w1.heap.size w'.heap.size) w' (.slice (some ⟨g, 0, none⟩) d.vP.length d.vP.length) d.vP ∧ Below w1.heap.size w1 w') := fun w1 hb =>
    toVerO_c _ _ _ u0 d.vP w1 ((r0.keep (.of hb hB)).reads (fun b h => Nat.lt_of_lt_of_le (hB b h) hb.size)) (by unfold bulkS at hw; omega)
  have HS1 : Hid (∀ w1, Below w.heap.size w w1 → Calls Tryd.prog 59 #[u1] w1 fun e w' => ∃ g, e = .returned (.slice (some ⟨g, 0, none⟩) d.needs.length d.needs.length) ∧ RowOwn shNeed 106 (Ow w1.heap.size w'.heap.size) w' (.slice (some ⟨g, 0, none⟩) d.needs.length d.needs.length) d.needs ∧ Below w1.heap.size w1 w') := fun w1 hb =>
    toNeedS_c S u1 d.needs w1 (r1.keep (.of hb hB)) (fun b h => Nat.lt_of_lt_of_le (hB b h) hb.size) (by omega)
  obtain ⟨a0, cap0, eu0, _⟩ := id r0
  rw [length_strsV] at eu0
  subst eu0
  clear r0
  obtain ⟨a1, cap1, eu1, _⟩ := id r1
  subst eu1
  clear r1
  go_enter Tryd.func36, Tryd.ntmps36
  go_wp2_with fail
  go_at_call 14
  refine (HS0.out _ (hb3 _ _ _)).mono ?_
  rintro e w1 ⟨g1, rfl, R0, b1⟩
  obtain ⟨hA1, hR1, hO1⟩ := vthree b1
  have s3 : ∀ A R O, (((w.alloc A).alloc R).alloc O).heap.size = w.heap.size + 1 + 1 + 1 := fun A R O => by simp
  rw [s3] at b1 R0
  have m1 : w.heap.size + 3 ≤ w1.heap.size := by have := b1.size; rw [s3] at this; omega
  have kw1 : Below w.heap.size w w1 := (hb3 _ _ _).trans (b1.mono (by omega))
  replace R0 := R0.mono (S' := Ow (w.heap.size + 3) w1.heap.size) (Ow.mono (by omega) (Nat.le_refl _))
  have m1' : w.heap.size + 3 ≤ w1.heap.size := by omega
  have o0 := vblk_cell hO1 0
  have q0 := vblk_cell hR1 0
  have y0 := vblk_cell hA1 0
  have o1 := vblk_cell hO1 1
  have q1 := vblk_cell hR1 1
  have y1 := vblk_cell hA1 1
  have o2 := vblk_cell hO1 2
  have q2 := vblk_cell hR1 2
  have y2 := vblk_cell hA1 2
  have o3 := vblk_cell hO1 3
  have q3 := vblk_cell hR1 3
  have y3 := vblk_cell hA1 3
  have o4 := vblk_cell hO1 4
  have q4 := vblk_cell hR1 4
  have y4 := vblk_cell hA1 4
  have o5 := vblk_cell hO1 5
  have q5 := vblk_cell hR1 5
  have y5 := vblk_cell hA1 5
  have fo := vblk_frozen hO1
  have fr := vblk_frozen hR1
  simp only [List.getElem?_toArray, List.getElem?_cons_succ, List.getElem?_cons_zero, List.setIfInBounds_toArray, List.set_cons_succ, List.set_cons_zero] at o0 q0 y0 o1 q1 y1 o2 q2 y2 o3 q3 y3 o4 q4 y4 o5 q5 y5
  have k1 : Below w.heap.size w ((((w1.setCell ⟨w.heap.size + 1 + 1, 1, none⟩ (.int .i64 d.vA)).setCell ⟨w.heap.size + 1 + 1, 2, none⟩ (.int .i64 d.vB)).setCell ⟨w.heap.size + 1 + 1, 3, none⟩ (.int .i64 d.vC)).setCell ⟨w.heap.size + 1 + 1, 4, none⟩ (.slice (some ⟨g1, 0, none⟩) d.vP.length d.vP.length)) := (Below.setCell (Below.setCell (Below.setCell (Below.setCell kw1 (by simp; omega) _) (by simp; omega) _) (by simp; omega) _) (by simp; omega) _)
  go_wp2_with fail
  go_at_call 59
  refine (HS1.out _ k1).mono ?_
  rintro e w2 ⟨g2, rfl, R1, b2⟩
  have hA2 := (b2.block w.heap.size (by simp [World.setCell]; omega)).trans ((Below.heap_setCell _ _ _ _ (by simp <;> omega)).trans ((Below.heap_setCell _ _ _ _ (by simp <;> omega)).trans ((Below.heap_setCell _ _ _ _ (by simp <;> omega)).trans ((Below.heap_setCell _ _ _ _ (by simp <;> omega)).trans (hA1)))))
  have hR2 := (b2.block (w.heap.size + 1) (by simp [World.setCell]; omega)).trans ((Below.heap_setCell _ _ _ _ (by simp <;> omega)).trans ((Below.heap_setCell _ _ _ _ (by simp <;> omega)).trans ((Below.heap_setCell _ _ _ _ (by simp <;> omega)).trans ((Below.heap_setCell _ _ _ _ (by simp <;> omega)).trans (hR1)))))
  have hO2 := (b2.block (w.heap.size + 1 + 1) (by simp [World.setCell]; omega)).trans (heap_setCell_same _ _ _ _ _ _ (heap_setCell_same _ _ _ _ _ _ (heap_setCell_same _ _ _ _ _ _ (heap_setCell_same _ _ _ _ _ _ hO1))))
  have m2 : w1.heap.size ≤ w2.heap.size := by have := b2.size; simpa [World.setCell] using this
  have kw2 : Below w.heap.size w w2 := k1.trans (b2.mono k1.size)
  replace R1 := R1.mono (S' := Ow (w.heap.size + 3) w2.heap.size) (Ow.mono (by simp [World.setCell]; omega) (Nat.le_refl _))
  replace R0 := (R0.keep (((((Kp.set (Ow.not (by omega))).trans (Kp.set (Ow.not (by omega)))).trans (Kp.set (Ow.not (by omega)))).trans (Kp.set (Ow.not (by omega)))).trans (Kp.of b2 (fun b h => by have := h.2; simp [World.setCell]; omega)))).mono (S' := Ow (w.heap.size + 3) w2.heap.size) (Ow.mono (Nat.le_refl _) (by omega))
  have m2' : w.heap.size + 3 ≤ w2.heap.size := by omega
  have o0 := vblk_cell hO2 0
  have q0 := vblk_cell hR2 0
  have y0 := vblk_cell hA2 0
  have o1 := vblk_cell hO2 1
  have q1 := vblk_cell hR2 1
  have y1 := vblk_cell hA2 1
  have o2 := vblk_cell hO2 2
  have q2 := vblk_cell hR2 2
  have y2 := vblk_cell hA2 2
  have o3 := vblk_cell hO2 3
  have q3 := vblk_cell hR2 3
  have y3 := vblk_cell hA2 3
  have o4 := vblk_cell hO2 4
  have q4 := vblk_cell hR2 4
  have y4 := vblk_cell hA2 4
  have o5 := vblk_cell hO2 5
  have q5 := vblk_cell hR2 5
  have y5 := vblk_cell hA2 5
  have fo := vblk_frozen hO2
  have fr := vblk_frozen hR2
  simp only [List.getElem?_toArray, List.getElem?_cons_succ, List.getElem?_cons_zero, List.setIfInBounds_toArray, List.set_cons_succ, List.set_cons_zero] at o0 q0 y0 o1 q1 y1 o2 q2 y2 o3 q3 y3 o4 q4 y4 o5 q5 y5
  go_wp2_with fail
  refine bodyPost_ret (v := .agg #[.string d.name, .int .i64 d.vA, .int .i64 d.vB, .int .i64 d.vC, .slice (some ⟨g1, 0, none⟩) d.vP.length d.vP.length, .slice (some ⟨g2, 0, none⟩) d.needs.length d.needs.length]) (by simp [results, Tryd.results36, go_sem, o0, q0, o1, q1, o2, q2, o3, q3, o4, q4, o5, q5]) rfl ⟨[.string d.name, .int .i64 d.vA, .int .i64 d.vB, .int .i64 d.vC, .slice (some ⟨g1, 0, none⟩) d.vP.length d.vP.length, .slice (some ⟨g2, 0, none⟩) d.needs.length d.needs.length], rfl, ?_, ?_⟩
  · have hS : ∀ {W : World}, w2.heap.size ≤ W.heap.size → ∀ b, Ow (w.heap.size + 3) w2.heap.size b → Ow w.heap.size W.heap.size b := fun h => Ow.mono (by omega) h
    refine ⟨_, _, rfl, s_name, (R0.keep ?_).mono (hS ?_), p0, (R1.keep ?_).mono (hS ?_)⟩
    all_goals first
      | (simp [World.setCell]; done)
      | ((repeat (refine Kp.trans ?_ (Kp.set (Ow.not (by omega))))); exact fun b hb => rfl)
  · refine ?_
    (repeat (refine Below.setCell ?_ (by simp <;> omega) _))
    exact kw2

set_option maxHeartbeats 2000000 in
set_option maxRecDepth 100000 in
theorem infoEntry : (Tryd.prog.info? 42).map (fun i => (i.zero, i.size, i.bytes)) = some (some (.agg #[.string ⟨#[]⟩, .int .i64 0, .int .i64 0, .int .i64 0, .slice none 0 0, .slice none 0 0]), 6, 88) := by kernel_rfl
set_option maxHeartbeats 2000000 in
set_option maxRecDepth 100000 in
theorem toEntryS_c (S : Nat → Prop) (v : Value) (xs : List EntryD) (w : World) (hv : RowIn shEntry S w v xs) (hB : ∀ b, S b → b < w.heap.size) (hw : wtRow wtEntry xs ≤ 1048576) :
    Calls Tryd.prog 13 #[v] w fun e w' => ∃ g, e = .returned (.slice (some ⟨g, 0, none⟩) xs.length xs.length) ∧ RowOwn shEntryO 42 (Ow w.heap.size w'.heap.size) w' (.slice (some ⟨g, 0, none⟩) xs.length xs.length) xs ∧ Below w.heap.size w w' := by
  obtain ⟨a, cap, rfl, hl, hc, ha⟩ := hv
  have hn := len_wtRow wtEntry xs
  have hlm : xs.length ≤ maxLen := hl
  unfold maxLen at hl
  obtain ⟨i0, hi, hz0, hz1, hz2⟩ := info_parts infoEntry
  go_enter Tryd.func13, Tryd.ntmps13
  go_wp2_with (first
    | (at_make; refine wpList_make_full _ rfl _ _ 45 rfl w.heap.size 42 i0 _ 6 Tryd.underlying45 hi hz0 hz1 _ _ _ _ xs.length rfl rfl rfl rfl (by rw [hz2]; omega) (by unfold maxLen; omega) (Nat.le_refl _) ?_))
  intro w1 hown hgrow
  have hb1 := below_of_grown hgrow
  have hs1 : w.heap.size + 1 ≤ w1.heap.size := by
    rcases hown.2 with ⟨h, _⟩ | ⟨g, cap, cur, h, _, hg, _⟩
    · simp at h
    · simp at h
      have := (Array.getElem?_eq_some_iff.1 hg).1
      omega
  obtain ⟨ys1, hown1⟩ : ∃ ys, w1.ownsRow w.heap.size 42 6 (.slice (some ⟨w.heap.size, 0, none⟩) xs.length xs.length) xs.length ys := ⟨_, hown⟩
  clear hgrow hown
  go_wp2_with fail
  go_loopw [4] (fun vi wr => ∃ (k : Nat) (ys : List Value), k ≤ xs.length ∧ vi = .int .i64 (k : Int) ∧ wr.ownsRow w.heap.size 42 6 (.slice (some ⟨w.heap.size, 0, none⟩) xs.length xs.length) xs.length ys ∧ Hid (Laid shEntryO (Ow (w.heap.size + 1) wr.heap.size) wr ys xs k) ∧ Below w.heap.size w wr ∧ w.heap.size + 1 ≤ wr.heap.size) (fun vi _ => xs.length - (intOf vi).toNat)
  case atStart => exact ⟨0, ys1, Nat.zero_le _, rfl, hown1, (fun i h h0 => by omega), hb1, hs1⟩
  case round =>
    obtain ⟨k, ys, hk, rfl, hownr, hy, hbr, hsr⟩ := hrel
    by_cases hlt' : k < xs.length
    · rcases ha with rfl | ⟨b, off, rfl, hlt, ha⟩
      · simp at hlt'
      obtain ⟨cs, hL, hcell⟩ := ha k hlt'
      have hL2 := shEntry.keep (.of hbr hB) hL
      have hcell2 := hcell.keep (.of hbr hB) hlt
      have hBr : ∀ b, S b → b < wr.heap.size := fun b h => Nat.lt_of_lt_of_le (hB b h) hbr.size
      have hwt : wtEntry xs[k] ≤ 1048576 := by have := wt_wtRow wtEntry (List.getElem_mem hlt'); omega
      have hown2 : ∀ w2, Below wr.heap.size wr w2 → w2.ownsRow w.heap.size 42 6 (.slice (some ⟨w.heap.size, 0, none⟩) xs.length xs.length) xs.length ys := fun w2 h2 => hownr.kept (grown_of_below h2 none) (by simp [Value.ownBlock])
      have hlen := hownr.1
      have HC : Hid (∀ w2, Below wr.heap.size wr w2 → ∀ j, j < 6 → ∃ x, w2.cell? ⟨w.heap.size, k * 6 + j, none⟩ = some x) := fun w2 h2 j hj => ⟨ys.getD (k * 6 + j) undef, by rw [(hown2 w2 h2).cellAt _ (by omega)]; simp [List.getD_eq_getElem?_getD, show k * 6 + j < ys.length by omega]⟩
      have HF : Hid (∀ w2, Below wr.heap.size wr w2 → ∀ j, w2.frozen? ⟨w.heap.size, j, none⟩ = false) := fun w2 h2 j => (hown2 w2 h2).frozenAt j
      have HO : Hid (∀ w2, Below wr.heap.size wr w2 → w2.ownsRow w.heap.size 42 6 (.slice (some ⟨w.heap.size, 0, none⟩) xs.length xs.length) xs.length ys) := hown2
      have HST : Hid (∀ w2 cs, Below wr.heap.size wr w2 → cs.length = 6 → shEntryO.lies (Ow (w.heap.size + 1) w2.heap.size) w2 cs xs[k] → Laid shEntryO (Ow (w.heap.size + 1) (setW w2 w.heap.size (k * 6) cs).heap.size) (setW w2 w.heap.size (k * 6) cs) (putL ys (k * 6) cs) xs (k + 1)) := fun w2 cs h2 hc hr => hy.out.step (sh := shEntryO) hlt' hlen h2 (by omega) hc hr
      obtain ⟨d, hd⟩ : ∃ d, d = xs[k] := ⟨_, rfl⟩
      rw [← hd] at hL2 hwt HST
      have HC1 := toEntry_c S d cs wr hL2 hBr hwt
      clear ha hL hcell hd hown2 hi hz0 hz1 hz2 hown1 hb1 hlen hwt
      obtain ⟨u0, u1, rfl, s_name, r0, p0, r1⟩ := hL2
      clear s_name p0
      obtain ⟨a0, cap0, eu0, _⟩ := id r0
      rw [length_strsV] at eu0
      subst eu0
      clear r0
      obtain ⟨a1, cap1, eu1, _⟩ := id r1
      subst eu1
      clear r1
      have e0 : wr.cell? ⟨b, off + k * 6, none⟩ = some (.string d.name) := hcell2 0 (by simp)
      have e1 : wr.cell? ⟨b, off + k * 6 + 1, none⟩ = some (.int .i64 d.vA) := hcell2 1 (by simp)
      have e2 : wr.cell? ⟨b, off + k * 6 + 2, none⟩ = some (.int .i64 d.vB) := hcell2 2 (by simp)
      have e3 : wr.cell? ⟨b, off + k * 6 + 3, none⟩ = some (.int .i64 d.vC) := hcell2 3 (by simp)
      have e4 : wr.cell? ⟨b, off + k * 6 + 4, none⟩ = some (.slice a0 d.vP.length cap0) := hcell2 4 (by simp)
      have e5 : wr.cell? ⟨b, off + k * 6 + 5, none⟩ = some (.slice a1 d.needs.length cap1) := hcell2 5 (by simp)
      have HC2 := hidden HC1
      have hki : (k : Int) < (xs.length : Int) := by omega
      clear hcell2 HC1
      go_wp2_with (go_at_call 36; refine HC2.out.mono ?_; rintro e w2 ⟨cs, rfl, hX, hb2⟩; have HX := hidden (HST.out w2 cs hb2 (by have h := hX; obtain ⟨u0, u1, h9, s_name, r0, p0, r1⟩ := h; rw [h9]; rfl) (shEntryO.mono (Ow.mono hsr (Nat.le_refl _)) hX)); obtain ⟨u0, u1, rfl, s_name, z0, p0, z1⟩ := hX; obtain ⟨b0, bap0, ev0⟩ := z0.slice; subst ev0; obtain ⟨b1, bap1, ev1⟩ := z1.slice; subst ev1; obtain ⟨y0, d0⟩ := HC.out w2 hb2 0 (by omega); obtain ⟨y1, d1⟩ := HC.out w2 hb2 1 (by omega); obtain ⟨y2, d2⟩ := HC.out w2 hb2 2 (by omega); obtain ⟨y3, d3⟩ := HC.out w2 hb2 3 (by omega); obtain ⟨y4, d4⟩ := HC.out w2 hb2 4 (by omega); obtain ⟨y5, d5⟩ := HC.out w2 hb2 5 (by omega); rw [Nat.add_zero] at d0; have f9 := HF.out w2 hb2)
      go_roundw
      case rel =>
        refine ⟨k + 1, _, by omega, by go_num, setW_owns [.string d.name, .int .i64 d.vA, .int .i64 d.vB, .int .i64 d.vC, .slice b0 d.vP.length bap0, .slice b1 d.needs.length bap1] w2 ys (k * 6) (HO.out w2 hb2), HX.out, setW_below (Nat.le_refl _) [.string d.name, .int .i64 d.vA, .int .i64 d.vB, .int .i64 d.vC, .slice b0 d.vP.length bap0, .slice b1 d.needs.length bap1] w2 w (k * 6) (hbr.trans (hb2.mono hbr.size)), ?_⟩
        have h9 := setW_size [.string d.name, .int .i64 d.vA, .int .i64 d.vB, .int .i64 d.vC, .slice b0 d.vP.length bap0, .slice b1 d.needs.length bap1] w2 w.heap.size (k * 6)
        have := hb2.size
        exact Nat.le_trans (show w.heap.size + 1 ≤ w2.heap.size by omega) (Nat.le_of_eq h9.symm)
      case measure => simp [intOf]; omega
    · have he : k = xs.length := by omega
      subst he
      clear ha
      go_wp2_with fail
      go_ret
      exact ⟨_, rfl, rowOwn_of hownr hlm hy.out, hbr⟩

end Go.Proofs.YtkijckpkojcdcaaDoor

/-! What a text falls into between the bytes c, and what the specification's Split answers: just that list; conditions: the text has at most 2 to the 20 bytes and a few more. -/
namespace Go.Proofs.YtkijckpkojcdcaaDoor
open Go.RowKit
set_option linter.unusedSimpArgs false
set_option linter.unusedVariables false

/-- The pieces behind place i, the piece at hand having begun at place b. -/
def splitGo (s : ByteArray) (c : Int) : Nat → Nat → Nat → List ByteArray
  | 0, _, b => [s.extract b s.size]
  | f + 1, i, b => if ((s.data[i]!).toNat : Int) = c then s.extract b i :: splitGo s c f (i + 1) (i + 1) else splitGo s c f (i + 1) b
def splitS (s : ByteArray) (c : Int) : List ByteArray := splitGo s c s.size 0 0

theorem splitGo_hit (s : ByteArray) (c : Int) (i b : Nat) (hi : i < s.size) (h : ((s.data[i]!).toNat : Int) = c) : splitGo s c (s.size - i) i b = s.extract b i :: splitGo s c (s.size - (i + 1)) (i + 1) (i + 1) := by
  obtain ⟨f, hf⟩ : ∃ f, s.size - i = f + 1 := ⟨s.size - i - 1, by omega⟩
  rw [hf, splitGo, if_pos h, show s.size - (i + 1) = f by omega]
theorem splitGo_miss (s : ByteArray) (c : Int) (i b : Nat) (hi : i < s.size) (h : ¬ ((s.data[i]!).toNat : Int) = c) : splitGo s c (s.size - i) i b = splitGo s c (s.size - (i + 1)) (i + 1) b := by
  obtain ⟨f, hf⟩ : ∃ f, s.size - i = f + 1 := ⟨s.size - i - 1, by omega⟩
  rw [hf, splitGo, if_neg h, show s.size - (i + 1) = f by omega]
theorem splitGo_end (s : ByteArray) (c : Int) (b : Nat) : splitGo s c (s.size - s.size) s.size b = [s.extract b s.size] := by
  rw [Nat.sub_self, splitGo]

theorem strs_append (xs ys : List ByteArray) : strsV xs ++ strsV ys = strsV (xs ++ ys) := by simp [strsV]

end Go.Proofs.YtkijckpkojcdcaaDoor

/-! Contracts of two functions of the library (the first place of a byte in a text; a copy of a text), taken over from the library of contracts at the numbers of this program; conditions as each says. -/
namespace Go.Proofs
open Go.Shelf
def Tryd.laysM316_ren : Go.Shelf.Ren := ⟨fun | 316 => 81 | n => n, fun | 9 => 9 | 3 => 3 | 4 => 4 | 37 => 64 | 0 => 0 | 127 => 132 | 5 => 5 | n => n, fun | n => n⟩
theorem Tryd.laysM316 : Go.Proofs.LaysM.n316 Tryd.prog Tryd.laysM316_ren := {
  mixed := by kernel_rfl
  f316 := Tryd.func81.trans (congrArg some (by kernel_rfl))
  t0 := Tryd.underlying0
  a0 := Tryd.isAgg0
  z0 := Tryd.sizeOf0
  v0 := Tryd.zeroValue0
  t3 := Tryd.underlying3
  a3 := Tryd.isAgg3
  z3 := Tryd.sizeOf3
  v3 := Tryd.zeroValue3
  t4 := Tryd.underlying4
  a4 := Tryd.isAgg4
  z4 := Tryd.sizeOf4
  v4 := Tryd.zeroValue4
  t9 := Tryd.underlying9
  a9 := Tryd.isAgg9
  z9 := Tryd.sizeOf9
  v9 := Tryd.zeroValue9
  t37 := Tryd.underlying64
  a37 := Tryd.isAgg64
  z37 := Tryd.sizeOf64
  v37 := Tryd.zeroValue64
  t127 := Tryd.underlying132
  a127 := Tryd.isAgg132
  z127 := Tryd.sizeOf132
  v127 := Tryd.zeroValue132
  t5 := Tryd.underlying5
  a5 := Tryd.isAgg5
  z5 := Tryd.sizeOf5
  v5 := Tryd.zeroValue5
  i0 := by kernel_rfl
  i3 := by kernel_rfl
  i4 := by kernel_rfl
  i5 := by kernel_rfl
  i9 := by kernel_rfl
  i37 := by kernel_rfl
  i127 := by kernel_rfl }
open Go.RowKit in
theorem Tryd.stringslite_Clone (s : ByteArray) (w : World) (hlim : s.size ≤ 281474976710656) :
    Calls Tryd.prog 81 #[.string s] w fun e w' => e = .returned (.string s) ∧ Below w.heap.size w w' := Any.stringslite_Clone Tryd.laysM316 s w hlim
end Go.Proofs

/-! What the program's Split answers: the same list as the specification's, in memory of its own; condition: the text has at most 2 to the 20 bytes. -/
namespace Go.Proofs.YtkijckpkojcdcaaDoor
open Go.RowKit
set_option linter.unusedSimpArgs false
set_option linter.unusedVariables false

theorem split_none (s : ByteArray) (c : Int) (b : Nat) : ∀ (n i : Nat), n = s.size - i → i ≤ s.size → (∀ j, i ≤ j → j < s.size → ¬ ((s.data[j]!).toNat : Int) = c) → splitGo s c (s.size - i) i b = [s.extract b s.size]
  | 0, i, hn, hi, h => by
    have : i = s.size := by omega
    subst this
    exact splitGo_end s c b
  | n + 1, i, hn, hi, h => by
    rw [splitGo_miss s c i b (by omega) (h i (Nat.le_refl _) (by omega))]
    exact split_none s c b n (i + 1) (by omega) (by omega) (fun j h1 h2 => h j (by omega) h2)
theorem split_some (s : ByteArray) (c : Int) (b j : Nat) (hj : j < s.size) (hc : ((s.data[j]!).toNat : Int) = c) : ∀ (n i : Nat), n = j - i → i ≤ j → (∀ k, i ≤ k → k < j → ¬ ((s.data[k]!).toNat : Int) = c) → splitGo s c (s.size - i) i b = s.extract b j :: splitGo s c (s.size - (j + 1)) (j + 1) (j + 1)
  | 0, i, hn, hi, h => by
    have : i = j := by omega
    subst this
    exact splitGo_hit s c i b hj hc
  | n + 1, i, hn, hi, h => by
    rw [splitGo_miss s c i b (by omega) (h i (Nat.le_refl _) (by omega))]
    exact split_some s c b j hj hc n (i + 1) (by omega) (by omega) (fun k h1 h2 => h k (by omega) h2)

def strSize : Value → Nat | .string s => s.size | _ => 0

theorem ext_list {a b : ByteArray} (h : a.data.toList = b.data.toList) : a = b := ByteArray.ext (Array.toList_inj.1 h)
theorem extract_list (s : ByteArray) (a b : Nat) : (s.extract a b).data.toList = (s.data.toList.drop a).take (b - a) := Lib.extract_data s a b
theorem len_list (s : ByteArray) : s.data.toList.length = s.size := by rw [Array.length_toList]; rfl
theorem size_tail (s : ByteArray) (b : Nat) (h : b ≤ s.size) : (s.extract b s.size).size = s.size - b := by
  rw [← len_list, extract_list, List.length_take, List.length_drop, len_list]; omega
theorem tail_list (s : ByteArray) (b : Nat) : (s.extract b s.size).data.toList = s.data.toList.drop b := by
  rw [extract_list, List.take_of_length_le (by rw [List.length_drop, len_list]; omega)]
theorem tail_head (s : ByteArray) (b k : Nat) : (s.extract b s.size).extract 0 k = s.extract b (b + k) := by
  apply ext_list
  rw [extract_list, tail_list, extract_list]
  simp
theorem tail_tail (s : ByteArray) (b k : Nat) : (s.extract b s.size).extract k (s.extract b s.size).size = s.extract (b + k) s.size := by
  apply ext_list
  rw [tail_list, tail_list, tail_list, List.drop_drop]

theorem bang_list (s : ByteArray) (j : Nat) (h : j < s.size) : s.data.toList[j]? = some (s.data[j]!) := by
  rw [byteBang s j h, List.getElem?_eq_getElem (by rw [len_list]; exact h)]
  rfl

/-- What the search for the byte says of the text behind place b. -/
theorem search (s : ByteArray) (c : Int) (b : Nat) (hb : b ≤ s.size) (h0 : 0 ≤ c) (h1 : c ≤ 255) :
    (Lib.indexByte (s.extract b s.size).data.toList c.toNat.toUInt8 = -1 ∧ splitGo s c (s.size - b) b b = [s.extract b s.size]) ∨
    ∃ k : Nat, Lib.indexByte (s.extract b s.size).data.toList c.toNat.toUInt8 = (k : Int) ∧ b + k < s.size ∧ splitGo s c (s.size - b) b b = s.extract b (b + k) :: splitGo s c (s.size - (b + k + 1)) (b + k + 1) (b + k + 1) := by
  have hcn : ∀ u : UInt8, (u.toNat : Int) = c ↔ u = c.toNat.toUInt8 := fun u => by
    have hu := u.toNat_lt
    constructor
    · intro e
      have : u.toNat = c.toNat := by omega
      rw [← this]; simp
    · intro e
      subst e
      simp [UInt8.toNat_ofNat']
      omega
  rw [tail_list]
  have hge := Lib.indexByte_ge (s.data.toList.drop b) c.toNat.toUInt8
  by_cases hm : Lib.indexByte (s.data.toList.drop b) c.toNat.toUInt8 = -1
  · refine .inl ⟨hm, split_none s c b _ b rfl hb (fun j h1 h2 e => ?_)⟩
    have := Lib.indexByte_none hm (j - b)
    rw [List.getElem?_drop, show b + (j - b) = j by omega, bang_list s j h2] at this
    exact this (by rw [(hcn _).1 e])
  · obtain ⟨k, hk⟩ := Int.eq_ofNat_of_zero_le (show 0 ≤ Lib.indexByte (s.data.toList.drop b) c.toNat.toUInt8 by omega)
    obtain ⟨hh, hbef⟩ := Lib.indexByte_some hk
    rw [List.getElem?_drop] at hh
    have hlt : b + k < s.size := by
      rw [← len_list]
      exact (List.getElem?_eq_some_iff.1 hh).1
    refine .inr ⟨k, hk, hlt, split_some s c b (b + k) hlt ?_ _ b rfl (by omega) (fun j h1 h2 e => ?_)⟩
    · rw [bang_list s _ hlt] at hh
      exact (hcn _).2 (by simpa using hh)
    · have := hbef (j - b) (by omega)
      rw [List.getElem?_drop, show b + (j - b) = j by omega, bang_list s j (by omega)] at this
      exact this (by rw [(hcn _).1 e])

set_option maxHeartbeats 1000000 in
theorem clone_c (s : ByteArray) (w : World) (h : s.size ≤ 1048576) : Calls Tryd.prog 61 #[.string s] w fun e w' => e = .returned (.string s) ∧ Below w.heap.size w w' := by
  go_enter Tryd.func61, Tryd.ntmps61
  go_wp2_with (go_at_call 81; refine (Tryd.stringslite_Clone s _ (by omega)).mono ?_; rintro e w1 ⟨rfl, b1⟩)
  go_ret
  exact ⟨rfl, b1⟩

end Go.Proofs.YtkijckpkojcdcaaDoor

/-! Copies of versions, needs and entries, as the program makes them: contracts for the walks; conditions: they lie in memory, and hold at most 2 to the 20. -/
namespace Go.Proofs.YtkijckpkojcdcaaDoor
open Go.RowKit
set_option linter.unusedSimpArgs false
set_option linter.unusedVariables false

/-- A block of another type than a row's is not the row's. -/
theorem row_box {w : World} {lo sz n g : Nat} {e t : TypeId} {v : Value} {xs : List Value} {cs : Array Value} {fz : Nat × Nat} (h : w.ownsRow lo e sz v n xs) (hb : w.heap[g]? = some (.cells cs t fz)) (hne : e ≠ t) : v.ownBlock ≠ some g := fun he => by
  rcases h.2 with ⟨rfl, _⟩ | ⟨g', cap, cur, rfl, _, hg, _⟩
  · simp [Value.ownBlock] at he
  · simp [Value.ownBlock] at he
    subst he
    rw [hg] at hb
    simp at hb
    exact hne hb.2.1
theorem box_grown {w w' : World} {row : Option Nat} {g : Nat} {o : Obj} (hb : w.heap[g]? = some o) (hg : w.grownBy w' row) (hne : row ≠ some g) : w'.heap[g]? = some o :=
  (hg.block g (Array.getElem?_eq_some_iff.1 hb).1 (fun e => hne e.symm)).trans hb
theorem box_below {w w' : World} {g : Nat} {o : Obj} (hb : w.heap[g]? = some o) (h : Below w.heap.size w w') : w'.heap[g]? = some o :=
  (h.block g (Array.getElem?_eq_some_iff.1 hb).1).trans hb
theorem row_put {w : World} {lo sz n g j : Nat} {e t : TypeId} {v x : Value} {xs : List Value} {cs : Array Value} {fz : Nat × Nat} (h : w.ownsRow lo e sz v n xs) (hb : w.heap[g]? = some (.cells cs t fz)) (hne : e ≠ t) : (w.setCell ⟨g, j, none⟩ x).ownsRow lo e sz v n xs :=
  owns_kept (S := fun b => b ≠ g) (Kp.set (by simp)) (fun b hb' => by rintro rfl; exact row_box h hb hne hb') h
theorem List.single_le_sum_natC {ss : List ByteArray} {t : ByteArray} (h : t ∈ ss) : t.size ≤ (ss.map ByteArray.size).sum := by
  induction ss with
  | nil => simp at h
  | cons a l ih =>
    simp only [List.map_cons, List.sum_cons]
    rcases List.mem_cons.1 h with rfl | h
    · omega
    · have := ih h; omega
theorem two_boxes {w : World} (A R : Obj) : ((w.alloc A).alloc R).heap[w.heap.size]? = some A ∧ ((w.alloc A).alloc R).heap[w.heap.size + 1]? = some R := by
  have s1 : (w.alloc A).heap.size = w.heap.size + 1 := by simp
  refine ⟨?_, ?_⟩
  · rw [vheap_old _ _ (by simp), vheap_new]
  · rw [← s1, vheap_new]

set_option maxHeartbeats 2000000 in
set_option maxRecDepth 100000 in
theorem copyVer_c (a b c : Int) (u : Value) (ps : List ByteArray) (w : World) (hu : Reads w u (strsV ps)) (hb : bulkS ps ≤ 1048576) :
    Calls Tryd.prog 62 #[.agg #[.int .i64 a, .int .i64 b, .int .i64 c, u]] w fun e w' => ∃ u', e = .returned (.agg #[.int .i64 a, .int .i64 b, .int .i64 c, u']) ∧ w'.ownsRow w.heap.size 9 1 u' ps.length (strsV ps) ∧ Below w.heap.size w w' := by
  obtain ⟨i0, hi, hz0, hz1, hz2⟩ := info_parts infoS
  obtain ⟨q, cap, rfl, _, hc⟩ := reads_strs hu
  have hn : ps.length ≤ 1048576 := by unfold bulkS at hb; omega
  have hsz : ∀ t ∈ ps, t.size ≤ 1048576 := fun t ht => by
    have : t.size ≤ (ps.map ByteArray.size).sum := List.single_le_sum_natC ht
    unfold bulkS at hb; omega
  have hb2 : ∀ A R, Below w.heap.size w ((w.alloc A).alloc R) := fun A R => ((Below.refl _ _).alloc (Nat.le_refl _) _).alloc (by simp) _
  have HB0 := two_boxes (w := w) (.cells #[.int .i64 a, .int .i64 b, .int .i64 c, .slice q ps.length cap] 39 (0, 0)) (.cells #[.int .i64 0, .int .i64 0, .int .i64 0, .slice none 0 0] 39 (0, 0))
  clear hu hb
  go_enter Tryd.func62, Tryd.ntmps62
  go_wp2_with fail
  go_loopw [3, 9] (fun vx vi wr => ∃ (k : Nat) (vo : Value), k ≤ ps.length ∧ vi = .int .i64 (k : Int) ∧ vx = vo ∧ wr.ownsRow w.heap.size 9 1 vo k (strsV (ps.take k)) ∧ Hid (wr.heap[w.heap.size]? = some (.cells #[.int .i64 a, .int .i64 b, .int .i64 c, .slice q ps.length cap] 39 (0, 0)) ∧ wr.heap[w.heap.size + 1]? = some (.cells #[.int .i64 0, .int .i64 0, .int .i64 0, .slice none 0 0] 39 (0, 0))) ∧ Below w.heap.size w wr) (fun _ vi _ => ps.length - (intOf vi).toNat)
  case atStart => exact ⟨0, _, Nat.zero_le _, rfl, rfl, (by rw [List.take_zero]; exact World.ownsRow_nil _ _ _ _), HB0, hb2 _ _⟩
  case round =>
    clear HB0
    obtain ⟨k, vo, hk, rfl, rfl, hown, hbx, hbr⟩ := hrel
    by_cases hlt' : k < ps.length
    · rcases hc with rfl | ⟨b0, off, rfl, hlt, hc⟩
      · simp at hlt'
      have e0 : wr.cell? ⟨b0, off + k, none⟩ = some (.string ps[k]) := (hbr.cell (by simpa using hlt)).trans (hc k hlt')
      have hsk := hsz ps[k] (List.getElem_mem hlt')
      have HT : Hid (strsV (ps.take k) ++ strsV [ps[k]] = strsV (ps.take (k + 1))) := by show _ = _; rw [strs_append, List.take_succ_eq_append_getElem hlt']
      obtain ⟨t, ht⟩ : ∃ t, t = ps[k] := ⟨_, rfl⟩
      rw [← ht] at e0 hsk HT
      have hki : (k : Int) < (ps.length : Int) := by omega
      clear hc ht hsz
      go_wp2_with (first
        | (go_at_call 61; refine (clone_c t _ hsk).mono ?_; rintro e w2 ⟨rfl, b2⟩
           have hown2 := owns_of_below hown b2)
        | (at_builtin; refine wpList_append_own _ rfl _ _ 23 rfl w.heap.size 9 i0 (.string ⟨#[]⟩) 1 16 Tryd.underlying23 hi hz0 hz1 hz2 rfl (by decide) _ k (strsV (ps.take k)) rfl (hown2.alloc _) ⟨w2.heap.size, 0, none⟩ 1 1 (strsV [t]) rfl rfl (cell_one_new _ _ _) (fun u hu => by simp [strsV] at hu; subst hu; rfl) (by unfold maxLen; omega) (by omega) (by have h1 := hbr.size; have h2 := b2.size; simp; omega) ?_))
      intro v3 w3 o3 gr3 _
      rw [HT.out] at o3
      have hbw2 := hbr.trans (b2.mono hbr.size)
      have hb3 : Below w.heap.size w w3 := Below.grown (hbw2.alloc hbw2.size _) gr3 (by have := hbw2.size; simp; omega) (fun j hj => (hown2.lt _ hj).1)
      have kA : Below w2.heap.size w2 (w2.alloc (.cells #[.string t] 9)) := (Below.refl _ _).alloc (Nat.le_refl _) _
      have hA1 := box_below (box_below hbx.out.1 b2) kA
      have hR1 := box_below (box_below hbx.out.2 b2) kA
      have hown4 := hown2.alloc (.cells #[.string t] 9)
      have HX := hidden (And.intro (box_grown hA1 gr3 (row_box hown4 hA1 (by decide))) (box_grown hR1 gr3 (row_box hown4 hR1 (by decide))))
      clear hA1 hR1 kA hbx hown4
      go_wp2_with fail
      go_roundw
      case rel => exact ⟨k + 1, _, by omega, by go_num, rfl, o3, HX, hb3⟩
      case measure => simp [intOf]; omega
    · have he : k = ps.length := by omega
      subst he
      rw [List.take_length] at hown
      obtain ⟨hA, hR⟩ := hbx.out
      obtain ⟨qo, co, hvo⟩ := owns_sliceP hown
      subst hvo
      have hA2 := heap_setCell_same wr w.heap.size 3 _ _ (.slice qo ps.length co) hA
      have hR2 := (Below.heap_setCell wr ⟨w.heap.size, 3, none⟩ (.slice qo ps.length co) (w.heap.size + 1) (by simp)).trans hR
      have HO : Hid (∀ c0 c1 c2 c3, (((((wr.setCell ⟨w.heap.size, 3, none⟩ (.slice qo ps.length co)).setCell ⟨w.heap.size + 1, 0, none⟩ c0).setCell ⟨w.heap.size + 1, 1, none⟩ c1).setCell ⟨w.heap.size + 1, 2, none⟩ c2).setCell ⟨w.heap.size + 1, 3, none⟩ c3).ownsRow w.heap.size 9 1 (.slice qo ps.length co) ps.length (strsV ps)) := fun c0 c1 c2 c3 =>
        owns_kept (S := fun b => b ≠ w.heap.size ∧ b ≠ w.heap.size + 1) ((((((Kp.set (by simp)).trans (Kp.set (by simp))).trans (Kp.set (by simp))).trans (Kp.set (by simp))).trans (Kp.set (by simp)))) (fun b hb' => ⟨by rintro rfl; exact row_box hown hA (by decide) hb', by rintro rfl; exact row_box hown hR (by decide) hb'⟩) hown
      have a0 := vblk_cell hA 0
      have a1 := vblk_cell hA 1
      have a2 := vblk_cell hA 2
      have a3 := vblk_cell hA 3
      have fa := vblk_frozen hA
      have r0 := vblk_cell hR 0
      have r1 := vblk_cell hR 1
      have r2 := vblk_cell hR 2
      have r3 := vblk_cell hR 3
      have fr := vblk_frozen hR
      simp only [List.getElem?_toArray, List.getElem?_cons_succ, List.getElem?_cons_zero] at a0 a1 a2 a3 r0 r1 r2 r3
      clear hc hsz hA hR hA2 hR2 hbx
      go_wp2_with fail
      refine bodyPost_ret (v := .agg #[.int .i64 a, .int .i64 b, .int .i64 c, .slice qo ps.length co]) (by simp [results, Tryd.results62, go_sem, a0, a1, a2, a3, r0, r1, r2, r3]) rfl ⟨_, rfl, HO.out _ _ _ _, ?_⟩
      (repeat (refine Below.setCell ?_ (by simp) _))
      exact hbr

end Go.Proofs.YtkijckpkojcdcaaDoor
