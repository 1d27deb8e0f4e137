/-
  Contracts for the walks, several texts in one: each part says what it proves, and under which conditions.
-/
import Derived.Lib.OthersKept
import Derived.Laws.RangeAny
import Derived.BigQuiet
import Derived.Deep.QuietTactic
import Derived.Deep.RegionHeld
import Derived.Shelf.Strings.Builder1
import Derived.Shelf.Small.Utf8
import Derived.Shelf.Small.Bits
import Derived.Shelf.Small.Strs
import Derived.Shelf.Small.Wraps
import Derived.Shelf.Strings.BuilderF
import Derived.Shelf.Utf8.RuneCount
import Derived.Shelf.Strconv.Itoa0
import Derived.Shelf.Strconv.Itoa1
import Derived.Shelf.LaysM
import Derived.Shelf.Strconv.Itoa2
import Derived.Shelf.Strconv.Itoa3
import Derived.Shelf.Strconv.Clone
import Derived.Shelf.Strings.Search1
import Derived.Shelf.Strings.Search2
import Derived.Shelf.Strings.Search3
import Derived.Shelf.Strings.Cut
import Derived.Shelf.Strings.Count
import Derived.Shelf.Strings.Shaped
import Derived.Shelf.Strings.Prefix
import Derived.Shelf.Strings.Split
import Derived.Shelf.Strings.SplitShaped
import Derived.Shelf.Unicode.Decode
import Derived.Shelf.Strings.Runes
import Derived.Shelf.Strings.RuneCount
import Derived.Shelf.Strings.AsciiSet
import Derived.Shelf.Strings.Explode
import Derived.Shelf.Unicode.DecodeSlow
import Derived.Shelf.Unicode.DecodeAny
import Derived.Shelf.Unicode.DecodeLast
import Derived.Shelf.Slices.Equal
import Derived.Shelf.Slices.CompactS
import Derived.Ground.Names2Prog
import Derived.Shelf.Slices.SearchI
import Derived.Shelf.Slices.Cells
import Derived.Test.YtlfmefojcmpfeaaGreatDoorProg
import Derived.Lib.Builder
import Derived.Lib.AppendStr
import Derived.Lib.UnsafeStr
import Derived.Laws.Externs
import Derived.Test.YtlfmefojcmpfeaaGreatDoorQ1

/-! What the law's helpers over versions answer (how much there is, a copy, whether two are alike): contracts for the walks; conditions: the lists of texts lie in memory as told. -/
namespace Go.Proofs.YtlfmefojcmpfeaaGreatDoor
open Go.RowKit
set_option linter.unusedSimpArgs false
set_option linter.unusedVariables false

theorem owns_set {w : World} {base : Nat} {e : TypeId} {v : Value} {n : Nat} {xs : List Value} (h : w.ownsRow base e 1 v n xs) {p : Addr} (hp : p.block < base) (x : Value) : (w.setCell p x).ownsRow base e 1 v n xs := by
  obtain ⟨h1, h2⟩ := h
  refine ⟨h1, ?_⟩
  rcases h2 with h2 | ⟨g, cap, cur, a, b, c, d⟩
  · exact .inl h2
  · exact .inr ⟨g, cap, cur, a, b, by rw [Below.heap_setCell _ _ _ _ (by omega)]; exact c, d⟩

/-- A parameter that was put into a block of its own is still there behind a call. -/
theorem box4 {w w1 : World} {c0 c1 c2 c3 : Value} {t : TypeId} (hb : Below (w.alloc (.cells #[c0, c1, c2, c3] t)).heap.size (w.alloc (.cells #[c0, c1, c2, c3] t)) w1) :
    w1.cell? ⟨w.heap.size, 0, none⟩ = some c0 ∧ w1.cell? ⟨w.heap.size, 1, none⟩ = some c1 ∧ w1.cell? ⟨w.heap.size, 2, none⟩ = some c2 ∧ w1.cell? ⟨w.heap.size, 3, none⟩ = some c3 := by
  have h : ∀ j, w1.cell? ⟨w.heap.size, j, none⟩ = (#[c0, c1, c2, c3] : Array Value)[j]? := fun j => by
    rw [hb.cell (p := ⟨w.heap.size, j, none⟩) (by simp)]
    exact vblk_cell (vheap_new _ _) j
  exact ⟨h 0, h 1, h 2, h 3⟩

def saneP (ps : List ByteArray) : Prop := ps.length ≤ maxLen ∧ ∀ s ∈ ps, s.size ≤ maxLen

set_option maxHeartbeats 1000000 in
set_option maxRecDepth 100000 in
theorem sizeStrsL_c (v : Value) (ss : List ByteArray) (w : World) (left : Int) (hl0 : 0 ≤ left) (hl1 : left ≤ 1048576) (hv : Reads w v (strsV ss)) (hn : ss.length ≤ maxLen) (hs : ∀ s ∈ ss, s.size ≤ maxLen) :
    Calls Tryz.prog 206 #[v, .int .i64 left] w fun e w' => e = .returned (.int .i64 (leftS ss left)) ∧ w = w' := by
  obtain ⟨a, cap, rfl, _, hc⟩ := reads_strs hv
  clear hv
  unfold maxLen at hn hs
  by_cases h0 : left < (ss.length : Int)
  · have hneg : left - (ss.length : Int) < 0 := by omega
    have e : leftS ss left = -1 := by rw [leftS, bulkS, if_neg (by omega)]
    rw [e]
    clear hc hs
    go_enter Tryz.func206, Tryz.ntmps206
    go_wp2
    go_ret
    exact ⟨rfl, rfl⟩
  · have hpos : ¬ (left - (ss.length : Int) < 0) := by omega
    rcases hc with rfl | ⟨b, off, rfl, hlt, hc⟩
    · go_enter Tryz.func206, Tryz.ntmps206
      go_wp2
      go_loop [1, 5] (fun vl vi => vl = .int .i64 left ∧ vi = .int .i64 0) (fun _ _ => 0)
      case atStart => exact ⟨rfl, rfl⟩
      case round =>
        obtain ⟨rfl, rfl⟩ := hrel
        go_wp2
        go_ret
        exact ⟨by rw [show leftS [] left = left by simp [leftS, bulkS, hl0]]; rfl, rfl⟩
    · go_enter Tryz.func206, Tryz.ntmps206
      go_wp2
      go_loop [1, 5] (fun vl vi => ∃ (k : Nat) (l : Int), k ≤ ss.length ∧ vi = .int .i64 (k : Int) ∧ vl = .int .i64 l ∧ 0 ≤ l ∧ l ≤ 1048576 ∧ Hid (l = left - (ss.length : Int) - (((ss.take k).map ByteArray.size).sum : Int))) (fun _ vi => ss.length - (intOf vi).toNat)
      case atStart => exact ⟨0, _, Nat.zero_le _, rfl, rfl, by omega, by omega, by show _ = _; simp⟩
      case round =>
        obtain ⟨k, l, hk, rfl, rfl, hq0, hq1, hl⟩ := hrel
        by_cases hlt' : k < ss.length
        · have hcx := hc k hlt'
          have hsk := hs ss[k] (List.getElem_mem hlt')
          have hsum := sum_take_succ ss k hlt'
          obtain ⟨t, ht⟩ : ∃ t, t = ss[k] := ⟨_, rfl⟩
          rw [← ht] at hcx hsk hsum
          have HS : Hid (((ss.take (k + 1)).map ByteArray.size).sum = ((ss.take k).map ByteArray.size).sum + t.size) := hsum
          have hki : (k : Int) < (ss.length : Int) := by omega
          clear hc hs ht hsum
          by_cases hneg : l - (t.size : Int) < 0
          · have e : leftS ss left = -1 := by
              have h1 := HS.out; have h2 := hl.out; have h3 := sum_take_le ss (k + 1)
              rw [leftS, bulkS, if_neg (by omega)]
            have HE : Hid (leftS ss left = -1) := e
            clear e
            go_wp2
            go_ret
            exact ⟨by rw [HE.out]; rfl, rfl⟩
          · go_wp2
            go_round
            case rel => exact ⟨k + 1, l - (t.size : Int), by omega, by go_num, rfl, by omega, by omega, (by show _ = _; rw [HS.out, hl.out]; omega)⟩
            case measure => simp [intOf]; omega
        · have he : k = ss.length := by omega
          subst he
          have e : leftS ss left = l := by
            have h2 := hl.out
            rw [List.take_length] at h2
            rw [leftS, bulkS, if_pos (by omega)]; omega
          have HE : Hid (leftS ss left = l) := e
          clear hc hs e
          go_wp2
          go_ret
          exact ⟨by rw [HE.out]; rfl, rfl⟩

theorem szVer_c (a b c : Int) (u : Value) (ps : List ByteArray) (left : Int) (hl0 : 0 ≤ left) (hl1 : left ≤ 1048576) (w : World) (hu : Reads w u (strsV ps)) (hs : saneP ps) :
    Calls Tryz.prog 203 #[.agg #[.int .i64 a, .int .i64 b, .int .i64 c, u], .int .i64 left] w fun e w' => e = .returned (.int .i64 (leftS ps left)) ∧ Below w.heap.size w w' := by
  have hbx : ∀ o, Below w.heap.size w (w.alloc o) := fun o => (Below.refl _ _).alloc (Nat.le_refl _) _
  have hr : ∀ o, Reads (w.alloc o) u (strsV ps) := fun o => hu.below (hbx o)
  obtain ⟨p, hp⟩ : ∃ p, p = leftS ps left := ⟨_, rfl⟩
  have HS : Hid (∀ o, Calls Tryz.prog 206 #[u, .int .i64 left] (w.alloc o) fun e w' => e = .returned (.int .i64 p) ∧ w.alloc o = w') := fun o => by rw [hp]; exact sizeStrsL_c u ps _ left hl0 hl1 (hr o) hs.1 hs.2
  have hneg : p < 0 → p = -1 := by
    rw [hp]; unfold leftS; split <;> intro h
    · omega
    · rfl
  have HN : Hid (p < 0 → p = -1) := hneg
  rw [← hp]
  obtain ⟨q, cap, rfl, _, _⟩ := reads_strs hu
  clear hneg hp hu hr hs
  by_cases h : p < 0
  · have e := HN.out h
    subst e
    go_enter Tryz.func203, Tryz.ntmps203
    go_wp2_with (go_at_call 206; refine (HS.out _).mono ?_; rintro e w1 ⟨rfl, rfl⟩)
    go_ret
    exact ⟨rfl, hbx _⟩
  · go_enter Tryz.func203, Tryz.ntmps203
    go_wp2_with (go_at_call 206; refine (HS.out _).mono ?_; rintro e w1 ⟨rfl, rfl⟩)
    go_ret
    exact ⟨rfl, hbx _⟩

set_option maxHeartbeats 1000000 in
set_option maxRecDepth 100000 in
theorem eqVer_c (a b c : Int) (u u' : Value) (ps : List ByteArray) (w : World) (hu : Reads w u (strsV ps)) (hu' : Reads w u' (strsV ps)) (hn : ps.length ≤ 1048576) :
    Calls Tryz.prog 205 #[.agg #[.int .i64 a, .int .i64 b, .int .i64 c, u], .agg #[.int .i64 a, .int .i64 b, .int .i64 c, u']] w fun e w' => e = .returned (.bool true) ∧ Below w.heap.size w w' := by
  have hbx : ∀ o o', Below w.heap.size w ((w.alloc o).alloc o') := fun o o' => ((Below.refl _ _).alloc (Nat.le_refl _) _).alloc (by simp) _
  have HS : Hid (∀ o o', Calls Tryz.prog 210 #[u, u'] ((w.alloc o).alloc o') fun e w' => e = .returned (.bool true) ∧ Below ((w.alloc o).alloc o').heap.size ((w.alloc o).alloc o') w') := fun o o' => by
    have := eqStrs_c u u' ps ps _ (hu.below (hbx o o')) (hu'.below (hbx o o')) (by omega)
    rwa [decide_eq_true rfl] at this
  obtain ⟨q, cap, rfl, _, _⟩ := reads_strs hu
  obtain ⟨q', cap', rfl, _, _⟩ := reads_strs hu'
  clear hu hu'
  go_enter Tryz.func205, Tryz.ntmps205
  go_wp2_with (go_at_call 210; refine (HS.out _ _).mono ?_; rintro e w1 ⟨rfl, b1⟩)
  go_ret
  exact ⟨rfl, (hbx _ _).trans (b1.mono (by simp; omega))⟩

theorem vthree {w w1 : World} {A R O : Obj} (hb : Below (((w.alloc A).alloc R).alloc O).heap.size (((w.alloc A).alloc R).alloc O) w1) :
    w1.heap[w.heap.size]? = some A ∧ w1.heap[w.heap.size + 1]? = some R ∧ w1.heap[w.heap.size + 1 + 1]? = some O := by
  have s1 : (w.alloc A).heap.size = w.heap.size + 1 := by simp
  have s2 : ((w.alloc A).alloc R).heap.size = w.heap.size + 1 + 1 := by simp
  refine ⟨?_, ?_, ?_⟩
  · rw [hb.block _ (by simp; omega), vheap_old _ _ (by simp; omega), vheap_old _ _ (by simp), vheap_new]
  · rw [hb.block _ (by simp), vheap_old _ _ (by simp), ← s1, vheap_new]
  · rw [hb.block _ (by simp), ← s2, vheap_new]

set_option maxHeartbeats 1000000 in
set_option maxRecDepth 100000 in
theorem toVer_c (a b c : Int) (u : Value) (ps : List ByteArray) (w : World) (hu : Reads w u (strsV ps)) (hn : ps.length ≤ 1048576) :
    Calls Tryz.prog 204 #[.agg #[.int .i64 a, .int .i64 b, .int .i64 c, u]] w fun e w' => ∃ g, e = .returned (.agg #[.int .i64 a, .int .i64 b, .int .i64 c, .slice (some ⟨g, 0, none⟩) ps.length ps.length]) ∧ Reads w' (.slice (some ⟨g, 0, none⟩) ps.length ps.length) (strsV ps) ∧ Below w.heap.size w w' := by
  have huA : ∀ w1, Below w.heap.size w w1 → Reads w1 u (strsV ps) := fun w1 h1 => hu.below h1
  obtain ⟨q, cap, rfl, _, _⟩ := reads_strs hu
  clear hu
  go_enter Tryz.func204, Tryz.ntmps204
  have hb3 : ∀ A R O, Below w.heap.size w (((w.alloc A).alloc R).alloc O) := fun A R O => (((Below.refl _ _).alloc (Nat.le_refl _) _).alloc (by simp) _).alloc (by simp; omega) _
  go_wp2_with (
    go_at_call 208
    refine (toStrs_c _ ps _ (huA _ (hb3 _ _ _)) (by omega)).mono ?_
    rintro e w1 ⟨g, rfl, hM, hb1⟩
    obtain ⟨hA, hR, hO⟩ := vthree hb1
    have o0 := vblk_cell hO 0
    have o1 := vblk_cell hO 1
    have o2 := vblk_cell hO 2
    have o3 := vblk_cell hO 3
    have r0 := vblk_cell hR 0
    have r1 := vblk_cell hR 1
    have r2 := vblk_cell hR 2
    have r3 := vblk_cell hR 3
    have fo := vblk_frozen hO
    have fr := vblk_frozen hR
    simp only [List.getElem?_toArray, List.getElem?_cons_succ, List.getElem?_cons_zero] at o0 o1 o2 o3 r0 r1 r2 r3)
  have s3 : ∀ A R O, (((w.alloc A).alloc R).alloc O).heap.size = w.heap.size + 1 + 1 + 1 := fun A R O => by simp
  rw [s3] at hb1 hM
  have hN : w.heap.size + 1 + 1 + 1 ≤ w1.heap.size := by have := hb1.size; rw [s3] at this; exact this
  refine bodyPost_ret (v := .agg #[.int .i64 a, .int .i64 b, .int .i64 c, .slice (some ⟨g, 0, none⟩) ps.length ps.length]) (by simp [results, Tryz.results204, go_sem, o0, o1, o2, o3, r0, r1, r2, r3]) rfl ⟨_, rfl, ?_, ?_⟩
  · refine reads_of_owns (base := w.heap.size + 1 + 1 + 1) (e := 9) (n := ps.length) ?_
    refine owns_set (owns_set (owns_set (owns_set (owns_set hM ?_ _) ?_ _) ?_ _) ?_ _) ?_ _ <;> simp
  · have b1 := ((hb3 _ _ _).trans (hb1.mono (by omega)))
    refine Below.setCell (Below.setCell (Below.setCell (Below.setCell (Below.setCell b1 ?_ _) ?_ _) ?_ _) ?_ _) ?_ _ <;> simp <;> omega
end Go.Proofs.YtlfmefojcmpfeaaGreatDoor

/-! Needs, commands and packs that lie in memory: what they are, and how much they hold, as the law counts it: contracts for the walks; conditions: at most 2 to the 20 is left to count. -/
namespace Go.Proofs.YtlfmefojcmpfeaaGreatDoor
open Go.RowKit
set_option linter.unusedSimpArgs false
set_option linter.unusedVariables false

theorem lw (n : Nat) (l : Int) : ((n : Int) ≤ l ∧ leftW n l = l - (n : Int)) ∨ (l < (n : Int) ∧ leftW n l = -1) := by
  by_cases h : (n : Int) ≤ l
  · exact .inl ⟨h, leftW_good h⟩
  · exact .inr ⟨by omega, leftW_bad h⟩

/-- A list of texts that may be written. -/
def StrsOwn (S : Nat → Prop) (w : World) (u : Value) (ss : List ByteArray) : Prop := w.ownsRow 0 9 1 u ss.length (strsV ss) ∧ ∀ g, u.ownBlock = some g → S g
theorem StrsOwn.keep {S : Nat → Prop} {w w' : World} {u : Value} {ss : List ByteArray} (hk : Kp S w w') (h : StrsOwn S w u ss) : StrsOwn S w' u ss := ⟨owns_kept hk h.2 h.1, h.2⟩
theorem StrsOwn.mono {S S' : Nat → Prop} {w : World} {u : Value} {ss : List ByteArray} (hS : ∀ b, S b → S' b) (h : StrsOwn S w u ss) : StrsOwn S' w u ss := ⟨h.1, fun g hg => hS g (h.2 g hg)⟩
theorem StrsOwn.plain {S : Nat → Prop} {w : World} {u : Value} {ss : List ByteArray} (h : StrsOwn S w u ss) : RdB S w u (strsV ss) := by
  obtain ⟨a, cap, hv, hc, hx⟩ := reads_of_owns h.1
  refine ⟨a, cap, hv, hc, ?_⟩
  rcases hx with hx | ⟨b, off, rfl, hlt, hx⟩
  · exact .inl hx
  · exact .inr ⟨b, off, rfl, h.2 b (by rw [hv]; rfl), hx⟩

structure NeedD where
  n : ByteArray
  r : ByteArray
def wtNeed (d : NeedD) : Nat := d.n.size + d.r.size
def shNeed : Sh NeedD where
  n := 2
  lies S w cs d := cs = [.string d.n, .string d.r] ∧ d.n.size ≤ maxLen ∧ d.r.size ≤ maxLen
  keep hk h := by obtain ⟨h0, h1, h2⟩ := h; exact ⟨h0, h1, h2⟩
  mono hS h := by obtain ⟨h0, h1, h2⟩ := h; exact ⟨h0, h1, h2⟩

structure CmdD where
  t : ByteArray
  acts : List ByteArray
def wtCmd (d : CmdD) : Nat := d.t.size + bulkS d.acts
def shCmd : Sh CmdD where
  n := 2
  lies S w cs d := ∃ u0, cs = [.string d.t, u0] ∧ d.t.size ≤ maxLen ∧ RdB S w u0 (strsV d.acts) ∧ saneP d.acts
  keep hk h := by obtain ⟨u0, h0, h1, h2, h3⟩ := h; exact ⟨u0, h0, h1, h2.keep hk, h3⟩
  mono hS h := by obtain ⟨u0, h0, h1, h2, h3⟩ := h; exact ⟨u0, h0, h1, h2.mono hS, h3⟩
def shCmdO : Sh CmdD where
  n := 2
  lies S w cs d := ∃ u0, cs = [.string d.t, u0] ∧ d.t.size ≤ maxLen ∧ StrsOwn S w u0 d.acts ∧ saneP d.acts
  keep hk h := by obtain ⟨u0, h0, h1, h2, h3⟩ := h; exact ⟨u0, h0, h1, h2.keep hk, h3⟩
  mono hS h := by obtain ⟨u0, h0, h1, h2, h3⟩ := h; exact ⟨u0, h0, h1, h2.mono hS, h3⟩
theorem liesCmd_plain {S : Nat → Prop} {w : World} {cs : List Value} {d : CmdD} (h : shCmdO.lies S w cs d) : shCmd.lies S w cs d := by
  obtain ⟨u0, e0, s_t, r0, p0⟩ := h
  exact ⟨u0, e0, s_t, r0.plain, p0⟩

structure PackD where
  name : ByteArray
  uses : List ByteArray
  needs : List NeedD
  cmds : List CmdD
def wtPack (d : PackD) : Nat := d.name.size + bulkS d.uses + wtRow wtNeed d.needs + wtRow wtCmd d.cmds
def shPack : Sh PackD where
  n := 4
  lies S w cs d := ∃ u0 u1 u2, cs = [.string d.name, u0, u1, u2] ∧ d.name.size ≤ maxLen ∧ RdB S w u0 (strsV d.uses) ∧ saneP d.uses ∧ RowIn shNeed S w u1 d.needs ∧ RowIn shCmd S w u2 d.cmds
  keep hk h := by obtain ⟨u0, u1, u2, h0, h1, h2, h3, h4, h5⟩ := h; exact ⟨u0, u1, u2, h0, h1, h2.keep hk, h3, h4.keep hk, h5.keep hk⟩
  mono hS h := by obtain ⟨u0, u1, u2, h0, h1, h2, h3, h4, h5⟩ := h; exact ⟨u0, u1, u2, h0, h1, h2.mono hS, h3, h4.mono hS, h5.mono hS⟩
def shPackO : Sh PackD where
  n := 4
  lies S w cs d := ∃ u0 u1 u2, cs = [.string d.name, u0, u1, u2] ∧ d.name.size ≤ maxLen ∧ StrsOwn S w u0 d.uses ∧ saneP d.uses ∧ RowOwn shNeed 39 S w u1 d.needs ∧ RowOwn shCmdO 305 S w u2 d.cmds
  keep hk h := by obtain ⟨u0, u1, u2, h0, h1, h2, h3, h4, h5⟩ := h; exact ⟨u0, u1, u2, h0, h1, h2.keep hk, h3, h4.keep hk, h5.keep hk⟩
  mono hS h := by obtain ⟨u0, u1, u2, h0, h1, h2, h3, h4, h5⟩ := h; exact ⟨u0, u1, u2, h0, h1, h2.mono hS, h3, h4.mono hS, h5.mono hS⟩
theorem liesPack_plain {S : Nat → Prop} {w : World} {cs : List Value} {d : PackD} (h : shPackO.lies S w cs d) : shPack.lies S w cs d := by
  obtain ⟨u0, u1, u2, e0, s_name, r0, p0, r1, r2⟩ := h
  exact ⟨u0, u1, u2, e0, s_name, r0.plain, p0, r1.plain, (RowIn.as (sh := shCmdO) (sh' := shCmd) rfl (fun S w cs x h => liesCmd_plain h) r2.plain)⟩

end Go.Proofs.YtlfmefojcmpfeaaGreatDoor

/-! Rows that are right one by one and ascend, and the first of a row that is taken: pure facts, no condition. -/
namespace Go.Proofs.YtlfmefojcmpfeaaGreatDoor
open Go.RowKit
set_option linter.unusedSimpArgs false
set_option linter.unusedVariables false

/-- What is asked of an element beside the one ahead of it. -/
def rowOk {α : Type} (p : α → Bool) (key : α → ByteArray) (d : α) (pre : Option α) : Bool := p d && (match pre with | none => true | some c => Op.bytesLess (key c).toList (key d).toList)
def preX {α : Type} (xs : List α) : Nat → Option α
  | 0 => none
  | j + 1 => xs[j]?
def rowUpto {α : Type} (p : α → Bool) (key : α → ByteArray) (xs : List α) : Nat → Bool
  | 0 => true
  | k + 1 => rowUpto p key xs k && (match xs[k]? with | none => true | some d => rowOk p key d (preX xs k))
def rowB {α : Type} (p : α → Bool) (key : α → ByteArray) (xs : List α) : Bool := rowUpto p key xs xs.length
theorem rowUpto_step {α : Type} {p : α → Bool} {key : α → ByteArray} {xs : List α} {k : Nat} (hk : k < xs.length) (h : rowUpto p key xs k = true) (h2 : rowOk p key xs[k] (preX xs k) = true) : rowUpto p key xs (k + 1) = true := by
  rw [rowUpto, h, List.getElem?_eq_getElem hk]; simpa using h2
theorem rowUpto_bad {α : Type} {p : α → Bool} {key : α → ByteArray} {xs : List α} {k : Nat} (hk : k < xs.length) (h2 : rowOk p key xs[k] (preX xs k) = false) : ∀ n, k < n → rowUpto p key xs n = false
  | 0, h => by omega
  | n + 1, h => by
    rw [rowUpto]
    by_cases e : k = n
    · subst e; rw [List.getElem?_eq_getElem hk]; simp [h2]
    · rw [rowUpto_bad hk h2 n (by omega)]; rfl
theorem rowOk_no {α : Type} {p : α → Bool} {key : α → ByteArray} {d : α} {o : Option α} (h : p d = false) : rowOk p key d o = false := by simp [rowOk, h]
theorem rowOk_first {α : Type} {p : α → Bool} {key : α → ByteArray} {d : α} (h : p d = true) : rowOk p key d none = true := by simp [rowOk, h]
theorem rowOk_some {α : Type} {p : α → Bool} {key : α → ByteArray} {d c : α} (h : p d = true) : rowOk p key d (some c) = Op.bytesLess (key c).toList (key d).toList := by simp [rowOk, h]
theorem rowOk_less {α : Type} {p : α → Bool} {key : α → ByteArray} {d c : α} (h : Op.bytesLess (key c).toList (key d).toList = false) : rowOk p key d (some c) = false := by simp [rowOk, h]

def ascB (ts : List ByteArray) : Bool := rowB (fun _ => true) id ts
theorem asc_one (ts : List ByteArray) : rowUpto (fun _ => true) id ts 1 = true := by
  rw [rowUpto, rowUpto]
  cases ts with
  | nil => rfl
  | cons t ts => rfl
theorem asc_end {ts : List ByteArray} {k : Nat} (h1 : 1 ≤ k) (h2 : ¬ k < ts.length) (h3 : k ≤ ts.length ∨ k = 1) (h : rowUpto (fun _ => true) id ts k = true) : ascB ts = true := by
  cases ts with
  | nil => rfl
  | cons t ts =>
    have : k = (t :: ts).length := by
      rcases h3 with h3 | h3
      · omega
      · simp at h2 ⊢; omega
    rw [this] at h
    exact h
theorem rowUpto_split {α : Type} (p : α → Bool) (key : α → ByteArray) (xs : List α) : ∀ k, k ≤ xs.length → rowUpto p key xs k = ((xs.take k).all p && rowUpto (fun _ => true) id (xs.map key) k)
  | 0, _ => rfl
  | k + 1, h => by
    have hk : k < xs.length := by omega
    rw [rowUpto, rowUpto_split p key xs k (by omega), List.getElem?_eq_getElem hk, List.take_succ_eq_append_getElem hk, List.all_append]
    have hm : (xs.map key)[k]? = some (key xs[k]) := by simp [hk]
    have hp : preX (xs.map key) k = (preX xs k).map key := by
      cases k with
      | zero => rfl
      | succ j => simp [preX]
    simp only [rowUpto, hm, hp, rowOk, List.all_cons, List.all_nil, Bool.and_true, Bool.true_and]
    cases preX xs k with
    | none => simp only [Option.map_none]; cases (xs.take k).all p <;> cases rowUpto (fun _ => true) id (xs.map key) k <;> cases p xs[k] <;> rfl
    | some c => simp only [Option.map_some, id]; cases (xs.take k).all p <;> cases rowUpto (fun _ => true) id (xs.map key) k <;> cases p xs[k] <;> cases Op.bytesLess (key c).toList (key xs[k]).toList <;> rfl
theorem rowB_split {α : Type} (p : α → Bool) (key : α → ByteArray) (xs : List α) : rowB p key xs = (xs.all p && ascB (xs.map key)) := by
  unfold rowB ascB rowB
  rw [rowUpto_split p key xs _ (Nat.le_refl _), List.take_length, List.length_map]

/-- The place of the first that p takes, or -1. -/
def firstI {α : Type} (p : α → Bool) (xs : List α) : Int := if xs.findIdx p < xs.length then (xs.findIdx p : Int) else -1
theorem firstI_here {α : Type} {p : α → Bool} {xs : List α} {k : Nat} (h : k < xs.length) (hy : p xs[k] = true) (hn : ∀ j (hj : j < xs.length), j < k → p xs[j] = false) : firstI p xs = (k : Int) := by
  have e : xs.findIdx p = k := by
    rw [List.findIdx_eq h]
    exact ⟨hy, fun j hj => hn j (by omega) hj⟩
  unfold firstI
  rw [e, if_pos h]
theorem firstI_none {α : Type} {p : α → Bool} {xs : List α} (hn : ∀ j (hj : j < xs.length), p xs[j] = false) : firstI p xs = -1 := by
  have e : xs.findIdx p = xs.length := by
    rw [List.findIdx_eq_length]
    intro x hx
    obtain ⟨j, hj, rfl⟩ := List.mem_iff_getElem.1 hx
    exact hn j hj
  unfold firstI
  rw [e, if_neg (by omega)]
theorem firstI_any {α : Type} (p : α → Bool) (xs : List α) : decide (0 ≤ firstI p xs) = xs.any p := by
  unfold firstI
  by_cases h : xs.findIdx p < xs.length
  · rw [if_pos h, decide_eq_true (by omega)]
    have := List.findIdx_lt_length.1 h
    obtain ⟨x, hx, hp⟩ := this
    exact (List.any_eq_true.2 ⟨x, hx, hp⟩).symm
  · rw [if_neg h, decide_eq_false (by omega)]
    have e : xs.findIdx p = xs.length := by have := List.findIdx_le_length (xs := xs) (p := p); omega
    rw [List.findIdx_eq_length] at e
    cases ha : xs.any p with
    | false => rfl
    | true =>
      obtain ⟨x, hx, hp⟩ := List.any_eq_true.1 ha
      have := e x hx
      simp_all
theorem firstI_ge {α : Type} (p : α → Bool) (xs : List α) : -1 ≤ firstI p xs := by unfold firstI; split <;> omega
theorem firstI_le {α : Type} (p : α → Bool) (xs : List α) : firstI p xs ≤ (xs.length : Int) := by unfold firstI; split <;> omega

end Go.Proofs.YtlfmefojcmpfeaaGreatDoor

/-! Picks that lie in memory: what they are: no condition. -/
namespace Go.Proofs.YtlfmefojcmpfeaaGreatDoor
open Go.RowKit
set_option linter.unusedSimpArgs false
set_option linter.unusedVariables false

structure PickD where
  name : ByteArray
  vA : Int
  vB : Int
  vC : Int
  vP : List ByteArray
def wtPick (d : PickD) : Nat := d.name.size + bulkS d.vP
def shPick : Sh PickD where
  n := 5
  lies S w cs d := ∃ u0, cs = [.string d.name, .int .i64 d.vA, .int .i64 d.vB, .int .i64 d.vC, u0] ∧ d.name.size ≤ maxLen ∧ RdB S w u0 (strsV d.vP) ∧ saneP d.vP
  keep hk h := by obtain ⟨u0, h0, h1, h2, h3⟩ := h; exact ⟨u0, h0, h1, h2.keep hk, h3⟩
  mono hS h := by obtain ⟨u0, h0, h1, h2, h3⟩ := h; exact ⟨u0, h0, h1, h2.mono hS, h3⟩
def shPickO : Sh PickD where
  n := 5
  lies S w cs d := ∃ u0, cs = [.string d.name, .int .i64 d.vA, .int .i64 d.vB, .int .i64 d.vC, u0] ∧ d.name.size ≤ maxLen ∧ StrsOwn S w u0 d.vP ∧ saneP d.vP
  keep hk h := by obtain ⟨u0, h0, h1, h2, h3⟩ := h; exact ⟨u0, h0, h1, h2.keep hk, h3⟩
  mono hS h := by obtain ⟨u0, h0, h1, h2, h3⟩ := h; exact ⟨u0, h0, h1, h2.mono hS, h3⟩
theorem liesPick_plain {S : Nat → Prop} {w : World} {cs : List Value} {d : PickD} (h : shPickO.lies S w cs d) : shPick.lies S w cs d := by
  obtain ⟨u0, e0, s_name, r0, p0⟩ := h
  exact ⟨u0, e0, s_name, r0.plain, p0⟩
end Go.Proofs.YtlfmefojcmpfeaaGreatDoor

/-! What the two functions ParseNum (the program's and the specification's) answer: one and the same pair for every string and every bound; no condition but that a string is no longer than an int can count. -/
namespace Go.Proofs.YtlfmefojcmpfeaaGreatDoor
open Go.RowKit
set_option linter.unusedSimpArgs false
set_option linter.unusedVariables false

/-- The number that the first k bytes tell. -/
def numUpto (s : ByteArray) : Nat → Int
  | 0 => 0
  | k + 1 => numUpto s k * 10 + (((s.data[k]!).toNat : Int) - 48)

def okDigit (_ : Nat) (c : Int) : Bool := digitB c

theorem digit_bounds {c : Int} (h : digitB c = true) : 48 ≤ c ∧ c ≤ 57 := by
  simpa [digitB] using h

theorem numUpto_bounds (s : ByteArray) : ∀ k, allUpto okDigit s k = true → 0 ≤ numUpto s k ∧ numUpto s k < (10 : Int) ^ k
  | 0, _ => by simp [numUpto]
  | k + 1, h => by
    rw [allUpto, Bool.and_eq_true] at h
    have ih := numUpto_bounds s k h.1
    have hd := digit_bounds (c := ((s.data[k]!).toNat : Int)) h.2
    rw [numUpto, Int.pow_succ]
    omega

theorem numUpto_step {s : ByteArray} {k : Nat} (hk : k < s.size) : numUpto s (k + 1) = numUpto s k * 10 + (((s[k]).toNat : Int) - 48) := by
  rw [numUpto, byteBang s k hk]

theorem num_small {s : ByteArray} {k : Nat} (h : allUpto okDigit s k = true) (h8 : k ≤ 8) : 0 ≤ numUpto s k ∧ numUpto s k < 100000000 := by
  have hb := numUpto_bounds s k h
  have : (10 : Int) ^ k ≤ 10 ^ 8 := by
    have : (10 : Nat) ^ k ≤ 10 ^ 8 := Nat.pow_le_pow_right (by decide) h8
    exact_mod_cast this
  omega

/-- What both answer. -/
def numGood (s : ByteArray) (most : Int) : Bool :=
  inB s.size 1 7 && allUpto okDigit s s.size && !(decide (1 < s.size) && ((s.data[0]!).toNat : Int) == 48) && decide (numUpto s s.size ≤ most)
def numOut (s : ByteArray) (most : Int) : Int := if numGood s most then numUpto s s.size else 0

theorem numOut_bad {s : ByteArray} {most : Int} (h : numGood s most = false) : numOut s most = 0 := by simp [numOut, h]
theorem numOut_good {s : ByteArray} {most : Int} (h : numGood s most = true) : numOut s most = numUpto s s.size := by simp [numOut, h]

theorem bad_digit {s : ByteArray} {most : Int} {k : Nat} (hk : k < s.size) (h : digitB ((s[k]).toNat : Int) = false) : numGood s most = false := by
  rw [numGood, end_false (p := okDigit) hk h]; simp
theorem bad_size {s : ByteArray} {most : Int} (h : inB s.size 1 7 = false) : numGood s most = false := by
  rw [numGood, h]; simp
theorem bad_nought {s : ByteArray} {most : Int} (h1 : 1 < s.size) (h : (((s[0]).toNat : Int) == 48) = true) : numGood s most = false := by
  rw [numGood, byteBang s 0 (by omega), h, decide_eq_true h1]; simp
theorem bad_most {s : ByteArray} {most : Int} (h : most < numUpto s s.size) : numGood s most = false := by
  rw [numGood, decide_eq_false (p := numUpto s s.size ≤ most) (by omega)]; simp
theorem good_all {s : ByteArray} {most : Int} (h1 : inB s.size 1 7 = true) (h2 : allUpto okDigit s s.size = true) (h3 : ∀ h : 1 < s.size, (((s[0]).toNat : Int) == 48) = false) (h4 : numUpto s s.size ≤ most) : numGood s most = true := by
  rw [numGood, h1, h2, decide_eq_true h4]
  by_cases h : 1 < s.size
  · rw [byteBang s 0 (by omega), h3 h]; simp
  · simp [h]

theorem in17 {s : ByteArray} (h : inB s.size 1 7 = true) : 1 ≤ s.size ∧ s.size ≤ 7 := by
  simp only [inB, Bool.and_eq_true, decide_eq_true_eq] at h
  omega
theorem out17 {s : ByteArray} (h : ¬ inB s.size 1 7 = true) : inB s.size 1 7 = false := by simpa using h

theorem pair_bad {s : ByteArray} {most : Int} (h : numGood s most = false) : Ending.returned (.tuple #[.int .i64 0, .bool false]) = Ending.returned (.tuple #[.int .i64 (numOut s most), .bool (numGood s most)]) := by
  rw [numOut_bad h, h]
theorem pair_good {s : ByteArray} {most n : Int} (h : numGood s most = true) (hn : n = numUpto s s.size) : Ending.returned (.tuple #[.int .i64 n, .bool true]) = Ending.returned (.tuple #[.int .i64 (numOut s most), .bool (numGood s most)]) := by
  rw [numOut_good h, h, hn]

set_option maxHeartbeats 1000000 in
theorem specNum_c (s : ByteArray) (most : Int) (hs : s.size ≤ maxLen) (w : World) :
    Calls Tryz.prog 200 #[.string s, .int .i64 most] w fun e w' => e = .returned (.tuple #[.int .i64 (numOut s most), .bool (numGood s most)]) ∧ w = w' := by
  unfold maxLen at hs
  go_enter Tryz.func200, Tryz.ntmps200
  go_wp2
  go_loop [6, 7] (fun vn vi => ∃ (k : Nat) (n : Int), k ≤ s.size ∧ k ≤ 8 ∧ vi = .int .i64 (k : Int) ∧ vn = .int .i64 n ∧ 0 ≤ n ∧ n < 100000000 ∧ Hid (n = numUpto s k) ∧ Hid (allUpto okDigit s k = true)) (fun _ vi => s.size - (intOf vi).toNat)
  case atStart => exact ⟨0, 0, Nat.zero_le _, by omega, rfl, rfl, by omega, by omega, rfl, rfl⟩
  case round =>
    obtain ⟨k, n, hk, hk8, rfl, rfl, hn0, hn1, hn, hh⟩ := hrel
    go_wp2_with (first
      | (go_at_call 174; refine (digit_c _ (byte0 _) (byte255 _) _).mono ?_; rintro e w' ⟨rfl, rfl⟩)
      | (go_at_call 111; refine (in_c _ _ _ _).mono ?_; rintro e w' ⟨rfl, rfl⟩))
    · have hlt : k < s.size := by assumption
      have h1 : (!digitB ((s[k]).toNat : Int)) = true := by assumption
      go_ret2
      exact ⟨pair_bad (bad_digit hlt (by simpa using h1)), rfl⟩
    · have hlt : k < s.size := by assumption
      have h8 : (k : Int) < 8 := by assumption
      have h1 : (!digitB ((s[k]).toNat : Int)) = false := by assumption
      have h2 : digitB ((s[k]).toNat : Int) = true := by simpa using h1
      have hd := digit_bounds h2
      have hh' := step_true (p := okDigit) hlt hh h2
      have hb := num_small hh'.out (by omega)
      have e : n * 10 + (((s[k]).toNat : Int) - 48) % 256 = numUpto s (k + 1) := by
        rw [numUpto_step hlt, ← hn.out]; omega
      go_round
      case rel => exact ⟨k + 1, numUpto s (k + 1), by omega, by omega, by go_num, by rw [e], hb.1, hb.2, rfl, hh'⟩
      case measure => simp [intOf]; omega
    · exfalso; have := in17 (s := s) (by assumption); omega
    · exfalso; have := in17 (s := s) (by assumption); omega
    · exfalso; have := in17 (s := s) (by assumption); omega
    · have h1 : ¬ inB (s.size : Int) 1 7 = true := by assumption
      go_ret2
      exact ⟨pair_bad (bad_size (out17 h1)), rfl⟩
    · have h1 : (1 : Int) < (s.size : Int) := by assumption
      have h2 : ((s[0]).toNat : Int) = 48 := by assumption
      go_ret2
      exact ⟨pair_bad (bad_nought (by omega) (by rw [h2]; rfl)), rfl⟩
    · have he : k = s.size := by omega
      subst he
      have h1 : (((s[0]).toNat : Int) == 48) = true ∨ most < n := by assumption
      have h2 : ¬ ((s[0]).toNat : Int) = 48 := by assumption
      have h3 : most < n := by
        rcases h1 with h1 | h1
        · exact absurd (by simpa using h1) h2
        · exact h1
      go_ret2
      exact ⟨pair_bad (bad_most (by rw [← hn.out]; exact h3)), rfl⟩
    · have he : k = s.size := by omega
      subst he
      have h0 : inB (s.size : Int) 1 7 = true := by assumption
      have h1 : (((s[0]).toNat : Int) == 48) = false ∧ n ≤ most := by assumption
      go_ret2
      exact ⟨pair_good (good_all h0 hh.out (fun _ => h1.1) (by rw [← hn.out]; exact h1.2)) hn.out, rfl⟩
    · have he : k = s.size := by omega
      subst he
      have h3 : most < n := by assumption
      go_ret2
      exact ⟨pair_bad (bad_most (by rw [← hn.out]; exact h3)), rfl⟩
    · have he : k = s.size := by omega
      subst he
      have h0 : inB (s.size : Int) 1 7 = true := by assumption
      have h1 : n ≤ most := by assumption
      have h2 : (s.size : Int) ≤ 1 := by assumption
      go_ret2
      exact ⟨pair_good (good_all h0 hh.out (fun h => by omega) (by rw [← hn.out]; exact h1)) hn.out, rfl⟩
    · have h1 : ¬ inB (s.size : Int) 1 7 = true := by assumption
      go_ret2
      exact ⟨pair_bad (bad_size (out17 h1)), rfl⟩

theorem in_false {s : ByteArray} (h : s.size = 0 ∨ 7 < s.size) : inB s.size 1 7 = false := by
  simp only [inB, Bool.and_eq_false_iff, decide_eq_false_iff_not]
  omega
theorem in_true {s : ByteArray} (h0 : 0 < s.size) (h : s.size ≤ 7) : inB s.size 1 7 = true := by
  simp only [inB, Bool.and_eq_true, decide_eq_true_eq]
  omega

set_option maxHeartbeats 1000000 in
theorem implNum_c (s : ByteArray) (most : Int) (hs : s.size ≤ maxLen) (w : World) :
    Calls Tryz.prog 301 #[.string s, .int .i64 most] w fun e w' => e = .returned (.tuple #[.int .i64 (numOut s most), .bool (numGood s most)]) ∧ w = w' := by
  unfold maxLen at hs
  by_cases h0 : s.size = 0
  · rw [← pair_bad (bad_size (in_false (.inl h0)))]
    have h0' : ((s.size : Int) == 0) = true := by simp [h0]
    go_enter Tryz.func301, Tryz.ntmps301
    go_wp2
    go_ret2
    exact ⟨rfl, rfl⟩
  have h0' : ((s.size : Int) == 0) = false := size_ne h0
  by_cases h7 : 7 < s.size
  · rw [← pair_bad (bad_size (in_false (.inr h7)))]
    have h7' : (7 : Int) < (s.size : Int) := by omega
    go_enter Tryz.func301, Tryz.ntmps301
    go_wp2
    go_ret2
    exact ⟨rfl, rfl⟩
  have hp : 0 < s.size := by omega
  have h7' : ¬ (7 : Int) < (s.size : Int) := by omega
  by_cases hz : 1 < s.size ∧ (((s[0]).toNat : Int) == 48) = true
  · rw [← pair_bad (bad_nought hz.1 hz.2)]
    have hz1 : (1 : Int) < (s.size : Int) := by omega
    have hz2 := hz.2
    clear hz
    go_enter Tryz.func301, Tryz.ntmps301
    go_wp2
    go_ret2
    exact ⟨rfl, rfl⟩
  have hz3 : ∀ h : 1 < s.size, (((s[0]).toNat : Int) == 48) = false := fun h => by
    cases e : (((s[0]).toNat : Int) == 48) with
    | false => rfl
    | true => exact absurd ⟨h, e⟩ hz
  have HZ : Hid (∀ h : 1 < s.size, (((s[0]).toNat : Int) == 48) = false) := hz3
  have hg : (((s[0]).toNat : Int) == 48) = true → ¬ (1 : Int) < (s.size : Int) := fun h h1 => hz ⟨by omega, h⟩
  clear hz hz3
  have hin := in_true hp (by omega)
  have main : ∀ w, Calls Tryz.prog 301 #[.string s, .int .i64 most] w fun e w' => e = .returned (.tuple #[.int .i64 (numOut s most), .bool (numGood s most)]) ∧ w = w' := by
    intro w
    cases hc : (((s[0]).toNat : Int) == 48) with
    | true =>
      have hg1 := hg hc
      clear hg
      go_enter Tryz.func301, Tryz.ntmps301
      go_wp2
      go_loop [6, 28] (fun vn vi => ∃ (k : Nat) (n : Int), k ≤ s.size ∧ vi = .int .i64 (k : Int) ∧ vn = .int .i64 n ∧ 0 ≤ n ∧ n < 100000000 ∧ Hid (n = numUpto s k) ∧ Hid (allUpto okDigit s k = true)) (fun _ vi => s.size - (intOf vi).toNat)
      case atStart => exact ⟨0, 0, Nat.zero_le _, rfl, rfl, by omega, by omega, rfl, rfl⟩
      case round =>
        obtain ⟨k, n, hk, rfl, rfl, hn0, hn1, hn, hh⟩ := hrel
        go_wp2_with (go_at_call 238; refine (isDigit_c _ _).mono ?_; rintro e w' ⟨rfl, rfl⟩)
        · have hlt : k < s.size := by assumption
          have h1 : (!digitB ((s[k]).toNat : Int)) = true := by assumption
          go_ret2
          exact ⟨pair_bad (bad_digit hlt (by simpa using h1)), rfl⟩
        · have hlt : k < s.size := by assumption
          have h1 : (!digitB ((s[k]).toNat : Int)) = false := by assumption
          have h2 : digitB ((s[k]).toNat : Int) = true := by simpa using h1
          have hd := digit_bounds h2
          have hh' := step_true (p := okDigit) hlt hh h2
          have hb := num_small hh'.out (by omega)
          have e : n * 10 + (((s[k]).toNat : Int) - 48) % 256 = numUpto s (k + 1) := by
            rw [numUpto_step hlt, ← hn.out]; omega
          go_round
          case rel => exact ⟨k + 1, numUpto s (k + 1), by omega, by go_num, by rw [e], hb.1, hb.2, rfl, hh'⟩
          case measure => simp [intOf]; omega
        · have he : k = s.size := by omega
          subst he
          have h3 : most < n := by assumption
          go_ret2
          exact ⟨pair_bad (bad_most (by rw [← hn.out]; exact h3)), rfl⟩
        · have he : k = s.size := by omega
          subst he
          have h3 : n ≤ most := by omega
          go_ret2
          exact ⟨pair_good (good_all hin hh.out HZ.out (by rw [← hn.out]; exact h3)) hn.out, rfl⟩
    | false =>
      clear hg
      go_enter Tryz.func301, Tryz.ntmps301
      go_wp2
      go_loop [6, 28] (fun vn vi => ∃ (k : Nat) (n : Int), k ≤ s.size ∧ vi = .int .i64 (k : Int) ∧ vn = .int .i64 n ∧ 0 ≤ n ∧ n < 100000000 ∧ Hid (n = numUpto s k) ∧ Hid (allUpto okDigit s k = true)) (fun _ vi => s.size - (intOf vi).toNat)
      case atStart => exact ⟨0, 0, Nat.zero_le _, rfl, rfl, by omega, by omega, rfl, rfl⟩
      case round =>
        obtain ⟨k, n, hk, rfl, rfl, hn0, hn1, hn, hh⟩ := hrel
        go_wp2_with (go_at_call 238; refine (isDigit_c _ _).mono ?_; rintro e w' ⟨rfl, rfl⟩)
        · have hlt : k < s.size := by assumption
          have h1 : (!digitB ((s[k]).toNat : Int)) = true := by assumption
          go_ret2
          exact ⟨pair_bad (bad_digit hlt (by simpa using h1)), rfl⟩
        · have hlt : k < s.size := by assumption
          have h1 : (!digitB ((s[k]).toNat : Int)) = false := by assumption
          have h2 : digitB ((s[k]).toNat : Int) = true := by simpa using h1
          have hd := digit_bounds h2
          have hh' := step_true (p := okDigit) hlt hh h2
          have hb := num_small hh'.out (by omega)
          have e : n * 10 + (((s[k]).toNat : Int) - 48) % 256 = numUpto s (k + 1) := by
            rw [numUpto_step hlt, ← hn.out]; omega
          go_round
          case rel => exact ⟨k + 1, numUpto s (k + 1), by omega, by go_num, by rw [e], hb.1, hb.2, rfl, hh'⟩
          case measure => simp [intOf]; omega
        · have he : k = s.size := by omega
          subst he
          have h3 : most < n := by assumption
          go_ret2
          exact ⟨pair_bad (bad_most (by rw [← hn.out]; exact h3)), rfl⟩
        · have he : k = s.size := by omega
          subst he
          have h3 : n ≤ most := by omega
          go_ret2
          exact ⟨pair_good (good_all hin hh.out HZ.out (by rw [← hn.out]; exact h3)) hn.out, rfl⟩
  exact main w
end Go.Proofs.YtlfmefojcmpfeaaGreatDoor

/-! What the functions that look at one text of a Pre answer (the program's and the specification's): contracts for the walks; condition: a string is no longer than an int can count. -/
namespace Go.Proofs.YtlfmefojcmpfeaaGreatDoor
open Go.RowKit
set_option linter.unusedSimpArgs false
set_option linter.unusedVariables false

def preB (c : Int) : Bool := smallB c || inB c 65 90 || digitB c || c == 45
def okPre (_ : Nat) (c : Int) : Bool := preB c
def digitsB (s : ByteArray) : Bool := allUpto okDigit s s.size
def firstB (s : ByteArray) : Bool := ((s.data[0]!).toNat : Int) == 48
def partB (s : ByteArray) : Bool := allUpto okPre s s.size && inB s.size 1 8 && (!digitsB s || decide (s.size = 1) || !firstB s)

theorem ret_bool {a b : Bool} (h : a = b) : Ending.returned (.bool a) = .returned (.bool b) := by rw [h]

theorem isPreSign_c (c : Int) (w : World) :
    Calls Tryz.prog 282 #[.int .i32 c] w fun e w' => e = .returned (.bool (preB c)) ∧ w = w' := by
  go_enter Tryz.func282, Tryz.ntmps282
  go_wp2
  all_goals (go_ret; refine ⟨ret_bool ?_, rfl⟩)
  all_goals (rw [Bool.eq_iff_iff]; simp [preB, smallB, inB, digitB]; try omega)

set_option maxHeartbeats 1000000 in
theorem specDigits_c (s : ByteArray) (hs : s.size ≤ maxLen) (w : World) :
    Calls Tryz.prog 241 #[.string s] w fun e w' => e = .returned (.bool (digitsB s)) ∧ w = w' := by
  unfold maxLen at hs
  go_enter Tryz.func241, Tryz.ntmps241
  go_wp2
  go_loop [3] (fun vi => ∃ k : Nat, k ≤ s.size ∧ vi = .int .i64 (k : Int) ∧ Hid (allUpto okDigit s k = true)) (fun vi => s.size - (intOf vi).toNat)
  case atStart => exact ⟨0, Nat.zero_le _, rfl, rfl⟩
  case round =>
    obtain ⟨k, hk, rfl, hh⟩ := hrel
    go_wp2_with (go_at_call 174; refine (digit_c _ (byte0 _) (byte255 _) _).mono ?_; rintro e w' ⟨rfl, rfl⟩)
    · have hlt : k < s.size := by assumption
      have h1 : (!digitB ((s[k]).toNat : Int)) = true := by assumption
      go_ret
      exact ⟨by rw [digitsB, end_false hlt (by simpa [okDigit] using h1)]; rfl, rfl⟩
    · have hlt : k < s.size := by assumption
      have h1 : (!digitB ((s[k]).toNat : Int)) = false := by assumption
      go_round
      case rel => exact ⟨k + 1, by omega, by go_num, step_true hlt hh (by simpa [okDigit] using h1)⟩
      case measure => simp [intOf]; omega
    · have he : k = s.size := by omega
      subst he
      go_ret
      exact ⟨by rw [digitsB, hh.out]; rfl, rfl⟩

set_option maxHeartbeats 1000000 in
theorem implDigits_c (s : ByteArray) (hs : s.size ≤ maxLen) (w : World) :
    Calls Tryz.prog 215 #[.string s] w fun e w' => e = .returned (.bool (digitsB s)) ∧ w = w' := by
  unfold maxLen at hs
  go_enter Tryz.func215, Tryz.ntmps215
  go_wp2
  go_loop [6] (fun vi => ∃ k : Nat, k ≤ s.size ∧ vi = .int .i64 (k : Int) ∧ Hid (allUpto okDigit s k = true)) (fun vi => s.size - (intOf vi).toNat)
  case atStart => exact ⟨0, Nat.zero_le _, rfl, rfl⟩
  case round =>
    obtain ⟨k, hk, rfl, hh⟩ := hrel
    go_wp2_with (go_at_call 238; refine (isDigit_c _ _).mono ?_; rintro e w' ⟨rfl, rfl⟩)
    · have hlt : k < s.size := by assumption
      have h1 : (!digitB ((s[k]).toNat : Int)) = true := by assumption
      go_ret
      exact ⟨by rw [digitsB, end_false hlt (by simpa [okDigit] using h1)]; rfl, rfl⟩
    · have hlt : k < s.size := by assumption
      have h1 : (!digitB ((s[k]).toNat : Int)) = false := by assumption
      go_round
      case rel => exact ⟨k + 1, by omega, by go_num, step_true hlt hh (by simpa [okDigit] using h1)⟩
      case measure => simp [intOf]; omega
    · have he : k = s.size := by omega
      subst he
      go_ret
      exact ⟨by rw [digitsB, hh.out]; rfl, rfl⟩

theorem pre_high {c : Int} (h : 128 ≤ c) : preB c = false := by
  rw [Bool.eq_false_iff]; simp [preB, smallB, inB, digitB]; omega

theorem partB_out {s : ByteArray} (h : s.size = 0 ∨ 8 < s.size) : partB s = false := by
  have : inB s.size 1 8 = false := by
    simp only [inB, Bool.and_eq_false_iff, decide_eq_false_iff_not]
    omega
  rw [partB, this, Bool.and_false, Bool.false_and]
theorem partB_bad {s : ByteArray} (h : allUpto okPre s s.size = false) : partB s = false := by rw [partB, h]; rfl
theorem partB_in {s : ByteArray} (h0 : 0 < s.size) (h1 : s.size ≤ 8) (h : allUpto okPre s s.size = true) : partB s = (!digitsB s || decide (s.size = 1) || !firstB s) := by
  have : inB s.size 1 8 = true := by
    simp only [inB, Bool.and_eq_true, decide_eq_true_eq]
    omega
  rw [partB, this, h]; rfl
theorem firstB_eq {s : ByteArray} (h0 : 0 < s.size) : firstB s = (((s[0]).toNat : Int) == 48) := by rw [firstB, byteBang s 0 h0]

theorem pre_1 {c : Int} (k : Nat) (h : digitB c = true) : okPre k c = true := by simp [okPre, preB, h]
theorem pre_2 {c : Int} (k : Nat) (h : smallB c = true) : okPre k c = true := by simp [okPre, preB, h]
theorem pre_3 {c : Int} (k : Nat) (h : inB c 65 90 = true) : okPre k c = true := by simp [okPre, preB, h]
theorem pre_4 {c : Int} (k : Nat) (h : (c != 45) = false) : okPre k c = true := by
  have : (c == 45) = true := by simpa using h
  simp only [okPre, preB, this, Bool.or_true]

end Go.Proofs.YtlfmefojcmpfeaaGreatDoor

/-! What the specification's look at one text of a Pre answers: a contract for the walks; condition: the string is no longer than an int can count. -/
namespace Go.Proofs.YtlfmefojcmpfeaaGreatDoor
open Go.RowKit
set_option linter.unusedSimpArgs false
set_option linter.unusedVariables false

theorem pre_none {c : Int} (k : Nat) (h1 : ¬ digitB c = true) (h2 : ¬ smallB c = true) (h3 : ¬ inB c 65 90 = true) (h4 : (c != 45) = true) : okPre k c = false := by
  have h5 : (c == 45) = false := by simpa using h4
  simp only [okPre, preB, h1, h2, h3, h5]; rfl

set_option maxHeartbeats 2000000 in
theorem specPart_c (s : ByteArray) (hs : s.size ≤ maxLen) (w : World) :
    Calls Tryz.prog 175 #[.string s] w fun e w' => e = .returned (.bool (partB s)) ∧ w = w' := by
  have hs0 := hs
  unfold maxLen at hs
  go_enter Tryz.func175, Tryz.ntmps175
  go_wp2
  go_loop [3] (fun vi => ∃ k : Nat, k ≤ s.size ∧ vi = .int .i64 (k : Int) ∧ Hid (allUpto okPre s k = true)) (fun vi => s.size - (intOf vi).toNat)
  case atStart => exact ⟨0, Nat.zero_le _, rfl, rfl⟩
  case round =>
    obtain ⟨k, hk, rfl, hh⟩ := hrel
    by_cases hlt : k < s.size
    · have hwb := wrap_byte s[k]
      go_wp2_with (first
        | (go_at_call 173; refine (small_c _ (byte0 _) (byte255 _) _).mono ?_; rintro e w' ⟨rfl, rfl⟩)
        | (go_at_call 174; refine (digit_c _ (byte0 _) (byte255 _) _).mono ?_; rintro e w' ⟨rfl, rfl⟩)
        | (go_at_call 111; refine (in_c _ _ _ _).mono ?_; rintro e w' ⟨rfl, rfl⟩))
      · have h1 : digitB ((s[k]).toNat : Int) = true := by assumption
        go_round
        case rel => exact ⟨k + 1, by omega, by go_num, step_true hlt hh (pre_1 _ h1)⟩
        case measure => simp [intOf]; omega
      · have h1 : smallB ((s[k]).toNat : Int) = true := by assumption
        go_round
        case rel => exact ⟨k + 1, by omega, by go_num, step_true hlt hh (pre_2 _ h1)⟩
        case measure => simp [intOf]; omega
      · have h1 : inB ((s[k]).toNat : Int) 65 90 = true := by assumption
        go_round
        case rel => exact ⟨k + 1, by omega, by go_num, step_true hlt hh (pre_3 _ h1)⟩
        case measure => simp [intOf]; omega
      · have h1 : ¬ digitB ((s[k]).toNat : Int) = true := by assumption
        have h2 : ¬ smallB ((s[k]).toNat : Int) = true := by assumption
        have h3 : ¬ inB ((s[k]).toNat : Int) 65 90 = true := by assumption
        have h4 : (((s[k]).toNat : Int) != 45) = true := by assumption
        go_ret
        exact ⟨ret_bool (partB_bad (end_false hlt (pre_none _ h1 h2 h3 h4))).symm, rfl⟩
      · have h1 : (((s[k]).toNat : Int) != 45) = false := by assumption
        go_round
        case rel => exact ⟨k + 1, by omega, by go_num, step_true hlt hh (pre_4 _ h1)⟩
        case measure => simp [intOf]; omega
    · have he : k = s.size := by omega
      subst he
      have HA : Hid (allUpto okPre s s.size = true) := hh
      clear hh
      by_cases h0 : s.size = 0
      · have e1 : inB (s.size : Int) 1 8 = false := by simp [inB]; omega
        go_wp2_with (go_at_call 111; refine (in_c _ _ _ _).mono ?_; rintro e w' ⟨rfl, rfl⟩)
        go_ret
        exact ⟨ret_bool (partB_out (.inl h0)).symm, rfl⟩
      · have hp : 0 < s.size := by omega
        have hpi : (0 : Int) < (s.size : Int) := by omega
        have HF : Hid (firstB s = (((s[0]).toNat : Int) == 48)) := firstB_eq hp
        by_cases h8 : 8 < s.size
        · have e1 : inB (s.size : Int) 1 8 = false := by simp [inB]; omega
          go_wp2_with (go_at_call 111; refine (in_c _ _ _ _).mono ?_; rintro e w' ⟨rfl, rfl⟩)
          go_ret
          exact ⟨ret_bool (partB_out (.inr h8)).symm, rfl⟩
        · have e1 : inB (s.size : Int) 1 8 = true := by simp [inB]; omega
          cases hd : digitsB s with
          | false =>
            go_wp2_with (first
              | (go_at_call 111; refine (in_c _ _ _ _).mono ?_; rintro e w' ⟨rfl, rfl⟩)
              | (go_at_call 241; refine (specDigits_c s hs0 _).mono ?_; rintro e w' ⟨rfl, rfl⟩))
            go_ret
            exact ⟨ret_bool (by rw [partB_in hp (by omega) HA.out, hd]; rfl), rfl⟩
          | true =>
            by_cases h1 : s.size = 1
            · have h1' : ((s.size : Int) == 1) = true := by simp [h1]
              go_wp2_with (first
                | (go_at_call 111; refine (in_c _ _ _ _).mono ?_; rintro e w' ⟨rfl, rfl⟩)
                | (go_at_call 241; refine (specDigits_c s hs0 _).mono ?_; rintro e w' ⟨rfl, rfl⟩))
              go_ret
              exact ⟨ret_bool (by rw [partB_in hp (by omega) HA.out, hd]; simp [h1]), rfl⟩
            · have h1' : ((s.size : Int) == 1) = false := by rw [beq_eq_false_iff_ne]; omega
              go_wp2_with (first
                | (go_at_call 111; refine (in_c _ _ _ _).mono ?_; rintro e w' ⟨rfl, rfl⟩)
                | (go_at_call 241; refine (specDigits_c s hs0 _).mono ?_; rintro e w' ⟨rfl, rfl⟩))
              go_ret
              exact ⟨ret_bool (by rw [partB_in hp (by omega) HA.out, hd, HF.out]; simp [h1, bne]), rfl⟩
end Go.Proofs.YtlfmefojcmpfeaaGreatDoor

/-! What the program's look at one text of a Pre answers (it goes over the text's runes): a contract for the walks; condition: the string is no longer than an int can count. -/
namespace Go.Proofs.YtlfmefojcmpfeaaGreatDoor
open Go.RowKit
set_option linter.unusedSimpArgs false
set_option linter.unusedVariables false

theorem iterPos_of {w : World} {k : Nat} {s : ByteArray} {p : Nat} (h : w.heap[k]? = some (.stringIter s p)) : w.iterPos k = p := by simp [World.iterPos, h]
theorem rune_high (s : ByteArray) (pos : Nat) (h : pos < s.size) (ha : 128 ≤ (s[pos]).toNat) : preB ((Utf8.decode s pos).1 : Int) = false := pre_high (by have := (decode_high s pos h ha).1; omega)
theorem byte_high (s : ByteArray) (pos : Nat) (h : pos < s.size) (ha : 128 ≤ (s[pos]).toNat) : preB ((s[pos]).toNat : Int) = false := pre_high (by omega)

set_option maxHeartbeats 2000000 in
set_option maxRecDepth 100000 in
theorem implPart_c (s : ByteArray) (hs : s.size ≤ maxLen) (w : World) :
    Calls Tryz.prog 232 #[.string s] w fun e w' => e = .returned (.bool (partB s)) ∧ Below w.heap.size w w' := by
  have hs0 := hs
  unfold maxLen at hs
  by_cases h0 : s.size = 0
  · have h0' : ((s.size : Int) == 0) = true := by simp [h0]
    go_enter Tryz.func232, Tryz.ntmps232
    go_wp2
    go_ret
    exact ⟨ret_bool (partB_out (.inl h0)).symm, Below.refl _ _⟩
  have h0' : ((s.size : Int) == 0) = false := size_ne h0
  by_cases h8 : 8 < s.size
  · have h8' : (8 : Int) < (s.size : Int) := by omega
    go_enter Tryz.func232, Tryz.ntmps232
    go_wp2
    go_ret
    exact ⟨ret_bool (partB_out (.inr h8)).symm, Below.refl _ _⟩
  have h8' : ¬ (8 : Int) < (s.size : Int) := by omega
  have hp0 : 0 < s.size := by omega
  have hpi : (0 : Int) < (s.size : Int) := by omega
  have HF : Hid (firstB s = (((s[0]).toNat : Int) == 48)) := firstB_eq hp0
  go_enter Tryz.func232, Tryz.ntmps232
  go_wp2
  go_loopw [4] (fun _ wr => ∃ pos : Nat, pos ≤ s.size ∧ wr.heap[w.heap.size]? = some (.stringIter s pos) ∧ Hid (allUpto okPre s pos = true) ∧ Below w.heap.size w wr) (fun _ wr => s.size - wr.iterPos w.heap.size)
  case atStart => exact ⟨0, Nat.zero_le _, World.iter_heap w s 0, rfl, (Below.refl _ _).alloc (Nat.le_refl _) _⟩
  case round =>
    obtain ⟨pos, hk, hit, hh, hbw⟩ := hrel
    have hpos0 := iterPos_of hit
    by_cases hp : pos < s.size
    · by_cases ha : (s[pos]).toNat < 128
      · have hnx : ∀ ty, (Instr.next (.pointer (some ⟨w.heap.size, 0, none⟩)) true ty).run Tryz.prog wr = _ := fun ty => Lib.run_next_ascii_at wr w.heap.size s pos ty hit hp ha
        have hit2 := Lib.iterAt_heap wr w.heap.size s pos (pos + 1) hit
        have hbw2 := Lib.below_iterAt hbw (k := w.heap.size) (Nat.le_refl _) s (pos + 1)
        obtain ⟨W1, hW1⟩ : ∃ W1, W1 = wr.iterAt w.heap.size s (pos + 1) := ⟨_, rfl⟩
        rw [← hW1] at hnx hit2 hbw2
        clear hW1 hit hbw
        go_wp2_with (go_at_call 282; refine (isPreSign_c _ _).mono ?_; rintro e w' ⟨rfl, rfl⟩)
        · have h1 : (!preB ((s[pos]).toNat : Int)) = true := by assumption
          go_ret
          exact ⟨ret_bool (partB_bad (end_false hp (by simpa [okPre] using h1))).symm, hbw2⟩
        · have h1 : (!preB ((s[pos]).toNat : Int)) = false := by assumption
          go_roundw
          case rel => exact ⟨pos + 1, by omega, hit2, step_true hp hh (by simpa [okPre] using h1), hbw2⟩
          case measure => rw [iterPos_of hit2, hpos0]; omega
      · have hnx : ∀ ty, (Instr.next (.pointer (some ⟨w.heap.size, 0, none⟩)) true ty).run Tryz.prog wr = _ := fun ty => Lib.run_next_any_at wr w.heap.size s pos ty hit hp
        have hbw2 := Lib.below_iterAt hbw (k := w.heap.size) (Nat.le_refl _) s (pos + (Utf8.decode s pos).2)
        have hr := rune_high s pos hp (by omega)
        have HB := byte_high s pos hp (by omega)
        obtain ⟨r, hr'⟩ : ∃ r : Int, r = ((Utf8.decode s pos).1 : Int) := ⟨_, rfl⟩
        obtain ⟨W1, hW1⟩ : ∃ W1, W1 = wr.iterAt w.heap.size s (pos + (Utf8.decode s pos).2) := ⟨_, rfl⟩
        rw [← hW1, ← hr'] at hnx
        rw [← hW1] at hbw2
        rw [← hr'] at hr
        have HB' : Hid (preB ((s[pos]).toNat : Int) = false) := HB
        clear hW1 hit hbw hr' HB
        go_wp2_with (go_at_call 282; refine (isPreSign_c _ _).mono ?_; rintro e w' ⟨rfl, rfl⟩)
        go_ret
        exact ⟨ret_bool (partB_bad (end_false hp HB'.out)).symm, hbw2⟩
    · have hnx : ∀ ty, (Instr.next (.pointer (some ⟨w.heap.size, 0, none⟩)) true ty).run Tryz.prog wr = _ := fun ty => Lib.run_next_end_at wr w.heap.size s pos ty hit hp
      have he : pos = s.size := by omega
      subst he
      have HA : Hid (allUpto okPre s s.size = true) := hh
      clear hh hpos0
      by_cases h1 : s.size = 1
      · have h1' : ((s.size : Int) == 1) = true := by simp [h1]
        go_wp2
        go_ret
        exact ⟨ret_bool (by rw [partB_in hp0 (by omega) HA.out]; simp [h1]), hbw⟩
      · have h1' : ((s.size : Int) == 1) = false := by rw [beq_eq_false_iff_ne]; omega
        cases hf : (((s[0]).toNat : Int) == 48) with
        | true =>
          have hf' : (((s[0]).toNat : Int) != 48) = false := by rw [bne, hf]; rfl
          go_wp2_with (go_at_call 215; refine (implDigits_c s hs0 _).mono ?_; rintro e w' ⟨rfl, rfl⟩)
          go_ret
          exact ⟨ret_bool (by rw [partB_in hp0 (by omega) HA.out, HF.out, hf]; simp [h1]), hbw⟩
        | false =>
          have hf' : (((s[0]).toNat : Int) != 48) = true := by rw [bne, hf]; rfl
          go_wp2
          go_ret
          exact ⟨ret_bool (by rw [partB_in hp0 (by omega) HA.out, HF.out, hf]; simp [h1]), hbw⟩
end Go.Proofs.YtlfmefojcmpfeaaGreatDoor

/-! What VerOk answers, the program's and the specification's: contracts for the walks; conditions: the list of texts lies in memory as told, and is no longer than 2 to the 20, with all that it holds. -/
namespace Go.Proofs.YtlfmefojcmpfeaaGreatDoor
open Go.RowKit
set_option linter.unusedSimpArgs false
set_option linter.unusedVariables false

def partsUpto (ps : List ByteArray) : Nat → Bool
  | 0 => true
  | k + 1 => partsUpto ps k && partB (ps.getD k ⟨#[]⟩)
def verB (a b c : Int) (ps : List ByteArray) : Bool := partsUpto ps ps.length && inB a 0 9999 && inB b 0 9999 && inB c 0 9999 && decide (ps.length ≤ 3)

theorem partsUpto_cut (ps : List ByteArray) (k : Nat) (h : partB (ps.getD k ⟨#[]⟩) = false) : ∀ n, k < n → partsUpto ps n = false
  | 0, h0 => by omega
  | n + 1, hk => by
    unfold partsUpto
    by_cases e : k = n
    · subst e; rw [h, Bool.and_false]
    · rw [partsUpto_cut ps k h n (by omega)]; rfl
theorem parts_end {ps : List ByteArray} {k : Nat} (hk : k < ps.length) (h : partB ps[k] = false) : partsUpto ps ps.length = false :=
  partsUpto_cut ps k (by simpa [List.getD_eq_getElem?_getD, hk] using h) _ hk
theorem parts_step {ps : List ByteArray} {k : Nat} (hk : k < ps.length) (hh : Hid (partsUpto ps k = true)) (h : partB ps[k] = true) : Hid (partsUpto ps (k + 1) = true) := by
  show _ = _
  rw [partsUpto, hh.out]
  simpa [List.getD_eq_getElem?_getD, hk] using h
theorem verB_parts {a b c : Int} {ps : List ByteArray} (h : partsUpto ps ps.length = false) : verB a b c ps = false := by rw [verB, h]; rfl
theorem verB_all {a b c : Int} {ps : List ByteArray} (h : partsUpto ps ps.length = true) : verB a b c ps = (inB a 0 9999 && inB b 0 9999 && inB c 0 9999 && decide (ps.length ≤ 3)) := by rw [verB, h]; rfl

theorem verNum_c (n : Int) (w : World) :
    Calls Tryz.prog 231 #[.int .i64 n] w fun e w' => e = .returned (.bool (inB n 0 9999)) ∧ w = w' := by
  by_cases h : 0 ≤ n
  · have hb : inB n 0 9999 = decide (n ≤ 9999) := by simp [inB, h]
    rw [hb]
    go_enter Tryz.func231, Tryz.ntmps231
    go_wp2
    go_ret
    exact ⟨rfl, rfl⟩
  · have hb : inB n 0 9999 = false := by simp [inB, h]
    rw [hb]
    go_enter Tryz.func231, Tryz.ntmps231
    go_wp2
    go_ret
    exact ⟨rfl, rfl⟩

theorem le_sum_of_mem : ∀ {ps : List ByteArray} {s : ByteArray}, s ∈ ps → s.size ≤ (ps.map ByteArray.size).sum
  | p :: ps, s, h => by
    rw [List.map_cons, List.sum_cons]
    rcases List.mem_cons.1 h with rfl | h
    · omega
    · have := le_sum_of_mem h; omega
theorem size_of_bulk {ps : List ByteArray} {s : ByteArray} (h : s ∈ ps) : s.size ≤ bulkS ps := by
  unfold bulkS
  have := le_sum_of_mem h
  omega

set_option maxHeartbeats 2000000 in
set_option maxRecDepth 100000 in
theorem specVerOk_c (a b c : Int) (u : Value) (ps : List ByteArray) (w : World) (hu : Reads w u (strsV ps)) (hb : bulkS ps ≤ 1048576) :
    Calls Tryz.prog 95 #[.agg #[.int .i64 a, .int .i64 b, .int .i64 c, u]] w fun e w' => e = .returned (.bool (verB a b c ps)) ∧ Below w.heap.size w w' := by
  have hsz : ∀ s ∈ ps, s.size ≤ maxLen := fun s hs => by have := size_of_bulk hs; unfold maxLen; omega
  have hn : ps.length ≤ 1048576 := by unfold bulkS at hb; omega
  have hbx : ∀ o, Below w.heap.size w (w.alloc o) := fun o => (Below.refl _ _).alloc (Nat.le_refl _) _
  obtain ⟨q, cap, rfl, _, hc⟩ := reads_strs hu
  clear hu hb
  go_enter Tryz.func95, Tryz.ntmps95
  go_wp2
  go_loop [3] (fun vi => ∃ k : Nat, k ≤ ps.length ∧ vi = .int .i64 (k : Int) ∧ Hid (partsUpto ps k = true)) (fun vi => ps.length - (intOf vi).toNat)
  case atStart => exact ⟨0, Nat.zero_le _, rfl, rfl⟩
  case round =>
    obtain ⟨k, hk, rfl, hh⟩ := hrel
    by_cases hlt : k < ps.length
    · rcases hc with rfl | ⟨bl, off, rfl, hlb, hc⟩
      · simp at hlt
      have hcx := hc k hlt
      have hcy : ∀ o, (w.alloc o).cell? ⟨bl, off + k, none⟩ = some (.string ps[k]) := fun o => ((hbx o).cell (p := ⟨bl, off + k, none⟩) hlb).trans hcx
      have hsk := hsz ps[k] (List.getElem_mem hlt)
      obtain ⟨t, ht⟩ : ∃ t, t = ps[k] := ⟨_, rfl⟩
      rw [← ht] at hcx hcy hsk
      have HT : Hid (t = ps[k]) := ht
      have hki : (k : Int) < (ps.length : Int) := by omega
      clear hc hsz ht
      go_wp2_with (go_at_call 175; refine (specPart_c t hsk _).mono ?_; rintro e w' ⟨rfl, rfl⟩)
      · have h1 : (!partB t) = true := by assumption
        go_ret
        exact ⟨ret_bool (verB_parts (parts_end hlt (by rw [← HT.out]; simpa using h1))).symm, hbx _⟩
      · have h1 : (!partB t) = false := by assumption
        go_round
        case rel => exact ⟨k + 1, by omega, by go_num, parts_step hlt hh (by rw [← HT.out]; simpa using h1)⟩
        case measure => simp [intOf]; omega
    · have he : k = ps.length := by omega
      subst he
      have HA : Hid (partsUpto ps ps.length = true) := hh
      have hki : ¬ (ps.length : Int) < (ps.length : Int) := by omega
      clear hc hsz hh
      cases ha : inB a 0 9999 with
      | false =>
        go_wp2_with (go_at_call 111; refine (in_c _ _ _ _).mono ?_; rintro e w' ⟨rfl, rfl⟩)
        go_ret
        exact ⟨ret_bool (by rw [verB_all HA.out, ha]; rfl), hbx _⟩
      | true =>
        cases hb : inB b 0 9999 with
        | false =>
          go_wp2_with (go_at_call 111; refine (in_c _ _ _ _).mono ?_; rintro e w' ⟨rfl, rfl⟩)
          go_ret
          exact ⟨ret_bool (by rw [verB_all HA.out, ha, hb]; rfl), hbx _⟩
        | true =>
          cases hc : inB c 0 9999 with
          | false =>
            go_wp2_with (go_at_call 111; refine (in_c _ _ _ _).mono ?_; rintro e w' ⟨rfl, rfl⟩)
            go_ret
            exact ⟨ret_bool (by rw [verB_all HA.out, ha, hb, hc]; rfl), hbx _⟩
          | true =>
            go_wp2_with (go_at_call 111; refine (in_c _ _ _ _).mono ?_; rintro e w' ⟨rfl, rfl⟩)
            go_ret
            exact ⟨ret_bool (by rw [verB_all HA.out, ha, hb, hc, Bool.eq_iff_iff]; simp; try omega), hbx _⟩

theorem verB_num {a b c : Int} {ps : List ByteArray} (h : inB a 0 9999 = false ∨ inB b 0 9999 = false ∨ inB c 0 9999 = false ∨ 3 < ps.length) : verB a b c ps = false := by
  rw [verB]
  rcases h with h | h | h | h
  · rw [h]; simp
  · rw [h]; simp
  · rw [h]; simp
  · have : decide (ps.length ≤ 3) = false := by simp; omega
    rw [this, Bool.and_false]

set_option maxHeartbeats 2000000 in
set_option maxRecDepth 100000 in
theorem implVerOk_c (a b c : Int) (u : Value) (ps : List ByteArray) (w : World) (hu : Reads w u (strsV ps)) (hb : bulkS ps ≤ 1048576) :
    Calls Tryz.prog 161 #[.agg #[.int .i64 a, .int .i64 b, .int .i64 c, u]] w fun e w' => e = .returned (.bool (verB a b c ps)) ∧ Below w.heap.size w w' := by
  have hsz : ∀ s ∈ ps, s.size ≤ maxLen := fun s hs => by have := size_of_bulk hs; unfold maxLen; omega
  have hn : ps.length ≤ 1048576 := by unfold bulkS at hb; omega
  have hbx : ∀ o, Below w.heap.size w (w.alloc o) := fun o => (Below.refl _ _).alloc (Nat.le_refl _) _
  obtain ⟨q, cap, rfl, _, hc⟩ := reads_strs hu
  clear hu hb
  cases ha : inB a 0 9999 with
  | false =>
    clear hc
    go_enter Tryz.func161, Tryz.ntmps161
    go_wp2_with (go_at_call 231; refine (verNum_c _ _).mono ?_; rintro e w' ⟨rfl, rfl⟩)
    go_ret
    exact ⟨ret_bool (verB_num (.inl ha)).symm, hbx _⟩
  | true =>
  cases hb : inB b 0 9999 with
  | false =>
    clear hc
    go_enter Tryz.func161, Tryz.ntmps161
    go_wp2_with (go_at_call 231; refine (verNum_c _ _).mono ?_; rintro e w' ⟨rfl, rfl⟩)
    go_ret
    exact ⟨ret_bool (verB_num (.inr (.inl hb))).symm, hbx _⟩
  | true =>
  cases hcc : inB c 0 9999 with
  | false =>
    clear hc
    go_enter Tryz.func161, Tryz.ntmps161
    go_wp2_with (go_at_call 231; refine (verNum_c _ _).mono ?_; rintro e w' ⟨rfl, rfl⟩)
    go_ret
    exact ⟨ret_bool (verB_num (.inr (.inr (.inl hcc)))).symm, hbx _⟩
  | true =>
  by_cases h3 : 3 < ps.length
  · have h3' : (3 : Int) < (ps.length : Int) := by omega
    clear hc
    go_enter Tryz.func161, Tryz.ntmps161
    go_wp2_with (go_at_call 231; refine (verNum_c _ _).mono ?_; rintro e w' ⟨rfl, rfl⟩)
    go_ret
    exact ⟨ret_bool (verB_num (.inr (.inr (.inr h3)))).symm, hbx _⟩
  have h3' : ¬ (3 : Int) < (ps.length : Int) := by omega
  have HV : Hid (partsUpto ps ps.length = true → verB a b c ps = true) := fun h => by rw [verB_all h, ha, hb, hcc]; simp; omega
  go_enter Tryz.func161, Tryz.ntmps161
  go_wp2_with (go_at_call 231; refine (verNum_c _ _).mono ?_; rintro e w' ⟨rfl, rfl⟩)
  go_loopw [4, 30] (fun _ vi wr => ∃ k : Nat, k ≤ ps.length ∧ vi = .int .i64 (k : Int) ∧ Hid (partsUpto ps k = true) ∧ Below w.heap.size w wr) (fun _ vi _ => ps.length - (intOf vi).toNat)
  case atStart => exact ⟨0, Nat.zero_le _, rfl, rfl, hbx _⟩
  case round =>
    obtain ⟨k, hk, rfl, hh, hbr⟩ := hrel
    by_cases hlt : k < ps.length
    · rcases hc with rfl | ⟨bl, off, rfl, hlb, hc⟩
      · simp at hlt
      have hcx : wr.cell? ⟨bl, off + k, none⟩ = some (.string ps[k]) := (hbr.cell (p := ⟨bl, off + k, none⟩) hlb).trans (hc k hlt)
      have hsk := hsz ps[k] (List.getElem_mem hlt)
      obtain ⟨t, ht⟩ : ∃ t, t = ps[k] := ⟨_, rfl⟩
      rw [← ht] at hcx hsk
      have HT : Hid (t = ps[k]) := ht
      have hki : (k : Int) < (ps.length : Int) := by omega
      clear hc hsz ht
      go_wp2_with (go_at_call 232; refine (implPart_c t hsk _).mono ?_; rintro e w1 ⟨rfl, b1⟩)
      · have h1 : (!partB t) = true := by assumption
        go_ret
        exact ⟨ret_bool (verB_parts (parts_end hlt (by rw [← HT.out]; simpa using h1))).symm, hbr.trans (b1.mono hbr.size)⟩
      · have h1 : (!partB t) = false := by assumption
        go_roundw
        case rel => exact ⟨k + 1, by omega, by go_num, parts_step hlt hh (by rw [← HT.out]; simpa using h1), hbr.trans (b1.mono hbr.size)⟩
        case measure => simp [intOf]; omega
    · have he : k = ps.length := by omega
      subst he
      clear hc hsz
      go_wp2
      go_ret
      exact ⟨ret_bool (HV.out hh.out).symm, hbr⟩
end Go.Proofs.YtlfmefojcmpfeaaGreatDoor

/-! Whether picks are right, as the program asks it: contracts for the walks; conditions: they lie in memory and hold at most 2 to the 20. -/
namespace Go.Proofs.YtlfmefojcmpfeaaGreatDoor
open Go.RowKit
set_option linter.unusedSimpArgs false
set_option linter.unusedVariables false

theorem not_any_notP {α : Type} (p : α → Bool) (xs : List α) : (!(xs.any fun x => !p x)) = xs.all p := by
  induction xs with
  | nil => rfl
  | cons x xs ih => simp only [List.any_cons, List.all_cons, Bool.not_or, Bool.not_not, ih]
theorem not_moreP (a b : Nat) : (!decide (a < b)) = decide (b ≤ a) := by
  by_cases h : a < b
  · rw [decide_eq_true h, decide_eq_false (by omega)]; rfl
  · rw [decide_eq_false h, decide_eq_true (by omega)]; rfl
theorem below_nextP {w w1 w2 : World} (h : Below w.heap.size w w1) (h2 : Below w1.heap.size w1 w2) : Below w.heap.size w w2 := h.trans (h2.mono h.size)
def pickB (d : PickD) : Bool := nameB d.name && verB d.vA d.vB d.vC d.vP
def picksB (l : List PickD) : Bool := rowB pickB PickD.name l && decide (l.length ≤ 12)
def picksI (l : List PickD) : Bool := !(decide (12 < l.length) || l.any fun d => !pickB d) && ascB (l.map PickD.name)
theorem picks_alike (l : List PickD) : picksI l = picksB l := by
  unfold picksI picksB
  rw [rowB_split, Bool.not_or, not_any_notP, not_moreP]
  cases decide (l.length ≤ 12) <;> cases l.all pickB <;> cases ascB (l.map PickD.name) <;> rfl

set_option maxHeartbeats 8000000 in
set_option maxRecDepth 100000 in
theorem wrongPick_c (S : Nat → Prop) (d : PickD) (cs : List Value) (w : World) (hd : shPick.lies S w cs d) (hB : ∀ b, S b → b < w.heap.size) (hw : bulkS d.vP ≤ 1048576) :
    Calls Tryz.prog 188 #[.agg cs.toArray] w fun e w' => e = .returned (.bool (!pickB d)) ∧ Below w.heap.size w w' := by
  obtain ⟨u0, rfl, s_n, r0, p0⟩ := hd
  have hbx : ∀ o, Below w.heap.size w (w.alloc o) := fun o => (Below.refl _ _).alloc (Nat.le_refl _) _
  have hBn : ∀ w1, Below w.heap.size w w1 → ∀ b, S b → b < w1.heap.size := fun w1 h b hb => Nat.lt_of_lt_of_le (hB b hb) h.size
  have hbk : bulkS d.vP ≤ 1048576 := hw
  have HN := fun w1 => implName_c d.name s_n w1
  have H1 : ∀ w1, Below w.heap.size w w1 → Calls Tryz.prog 161 #[.agg #[.int .i64 d.vA, .int .i64 d.vB, .int .i64 d.vC, u0]] w1 fun e w' => e = .returned (.bool (verB d.vA d.vB d.vC d.vP)) ∧ Below w1.heap.size w1 w' := fun w1 h => implVerOk_c _ _ _ u0 d.vP w1 ((r0.keep (.of h hB)).reads (hBn w1 h)) hbk
  unfold pickB
  obtain ⟨p, hp⟩ : ∃ p, p = nameB d.name := ⟨_, rfl⟩
  obtain ⟨q, hq⟩ : ∃ p, p = verB d.vA d.vB d.vC d.vP := ⟨_, rfl⟩
  simp only [← hp] at HN ⊢
  simp only [← hq] at H1 ⊢
  replace HN := hidden HN
  replace H1 := hidden H1
  obtain ⟨a0, cap0, eu0, _⟩ := id r0
  rw [length_strsV] at eu0
  subst eu0
  clear r0 hp hq hbk hBn
  cases p with
  | false =>
    go_enter Tryz.func188, Tryz.ntmps188
    go_wp2_with fail
    go_at_call 171
    refine (HN.out _).mono ?_
    rintro e w' ⟨rfl, rfl⟩
    go_wp2_with fail
    go_ret
    exact ⟨rfl, hbx _⟩
  | true =>
    go_enter Tryz.func188, Tryz.ntmps188
    go_wp2_with fail
    go_at_call 171
    refine (HN.out _).mono ?_
    rintro e w' ⟨rfl, rfl⟩
    go_wp2_with fail
    go_at_call 161
    refine (H1.out _ (hbx _)).mono ?_
    rintro e w1 ⟨rfl, b1⟩
    have k1 : Below w.heap.size w w1 := (hbx _).trans (b1.mono (hbx _).size)
    go_wp2_with fail
    go_ret
    exact ⟨by cases q <;> rfl, k1⟩

set_option maxHeartbeats 8000000 in
set_option maxRecDepth 100000 in
theorem idxPickW_c (S : Nat → Prop) (v : Value) (xs : List PickD) (w : World) (hv : RowIn shPick S w v xs) (hB : ∀ b, S b → b < w.heap.size) (hw : ∀ d ∈ xs, bulkS d.vP ≤ 1048576) :
    Calls Tryz.prog 255 #[v, .func (.func 188) #[] #[]] w fun e w' => e = .returned (.int .i64 (firstI (fun d => !pickB d) xs)) ∧ Below w.heap.size w w' := by
  obtain ⟨a, cap, rfl, hl, hc, ha⟩ := hv
  unfold maxLen at hl
  obtain ⟨R, hR⟩ : ∃ R, R = firstI (fun d => !pickB d) xs := ⟨_, rfl⟩
  rw [← hR]
  have HR := hidden hR
  clear hR
  go_enter Tryz.func255, Tryz.ntmps255
  go_wp2_with fail
  go_loopw [8] (fun vi wr => ∃ k : Nat, k ≤ xs.length ∧ vi = .int .i64 (k : Int) ∧ Hid (∀ j (hj : j < xs.length), j < k → (fun d => !pickB d) xs[j] = false) ∧ Below w.heap.size w wr) (fun vi _ => xs.length - (intOf vi).toNat)
  case atStart => exact ⟨0, Nat.zero_le _, rfl, (fun j hj h => by omega), Below.refl _ _⟩
  case round =>
    obtain ⟨k, hk, rfl, hno, hbr⟩ := hrel
    by_cases hlt' : k < xs.length
    · rcases ha with rfl | ⟨b, off, rfl, hlt, ha⟩
      · simp at hlt'
      obtain ⟨cs, hL, hcell⟩ := ha k hlt'
      have hL2 := shPick.keep (.of hbr hB) hL
      have hcell2 := hcell.keep (.of hbr hB) hlt
      have hBr : ∀ b, S b → b < wr.heap.size := fun b h => Nat.lt_of_lt_of_le (hB b h) hbr.size
      have HT : Hid ((fun d => !pickB d) xs[k] = true → R = (k : Int)) := fun h => HR.out.trans (firstI_here hlt' h hno.out)
      have HN : Hid ((fun d => !pickB d) xs[k] = false → ∀ j (hj : j < xs.length), j < k + 1 → (fun d => !pickB d) xs[j] = false) := fun h j hj hjk => by
        by_cases e : j = k
        · subst e; exact h
        · exact hno.out j hj (by omega)
      have HC : Calls Tryz.prog 188 #[.agg cs.toArray] wr fun e w' => e = .returned (.bool ((fun d => !pickB d) xs[k])) ∧ Below wr.heap.size wr w' := wrongPick_c S xs[k] cs wr hL2 hBr (hw _ (List.getElem_mem hlt'))
      obtain ⟨d, hd⟩ : ∃ d, d = xs[k] := ⟨_, rfl⟩
      rw [← hd] at hL2 HT HN HC
      obtain ⟨r, hr⟩ : ∃ r, r = (fun d => !pickB d) d := ⟨_, rfl⟩
      rw [← hr] at HT HN HC
      clear ha hL hcell hd hr hno
      obtain ⟨u0, rfl, s_name, r0, p0⟩ := hL2
      obtain ⟨a0, cap0, eu0, _⟩ := id r0
      rw [length_strsV] at eu0
      subst eu0
      have e0 : wr.cell? ⟨b, off + k * 5, none⟩ = some (.string d.name) := hcell2 0 (by simp)
      have e1 : wr.cell? ⟨b, off + k * 5 + 1, none⟩ = some (.int .i64 d.vA) := hcell2 1 (by simp)
      have e2 : wr.cell? ⟨b, off + k * 5 + 2, none⟩ = some (.int .i64 d.vB) := hcell2 2 (by simp)
      have e3 : wr.cell? ⟨b, off + k * 5 + 3, none⟩ = some (.int .i64 d.vC) := hcell2 3 (by simp)
      have e4 : wr.cell? ⟨b, off + k * 5 + 4, none⟩ = some (.slice a0 d.vP.length cap0) := hcell2 4 (by simp)
      have HC2 := hidden HC
      have hki : (k : Int) < (xs.length : Int) := by omega
      clear hcell2 HC r0
      cases r with
      | true =>
        have HT2 := hidden (HT.out rfl)
        clear HT HN
        go_wp2_with (go_at_call 188; refine HC2.out.mono ?_; rintro e w1 ⟨rfl, b1⟩)
        go_ret
        exact ⟨by rw [HT2.out]; rfl, hbr.trans (b1.mono hbr.size)⟩
      | false =>
        have HN2 := hidden (HN.out rfl)
        clear HT HN
        go_wp2_with (go_at_call 188; refine HC2.out.mono ?_; rintro e w1 ⟨rfl, b1⟩)
        go_roundw
        case rel => exact ⟨k + 1, by omega, by go_num, HN2.out, hbr.trans (b1.mono hbr.size)⟩
        case measure => simp [intOf]; omega
    · have he : k = xs.length := by omega
      subst he
      have HE : Hid (R = -1) := HR.out.trans (firstI_none (fun j hj => hno.out j hj hj))
      clear ha hno HR
      go_wp2_with fail
      go_ret
      exact ⟨by rw [HE.out]; rfl, hbr⟩
set_option maxHeartbeats 1000000 in
theorem anyPickW_c (S : Nat → Prop) (v : Value) (xs : List PickD) (w : World) (hv : RowIn shPick S w v xs) (hB : ∀ b, S b → b < w.heap.size) (hw : ∀ d ∈ xs, bulkS d.vP ≤ 1048576) :
    Calls Tryz.prog 187 #[v, .func (.func 188) #[] #[]] w fun e w' => e = .returned (.bool (xs.any (fun d => !pickB d))) ∧ Below w.heap.size w w' := by
  have HF := idxPickW_c S v xs w hv hB hw
  have hA := firstI_any (fun d => !pickB d) xs
  obtain ⟨R, hR⟩ : ∃ R, R = firstI (fun d => !pickB d) xs := ⟨_, rfl⟩
  rw [← hR] at HF hA
  rw [← hA]
  have HF2 := hidden HF
  obtain ⟨a, cap, rfl⟩ := hv.slice
  clear hv hR hA HF
  by_cases h0 : 0 ≤ R
  · rw [decide_eq_true h0]
    go_enter Tryz.func187, Tryz.ntmps187
    go_wp2_with (go_at_call 255; refine HF2.out.mono ?_; rintro e w1 ⟨rfl, b1⟩)
    go_ret
    exact ⟨by first | rfl | simp [h0] | (simp; omega), b1⟩
  · rw [decide_eq_false h0]
    go_enter Tryz.func187, Tryz.ntmps187
    go_wp2_with (go_at_call 255; refine HF2.out.mono ?_; rintro e w1 ⟨rfl, b1⟩)
    go_ret
    exact ⟨by first | rfl | simp [h0] | (simp; omega), b1⟩

set_option maxHeartbeats 8000000 in
set_option maxRecDepth 100000 in
theorem txtPick_c (S : Nat → Prop) (d : PickD) (cs : List Value) (w : World) (hd : shPick.lies S w cs d) :
    Calls Tryz.prog 190 #[.agg cs.toArray] w fun e w' => e = .returned (.string d.name) ∧ Below w.heap.size w w' := by
  obtain ⟨u0, rfl, s_n, r0, p0⟩ := hd
  obtain ⟨a0, c0, e0, _⟩ := id r0
  rw [length_strsV] at e0
  subst e0
  have kb : ∀ o, Below w.heap.size w (w.alloc o) := fun o => (Below.refl w.heap.size w).alloc (Nat.le_refl _) o
  clear r0
  go_enter Tryz.func190, Tryz.ntmps190
  go_wp2_with fail
  go_ret
  exact ⟨rfl, kb _⟩

set_option maxHeartbeats 8000000 in
set_option maxRecDepth 100000 in
theorem ascPick_c (S : Nat → Prop) (v : Value) (xs : List PickD) (w : World) (hv : RowIn shPick S w v xs) (hB : ∀ b, S b → b < w.heap.size) :
    Calls Tryz.prog 189 #[v, .func (.func 190) #[] #[]] w fun e w' => e = .returned (.bool (ascB (xs.map PickD.name))) ∧ Below w.heap.size w w' := by
  obtain ⟨a, cap, rfl, hl, hc, ha⟩ := hv
  unfold maxLen at hl
  obtain ⟨R, hR⟩ : ∃ R, R = ascB (xs.map PickD.name) := ⟨_, rfl⟩
  rw [← hR]
  have HR := hidden hR
  clear hR
  go_enter Tryz.func189, Tryz.ntmps189
  go_wp2_with fail
  go_loopw [5] (fun vi wr => ∃ k : Nat, 1 ≤ k ∧ (k ≤ xs.length ∨ k = 1) ∧ vi = .int .i64 (k : Int) ∧ Hid (rowUpto (fun _ => true) id (xs.map PickD.name) k = true) ∧ Below w.heap.size w wr) (fun vi _ => xs.length - (intOf vi).toNat)
  case atStart => exact ⟨1, Nat.le_refl _, .inr rfl, rfl, asc_one _, Below.refl _ _⟩
  case round =>
    obtain ⟨k, hk1, hk, rfl, hh, hbr⟩ := hrel
    by_cases hlt' : k < xs.length
    · rcases ha with rfl | ⟨b, off, rfl, hlt, ha⟩
      · simp at hlt'
      obtain ⟨j, rfl⟩ : ∃ j, k = j + 1 := ⟨k - 1, by omega⟩
      have hj' : j < xs.length := by omega
      obtain ⟨ycs, yL, hcelly⟩ := ha j hj'
      obtain ⟨xcs, xL, hcellx⟩ := ha (j + 1) hlt'
      have hbb : b < wr.heap.size := Nat.lt_of_lt_of_le (hB b hlt) hbr.size
      replace hcelly := hcelly.keep (.of hbr hB) hlt
      replace hcellx := hcellx.keep (.of hbr hB) hlt
      have HC1 : Hid (∀ w1, Below wr.heap.size wr w1 → Calls Tryz.prog 190 #[.agg ycs.toArray] w1 fun e w' => e = .returned (.string xs[j].name) ∧ Below w1.heap.size w1 w') := fun w1 h => txtPick_c S xs[j] ycs w1 (shPick.keep (.of (hbr.trans (h.mono hbr.size)) hB) yL)
      have HC2 : Hid (∀ w1, Below wr.heap.size wr w1 → Calls Tryz.prog 190 #[.agg xcs.toArray] w1 fun e w' => e = .returned (.string xs[j + 1].name) ∧ Below w1.heap.size w1 w') := fun w1 h => txtPick_c S xs[j + 1] xcs w1 (shPick.keep (.of (hbr.trans (h.mono hbr.size)) hB) xL)
      have hpre : preX (xs.map PickD.name) (j + 1) = some xs[j].name := by simp [preX, hj']
      have hat : (xs.map PickD.name)[j + 1]'(by simpa using hlt') = xs[j + 1].name := by simp
      have HBD : Hid (Op.bytesLess xs[j].name.toList xs[j + 1].name.toList = false → R = false) := fun h => HR.out.trans (rowUpto_bad (by simpa using hlt') (by rw [hpre, hat]; exact rowOk_less h) _ (by simpa using hlt'))
      have HGD : Hid (Op.bytesLess xs[j].name.toList xs[j + 1].name.toList = true → rowUpto (fun _ => true) id (xs.map PickD.name) (j + 1 + 1) = true) := fun h => rowUpto_step (by simpa using hlt') hh.out (by rw [hpre, hat, rowOk_some rfl]; exact h)
      obtain ⟨c, hc0⟩ : ∃ c, c = xs[j] := ⟨_, rfl⟩
      obtain ⟨d, hd0'⟩ : ∃ d, d = xs[j + 1] := ⟨_, rfl⟩
      rw [← hc0] at yL HC1 HBD HGD
      rw [← hd0'] at xL HC2 HBD HGD
      clear ha hpre hat hc0 hd0' hh
      obtain ⟨yu0, rfl, ys_n, yr0, yp0⟩ := yL
      obtain ⟨ya0, yc0, ye0, _⟩ := id yr0
      rw [length_strsV] at ye0
      subst ye0
      obtain ⟨xu0, rfl, xs_n, xr0, xp0⟩ := xL
      obtain ⟨xa0, xc0, xe0, _⟩ := id xr0
      rw [length_strsV] at xe0
      subst xe0
      have yv0 : wr.cell? ⟨b, off + j * 5, none⟩ = some (.string c.name) := hcelly 0 (by simp)
      have yv1 : wr.cell? ⟨b, off + j * 5 + 1, none⟩ = some (.int .i64 c.vA) := hcelly 1 (by simp)
      have yv2 : wr.cell? ⟨b, off + j * 5 + 2, none⟩ = some (.int .i64 c.vB) := hcelly 2 (by simp)
      have yv3 : wr.cell? ⟨b, off + j * 5 + 3, none⟩ = some (.int .i64 c.vC) := hcelly 3 (by simp)
      have yv4 : wr.cell? ⟨b, off + j * 5 + 4, none⟩ = some (.slice ya0 c.vP.length yc0) := hcelly 4 (by simp)
      have xv0 : wr.cell? ⟨b, off + (j + 1) * 5, none⟩ = some (.string d.name) := hcellx 0 (by simp)
      have xv1 : wr.cell? ⟨b, off + (j + 1) * 5 + 1, none⟩ = some (.int .i64 d.vA) := hcellx 1 (by simp)
      have xv2 : wr.cell? ⟨b, off + (j + 1) * 5 + 2, none⟩ = some (.int .i64 d.vB) := hcellx 2 (by simp)
      have xv3 : wr.cell? ⟨b, off + (j + 1) * 5 + 3, none⟩ = some (.int .i64 d.vC) := hcellx 3 (by simp)
      have xv4 : wr.cell? ⟨b, off + (j + 1) * 5 + 4, none⟩ = some (.slice xa0 d.vP.length xc0) := hcellx 4 (by simp)
      have hj0 : (0 : Int) ≤ (j : Int) + 1 := by omega
      have hj2 : (j : Int) + 1 < (xs.length : Int) := by omega
      have hj3 : (j : Int) < (xs.length : Int) := by omega
      have hjw : IntKind.i64.wrap (j : Int) = (j : Int) := IntWalk.i64_in _ ⟨by omega, by omega⟩
      have hd0 : Below wr.heap.size wr wr.drew := (Below.refl _ _).drew
      have KEEP : Hid (∀ w1, Below wr.heap.size wr w1 → w1.cell? ⟨b, off + j * 5, none⟩ = some (.string c.name) ∧ w1.cell? ⟨b, off + j * 5 + 1, none⟩ = some (.int .i64 c.vA) ∧ w1.cell? ⟨b, off + j * 5 + 2, none⟩ = some (.int .i64 c.vB) ∧ w1.cell? ⟨b, off + j * 5 + 3, none⟩ = some (.int .i64 c.vC) ∧ w1.cell? ⟨b, off + j * 5 + 4, none⟩ = some (.slice ya0 c.vP.length yc0) ∧ w1.cell? ⟨b, off + (j + 1) * 5, none⟩ = some (.string d.name) ∧ w1.cell? ⟨b, off + (j + 1) * 5 + 1, none⟩ = some (.int .i64 d.vA) ∧ w1.cell? ⟨b, off + (j + 1) * 5 + 2, none⟩ = some (.int .i64 d.vB) ∧ w1.cell? ⟨b, off + (j + 1) * 5 + 3, none⟩ = some (.int .i64 d.vC) ∧ w1.cell? ⟨b, off + (j + 1) * 5 + 4, none⟩ = some (.slice xa0 d.vP.length xc0)) := fun w1 h => ⟨(h.cell (by simpa using hbb)).trans yv0, (h.cell (by simpa using hbb)).trans yv1, (h.cell (by simpa using hbb)).trans yv2, (h.cell (by simpa using hbb)).trans yv3, (h.cell (by simpa using hbb)).trans yv4, (h.cell (by simpa using hbb)).trans xv0, (h.cell (by simpa using hbb)).trans xv1, (h.cell (by simpa using hbb)).trans xv2, (h.cell (by simpa using hbb)).trans xv3, (h.cell (by simpa using hbb)).trans xv4⟩
      clear hcelly hcellx yv0 yv1 yv2 yv3 yv4 xv0 xv1 xv2 xv3 xv4 yr0 xr0
      go_wp2_with fail
      refine wp_region_held_drew (S := (fun w' => w'.cell? ⟨b, off + j * 5, none⟩ = some (.string c.name) ∧ w'.cell? ⟨b, off + j * 5 + 1, none⟩ = some (.int .i64 c.vA) ∧ w'.cell? ⟨b, off + j * 5 + 2, none⟩ = some (.int .i64 c.vB) ∧ w'.cell? ⟨b, off + j * 5 + 3, none⟩ = some (.int .i64 c.vC) ∧ w'.cell? ⟨b, off + j * 5 + 4, none⟩ = some (.slice ya0 c.vP.length yc0) ∧ w'.cell? ⟨b, off + (j + 1) * 5, none⟩ = some (.string d.name) ∧ w'.cell? ⟨b, off + (j + 1) * 5 + 1, none⟩ = some (.int .i64 d.vA) ∧ w'.cell? ⟨b, off + (j + 1) * 5 + 2, none⟩ = some (.int .i64 d.vB) ∧ w'.cell? ⟨b, off + (j + 1) * 5 + 3, none⟩ = some (.int .i64 d.vC) ∧ w'.cell? ⟨b, off + (j + 1) * 5 + 4, none⟩ = some (.slice xa0 d.vP.length xc0))) (by kernel_rfl) ?SR10 (fun hHeld => ?_)
      case SR10 => (first | (with_reducible exact KEEP.out _ hd2) | (with_reducible exact KEEP.out _ hd1) | (with_reducible exact KEEP.out _ hd0))
      refine wpAnyH_take (i := 0) (oi := _) (v := ?vR10) rfl (by kernel_rfl) (by kernel_rfl) (by kernel_rfl) (fun _ _ _ h => h) (Or.inl ⟨by rfl, ?yR10⟩) hHeld ?_
      case yR10 => (intro w hSw; (try dsimp only at hSw); go_simp <;> with_reducible rfl)
      try simp only [Act.put, List.getElem_toArray, List.getElem_cons_zero, List.getElem_cons_succ, List.setIfInBounds_toArray, List.set_cons_zero, List.set_cons_succ]
      refine wpAnyH_take (i := 1) (oi := _) (v := ?vR11) rfl (by kernel_rfl) (by kernel_rfl) (by kernel_rfl) (fun _ _ _ h => h) (Or.inl ⟨by rfl, ?yR11⟩) hHeld ?_
      case yR11 => (intro w hSw; (try dsimp only at hSw); go_simp <;> with_reducible rfl)
      try simp only [Act.put, List.getElem_toArray, List.getElem_cons_zero, List.getElem_cons_succ, List.setIfInBounds_toArray, List.set_cons_zero, List.set_cons_succ]
      refine wpAnyH_take (i := 2) (oi := _) (v := ?vR12) rfl (by kernel_rfl) (by kernel_rfl) (by kernel_rfl) (fun _ _ _ h => h) (Or.inl ⟨by rfl, ?yR12⟩) hHeld ?_
      case yR12 => (intro w hSw; (try dsimp only at hSw); go_simp <;> with_reducible rfl)
      try simp only [Act.put, List.getElem_toArray, List.getElem_cons_zero, List.getElem_cons_succ, List.setIfInBounds_toArray, List.set_cons_zero, List.set_cons_succ]
      refine wpAnyH_take (i := 3) (oi := _) (v := ?vR13) rfl (by kernel_rfl) (by kernel_rfl) (by kernel_rfl) (fun _ _ _ h => h) (Or.inl ⟨by rfl, ?yR13⟩) hHeld ?_
      case yR13 => (intro w hSw; (try dsimp only at hSw); go_simp <;> with_reducible rfl)
      try simp only [Act.put, List.getElem_toArray, List.getElem_cons_zero, List.getElem_cons_succ, List.setIfInBounds_toArray, List.set_cons_zero, List.set_cons_succ]
      refine wpAnyH_take (i := 4) (oi := _) (v := ?vR14) rfl (by kernel_rfl) (by kernel_rfl) (by kernel_rfl) (fun _ _ _ h => h) (Or.inl ⟨by rfl, ?yR14⟩) hHeld ?_
      case yR14 => (intro w hSw; (try dsimp only at hSw); go_simp <;> with_reducible rfl)
      try simp only [Act.put, List.getElem_toArray, List.getElem_cons_zero, List.getElem_cons_succ, List.setIfInBounds_toArray, List.set_cons_zero, List.set_cons_succ]
      refine wpAnyH_take (i := 5) (oi := _) (v := ?vR15) rfl (by kernel_rfl) (by kernel_rfl) (by kernel_rfl) (fun _ _ _ h => h) (Or.inl ⟨by rfl, ?yR15⟩) hHeld ?_
      case yR15 => (intro w hSw; (try dsimp only at hSw); go_simp <;> with_reducible rfl)
      try simp only [Act.put, List.getElem_toArray, List.getElem_cons_zero, List.getElem_cons_succ, List.setIfInBounds_toArray, List.set_cons_zero, List.set_cons_succ]
      refine wpAnyH_take (i := 7) (oi := _) (v := ?vR16) rfl (by kernel_rfl) (by kernel_rfl) (by kernel_rfl) (fun _ _ _ h => h) (Or.inl ⟨by rfl, ?yR16⟩) hHeld ?_
      case yR16 => (intro w hSw; (try dsimp only at hSw); go_simp <;> with_reducible rfl)
      try simp only [Act.put, List.getElem_toArray, List.getElem_cons_zero, List.getElem_cons_succ, List.setIfInBounds_toArray, List.set_cons_zero, List.set_cons_succ]
      refine wpAnyH_take (i := 8) (oi := _) (v := ?vR17) rfl (by kernel_rfl) (by kernel_rfl) (by kernel_rfl) (fun _ _ _ h => h) (Or.inl ⟨by rfl, ?yR17⟩) hHeld ?_
      case yR17 => (intro w hSw; (try dsimp only at hSw); go_simp <;> with_reducible rfl)
      try simp only [Act.put, List.getElem_toArray, List.getElem_cons_zero, List.getElem_cons_succ, List.setIfInBounds_toArray, List.set_cons_zero, List.set_cons_succ]
      refine wpAnyH_take (i := 9) (oi := _) (v := ?vR18) rfl (by kernel_rfl) (by kernel_rfl) (by kernel_rfl) (fun _ _ _ h => h) (Or.inl ⟨by rfl, ?yR18⟩) hHeld ?_
      case yR18 => (intro w hSw; (try dsimp only at hSw); go_simp <;> with_reducible rfl)
      try simp only [Act.put, List.getElem_toArray, List.getElem_cons_zero, List.getElem_cons_succ, List.setIfInBounds_toArray, List.set_cons_zero, List.set_cons_succ]
      refine wpAnyH_take (i := 10) (oi := _) (v := ?vR19) rfl (by kernel_rfl) (by kernel_rfl) (by kernel_rfl) (fun _ _ _ h => h) (Or.inl ⟨by rfl, ?yR19⟩) hHeld ?_
      case yR19 => (intro w hSw; (try dsimp only at hSw); go_simp <;> with_reducible rfl)
      try simp only [Act.put, List.getElem_toArray, List.getElem_cons_zero, List.getElem_cons_succ, List.setIfInBounds_toArray, List.set_cons_zero, List.set_cons_succ]
      refine wpAnyH_take (i := 11) (oi := _) (v := ?vR110) rfl (by kernel_rfl) (by kernel_rfl) (by kernel_rfl) (fun _ _ _ h => h) (Or.inl ⟨by rfl, ?yR110⟩) hHeld ?_
      case yR110 => (intro w hSw; (try dsimp only at hSw); go_simp <;> with_reducible rfl)
      try simp only [Act.put, List.getElem_toArray, List.getElem_cons_zero, List.getElem_cons_succ, List.setIfInBounds_toArray, List.set_cons_zero, List.set_cons_succ]
      refine wpAnyH_ready (rs := [6]) (by kernel_rfl) (by simp) ?_
      refine AllReadyH.cons rfl (fun K hK => ?_) AllReadyH.nil
      go_simp
      go_wp2_with (go_at_call 190; refine (HC1.out _ (by first | exact hd0 | exact hd1)).mono ?_; rintro e w1 ⟨rfl, b1⟩; have hd1 : Below wr.heap.size wr w1 := hd0.trans (b1.mono hd0.size))
      clear hHeld
      refine hK.out _ _ ?SR112 (fun hHeld => ?_)
      case SR112 => ((try dsimp only); first | (with_reducible exact KEEP.out _ hd2) | (with_reducible exact KEEP.out _ hd1) | (with_reducible exact KEEP.out _ hd0))
      clear hK K
      refine wpAnyH_ready (rs := [12]) (by kernel_rfl) (by simp) ?_
      refine AllReadyH.cons rfl (fun K hK => ?_) AllReadyH.nil
      go_simp
      go_wp2_with (go_at_call 190; refine (HC2.out _ hd1).mono ?_; rintro e w2 ⟨rfl, b2⟩; have hd2 : Below wr.heap.size wr w2 := hd1.trans (b2.mono hd1.size))
      clear hHeld
      refine hK.out _ _ ?SR113 (fun hHeld => ?_)
      case SR113 => ((try dsimp only); first | (with_reducible exact KEEP.out _ hd2) | (with_reducible exact KEEP.out _ hd1) | (with_reducible exact KEEP.out _ hd0))
      clear hK K
      refine wpAnyH_take (i := 13) (oi := _) (v := ?vR113) rfl (by kernel_rfl) (by kernel_rfl) (by kernel_rfl) (fun _ _ _ h => h) (Or.inl ⟨by rfl, ?yR113⟩) hHeld ?_
      case yR113 => (intro w hSw; (try dsimp only at hSw); go_simp <;> with_reducible rfl)
      try simp only [Act.put, List.getElem_toArray, List.getElem_cons_zero, List.getElem_cons_succ, List.setIfInBounds_toArray, List.set_cons_zero, List.set_cons_succ]
      refine wpAnyH_done (by kernel_rfl) ?_ _
      go_wp2_with fail
      · have hlx : (!Op.bytesLess c.name.toList d.name.toList) = true := by assumption
        go_ret
        exact ⟨by rw [HBD.out (by simpa using hlx)]; rfl, hbr.trans (hd2.mono hbr.size)⟩
      · have hlx : (!Op.bytesLess c.name.toList d.name.toList) = false := by assumption
        go_roundw
        case rel => exact ⟨j + 1 + 1, by omega, .inl (by omega), by go_num, HGD.out (by simpa using hlx), hbr.trans (hd2.mono hbr.size)⟩
        case measure => simp [intOf]; omega
    · have HE : Hid (R = true) := HR.out.trans (asc_end hk1 (by simpa using hlt') (by simpa using hk) hh.out)
      clear ha hh
      go_wp2_with fail
      go_ret
      exact ⟨by rw [HE.out]; rfl, hbr⟩

set_option maxHeartbeats 8000000 in
set_option maxRecDepth 100000 in
theorem implPicksOk_c (S : Nat → Prop) (v : Value) (xs : List PickD) (w : World) (hv : RowIn shPick S w v xs) (hB : ∀ b, S b → b < w.heap.size) (hw : ∀ d ∈ xs, bulkS d.vP ≤ 1048576) :
    Calls Tryz.prog 121 #[v] w fun e w' => e = .returned (.bool (picksI xs)) ∧ Below w.heap.size w w' := by
  have HA : ∀ w1, Below w.heap.size w w1 → Calls Tryz.prog 187 #[v, .func (.func 188) #[] #[]] w1 fun e w' => e = .returned (.bool (xs.any (fun d => !pickB d))) ∧ Below w1.heap.size w1 w' := fun w1 h => anyPickW_c S v xs w1 (hv.keep (.of h hB)) (fun b hb => Nat.lt_of_lt_of_le (hB b hb) h.size) hw
  have HC : ∀ w1, Below w.heap.size w w1 → Calls Tryz.prog 189 #[v, .func (.func 190) #[] #[]] w1 fun e w' => e = .returned (.bool (ascB (xs.map PickD.name))) ∧ Below w1.heap.size w1 w' := fun w1 h => ascPick_c S v xs w1 (hv.keep (.of h hB)) (fun b hb => Nat.lt_of_lt_of_le (hB b hb) h.size)
  unfold picksI
  obtain ⟨p, hp⟩ : ∃ p, p = xs.any (fun d => !pickB d) := ⟨_, rfl⟩
  obtain ⟨q, hq⟩ : ∃ q, q = ascB (xs.map PickD.name) := ⟨_, rfl⟩
  simp only [← hp] at HA ⊢
  simp only [← hq] at HC ⊢
  replace HA := hidden HA
  replace HC := hidden HC
  have hl := hv.len
  obtain ⟨a, cap, rfl⟩ := hv.slice
  unfold maxLen at hl
  clear hv hp hq
  by_cases h4 : 12 < xs.length
  · have h4' : (12 : Int) < (xs.length : Int) := by omega
    rw [decide_eq_true h4]
    go_enter Tryz.func121, Tryz.ntmps121
    go_wp2_with fail
    go_ret
    exact ⟨rfl, Below.refl _ _⟩
  · have h4' : ¬ (12 : Int) < (xs.length : Int) := by omega
    rw [decide_eq_false h4]
    cases p with
    | true =>
      go_enter Tryz.func121, Tryz.ntmps121
      go_wp2_with fail
      go_at_call 187
      refine (HA.out _ (Below.refl _ _)).mono ?_
      rintro e w1 ⟨rfl, b1⟩
      go_wp2_with fail
      go_ret
      exact ⟨rfl, b1⟩
    | false =>
      go_enter Tryz.func121, Tryz.ntmps121
      go_wp2_with fail
      go_at_call 187
      refine (HA.out _ (Below.refl _ _)).mono ?_
      rintro e w1 ⟨rfl, b1⟩
      go_wp2_with fail
      go_at_call 189
      refine (HC.out _ b1).mono ?_
      rintro e w2 ⟨rfl, b2⟩
      go_wp2_with fail
      go_ret
      exact ⟨by cases q <;> rfl, below_nextP b1 b2⟩

end Go.Proofs.YtlfmefojcmpfeaaGreatDoor

/-! What a text is as a version: the reader that goes over its bytes, word by word, and the text's pieces around its first hyphen tell the same; no condition. -/
namespace Go.Proofs.YtlfmefojcmpfeaaGreatDoor
open Go.RowKit
set_option linter.unusedSimpArgs false
set_option linter.unusedVariables false

theorem vext {a b : ByteArray} (h : a.data.toList = b.data.toList) : a = b := ByteArray.ext (Array.toList_inj.1 h)
theorem vextract (s : ByteArray) (a b : Nat) : (s.extract a b).data.toList = (s.data.toList.drop a).take (b - a) := Lib.extract_data s a b
theorem vlen (s : ByteArray) : s.data.toList.length = s.size := by rw [Array.length_toList]; rfl
theorem vsize (s : ByteArray) (a b : Nat) (h : a ≤ b) (hb : b ≤ s.size) : (s.extract a b).size = b - a := by
  rw [← vlen, vextract, List.length_take, List.length_drop, vlen]; omega
theorem vget (s : ByteArray) (a b i : Nat) (h : a + i < b) (hb : b ≤ s.size) : (s.extract a b).data[i]! = s.data[a + i]! := by
  have h1 : i < (s.extract a b).size := by rw [vsize s a b (by omega) hb]; omega
  have e1 : (s.extract a b).data.toList[i]? = s.data.toList[a + i]? := by
    rw [vextract, List.getElem?_take_of_lt (by omega), List.getElem?_drop]
  rw [Array.getElem?_toList, Array.getElem?_toList] at e1
  rw [getElem!_def, getElem!_def, e1]
theorem vsub (s : ByteArray) (a b c d : Nat) (h : a + d ≤ b) (hb : b ≤ s.size) : (s.extract a b).extract c d = s.extract (a + c) (a + d) := by
  apply vext
  rw [vextract, vextract, vextract, List.drop_take, List.drop_drop, List.take_take]
  congr 1
  omega

/-- The pieces of the text up to place hi, between the bytes 46, from place i on, the piece at hand having begun at place b. -/
def pieces (s : ByteArray) (hi : Nat) : Nat → Nat → Nat → List ByteArray
  | 0, _, b => [s.extract b hi]
  | f + 1, i, b => if ((s.data[i]!).toNat : Int) = 46 then s.extract b i :: pieces s hi f (i + 1) (i + 1) else pieces s hi f (i + 1) b

theorem pieces_split (s : ByteArray) (lo hi : Nat) (hl : lo ≤ hi) (hh : hi ≤ s.size) : ∀ (f i b : Nat), f = (hi - lo) - i → i ≤ hi - lo → b ≤ i → splitGo (s.extract lo hi) 46 f i b = pieces s hi f (lo + i) (lo + b)
  | 0, i, b, hf, hi', hb => by
    rw [splitGo, pieces, vsize s lo hi hl hh, vsub s lo hi b (hi - lo) (by omega) hh, show lo + (hi - lo) = hi by omega]
  | f + 1, i, b, hf, hi', hb => by
    rw [splitGo, pieces, vget s lo hi i (by omega) hh]
    by_cases h : ((s.data[lo + i]!).toNat : Int) = 46
    · rw [if_pos h, if_pos h, vsub s lo hi b i (by omega) hh, pieces_split s lo hi hl hh f (i + 1) (i + 1) (by omega) (by omega) (by omega)]
      rfl
    · rw [if_neg h, if_neg h, pieces_split s lo hi hl hh f (i + 1) b (by omega) (by omega) (by omega)]
      rfl
theorem split_pieces (s : ByteArray) (lo hi : Nat) (hl : lo ≤ hi) (hh : hi ≤ s.size) : splitS (s.extract lo hi) 46 = pieces s hi (hi - lo) lo lo := by
  have h := pieces_split s lo hi hl hh (hi - lo) 0 0 (by omega) (by omega) (by omega)
  rw [splitS, vsize s lo hi hl hh, h]; rfl

theorem pieces_head (s : ByteArray) (hi : Nat) : ∀ (f i b : Nat), f = hi - i → i ≤ hi → ∃ e rest, i ≤ e ∧ e ≤ hi ∧ pieces s hi f i b = s.extract b e :: rest
  | 0, i, b, hf, hi' => ⟨hi, [], by omega, by omega, rfl⟩
  | f + 1, i, b, hf, hi' => by
    rw [pieces]
    by_cases h : ((s.data[i]!).toNat : Int) = 46
    · rw [if_pos h]; exact ⟨i, _, by omega, by omega, rfl⟩
    · rw [if_neg h]
      obtain ⟨e, rest, h1, h2, h3⟩ := pieces_head s hi f (i + 1) b (by omega) (by omega)
      exact ⟨e, rest, by omega, h2, h3⟩
theorem pieces_pos (s : ByteArray) (hi f i b : Nat) (hf : f = hi - i) (h : i ≤ hi) : 1 ≤ (pieces s hi f i b).length := by
  obtain ⟨e, rest, _, _, h3⟩ := pieces_head s hi f i b hf h
  rw [h3]; simp

theorem piece_bad (p : Nat → Int → Bool) (s : ByteArray) (b e i : Nat) (hb : b ≤ i) (he : i < e) (hs : e ≤ s.size) (h : ∀ k, p k ((s.data[i]!).toNat : Int) = false) : allUpto p (s.extract b e) (s.extract b e).size = false := by
  have hz := vsize s b e (by omega) hs
  refine allUpto_cut p _ (i - b) ?_ _ (by omega)
  rw [vget s b e (i - b) (by omega) hs, show b + (i - b) = i by omega]
  exact h _

/-- A word that ends. -/
def endNs (ns : List Int) (inP : Bool) (t : ByteArray) : List Int := if inP then ns else ns ++ [numOut t 9999]
def endPs (ps : List ByteArray) (inP : Bool) (t : ByteArray) : List ByteArray := if inP then ps ++ [t] else ps
def endOk (ns : List Int) (ps : List ByteArray) (inP : Bool) (t : ByteArray) : Bool := if inP then decide (ps.length + 1 ≤ 3) && partB t else numGood t 9999 && decide (ns.length + 1 ≤ 3)

/-- The reader, from place i on. -/
def reads (s : ByteArray) : Nat → Nat → Nat → List Int → List ByteArray → Bool → Option (List Int × List ByteArray)
  | 0, i, b, ns, ps, inP => if endOk ns ps inP (s.extract b i) && decide (3 ≤ (endNs ns inP (s.extract b i)).length) then some (endNs ns inP (s.extract b i), endPs ps inP (s.extract b i)) else none
  | f + 1, i, b, ns, ps, inP =>
    if ((s.data[i]!).toNat : Int) = 46 then (if endOk ns ps inP (s.extract b i) then reads s f (i + 1) (i + 1) (endNs ns inP (s.extract b i)) (endPs ps inP (s.extract b i)) inP else none)
    else if ((s.data[i]!).toNat : Int) = 45 ∧ inP = false then (if endOk ns ps inP (s.extract b i) then reads s f (i + 1) (i + 1) (endNs ns inP (s.extract b i)) (endPs ps inP (s.extract b i)) true else none)
    else if preB ((s.data[i]!).toNat : Int) then reads s f (i + 1) b ns ps inP else none

theorem all_partB_bad {l : List ByteArray} {t : ByteArray} (h : partB t = false) : (t :: l).all partB = false := by simp [h]

theorem reads_pre (s : ByteArray) (ns : List Int) : ∀ (f i b : Nat) (ps : List ByteArray), f = s.size - i → i ≤ s.size → b ≤ i → reads s f i b ns ps true =
    if (pieces s s.size f i b).all partB && decide (ps.length + (pieces s s.size f i b).length ≤ 3) && decide (3 ≤ ns.length) then some (ns, ps ++ pieces s s.size f i b) else none
  | 0, i, b, ps, hf, hi, hb => by
    have : i = s.size := by omega
    subst this
    rw [reads, pieces]
    simp only [endOk, endNs, endPs, if_true, List.all_cons, List.all_nil, Bool.and_true, List.length_singleton]
    cases partB (s.extract b s.size) <;> simp [Bool.and_comm]
  | f + 1, i, b, ps, hf, hi, hb => by
    rw [reads, pieces]
    by_cases h : ((s.data[i]!).toNat : Int) = 46
    · rw [if_pos h, if_pos h]
      simp only [endOk, endNs, endPs, if_true]
      rw [reads_pre s ns f (i + 1) (i + 1) (ps ++ [s.extract b i]) (by omega) (by omega) (by omega)]
      have hp := pieces_pos s s.size f (i + 1) (i + 1) (by omega) (by omega)
      cases hx : partB (s.extract b i)
      · simp [hx]
      · by_cases hl : ps.length + 1 ≤ 3
        · simp only [hl, decide_true, Bool.and_self, if_true, List.all_cons, hx, Bool.true_and, List.length_append, List.length_cons, List.length_nil, List.append_assoc, List.cons_append, List.nil_append]
          have e : ps.length + (0 + 1) + (pieces s s.size f (i + 1) (i + 1)).length = ps.length + ((pieces s s.size f (i + 1) (i + 1)).length + 1) := by omega
          rw [e]
        · have h2 : ¬ ps.length + ((pieces s s.size f (i + 1) (i + 1)).length + 1) ≤ 3 := by omega
          simp [hl, h2]
    · rw [if_neg h, if_neg h, if_neg (by simp)]
      by_cases hc : preB ((s.data[i]!).toNat : Int) = true
      · rw [if_pos hc]
        exact reads_pre s ns f (i + 1) b ps (by omega) (by omega) (by omega)
      · rw [if_neg hc]
        obtain ⟨e, rest, h1, h2, h3⟩ := pieces_head s s.size f (i + 1) b (by omega) (by omega)
        rw [h3, all_partB_bad (partB_bad (piece_bad okPre s b e i hb (by omega) h2 (fun _ => by simpa [okPre] using hc)))]
        simp

theorem good_of_piece {t : ByteArray} (h : allUpto okDigit t t.size = false) : numGood t 9999 = false := by
  unfold numGood; rw [h]; simp

theorem digit_pre {c : Int} (h : preB c = false) : digitB c = false := by
  simp only [preB, Bool.or_eq_false_iff] at h
  exact h.1.2

theorem reads_num (s : ByteArray) (k : Nat) (hk : k ≤ s.size) (hd : k < s.size → ((s.data[k]!).toNat : Int) = 45) : ∀ (f i b : Nat) (ns : List Int), f = k - i → i ≤ k → b ≤ i → (∀ j, i ≤ j → j < k → ¬ ((s.data[j]!).toNat : Int) = 45) →
    reads s (s.size - i) i b ns [] false = if (pieces s k f i b).all (fun t => numGood t 9999) && decide (ns.length + (pieces s k f i b).length ≤ 3) then
      (if k < s.size then reads s (s.size - (k + 1)) (k + 1) (k + 1) (ns ++ (pieces s k f i b).map (fun t => numOut t 9999)) [] true
       else if 3 ≤ ns.length + (pieces s k f i b).length then some (ns ++ (pieces s k f i b).map (fun t => numOut t 9999), []) else none) else none
  | 0, i, b, ns, hf, hi, hb, hn => by
    have : i = k := by omega
    subst this
    rw [pieces]
    by_cases hlt : i < s.size
    · rw [show s.size - i = (s.size - (i + 1)) + 1 by omega, reads, if_neg (by have := hd hlt; omega), if_pos ⟨hd hlt, rfl⟩, if_pos hlt]
      simp [endOk, endNs, endPs]
    · have : i = s.size := by omega
      rw [show s.size - i = 0 by omega, reads, if_neg hlt]
      simp only [endOk, endNs, endPs, Bool.false_eq_true, if_false, List.all_cons, List.all_nil, Bool.and_true, List.length_singleton, List.map_cons, List.map_nil, List.length_append]
      cases numGood (s.extract b i) 9999
      · simp
      · by_cases h1 : ns.length + 1 ≤ 3 <;> by_cases h2 : 3 ≤ ns.length + 1 <;> simp [h1, h2]
  | f + 1, i, b, ns, hf, hi, hb, hn => by
    have hne := hn i (by omega) (by omega)
    rw [show s.size - i = (s.size - (i + 1)) + 1 by omega, reads, pieces]
    by_cases h : ((s.data[i]!).toNat : Int) = 46
    · rw [if_pos h, if_pos h]
      simp only [endOk, endNs, endPs, Bool.false_eq_true, if_false]
      rw [reads_num s k hk hd f (i + 1) (i + 1) (ns ++ [numOut (s.extract b i) 9999]) (by omega) (by omega) (by omega) (fun j h1 h2 => hn j (by omega) h2)]
      have hp := pieces_pos s k f (i + 1) (i + 1) (by omega) (by omega)
      cases hx : numGood (s.extract b i) 9999
      · simp [hx]
      · by_cases hl : ns.length + 1 ≤ 3
        · simp only [hl, decide_true, Bool.and_self, if_true, List.all_cons, hx, Bool.true_and, List.length_append, List.length_cons, List.length_nil, List.append_assoc, List.cons_append, List.nil_append, List.map_cons]
          have e : ns.length + (0 + 1) + (pieces s k f (i + 1) (i + 1)).length = ns.length + ((pieces s k f (i + 1) (i + 1)).length + 1) := by omega
          rw [e]
        · have h2 : ¬ ns.length + ((pieces s k f (i + 1) (i + 1)).length + 1) ≤ 3 := by omega
          simp [hl, h2]
    · rw [if_neg h, if_neg h, if_neg (fun h => hne h.1)]
      by_cases hc : preB ((s.data[i]!).toNat : Int) = true
      · rw [if_pos hc]
        exact reads_num s k hk hd f (i + 1) b ns (by omega) (by omega) (by omega) (fun j h1 h2 => hn j (by omega) h2)
      · rw [if_neg hc]
        obtain ⟨e, rest, h1, h2, h3⟩ := pieces_head s k f (i + 1) b (by omega) (by omega)
        have hbad : numGood (s.extract b e) 9999 = false := good_of_piece (piece_bad okDigit s b e i hb (by omega) (by omega) (fun _ => digit_pre (by simpa using hc)))
        rw [h3]
        simp [hbad]

/-- What the specification takes of a text, k the place of its first hyphen, or its length. -/
def numsAt (s : ByteArray) (k : Nat) : List ByteArray := pieces s k k 0 0
def presAt (s : ByteArray) (k : Nat) : List ByteArray := if k < s.size then pieces s s.size (s.size - (k + 1)) (k + 1) (k + 1) else []
def goodAt (s : ByteArray) (k : Nat) : Bool := (numsAt s k).all (fun t => numGood t 9999) && decide ((numsAt s k).length = 3) && (presAt s k).all partB && decide ((presAt s k).length ≤ 3)

theorem reads_all (s : ByteArray) (k : Nat) (hk : k ≤ s.size) (hd : k < s.size → ((s.data[k]!).toNat : Int) = 45) (hn : ∀ j, j < k → ¬ ((s.data[j]!).toNat : Int) = 45) :
    reads s s.size 0 0 [] [] false = if goodAt s k then some ((numsAt s k).map (fun t => numOut t 9999), presAt s k) else none := by
  have h := reads_num s k hk hd k 0 0 [] (by omega) (by omega) (by omega) (fun j _ h => hn j h)
  rw [Nat.sub_zero] at h
  rw [h]
  unfold goodAt
  rw [show pieces s k k 0 0 = numsAt s k from rfl]
  by_cases hlt : k < s.size
  · rw [if_pos hlt, reads_pre s _ (s.size - (k + 1)) (k + 1) (k + 1) [] (by omega) (by omega) (by omega)]
    rw [show pieces s s.size (s.size - (k + 1)) (k + 1) (k + 1) = presAt s k by unfold presAt; rw [if_pos hlt]]
    simp only [List.nil_append, List.length_nil, Nat.zero_add, List.length_map]
    by_cases h3 : (numsAt s k).length = 3
    · simp only [h3, Nat.le_refl, decide_true, Bool.and_true]
      cases (numsAt s k).all (fun t => numGood t 9999)
      · simp
      · simp
    · by_cases h4 : (numsAt s k).length ≤ 3
      · have h5 : ¬ 3 ≤ (numsAt s k).length := by omega
        simp [h3, h5]
      · simp [h3, h4]
  · rw [if_neg hlt]
    have hp : presAt s k = [] := by unfold presAt; rw [if_neg hlt]
    rw [hp]
    simp only [List.nil_append, List.length_nil, Nat.zero_add, List.all_nil, Bool.and_true]
    by_cases h3 : (numsAt s k).length = 3
    · simp [h3]
    · by_cases h4 : (numsAt s k).length ≤ 3
      · have h5 : ¬ 3 ≤ (numsAt s k).length := by omega
        simp [h3, h5]
      · simp [h3, h4]
#print axioms reads_all
end Go.Proofs.YtlfmefojcmpfeaaGreatDoor

/-! Facts on blocks of memory that are kept, for the laws over two versions; no condition. -/
namespace Go.Proofs.YtlfmefojcmpfeaaGreatDoor
open Go.RowKit
set_option linter.unusedSimpArgs false
set_option linter.unusedVariables false

/-- The block N holds these four cells. -/
def Four (w : World) (N : Nat) (t : TypeId) (c0 c1 c2 c3 : Value) : Prop := w.heap[N]? = some (.cells #[c0, c1, c2, c3] t (0, 0))
theorem Four.lt {w : World} {N : Nat} {t : TypeId} {c0 c1 c2 c3 : Value} (h : Four w N t c0 c1 c2 c3) : N < w.heap.size := (Array.getElem?_eq_some_iff.1 h).1
theorem Four.keep {w w' : World} {N : Nat} {t : TypeId} {c0 c1 c2 c3 : Value} (h : Four w N t c0 c1 c2 c3) (b : Below w.heap.size w w') : Four w' N t c0 c1 c2 c3 := (b.block N h.lt).trans h
theorem Four.cells {w : World} {N : Nat} {t : TypeId} {c0 c1 c2 c3 : Value} (h : Four w N t c0 c1 c2 c3) : w.cell? ⟨N, 0, none⟩ = some c0 ∧ w.cell? ⟨N, 1, none⟩ = some c1 ∧ w.cell? ⟨N, 2, none⟩ = some c2 ∧ w.cell? ⟨N, 3, none⟩ = some c3 :=
  ⟨vblk_cell h 0, vblk_cell h 1, vblk_cell h 2, vblk_cell h 3⟩
theorem Four.drew {w : World} {N : Nat} {t : TypeId} {c0 c1 c2 c3 : Value} (h : Four w N t c0 c1 c2 c3) : Four w.drew N t c0 c1 c2 c3 := h
theorem four_new (w : World) (t : TypeId) (c0 c1 c2 c3 : Value) : Four (w.alloc (.cells #[c0, c1, c2, c3] t)) w.heap.size t c0 c1 c2 c3 := vheap_new _ _
theorem four_old {w : World} {N : Nat} {t : TypeId} {c0 c1 c2 c3 : Value} (h : Four w N t c0 c1 c2 c3) (o : Obj) : Four (w.alloc o) N t c0 c1 c2 c3 := (vheap_old w o h.lt).trans h
theorem four_two (w : World) (t t' : TypeId) (c0 c1 c2 c3 d0 d1 d2 d3 : Value) : Four ((w.alloc (.cells #[c0, c1, c2, c3] t)).alloc (.cells #[d0, d1, d2, d3] t')) w.heap.size t c0 c1 c2 c3 ∧ Four ((w.alloc (.cells #[c0, c1, c2, c3] t)).alloc (.cells #[d0, d1, d2, d3] t')) (w.heap.size + 1) t' d0 d1 d2 d3 := by
  refine ⟨four_old (four_new _ _ _ _ _ _) _, ?_⟩
  have h := four_new (w.alloc (.cells #[c0, c1, c2, c3] t)) t' d0 d1 d2 d3
  have s1 : ∀ o, (w.alloc o).heap.size = w.heap.size + 1 := fun o => by simp
  rw [s1] at h
  exact h
end Go.Proofs.YtlfmefojcmpfeaaGreatDoor

/-! The contract of the library for the text that a Builder holds, taken over from the library of contracts at the numbers of this program; conditions as it says. -/
namespace Go.Proofs
open Go.Shelf
def Tryz.lays169_ren : Go.Shelf.Ren := ⟨fun | 169 => 124 | n => n, fun | 70 => 153 | 9 => 9 | 0 => 0 | 72 => 155 | 37 => 22 | 127 => 232 | 3 => 3 | 5 => 5 | n => n, fun | n => n⟩
theorem Tryz.lays169 : Go.Proofs.Lays.n169 Tryz.prog Tryz.lays169_ren := {
  mixed := by kernel_rfl
  f169 := Tryz.func124.trans (congrArg some (by kernel_rfl))
  t0 := Tryz.underlying0
  a0 := Tryz.isAgg0
  z0 := Tryz.sizeOf0
  v0 := Tryz.zeroValue0
  t3 := Tryz.underlying3
  a3 := Tryz.isAgg3
  z3 := Tryz.sizeOf3
  v3 := Tryz.zeroValue3
  t9 := Tryz.underlying9
  a9 := Tryz.isAgg9
  z9 := Tryz.sizeOf9
  v9 := Tryz.zeroValue9
  t37 := Tryz.underlying22
  a37 := Tryz.isAgg22
  z37 := Tryz.sizeOf22
  v37 := Tryz.zeroValue22
  t70 := Tryz.underlying153
  a70 := Tryz.isAgg153
  z70 := Tryz.sizeOf153
  v70 := Tryz.zeroValue153
  t72 := Tryz.underlying155
  a72 := Tryz.isAgg155
  z72 := Tryz.sizeOf155
  v72 := Tryz.zeroValue155
  t127 := Tryz.underlying232
  a127 := Tryz.isAgg232
  z127 := Tryz.sizeOf232
  v127 := Tryz.zeroValue232 }
theorem Tryz.Builder_Extra_169 : Builder.Extra Tryz.prog Tryz.lays169_ren := {
  sizeBuilder := by kernel_rfl
  liesBuilder := by kernel_rfl
  t5 := Tryz.underlying5
  a5 := Tryz.isAgg5
  z5 := Tryz.sizeOf5
  v5 := Tryz.zeroValue5
  infoByte := by kernel_rfl
  cellsByte := by kernel_rfl
  sizeByte := by kernel_rfl
  neB5 := by decide }
open Go.RowKit in
theorem Tryz.Builder_String (B b : Nat) (l : List UInt8) (w : World) (h : Lib.IsBuilder 155 5 B b (Lib.byteCells l) w) (h0 : l ≠ []) :
    Calls Tryz.prog 124 #[.pointer (some ⟨b, 0, none⟩)] w fun e w' => e = .returned (.string ⟨l.toArray⟩) ∧ Below B w w' := Any.Builder_String Tryz.lays169 Tryz.Builder_Extra_169 B b l w h h0
open Go.RowKit in
theorem Tryz.Builder_String_empty (B b : Nat) (w : World) (h : Lib.IsBuilder 155 5 B b [] w) (hBw : B ≤ w.heap.size) :
    Calls Tryz.prog 124 #[.pointer (some ⟨b, 0, none⟩)] w fun e w' => e = .returned (.string ⟨#[]⟩) ∧ Below B w w' := Any.Builder_String_empty Tryz.lays169 Tryz.Builder_Extra_169 B b w h hBw
open Go.RowKit in
theorem Tryz.Builder_String_any (B b : Nat) (l : List UInt8) (w : World) (h : Lib.IsBuilder 155 5 B b (Lib.byteCells l) w) (hBw : B ≤ w.heap.size) :
    Calls Tryz.prog 124 #[.pointer (some ⟨b, 0, none⟩)] w fun e w' => e = .returned (.string ⟨l.toArray⟩) ∧ Below B w w' := Any.Builder_String_any Tryz.lays169 Tryz.Builder_Extra_169 B b l w h hBw
end Go.Proofs

/-! What writing a text into a Builder of the call's own does, walked at this program's own copy of the library's text: the Builder holds the bytes behind those that it held; condition: together at most 2 to the 47. -/
namespace Go.Proofs.YtlfmefojcmpfeaaGreatDoor
open Go.RowKit
set_option linter.unusedSimpArgs false
set_option linter.unusedVariables false

theorem sizeBuilder : (Tryz.prog.info? 155).map (·.size) = some 2 := by kernel_rfl

set_option maxHeartbeats 1000000 in
set_option maxRecDepth 100000 in
theorem check_used (b : Nat) (w : World) (h0 : w.cell? ⟨b, 0, none⟩ = some (.pointer (some ⟨b, 0, none⟩))) :
    Calls Tryz.prog 191 #[.pointer (some ⟨b, 0, none⟩)] w fun e w' => e = .returned (.tuple #[]) ∧ w = w' := by
  obtain ⟨j, hj, _⟩ := Option.map_eq_some_iff.1 sizeBuilder
  have hne := Lib.run_neq_ptr_same w (⟨b, 0, none⟩ : Addr) Tryz.underlying153 hj
  go_enter Tryz.func191, Tryz.ntmps191
  go_wp2
  go_end0
  exact ⟨rfl, rfl⟩

set_option maxHeartbeats 1000000 in
set_option maxRecDepth 100000 in
theorem check_fresh (b : Nat) (w : World) (h0 : w.cell? ⟨b, 0, none⟩ = some (.pointer none)) (hsh : w.shape? b = some (155, 2)) (hfz : w.frozen? ⟨b, 0, none⟩ = false) :
    Calls Tryz.prog 191 #[.pointer (some ⟨b, 0, none⟩)] w fun e w' => e = .returned (.tuple #[]) ∧ w.setCell ⟨b, 0, none⟩ (.pointer (some ⟨b, 0, none⟩)) = w' := by
  obtain ⟨j, hj, hjs⟩ := Option.map_eq_some_iff.1 sizeBuilder
  have u1 := Lib.run_to_unsafe w ⟨b, 0, none⟩ Tryz.underlying153 Tryz.underlying237 hj (by rw [hjs]; decide) hsh (Nat.zero_lt_succ 1)
  have u2 := Lib.run_from_unsafe w ⟨b, 0, none⟩ Tryz.underlying237 Tryz.underlying153 hj hsh (by kernel_rfl)
  have u3 : ∀ v w, (callFunc 256 #[v]).run Tryz.prog w = .ok (.value v) w := fun v w => by
    rw [run_callFunc_extern Tryz.func256 (by kernel_rfl) (by kernel_rfl) (by kernel_rfl) (e := Extern.AbiNoEscape.same) (by kernel_rfl), Lib.run_noEscape]
    rfl
  go_enter Tryz.func191, Tryz.ntmps191
  go_wp2
  go_end0
  exact ⟨rfl, rfl⟩

theorem check_c (B b : Nat) (bs : List Value) (w : World) (h : Lib.IsBuilder 155 5 B b bs w) :
    Calls Tryz.prog 191 #[.pointer (some ⟨b, 0, none⟩)] w fun e w' => e = .returned (.tuple #[]) ∧ (Lib.BuilderAt 155 5 B b (.pointer (some ⟨b, 0, none⟩)) bs w' ∧ Below B w w') := by
  rcases h with h | h
  · exact (check_fresh b w h.cell0 h.shape h.frozen0).mono fun e w' ⟨h1, h2⟩ => by
      subst h2
      exact ⟨h1, h.used _, (Below.refl B w).setCell (p := ⟨b, 0, none⟩) h.1 _⟩
  · exact (check_used b w h.cell0).mono fun e w' ⟨h1, h2⟩ => by
      subst h2
      exact ⟨h1, h, Below.refl B _⟩

set_option maxHeartbeats 2000000 in
set_option maxRecDepth 100000 in
theorem write_c (B b : Nat) (bs : List Value) (s : ByteArray) (w : World) (h : Lib.IsBuilder 155 5 B b bs w) (hlen : bs.length + s.size ≤ 140737488355328) (hBw : B ≤ w.heap.size) :
    Calls Tryz.prog 122 #[.pointer (some ⟨b, 0, none⟩), .string s] w fun e w' => e = .returned (.tuple #[.int .i64 s.size, .nilIface]) ∧ (Lib.BuilderAt 155 5 B b (.pointer (some ⟨b, 0, none⟩)) (bs ++ Lib.strCells s) w' ∧ Below B w w') := by
  obtain ⟨i0, hi, hz0, hz1, hz2⟩ := info_parts info5
  go_enter Tryz.func122, Tryz.ntmps122
  go_wp2_with (first
    | (go_at_call 191
       refine (check_c B b bs _ h).mono ?_
       rintro e w1 ⟨rfl, h1, hb1⟩
       obtain ⟨hB, v, hbk, hown, hne⟩ := h1
       have c0 : w1.cell? ⟨b, 0, none⟩ = some (.pointer (some ⟨b, 0, none⟩)) := by rw [Lib.cell_of_heap hbk]; rfl
       have c1 : w1.cell? ⟨b, 1, none⟩ = some v := by rw [Lib.cell_of_heap hbk]; rfl)
    | (at_builtin; refine Lib.wpList_append_own_string _ rfl _ _ 22 9 rfl B 5 i0 Tryz.underlying22 Tryz.underlying9 hi hz0 hz1 hz2 _ bs.length bs rfl hown s rfl (by unfold maxLen; omega) hlen (Nat.le_trans hBw hb1.size) ?_))
  intro v' w2 hown' hgrow hnil
  have hlt : b < w1.heap.size := (Array.getElem?_eq_some_iff.1 hbk).1
  have hb2 : w2.heap[b]? = some (.cells #[.pointer (some ⟨b, 0, none⟩), v] 155 (0, 0)) := by
    rw [hgrow.block b hlt (fun e => hne e.symm)]
    exact hbk
  have d0 : w2.cell? ⟨b, 0, none⟩ = some (.pointer (some ⟨b, 0, none⟩)) := by rw [Lib.cell_of_heap hb2]; rfl
  have d1 : w2.cell? ⟨b, 1, none⟩ = some v := by rw [Lib.cell_of_heap hb2]; rfl
  have f1 : w2.frozen? ⟨b, 1, none⟩ = false := Lib.frozen_of_heap hb2 1
  have hex : ∃ ao cap, v' = .slice ao (bs.length + s.size) cap := by
    rcases hown'.2 with ⟨hv, h0⟩ | ⟨g, cap, cur, hv, _⟩
    · exact ⟨none, 0, by rw [hv, h0]⟩
    · exact ⟨_, cap, hv⟩
  have hbel : Below B w (w2.setCell ⟨b, 1, none⟩ v') := (hb1.grown hgrow (Nat.le_trans hBw hb1.size) (fun k hk => (hown.lt k hk).1)).setCell (p := ⟨b, 1, none⟩) hB _
  have hput : Lib.BuilderAt 155 5 B b (.pointer (some ⟨b, 0, none⟩)) (bs ++ Lib.strCells s) (w2.setCell ⟨b, 1, none⟩ v') :=
    Lib.BuilderAt.put hB hb2 (bs' := bs ++ Lib.strCells s) (by rw [List.length_append, Lib.strCells_length]; exact hown') (by decide)
  obtain ⟨ao, cap, hv⟩ := hex
  subst hv
  clear hnil
  go_wp2
  go_ret2
  exact ⟨rfl, hput, hbel⟩
end Go.Proofs.YtlfmefojcmpfeaaGreatDoor
