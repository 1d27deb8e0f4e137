/-
  Contracts for the walks, several texts in one: each part says what it proves, and under which conditions.
-/
import Derived.WalkMore
import Derived.ScopeJumps
import Derived.Deep.RegionHeld
import Derived.Deep.RegionWith
import Derived.Handy
import Derived.Laws.IdiomStrings
import Derived.Test.YtiadcebolcdhbaaQ1

/-! What the law's helpers over versions answer (how much there is, a copy, whether two are alike): contracts for the walks; conditions: the lists of texts lie in memory as told. -/
namespace Go.Proofs.Ytiadcebolcdhbaa
open Go.RowKit
set_option linter.unusedSimpArgs false
set_option linter.unusedVariables false

theorem owns_set {w : World} {base : Nat} {e : TypeId} {v : Value} {n : Nat} {xs : List Value} (h : w.ownsRow base e 1 v n xs) {p : Addr} (hp : p.block < base) (x : Value) : (w.setCell p x).ownsRow base e 1 v n xs := by
  obtain ⟨h1, h2⟩ := h
  refine ⟨h1, ?_⟩
  rcases h2 with h2 | ⟨g, cap, cur, a, b, c, d⟩
  · exact .inl h2
  · exact .inr ⟨g, cap, cur, a, b, by rw [Below.heap_setCell _ _ _ _ (by omega)]; exact c, d⟩

/-- A parameter that was put into a block of its own is still there behind a call. -/
theorem box4 {w w1 : World} {c0 c1 c2 c3 : Value} {t : TypeId} (hb : Below (w.alloc (.cells #[c0, c1, c2, c3] t)).heap.size (w.alloc (.cells #[c0, c1, c2, c3] t)) w1) :
    w1.cell? ⟨w.heap.size, 0, none⟩ = some c0 ∧ w1.cell? ⟨w.heap.size, 1, none⟩ = some c1 ∧ w1.cell? ⟨w.heap.size, 2, none⟩ = some c2 ∧ w1.cell? ⟨w.heap.size, 3, none⟩ = some c3 := by
  have h : ∀ j, w1.cell? ⟨w.heap.size, j, none⟩ = (#[c0, c1, c2, c3] : Array Value)[j]? := fun j => by
    rw [hb.cell (p := ⟨w.heap.size, j, none⟩) (by simp)]
    exact vblk_cell (vheap_new _ _) j
  exact ⟨h 0, h 1, h 2, h 3⟩

def saneP (ps : List ByteArray) : Prop := ps.length ≤ maxLen ∧ ∀ s ∈ ps, s.size ≤ maxLen

set_option maxHeartbeats 1000000 in
set_option maxRecDepth 100000 in
theorem sizeStrsL_c (v : Value) (ss : List ByteArray) (w : World) (left : Int) (hl0 : 0 ≤ left) (hl1 : left ≤ 1048576) (hv : Reads w v (strsV ss)) (hn : ss.length ≤ maxLen) (hs : ∀ s ∈ ss, s.size ≤ maxLen) :
    Calls Try.prog 60 #[v, .int .i64 left] w fun e w' => e = .returned (.int .i64 (leftS ss left)) ∧ w = w' := by
  obtain ⟨a, cap, rfl, _, hc⟩ := reads_strs hv
  clear hv
  unfold maxLen at hn hs
  by_cases h0 : left < (ss.length : Int)
  · have hneg : left - (ss.length : Int) < 0 := by omega
    have e : leftS ss left = -1 := by rw [leftS, bulkS, if_neg (by omega)]
    rw [e]
    clear hc hs
    go_enter Try.func60, Try.ntmps60
    go_wp2
    go_ret
    exact ⟨rfl, rfl⟩
  · have hpos : ¬ (left - (ss.length : Int) < 0) := by omega
    rcases hc with rfl | ⟨b, off, rfl, hlt, hc⟩
    · go_enter Try.func60, Try.ntmps60
      go_wp2
      go_loop [1, 5] (fun vl vi => vl = .int .i64 left ∧ vi = .int .i64 0) (fun _ _ => 0)
      case atStart => exact ⟨rfl, rfl⟩
      case round =>
        obtain ⟨rfl, rfl⟩ := hrel
        go_wp2
        go_ret
        exact ⟨by rw [show leftS [] left = left by simp [leftS, bulkS, hl0]]; rfl, rfl⟩
    · go_enter Try.func60, Try.ntmps60
      go_wp2
      go_loop [1, 5] (fun vl vi => ∃ (k : Nat) (l : Int), k ≤ ss.length ∧ vi = .int .i64 (k : Int) ∧ vl = .int .i64 l ∧ 0 ≤ l ∧ l ≤ 1048576 ∧ Hid (l = left - (ss.length : Int) - (((ss.take k).map ByteArray.size).sum : Int))) (fun _ vi => ss.length - (intOf vi).toNat)
      case atStart => exact ⟨0, _, Nat.zero_le _, rfl, rfl, by omega, by omega, by show _ = _; simp⟩
      case round =>
        obtain ⟨k, l, hk, rfl, rfl, hq0, hq1, hl⟩ := hrel
        by_cases hlt' : k < ss.length
        · have hcx := hc k hlt'
          have hsk := hs ss[k] (List.getElem_mem hlt')
          have hsum := sum_take_succ ss k hlt'
          obtain ⟨t, ht⟩ : ∃ t, t = ss[k] := ⟨_, rfl⟩
          rw [← ht] at hcx hsk hsum
          have HS : Hid (((ss.take (k + 1)).map ByteArray.size).sum = ((ss.take k).map ByteArray.size).sum + t.size) := hsum
          have hki : (k : Int) < (ss.length : Int) := by omega
          clear hc hs ht hsum
          by_cases hneg : l - (t.size : Int) < 0
          · have e : leftS ss left = -1 := by
              have h1 := HS.out; have h2 := hl.out; have h3 := sum_take_le ss (k + 1)
              rw [leftS, bulkS, if_neg (by omega)]
            have HE : Hid (leftS ss left = -1) := e
            clear e
            go_wp2
            go_ret
            exact ⟨by rw [HE.out]; rfl, rfl⟩
          · go_wp2
            go_round
            case rel => exact ⟨k + 1, l - (t.size : Int), by omega, by go_num, rfl, by omega, by omega, (by show _ = _; rw [HS.out, hl.out]; omega)⟩
            case measure => simp [intOf]; omega
        · have he : k = ss.length := by omega
          subst he
          have e : leftS ss left = l := by
            have h2 := hl.out
            rw [List.take_length] at h2
            rw [leftS, bulkS, if_pos (by omega)]; omega
          have HE : Hid (leftS ss left = l) := e
          clear hc hs e
          go_wp2
          go_ret
          exact ⟨by rw [HE.out]; rfl, rfl⟩

theorem vthree {w w1 : World} {A R O : Obj} (hb : Below (((w.alloc A).alloc R).alloc O).heap.size (((w.alloc A).alloc R).alloc O) w1) :
    w1.heap[w.heap.size]? = some A ∧ w1.heap[w.heap.size + 1]? = some R ∧ w1.heap[w.heap.size + 1 + 1]? = some O := by
  have s1 : (w.alloc A).heap.size = w.heap.size + 1 := by simp
  have s2 : ((w.alloc A).alloc R).heap.size = w.heap.size + 1 + 1 := by simp
  refine ⟨?_, ?_, ?_⟩
  · rw [hb.block _ (by simp; omega), vheap_old _ _ (by simp; omega), vheap_old _ _ (by simp), vheap_new]
  · rw [hb.block _ (by simp), vheap_old _ _ (by simp), ← s1, vheap_new]
  · rw [hb.block _ (by simp), ← s2, vheap_new]

end Go.Proofs.Ytiadcebolcdhbaa

/-! Needs, commands and packs that lie in memory: what they are, and how much they hold, as the law counts it: contracts for the walks; conditions: at most 2 to the 20 is left to count. -/
namespace Go.Proofs.Ytiadcebolcdhbaa
open Go.RowKit
set_option linter.unusedSimpArgs false
set_option linter.unusedVariables false

theorem lw (n : Nat) (l : Int) : ((n : Int) ≤ l ∧ leftW n l = l - (n : Int)) ∨ (l < (n : Int) ∧ leftW n l = -1) := by
  by_cases h : (n : Int) ≤ l
  · exact .inl ⟨h, leftW_good h⟩
  · exact .inr ⟨by omega, leftW_bad h⟩

/-- A list of texts that may be written. -/
def StrsOwn (S : Nat → Prop) (w : World) (u : Value) (ss : List ByteArray) : Prop := w.ownsRow 0 9 1 u ss.length (strsV ss) ∧ ∀ g, u.ownBlock = some g → S g
theorem StrsOwn.keep {S : Nat → Prop} {w w' : World} {u : Value} {ss : List ByteArray} (hk : Kp S w w') (h : StrsOwn S w u ss) : StrsOwn S w' u ss := ⟨owns_kept hk h.2 h.1, h.2⟩
theorem StrsOwn.mono {S S' : Nat → Prop} {w : World} {u : Value} {ss : List ByteArray} (hS : ∀ b, S b → S' b) (h : StrsOwn S w u ss) : StrsOwn S' w u ss := ⟨h.1, fun g hg => hS g (h.2 g hg)⟩
theorem StrsOwn.plain {S : Nat → Prop} {w : World} {u : Value} {ss : List ByteArray} (h : StrsOwn S w u ss) : RdB S w u (strsV ss) := by
  obtain ⟨a, cap, hv, hc, hx⟩ := reads_of_owns h.1
  refine ⟨a, cap, hv, hc, ?_⟩
  rcases hx with hx | ⟨b, off, rfl, hlt, hx⟩
  · exact .inl hx
  · exact .inr ⟨b, off, rfl, h.2 b (by rw [hv]; rfl), hx⟩

structure NeedD where
  n : ByteArray
  r : ByteArray
def wtNeed (d : NeedD) : Nat := d.n.size + d.r.size
def shNeed : Sh NeedD where
  n := 2
  lies S w cs d := cs = [.string d.n, .string d.r] ∧ d.n.size ≤ maxLen ∧ d.r.size ≤ maxLen
  keep hk h := by obtain ⟨h0, h1, h2⟩ := h; exact ⟨h0, h1, h2⟩
  mono hS h := by obtain ⟨h0, h1, h2⟩ := h; exact ⟨h0, h1, h2⟩

structure CmdD where
  t : ByteArray
  acts : List ByteArray
def wtCmd (d : CmdD) : Nat := d.t.size + bulkS d.acts
def shCmd : Sh CmdD where
  n := 2
  lies S w cs d := ∃ u0, cs = [.string d.t, u0] ∧ d.t.size ≤ maxLen ∧ RdB S w u0 (strsV d.acts) ∧ saneP d.acts
  keep hk h := by obtain ⟨u0, h0, h1, h2, h3⟩ := h; exact ⟨u0, h0, h1, h2.keep hk, h3⟩
  mono hS h := by obtain ⟨u0, h0, h1, h2, h3⟩ := h; exact ⟨u0, h0, h1, h2.mono hS, h3⟩
def shCmdO : Sh CmdD where
  n := 2
  lies S w cs d := ∃ u0, cs = [.string d.t, u0] ∧ d.t.size ≤ maxLen ∧ StrsOwn S w u0 d.acts ∧ saneP d.acts
  keep hk h := by obtain ⟨u0, h0, h1, h2, h3⟩ := h; exact ⟨u0, h0, h1, h2.keep hk, h3⟩
  mono hS h := by obtain ⟨u0, h0, h1, h2, h3⟩ := h; exact ⟨u0, h0, h1, h2.mono hS, h3⟩
theorem liesCmd_plain {S : Nat → Prop} {w : World} {cs : List Value} {d : CmdD} (h : shCmdO.lies S w cs d) : shCmd.lies S w cs d := by
  obtain ⟨u0, e0, s_t, r0, p0⟩ := h
  exact ⟨u0, e0, s_t, r0.plain, p0⟩

structure PackD where
  name : ByteArray
  uses : List ByteArray
  needs : List NeedD
  cmds : List CmdD
def wtPack (d : PackD) : Nat := d.name.size + bulkS d.uses + wtRow wtNeed d.needs + wtRow wtCmd d.cmds
def shPack : Sh PackD where
  n := 4
  lies S w cs d := ∃ u0 u1 u2, cs = [.string d.name, u0, u1, u2] ∧ d.name.size ≤ maxLen ∧ RdB S w u0 (strsV d.uses) ∧ saneP d.uses ∧ RowIn shNeed S w u1 d.needs ∧ RowIn shCmd S w u2 d.cmds
  keep hk h := by obtain ⟨u0, u1, u2, h0, h1, h2, h3, h4, h5⟩ := h; exact ⟨u0, u1, u2, h0, h1, h2.keep hk, h3, h4.keep hk, h5.keep hk⟩
  mono hS h := by obtain ⟨u0, u1, u2, h0, h1, h2, h3, h4, h5⟩ := h; exact ⟨u0, u1, u2, h0, h1, h2.mono hS, h3, h4.mono hS, h5.mono hS⟩
def shPackO : Sh PackD where
  n := 4
  lies S w cs d := ∃ u0 u1 u2, cs = [.string d.name, u0, u1, u2] ∧ d.name.size ≤ maxLen ∧ StrsOwn S w u0 d.uses ∧ saneP d.uses ∧ RowOwn shNeed 154 S w u1 d.needs ∧ RowOwn shCmdO 141 S w u2 d.cmds
  keep hk h := by obtain ⟨u0, u1, u2, h0, h1, h2, h3, h4, h5⟩ := h; exact ⟨u0, u1, u2, h0, h1, h2.keep hk, h3, h4.keep hk, h5.keep hk⟩
  mono hS h := by obtain ⟨u0, u1, u2, h0, h1, h2, h3, h4, h5⟩ := h; exact ⟨u0, u1, u2, h0, h1, h2.mono hS, h3, h4.mono hS, h5.mono hS⟩
theorem liesPack_plain {S : Nat → Prop} {w : World} {cs : List Value} {d : PackD} (h : shPackO.lies S w cs d) : shPack.lies S w cs d := by
  obtain ⟨u0, u1, u2, e0, s_name, r0, p0, r1, r2⟩ := h
  exact ⟨u0, u1, u2, e0, s_name, r0.plain, p0, r1.plain, (RowIn.as (sh := shCmdO) (sh' := shCmd) rfl (fun S w cs x h => liesCmd_plain h) r2.plain)⟩

end Go.Proofs.Ytiadcebolcdhbaa

/-! Rules that lie in memory: what they are: no condition. -/
namespace Go.Proofs.Ytiadcebolcdhbaa
open Go.RowKit
set_option linter.unusedSimpArgs false
set_option linter.unusedVariables false

structure RuleD where
  task : ByteArray
  on : List ByteArray
  ins : List ByteArray
  envs : List ByteArray
  keep : Bool
def wtRule (d : RuleD) : Nat := d.task.size + bulkS d.on + bulkS d.ins + bulkS d.envs
def shRule : Sh RuleD where
  n := 5
  lies S w cs d := ∃ u0 u1 u2, cs = [.string d.task, u0, u1, u2, .bool d.keep] ∧ d.task.size ≤ maxLen ∧ RdB S w u0 (strsV d.on) ∧ saneP d.on ∧ RdB S w u1 (strsV d.ins) ∧ saneP d.ins ∧ RdB S w u2 (strsV d.envs) ∧ saneP d.envs
  keep hk h := by obtain ⟨u0, u1, u2, h0, h1, h2, h3, h4, h5, h6, h7⟩ := h; exact ⟨u0, u1, u2, h0, h1, h2.keep hk, h3, h4.keep hk, h5, h6.keep hk, h7⟩
  mono hS h := by obtain ⟨u0, u1, u2, h0, h1, h2, h3, h4, h5, h6, h7⟩ := h; exact ⟨u0, u1, u2, h0, h1, h2.mono hS, h3, h4.mono hS, h5, h6.mono hS, h7⟩
def shRuleO : Sh RuleD where
  n := 5
  lies S w cs d := ∃ u0 u1 u2, cs = [.string d.task, u0, u1, u2, .bool d.keep] ∧ d.task.size ≤ maxLen ∧ StrsOwn S w u0 d.on ∧ saneP d.on ∧ StrsOwn S w u1 d.ins ∧ saneP d.ins ∧ StrsOwn S w u2 d.envs ∧ saneP d.envs
  keep hk h := by obtain ⟨u0, u1, u2, h0, h1, h2, h3, h4, h5, h6, h7⟩ := h; exact ⟨u0, u1, u2, h0, h1, h2.keep hk, h3, h4.keep hk, h5, h6.keep hk, h7⟩
  mono hS h := by obtain ⟨u0, u1, u2, h0, h1, h2, h3, h4, h5, h6, h7⟩ := h; exact ⟨u0, u1, u2, h0, h1, h2.mono hS, h3, h4.mono hS, h5, h6.mono hS, h7⟩
theorem liesRule_plain {S : Nat → Prop} {w : World} {cs : List Value} {d : RuleD} (h : shRuleO.lies S w cs d) : shRule.lies S w cs d := by
  obtain ⟨u0, u1, u2, e0, s_task, r0, p0, r1, p1, r2, p2⟩ := h
  exact ⟨u0, u1, u2, e0, s_task, r0.plain, p0, r1.plain, p1, r2.plain, p2⟩
end Go.Proofs.Ytiadcebolcdhbaa

/-! Rows that are right one by one and ascend, and the first of a row that is taken: pure facts, no condition. -/
namespace Go.Proofs.Ytiadcebolcdhbaa
open Go.RowKit
set_option linter.unusedSimpArgs false
set_option linter.unusedVariables false

/-- What is asked of an element beside the one ahead of it. -/
def rowOk {α : Type} (p : α → Bool) (key : α → ByteArray) (d : α) (pre : Option α) : Bool := p d && (match pre with | none => true | some c => Op.bytesLess (key c).toList (key d).toList)
def preX {α : Type} (xs : List α) : Nat → Option α
  | 0 => none
  | j + 1 => xs[j]?
def rowUpto {α : Type} (p : α → Bool) (key : α → ByteArray) (xs : List α) : Nat → Bool
  | 0 => true
  | k + 1 => rowUpto p key xs k && (match xs[k]? with | none => true | some d => rowOk p key d (preX xs k))
def rowB {α : Type} (p : α → Bool) (key : α → ByteArray) (xs : List α) : Bool := rowUpto p key xs xs.length
theorem rowUpto_step {α : Type} {p : α → Bool} {key : α → ByteArray} {xs : List α} {k : Nat} (hk : k < xs.length) (h : rowUpto p key xs k = true) (h2 : rowOk p key xs[k] (preX xs k) = true) : rowUpto p key xs (k + 1) = true := by
  rw [rowUpto, h, List.getElem?_eq_getElem hk]; simpa using h2
theorem rowUpto_bad {α : Type} {p : α → Bool} {key : α → ByteArray} {xs : List α} {k : Nat} (hk : k < xs.length) (h2 : rowOk p key xs[k] (preX xs k) = false) : ∀ n, k < n → rowUpto p key xs n = false
  | 0, h => by omega
  | n + 1, h => by
    rw [rowUpto]
    by_cases e : k = n
    · subst e; rw [List.getElem?_eq_getElem hk]; simp [h2]
    · rw [rowUpto_bad hk h2 n (by omega)]; rfl
theorem rowOk_no {α : Type} {p : α → Bool} {key : α → ByteArray} {d : α} {o : Option α} (h : p d = false) : rowOk p key d o = false := by simp [rowOk, h]
theorem rowOk_first {α : Type} {p : α → Bool} {key : α → ByteArray} {d : α} (h : p d = true) : rowOk p key d none = true := by simp [rowOk, h]
theorem rowOk_some {α : Type} {p : α → Bool} {key : α → ByteArray} {d c : α} (h : p d = true) : rowOk p key d (some c) = Op.bytesLess (key c).toList (key d).toList := by simp [rowOk, h]
theorem rowOk_less {α : Type} {p : α → Bool} {key : α → ByteArray} {d c : α} (h : Op.bytesLess (key c).toList (key d).toList = false) : rowOk p key d (some c) = false := by simp [rowOk, h]

def ascB (ts : List ByteArray) : Bool := rowB (fun _ => true) id ts
theorem asc_one (ts : List ByteArray) : rowUpto (fun _ => true) id ts 1 = true := by
  rw [rowUpto, rowUpto]
  cases ts with
  | nil => rfl
  | cons t ts => rfl
theorem asc_end {ts : List ByteArray} {k : Nat} (h1 : 1 ≤ k) (h2 : ¬ k < ts.length) (h3 : k ≤ ts.length ∨ k = 1) (h : rowUpto (fun _ => true) id ts k = true) : ascB ts = true := by
  cases ts with
  | nil => rfl
  | cons t ts =>
    have : k = (t :: ts).length := by
      rcases h3 with h3 | h3
      · omega
      · simp at h2 ⊢; omega
    rw [this] at h
    exact h
theorem rowUpto_split {α : Type} (p : α → Bool) (key : α → ByteArray) (xs : List α) : ∀ k, k ≤ xs.length → rowUpto p key xs k = ((xs.take k).all p && rowUpto (fun _ => true) id (xs.map key) k)
  | 0, _ => rfl
  | k + 1, h => by
    have hk : k < xs.length := by omega
    rw [rowUpto, rowUpto_split p key xs k (by omega), List.getElem?_eq_getElem hk, List.take_succ_eq_append_getElem hk, List.all_append]
    have hm : (xs.map key)[k]? = some (key xs[k]) := by simp [hk]
    have hp : preX (xs.map key) k = (preX xs k).map key := by
      cases k with
      | zero => rfl
      | succ j => simp [preX]
    simp only [rowUpto, hm, hp, rowOk, List.all_cons, List.all_nil, Bool.and_true, Bool.true_and]
    cases preX xs k with
    | none => simp only [Option.map_none]; cases (xs.take k).all p <;> cases rowUpto (fun _ => true) id (xs.map key) k <;> cases p xs[k] <;> rfl
    | some c => simp only [Option.map_some, id]; cases (xs.take k).all p <;> cases rowUpto (fun _ => true) id (xs.map key) k <;> cases p xs[k] <;> cases Op.bytesLess (key c).toList (key xs[k]).toList <;> rfl
theorem rowB_split {α : Type} (p : α → Bool) (key : α → ByteArray) (xs : List α) : rowB p key xs = (xs.all p && ascB (xs.map key)) := by
  unfold rowB ascB rowB
  rw [rowUpto_split p key xs _ (Nat.le_refl _), List.take_length, List.length_map]

/-- The place of the first that p takes, or -1. -/
def firstI {α : Type} (p : α → Bool) (xs : List α) : Int := if xs.findIdx p < xs.length then (xs.findIdx p : Int) else -1
theorem firstI_here {α : Type} {p : α → Bool} {xs : List α} {k : Nat} (h : k < xs.length) (hy : p xs[k] = true) (hn : ∀ j (hj : j < xs.length), j < k → p xs[j] = false) : firstI p xs = (k : Int) := by
  have e : xs.findIdx p = k := by
    rw [List.findIdx_eq h]
    exact ⟨hy, fun j hj => hn j (by omega) hj⟩
  unfold firstI
  rw [e, if_pos h]
theorem firstI_none {α : Type} {p : α → Bool} {xs : List α} (hn : ∀ j (hj : j < xs.length), p xs[j] = false) : firstI p xs = -1 := by
  have e : xs.findIdx p = xs.length := by
    rw [List.findIdx_eq_length]
    intro x hx
    obtain ⟨j, hj, rfl⟩ := List.mem_iff_getElem.1 hx
    exact hn j hj
  unfold firstI
  rw [e, if_neg (by omega)]
theorem firstI_any {α : Type} (p : α → Bool) (xs : List α) : decide (0 ≤ firstI p xs) = xs.any p := by
  unfold firstI
  by_cases h : xs.findIdx p < xs.length
  · rw [if_pos h, decide_eq_true (by omega)]
    have := List.findIdx_lt_length.1 h
    obtain ⟨x, hx, hp⟩ := this
    exact (List.any_eq_true.2 ⟨x, hx, hp⟩).symm
  · rw [if_neg h, decide_eq_false (by omega)]
    have e : xs.findIdx p = xs.length := by have := List.findIdx_le_length (xs := xs) (p := p); omega
    rw [List.findIdx_eq_length] at e
    cases ha : xs.any p with
    | false => rfl
    | true =>
      obtain ⟨x, hx, hp⟩ := List.any_eq_true.1 ha
      have := e x hx
      simp_all
theorem firstI_ge {α : Type} (p : α → Bool) (xs : List α) : -1 ≤ firstI p xs := by unfold firstI; split <;> omega
theorem firstI_le {α : Type} (p : α → Bool) (xs : List α) : firstI p xs ≤ (xs.length : Int) := by unfold firstI; split <;> omega

end Go.Proofs.Ytiadcebolcdhbaa

/-! What the functions that look at a path, name by name, answer (the program's and the specification's): contracts for the walks; condition: the text has at most 2 to the 20 bytes. -/
namespace Go.Proofs.Ytiadcebolcdhbaa
open Go.RowKit
set_option linter.unusedSimpArgs false
set_option linter.unusedVariables false

def pathC (c : Int) : Bool := smallB c || (digitB c || (c == 46 || (c == 45 || c == 95)))

theorem isPath_c (c : Int) (w : World) : Calls Try.prog 158 #[.int .u8 c] w fun e w' => e = .returned (.bool (pathC c)) ∧ w = w' := by
  cases h1 : smallB c with
  | true =>
    have hb : pathC c = true := by simp [pathC, h1]
    rw [hb]
    go_enter Try.func158, Try.ntmps158
    go_wp2_with (go_at_call 94; refine (isSmall_c _ _).mono ?_; rintro e w' ⟨rfl, rfl⟩; rw [h1])
    go_ret
    exact ⟨rfl, rfl⟩
  | false =>
    cases h2 : digitB c with
    | true =>
      have hb : pathC c = true := by simp [pathC, h2]
      rw [hb]
      go_enter Try.func158, Try.ntmps158
      go_wp2_with (first
        | (go_at_call 94; refine (isSmall_c _ _).mono ?_; rintro e w' ⟨rfl, rfl⟩; rw [h1])
        | (go_at_call 95; refine (isDigit_c _ _).mono ?_; rintro e w' ⟨rfl, rfl⟩; rw [h2]))
      go_ret
      exact ⟨rfl, rfl⟩
    | false =>
      go_enter Try.func158, Try.ntmps158
      go_wp2_with (first
        | (go_at_call 94; refine (isSmall_c _ _).mono ?_; rintro e w' ⟨rfl, rfl⟩; rw [h1])
        | (go_at_call 95; refine (isDigit_c _ _).mono ?_; rintro e w' ⟨rfl, rfl⟩; rw [h2]))
      all_goals go_ret
      all_goals exact ⟨by simp [pathC, Bool.or_assoc, *], rfl⟩

theorem letter5_c (c : Int) (k0 : 0 ≤ c) (k1 : c ≤ 255) (w : World) : Calls Try.prog 143 #[.int .u8 c] w fun e w' => e = .returned (.bool (pathC c)) ∧ w = w' := by
  cases h1 : smallB c with
  | true =>
    have hb : pathC c = true := by simp [pathC, h1]
    rw [hb]
    go_enter Try.func143, Try.ntmps143
    go_wp2_with (go_at_call 90; refine (small_c _ k0 k1 _).mono ?_; rintro e w' ⟨rfl, rfl⟩; rw [h1])
    go_ret
    exact ⟨rfl, rfl⟩
  | false =>
    cases h2 : digitB c with
    | true =>
      have hb : pathC c = true := by simp [pathC, h2]
      rw [hb]
      go_enter Try.func143, Try.ntmps143
      go_wp2_with (first
        | (go_at_call 90; refine (small_c _ k0 k1 _).mono ?_; rintro e w' ⟨rfl, rfl⟩; rw [h1])
        | (go_at_call 91; refine (digit_c _ k0 k1 _).mono ?_; rintro e w' ⟨rfl, rfl⟩; rw [h2]))
      go_ret
      exact ⟨rfl, rfl⟩
    | false =>
      go_enter Try.func143, Try.ntmps143
      go_wp2_with (first
        | (go_at_call 90; refine (small_c _ k0 k1 _).mono ?_; rintro e w' ⟨rfl, rfl⟩; rw [h1])
        | (go_at_call 91; refine (digit_c _ k0 k1 _).mono ?_; rintro e w' ⟨rfl, rfl⟩; rw [h2]))
      all_goals go_ret
      all_goals exact ⟨by simp [pathC, Bool.or_assoc, *], rfl⟩

def okPath (_ : Nat) (c : Int) : Bool := pathC c
def pnameB (s : ByteArray) : Bool := allUpto okPath s s.size && (inB s.size 1 12 && (!(s.toList == [46]) && !(s.toList == [46, 46])))

theorem pname_out {s : ByteArray} (h : s.size = 0 ∨ 12 < s.size) : pnameB s = false := by
  have : inB s.size 1 12 = false := by
    simp only [inB, Bool.and_eq_false_iff, decide_eq_false_iff_not]
    omega
  rw [pnameB, this]; simp
theorem pname_in {s : ByteArray} (h0 : 0 < s.size) (h1 : s.size ≤ 12) (h2 : (s.toList == [46]) = false) (h3 : (s.toList == [46, 46]) = false) (h : allUpto okPath s s.size = true) : pnameB s = true := by
  have : inB s.size 1 12 = true := by
    simp only [inB, Bool.and_eq_true, decide_eq_true_eq]
    omega
  rw [pnameB, this, h, h2, h3]; rfl

end Go.Proofs.Ytiadcebolcdhbaa

/-! What the two functions PathOk (the program's and the specification's) answer: the same; condition: the text has at most 2 to the 20 bytes. -/
namespace Go.Proofs.Ytiadcebolcdhbaa
open Go.RowKit
set_option linter.unusedSimpArgs false
set_option linter.unusedVariables false

def pathB (s : ByteArray) : Bool := decide ((splitS s 47).length ≤ 4) && (splitS s 47).all pnameB

theorem all_take_step {l : List ByteArray} {p : ByteArray → Bool} {k : Nat} (hk : k < l.length) (h : (l.take k).all p = true) (hp : p l[k] = true) : (l.take (k + 1)).all p = true := by
  rw [List.take_succ_eq_append_getElem hk, List.all_append, h]; simp [hp]
theorem all_false_at {l : List ByteArray} {p : ByteArray → Bool} {k : Nat} (hk : k < l.length) (hp : p l[k] = false) : l.all p = false := by
  rw [Bool.eq_false_iff]; intro h
  have := List.all_eq_true.1 h _ (List.getElem_mem hk)
  rw [hp] at this; cases this

end Go.Proofs.Ytiadcebolcdhbaa

/-! Steps gone through by going back to the last one that takes many alone, against all ways being tried: they answer alike; no condition (no program stands here). -/
namespace Go.Proofs.Ytiadcebolcdhbaa
set_option linter.unusedSimpArgs false
set_option linter.unusedVariables false

section
variable {α β : Type} (many : α → Bool) (takes : α → β → Bool)

/-- All ways are tried. -/
def fullG : List α → List β → Bool
  | [], l => l.isEmpty
  | a :: p, l => if many a then (List.range (l.length + 1)).any (fun k => fullG p (l.drop k)) else
      match l with
      | [] => false
      | x :: t => takes a x && fullG p t

theorem fullG_nil (l : List β) : fullG many takes [] l = l.isEmpty := by rw [fullG.eq_def]
theorem fullG_many (a : α) (p : List α) (l : List β) (h : many a = true) : fullG many takes (a :: p) l = (List.range (l.length + 1)).any (fun k => fullG many takes p (l.drop k)) := by
  rw [fullG.eq_def]; simp only []; rw [if_pos h]
theorem fullG_none (a : α) (p : List α) (h : many a = false) : fullG many takes (a :: p) [] = false := by
  rw [fullG.eq_def]; simp only []; rw [if_neg (by simp [h])]
theorem fullG_one (a : α) (p : List α) (x : β) (t : List β) (h : many a = false) : fullG many takes (a :: p) (x :: t) = (takes a x && fullG many takes p t) := by
  rw [fullG.eq_def]; simp only []; rw [if_neg (by simp [h])]

/-- From place i of the steps and place j of the things on. -/
def F2 (ps : List α) (xs : List β) (i j : Nat) : Bool := fullG many takes (ps.drop i) (xs.drop j)

variable {many takes} {ps : List α} {xs : List β}

theorem F2_many {i j : Nat} {a : α} (ha : ps[i]? = some a) (hm : many a = true) (hj : j ≤ xs.length) :
    F2 many takes ps xs i j = true ↔ ∃ k, j ≤ k ∧ k ≤ xs.length ∧ F2 many takes ps xs (i + 1) k = true := by
  have hi := (List.getElem?_eq_some_iff.1 ha).1
  have he := (List.getElem?_eq_some_iff.1 ha).2
  unfold F2
  rw [List.drop_eq_getElem_cons hi, he, fullG_many _ _ _ _ _ hm, List.any_eq_true]
  constructor
  · rintro ⟨k, hk, h⟩
    rw [List.mem_range, List.length_drop] at hk
    rw [List.drop_drop] at h
    exact ⟨j + k, by omega, by omega, h⟩
  · rintro ⟨k, h1, h2, h⟩
    refine ⟨k - j, by rw [List.mem_range, List.length_drop]; omega, ?_⟩
    rw [List.drop_drop, show j + (k - j) = k by omega]
    exact h
theorem F2_one {i j : Nat} {a : α} {x : β} (ha : ps[i]? = some a) (hm : many a = false) (hx : xs[j]? = some x) :
    F2 many takes ps xs i j = (takes a x && F2 many takes ps xs (i + 1) (j + 1)) := by
  have hi := (List.getElem?_eq_some_iff.1 ha).1
  have he := (List.getElem?_eq_some_iff.1 ha).2
  have hj := (List.getElem?_eq_some_iff.1 hx).1
  have hxe := (List.getElem?_eq_some_iff.1 hx).2
  unfold F2
  rw [List.drop_eq_getElem_cons hi, he, List.drop_eq_getElem_cons hj, hxe, fullG_one _ _ _ _ _ _ hm]
theorem F2_none {i j : Nat} {a : α} (ha : ps[i]? = some a) (hm : many a = false) (hj : xs.length ≤ j) : F2 many takes ps xs i j = false := by
  have hi := (List.getElem?_eq_some_iff.1 ha).1
  have he := (List.getElem?_eq_some_iff.1 ha).2
  unfold F2
  rw [List.drop_eq_getElem_cons hi, he, List.drop_eq_nil_of_le hj, fullG_none _ _ _ _ hm]
theorem F2_end {i j : Nat} (hi : ps.length ≤ i) : F2 many takes ps xs i j = decide (xs.length ≤ j) := by
  unfold F2
  rw [List.drop_eq_nil_of_le hi, fullG_nil]
  by_cases h : xs.length ≤ j
  · rw [decide_eq_true h, List.drop_eq_nil_of_le h]; rfl
  · rw [decide_eq_false h]
    have : xs.drop j ≠ [] := by
      intro e
      have := congrArg List.length e
      rw [List.length_drop] at this
      simp at this
      omega
    cases hd : xs.drop j with
    | nil => exact absurd hd this
    | cons _ _ => rfl

/-- What a run through steps of which none takes many leads to. -/
theorem F2_pass {b k : Nat} : ∀ (m : Nat), (∀ i a, b ≤ i → i < b + m → ps[i]? = some a → many a = false) → b + m ≤ ps.length → k ≤ xs.length → F2 many takes ps xs b k = true →
    k + m ≤ xs.length ∧ F2 many takes ps xs (b + m) (k + m) = true
  | 0, _, _, hk, h => ⟨hk, h⟩
  | m + 1, hs, hl, hk, h => by
    obtain ⟨h1, h2⟩ := F2_pass m (fun i a h1 h2 h3 => hs i a h1 (by omega) h3) (by omega) hk h
    have ha : ps[b + m]? = some ps[b + m] := List.getElem?_eq_getElem (by omega)
    have hm := hs (b + m) _ (by omega) (by omega) ha
    by_cases hj : k + m < xs.length
    · have hx : xs[k + m]? = some xs[k + m] := List.getElem?_eq_getElem hj
      rw [F2_one ha hm hx, Bool.and_eq_true] at h2
      exact ⟨by omega, h2.2⟩
    · rw [F2_none ha hm (by omega)] at h2
      cases h2

/-- Where the run is: at step s and thing t, behind the last step that takes many (seen: there was one) b steps and tk things lie. -/
def Inv (many : α → Bool) (takes : α → β → Bool) (ps : List α) (xs : List β) (s t b tk : Nat) (seen : Bool) : Prop :=
  s ≤ ps.length ∧ t ≤ xs.length ∧ b ≤ s ∧ t + b = s + tk ∧ (∀ i a, b ≤ i → i < s → ps[i]? = some a → many a = false) ∧
  (F2 many takes ps xs 0 0 = true ↔ (F2 many takes ps xs s t = true ∨ (seen = true ∧ ∃ k, tk < k ∧ k ≤ xs.length ∧ F2 many takes ps xs b k = true)))

theorem inv_start : Inv many takes ps xs 0 0 0 0 false :=
  ⟨Nat.zero_le _, Nat.zero_le _, Nat.le_refl _, rfl, fun i a _ h => by omega, by simp⟩

theorem inv_many {s t b tk : Nat} {seen : Bool} {a : α} (h : Inv many takes ps xs s t b tk seen) (ha : ps[s]? = some a) (hm : many a = true) : Inv many takes ps xs (s + 1) t (s + 1) t true := by
  obtain ⟨h1, h2, h3, h4, h5, h6⟩ := h
  have hs := (List.getElem?_eq_some_iff.1 ha).1
  refine ⟨by omega, h2, Nat.le_refl _, by omega, fun i a h1 h2 => by omega, ?_⟩
  rw [h6]
  have key : ∀ j, t ≤ j → j ≤ xs.length → F2 many takes ps xs s j = true → (F2 many takes ps xs (s + 1) t = true ∨ (true = true ∧ ∃ k, t < k ∧ k ≤ xs.length ∧ F2 many takes ps xs (s + 1) k = true)) := fun j h7 h8 h9 => by
    obtain ⟨k, k1, k2, k3⟩ := (F2_many ha hm h8).1 h9
    by_cases e : k = t
    · subst e; exact .inl k3
    · exact .inr ⟨rfl, k, by omega, k2, k3⟩
  constructor
  · rintro (h | ⟨_, k, k1, k2, k3⟩)
    · exact key t (Nat.le_refl _) h2 h
    · obtain ⟨j1, j2⟩ := F2_pass (s - b) (fun i a q1 q2 q3 => h5 i a q1 (by omega) q3) (by omega) k2 k3
      rw [show b + (s - b) = s by omega] at j2
      exact key _ (by omega) j1 j2
  · rintro (h | ⟨_, k, k1, k2, k3⟩)
    · exact .inl ((F2_many ha hm h2).2 ⟨t, Nat.le_refl _, h2, h⟩)
    · exact .inl ((F2_many ha hm h2).2 ⟨k, by omega, k2, k3⟩)

theorem inv_next {s t b tk : Nat} {seen : Bool} {a : α} {x : β} (h : Inv many takes ps xs s t b tk seen) (ha : ps[s]? = some a) (hm : many a = false) (hx : xs[t]? = some x) (ht : takes a x = true) :
    Inv many takes ps xs (s + 1) (t + 1) b tk seen := by
  obtain ⟨h1, h2, h3, h4, h5, h6⟩ := h
  have hs := (List.getElem?_eq_some_iff.1 ha).1
  have hj := (List.getElem?_eq_some_iff.1 hx).1
  refine ⟨by omega, by omega, by omega, by omega, fun i c q1 q2 q3 => ?_, ?_⟩
  · by_cases e : i = s
    · subst e; rw [ha] at q3; cases q3; exact hm
    · exact h5 i c q1 (by omega) q3
  · rw [h6, F2_one ha hm hx, ht, Bool.true_and]

theorem F2_stop_end {s t : Nat} (hs : s = ps.length) (ht : t ≤ xs.length) (hne : ¬ t = xs.length) : F2 many takes ps xs s t = false := by
  rw [F2_end (by omega)]; simp; omega
theorem F2_stop_none {s t : Nat} {a : α} (ha : ps[s]? = some a) (hm : many a = false) (ht : t = xs.length) : F2 many takes ps xs s t = false := F2_none ha hm (by omega)
theorem F2_stop_not {s t : Nat} {a : α} {x : β} (ha : ps[s]? = some a) (hm : many a = false) (hx : xs[t]? = some x) (ht : takes a x = false) : F2 many takes ps xs s t = false := by
  rw [F2_one ha hm hx, ht]; rfl

theorem inv_back {s t b tk : Nat} {seen : Bool} (h : Inv many takes ps xs s t b tk seen) (hf : F2 many takes ps xs s t = false) (hs : seen = true) (hk : tk < xs.length) : Inv many takes ps xs b (tk + 1) b (tk + 1) true := by
  obtain ⟨h1, h2, h3, h4, h5, h6⟩ := h
  refine ⟨by omega, by omega, Nat.le_refl _, by omega, fun i a q1 q2 => by omega, ?_⟩
  rw [h6, hf]
  constructor
  · rintro (h | ⟨_, k, k1, k2, k3⟩)
    · cases h
    · by_cases e : k = tk + 1
      · subst e; exact .inl k3
      · exact .inr ⟨rfl, k, by omega, k2, k3⟩
  · rintro (h | ⟨_, k, k1, k2, k3⟩)
    · exact .inr ⟨hs, tk + 1, by omega, by omega, h⟩
    · exact .inr ⟨hs, k, by omega, k2, k3⟩

theorem inv_true {s t b tk : Nat} {seen : Bool} (h : Inv many takes ps xs s t b tk seen) (hs : s = ps.length) (ht : t = xs.length) : fullG many takes ps xs = true := by
  have := h.2.2.2.2.2.2 (.inl (by rw [F2_end (by omega)]; simp; omega))
  simpa [F2] using this
theorem inv_false {s t b tk : Nat} {seen : Bool} (h : Inv many takes ps xs s t b tk seen) (hf : F2 many takes ps xs s t = false) (he : seen = false ∨ tk = xs.length) : fullG many takes ps xs = false := by
  rw [Bool.eq_false_iff]
  intro hc
  have h1 : F2 many takes ps xs 0 0 = true := by simpa [F2] using hc
  rcases h.2.2.2.2.2.1 h1 with h2 | ⟨h2, k, h3, h4, _⟩
  · rw [hf] at h2; cases h2
  · rcases he with he | he
    · rw [he] at h2; cases h2
    · omega

/-- How far the run still has to go. -/
def goM (L n s b tk : Nat) : Nat := (L - b) * ((n + 1) * (L + 1)) + (n - tk) * (L + 1) + (L - s)
theorem goM_many {L n s b tk t : Nat} (h1 : b ≤ s) (h2 : s < L) : goM L n (s + 1) (s + 1) t < goM L n s b tk := by
  unfold goM
  have e3 : (n + 1) * (L + 1) = n * (L + 1) + (L + 1) := by rw [Nat.add_mul]; omega
  obtain ⟨M, hM⟩ : ∃ M, M = (n + 1) * (L + 1) := ⟨_, rfl⟩
  rw [← hM] at e3 ⊢
  have e1 : (L - b) * M ≥ (L - (s + 1) + 1) * M := Nat.mul_le_mul_right _ (by omega)
  rw [Nat.add_mul] at e1
  have e2 : (n - t) * (L + 1) ≤ n * (L + 1) := Nat.mul_le_mul_right _ (by omega)
  omega
theorem goM_next {L n s b tk : Nat} (h2 : s < L) : goM L n (s + 1) b tk < goM L n s b tk := by unfold goM; omega
theorem goM_back {L n s b tk : Nat} (h : tk < n) : goM L n b b (tk + 1) < goM L n s b tk := by
  unfold goM
  have e1 : (n - tk) * (L + 1) = (n - (tk + 1)) * (L + 1) + (L + 1) := by
    rw [show n - tk = (n - (tk + 1)) + 1 by omega, Nat.add_mul]; omega
  omega
end
end Go.Proofs.Ytiadcebolcdhbaa

/-! Signs of a pattern's piece, read one by one off its bytes: what is read, and that the rest is read alike from each place; no condition (no program stands here). -/
namespace Go.Proofs.Ytiadcebolcdhbaa
open Go.RowKit
set_option linter.unusedSimpArgs false
set_option linter.unusedVariables false

/-- A sign: it takes many bytes; or one that is in the set (or, nt, is not). -/
structure Sgn where
  many : Bool
  nt : Bool
  set : List UInt8

def setB (c : Int) : Bool := smallB c || digitB c
def runL : List UInt8 → Nat
  | [] => 0
  | c :: t => if setB (c.toNat : Int) then runL t + 1 else 0
def headIs (n : Nat) : List UInt8 → Bool
  | [] => false
  | c :: _ => c.toNat == n
/-- What stands behind a bracket that opens, and how many bytes it takes with the bracket. -/
def setL (t : List UInt8) : Option (Sgn × Nat) :=
  if headIs 93 ((t.drop (headIs 33 t).toNat).drop (runL (t.drop (headIs 33 t).toNat))) && inB (runL (t.drop (headIs 33 t).toNat)) 1 5 then
    some (⟨false, headIs 33 t, (t.drop (headIs 33 t).toNat).take (runL (t.drop (headIs 33 t).toNat))⟩, 1 + (headIs 33 t).toNat + runL (t.drop (headIs 33 t).toNat) + 1)
  else none
def signL : List UInt8 → Option (Sgn × Nat)
  | [] => none
  | c :: t =>
    if c.toNat = 91 then setL t
    else if c.toNat = 42 then some (⟨true, false, []⟩, 1)
    else if c.toNat = 63 then some (⟨false, true, []⟩, 1)
    else if pathC (c.toNat : Int) then some (⟨false, false, [c]⟩, 1)
    else none

theorem signL_cons (c : UInt8) (t : List UInt8) : signL (c :: t) = if c.toNat = 91 then setL t
    else if c.toNat = 42 then some (⟨true, false, []⟩, 1)
    else if c.toNat = 63 then some (⟨false, true, []⟩, 1)
    else if pathC (c.toNat : Int) then some (⟨false, false, [c]⟩, 1)
    else none := rfl
theorem signL_pos {l : List UInt8} {g : Sgn} {k : Nat} (h : signL l = some (g, k)) : 1 ≤ k := by
  cases l with
  | nil => cases h
  | cons c t =>
    rw [signL_cons] at h
    split at h
    · unfold setL at h
      split at h
      · cases h; omega
      · cases h
    split at h
    · cases h; omega
    split at h
    · cases h; omega
    split at h
    · cases h; omega
    · cases h

def signsL : Nat → List UInt8 → Option (List Sgn)
  | 0, _ => some []
  | _ + 1, [] => some []
  | n + 1, c :: t =>
    match signL (c :: t) with
    | none => none
    | some (g, k) => (signsL n ((c :: t).drop k)).map (g :: ·)
theorem signsL_fuel : ∀ (n m : Nat) (l : List UInt8), l.length ≤ n → l.length ≤ m → signsL n l = signsL m l
  | 0, 0, _, _, _ => rfl
  | 0, m + 1, [], _, _ => rfl
  | 0, m + 1, c :: t, h, _ => by simp at h
  | n + 1, 0, [], _, _ => rfl
  | n + 1, 0, c :: t, _, h => by simp at h
  | n + 1, m + 1, [], _, _ => rfl
  | n + 1, m + 1, c :: t, h1, h2 => by
    rw [signsL, signsL]
    cases hs : signL (c :: t) with
    | none => rfl
    | some p =>
      obtain ⟨g, k⟩ := p
      have hk := signL_pos hs
      have hl : ((c :: t).drop k).length ≤ t.length := by rw [List.length_drop]; simp; omega
      simp only [List.length_cons] at h1 h2
      simp only []
      rw [signsL_fuel n m _ (by omega) (by omega)]

/-- All signs; none: they cannot be read. -/
def signsOf (l : List UInt8) : Option (List Sgn) := signsL l.length l
theorem signsOf_nil : signsOf [] = some [] := rfl
theorem signsOf_none {l : List UInt8} (h0 : l ≠ []) (h : signL l = none) : signsOf l = none := by
  cases l with
  | nil => exact absurd rfl h0
  | cons c t => unfold signsOf; rw [List.length_cons, signsL, h]
theorem signsOf_some {l : List UInt8} {g : Sgn} {k : Nat} (h : signL l = some (g, k)) : signsOf l = (signsOf (l.drop k)).map (g :: ·) := by
  cases l with
  | nil => cases h
  | cons c t =>
    have hk := signL_pos h
    unfold signsOf
    rw [List.length_cons, signsL, h]
    simp only []
    rw [signsL_fuel _ _ _ _ (Nat.le_refl _)]
    rw [List.length_drop]; simp; omega

def pieceB (s : ByteArray) : Bool := match signsOf s.data.toList with | some l => inB l.length 1 12 | none => false
def sgnsOf (s : ByteArray) : List Sgn := (signsOf s.data.toList).getD []
def globB (s : ByteArray) : Bool := decide ((splitS s 47).length ≤ 4) && (splitS s 47).all pieceB

theorem drop_cons (s : ByteArray) (i : Nat) (h : i < s.size) : s.data.toList.drop i = s[i] :: s.data.toList.drop (i + 1) := by
  rw [List.drop_eq_getElem_cons (by rw [len_list]; exact h)]; rfl
theorem drop_end (s : ByteArray) (i : Nat) (h : s.size ≤ i) : s.data.toList.drop i = [] := List.drop_eq_nil_of_le (by rw [len_list]; exact h)

/-- What is read so far, and the rest, are all. -/
def ReadTo (l : List UInt8) (i : Nat) (xs : List Sgn) : Prop := signsOf l = (signsOf (l.drop i)).map (xs ++ ·)
theorem readTo_start (l : List UInt8) : ReadTo l 0 [] := by unfold ReadTo; simp
theorem readTo_step {l : List UInt8} {i k : Nat} {xs : List Sgn} {g : Sgn} (h : ReadTo l i xs) (hs : signL (l.drop i) = some (g, k)) : ReadTo l (i + k) (xs ++ [g]) := by
  unfold ReadTo at *
  rw [h, signsOf_some hs, List.drop_drop, Option.map_map]
  congr 1
  funext ys
  simp
theorem readTo_none {l : List UInt8} {i : Nat} {xs : List Sgn} (h : ReadTo l i xs) (hi : i < l.length) (hs : signL (l.drop i) = none) : signsOf l = none := by
  unfold ReadTo at h
  rw [h, signsOf_none (by intro e; have := congrArg List.length e; rw [List.length_drop] at this; simp at this; omega) hs]; rfl
theorem readTo_end {l : List UInt8} {i : Nat} {xs : List Sgn} (h : ReadTo l i xs) (hi : l.length ≤ i) : signsOf l = some xs := by
  unfold ReadTo at h
  rw [h, List.drop_eq_nil_of_le hi]; simp [signsOf_nil]
/-- Where a thing is left to be read there is one more sign, or none at all can be read. -/
theorem readTo_more {l : List UInt8} {i : Nat} {xs ys : List Sgn} (h : ReadTo l i xs) (hi : i < l.length) (hy : signsOf l = some ys) : xs.length + 1 ≤ ys.length := by
  cases hs : signL (l.drop i) with
  | none => rw [readTo_none h hi hs] at hy; cases hy
  | some p =>
    obtain ⟨g, k⟩ := p
    have h2 := readTo_step h hs
    unfold ReadTo at h2
    rw [hy] at h2
    cases hz : signsOf (l.drop (i + k)) with
    | none => rw [hz] at h2; cases h2
    | some zs =>
      rw [hz] at h2
      simp only [Option.map_some, Option.some.injEq] at h2
      rw [h2]; simp

theorem runL_take {l : List UInt8} {i : Nat} : ∀ (n : Nat), (∀ j, j < n → ∃ c, l[i + j]? = some c ∧ setB (c.toNat : Int) = true) → runL (l.drop i) = n + runL (l.drop (i + n))
  | 0, _ => by simp
  | n + 1, h => by
    rw [runL_take n (fun j hj => h j (by omega))]
    obtain ⟨c, hc, hb⟩ := h n (by omega)
    have hi := (List.getElem?_eq_some_iff.1 hc).1
    have he := (List.getElem?_eq_some_iff.1 hc).2
    rw [List.drop_eq_getElem_cons hi, he, runL, if_pos hb, show i + (n + 1) = i + n + 1 by omega]
    omega
theorem runL_stop {l : List UInt8} (h : ∀ c t, l = c :: t → setB (c.toNat : Int) = false) : runL l = 0 := by
  cases l with
  | nil => rfl
  | cons c t => rw [runL, if_neg (by simp [h c t rfl])]
end Go.Proofs.Ytiadcebolcdhbaa

/-! What the specification's functions that look at a pattern answer (a set in brackets, a piece, a pattern): contracts for the walks; condition: the text has at most 2 to the 20 bytes. -/
namespace Go.Proofs.Ytiadcebolcdhbaa
open Go.RowKit
set_option linter.unusedSimpArgs false
set_option linter.unusedVariables false

theorem setL_at (l : List UInt8) (i m n : Nat) (hm : (headIs 33 (l.drop (i + 1))).toNat = m) (hn : runL (l.drop (i + 1 + m)) = n) :
    setL (l.drop (i + 1)) = if headIs 93 (l.drop (i + 1 + m + n)) && inB n 1 5 then some (⟨false, headIs 33 (l.drop (i + 1)), (l.drop (i + 1 + m)).take n⟩, 1 + m + n + 1) else none := by
  unfold setL
  have e : (l.drop (i + 1)).drop m = l.drop (i + 1 + m) := by rw [List.drop_drop]
  rw [hm, e, hn, List.drop_drop]

/-- The place behind what stands in brackets; -1: it is none. -/
def classI (s : ByteArray) (i : Nat) : Int := match setL (s.data.toList.drop (i + 1)) with | some (_, k) => ((i + k : Nat) : Int) | none => -1

theorem headIs_at (s : ByteArray) (n i : Nat) (h : i < s.size) : headIs n (s.data.toList.drop i) = ((s[i]).toNat == n) := by rw [drop_cons s i h]; rfl
theorem headIs_end (s : ByteArray) (n i : Nat) (h : s.size ≤ i) : headIs n (s.data.toList.drop i) = false := by rw [drop_end s i h]; rfl
theorem list_at (s : ByteArray) (i : Nat) (h : i < s.size) : s.data.toList[i]? = some s[i] := by
  rw [bang_list s i h, byteBang s i h]

/-- A run of bytes of a set, from place f on, j of them. -/
def RunTo (s : ByteArray) (f j : Nat) : Prop := ∀ i, i < j → ∃ c, s.data.toList[f + i]? = some c ∧ setB (c.toNat : Int) = true
theorem runTo_step {s : ByteArray} {f j : Nat} (h : RunTo s f j) (hk : f + j < s.size) (hb : setB ((s[f + j]).toNat : Int) = true) : RunTo s f (j + 1) := fun i hi => by
  by_cases e : i = j
  · subst e; exact ⟨_, list_at s _ hk, hb⟩
  · exact h i (by omega)
theorem runTo_end {s : ByteArray} {f j : Nat} (h : RunTo s f j) (he : ∀ (hk : f + j < s.size), setB ((s[f + j]).toNat : Int) = false) : runL (s.data.toList.drop f) = j := by
  rw [runL_take j h, runL_stop, Nat.add_zero]
  intro c t hc
  by_cases hk : f + j < s.size
  · rw [drop_cons s _ hk] at hc
    cases hc
    exact he hk
  · rw [drop_end s _ (by omega)] at hc
    cases hc
theorem classI_of {s : ByteArray} {i m n : Nat} (hm : (headIs 33 (s.data.toList.drop (i + 1))).toNat = m) (hn : runL (s.data.toList.drop (i + 1 + m)) = n) :
    classI s i = if headIs 93 (s.data.toList.drop (i + 1 + m + n)) && inB n 1 5 then ((i + 1 + m + n + 1 : Nat) : Int) else -1 := by
  unfold classI
  rw [setL_at _ i m n hm hn]
  split
  · rename_i h
    split at h
    · cases h
      rename_i hc
      rw [if_pos hc]
      omega
    · cases h
  · rename_i h
    split at h
    · cases h
    · rename_i hc
      rw [if_neg hc]

set_option maxHeartbeats 2000000 in
theorem class6_c (s : ByteArray) (i : Nat) (hi : i < s.size) (hs : s.size ≤ 1048576) (w : World) :
    Calls Try.prog 142 #[.string s, .int .i64 (i : Int)] w fun e w' => e = .returned (.int .i64 (classI s i)) ∧ w = w' := by
  by_cases h0 : i + 1 < s.size
  · have h0i : (i : Int) + 1 < (s.size : Int) := by omega
    cases hb : ((s[i + 1]).toNat == 33) with
    | true =>
      have hbi : (((s[i + 1]).toNat : Int) == 33) = true := by simp at hb ⊢; omega
      have HM : Hid ((headIs 33 (s.data.toList.drop (i + 1))).toNat = 1) := by show _ = _; rw [headIs_at s 33 _ h0, hb]; rfl
      go_enter Try.func142, Try.ntmps142
      go_wp2

      go_loop [5, 6] (fun v5 v6 => ∃ (j k : Nat), v5 = .int .i64 (k : Int) ∧ v6 = .int .i64 (j : Int) ∧ k ≤ s.size ∧ j ≤ k ∧ Hid (k = i + 1 + 1 + j ∧ RunTo s (i + 1 + 1) j)) (fun v5 _ => s.size - (intOf v5).toNat)
      case atStart => exact ⟨0, i + 1 + 1, by go_num, rfl, by omega, by omega, ⟨by omega, fun _ h => absurd h (by omega)⟩⟩
      case round =>
        obtain ⟨j, k, rfl, rfl, hk, hjk, hh⟩ := hrel
        by_cases hlt : k < s.size
        · have hki : (k : Int) < (s.size : Int) := by omega
          have hki2 : ¬ (s.size : Int) ≤ (k : Int) := by omega
          cases h1 : smallB ((s[k]).toNat : Int) with
          | true =>
            go_wp2_with (first
              | (go_at_call 90; refine (small_c _ (byte0 _) (byte255 _) _).mono ?_; rintro e w' ⟨rfl, rfl⟩; rw [h1]))
            go_round
            case rel => exact ⟨j + 1, k + 1, by go_num, by go_num, by omega, by omega, ⟨by have := hh.out.1; omega, by obtain ⟨rfl, h⟩ := hh.out; exact runTo_step h hlt (by simp [setB, h1])⟩⟩
            case measure => simp [intOf]; omega
          | false =>
            cases h2 : digitB ((s[k]).toNat : Int) with
            | true =>
              go_wp2_with (first
                | (go_at_call 90; refine (small_c _ (byte0 _) (byte255 _) _).mono ?_; rintro e w' ⟨rfl, rfl⟩; rw [h1])
                | (go_at_call 91; refine (digit_c _ (byte0 _) (byte255 _) _).mono ?_; rintro e w' ⟨rfl, rfl⟩; rw [h2]))
              go_round
              case rel => exact ⟨j + 1, k + 1, by go_num, by go_num, by omega, by omega, ⟨by have := hh.out.1; omega, by obtain ⟨rfl, h⟩ := hh.out; exact runTo_step h hlt (by simp [setB, h2])⟩⟩
              case measure => simp [intOf]; omega
            | false =>
              have HE : Hid (classI s i = if ((s[k]).toNat == 93) && inB j 1 5 then ((k + 1 : Nat) : Int) else -1) := by
                obtain ⟨rfl, h⟩ := hh.out
                have hr := runTo_end h (fun hk => by simp [setB, h1, h2])
                show _ = _
                rw [classI_of HM.out hr, headIs_at s 93 _ hlt]
              cases hin : inB j 1 5 with
              | false =>
                go_wp2_with (first
                  | (go_at_call 90; refine (small_c _ (byte0 _) (byte255 _) _).mono ?_; rintro e w' ⟨rfl, rfl⟩; rw [h1])
                  | (go_at_call 91; refine (digit_c _ (byte0 _) (byte255 _) _).mono ?_; rintro e w' ⟨rfl, rfl⟩; rw [h2])
                  | (go_at_call 92; refine (in_c _ _ _ _).mono ?_; rintro e w' ⟨rfl, rfl⟩; rw [hin]))
                go_ret
                exact ⟨by rw [HE.out, hin]; simp, rfl⟩
              | true =>
                cases h93 : ((s[k]).toNat == 93) with
                | true =>
                  have h93' : (((s[k]).toNat : Int) != 93) = false := by simp at h93 ⊢; omega
                  go_wp2_with (first
                    | (go_at_call 90; refine (small_c _ (byte0 _) (byte255 _) _).mono ?_; rintro e w' ⟨rfl, rfl⟩; rw [h1])
                    | (go_at_call 91; refine (digit_c _ (byte0 _) (byte255 _) _).mono ?_; rintro e w' ⟨rfl, rfl⟩; rw [h2])
                    | (go_at_call 92; refine (in_c _ _ _ _).mono ?_; rintro e w' ⟨rfl, rfl⟩; rw [hin]))
                  go_ret
                  exact ⟨by rw [HE.out, hin, h93]; simp, rfl⟩
                | false =>
                  have h93' : (((s[k]).toNat : Int) != 93) = true := by simp at h93 ⊢; omega
                  go_wp2_with (first
                    | (go_at_call 90; refine (small_c _ (byte0 _) (byte255 _) _).mono ?_; rintro e w' ⟨rfl, rfl⟩; rw [h1])
                    | (go_at_call 91; refine (digit_c _ (byte0 _) (byte255 _) _).mono ?_; rintro e w' ⟨rfl, rfl⟩; rw [h2])
                    | (go_at_call 92; refine (in_c _ _ _ _).mono ?_; rintro e w' ⟨rfl, rfl⟩; rw [hin]))
                  go_ret
                  exact ⟨by rw [HE.out, hin, h93]; simp, rfl⟩
        · have hki : ¬ (k : Int) < (s.size : Int) := by omega
          have hki2 : (s.size : Int) ≤ (k : Int) := by omega
          have HE : Hid (classI s i = -1) := by
            obtain ⟨rfl, h⟩ := hh.out
            have hr := runTo_end h (fun hk => absurd hk hlt)
            show _ = _
            rw [classI_of HM.out hr, headIs_end s 93 _ (by omega)]; rfl
          cases hin : inB j 1 5 with
          | false =>
            go_wp2_with (go_at_call 92; refine (in_c _ _ _ _).mono ?_; rintro e w' ⟨rfl, rfl⟩; rw [hin])
            go_ret
            exact ⟨by rw [HE.out]; rfl, rfl⟩
          | true =>
            go_wp2_with (go_at_call 92; refine (in_c _ _ _ _).mono ?_; rintro e w' ⟨rfl, rfl⟩; rw [hin])
            go_ret
            exact ⟨by rw [HE.out]; rfl, rfl⟩

    | false =>
      have hbi : (((s[i + 1]).toNat : Int) == 33) = false := by simp at hb ⊢; omega
      have HM : Hid ((headIs 33 (s.data.toList.drop (i + 1))).toNat = 0) := by show _ = _; rw [headIs_at s 33 _ h0, hb]; rfl
      go_enter Try.func142, Try.ntmps142
      go_wp2

      go_loop [5, 6] (fun v5 v6 => ∃ (j k : Nat), v5 = .int .i64 (k : Int) ∧ v6 = .int .i64 (j : Int) ∧ k ≤ s.size ∧ j ≤ k ∧ Hid (k = i + 1 + 0 + j ∧ RunTo s (i + 1 + 0) j)) (fun v5 _ => s.size - (intOf v5).toNat)
      case atStart => exact ⟨0, i + 1 + 0, by go_num, rfl, by omega, by omega, ⟨by omega, fun _ h => absurd h (by omega)⟩⟩
      case round =>
        obtain ⟨j, k, rfl, rfl, hk, hjk, hh⟩ := hrel
        by_cases hlt : k < s.size
        · have hki : (k : Int) < (s.size : Int) := by omega
          have hki2 : ¬ (s.size : Int) ≤ (k : Int) := by omega
          cases h1 : smallB ((s[k]).toNat : Int) with
          | true =>
            go_wp2_with (first
              | (go_at_call 90; refine (small_c _ (byte0 _) (byte255 _) _).mono ?_; rintro e w' ⟨rfl, rfl⟩; rw [h1]))
            go_round
            case rel => exact ⟨j + 1, k + 1, by go_num, by go_num, by omega, by omega, ⟨by have := hh.out.1; omega, by obtain ⟨rfl, h⟩ := hh.out; exact runTo_step h hlt (by simp [setB, h1])⟩⟩
            case measure => simp [intOf]; omega
          | false =>
            cases h2 : digitB ((s[k]).toNat : Int) with
            | true =>
              go_wp2_with (first
                | (go_at_call 90; refine (small_c _ (byte0 _) (byte255 _) _).mono ?_; rintro e w' ⟨rfl, rfl⟩; rw [h1])
                | (go_at_call 91; refine (digit_c _ (byte0 _) (byte255 _) _).mono ?_; rintro e w' ⟨rfl, rfl⟩; rw [h2]))
              go_round
              case rel => exact ⟨j + 1, k + 1, by go_num, by go_num, by omega, by omega, ⟨by have := hh.out.1; omega, by obtain ⟨rfl, h⟩ := hh.out; exact runTo_step h hlt (by simp [setB, h2])⟩⟩
              case measure => simp [intOf]; omega
            | false =>
              have HE : Hid (classI s i = if ((s[k]).toNat == 93) && inB j 1 5 then ((k + 1 : Nat) : Int) else -1) := by
                obtain ⟨rfl, h⟩ := hh.out
                have hr := runTo_end h (fun hk => by simp [setB, h1, h2])
                show _ = _
                rw [classI_of HM.out hr, headIs_at s 93 _ hlt]
              cases hin : inB j 1 5 with
              | false =>
                go_wp2_with (first
                  | (go_at_call 90; refine (small_c _ (byte0 _) (byte255 _) _).mono ?_; rintro e w' ⟨rfl, rfl⟩; rw [h1])
                  | (go_at_call 91; refine (digit_c _ (byte0 _) (byte255 _) _).mono ?_; rintro e w' ⟨rfl, rfl⟩; rw [h2])
                  | (go_at_call 92; refine (in_c _ _ _ _).mono ?_; rintro e w' ⟨rfl, rfl⟩; rw [hin]))
                go_ret
                exact ⟨by rw [HE.out, hin]; simp, rfl⟩
              | true =>
                cases h93 : ((s[k]).toNat == 93) with
                | true =>
                  have h93' : (((s[k]).toNat : Int) != 93) = false := by simp at h93 ⊢; omega
                  go_wp2_with (first
                    | (go_at_call 90; refine (small_c _ (byte0 _) (byte255 _) _).mono ?_; rintro e w' ⟨rfl, rfl⟩; rw [h1])
                    | (go_at_call 91; refine (digit_c _ (byte0 _) (byte255 _) _).mono ?_; rintro e w' ⟨rfl, rfl⟩; rw [h2])
                    | (go_at_call 92; refine (in_c _ _ _ _).mono ?_; rintro e w' ⟨rfl, rfl⟩; rw [hin]))
                  go_ret
                  exact ⟨by rw [HE.out, hin, h93]; simp, rfl⟩
                | false =>
                  have h93' : (((s[k]).toNat : Int) != 93) = true := by simp at h93 ⊢; omega
                  go_wp2_with (first
                    | (go_at_call 90; refine (small_c _ (byte0 _) (byte255 _) _).mono ?_; rintro e w' ⟨rfl, rfl⟩; rw [h1])
                    | (go_at_call 91; refine (digit_c _ (byte0 _) (byte255 _) _).mono ?_; rintro e w' ⟨rfl, rfl⟩; rw [h2])
                    | (go_at_call 92; refine (in_c _ _ _ _).mono ?_; rintro e w' ⟨rfl, rfl⟩; rw [hin]))
                  go_ret
                  exact ⟨by rw [HE.out, hin, h93]; simp, rfl⟩
        · have hki : ¬ (k : Int) < (s.size : Int) := by omega
          have hki2 : (s.size : Int) ≤ (k : Int) := by omega
          have HE : Hid (classI s i = -1) := by
            obtain ⟨rfl, h⟩ := hh.out
            have hr := runTo_end h (fun hk => absurd hk hlt)
            show _ = _
            rw [classI_of HM.out hr, headIs_end s 93 _ (by omega)]; rfl
          cases hin : inB j 1 5 with
          | false =>
            go_wp2_with (go_at_call 92; refine (in_c _ _ _ _).mono ?_; rintro e w' ⟨rfl, rfl⟩; rw [hin])
            go_ret
            exact ⟨by rw [HE.out]; rfl, rfl⟩
          | true =>
            go_wp2_with (go_at_call 92; refine (in_c _ _ _ _).mono ?_; rintro e w' ⟨rfl, rfl⟩; rw [hin])
            go_ret
            exact ⟨by rw [HE.out]; rfl, rfl⟩

  · have h0i : ¬ (i : Int) + 1 < (s.size : Int) := by omega
    have HM : Hid ((headIs 33 (s.data.toList.drop (i + 1))).toNat = 0) := by show _ = _; rw [headIs_end s 33 _ (by omega)]; rfl
    go_enter Try.func142, Try.ntmps142
    go_wp2

    go_loop [5, 6] (fun v5 v6 => ∃ (j k : Nat), v5 = .int .i64 (k : Int) ∧ v6 = .int .i64 (j : Int) ∧ k ≤ s.size ∧ j ≤ k ∧ Hid (k = i + 1 + 0 + j ∧ RunTo s (i + 1 + 0) j)) (fun v5 _ => s.size - (intOf v5).toNat)
    case atStart => exact ⟨0, i + 1 + 0, by go_num, rfl, by omega, by omega, ⟨by omega, fun _ h => absurd h (by omega)⟩⟩
    case round =>
      obtain ⟨j, k, rfl, rfl, hk, hjk, hh⟩ := hrel
      by_cases hlt : k < s.size
      · have hki : (k : Int) < (s.size : Int) := by omega
        have hki2 : ¬ (s.size : Int) ≤ (k : Int) := by omega
        cases h1 : smallB ((s[k]).toNat : Int) with
        | true =>
          go_wp2_with (first
            | (go_at_call 90; refine (small_c _ (byte0 _) (byte255 _) _).mono ?_; rintro e w' ⟨rfl, rfl⟩; rw [h1]))
          go_round
          case rel => exact ⟨j + 1, k + 1, by go_num, by go_num, by omega, by omega, ⟨by have := hh.out.1; omega, by obtain ⟨rfl, h⟩ := hh.out; exact runTo_step h hlt (by simp [setB, h1])⟩⟩
          case measure => simp [intOf]; omega
        | false =>
          cases h2 : digitB ((s[k]).toNat : Int) with
          | true =>
            go_wp2_with (first
              | (go_at_call 90; refine (small_c _ (byte0 _) (byte255 _) _).mono ?_; rintro e w' ⟨rfl, rfl⟩; rw [h1])
              | (go_at_call 91; refine (digit_c _ (byte0 _) (byte255 _) _).mono ?_; rintro e w' ⟨rfl, rfl⟩; rw [h2]))
            go_round
            case rel => exact ⟨j + 1, k + 1, by go_num, by go_num, by omega, by omega, ⟨by have := hh.out.1; omega, by obtain ⟨rfl, h⟩ := hh.out; exact runTo_step h hlt (by simp [setB, h2])⟩⟩
            case measure => simp [intOf]; omega
          | false =>
            have HE : Hid (classI s i = if ((s[k]).toNat == 93) && inB j 1 5 then ((k + 1 : Nat) : Int) else -1) := by
              obtain ⟨rfl, h⟩ := hh.out
              have hr := runTo_end h (fun hk => by simp [setB, h1, h2])
              show _ = _
              rw [classI_of HM.out hr, headIs_at s 93 _ hlt]
            cases hin : inB j 1 5 with
            | false =>
              go_wp2_with (first
                | (go_at_call 90; refine (small_c _ (byte0 _) (byte255 _) _).mono ?_; rintro e w' ⟨rfl, rfl⟩; rw [h1])
                | (go_at_call 91; refine (digit_c _ (byte0 _) (byte255 _) _).mono ?_; rintro e w' ⟨rfl, rfl⟩; rw [h2])
                | (go_at_call 92; refine (in_c _ _ _ _).mono ?_; rintro e w' ⟨rfl, rfl⟩; rw [hin]))
              go_ret
              exact ⟨by rw [HE.out, hin]; simp, rfl⟩
            | true =>
              cases h93 : ((s[k]).toNat == 93) with
              | true =>
                have h93' : (((s[k]).toNat : Int) != 93) = false := by simp at h93 ⊢; omega
                go_wp2_with (first
                  | (go_at_call 90; refine (small_c _ (byte0 _) (byte255 _) _).mono ?_; rintro e w' ⟨rfl, rfl⟩; rw [h1])
                  | (go_at_call 91; refine (digit_c _ (byte0 _) (byte255 _) _).mono ?_; rintro e w' ⟨rfl, rfl⟩; rw [h2])
                  | (go_at_call 92; refine (in_c _ _ _ _).mono ?_; rintro e w' ⟨rfl, rfl⟩; rw [hin]))
                go_ret
                exact ⟨by rw [HE.out, hin, h93]; simp, rfl⟩
              | false =>
                have h93' : (((s[k]).toNat : Int) != 93) = true := by simp at h93 ⊢; omega
                go_wp2_with (first
                  | (go_at_call 90; refine (small_c _ (byte0 _) (byte255 _) _).mono ?_; rintro e w' ⟨rfl, rfl⟩; rw [h1])
                  | (go_at_call 91; refine (digit_c _ (byte0 _) (byte255 _) _).mono ?_; rintro e w' ⟨rfl, rfl⟩; rw [h2])
                  | (go_at_call 92; refine (in_c _ _ _ _).mono ?_; rintro e w' ⟨rfl, rfl⟩; rw [hin]))
                go_ret
                exact ⟨by rw [HE.out, hin, h93]; simp, rfl⟩
      · have hki : ¬ (k : Int) < (s.size : Int) := by omega
        have hki2 : (s.size : Int) ≤ (k : Int) := by omega
        have HE : Hid (classI s i = -1) := by
          obtain ⟨rfl, h⟩ := hh.out
          have hr := runTo_end h (fun hk => absurd hk hlt)
          show _ = _
          rw [classI_of HM.out hr, headIs_end s 93 _ (by omega)]; rfl
        cases hin : inB j 1 5 with
        | false =>
          go_wp2_with (go_at_call 92; refine (in_c _ _ _ _).mono ?_; rintro e w' ⟨rfl, rfl⟩; rw [hin])
          go_ret
          exact ⟨by rw [HE.out]; rfl, rfl⟩
        | true =>
          go_wp2_with (go_at_call 92; refine (in_c _ _ _ _).mono ?_; rintro e w' ⟨rfl, rfl⟩; rw [hin])
          go_ret
          exact ⟨by rw [HE.out]; rfl, rfl⟩

end Go.Proofs.Ytiadcebolcdhbaa

/-! What the specification's functions that look at a piece and at a pattern answer: contracts for the walks; condition: the text has at most 2 to the 20 bytes. -/
namespace Go.Proofs.Ytiadcebolcdhbaa
open Go.RowKit
set_option linter.unusedSimpArgs false
set_option linter.unusedVariables false

theorem headIs_pos {n : Nat} {l : List UInt8} (h : headIs n l = true) : 0 < l.length := by
  cases l with
  | nil => cases h
  | cons c t => simp
theorem headIs_len {n : Nat} {l : List UInt8} : (headIs n l).toNat ≤ l.length := by
  cases l with
  | nil => simp [headIs]
  | cons c t => have : (headIs n (c :: t)).toNat ≤ 1 := Bool.toNat_le _; simp; omega
theorem setL_le {t : List UInt8} {g : Sgn} {k : Nat} (h : setL t = some (g, k)) : k ≤ t.length + 1 := by
  unfold setL at h
  split at h
  · rename_i hc
    rw [Bool.and_eq_true] at hc
    have h1 := headIs_pos hc.1
    rw [List.drop_drop, List.length_drop] at h1
    cases h
    omega
  · cases h
theorem signL_le {l : List UInt8} {g : Sgn} {k : Nat} (h : signL l = some (g, k)) : k ≤ l.length := by
  cases l with
  | nil => cases h
  | cons c t =>
    rw [signL_cons] at h
    simp only [List.length_cons]
    split at h
    · exact setL_le h
    split at h
    · cases h; omega
    split at h
    · cases h; omega
    split at h
    · cases h; omega
    · cases h

theorem signL_set {s : ByteArray} {i : Nat} (hi : i < s.size) (h : (s[i]).toNat = 91) : signL (s.data.toList.drop i) = setL (s.data.toList.drop (i + 1)) := by
  rw [drop_cons s i hi, signL_cons, if_pos h]
theorem signL_star {s : ByteArray} {i : Nat} (hi : i < s.size) (h : (s[i]).toNat = 42) : signL (s.data.toList.drop i) = some (⟨true, false, []⟩, 1) := by
  rw [drop_cons s i hi, signL_cons, if_neg (by omega), if_pos h]
theorem signL_any {s : ByteArray} {i : Nat} (hi : i < s.size) (h : (s[i]).toNat = 63) : signL (s.data.toList.drop i) = some (⟨false, true, []⟩, 1) := by
  rw [drop_cons s i hi, signL_cons, if_neg (by omega), if_neg (by omega), if_pos h]
theorem pathC_not {n : Nat} (h : pathC (n : Int) = true) : n ≠ 91 ∧ n ≠ 42 ∧ n ≠ 63 ∧ n ≠ 33 := by
  refine ⟨?_, ?_, ?_, ?_⟩ <;> (rintro rfl; exact absurd h (by decide))
theorem signL_path {s : ByteArray} {i : Nat} (hi : i < s.size) (h : pathC ((s[i]).toNat : Int) = true) : signL (s.data.toList.drop i) = some (⟨false, false, [s[i]]⟩, 1) := by
  obtain ⟨h1, h2, h3, _⟩ := pathC_not h
  rw [drop_cons s i hi, signL_cons, if_neg h1, if_neg h2, if_neg h3, if_pos h]
theorem signL_bad {s : ByteArray} {i : Nat} (hi : i < s.size) (h1 : (s[i]).toNat ≠ 91) (h2 : (s[i]).toNat ≠ 42) (h3 : (s[i]).toNat ≠ 63) (h : pathC ((s[i]).toNat : Int) = false) : signL (s.data.toList.drop i) = none := by
  rw [drop_cons s i hi, signL_cons, if_neg h1, if_neg h2, if_neg h3, if_neg (by simp [h])]

theorem pieceB_none {s : ByteArray} (h : signsOf s.data.toList = none) : pieceB s = false := by unfold pieceB; rw [h]
theorem pieceB_some {s : ByteArray} {l : List Sgn} (h : signsOf s.data.toList = some l) : pieceB s = inB l.length 1 12 := by unfold pieceB; rw [h]

theorem readTo_bad {s : ByteArray} {i : Nat} {xs : List Sgn} (h : ReadTo s.data.toList i xs) (hi : i < s.size) (hs : signL (s.data.toList.drop i) = none) : pieceB s = false :=
  pieceB_none (readTo_none h (by rw [len_list]; exact hi) hs)
theorem readTo_all {s : ByteArray} {i : Nat} {xs : List Sgn} (h : ReadTo s.data.toList i xs) (hi : s.size ≤ i) : pieceB s = inB xs.length 1 12 :=
  pieceB_some (readTo_end h (by rw [len_list]; exact hi))
theorem signL_in {s : ByteArray} {i k : Nat} {g : Sgn} (hi : i < s.size) (h : signL (s.data.toList.drop i) = some (g, k)) : i + k ≤ s.size := by
  have := signL_le h
  rw [List.length_drop, len_list] at this
  omega

set_option maxHeartbeats 2000000 in
theorem piece6_c (s : ByteArray) (hs : s.size ≤ 1048576) (w : World) :
    Calls Try.prog 120 #[.string s] w fun e w' => e = .returned (.bool (pieceB s)) ∧ w = w' := by
  go_enter Try.func120, Try.ntmps120
  go_wp2
  go_loop [3, 4] (fun v3 v4 => ∃ (n i : Nat), v3 = .int .i64 (n : Int) ∧ v4 = .int .i64 (i : Int) ∧ i ≤ s.size ∧ n ≤ i ∧ Hid (∃ xs, xs.length = n ∧ ReadTo s.data.toList i xs)) (fun _ v4 => s.size - (intOf v4).toNat)
  case atStart => exact ⟨0, 0, rfl, rfl, by omega, by omega, ⟨[], rfl, readTo_start _⟩⟩
  case round =>
    obtain ⟨n, i, rfl, rfl, hi, hn, HH⟩ := hrel
    by_cases hlt : i < s.size
    · have hki : (i : Int) < (s.size : Int) := by omega
      have HG : Hid (∀ g k, signL (s.data.toList.drop i) = some (g, k) → 1 ≤ k ∧ i + k ≤ s.size ∧ ∃ xs, xs.length = n + 1 ∧ ReadTo s.data.toList (i + k) xs) := fun g k h => by
        obtain ⟨xs, h1, h2⟩ := HH.out
        exact ⟨signL_pos h, signL_in hlt h, xs ++ [g], by simp [h1], readTo_step h2 h⟩
      have HB : Hid (signL (s.data.toList.drop i) = none → pieceB s = false) := fun h => by
        obtain ⟨xs, h1, h2⟩ := HH.out
        exact readTo_bad h2 hlt h
      by_cases h91 : (s[i]).toNat = 91
      · have h91' : (((s[i]).toNat : Int) == 91) = true := by simp; omega
        have HS : Hid (signL (s.data.toList.drop i) = setL (s.data.toList.drop (i + 1))) := signL_set hlt h91
        cases hc : setL (s.data.toList.drop (i + 1)) with
        | none =>
          have hv : classI s i = -1 := by unfold classI; rw [hc]
          have HP : Hid (pieceB s = false) := HB.out (by rw [HS.out, hc])
          clear hc HS HB HG h91
          go_wp2_with (go_at_call 142; refine (class6_c s i hlt hs _).mono ?_; rintro e w' ⟨rfl, rfl⟩; rw [hv])
          go_ret
          exact ⟨by rw [HP.out]; rfl, rfl⟩
        | some p =>
          obtain ⟨g, k⟩ := p
          have hv : classI s i = ((i + k : Nat) : Int) := by unfold classI; rw [hc]
          obtain ⟨q1, q2, q3⟩ := HG.out g k (by rw [HS.out, hc])
          have HQ : Hid (∃ xs, xs.length = n + 1 ∧ ReadTo s.data.toList (i + k) xs) := q3
          obtain ⟨j, hj⟩ : ∃ j, j = i + k := ⟨_, rfl⟩
          rw [← hj] at hv HQ q2
          have hnj : n + 1 ≤ j ∧ i < j := by omega
          have hj0 : ¬ (j : Int) < 0 := by omega
          clear hc HS HB HG q3 h91 hj q1
          go_wp2_with (go_at_call 142; refine (class6_c s i hlt hs _).mono ?_; rintro e w' ⟨rfl, rfl⟩; rw [hv])
          go_round
          case rel => exact ⟨n + 1, j, by go_num, rfl, q2, hnj.1, HQ⟩
          case measure => simp [intOf]; omega
      · have h91' : (((s[i]).toNat : Int) == 91) = false := by simp; omega
        cases hp : pathC ((s[i]).toNat : Int) with
        | true =>
          obtain ⟨_, q2, q3⟩ := HG.out _ _ (signL_path hlt hp)
          have HQ : Hid (∃ xs, xs.length = n + 1 ∧ ReadTo s.data.toList (i + 1) xs) := q3
          clear HB HG q3 h91
          go_wp2_with (go_at_call 143; refine (letter5_c _ (byte0 _) (byte255 _) _).mono ?_; rintro e w' ⟨rfl, rfl⟩; rw [hp])
          go_round
          case rel => exact ⟨n + 1, i + 1, by go_num, by go_num, by omega, by omega, HQ⟩
          case measure => simp [intOf]; omega
        | false =>
          by_cases h63 : (s[i]).toNat = 63
          · have h63' : (((s[i]).toNat : Int) == 63) = true := by simp; omega
            obtain ⟨_, q2, q3⟩ := HG.out _ _ (signL_any hlt h63)
            have HQ : Hid (∃ xs, xs.length = n + 1 ∧ ReadTo s.data.toList (i + 1) xs) := q3
            clear HB HG q3 h91 h63
            go_wp2_with (go_at_call 143; refine (letter5_c _ (byte0 _) (byte255 _) _).mono ?_; rintro e w' ⟨rfl, rfl⟩; rw [hp])
            go_round
            case rel => exact ⟨n + 1, i + 1, by go_num, by go_num, by omega, by omega, HQ⟩
            case measure => simp [intOf]; omega
          · have h63' : (((s[i]).toNat : Int) == 63) = false := by simp; omega
            by_cases h42 : (s[i]).toNat = 42
            · have h42' : (((s[i]).toNat : Int) == 42) = true := by simp; omega
              obtain ⟨_, q2, q3⟩ := HG.out _ _ (signL_star hlt h42)
              have HQ : Hid (∃ xs, xs.length = n + 1 ∧ ReadTo s.data.toList (i + 1) xs) := q3
              clear HB HG q3 h91 h63 h42
              go_wp2_with (go_at_call 143; refine (letter5_c _ (byte0 _) (byte255 _) _).mono ?_; rintro e w' ⟨rfl, rfl⟩; rw [hp])
              go_round
              case rel => exact ⟨n + 1, i + 1, by go_num, by go_num, by omega, by omega, HQ⟩
              case measure => simp [intOf]; omega
            · have h42' : (((s[i]).toNat : Int) == 42) = false := by simp; omega
              have HP : Hid (pieceB s = false) := HB.out (signL_bad hlt h91 h42 h63 hp)
              clear HB HG h91 h63 h42
              go_wp2_with (go_at_call 143; refine (letter5_c _ (byte0 _) (byte255 _) _).mono ?_; rintro e w' ⟨rfl, rfl⟩; rw [hp])
              go_ret
              exact ⟨by rw [HP.out]; rfl, rfl⟩
    · have hki : ¬ (i : Int) < (s.size : Int) := by omega
      have HP : Hid (pieceB s = inB n 1 12) := by
        obtain ⟨xs, h1, h2⟩ := HH.out
        show _ = _
        rw [readTo_all h2 (by omega), h1]
      go_wp2_with (go_at_call 92; refine (in_c _ _ _ _).mono ?_; rintro e w' ⟨rfl, rfl⟩)
      go_ret
      exact ⟨by rw [HP.out]; rfl, rfl⟩

theorem pieceB_stars {s : ByteArray} (h : s.toList = [42, 42]) : pieceB s = true := by
  have e : s.data.toList = [42, 42] := by rw [← Lib.toList_data]; exact h
  rw [pieceB_some (l := [⟨true, false, []⟩, ⟨true, false, []⟩]) (by rw [e]; rfl)]
  rfl

set_option maxHeartbeats 1000000 in
set_option maxRecDepth 100000 in
theorem specGlob_c (s : ByteArray) (w : World) (hs : s.size ≤ 1048576) :
    Calls Try.prog 97 #[.string s] w fun e w' => e = .returned (.bool (globB s)) ∧ Below w.heap.size w w' := by
  obtain ⟨l, hl⟩ : ∃ l, l = splitS s 47 := ⟨_, rfl⟩
  have hsz : ∀ x ∈ l, x.size ≤ 1048576 := fun x hx => by rw [hl] at hx; have := splitS_piece s 47 x hx; omega
  have hln : l.length ≤ 1048577 := by rw [hl]; have := splitS_len s 47; omega
  have hpb : globB s = (decide (l.length ≤ 4) && l.all pieceB) := by rw [globB, ← hl]
  have hcs := specSplit_c s 47 w hs
  rw [← hl] at hcs
  rw [hpb]
  clear hl hpb
  go_enter Try.func97, Try.ntmps97
  go_wp2_with (go_at_call 52; refine hcs.mono ?_; rintro e w1 ⟨v, rfl, ho, hb⟩; obtain ⟨a, cap, rfl, _, hc⟩ := reads_strs (reads_of_owns ho); clear ho hcs)
  go_loopw [4] (fun vi wr => ∃ k : Nat, k ≤ l.length ∧ vi = .int .i64 (k : Int) ∧ Hid ((l.take k).all pieceB = true) ∧ wr = w1) (fun vi _ => l.length - (intOf vi).toNat)
  case atStart => exact ⟨0, Nat.zero_le _, rfl, (by show _ = _; simp), rfl⟩
  case round =>
    obtain ⟨k, hk, rfl, hh, rfl⟩ := hrel
    by_cases hlt : k < l.length
    · rcases hc with rfl | ⟨b, off, rfl, hbl, hc⟩
      · simp at hlt
      have hki : (k : Int) < (l.length : Int) := by omega
      have hcx := hc k hlt
      have hx := hsz l[k] (List.getElem_mem hlt)
      obtain ⟨x, hxe⟩ : ∃ x, x = l[k] := ⟨_, rfl⟩
      rw [← hxe] at hcx hx
      have HX : Hid (x = l[k]) := hxe
      clear hc hxe hsz
      cases h2 : (x.toList == [42, 42]) with
      | true =>
        have hp : pieceB x = true := pieceB_stars (by simpa using h2)
        have h2' : (x.toList != [42, 42]) = false := by simp [bne, h2]
        go_wp2_with fail
        go_roundw
        case rel => exact ⟨k + 1, by omega, by go_num, all_take_step hlt hh.out (by rw [← HX.out]; exact hp), (by first | rfl | trivial)⟩
        case measure => simp [intOf]; omega
      | false =>
        have h2' : (x.toList != [42, 42]) = true := by simp [bne, h2]
        cases hp : pieceB x with
        | true =>
          go_wp2_with (go_at_call 120; refine (piece6_c x hx _).mono ?_; rintro e w' ⟨rfl, rfl⟩; rw [hp])
          go_roundw
          case rel => exact ⟨k + 1, by omega, by go_num, all_take_step hlt hh.out (by rw [← HX.out]; exact hp), (by first | rfl | trivial)⟩
          case measure => simp [intOf]; omega
        | false =>
          go_wp2_with (go_at_call 120; refine (piece6_c x hx _).mono ?_; rintro e w' ⟨rfl, rfl⟩; rw [hp])
          go_ret
          exact ⟨by rw [all_false_at hlt (by rw [← HX.out]; exact hp)]; simp, hb⟩
    · have he : k = l.length := by omega
      subst he
      have ha : l.all pieceB = true := by have := hh.out; rwa [List.take_length] at this
      clear hc hsz
      go_wp2
      go_ret
      exact ⟨by rw [ha]; simp; omega, hb⟩
end Go.Proofs.Ytiadcebolcdhbaa

/-! When a rule, and rules, are right; no condition. -/
namespace Go.Proofs.Ytiadcebolcdhbaa
open Go.RowKit
set_option linter.unusedSimpArgs false
set_option linter.unusedVariables false

def fewB (p : ByteArray → Bool) (n : Nat) (l : List ByteArray) : Bool := decide (l.length ≤ n) && l.all p
def inTB (s : ByteArray) : Bool := decide (s.size ≤ 60) && globB s
def ruleB (d : RuleD) : Bool := nameB d.task && (fewB onB 4 d.on && (fewB inTB 4 d.ins && fewB nameB 3 d.envs))
def rulesB (xs : List RuleD) : Bool := rowB ruleB RuleD.task xs && decide (xs.length ≤ 5)
theorem not_any_r {α : Type} (p : α → Bool) (xs : List α) : (!(xs.any fun x => !p x)) = xs.all p := by
  induction xs with
  | nil => rfl
  | cons a l ih => simp only [List.any_cons, List.all_cons, Bool.not_or, Bool.not_not, ih]
theorem rulesB_eq (xs : List RuleD) : rulesB xs = (decide (xs.length ≤ 5) && (ascB (xs.map RuleD.task) && !(xs.any fun d => !ruleB d))) := by
  rw [rulesB, rowB_split, not_any_r]
  cases decide (xs.length ≤ 5) <;> cases ascB (xs.map RuleD.task) <;> cases xs.all ruleB <;> rfl
/-- Each text of a rule has at most 2 to the 20 bytes. -/
def smallR (d : RuleD) : Prop := (∀ s ∈ d.on, s.size ≤ 1048576) ∧ (∀ s ∈ d.ins, s.size ≤ 1048576) ∧ (∀ s ∈ d.envs, s.size ≤ 1048576)
theorem bulk_mem {ss : List ByteArray} {s : ByteArray} (h : s ∈ ss) : s.size ≤ bulkS ss := by
  have : s.size ≤ (ss.map ByteArray.size).sum := by
    induction ss with
    | nil => simp at h
    | cons a l ih =>
      simp only [List.map_cons, List.sum_cons]
      rcases List.mem_cons.1 h with rfl | h
      · omega
      · have := ih h; omega
  unfold bulkS; omega
theorem smallR_of {d : RuleD} (h : wtRule d ≤ 1048576) : smallR d := by
  unfold wtRule at h
  refine ⟨fun s hs => ?_, fun s hs => ?_, fun s hs => ?_⟩ <;> (have := bulk_mem hs; omega)
theorem smallRs_of {xs : List RuleD} (h : wtRow wtRule xs ≤ 1048576) : ∀ d ∈ xs, smallR d := fun d hd => smallR_of (by have := wt_wtRow wtRule hd; omega)
theorem below_nextR {w w1 w2 : World} (h : Below w.heap.size w w1) (h2 : Below w1.heap.size w1 w2) : Below w.heap.size w w2 := h.trans (h2.mono h.size)
end Go.Proofs.Ytiadcebolcdhbaa

/-! A scope in which the run jumps to several labels: what holds at every jump, label by label, and a measure that every pass from a label lowers; no condition (a law for the walks, after the library's for one label). -/
namespace Go.Proofs.Ytiadcebolcdhbaa
set_option linter.unusedSimpArgs false
set_option linter.unusedVariables false

/-- As Q; by a goto to label l: J l. -/
def jumpsTo (J : Nat → Act → World → Prop) (Q : Exit → Act → World → Prop) : Exit → Act → World → Prop
  | .goto l, a, w => J l a w
  | e, a, w => Q e a w

section
variable {P : Program} {a : Act} {w : World} {Q : Exit → Act → World → Prop}

theorem jumpsTo_normal {J : Nat → Act → World → Prop} : jumpsTo J Q .normal a w = Q .normal a w := rfl
theorem jumpsTo_ret {J : Nat → Act → World → Prop} : jumpsTo J Q .ret a w = Q .ret a w := rfl
theorem jumpsTo_goto {J : Nat → Act → World → Prop} {l : Nat} : jumpsTo J Q (.goto l) a w = J l a w := rfl
theorem jumpsTo_exit {J : Nat → Act → World → Prop} {l : Nat} : jumpsTo J Q (.exit l) a w = Q (.exit l) a w := rfl

theorem jumpsTo_mono {J J' : Nat → Act → World → Prop} {Q' : Exit → Act → World → Prop} (hJ : ∀ l a w, J l a w → J' l a w) (hQ : ∀ e a w, Q e a w → Q' e a w) : ∀ e a w, jumpsTo J Q e a w → jumpsTo J' Q' e a w
  | .goto l, a, w, h => hJ l a w h
  | .normal, a, w, h => hQ _ a w h
  | .exit _, a, w, h => hQ _ a w h
  | .ret, a, w, h => hQ _ a w h
  | .panic _, a, w, h => hQ _ a w h
  | .outgrown, a, w, h => hQ _ a w h

theorem wp_scope_labels {c : Code} (R : Nat → Code) (J : Nat → Act → World → Prop) (μ : Nat → Act → World → Nat) (hf : ∀ l a w, J l a w → findLabel c l = some (R l))
    (first : c.wp P (jumpsTo J Q) a w)
    (pass : ∀ l a w, J l a w → (R l).wp P (jumpsTo (fun l' a' w' => J l' a' w' ∧ μ l' a' w' < μ l a w) Q) a w) : (Code.scope c).wp P Q a w := by
  intro b k cs
  have key : ∀ n l a w, μ l a w = n → J l a w → ∃ e a' w', Q e a' w' ∧ Arrives P (lone (b.at a (.code (R l) :: .inScope c :: k)) cs w) b k cs e a' w' := by
    intro n
    induction n using Nat.strongRecOn with
    | _ n ih =>
      intro l a w hn hJ
      obtain ⟨e, a₁, w₁, hq, harr⟩ := pass l a w hJ b (.inScope c :: k) cs
      cases e with
      | normal => exact ⟨.normal, a₁, w₁, hq, Steps.trans harr (.one step_inScope)⟩
      | exit id => exact ⟨.exit id, a₁, w₁, hq, fun k' hk => harr k' (by simp [exitTo, hk])⟩
      | goto l' =>
        obtain ⟨hJ', hlt⟩ := hq
        obtain ⟨e₂, a₂, w₂, hq₂, harr₂⟩ := ih _ (by omega) l' a₁ w₁ rfl hJ'
        exact ⟨e₂, a₂, w₂, hq₂, .of_steps (harr _ (by simp [gotoIn, hf l' a₁ w₁ hJ'])) harr₂⟩
      | ret => exact ⟨_, a₁, w₁, hq, harr⟩
      | panic ch => exact ⟨_, a₁, w₁, hq, harr⟩
      | outgrown => exact ⟨_, a₁, w₁, hq, harr⟩
  obtain ⟨e, a₁, w₁, hq, harr⟩ := first b (.inScope c :: k) cs
  cases e with
  | normal => exact ⟨.normal, a₁, w₁, hq, .head step_scope (Steps.trans harr (.one step_inScope))⟩
  | exit id => exact ⟨.exit id, a₁, w₁, hq, fun k' hk => .head step_scope (harr k' (by simp [exitTo, hk]))⟩
  | goto l' =>
    obtain ⟨e₂, a₂, w₂, hq₂, harr₂⟩ := key _ l' a₁ w₁ rfl hq
    exact ⟨e₂, a₂, w₂, hq₂, .of_steps (.head step_scope (harr _ (by simp [gotoIn, hf l' a₁ w₁ hq]))) harr₂⟩
  | ret => exact ⟨_, a₁, w₁, hq, .of_steps (.one step_scope) harr⟩
  | panic ch => exact ⟨_, a₁, w₁, hq, .of_steps (.one step_scope) harr⟩
  | outgrown => exact ⟨_, a₁, w₁, hq, .of_steps (.one step_scope) harr⟩
/-- From label l, where J l holds, the rest r runs; each jump lowers the number. -/
def Pass (P : Program) (Q : Exit → Act → World → Prop) (J : Nat → Nat → Act → World → Prop) (l : Nat) (r : Code) : Prop :=
  ∀ n a w, J l n a w → ∀ H : Nat → Act → World → Prop, (∀ l' n' a' w', n' < n → J l' n' a' w' → H l' a' w') → r.wp P (jumpsTo H Q) a w

theorem pass_skip {J : Nat → Nat → Act → World → Prop} {l : Nat} {r : Code} (h : Pass P Q J l r) : Pass P Q J l (Code.skip.seq r) := fun n a w hJ H hH =>
  wp_seq (wp_skip (h n a w hJ H hH))

theorem wp_scope_three {c ra rb rc : Code} (A B C : Nat) (J : Nat → Nat → Act → World → Prop) (ha : findLabel c A = some (Code.skip.seq ra)) (hb : findLabel c B = some (Code.skip.seq rb)) (hc : findLabel c C = some (Code.skip.seq rc))
    (hl : ∀ l n a w, J l n a w → l = A ∨ l = B ∨ l = C) (pa : Pass P Q J A ra) (pb : Pass P Q J A ra → Pass P Q J B rb) (pc : Pass P Q J A ra → Pass P Q J B rb → Pass P Q J C rc)
    (first : Pass P Q J A ra → Pass P Q J B rb → Pass P Q J C rc → ∀ H : Nat → Act → World → Prop, (∀ l n a w, J l n a w → H l a w) → c.wp P (jumpsTo H Q) a w) : (Code.scope c).wp P Q a w := by
  have pb' := pb pa
  have pc' := pc pa pb'
  have hf : ∀ l n a w, J l n a w → ∃ r, findLabel c l = some r ∧ Pass P Q J l r := fun l n a w h => by
    rcases hl l n a w h with rfl | rfl | rfl
    · exact ⟨_, ha, pass_skip pa⟩
    · exact ⟨_, hb, pass_skip pb'⟩
    · exact ⟨_, hc, pass_skip pc'⟩
  intro b k cs
  have key : ∀ n l r a w, findLabel c l = some r → Pass P Q J l r → J l n a w → ∃ e a' w', Q e a' w' ∧ Arrives P (lone (b.at a (.code r :: .inScope c :: k)) cs w) b k cs e a' w' := by
    intro n
    induction n using Nat.strongRecOn with
    | _ n ih =>
      intro l r a w hr hp hJ
      obtain ⟨e, a₁, w₁, hq, harr⟩ := hp n a w hJ (fun l' a' w' => ∃ n', n' < n ∧ J l' n' a' w') (fun l' n' a' w' h1 h2 => ⟨n', h1, h2⟩) b (.inScope c :: k) cs
      cases e with
      | normal => exact ⟨.normal, a₁, w₁, hq, Steps.trans harr (.one step_inScope)⟩
      | exit id => exact ⟨.exit id, a₁, w₁, hq, fun k' hk => harr k' (by simp [exitTo, hk])⟩
      | goto l' =>
        obtain ⟨n', hlt, hJ'⟩ := hq
        obtain ⟨r', hr', hp'⟩ := hf l' n' a₁ w₁ hJ'
        obtain ⟨e₂, a₂, w₂, hq₂, harr₂⟩ := ih n' hlt l' r' a₁ w₁ hr' hp' hJ'
        exact ⟨e₂, a₂, w₂, hq₂, .of_steps (harr _ (by simp [gotoIn, hr'])) harr₂⟩
      | ret => exact ⟨_, a₁, w₁, hq, harr⟩
      | panic ch => exact ⟨_, a₁, w₁, hq, harr⟩
      | outgrown => exact ⟨_, a₁, w₁, hq, harr⟩
  obtain ⟨e, a₁, w₁, hq, harr⟩ := first pa pb' pc' (fun l a w => ∃ n, J l n a w) (fun l n a w h => ⟨n, h⟩) b (.inScope c :: k) cs
  cases e with
  | normal => exact ⟨.normal, a₁, w₁, hq, .head step_scope (Steps.trans harr (.one step_inScope))⟩
  | exit id => exact ⟨.exit id, a₁, w₁, hq, fun k' hk => .head step_scope (harr k' (by simp [exitTo, hk]))⟩
  | goto l' =>
    obtain ⟨n', hJ'⟩ := hq
    obtain ⟨r', hr', hp'⟩ := hf l' n' a₁ w₁ hJ'
    obtain ⟨e₂, a₂, w₂, hq₂, harr₂⟩ := key n' l' r' a₁ w₁ hr' hp' hJ'
    exact ⟨e₂, a₂, w₂, hq₂, .of_steps (.head step_scope (harr _ (by simp [gotoIn, hr']))) harr₂⟩
  | ret => exact ⟨_, a₁, w₁, hq, .of_steps (.one step_scope) harr⟩
  | panic ch => exact ⟨_, a₁, w₁, hq, .of_steps (.one step_scope) harr⟩
  | outgrown => exact ⟨_, a₁, w₁, hq, .of_steps (.one step_scope) harr⟩
end
end Go.Proofs.Ytiadcebolcdhbaa

/-! Files, and lists of files, that lie in memory; how much they hold, copies of them, and whether two are alike, as the law's helpers work it out: contracts for the walks; conditions as each says. -/
namespace Go.Proofs.Ytiadcebolcdhbaa
open Go.RowKit
set_option linter.unusedSimpArgs false
set_option linter.unusedVariables false

structure FileD where
  p : ByteArray
  t : ByteArray

def saneF (f : FileD) : Prop := f.p.size ≤ maxLen ∧ f.t.size ≤ maxLen

/-- The two cells from place j on in block b are the file f. -/
def FileAt (w : World) (b j : Nat) (f : FileD) : Prop := w.cell? ⟨b, j, none⟩ = some (.string f.p) ∧ w.cell? ⟨b, j + 1, none⟩ = some (.string f.t)

/-- The list of files v is fs. -/
def FilesIn (S : Nat → Prop) (w : World) (v : Value) (fs : List FileD) : Prop :=
  ∃ q cap, v = .slice q fs.length cap ∧ fs.length ≤ maxLen ∧ fs.length ≤ cap ∧ (∀ f ∈ fs, saneF f) ∧ (fs = [] ∨ ∃ (b off : Nat), q = some ⟨b, off, none⟩ ∧ S b ∧ ∀ k (h : k < fs.length), FileAt w b (off + k * 2) fs[k])
theorem FilesIn.keep {S : Nat → Prop} {w w' : World} {v : Value} {fs : List FileD} (hk : Kp S w w') (h : FilesIn S w v fs) : FilesIn S w' v fs := by
  obtain ⟨q, cap, hv, hm, hc, hs, h⟩ := h
  refine ⟨q, cap, hv, hm, hc, hs, ?_⟩
  rcases h with h | ⟨b, off, hq, hb, h⟩
  · exact .inl h
  · exact .inr ⟨b, off, hq, hb, fun k hh => ⟨(hk.cell hb _).trans (h k hh).1, (hk.cell hb _).trans (h k hh).2⟩⟩
theorem FilesIn.mono {S S' : Nat → Prop} {w : World} {v : Value} {fs : List FileD} (hS : ∀ b, S b → S' b) (h : FilesIn S w v fs) : FilesIn S' w v fs := by
  obtain ⟨q, cap, hv, hm, hc, hs, h⟩ := h
  refine ⟨q, cap, hv, hm, hc, hs, ?_⟩
  rcases h with h | ⟨b, off, hq, hb, h⟩
  · exact .inl h
  · exact .inr ⟨b, off, hq, hS b hb, h⟩
theorem FilesIn.below {w w' : World} {v : Value} {fs : List FileD} (h : FilesIn (· < w.heap.size) w v fs) (hb : Below w.heap.size w w') : FilesIn (· < w'.heap.size) w' v fs :=
  (h.keep (.of hb (fun b h => h))).mono (fun b h => Nat.lt_of_lt_of_le h hb.size)

/-- How much a file, and a list of them, holds, as the law counts it. -/
def wt1 (f : FileD) : Nat := f.p.size + f.t.size
def wtF (fs : List FileD) : Nat := (fs.map fun f => 1 + wt1 f).sum
theorem wtF_take (fs : List FileD) (k : Nat) (h : k < fs.length) : wtF (fs.take (k + 1)) = wtF (fs.take k) + (1 + wt1 fs[k]) := by
  rw [wtF, wtF, List.take_succ_eq_append_getElem h]; simp only [List.map_append, List.sum_append, List.map_cons, List.map_nil, List.sum_cons, List.sum_nil, Nat.add_zero]
theorem wtF_split (fs : List FileD) (k : Nat) : wtF fs = wtF (fs.take k) + wtF (fs.drop k) := by
  rw [wtF, wtF, wtF, ← List.sum_append, ← List.map_append, List.take_append_drop]
theorem len_wtF (fs : List FileD) : fs.length ≤ wtF fs := by
  induction fs with
  | nil => simp [wtF]
  | cons d ds ih => simp [wtF] at ih ⊢; omega
theorem wt1_wtF {fs : List FileD} {f : FileD} (h : f ∈ fs) : wt1 f ≤ wtF fs := by
  induction fs with
  | nil => simp at h
  | cons x fs ih =>
    simp [wtF] at ih ⊢
    rcases List.mem_cons.1 h with rfl | h
    · omega
    · have := ih h; omega

/-- The cells of a list of files. -/
def cellsF (fs : List FileD) : List Value := fs.flatMap fun f => [.string f.p, .string f.t]
theorem cellsF_length (fs : List FileD) : (cellsF fs).length = fs.length * 2 := by
  induction fs with
  | nil => rfl
  | cons f fs ih => simp only [cellsF, List.flatMap_cons, List.length_append, List.length_cons, List.length_nil] at ih ⊢; omega
theorem cellsF_append (a b : List FileD) : cellsF (a ++ b) = cellsF a ++ cellsF b := by simp [cellsF]
theorem cellsF_at (fs : List FileD) : ∀ (k : Nat) (h : k < fs.length), (cellsF fs)[k * 2]? = some (.string fs[k].p) ∧ (cellsF fs)[k * 2 + 1]? = some (.string fs[k].t) := by
  induction fs with
  | nil => intro k h; simp at h
  | cons f fs ih =>
    intro k h
    cases k with
    | zero => simp [cellsF]
    | succ k =>
      have := ih k (by simpa using h)
      have e : cellsF (f :: fs) = [.string f.p, .string f.t] ++ cellsF fs := by simp [cellsF]
      rw [e, List.getElem?_append_right (by simp; omega), List.getElem?_append_right (by simp; omega)]
      simp only [List.length_cons, List.length_nil, List.getElem_cons_succ]
      rw [show (k + 1) * 2 - (0 + 1 + 1) = k * 2 by omega, show (k + 1) * 2 + 1 - (0 + 1 + 1) = k * 2 + 1 by omega]
      exact this

theorem filesIn_owns {w : World} {lo n : Nat} {e : TypeId} {v : Value} {fs : List FileD} (hg : w.ownsRow lo e 2 v n (cellsF fs)) (hs : ∀ f ∈ fs, saneF f) : FilesIn (Ow lo w.heap.size) w v fs := by
  have hlen := hg.1
  rw [cellsF_length] at hlen
  have hn : n = fs.length := by omega
  subst hn
  rcases hg.2 with ⟨rfl, h0⟩ | ⟨g, cap, cur, rfl, hlo, hg', hcap, hmax, _⟩
  · refine ⟨_, _, by rw [h0], by rw [h0]; exact Nat.zero_le _, by omega, hs, .inl (List.eq_nil_of_length_eq_zero h0)⟩
  · have hgl := (Array.getElem?_eq_some_iff.1 hg').1
    refine ⟨_, _, rfl, by omega, hcap, hs, .inr ⟨g, 0, rfl, ⟨hlo, hgl⟩, fun k hk => ?_⟩⟩
    obtain ⟨h1, h2⟩ := cellsF_at fs k hk
    rw [Nat.zero_add]
    exact ⟨(hg.cellAt _ (by omega)).trans h1, (hg.cellAt _ (by omega)).trans h2⟩

theorem set2_step {ys : List Value} {fs : List FileD} {k : Nat} (hk : k < fs.length) (h : ys.length = fs.length * 2 ∧ ∀ j, j < k * 2 → ys[j]? = (cellsF fs)[j]?) :
    ((ys.set (k * 2) (.string fs[k].p)).set (k * 2 + 1) (.string fs[k].t)).length = fs.length * 2 ∧ ∀ j, j < (k + 1) * 2 → ((ys.set (k * 2) (.string fs[k].p)).set (k * 2 + 1) (.string fs[k].t))[j]? = (cellsF fs)[j]? := by
  refine ⟨by simp [h.1], fun j hj => ?_⟩
  obtain ⟨h1, h2⟩ := cellsF_at fs k hk
  by_cases e1 : j = k * 2 + 1
  · subst e1
    rw [h2, List.getElem?_set_self (by simp [h.1]; omega)]
  · rw [List.getElem?_set_ne (by omega)]
    by_cases e0 : j = k * 2
    · subst e0
      rw [h1, List.getElem?_set_self (by omega)]
    · rw [List.getElem?_set_ne (by omega)]
      exact h.2 j (by omega)

end Go.Proofs.Ytiadcebolcdhbaa

/-! Files copied, one and a list of them, the program's: contracts for the walks; conditions: the list lies in memory, its texts have at most 2 to the 20 bytes. -/
namespace Go.Proofs.Ytiadcebolcdhbaa
open Go.RowKit
set_option linter.unusedSimpArgs false
set_option linter.unusedVariables false

theorem cell_two_c (w : World) (v u : Value) (t : TypeId) : ∀ j x, ([v, u] : List Value)[j]? = some x → (w.alloc (.cells #[v, u] t)).cell? ((⟨w.heap.size, 0, none⟩ : Addr).add j) = some x := fun j x hj => by
  have h2 : j < 2 := by have := (List.getElem?_eq_some_iff.1 hj).1; simpa using this
  have e : ((⟨w.heap.size, 0, none⟩ : Addr).add j) = ⟨w.heap.size, j, none⟩ := by unfold Addr.add; split <;> simp_all
  rw [e, vblk_cell (vheap_new _ _) j]
  match j, h2 with
  | 0, _ => simpa using hj
  | 1, _ => simpa using hj

theorem owns2_below {w w' : World} {base : Nat} {e : TypeId} {v : Value} {n : Nat} {xs : List Value} (h : w.ownsRow base e 2 v n xs) (b : Below w.heap.size w w') : w'.ownsRow base e 2 v n xs := by
  rcases h.2 with ⟨rfl, rfl⟩ | ⟨g, cap, cur, rfl, hg, hh, _⟩
  · exact ⟨h.1, .inl ⟨rfl, rfl⟩⟩
  · exact h.kept (grown_of_below b none) (by simp [Value.ownBlock])

end Go.Proofs.Ytiadcebolcdhbaa

/-! Signs that lie in memory, and what one sign answers of a byte (the program's): contracts for the walks; conditions as each says. -/
namespace Go.Proofs.Ytiadcebolcdhbaa
open Go.RowKit
set_option linter.unusedSimpArgs false
set_option linter.unusedVariables false

def takesS (g : Sgn) (c : Int) : Bool := (g.set.any fun u => (u.toNat : Int) == c) != g.nt
def sgnV (g : Sgn) : Value := .agg #[.bool g.many, .bool g.nt, .string ⟨g.set.toArray⟩]

/-- The three cells from place j on in block b are the sign g. -/
def SgnAt (w : World) (b j : Nat) (g : Sgn) : Prop := w.cell? ⟨b, j, none⟩ = some (.bool g.many) ∧ w.cell? ⟨b, j + 1, none⟩ = some (.bool g.nt) ∧ w.cell? ⟨b, j + 2, none⟩ = some (.string ⟨g.set.toArray⟩)
/-- The list of signs v is gs. -/
def SgnsIn (S : Nat → Prop) (w : World) (v : Value) (gs : List Sgn) : Prop :=
  ∃ q cap, v = .slice q gs.length cap ∧ gs.length ≤ 12 ∧ gs.length ≤ cap ∧ (gs = [] ∨ ∃ (b off : Nat), q = some ⟨b, off, none⟩ ∧ S b ∧ ∀ k (h : k < gs.length), SgnAt w b (off + k * 3) gs[k])
theorem SgnsIn.keep {S : Nat → Prop} {w w' : World} {v : Value} {gs : List Sgn} (hk : Kp S w w') (h : SgnsIn S w v gs) : SgnsIn S w' v gs := by
  obtain ⟨q, cap, hv, hm, hc, h⟩ := h
  refine ⟨q, cap, hv, hm, hc, ?_⟩
  rcases h with h | ⟨b, off, hq, hb, h⟩
  · exact .inl h
  · exact .inr ⟨b, off, hq, hb, fun k hh => ⟨(hk.cell hb _).trans (h k hh).1, (hk.cell hb _).trans (h k hh).2.1, (hk.cell hb _).trans (h k hh).2.2⟩⟩
theorem SgnsIn.mono {S S' : Nat → Prop} {w : World} {v : Value} {gs : List Sgn} (hS : ∀ b, S b → S' b) (h : SgnsIn S w v gs) : SgnsIn S' w v gs := by
  obtain ⟨q, cap, hv, hm, hc, h⟩ := h
  refine ⟨q, cap, hv, hm, hc, ?_⟩
  rcases h with h | ⟨b, off, hq, hb, h⟩
  · exact .inl h
  · exact .inr ⟨b, off, hq, hS b hb, h⟩

theorem indexByte_any (l : List UInt8) (c : Int) (h0 : 0 ≤ c) (h1 : c ≤ 255) : decide (0 ≤ Lib.indexByte l c.toNat.toUInt8) = l.any (fun u => (u.toNat : Int) == c) := by
  have hcn : ∀ u : UInt8, ((u.toNat : Int) == c) = true ↔ u = c.toNat.toUInt8 := fun u => by
    have hu := u.toNat_lt
    rw [beq_iff_eq]
    constructor
    · intro e
      have : u.toNat = c.toNat := by omega
      rw [← this]; simp
    · intro e
      subst e
      simp [UInt8.toNat_ofNat']
      omega
  have hge := Lib.indexByte_ge l c.toNat.toUInt8
  by_cases hm : Lib.indexByte l c.toNat.toUInt8 = -1
  · rw [hm]
    have : l.any (fun u => (u.toNat : Int) == c) = false := by
      rw [List.any_eq_false]
      intro u hu hc
      obtain ⟨k, hk, he⟩ := List.getElem_of_mem hu
      have h2 := Lib.indexByte_none hm k
      rw [List.getElem?_eq_getElem hk, he, (hcn u).1 hc] at h2
      exact h2 rfl
    rw [this]; rfl
  · obtain ⟨k, hk⟩ := Int.eq_ofNat_of_zero_le (show 0 ≤ Lib.indexByte l c.toNat.toUInt8 by omega)
    obtain ⟨hh, hbef⟩ := Lib.indexByte_some hk
    have : l.any (fun u => (u.toNat : Int) == c) = true := by
      rw [List.any_eq_true]
      exact ⟨_, List.mem_of_getElem? hh, (hcn _).2 rfl⟩
    rw [this, hk]
    exact decide_eq_true (by omega)

end Go.Proofs.Ytiadcebolcdhbaa

/-! Signs gone through by bytes, the program's: the answer is as if all ways were tried; a contract for the walks; conditions: both lists lie in memory, at most 12 signs, at most 2 to the 20 bytes. -/
namespace Go.Proofs.Ytiadcebolcdhbaa
open Go.RowKit
set_option linter.unusedSimpArgs false
set_option linter.unusedVariables false

/-- The frame of the run through signs: its five words, the scratch forgotten. -/
def FrS (q : Option Addr) (L cap : Nat) (a : Option Addr) (N cap2 : Nat) (x5 x6 x7 x8 x9 : Value) (f : Act) : Prop :=
  ∃ (u10 u11 u12 u13 u14 u15 u16 u17 u18 u19 u20 u21 u22 u23 u24 u25 u26 u27 u28 u29 u30 u31 u32 u33 u34 u35 u36 u37 u38 u39 u40 u41 u42 u43 u44 u45 u46 u47 u48 u49 u50 u51 u52 u53 u54 u55 u56 u57 u58 u59 u60 u61 u62 u63 u64 u65 u66 u67 u68 u69 u70 u71 u72 u73 u74 : Value), f = { tmps := #[.slice q L cap, .slice a N cap2, undef, undef, .bool false, x5, x6, x7, x8, x9, u10, u11, u12, u13, u14, u15, u16, u17, u18, u19, u20, u21, u22, u23, u24, u25, u26, u27, u28, u29, u30, u31, u32, u33, u34, u35, u36, u37, u38, u39, u40, u41, u42, u43, u44, u45, u46, u47, u48, u49, u50, u51, u52, u53, u54, u55, u56, u57, u58, u59, u60, u61, u62, u63, u64, u65, u66, u67, u68, u69, u70, u71, u72, u73, u74], defers := [] }

theorem FrS.elim {C : Act → Prop} {q : Option Addr} {L cap : Nat} {a : Option Addr} {N cap2 : Nat} {x5 x6 x7 x8 x9 : Value} {f : Act} (h : FrS q L cap a N cap2 x5 x6 x7 x8 x9 f)
    (k : ∀ (u10 u11 u12 u13 u14 u15 u16 u17 u18 u19 u20 u21 u22 u23 u24 u25 u26 u27 u28 u29 u30 u31 u32 u33 u34 u35 u36 u37 u38 u39 u40 u41 u42 u43 u44 u45 u46 u47 u48 u49 u50 u51 u52 u53 u54 u55 u56 u57 u58 u59 u60 u61 u62 u63 u64 u65 u66 u67 u68 u69 u70 u71 u72 u73 u74 : Value), C { tmps := #[.slice q L cap, .slice a N cap2, undef, undef, .bool false, x5, x6, x7, x8, x9, u10, u11, u12, u13, u14, u15, u16, u17, u18, u19, u20, u21, u22, u23, u24, u25, u26, u27, u28, u29, u30, u31, u32, u33, u34, u35, u36, u37, u38, u39, u40, u41, u42, u43, u44, u45, u46, u47, u48, u49, u50, u51, u52, u53, u54, u55, u56, u57, u58, u59, u60, u61, u62, u63, u64, u65, u66, u67, u68, u69, u70, u71, u72, u73, u74], defers := [] }) : C f :=
  Exists.elim h fun u10 h => Exists.elim h fun u11 h => Exists.elim h fun u12 h => Exists.elim h fun u13 h => Exists.elim h fun u14 h => Exists.elim h fun u15 h => Exists.elim h fun u16 h => Exists.elim h fun u17 h => Exists.elim h fun u18 h => Exists.elim h fun u19 h => Exists.elim h fun u20 h => Exists.elim h fun u21 h => Exists.elim h fun u22 h => Exists.elim h fun u23 h => Exists.elim h fun u24 h => Exists.elim h fun u25 h => Exists.elim h fun u26 h => Exists.elim h fun u27 h => Exists.elim h fun u28 h => Exists.elim h fun u29 h => Exists.elim h fun u30 h => Exists.elim h fun u31 h => Exists.elim h fun u32 h => Exists.elim h fun u33 h => Exists.elim h fun u34 h => Exists.elim h fun u35 h => Exists.elim h fun u36 h => Exists.elim h fun u37 h => Exists.elim h fun u38 h => Exists.elim h fun u39 h => Exists.elim h fun u40 h => Exists.elim h fun u41 h => Exists.elim h fun u42 h => Exists.elim h fun u43 h => Exists.elim h fun u44 h => Exists.elim h fun u45 h => Exists.elim h fun u46 h => Exists.elim h fun u47 h => Exists.elim h fun u48 h => Exists.elim h fun u49 h => Exists.elim h fun u50 h => Exists.elim h fun u51 h => Exists.elim h fun u52 h => Exists.elim h fun u53 h => Exists.elim h fun u54 h => Exists.elim h fun u55 h => Exists.elim h fun u56 h => Exists.elim h fun u57 h => Exists.elim h fun u58 h => Exists.elim h fun u59 h => Exists.elim h fun u60 h => Exists.elim h fun u61 h => Exists.elim h fun u62 h => Exists.elim h fun u63 h => Exists.elim h fun u64 h => Exists.elim h fun u65 h => Exists.elim h fun u66 h => Exists.elim h fun u67 h => Exists.elim h fun u68 h => Exists.elim h fun u69 h => Exists.elim h fun u70 h => Exists.elim h fun u71 h => Exists.elim h fun u72 h => Exists.elim h fun u73 h => Exists.elim h fun u74 h => Eq.mpr (congrArg C h) (k u10 u11 u12 u13 u14 u15 u16 u17 u18 u19 u20 u21 u22 u23 u24 u25 u26 u27 u28 u29 u30 u31 u32 u33 u34 u35 u36 u37 u38 u39 u40 u41 u42 u43 u44 u45 u46 u47 u48 u49 u50 u51 u52 u53 u54 u55 u56 u57 u58 u59 u60 u61 u62 u63 u64 u65 u66 u67 u68 u69 u70 u71 u72 u73 u74)

theorem inv_le {α β : Type} {many : α → Bool} {takes : α → β → Bool} {ps : List α} {xs : List β} {s t b tk : Nat} {seen : Bool} (h : Inv many takes ps xs s t b tk seen) : s ≤ ps.length ∧ t ≤ xs.length ∧ b ≤ s ∧ tk ≤ t := by
  obtain ⟨h1, h2, h3, h4, _⟩ := h
  exact ⟨h1, h2, h3, by omega⟩

/-- What holds at the three labels (0: many, 1: look, 2: back). -/
def JS (w : World) (q : Option Addr) (gs : List Sgn) (cap : Nat) (a : Option Addr) (zs : List Int) (cap2 : Nat) (l n : Nat) (f : Act) (wr : World) : Prop :=
  ∃ (s t b tk : Nat) (seen : Bool) (x5 x6 x7 x8 : Value), FrS q gs.length cap a zs.length cap2 x5 x6 x7 x8 (.bool seen) f ∧ x5 = .int .i64 (s : Int) ∧ x6 = .int .i64 (t : Int) ∧ x7 = .int .i64 (b : Int) ∧ x8 = .int .i64 (tk : Int) ∧
    Inv Sgn.many takesS gs zs s t b tk seen ∧ Below w.heap.size w wr ∧
    ((l = 1 ∧ n = 2 * goM gs.length zs.length s b tk + 1) ∨ (l = 0 ∧ n = 2 * goM gs.length zs.length s b tk ∧ ∃ g, gs[s]? = some g ∧ g.many = true) ∨ (l = 2 ∧ n = 2 * goM gs.length zs.length s b tk ∧ F2 Sgn.many takesS gs zs s t = false))

end Go.Proofs.Ytiadcebolcdhbaa

/-! Pieces that lie in memory, and what one piece answers of a name (the program's): contracts for the walks; conditions as each says. -/
namespace Go.Proofs.Ytiadcebolcdhbaa
open Go.RowKit
set_option linter.unusedSimpArgs false
set_option linter.unusedVariables false

def intsOf (y : ByteArray) : List Int := y.data.toList.map fun u => (u.toNat : Int)
theorem intsOf_len (y : ByteArray) : (intsOf y).length = y.size := by unfold intsOf; rw [List.length_map, len_list]
theorem intsOf_in (y : ByteArray) : ∀ c ∈ intsOf y, 0 ≤ c ∧ c ≤ 255 := fun c h => by
  obtain ⟨u, _, rfl⟩ := List.mem_map.1 h
  exact ⟨byte0 u, byte255 u⟩
def manyT (x : ByteArray) : Bool := x.toList == [42, 42]
def takesT (x y : ByteArray) : Bool := fullG Sgn.many takesS (sgnsOf x) (intsOf y)

/-- The two cells from place j on in block b are the piece that is read off x. -/
def PceAt (S : Nat → Prop) (w : World) (b j : Nat) (x : ByteArray) : Prop := w.cell? ⟨b, j, none⟩ = some (.bool (manyT x)) ∧ ∃ v, w.cell? ⟨b, j + 1, none⟩ = some v ∧ SgnsIn S w v (sgnsOf x)
/-- The list of pieces v is what is read off xs. -/
def PcsIn (S : Nat → Prop) (w : World) (v : Value) (xs : List ByteArray) : Prop :=
  ∃ q cap, v = .slice q xs.length cap ∧ xs.length ≤ 4 ∧ xs.length ≤ cap ∧ (xs = [] ∨ ∃ (b off : Nat), q = some ⟨b, off, none⟩ ∧ S b ∧ ∀ k (h : k < xs.length), PceAt S w b (off + k * 2) xs[k])

theorem bytes_new (w : World) (y : ByteArray) (C : Nat) (t : TypeId) (z : Nat × Nat) (hC : y.size ≤ C) :
    Reads (w.alloc (.cells (bytesRow y C) t z)) (.slice (some ⟨w.heap.size, 0, none⟩) y.size C) (bytesV (intsOf y)) := by
  refine ⟨some ⟨w.heap.size, 0, none⟩, C, by rw [length_bytesV, intsOf_len], by rw [length_bytesV, intsOf_len]; exact hC, .inr ⟨w.heap.size, 0, rfl, by simp, fun k hk => ?_⟩⟩
  rw [length_bytesV, intsOf_len] at hk
  have hh : (w.alloc (.cells (bytesRow y C) t z)).heap[w.heap.size]? = some (.cells (bytesRow y C) t z) := vheap_new _ _
  rw [Nat.zero_add, cell_of_row _ _ k _ _ _ hh]
  unfold bytesRow
  have h1 : k < y.data.size := hk
  rw [Array.getElem?_append_left (by simpa using h1)]
  simp only [bytesV, intsOf, List.getElem_map, Array.getElem?_map, Array.getElem?_eq_getElem h1, Option.map_some, Array.getElem_toList]

end Go.Proofs.Ytiadcebolcdhbaa

/-! Signs put one behind the other in memory of the call's own, beside the set that is being read: facts for the walks; no condition. -/
namespace Go.Proofs.Ytiadcebolcdhbaa
open Go.RowKit
set_option linter.unusedSimpArgs false
set_option linter.unusedVariables false

theorem infoSgn : (Try.prog.info? 193).map (fun i => (i.zero, i.size, i.bytes)) = some (some (.agg #[.bool false, .bool false, .string ⟨#[]⟩]), 3, 24) := by kernel_rfl

def cellsS (gs : List Sgn) : List Value := gs.flatMap fun g => [.bool g.many, .bool g.nt, .string ⟨g.set.toArray⟩]
theorem cellsS_length (gs : List Sgn) : (cellsS gs).length = gs.length * 3 := by
  induction gs with
  | nil => rfl
  | cons f fs ih => simp only [cellsS, List.flatMap_cons, List.length_append, List.length_cons, List.length_nil] at ih ⊢; omega
theorem cellsS_append (a b : List Sgn) : cellsS (a ++ b) = cellsS a ++ cellsS b := by simp [cellsS]
theorem cellsS_at (gs : List Sgn) : ∀ (k : Nat) (h : k < gs.length), (cellsS gs)[k * 3]? = some (.bool gs[k].many) ∧ (cellsS gs)[k * 3 + 1]? = some (.bool gs[k].nt) ∧ (cellsS gs)[k * 3 + 2]? = some (.string ⟨gs[k].set.toArray⟩) := by
  induction gs with
  | nil => intro k h; simp at h
  | cons f fs ih =>
    intro k h
    have e : cellsS (f :: fs) = [.bool f.many, .bool f.nt, .string ⟨f.set.toArray⟩] ++ cellsS fs := by simp [cellsS]
    cases k with
    | zero => rw [e]; simp
    | succ k =>
      have := ih k (by simpa using h)
      rw [e, List.getElem?_append_right (by simp; omega), List.getElem?_append_right (by simp; omega), List.getElem?_append_right (by simp; omega)]
      simp only [List.length_cons, List.length_nil, List.getElem_cons_succ]
      rw [show (k + 1) * 3 - (0 + 1 + 1 + 1) = k * 3 by omega, show (k + 1) * 3 + 1 - (0 + 1 + 1 + 1) = k * 3 + 1 by omega, show (k + 1) * 3 + 2 - (0 + 1 + 1 + 1) = k * 3 + 2 by omega]
      exact this
theorem sgnsIn_owns {w : World} {lo n : Nat} {e : TypeId} {v : Value} {gs : List Sgn} (hg : w.ownsRow lo e 3 v n (cellsS gs)) (h12 : gs.length ≤ 12) : SgnsIn (Ow lo w.heap.size) w v gs := by
  have hlen := hg.1
  rw [cellsS_length] at hlen
  have hn : n = gs.length := by omega
  subst hn
  rcases hg.2 with ⟨rfl, h0⟩ | ⟨g, cap, cur, rfl, hlo, hg', hcap, hmax, _⟩
  · exact ⟨_, _, by rw [h0], h12, by omega, .inl (List.eq_nil_of_length_eq_zero h0)⟩
  · have hgl := (Array.getElem?_eq_some_iff.1 hg').1
    refine ⟨_, _, rfl, h12, hcap, .inr ⟨g, 0, rfl, ⟨hlo, hgl⟩, fun k hk => ?_⟩⟩
    obtain ⟨h1, h2, h3⟩ := cellsS_at gs k hk
    rw [Nat.zero_add]
    exact ⟨(hg.cellAt _ (by omega)).trans h1, (hg.cellAt _ (by omega)).trans h2, (hg.cellAt _ (by omega)).trans h3⟩

theorem cell_three_c (w : World) (v u x : Value) (t : TypeId) : ∀ j y, ([v, u, x] : List Value)[j]? = some y → (w.alloc (.cells #[v, u, x] t)).cell? ((⟨w.heap.size, 0, none⟩ : Addr).add j) = some y := fun j y hj => by
  have h2 : j < 3 := by have := (List.getElem?_eq_some_iff.1 hj).1; simpa using this
  have e : ((⟨w.heap.size, 0, none⟩ : Addr).add j) = ⟨w.heap.size, j, none⟩ := by unfold Addr.add; split <;> simp_all
  rw [e, vblk_cell (vheap_new _ _) j]
  match j, h2 with
  | 0, _ => simpa using hj
  | 1, _ => simpa using hj
  | 2, _ => simpa using hj

/-- The set that is being read, and the signs so far: each in a block of the call's own. -/
def MemR (w wr : World) (v : Value) (xs : List Sgn) (nt : Bool) (x : ByteArray) : Prop :=
  wr.heap[w.heap.size]? = some (.cells #[.bool false, .bool nt, .string x] 193 (0, 0)) ∧ wr.ownsRow (w.heap.size + 1) 193 3 v xs.length (cellsS xs) ∧ Below w.heap.size w wr
theorem MemR.start (w : World) : MemR w (w.alloc (.cells #[.bool false, .bool false, .string ⟨#[]⟩] 193)) (.slice none 0 0) [] false ⟨#[]⟩ :=
  ⟨vheap_new _ _, World.ownsRow_nil _ _ _ _, (Below.refl _ _).alloc (Nat.le_refl _) _⟩
theorem MemR.lt {w wr : World} {v : Value} {xs : List Sgn} {nt : Bool} {x : ByteArray} (h : MemR w wr v xs nt x) : w.heap.size < wr.heap.size := (Array.getElem?_eq_some_iff.1 h.1).1
theorem MemR.slice {w wr : World} {v : Value} {xs : List Sgn} {nt : Bool} {x : ByteArray} (h : MemR w wr v xs nt x) : ∃ q c, v = .slice q xs.length c := by
  rcases h.2.1.2 with ⟨h1, h2⟩ | ⟨g, c, cur, rfl, _⟩
  · exact ⟨none, 0, by rw [h1, h2]⟩
  · exact ⟨_, _, rfl⟩
theorem MemR.grown {w wr w3 : World} {v v3 : Value} {xs ys : List Sgn} {nt : Bool} {x : ByteArray} {o : Obj} (h : MemR w wr v xs nt x) (gr : (wr.alloc o).grownBy w3 v.ownBlock) (o3 : w3.ownsRow (w.heap.size + 1) 193 3 v3 ys.length (cellsS ys)) : MemR w w3 v3 ys nt x := by
  have hlt := h.lt
  have hz := h.2.2.size
  refine ⟨?_, o3, Below.grown (h.2.2.alloc hz _) gr (by simp; omega) (fun j hj => by have := (h.2.1.lt _ hj).1; omega)⟩
  rw [gr.block _ (by simp; omega) (fun e => by have := (h.2.1.lt _ e.symm).1; omega), vheap_old _ _ hlt]
  exact h.1
theorem MemR.cells {w wr : World} {v : Value} {xs : List Sgn} {nt : Bool} {x : ByteArray} (h : MemR w wr v xs nt x) :
    wr.cell? ⟨w.heap.size, 0, none⟩ = some (.bool false) ∧ wr.cell? ⟨w.heap.size, 1, none⟩ = some (.bool nt) ∧ wr.cell? ⟨w.heap.size, 2, none⟩ = some (.string x) ∧ ∀ j, wr.frozen? ⟨w.heap.size, j, none⟩ = false :=
  ⟨by rw [vblk_cell h.1]; rfl, by rw [vblk_cell h.1]; rfl, by rw [vblk_cell h.1]; rfl, vblk_frozen h.1⟩
theorem MemR.keepRow {w wr : World} {v : Value} {xs : List Sgn} {nt : Bool} {x : ByteArray} (h : MemR w wr v xs nt x) (j : Nat) (y : Value) :
    (wr.setCell ⟨w.heap.size, j, none⟩ y).ownsRow (w.heap.size + 1) 193 3 v xs.length (cellsS xs) ∧ Below w.heap.size w (wr.setCell ⟨w.heap.size, j, none⟩ y) := by
  refine ⟨?_, h.2.2.setCell (Nat.le_refl _) _⟩
  have hr := h.2.1
  refine ⟨hr.1, ?_⟩
  rcases hr.2 with hn | ⟨g, cap, cur, rfl, hb, hgg, rest⟩
  · exact .inl hn
  · refine .inr ⟨g, cap, cur, rfl, hb, ?_, rest⟩
    rw [Below.heap_setCell _ _ _ _ (by show g ≠ w.heap.size; omega)]
    exact hgg
theorem MemR.setNot {w wr : World} {v : Value} {xs : List Sgn} {nt : Bool} {x : ByteArray} (h : MemR w wr v xs nt x) (n2 : Bool) : MemR w (wr.setCell ⟨w.heap.size, 1, none⟩ (.bool n2)) v xs n2 x := by
  obtain ⟨h1, h2⟩ := h.keepRow 1 (.bool n2)
  refine ⟨?_, h1, h2⟩
  rw [setCell_eq_setRow wr w.heap.size _ _ _ (0, 0) _ h.1, setRow_heap wr w.heap.size _ _ _ _ h.1]
  rfl
theorem MemR.setSet {w wr : World} {v : Value} {xs : List Sgn} {nt : Bool} {x : ByteArray} (h : MemR w wr v xs nt x) (y : ByteArray) : MemR w (wr.setCell ⟨w.heap.size, 2, none⟩ (.string y)) v xs nt y := by
  obtain ⟨h1, h2⟩ := h.keepRow 2 (.string y)
  refine ⟨?_, h1, h2⟩
  rw [setCell_eq_setRow wr w.heap.size _ _ _ (0, 0) _ h.1, setRow_heap wr w.heap.size _ _ _ _ h.1]
  rfl

theorem extract_one (s : ByteArray) (i : Nat) (h : i < s.size) : s.extract i (i + 1) = ⟨[s[i]].toArray⟩ := by
  apply ext_list
  rw [extract_list, drop_cons s i h]
  simp
theorem extract_run (s : ByteArray) (i j : Nat) : s.extract i j = ⟨((s.data.toList.drop i).take (j - i)).toArray⟩ := by
  apply ext_list
  rw [extract_list]
end Go.Proofs.Ytiadcebolcdhbaa
