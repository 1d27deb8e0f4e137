/-
  Files in a map by their paths: what the map in a block holds, told as a function from paths; looked up, put, and deleted: laws for the walks; no condition but that a path is no longer than an int can count.
-/
import Derived.Test.YtlnofdlhjeomfaaFiA
import Derived.Maps.OwnSet
import Derived.Maps.RangeWalk
namespace Go.Proofs.Ytlnofdlhjeomfaa
open Go.RowKit Go.Maps
set_option linter.unusedSimpArgs false
set_option linter.unusedVariables false

theorem keyed5 : Keyed Try.prog 9 := string_keyed Try.underlying9
theorem zeroFile (w : World) : (zeroValue 26).run Try.prog w = .ok (.agg #[.string ⟨#[]⟩, .string ⟨#[]⟩]) w := by kernel_rfl

def klF (p : ByteArray) : Lit := .string p.data.toList
theorem klF_inj {p q : ByteArray} (h : klF p = klF q) : p = q := by
  simp only [klF, Lit.string.injEq] at h
  exact ByteArray.ext (Array.toList_inj.1 h)
theorem klF_key (p : ByteArray) : WideAt.IsKeyLit (klF p) := trivial
def fD (f : FileD) : DataW Unit := .agg [.lit (.string f.p.data.toList), .lit (.string f.t.data.toList)]
theorem fD_inj {f g : FileD} (h : fD f = fD g) : f = g := by
  obtain ⟨p, t⟩ := f
  obtain ⟨p', t'⟩ := g
  simp only [fD, DataW.agg.injEq, List.cons.injEq, DataW.lit.injEq, Lit.string.injEq, and_true] at h
  have e1 : p = p' := ByteArray.ext (Array.toList_inj.1 h.1)
  have e2 : t = t' := ByteArray.ext (Array.toList_inj.1 h.2)
  rw [e1, e2]

/-- How an element of the map reads. -/
def fileElem (v : Value) : Option (DataW Unit × List MemPlace) :=
  match v with
  | .agg cs => match cs.toList with
    | [.string p, .string t] => some (fD ⟨p, t⟩, [])
    | _ => none
  | _ => none
theorem fileElem_mk (f : FileD) : fileElem (.agg #[.string f.p, .string f.t]) = some (fD f, []) := rfl
theorem fileElem_inv {v : Value} {f : FileD} {ps : List MemPlace} (h : fileElem v = some (fD f, ps)) : v = .agg #[.string f.p, .string f.t] := by
  unfold fileElem at h
  split at h
  · rename_i cs
    split at h
    · rename_i p t e
      simp only [Option.some.injEq, Prod.mk.injEq] at h
      have := fD_inj h.1
      subst this
      have : cs = #[.string p, .string t] := by cases cs; simp_all
      rw [this]
    · cases h
  · cases h

/-- Block b is a map of at most n files: what it holds at each path is m. -/
def MapF (w : World) (b n : Nat) (m : ByteArray → Option FileD) : Prop :=
  ∃ D : DataW Unit, w.ownsMap Try.prog 9 fileElem b n D ∧ ∀ p, Maps.has D (klF p) = (m p).isSome ∧ ∀ f, m p = some f → ∀ z, D.atKey (klF p) z = fD f

theorem MapF.lt {w : World} {b n : Nat} {m : ByteArray → Option FileD} (h : MapF w b n m) : b < w.heap.size := by obtain ⟨D, h, _⟩ := h; exact h.lt
theorem MapF.alloc {w : World} {b n : Nat} {m : ByteArray → Option FileD} (h : MapF w b n m) (o : Obj) : MapF (w.alloc o) b n m := by obtain ⟨D, h, h2⟩ := h; exact ⟨D, h.alloc o, h2⟩
theorem MapF.drew {w : World} {b n : Nat} {m : ByteArray → Option FileD} (h : MapF w b n m) : MapF w.drew b n m := by obtain ⟨D, h, h2⟩ := h; exact ⟨D, h.drew, h2⟩
theorem MapF.below {w w' : World} {b n : Nat} {m : ByteArray → Option FileD} (h : MapF w b n m) (hb : Below w.heap.size w w') : MapF w' b n m := by obtain ⟨D, h, h2⟩ := h; exact ⟨D, h.kept (grown_of_below hb none) (by simp), h2⟩
theorem MapF.mono {w : World} {b n n' : Nat} {m : ByteArray → Option FileD} (h : MapF w b n m) (hn : n ≤ n') : MapF w b n' m := by obtain ⟨D, h, h2⟩ := h; exact ⟨D, h.mono hn, h2⟩
theorem MapF.same {w : World} {b n : Nat} {m m' : ByteArray → Option FileD} (h : MapF w b n m) (e : ∀ p, m' p = m p) : MapF w b n m' := by have : m' = m := funext e; rw [this]; exact h
theorem MapF.setCell {w : World} {b n : Nat} {m : ByteArray → Option FileD} (h : MapF w b n m) {a : Addr} (ha : b ≠ a.block) (u : Value) : MapF (w.setCell a u) b n m := by obtain ⟨D, h, h2⟩ := h; exact ⟨D, h.setCell ha u, h2⟩
theorem MapF_made (w : World) : MapF (w.alloc (.map #[] 0)) w.heap.size 0 (fun _ => none) := ⟨_, World.ownsMap_made w _ _ _, fun p => ⟨rfl, fun f h => by cases h⟩⟩

section
variable (w : World) {ops : Array Oper} {rest : List Oper} {o : Oper} {a : Act} {Q : Exit → Act → World → Prop}

theorem wpList_lookup_some (hg : o.guard = none) (mo x : Operand) (hop : o.op = Op.lookup 77 mo x true) (b n : Nat) (m : ByteArray → Option FileD) (hm : a.eval mo = .map (some b)) (hown : MapF w b n m) (p : ByteArray) (hx : a.eval x = .string p) (hp : p.size ≤ maxLen)
    (f : FileD) (hf : m p = some f) (hK : wpList Try.prog ops Q rest (a.put o.dst (.tuple #[.agg #[.string f.p, .string f.t], .bool true])) w) : wpList Try.prog ops Q (o :: rest) a w := by
  obtain ⟨D, h, h2⟩ := hown
  refine wpList_lookup_own_ok w hg mo x 77 hop 9 26 keyed5 Try.underlying77 fileElem (zeroFile _) (fD ⟨⟨#[]⟩, ⟨#[]⟩⟩) [] (fileElem_mk ⟨⟨#[]⟩, ⟨#[]⟩⟩) b n D hm h _ (klF p) hx (WideMaps.keyOf_string_mk Try.underlying9 hp) (fun v ps hv => ?_)
  rw [(h2 p).1, hf]
  rw [(h2 p).2 f hf] at hv
  rw [fileElem_inv hv]
  exact hK

theorem wpList_lookup_none (hg : o.guard = none) (mo x : Operand) (hop : o.op = Op.lookup 77 mo x true) (b n : Nat) (m : ByteArray → Option FileD) (hm : a.eval mo = .map (some b)) (hown : MapF w b n m) (p : ByteArray) (hx : a.eval x = .string p) (hp : p.size ≤ maxLen)
    (hf : m p = none) (hK : wpList Try.prog ops Q rest (a.put o.dst (.tuple #[.agg #[.string ⟨#[]⟩, .string ⟨#[]⟩], .bool false])) w) : wpList Try.prog ops Q (o :: rest) a w := by
  obtain ⟨D, h, h2⟩ := hown
  refine wpList_lookup_own_ok w hg mo x 77 hop 9 26 keyed5 Try.underlying77 fileElem (zeroFile _) (fD ⟨⟨#[]⟩, ⟨#[]⟩⟩) [] (fileElem_mk ⟨⟨#[]⟩, ⟨#[]⟩⟩) b n D hm h _ (klF p) hx (WideMaps.keyOf_string_mk Try.underlying9 hp) (fun v ps hv => ?_)
  have h0 : Maps.has D (klF p) = false := by rw [(h2 p).1, hf]; rfl
  rw [Maps.atKey_of_not_has h0] at hv
  rw [h0, fileElem_inv hv]
  exact hK

theorem wpList_mapUpdate_F (hg : o.guard = none) (mo x v : Operand) (hop : o.op = Op.mapUpdate 77 mo x v) (b n : Nat) (m : ByteArray → Option FileD) (hm : a.eval mo = .map (some b)) (hown : MapF w b n m) (hn : n < maxLen) (p : ByteArray) (hx : a.eval x = .string p) (hp : p.size ≤ maxLen)
    (f : FileD) (hv : a.eval v = .agg #[.string f.p, .string f.t]) (hK : ∀ w', MapF w' b (n + 1) (fun q => if q = p then some f else m q) → w.grownBy w' (some b) → wpList Try.prog ops Q rest (a.put o.dst undef) w') : wpList Try.prog ops Q (o :: rest) a w := by
  obtain ⟨D, h, h2⟩ := hown
  refine wpList_mapUpdate_own w hg mo x v 77 hop 9 26 keyed5 Try.underlying77 fileElem b n D hm h hn _ _ (klF p) hx hv (WideMaps.keyOf_string_mk Try.underlying9 hp) (fD f) [] (fileElem_mk f) (fun w' h' hg' => hK w' ⟨_, h', fun q => ?_⟩ hg')
  show _ ∧ _
  dsimp only
  by_cases e : q = p
  · subst e
    rw [if_pos rfl]
    exact ⟨Maps.has_put_same h.isMap (klF_key q) _, fun g hg z => by rw [Maps.atKey_put_same h.isMap (klF_key q)]; cases hg; rfl⟩
  · have hne : klF q ≠ klF p := fun h => e (klF_inj h)
    rw [if_neg e, Maps.has_put_other hne]
    exact ⟨(h2 q).1, fun g hg z => by rw [Maps.atKey_put_other hne]; exact (h2 q).2 g hg z⟩

theorem wpList_delete_F (hg : o.guard = none) (mo x : Operand) (hop : o.op = Op.call { callee := Callee.builtin Builtin.delete, args := #[mo, x], argTypes := #[77, 9] }) (b n : Nat) (m : ByteArray → Option FileD) (hm : a.eval mo = .map (some b)) (hown : MapF w b n m) (p : ByteArray) (hx : a.eval x = .string p) (hp : p.size ≤ maxLen)
    (hK : ∀ w', MapF w' b n (fun q => if q = p then none else m q) → w.grownBy w' (some b) → wpList Try.prog ops Q rest (a.put o.dst (.tuple #[])) w') : wpList Try.prog ops Q (o :: rest) a w := by
  obtain ⟨D, h, h2⟩ := hown
  refine wpList_delete_own w hg mo x 77 9 hop 26 keyed5 Try.underlying77 fileElem b n D hm h _ (klF p) hx (WideMaps.keyOf_string_mk Try.underlying9 hp) (fun w' h' ht => hK w' ⟨_, h', fun q => ?_⟩ ht.grown)
  show _ ∧ _
  dsimp only
  by_cases e : q = p
  · subst e
    rw [if_pos rfl]
    exact ⟨Maps.has_del_same, fun g hg => by cases hg⟩
  · have hne : klF q ≠ klF p := fun h => e (klF_inj h)
    rw [if_neg e, Maps.has_del_other hne]
    exact ⟨(h2 q).1, fun g hg z => by rw [Maps.atKey_del_other hne]; exact (h2 q).2 g hg z⟩
end

/-- The first file of this path. -/
def getF (fs : List FileD) (p : ByteArray) : Option FileD := fs.find? fun f => decide (f.p = p)
theorem getF_step (fs : List FileD) (k : Nat) (h : k < fs.length) (p : ByteArray) : getF (fs.take (k + 1)) p = (getF (fs.take k) p).or (if fs[k].p = p then some fs[k] else none) := by
  unfold getF
  rw [List.take_succ_eq_append_getElem h, List.find?_append]
  congr 1
  simp only [List.find?_cons, List.find?_nil]
  by_cases e : fs[k].p = p <;> simp [e]

set_option maxHeartbeats 2000000 in
set_option maxRecDepth 100000 in
theorem filesByPath_c (S : Nat → Prop) (v : Value) (fs : List FileD) (w : World) (hv : FilesIn S w v fs) (hB : ∀ b, S b → b < w.heap.size) (hl : fs.length ≤ 1099511627776) :
    Calls Try.prog 39 #[v] w fun e w' => e = .returned (.map (some w.heap.size)) ∧ MapF w' w.heap.size fs.length (getF fs) ∧ Below w.heap.size w w' := by
  obtain ⟨a, cap, rfl, _, hc, hsn, ha⟩ := hv
  have hmm := @run_makeMap Try.prog
  go_enter Try.func39, Try.ntmps39
  go_wp2_with fail
  go_loopw [11] (fun vi wr => ∃ k : Nat, k ≤ fs.length ∧ vi = .int .i64 (k : Int) ∧ MapF wr w.heap.size k (getF (fs.take k)) ∧ Below w.heap.size w wr) (fun vi _ => fs.length - (intOf vi).toNat)
  case atStart => exact ⟨0, Nat.zero_le _, rfl, (MapF_made w).same (fun p => by simp [getF]), (Below.refl _ _).alloc (Nat.le_refl _) _⟩
  case round =>
    obtain ⟨k, hk, rfl, hm, hbr⟩ := hrel
    clear hmm
    by_cases hlt' : k < fs.length
    · rcases ha with rfl | ⟨b, off, rfl, hlt, ha⟩
      · simp at hlt'
      obtain ⟨e0, e1⟩ := ha k hlt'
      have hlt2 : b < w.heap.size := hB b hlt
      rw [← hbr.cell (by simpa using hlt2)] at e0 e1
      have hpm := (hsn fs[k] (List.getElem_mem hlt')).1
      have HST : Hid (∀ p, getF (fs.take (k + 1)) p = (getF (fs.take k) p).or (if fs[k].p = p then some fs[k] else none)) := getF_step fs k hlt'
      obtain ⟨d, hd⟩ : ∃ d, d = fs[k] := ⟨_, rfl⟩
      rw [← hd] at e0 e1 hpm HST
      have hki : (k : Int) < (fs.length : Int) := by omega
      clear ha hd hsn
      cases hgd : getF (fs.take k) d.p with
      | some f =>
        have HG : Hid (getF (fs.take k) d.p = some f) := hgd
        clear hgd
        go_wp2_with (at_lookup; refine wpList_lookup_some _ rfl _ _ rfl w.heap.size k _ rfl (hm.alloc _) d.p rfl hpm f HG.out ?_)
        go_roundw
        case rel =>
          refine ⟨k + 1, by omega, by go_num, (((hm.alloc _).alloc _).mono (Nat.le_succ k)).same (fun p => ?_), ?_⟩
          · rw [HST.out p]
            by_cases e : d.p = p
            · subst e; rw [HG.out]; rfl
            · rw [if_neg e, Option.or_none]
          · exact (hbr.alloc hbr.size _).alloc (by have := hbr.size; simp; omega) _
        case measure => simp [intOf]; omega
      | none =>
        have HG : Hid (getF (fs.take k) d.p = none) := hgd
        clear hgd
        go_wp2_with (first
          | (at_lookup; refine wpList_lookup_none _ rfl _ _ rfl w.heap.size k _ rfl (hm.alloc _) d.p rfl hpm HG.out ?_)
          | (at_mapUpdate; refine wpList_mapUpdate_F _ rfl _ _ _ rfl w.heap.size k _ rfl ((hm.alloc _).alloc _) (by unfold maxLen; omega) d.p rfl hpm d rfl ?_; intro w1 hm1 hg1))
        go_roundw
        case rel =>
          refine ⟨k + 1, by omega, by go_num, hm1.same (fun p => ?_), ?_⟩
          · rw [HST.out p]
            by_cases e : p = d.p
            · subst e; simp [HG.out]
            · rw [if_neg (fun h => e h.symm), if_neg e, Option.or_none]
          · have hb2 := (hbr.alloc hbr.size (.cells #[.string d.p, .string d.t] 26)).alloc (by have := hbr.size; simp; omega) (.cells #[.string ⟨#[]⟩, .string ⟨#[]⟩] 26)
            exact hb2.grown hg1 hb2.size (fun j hj => by cases hj; exact Nat.le_refl _)
        case measure => simp [intOf]; omega
    · have he : k = fs.length := by omega
      subst he
      rw [List.take_length] at hm
      clear ha hsn
      go_wp2_with fail
      go_ret
      exact ⟨rfl, hm, hbr⟩
end Go.Proofs.Ytlnofdlhjeomfaa
