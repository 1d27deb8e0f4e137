/-
  What the law on files calls, told over one word: the list lies here, and goes on to; and what the list with a file put in is: facts for the walk; conditions as each says.
-/
import Derived.Test.YtlnofdlhjeomfaaFjC
import Derived.Test.YtlnofdlhjeomfaaFiZ
import Derived.Test.YtlnofdlhjeomfaaFiR
import Derived.Test.YtlnofdlhjeomfaaLawW
import Derived.Test.YtlnofdlhjeomfaaBigA
namespace Go.Proofs.Ytlnofdlhjeomfaa
open Go.RowKit Go.Maps
set_option linter.unusedSimpArgs false
set_option linter.unusedVariables false

/-- The list L lies at x, and goes on to. -/
def KF (w : World) (x : Value) (L : List FileD) : Prop := ∃ S : Nat → Prop, ∀ w', Below w.heap.size w w' → FilesIn S w' x L ∧ ∀ b, S b → b < w'.heap.size
theorem kf_owns {w : World} {lo : Nat} {x : Value} {L : List FileD} (h : w.ownsRow lo 26 2 x L.length (cellsF L)) (hs : ∀ f ∈ L, saneF f) : KF w x L :=
  ⟨_, fun w' hw => ⟨(filesIn_owns h hs).keep (Kp.of hw (fun b h => h.2)), fun b hb => Nat.lt_of_lt_of_le hb.2 hw.size⟩⟩
theorem KF.on {w w' : World} {x : Value} {L : List FileD} (h : KF w x L) (hb : Below w.heap.size w w') : KF w' x L := by
  obtain ⟨S, h⟩ := h
  exact ⟨S, fun w2 h2 => h w2 (hb.trans (h2.mono hb.size))⟩
theorem KF.now {w : World} {x : Value} {L : List FileD} (h : KF w x L) : ∃ S : Nat → Prop, FilesIn S w x L ∧ ∀ b, S b → b < w.heap.size := by
  obtain ⟨S, h⟩ := h
  exact ⟨S, h w (Below.refl _ _)⟩
theorem below_step {w w1 w2 : World} (h : Below w.heap.size w w1) (h2 : Below w1.heap.size w1 w2) : Below w.heap.size w w2 := h.trans (h2.mono h.size)
theorem twoF_sane {L : List FileD} (h : twoF L) : ∀ f ∈ L, saneF f := fun f hf => by
  have := h.2.1 f hf
  exact ⟨by unfold maxLen; omega, by unfold maxLen; omega⟩
theorem diff_self (fs : List FileD) (p : ByteArray) : (diffM (getF fs) (getF fs) p).isSome = false := by
  unfold diffM
  cases h : getF fs p with
  | none => rfl
  | some f => simp [diffO]
theorem callGet {w : World} {x : Value} {A : List FileD} {p : ByteArray} (h : KF w x A) (ht : twoF A) (hp : p.size ≤ 20) :
    Calls Try.prog 12 #[x, .string p] w fun e w' => e = .returned (.tuple #[.string (textF (getF A p)), .bool (getF A p).isSome]) ∧ Below w.heap.size w w' := by
  obtain ⟨S, h1, h2⟩ := h.now
  exact implGet_c S x A p w h1 h2 (by have := ht.2.2; omega) (by unfold maxLen; omega) (fun f hf => by have := (ht.2.1 f hf).2; omega)
theorem callDrop {w : World} {x : Value} {A : List FileD} {p : ByteArray} (h : KF w x A) (ht : twoF A) (hp : p.size ≤ 20) :
    Calls Try.prog 14 #[x, .string p] w fun e w' => ∃ y, e = .returned (.tuple #[y, .bool (dropSOk A p)]) ∧ KF w' y (dropSO A p) ∧ Below w.heap.size w w' := by
  obtain ⟨S, h1, h2⟩ := h.now
  have := implDrop_c S x A p w h1 h2 (by have := ht.2.2; omega) (fun f hf => by have := (ht.2.1 f hf).1; omega) (fun f hf => by have := (ht.2.1 f hf).2; omega) (by unfold maxLen; omega)
  rw [(dropOk_eq ht.1 p).1, (dropOk_eq ht.1 p).2] at this
  refine this.mono ?_
  rintro e w' ⟨y, he, ho, hb⟩
  refine ⟨y, he, kf_owns ho (fun f hf => ?_), hb⟩
  unfold dropSO at hf
  split at hf
  · exact twoF_sane ht f (dropS_mem hf)
  · exact twoF_sane ht f hf
theorem callSame {w : World} {x y : Value} {A : List FileD} (h : KF w x A) (h' : KF w y A) :
    Calls Try.prog 11 #[x, y] w fun e w' => e = .returned (.bool true) ∧ Below w.heap.size w w' := by
  obtain ⟨S, h1, h2⟩ := h.now
  obtain ⟨S', h3, h4⟩ := h'.now
  exact sameFiles_c S S' x y A w h1 h2 h3 h4
/-- The paths by which two lists part, ascending. -/
def DiffTs (A B : List FileD) (ts : List ByteArray) : Prop := risesS ts ∧ ∀ p, p ∈ ts ↔ (diffM (getF A) (getF B) p).isSome = true
theorem diffTs_one {A B : List FileD} {ts us : List ByteArray} (h : DiffTs A B ts) (k : DiffTs A B us) : ts = us := risesS_eq h.1 k.1 (fun x => by rw [h.2, k.2])
theorem diffTs_self {A : List FileD} {ts : List ByteArray} (h : DiffTs A A ts) : ts = [] := by
  cases ts with
  | nil => rfl
  | cons t ts =>
    have := (h.2 t).1 List.mem_cons_self
    rw [diff_self] at this
    cases this
theorem len_in {α : Type} : ∀ (ts M : List α), ts.Nodup → (∀ x ∈ ts, x ∈ M) → ts.length ≤ M.length
  | [], M, _, _ => Nat.zero_le _
  | t :: ts, M, hn, h => by
    rw [List.nodup_cons] at hn
    obtain ⟨a, b, rfl⟩ := List.append_of_mem (h t List.mem_cons_self)
    have := len_in ts (a ++ b) hn.2 (fun x hx => by
      have hm := h x (List.mem_cons_of_mem _ hx)
      have hne : x ≠ t := fun e => hn.1 (by rw [← e]; exact hx)
      rcases List.mem_append.1 hm with h1 | h1
      · exact List.mem_append_left _ h1
      · rcases List.mem_cons.1 h1 with h1 | h1
        · exact absurd h1 hne
        · exact List.mem_append_right _ h1)
    simp only [List.length_append, List.length_cons] at this ⊢
    omega
theorem rises_nodup {ts : List ByteArray} (h : risesS ts) : ts.Nodup := by
  rw [List.nodup_iff_pairwise_ne, List.pairwise_iff_getElem]
  intro i j hi hj hij e
  have h' : List.Pairwise (· < ·) (ts.map bytesL) := h
  rw [List.pairwise_iff_getElem] at h'
  have := h' i j (by simpa using hi) (by simpa using hj) hij
  rw [List.getElem_map, List.getElem_map, e] at this
  exact ltL_irrefl _ this
theorem diffTs_len {A B : List FileD} {ts : List ByteArray} (h : DiffTs A B ts) : ts.length ≤ A.length + B.length := by
  have := len_in ts (A.map FileD.p ++ B.map FileD.p) (rises_nodup h.1) (fun x hx => by
    have hx := (h.2 x).1 hx
    unfold diffM at hx
    rw [List.mem_append]
    cases hb : getF B x with
    | some f => exact .inr (List.mem_map.2 ⟨f, getF_mem hb⟩)
    | none =>
      rw [hb] at hx
      cases ha : getF A x with
      | some f => exact .inl (List.mem_map.2 ⟨f, getF_mem ha⟩)
      | none => rw [ha] at hx; cases hx)
  simpa using this
theorem callDiff {w : World} {x y : Value} {A B : List FileD} (h : KF w x A) (h' : KF w y B) (ht : twoF A) (ht' : twoF B) :
    Calls Try.prog 13 #[x, y] w fun e w' => ∃ u ts, e = .returned u ∧ DiffTs A B ts ∧ w'.ownsRow w.heap.size 9 1 u ts.length (strsV ts) ∧ Below w.heap.size w w' := by
  obtain ⟨S, h1, h2⟩ := h.now
  obtain ⟨S', h3, h4⟩ := h'.now
  refine (implDiff_c S S' x y A B w h1 h2 h3 h4 (by have := ht.2.2; omega) (by have := ht'.2.2; omega) (fun f hf => by have := (ht.2.1 f hf).1; omega) (fun f hf => by have := (ht'.2.1 f hf).1; omega)).mono ?_
  rintro e w' ⟨u, ts, he, a, b, c, d⟩
  exact ⟨u, ts, he, ⟨a, b⟩, c, d⟩
theorem callOk {w : World} {x : Value} {A : List FileD} (h : KF w x A) (ht : twoF A) :
    Calls Try.prog 15 #[x] w fun e w' => e = .returned (.bool (filesB A)) ∧ Below w.heap.size w w' := by
  obtain ⟨S, h1, h2⟩ := h.now
  exact implFilesOk_c S x A w h1 h2 (fun f hf => by have := (ht.2.1 f hf).1; omega)
theorem callOk2 {w : World} {x : Value} {A : List FileD} (h : KF w x A) (ht : twoF A) :
    Calls Try.prog 44 #[x] w fun e w' => e = .returned (.bool (filesB A)) ∧ Below w.heap.size w w' := by
  obtain ⟨S, h1, h2⟩ := h.now
  exact specFilesOk_c S x A w h1 h2 (fun f hf => by have := (ht.2.1 f hf).1; omega)

theorem KF.slice {w : World} {x : Value} {L : List FileD} (h : KF w x L) : ∃ q c, x = .slice q L.length c := by
  obtain ⟨S, h1, _⟩ := h.now
  obtain ⟨q, c, e, _⟩ := h1
  exact ⟨q, c, e⟩
theorem owns_sliceD {w : World} {lo : Nat} {e : TypeId} {sz n : Nat} {v : Value} {xs : List Value} (hg : w.ownsRow lo e sz v n xs) : ∃ q cap, v = .slice q n cap := by
  rcases hg.2 with ⟨h1, h2⟩ | ⟨g, cap, cur, h1, _⟩
  · exact ⟨none, 0, by rw [h1, h2]⟩
  · exact ⟨_, _, h1⟩
theorem filesB_len {fs : List FileD} (h : filesB fs = true) : fs.length ≤ 30 := by
  unfold filesB at h
  rw [Bool.and_eq_true] at h
  simpa using h.2
theorem path_short {p : ByteArray} (h : p ∈ pathsL ∨ p ∈ newL) : p.size ≤ 20 := by
  have ha : ∀ p ∈ pathsL, p.size ≤ 20 := by decide
  have hb : ∀ p ∈ newL, p.size ≤ 20 := by decide
  rcases h with h | h
  · exact ha _ h
  · exact hb _ h
theorem twoF_put {L : List FileD} {f : FileD} (hL : twoF L) (hf : smallF f) (h : filesB (putS L f) = true) : twoF (putS L f) :=
  ⟨filesB_dif h, fun x hx => by
    rcases putS_mem hx with rfl | hx
    · exact ⟨hf.1, by have := hf.2; omega⟩
    · exact hL.2.1 x hx, by have := filesB_len h; omega⟩
theorem twoF_drop {L : List FileD} (hL : twoF L) (h : filesB L = true) (p : ByteArray) : twoF (dropS L p) :=
  ⟨filesB_dif (filesB_drop h p), fun x hx => hL.2.1 x (dropS_mem hx), by have := filesB_len (filesB_drop h p); omega⟩
theorem callPut {w : World} {x : Value} {L : List FileD} {f : FileD} (h : KF w x L) (hL : anyF L) (hf : f.p ∈ pathsL ∨ f.p ∈ newL) (hs : smallF f) :
    Calls Try.prog 9 #[x, .agg #[.string f.p, .string f.t]] w fun e w' => ∃ y, e = .returned (.tuple #[y, .bool (filesB (putS L f))]) ∧ KF w' y (putOut L f) ∧ Below w.heap.size w w' := by
  obtain ⟨S, h1, h2⟩ := h.now
  have ht := twoF_any hL
  have hc := implPut_c S x L f w h1 h2 (by have := ht.2.2; omega) (fun f hf => by have := (ht.2.1 f hf).1; omega) (fun f hf => by have := (ht.2.1 f hf).2; omega) (by have := hs.1; omega) (by have := hs.2; omega)
  rw [(put_alike hL hf).1, (put_alike hL hf).2] at hc
  refine hc.mono ?_
  rintro e w' ⟨y, he, ho, hb⟩
  refine ⟨y, he, kf_owns ho (fun g hg => ?_), hb⟩
  unfold putOut orOld at hg
  split at hg
  · rcases putS_mem hg with rfl | hg
    · exact smallF_sane hs
    · exact twoF_sane ht g hg
  · exact twoF_sane ht g hg
theorem callPut2 {w : World} {x : Value} {L : List FileD} {f : FileD} (h : KF w x L) (hL : anyF L) (hs : smallF f) :
    Calls Try.prog 10 #[x, .agg #[.string f.p, .string f.t]] w fun e w' => ∃ y, e = .returned (.tuple #[y, .bool (filesB (putS L f))]) ∧ KF w' y (putOut L f) ∧ Below w.heap.size w w' := by
  obtain ⟨S, h1, h2⟩ := h.now
  have ht := twoF_any hL
  refine (specPut_c S x L f w h1 h2 (by have := ht.2.2; omega) (smallF_sane hs) (fun f hf => by have := (ht.2.1 f hf).1; omega) (by have := hs.1; omega)).mono ?_
  rintro e w' ⟨y, he, ho, hb⟩
  refine ⟨y, he, kf_owns ho (fun g hg => ?_), hb⟩
  unfold putOut orOld at hg
  split at hg
  · rcases putS_mem hg with rfl | hg
    · exact smallF_sane hs
    · exact twoF_sane ht g hg
  · exact twoF_sane ht g hg
theorem putOut_no {L : List FileD} {f : FileD} (h : filesB (putS L f) = false) : putOut L f = L := by unfold putOut orOld; rw [h]; rfl
theorem putOut_yes {L : List FileD} {f : FileD} (h : filesB (putS L f) = true) : putOut L f = putS L f := by unfold putOut orOld; rw [h]; rfl
theorem drop_yes {X : List FileD} {f : FileD} (h : filesB X = true) (hg : getF X f.p = some f) : dropSOk X f.p = true ∧ dropSO X f.p = dropS X f.p := by
  have e : dropSOk X f.p = true := by unfold dropSOk; rw [hg, filesB_drop h]; rfl
  exact ⟨e, by unfold dropSO; rw [e]; rfl⟩
theorem diffTs_put {L : List FileD} {f : FileD} {ts : List ByteArray} (hts : DiffTs L (putS L f) ts) (h : filesB (putS L f) = true) (hn : ∀ y, getF L f.p = some y → ¬ y.t = f.t) : ts = [f.p] :=
  diffTs_one hts ⟨rises_one _, put_diff h hn⟩
end Go.Proofs.Ytlnofdlhjeomfaa
