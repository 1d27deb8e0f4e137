/-
  At every code the drawn paths and lists of files are as the law says: the program and the specification answer alike what is right, what lies at a path, what is left where one is dropped, and by which paths two lists part, ascending; a list parts from itself by none; no condition (a code of more than 2 to the 20 bytes is passed by, as the law says).
-/
import Derived.Test.YtbkmjbjiagkjmaaRows
import Derived.WalkKit
import Derived.Test.YtbkmjbjiagkjmaaFiT
import Derived.Test.YtbkmjbjiagkjmaaFiR
import Derived.Test.YtbkmjbjiagkjmaaLawW
import Derived.Test.YtbkmjbjiagkjmaaBigA
import Derived.ProofKit
import Derived.OpenShut
import Derived.ShutString
import Derived.SliceStrings
import Derived.ChangeOld
import Derived.Below
namespace Go.Proofs.Ytbkmjbjiagkjmaa.fnFilesBent
open Go.ChangeShapes Go.WideShapes Go.ChangeAt Go.RowKit
open Go.ChangeMaps (open_string shut_string)
set_option linter.unusedVariables false
set_option linter.unusedSimpArgs false

theorem own : ownKnob Try.prog.godebug = none := by kernel_rfl
theorem laidOut : laidOutB Try.prog = true := by kernel_rfl

theorem addr_add (b off i : Nat) : ((⟨b, off, none⟩ : Addr).add i) = ⟨b, off + i, none⟩ := by unfold Addr.add; split <;> simp_all
theorem reads_mk {w : World} {x : Addr} {len cap : Nat} {xs : List Value} (hl : xs.length = len) (hc : len ≤ cap) (hcell : ∀ i (h : i < xs.length), w.cell? (x.add i) = some xs[i]) : Reads w (.slice (some x) len cap) xs := by
  subst hl
  by_cases h0 : xs.length = 0
  · exact ⟨some x, cap, rfl, hc, .inl (List.eq_nil_of_length_eq_zero h0)⟩
  · obtain ⟨b, off, spot⟩ := x
    have hc0 := hcell 0 (by omega)
    have hspot : spot = none := by simpa [Addr.add] using World.cell?_spot hc0
    subst hspot
    refine ⟨some ⟨b, off, none⟩, cap, rfl, hc, .inr ⟨b, off, rfl, ?_, fun i hi => ?_⟩⟩
    · rw [addr_add] at hc0; exact World.block_lt_of_cell? w _ hc0
    · have := hcell i hi; rw [addr_add] at this; exact this


/-- The list L lies at x, and goes on to. -/
def KF (w : World) (x : Value) (L : List FileD) : Prop := ∃ S : Nat → Prop, ∀ w', Below w.heap.size w w' → FilesIn S w' x L ∧ ∀ b, S b → b < w'.heap.size
theorem kf_owns {w : World} {lo : Nat} {x : Value} {L : List FileD} (h : w.ownsRow lo 26 2 x L.length (cellsF L)) (hs : ∀ f ∈ L, saneF f) : KF w x L :=
  ⟨_, fun w' hw => ⟨(filesIn_owns h hs).keep (Kp.of hw (fun b h => h.2)), fun b hb => Nat.lt_of_lt_of_le hb.2 hw.size⟩⟩
theorem KF.on {w w' : World} {x : Value} {L : List FileD} (h : KF w x L) (hb : Below w.heap.size w w') : KF w' x L := by
  obtain ⟨S, h⟩ := h
  exact ⟨S, fun w2 h2 => h w2 (hb.trans (h2.mono hb.size))⟩
theorem KF.now {w : World} {x : Value} {L : List FileD} (h : KF w x L) : ∃ S : Nat → Prop, FilesIn S w x L ∧ ∀ b, S b → b < w.heap.size := by
  obtain ⟨S, h⟩ := h
  exact ⟨S, h w (Below.refl _ _)⟩
theorem below_step {w w1 w2 : World} (h : Below w.heap.size w w1) (h2 : Below w1.heap.size w1 w2) : Below w.heap.size w w2 := h.trans (h2.mono h.size)
theorem twoF_sane {L : List FileD} (h : twoF L) : ∀ f ∈ L, saneF f := fun f hf => by
  have := h.2.1 f hf
  exact ⟨by unfold maxLen; omega, by unfold maxLen; omega⟩
theorem diff_self (fs : List FileD) (p : ByteArray) : (diffM (getF fs) (getF fs) p).isSome = false := by
  unfold diffM
  cases h : getF fs p with
  | none => rfl
  | some f => simp [diffO]
theorem callGet {w : World} {x : Value} {A : List FileD} {p : ByteArray} (h : KF w x A) (ht : twoF A) (hp : p.size ≤ 20) :
    Calls Try.prog 15 #[x, .string p] w fun e w' => e = .returned (.tuple #[.string (textF (getF A p)), .bool (getF A p).isSome]) ∧ Below w.heap.size w w' := by
  obtain ⟨S, h1, h2⟩ := h.now
  exact implGet_c S x A p w h1 h2 (by have := ht.2.2; omega) (by unfold maxLen; omega) (fun f hf => by have := (ht.2.1 f hf).2; omega)
theorem callGet2 {w : World} {x : Value} {A : List FileD} {p : ByteArray} (h : KF w x A) :
    Calls Try.prog 23 #[x, .string p] w fun e w' => e = .returned (.tuple #[.string (textF (getF A p)), .bool (getF A p).isSome]) ∧ w = w' := by
  obtain ⟨S, h1, h2⟩ := h.now
  exact specGet_c S x A p w h1 h2
theorem callDrop {w : World} {x : Value} {A : List FileD} {p : ByteArray} (h : KF w x A) (ht : twoF A) (hp : p.size ≤ 20) :
    Calls Try.prog 17 #[x, .string p] w fun e w' => ∃ y, e = .returned (.tuple #[y, .bool (dropSOk A p)]) ∧ KF w' y (dropSO A p) ∧ Below w.heap.size w w' := by
  obtain ⟨S, h1, h2⟩ := h.now
  have := implDrop_c S x A p w h1 h2 (by have := ht.2.2; omega) (fun f hf => by have := (ht.2.1 f hf).1; omega) (fun f hf => by have := (ht.2.1 f hf).2; omega) (by unfold maxLen; omega)
  rw [(dropOk_eq ht.1 p).1, (dropOk_eq ht.1 p).2] at this
  refine this.mono ?_
  rintro e w' ⟨y, he, ho, hb⟩
  refine ⟨y, he, kf_owns ho (fun f hf => ?_), hb⟩
  unfold dropSO at hf
  split at hf
  · exact twoF_sane ht f (dropS_mem hf)
  · exact twoF_sane ht f hf
theorem callDrop2 {w : World} {x : Value} {A : List FileD} {p : ByteArray} (h : KF w x A) (ht : twoF A) :
    Calls Try.prog 25 #[x, .string p] w fun e w' => ∃ y, e = .returned (.tuple #[y, .bool (dropSOk A p)]) ∧ KF w' y (dropSO A p) ∧ Below w.heap.size w w' := by
  obtain ⟨S, h1, h2⟩ := h.now
  refine (specDrop_c S x A p w h1 h2 (by have := ht.2.2; omega) (fun f hf => by have := (ht.2.1 f hf).1; omega)).mono ?_
  rintro e w' ⟨y, he, ho, hb⟩
  refine ⟨y, he, kf_owns ho (fun f hf => ?_), hb⟩
  unfold dropSO at hf
  split at hf
  · exact twoF_sane ht f (dropS_mem hf)
  · exact twoF_sane ht f hf
theorem callSame {w : World} {x y : Value} {A : List FileD} (h : KF w x A) (h' : KF w y A) :
    Calls Try.prog 14 #[x, y] w fun e w' => e = .returned (.bool true) ∧ Below w.heap.size w w' := by
  obtain ⟨S, h1, h2⟩ := h.now
  obtain ⟨S', h3, h4⟩ := h'.now
  exact sameFiles_c S S' x y A w h1 h2 h3 h4
/-- The paths by which two lists part, ascending. -/
def DiffTs (A B : List FileD) (ts : List ByteArray) : Prop := risesS ts ∧ ∀ p, p ∈ ts ↔ (diffM (getF A) (getF B) p).isSome = true
theorem diffTs_one {A B : List FileD} {ts us : List ByteArray} (h : DiffTs A B ts) (k : DiffTs A B us) : ts = us := risesS_eq h.1 k.1 (fun x => by rw [h.2, k.2])
theorem diffTs_self {A : List FileD} {ts : List ByteArray} (h : DiffTs A A ts) : ts = [] := by
  cases ts with
  | nil => rfl
  | cons t ts =>
    have := (h.2 t).1 List.mem_cons_self
    rw [diff_self] at this
    cases this
theorem len_in {α : Type} : ∀ (ts M : List α), ts.Nodup → (∀ x ∈ ts, x ∈ M) → ts.length ≤ M.length
  | [], M, _, _ => Nat.zero_le _
  | t :: ts, M, hn, h => by
    rw [List.nodup_cons] at hn
    obtain ⟨a, b, rfl⟩ := List.append_of_mem (h t List.mem_cons_self)
    have := len_in ts (a ++ b) hn.2 (fun x hx => by
      have hm := h x (List.mem_cons_of_mem _ hx)
      have hne : x ≠ t := fun e => hn.1 (by rw [← e]; exact hx)
      rcases List.mem_append.1 hm with h1 | h1
      · exact List.mem_append_left _ h1
      · rcases List.mem_cons.1 h1 with h1 | h1
        · exact absurd h1 hne
        · exact List.mem_append_right _ h1)
    simp only [List.length_append, List.length_cons] at this ⊢
    omega
theorem rises_nodup {ts : List ByteArray} (h : risesS ts) : ts.Nodup := by
  rw [List.nodup_iff_pairwise_ne, List.pairwise_iff_getElem]
  intro i j hi hj hij e
  have h' : List.Pairwise (· < ·) (ts.map bytesL) := h
  rw [List.pairwise_iff_getElem] at h'
  have := h' i j (by simpa using hi) (by simpa using hj) hij
  rw [List.getElem_map, List.getElem_map, e] at this
  exact ltL_irrefl _ this
theorem diffTs_len {A B : List FileD} {ts : List ByteArray} (h : DiffTs A B ts) : ts.length ≤ A.length + B.length := by
  have := len_in ts (A.map FileD.p ++ B.map FileD.p) (rises_nodup h.1) (fun x hx => by
    have hx := (h.2 x).1 hx
    unfold diffM at hx
    rw [List.mem_append]
    cases hb : getF B x with
    | some f => exact .inr (List.mem_map.2 ⟨f, getF_mem hb⟩)
    | none =>
      rw [hb] at hx
      cases ha : getF A x with
      | some f => exact .inl (List.mem_map.2 ⟨f, getF_mem ha⟩)
      | none => rw [ha] at hx; cases hx)
  simpa using this
theorem callDiff {w : World} {x y : Value} {A B : List FileD} (h : KF w x A) (h' : KF w y B) (ht : twoF A) (ht' : twoF B) :
    Calls Try.prog 16 #[x, y] w fun e w' => ∃ u ts, e = .returned u ∧ DiffTs A B ts ∧ w'.ownsRow w.heap.size 9 1 u ts.length (strsV ts) ∧ Below w.heap.size w w' := by
  obtain ⟨S, h1, h2⟩ := h.now
  obtain ⟨S', h3, h4⟩ := h'.now
  refine (implDiff_c S S' x y A B w h1 h2 h3 h4 (by have := ht.2.2; omega) (by have := ht'.2.2; omega) (fun f hf => by have := (ht.2.1 f hf).1; omega) (fun f hf => by have := (ht'.2.1 f hf).1; omega)).mono ?_
  rintro e w' ⟨u, ts, he, a, b, c, d⟩
  exact ⟨u, ts, he, ⟨a, b⟩, c, d⟩
theorem callDiff2 {w : World} {x y : Value} {A B : List FileD} (h : KF w x A) (h' : KF w y B) (ht : twoF A) (ht' : twoF B) :
    Calls Try.prog 30 #[x, y] w fun e w' => ∃ u ts, e = .returned u ∧ DiffTs A B ts ∧ w'.ownsRow w.heap.size 9 1 u ts.length (strsV ts) ∧ Below w.heap.size w w' := by
  obtain ⟨S, h1, h2⟩ := h.now
  obtain ⟨S', h3, h4⟩ := h'.now
  refine (specDiff_c S S' x y A B w h1 h2 h3 h4 (by have := ht.2.2; omega) (by have := ht'.2.2; omega) (difF_once ht.1) (difF_once ht'.1)).mono ?_
  rintro e w' ⟨u, ts, he, a, b, c, d⟩
  exact ⟨u, ts, he, ⟨a, b⟩, c, d⟩
theorem callOk {w : World} {x : Value} {A : List FileD} (h : KF w x A) (ht : twoF A) :
    Calls Try.prog 18 #[x] w fun e w' => e = .returned (.bool (filesB A)) ∧ Below w.heap.size w w' := by
  obtain ⟨S, h1, h2⟩ := h.now
  exact implFilesOk_c S x A w h1 h2 (fun f hf => by have := (ht.2.1 f hf).1; omega)
theorem callOk2 {w : World} {x : Value} {A : List FileD} (h : KF w x A) (ht : twoF A) :
    Calls Try.prog 29 #[x] w fun e w' => e = .returned (.bool (filesB A)) ∧ Below w.heap.size w w' := by
  obtain ⟨S, h1, h2⟩ := h.now
  exact specFilesOk_c S x A w h1 h2 (fun f hf => by have := (ht.2.1 f hf).1; omega)
set_option maxHeartbeats 4000000 in
set_option maxRecDepth 100000 in
theorem walk (a0 : Value) (z0 : List Int) (w : World) (r0 : Reads w a0 (bytesV z0)) (w0 : ∀ z ∈ z0, 0 ≤ z ∧ z ≤ 255) (l0 : z0.length ≤ maxLen) :
    Calls Try.prog 4 #[a0] w fun e w' => e = .returned (.bool true) ∧ Below w.heap.size w w' := by
  by_cases hbig : (1048576 : Int) < (z0.length : Int)
  · have HBG := bigYes_c a0 z0 w r0 hbig
    go_enter Try.func4, Try.ntmps4
    go_wp2_with (go_at_call 10; refine HBG.mono ?_; rintro e w1 ⟨rfl, rfl⟩)
    go_ret
    exact ⟨rfl, Below.refl _ _⟩
  have HBG := bigNo_c a0 z0 w r0 hbig
  have hn : z0.length ≤ 1048576 := by omega
  have HR : Hid (∀ w', Below w.heap.size w w' → Reads w' a0 (bytesV z0)) := fun w' h => r0.below h
  have HZ : Hid (∀ z ∈ z0, 0 ≤ z ∧ z ≤ 255) := w0
  clear r0 w0 hbig
  go_enter Try.func4, Try.ntmps4
  go_wp2_with fail
  go_at_call 10
  refine HBG.mono ?_
  rintro e w1 ⟨rfl, rfl⟩
  clear HBG
  go_wp2_with fail
  go_at_call 20
  refine (drawPathOk_c a0 z0 _ (HR.out _ (Below.refl _ _)) hn HZ.out).mono ?_
  rintro e w2 ⟨p, hp, rfl, k2⟩
  go_wp2_with fail
  go_at_call 21
  refine (drawFilesOk_c a0 z0 _ (HR.out _ k2) hn HZ.out).mono ?_
  rintro e w3 ⟨xl, L, rfl, oL, hL, b3⟩
  have k3 := below_step k2 b3
  have tL : Hid (twoF L) := twoF_any hL
  have KL := kf_owns oL (twoF_sane tL.out)
  clear oL hL b3
  go_wp2_with fail
  go_at_call 22
  refine (drawGetFile_c a0 z0 _ (HR.out _ k3) hn HZ.out).mono ?_
  rintro e w4 ⟨xa, A, path, rfl, oA, hA, hpath, b4⟩
  have k4 := below_step k3 b4
  have tA : Hid (twoF A) := twoF_any hA
  have KA := kf_owns oA (twoF_sane tA.out)
  have HG1 := callGet (p := path) KA tA.out hpath
  have HG2 := fun w' h => callGet2 (w := w') (p := path) (KF.on KA h)
  obtain ⟨s, hs⟩ : ∃ s, s = textF (getF A path) := ⟨_, rfl⟩
  obtain ⟨ok, hok⟩ : ∃ s, s = (getF A path).isSome := ⟨_, rfl⟩
  rw [← hs, ← hok] at HG1
  simp only [← hs, ← hok] at HG2
  have HG2' : Hid (∀ w', Below w4.heap.size w4 w' → Calls Try.prog 23 #[xa, .string path] w' fun e w2 => e = .returned (.tuple #[.string s, .bool ok]) ∧ w' = w2) := HG2
  have KL := KL.on b4
  clear oA hA b4 hs hok HG2 KA
  go_wp2_with fail
  go_at_call 15
  refine HG1.mono ?_
  rintro e w5 ⟨rfl, b5⟩
  have k5 := below_step k4 b5
  have KL := KL.on b5
  go_wp2_with fail
  go_at_call 23
  refine (HG2'.out _ b5).mono ?_
  rintro e w5b ⟨rfl, rfl⟩
  clear HG1 HG2' b5
  go_wp2_with fail
  go_at_call 24
  refine (drawDropFile_c a0 z0 _ (HR.out _ k5) hn HZ.out).mono ?_
  rintro e w6 ⟨xb, B, q, rfl, oB, hB, hq, b6⟩
  have k6 := below_step k5 b6
  have tB : Hid (twoF B) := twoF_any hB
  have KB := kf_owns oB (twoF_sane tB.out)
  have KL := KL.on b6
  have HD1 := callDrop (p := q) KB tB.out hq
  have HD2 := fun w' h => callDrop2 (w := w') (p := q) (KF.on KB h) tB.out
  obtain ⟨can, hcan⟩ : ∃ s, s = dropSOk B q := ⟨_, rfl⟩
  obtain ⟨F, hF⟩ : ∃ s, s = dropSO B q := ⟨_, rfl⟩
  rw [← hcan, ← hF] at HD1
  simp only [← hcan, ← hF] at HD2
  have HD2' : Hid (∀ w', Below w6.heap.size w6 w' → Calls Try.prog 25 #[xb, .string q] w' fun e w2 => ∃ y, e = .returned (.tuple #[y, .bool can]) ∧ KF w2 y F ∧ Below w'.heap.size w' w2) := HD2
  clear oB hB b6 hcan hF HD2 KB
  go_wp2_with fail
  go_at_call 17
  refine HD1.mono ?_
  rintro e w7 ⟨xx, rfl, KX, b7⟩
  have k7 := below_step k6 b7
  have KL := KL.on b7
  go_wp2_with fail
  go_at_call 25
  refine (HD2'.out _ b7).mono ?_
  rintro e w8 ⟨xy, rfl, KY, b8⟩
  have k8 := below_step k7 b8
  have KL := KL.on b8
  have KX := KX.on b8
  clear HD1 HD2' b7 b8
  go_wp2_with fail
  go_at_call 26
  refine (drawDiffFiles_c a0 z0 _ (HR.out _ k8) hn HZ.out).mono ?_
  rintro e w9 ⟨xc, xd, C, D, rfl, oC, hC, oD, hD, b9⟩
  have k9 := below_step k8 b9
  have tC : Hid (twoF C) := hC
  have tD : Hid (twoF D) := hD
  have KC := kf_owns oC (twoF_sane hC)
  have KD := kf_owns oD (twoF_sane hD)
  have KL := KL.on b9
  have KX := KX.on b9
  have KY := KY.on b9
  clear oC oD hC hD b9
  go_wp2_with fail
  go_at_call 16
  refine (callDiff KC KD tC.out tD.out).mono ?_
  rintro e w10 ⟨xe, ts, rfl, hts, oE, b10⟩
  have k10 := below_step k9 b10
  have KC := KC.on b10
  have KD := KD.on b10
  have KL := KL.on b10
  have KX := KX.on b10
  have KY := KY.on b10
  have RE : Hid (∀ w', Below w10.heap.size w10 w' → Reads w' xe (strsV ts)) := fun w' h => (reads_of_owns oE).below h
  have hel : ts.length ≤ 1099511627776 := by
    have h1 := diffTs_len hts
    have h2 := tC.out.2.2
    have h3 := tD.out.2.2
    omega
  have HTS : Hid (DiffTs C D ts) := hts
  obtain ⟨r1, hr1⟩ : ∃ s, s = pathB p := ⟨_, rfl⟩
  obtain ⟨r2, hr2⟩ : ∃ s, s = filesB L := ⟨_, rfl⟩
  have H1 : Hid (∀ w', Calls Try.prog 27 #[.string p] w' fun e w2 => e = .returned (.bool r1) ∧ Below w'.heap.size w' w2) := fun w' => by rw [hr1]; exact implPath_c p w' (by omega)
  have H2 : Hid (∀ w', Calls Try.prog 28 #[.string p] w' fun e w2 => e = .returned (.bool r1) ∧ Below w'.heap.size w' w2) := fun w' => by rw [hr1]; exact specPath_c p w' (by omega)
  have H3 : Hid (∀ w', KF w' xl L → Calls Try.prog 18 #[xl] w' fun e w2 => e = .returned (.bool r2) ∧ Below w'.heap.size w' w2) := fun w' h => by rw [hr2]; exact callOk h tL.out
  have H4 : Hid (∀ w', KF w' xl L → Calls Try.prog 29 #[xl] w' fun e w2 => e = .returned (.bool r2) ∧ Below w'.heap.size w' w2) := fun w' h => by rw [hr2]; exact callOk2 h tL.out
  have hrr1 : (r1 == r1) = true := by simp
  have hrr2 : (r2 == r2) = true := by simp
  clear oE b10 hts hr1 hr2
  go_wp2_with fail
  go_at_call 27
  refine (H1.out _).mono ?_
  rintro e w11 ⟨rfl, b11⟩
  have k11 := below_step k10 b11
  have KC := KC.on b11
  have KD := KD.on b11
  have KL := KL.on b11
  have KX := KX.on b11
  have KY := KY.on b11
  have c11 := b11
  go_wp2_with fail
  go_at_call 28
  refine (H2.out _).mono ?_
  rintro e w12 ⟨rfl, b12⟩
  have k12 := below_step k11 b12
  have KC := KC.on b12
  have KD := KD.on b12
  have KL := KL.on b12
  have KX := KX.on b12
  have KY := KY.on b12
  have c12 := below_step c11 b12
  go_wp2_with fail
  go_at_call 18
  refine (H3.out _ KL).mono ?_
  rintro e w13 ⟨rfl, b13⟩
  have k13 := below_step k12 b13
  have KC := KC.on b13
  have KD := KD.on b13
  have KL := KL.on b13
  have KX := KX.on b13
  have KY := KY.on b13
  have c13 := below_step c12 b13
  go_wp2_with fail
  go_at_call 29
  refine (H4.out _ KL).mono ?_
  rintro e w14 ⟨rfl, b14⟩
  have k14 := below_step k13 b14
  have KC := KC.on b14
  have KD := KD.on b14
  have KX := KX.on b14
  have KY := KY.on b14
  have c14 := below_step c13 b14
  go_wp2_with fail
  go_at_call 14
  refine (callSame KX KY).mono ?_
  rintro e w15 ⟨rfl, b15⟩
  have k15 := below_step k14 b15
  have KC := KC.on b15
  have KD := KD.on b15
  have c15 := below_step c14 b15
  go_wp2_with fail
  go_at_call 30
  refine (callDiff2 KC KD tC.out tD.out).mono ?_
  rintro e w16 ⟨xf, us, rfl, hus, oF, b16⟩
  have k16 := below_step k15 b16
  have KC := KC.on b16
  have KD := KD.on b16
  have c16 := below_step c15 b16
  have hut : us = ts := diffTs_one hus HTS.out
  subst hut
  have HST := sameTexts_c xe xf us us w16 (RE.out _ c16) (reads_of_owns oF) hel
  rw [decide_eq_true rfl] at HST
  clear hus oF
  go_wp2_with fail
  go_at_call 19
  refine HST.mono ?_
  rintro e w17 ⟨rfl, b17⟩
  have k17 := below_step k16 b17
  have KC := KC.on b17
  have c17 := below_step c16 b17
  clear HST
  go_wp2_with fail
  go_at_call 31
  refine (ascending_c xe us w17 (RE.out _ c17) hel HTS.out.1).mono ?_
  rintro e w18 ⟨rfl, b18⟩
  have k18 := below_step k17 b18
  have KC := KC.on b18
  go_wp2_with fail
  go_at_call 16
  refine (callDiff KC KC tC.out tC.out).mono ?_
  rintro e w19 ⟨xg, ns, rfl, hns, oG, b19⟩
  have k19 := below_step k18 b19
  have hne := diffTs_self hns
  subst hne
  obtain ⟨q9, c9, hx9⟩ : ∃ q c, xg = .slice q 0 c := by rcases oG.2 with ⟨rfl, _⟩ | ⟨g, c, cur, rfl, _⟩ <;> exact ⟨_, _, rfl⟩
  subst hx9
  clear oG hns
  go_wp2_with fail
  go_ret
  exact ⟨by rfl, k19⟩

set_option maxRecDepth 100000 in
theorem lifted (os : Os) (started : os.Started) (H : Type) (enc : TypeId × Value → H) :
    ReturnsInHanded {} Try.checked os 4 .any (Rows.fnFilesBentSpec.pre6 enc Try.prog Try.f4 Rows.fnFilesBentRow.domain false) (Rows.fnFilesBentSpec.post enc Try.prog Try.f4 false true false false) := by
  refine returnsInHanded_of_change (C := Try.checked) own started (by kernel_rfl) Try.func4
    (ChangeSpec.witness6 (enc := enc) (C := Try.checked) false ⟨#[], #[.slice none 0 0], []⟩ 8 (by kernel_rfl) (by kernel_rfl) (by kernel_rfl) (by kernel_rfl)) ?_
  intro W base args ds gs before hval0 hW hcnd _
  have hval : ∀ (j : Nat) t v, Try.f4.params[j]? = some t → args[j]? = some v → Value.okWide Try.prog W .any base t v := hval0
  have hW' := hW
  obtain ⟨p, q, hA0, hV, rfl, hfz, hnd⟩ := hW
  have hA : DataW.TrodAll enc Try.prog W 0 (fun _ => true) true Try.f4.params.toList args.toList ds p := hA0
  rw [Try.params4] at hA hval
  obtain ⟨v0, vs0, d0, ds0, p0, q0, hargs, rfl, rfl, h0, r0⟩ := trodAll_cons hA
  obtain ⟨rfl, rfl, rfl⟩ := trodAll_nil r0
  obtain rfl : args = #[v0] := by cases args; simp_all
  obtain ⟨rfl, rfl⟩ := trodVars_none hV
  obtain ⟨a0, len0, cap0, rfl⟩ := okWide_slice Try.underlying22 (hval 0 22 v0 rfl rfl)
  have k0 := h0
  have lt0 : ∀ x ∈ p0, x.block < W.heap.size := by obtain ⟨m, hm⟩ := k0; exact DataW.trod_lt m _ _ _ hm
  obtain ⟨z0, t0, w0, l0⟩ : ∃ zs : List Int, Reads W (.slice a0 len0 cap0) (bytesV zs) ∧ (∀ z ∈ zs, 0 ≤ z ∧ z ≤ 255) ∧ zs.length ≤ maxLen := by
    obtain ⟨fuel, hf⟩ := h0
    rcases open_ints Try.underlying22 Try.underlying5 (by kernel_rfl) hf with ⟨hcs, _⟩ | ⟨x, l, c, zs, hcs, _, hl, hm, hz, _, hcell, hwz⟩
    · simp [Value.cells] at hcs
      obtain ⟨rfl, rfl, rfl⟩ := hcs
      exact ⟨[], ⟨none, 0, rfl, Nat.le_refl _, .inl rfl⟩, by simp, by simp⟩
    · simp [Value.cells] at hcs
      obtain ⟨rfl, rfl, rfl⟩ := hcs
      have hz' : zs.length = cap0 := by simpa using hz
      refine ⟨zs.take len0, reads_mk (by simp; omega) hl (fun i hi => ?_), fun z hzm => ?_, by simp; omega⟩
      · simp at hi
        rw [hcell i (by omega)]
        simp [bytesV, List.getD_eq_getElem?_getD, show i < zs.length by omega]
      · have := hwz z (List.mem_of_mem_take hzm)
        simpa [Lit.wf, IntKind.min, IntKind.max, IntKind.signed, IntKind.bits] using this
  clear hA0 hval0
  refine (walk _ z0 W t0 w0 l0).mono fun e W' ⟨he, bel⟩ => ?_
  subst he
  exact ⟨_, rfl, _, _, _, [], _, [], hW', trodAll_mk1 (shut_bool Try.underlying4 _), (trodAll_cons_mk (Below.trod laidOut (by kernel_rfl) (of_decide_eq_true (by kernel_rfl)) k0 bel lt0) trodAll_mk0), rfl, bel.frame _, fun h => by cases h⟩

theorem over : Rows.fnFilesBentRow.holds Try.pinned (OpenSpec.ofChange Rows.fnFilesBentSpec) :=
  OpenClaim.holds_of_wide 4 Try.f4 rfl rfl rfl rfl rfl rfl rfl ⟨rfl, rfl, rfl, rfl, rfl⟩ rfl rfl rfl rfl rfl (by kernel_rfl) Try.func4 (by kernel_rfl)
    (of_decide_eq_true (by kernel_rfl)) (by unfold Func.isWrapper; first | (rw [if_pos (by decide +kernel)]; kernel_rfl) | (rw [if_neg (by decide +kernel)]; exact ⟨rfl, rfl⟩))
    (fun os started H enc _ => lifted os started H enc)

theorem proved : Rows.FnFilesBentSaid := over
end Go.Proofs.Ytbkmjbjiagkjmaa.fnFilesBent
namespace Go.Proofs.Ytbkmjbjiagkjmaa
theorem fnFilesBent_holds : Rows.FnFilesBentSaid := fnFilesBent.proved
#print axioms fnFilesBent_holds
end Go.Proofs.Ytbkmjbjiagkjmaa
