/-
  A scope in which the run jumps to several labels: what holds at every jump, label by label, and a measure that every pass from a label lowers; no condition (a law for the walks, after the library's for one label).
-/
import Derived.Test.YtbkmjbjiagkjmaaScan
import Derived.WalkMore
import Derived.ScopeJumps
namespace Go.Proofs.Ytbkmjbjiagkjmaa
set_option linter.unusedSimpArgs false
set_option linter.unusedVariables false

/-- As Q; by a goto to label l: J l. -/
def jumpsTo (J : Nat → Act → World → Prop) (Q : Exit → Act → World → Prop) : Exit → Act → World → Prop
  | .goto l, a, w => J l a w
  | e, a, w => Q e a w

section
variable {P : Program} {a : Act} {w : World} {Q : Exit → Act → World → Prop}

theorem jumpsTo_normal {J : Nat → Act → World → Prop} : jumpsTo J Q .normal a w = Q .normal a w := rfl
theorem jumpsTo_ret {J : Nat → Act → World → Prop} : jumpsTo J Q .ret a w = Q .ret a w := rfl
theorem jumpsTo_goto {J : Nat → Act → World → Prop} {l : Nat} : jumpsTo J Q (.goto l) a w = J l a w := rfl
theorem jumpsTo_exit {J : Nat → Act → World → Prop} {l : Nat} : jumpsTo J Q (.exit l) a w = Q (.exit l) a w := rfl

theorem jumpsTo_mono {J J' : Nat → Act → World → Prop} {Q' : Exit → Act → World → Prop} (hJ : ∀ l a w, J l a w → J' l a w) (hQ : ∀ e a w, Q e a w → Q' e a w) : ∀ e a w, jumpsTo J Q e a w → jumpsTo J' Q' e a w
  | .goto l, a, w, h => hJ l a w h
  | .normal, a, w, h => hQ _ a w h
  | .exit _, a, w, h => hQ _ a w h
  | .ret, a, w, h => hQ _ a w h
  | .panic _, a, w, h => hQ _ a w h
  | .outgrown, a, w, h => hQ _ a w h

theorem wp_scope_labels {c : Code} (R : Nat → Code) (J : Nat → Act → World → Prop) (μ : Nat → Act → World → Nat) (hf : ∀ l a w, J l a w → findLabel c l = some (R l))
    (first : c.wp P (jumpsTo J Q) a w)
    (pass : ∀ l a w, J l a w → (R l).wp P (jumpsTo (fun l' a' w' => J l' a' w' ∧ μ l' a' w' < μ l a w) Q) a w) : (Code.scope c).wp P Q a w := by
  intro b k cs
  have key : ∀ n l a w, μ l a w = n → J l a w → ∃ e a' w', Q e a' w' ∧ Arrives P (lone (b.at a (.code (R l) :: .inScope c :: k)) cs w) b k cs e a' w' := by
    intro n
    induction n using Nat.strongRecOn with
    | _ n ih =>
      intro l a w hn hJ
      obtain ⟨e, a₁, w₁, hq, harr⟩ := pass l a w hJ b (.inScope c :: k) cs
      cases e with
      | normal => exact ⟨.normal, a₁, w₁, hq, Steps.trans harr (.one step_inScope)⟩
      | exit id => exact ⟨.exit id, a₁, w₁, hq, fun k' hk => harr k' (by simp [exitTo, hk])⟩
      | goto l' =>
        obtain ⟨hJ', hlt⟩ := hq
        obtain ⟨e₂, a₂, w₂, hq₂, harr₂⟩ := ih _ (by omega) l' a₁ w₁ rfl hJ'
        exact ⟨e₂, a₂, w₂, hq₂, .of_steps (harr _ (by simp [gotoIn, hf l' a₁ w₁ hJ'])) harr₂⟩
      | ret => exact ⟨_, a₁, w₁, hq, harr⟩
      | panic ch => exact ⟨_, a₁, w₁, hq, harr⟩
      | outgrown => exact ⟨_, a₁, w₁, hq, harr⟩
  obtain ⟨e, a₁, w₁, hq, harr⟩ := first b (.inScope c :: k) cs
  cases e with
  | normal => exact ⟨.normal, a₁, w₁, hq, .head step_scope (Steps.trans harr (.one step_inScope))⟩
  | exit id => exact ⟨.exit id, a₁, w₁, hq, fun k' hk => .head step_scope (harr k' (by simp [exitTo, hk]))⟩
  | goto l' =>
    obtain ⟨e₂, a₂, w₂, hq₂, harr₂⟩ := key _ l' a₁ w₁ rfl hq
    exact ⟨e₂, a₂, w₂, hq₂, .of_steps (.head step_scope (harr _ (by simp [gotoIn, hf l' a₁ w₁ hq]))) harr₂⟩
  | ret => exact ⟨_, a₁, w₁, hq, .of_steps (.one step_scope) harr⟩
  | panic ch => exact ⟨_, a₁, w₁, hq, .of_steps (.one step_scope) harr⟩
  | outgrown => exact ⟨_, a₁, w₁, hq, .of_steps (.one step_scope) harr⟩
/-- From label l, where J l holds, the rest r runs; each jump lowers the number. -/
def Pass (P : Program) (Q : Exit → Act → World → Prop) (J : Nat → Nat → Act → World → Prop) (l : Nat) (r : Code) : Prop :=
  ∀ n a w, J l n a w → ∀ H : Nat → Act → World → Prop, (∀ l' n' a' w', n' < n → J l' n' a' w' → H l' a' w') → r.wp P (jumpsTo H Q) a w

theorem pass_skip {J : Nat → Nat → Act → World → Prop} {l : Nat} {r : Code} (h : Pass P Q J l r) : Pass P Q J l (Code.skip.seq r) := fun n a w hJ H hH =>
  wp_seq (wp_skip (h n a w hJ H hH))

theorem wp_scope_three {c ra rb rc : Code} (A B C : Nat) (J : Nat → Nat → Act → World → Prop) (ha : findLabel c A = some (Code.skip.seq ra)) (hb : findLabel c B = some (Code.skip.seq rb)) (hc : findLabel c C = some (Code.skip.seq rc))
    (hl : ∀ l n a w, J l n a w → l = A ∨ l = B ∨ l = C) (pa : Pass P Q J A ra) (pb : Pass P Q J A ra → Pass P Q J B rb) (pc : Pass P Q J A ra → Pass P Q J B rb → Pass P Q J C rc)
    (first : Pass P Q J A ra → Pass P Q J B rb → Pass P Q J C rc → ∀ H : Nat → Act → World → Prop, (∀ l n a w, J l n a w → H l a w) → c.wp P (jumpsTo H Q) a w) : (Code.scope c).wp P Q a w := by
  have pb' := pb pa
  have pc' := pc pa pb'
  have hf : ∀ l n a w, J l n a w → ∃ r, findLabel c l = some r ∧ Pass P Q J l r := fun l n a w h => by
    rcases hl l n a w h with rfl | rfl | rfl
    · exact ⟨_, ha, pass_skip pa⟩
    · exact ⟨_, hb, pass_skip pb'⟩
    · exact ⟨_, hc, pass_skip pc'⟩
  intro b k cs
  have key : ∀ n l r a w, findLabel c l = some r → Pass P Q J l r → J l n a w → ∃ e a' w', Q e a' w' ∧ Arrives P (lone (b.at a (.code r :: .inScope c :: k)) cs w) b k cs e a' w' := by
    intro n
    induction n using Nat.strongRecOn with
    | _ n ih =>
      intro l r a w hr hp hJ
      obtain ⟨e, a₁, w₁, hq, harr⟩ := hp n a w hJ (fun l' a' w' => ∃ n', n' < n ∧ J l' n' a' w') (fun l' n' a' w' h1 h2 => ⟨n', h1, h2⟩) b (.inScope c :: k) cs
      cases e with
      | normal => exact ⟨.normal, a₁, w₁, hq, Steps.trans harr (.one step_inScope)⟩
      | exit id => exact ⟨.exit id, a₁, w₁, hq, fun k' hk => harr k' (by simp [exitTo, hk])⟩
      | goto l' =>
        obtain ⟨n', hlt, hJ'⟩ := hq
        obtain ⟨r', hr', hp'⟩ := hf l' n' a₁ w₁ hJ'
        obtain ⟨e₂, a₂, w₂, hq₂, harr₂⟩ := ih n' hlt l' r' a₁ w₁ hr' hp' hJ'
        exact ⟨e₂, a₂, w₂, hq₂, .of_steps (harr _ (by simp [gotoIn, hr'])) harr₂⟩
      | ret => exact ⟨_, a₁, w₁, hq, harr⟩
      | panic ch => exact ⟨_, a₁, w₁, hq, harr⟩
      | outgrown => exact ⟨_, a₁, w₁, hq, harr⟩
  obtain ⟨e, a₁, w₁, hq, harr⟩ := first pa pb' pc' (fun l a w => ∃ n, J l n a w) (fun l n a w h => ⟨n, h⟩) b (.inScope c :: k) cs
  cases e with
  | normal => exact ⟨.normal, a₁, w₁, hq, .head step_scope (Steps.trans harr (.one step_inScope))⟩
  | exit id => exact ⟨.exit id, a₁, w₁, hq, fun k' hk => .head step_scope (harr k' (by simp [exitTo, hk]))⟩
  | goto l' =>
    obtain ⟨n', hJ'⟩ := hq
    obtain ⟨r', hr', hp'⟩ := hf l' n' a₁ w₁ hJ'
    obtain ⟨e₂, a₂, w₂, hq₂, harr₂⟩ := key n' l' r' a₁ w₁ hr' hp' hJ'
    exact ⟨e₂, a₂, w₂, hq₂, .of_steps (.head step_scope (harr _ (by simp [gotoIn, hr']))) harr₂⟩
  | ret => exact ⟨_, a₁, w₁, hq, .of_steps (.one step_scope) harr⟩
  | panic ch => exact ⟨_, a₁, w₁, hq, .of_steps (.one step_scope) harr⟩
  | outgrown => exact ⟨_, a₁, w₁, hq, .of_steps (.one step_scope) harr⟩
end
end Go.Proofs.Ytbkmjbjiagkjmaa
