/-
  Division: mathematics of meets.
-/
import Derived.Test.YtmooanfcedgfnaaDoorDvA
namespace Go.Proofs.YtmooanfcedgfnaaDoor
open Go Go.RowKit
set_option linter.unusedVariables false
set_option maxRecDepth 100000

theorem cmp_len (D : Nat → Nat → Bool) (us vs : List Nat) : (cmpM D us vs).1.length ≤ us.length ∧ (cmpM D us vs).2.2.length ≤ vs.length ∧ (∀ x, x ∈ (cmpM D us vs).1 → x ∈ us) ∧ (∀ x, x ∈ (cmpM D us vs).2.1 → x ∈ us) ∧ (∀ x, x ∈ (cmpM D us vs).2.2 → x ∈ vs) := by
  obtain ⟨h1, h2, h3, h4, h5⟩ := cmp_parts D us [] [] vs
  unfold cmpM
  refine ⟨by simp at h1; omega, h2, fun x hx => ?_, fun x hx => ?_, h5⟩
  · rcases h3 x hx with h | h
    · cases h
    · exact h
  · rcases h4 x hx with h | h
    · cases h
    · exact h
theorem cmpM_meets (D : Nat → Nat → Bool) (n : Nat) (hsym : ∀ a b, D a b = D b a) (href : ∀ a, a < n → D a a = true) (us vs : List Nat) (hu : ∀ x, x ∈ us → x < n) (hv : ∀ x, x ∈ vs → x < n) : Meets D us vs (cmpM D us vs).1 (cmpM D us vs).2.1 (cmpM D us vs).2.2 :=
  cmp_meets D n hsym href us [] [] vs us vs hu hv (Eqv.refl _ _) (Eqv.refl _ _) (fun c hc => by simp [freeB] at hc)
/-- The model's meet has the normal form of the program's. -/
theorem meet_nf (rs : List Nat) (n : Nat) (hl : rs.length = n) (hsym : ∀ a b, RDep rs a b = RDep rs b a) (href : ∀ a, a < n → RDep rs a a = true) (us vs p a b : List Nat) (hu : ∀ x, x ∈ us → x < n) (hv : ∀ x, x ∈ vs → x < n) (hm : Meets (RDep rs) us vs p a b) (hp : ∀ x, x ∈ p → x < n) :
    nfR rs p = nfR rs (cmpM (RDep rs) us vs).1 ∧ Eqv (RDep rs) a (cmpM (RDep rs) us vs).2.1 ∧ Eqv (RDep rs) b (cmpM (RDep rs) us vs).2.2 := by
  have hc := cmpM_meets (RDep rs) n hsym href us vs hu hv
  have hp' : ∀ x, x ∈ (cmpM (RDep rs) us vs).1 → x < n := fun x hx => hu x ((cmp_len _ _ _).2.2.1 x hx)
  obtain ⟨h1, h2, h3⟩ := hm.unique hsym href hc hp hp'
  refine ⟨?_, h2, h3⟩
  unfold nfR
  rw [hl]
  exact (eqv_iff_nf hsym href p _ hp hp').1 h1
end Go.Proofs.YtmooanfcedgfnaaDoor
