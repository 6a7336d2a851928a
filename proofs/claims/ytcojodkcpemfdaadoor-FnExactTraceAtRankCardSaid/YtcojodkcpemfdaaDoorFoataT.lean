/-
  The steps of a word: the model's side.
-/
import Derived.Test.YtcojodkcpemfdaaDoorFoataS
import Derived.StillTailTactics
namespace Go.Proofs.YtcojodkcpemfdaaDoor
open Go.RowKit
set_option linter.unusedVariables false
set_option linter.unusedSimpArgs false
set_option maxRecDepth 100000

theorem Rd.far2 {w w' : World} {A : Option Addr} {n : Nat} {xs : List Int} (h : Rd w A n xs) {row : Option Nat} (hg : w.grownBy w' row) (hne : ∀ b, 0 < n → A.map (·.block) = some b → row ≠ some b) : Rd w' A n xs :=
  ⟨h.1, fun hn => by
    obtain ⟨b, off, e, hb, hc⟩ := h.2 hn
    refine ⟨b, off, e, Nat.lt_of_lt_of_le hb hg.size, fun j x hx => ?_⟩
    have h1 := hg.block b hb (fun e2 => hne b hn (by rw [e]; rfl) e2.symm)
    rw [← hc j x hx]
    unfold World.cell?
    rw [h1]⟩
def lenOf : Value → Nat
  | .slice _ n _ => n
  | _ => 0
end Go.Proofs.YtcojodkcpemfdaaDoor
