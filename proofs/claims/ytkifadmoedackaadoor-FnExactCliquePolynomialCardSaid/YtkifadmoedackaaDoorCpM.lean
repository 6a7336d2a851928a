/-
  The clique polynomial: how it is added up, set after set.
-/
import Derived.Test.YtkifadmoedackaaDoorPop
import Derived.Test.YtkifadmoedackaaDoorAlStepM
namespace Go.Proofs.YtkifadmoedackaaDoor
open Go Go.RowKit
set_option linter.unusedVariables false
set_option maxRecDepth 100000

def sgnM (k : Nat) : Int := 1 - 2 * ((k % 2 : Nat) : Int)
def padM (xs : List Int) (k : Nat) : List Int := xs ++ List.replicate (k + 1 - xs.length) 0
theorem padM_len (xs : List Int) (k : Nat) : (padM xs k).length = max xs.length (k + 1) := by
  unfold padM; rw [List.length_append, List.length_replicate]; omega
theorem padM_done (xs : List Int) (k : Nat) (h : k < xs.length) : padM xs k = xs := by
  unfold padM; rw [show k + 1 - xs.length = 0 by omega]; simp
theorem padM_next (xs : List Int) (k : Nat) (h : xs.length ≤ k) : padM (xs ++ [0]) k = padM xs k := by
  unfold padM
  rw [List.length_append, List.length_singleton, List.append_assoc, List.singleton_append, ← List.replicate_succ]
  congr 2; omega
def cpStep (xs : List Int) (s : Nat) : List Int := (padM xs (ones24 s)).set (ones24 s) ((padM xs (ones24 s)).getD (ones24 s) 0 + sgnM (ones24 s))
/-- The coefficients that a list of sets gives. -/
def cpM (fs : List Nat) : List Int := fs.foldl cpStep []
theorem cpM_next (fs : List Nat) (t s : Nat) (h : fs[t]? = some s) : cpM (fs.take (t + 1)) = cpStep (cpM (fs.take t)) s := by
  unfold cpM; rw [List.take_add_one, h, List.foldl_append]; rfl
theorem ones24_8 (s : Nat) (h : s < 256) : ones24 s ≤ 8 := by
  unfold ones24
  rw [show s / 256 % 256 = 0 by omega, show s / 65536 = 0 by omega]
  have h1 := (byte_facts (s % 256) (by omega)).2.2.2.2.2
  have h2 : ones8 0 = 0 := by decide
  omega
theorem getD_pad (xs : List Int) (k i : Nat) : (padM xs k).getD i 0 = xs.getD i 0 := by
  unfold padM
  simp only [List.getD_eq_getElem?_getD]
  by_cases h : i < xs.length
  · rw [List.getElem?_append_left h]
  · rw [List.getElem?_append_right (by omega), List.getElem?_eq_none (l := xs) (by omega)]
    by_cases h2 : i - xs.length < k + 1 - xs.length
    · rw [List.getElem?_replicate_of_lt h2]; rfl
    · rw [List.getElem?_eq_none (by rw [List.length_replicate]; omega)]
theorem getD_put (xs : List Int) (k i : Nat) (v : Int) (h : k < xs.length) : (xs.set k v).getD i 0 = if i = k then v else xs.getD i 0 := by
  simp only [List.getD_eq_getElem?_getD, List.getElem?_set]
  by_cases e : i = k
  · subst e; rw [if_pos rfl, if_pos rfl, if_pos h]; rfl
  · rw [if_neg (fun h9 => e h9.symm), if_neg e]
theorem sgnM_small (k : Nat) : -1 ≤ sgnM k ∧ sgnM k ≤ 1 := by unfold sgnM; omega
theorem cp_facts (fs : List Nat) (hf : ∀ s, s ∈ fs → s < 256) : ∀ t, t ≤ fs.length → (cpM (fs.take t)).length ≤ 9 ∧ ∀ i, -(t : Int) ≤ (cpM (fs.take t)).getD i 0 ∧ (cpM (fs.take t)).getD i 0 ≤ t := by
  intro t
  induction t with
  | zero => intro _; exact ⟨by simp [cpM], fun i => by simp [cpM]⟩
  | succ t ih =>
    intro ht
    obtain ⟨h1, h2⟩ := ih (by omega)
    have hx : fs[t]? = some fs[t] := List.getElem?_eq_getElem (by omega)
    have h8 := ones24_8 _ (hf _ (List.getElem_mem (show t < fs.length by omega)))
    rw [cpM_next fs t _ hx]
    obtain ⟨k, hk⟩ : ∃ k, k = ones24 fs[t] := ⟨_, rfl⟩
    unfold cpStep
    rw [← hk] at h8 ⊢
    refine ⟨by rw [List.length_set, padM_len]; omega, fun i => ?_⟩
    rw [getD_put _ _ _ _ (by rw [padM_len]; omega)]
    have h3 := h2 i
    have h4 := h2 k
    have h5 := sgnM_small k
    split
    · rw [getD_pad]; omega
    · rw [getD_pad]; omega
theorem cpM_len (rs : List Nat) (h : rs.length ≤ 8) : (cpM (stepsM rs)).length ≤ 9 := by
  have := (cp_facts (stepsM rs) (fun s hs => by
    unfold stepsM at hs
    have h1 := List.mem_range.1 (List.mem_filter.1 hs).1
    have h2 : 2 ^ rs.length ≤ 256 := Nat.pow_le_pow_right (by decide) h
    omega) _ (Nat.le_refl _)).1
  rw [List.take_length] at this; exact this
/-- The number of ones by halving. -/
def cntO : Nat → Nat → Nat
  | 0, _ => 0
  | f + 1, s => s % 2 + cntO f (s / 2)
theorem cntO_8 : ∀ s, s < 256 → cntO 8 s = ones8 s := by decide
theorem cntO_zero : ∀ f, cntO f 0 = 0
  | 0 => rfl
  | f + 1 => by rw [cntO, cntO_zero f]
theorem ones24_cnt (s : Nat) (h : s < 256) : ones24 s = cntO 8 s := by
  rw [cntO_8 s h]
  unfold ones24
  rw [show s / 256 % 256 = 0 by omega, show s / 65536 = 0 by omega, show s % 256 = s by omega]
  have h2 : ones8 0 = 0 := by decide
  omega
end Go.Proofs.YtkifadmoedackaaDoor
