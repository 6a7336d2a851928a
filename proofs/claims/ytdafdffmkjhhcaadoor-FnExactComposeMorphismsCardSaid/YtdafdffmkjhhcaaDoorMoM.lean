/-
  Letter maps and morphisms: what they are, by lists.
-/
import Derived.Test.YtdafdffmkjhhcaaDoorMn
import Derived.Test.YtdafdffmkjhhcaaDoorMp
namespace Go.Proofs.YtdafdffmkjhhcaaDoor
open Go Go.RowKit
set_option linter.unusedVariables false
set_option maxRecDepth 100000

/-- Whether a list of lists is a letter map. -/
def lmB (L L2 : Int) (X : List (List Int)) : Bool := decide ((X.length : Int) = L) && X.all (wordB L2)
/-- Whether the images of independent letters commute. -/
def morB (rs1 rs2 : List Nat) (Ws : List (List Nat)) : Bool := (List.range rs1.length).all fun a => (List.range rs1.length).all fun b => RDep rs1 a b || acF rs2 (Ws.getD a []) (Ws.getD b [])
def natW (X : List (List Int)) : List (List Nat) := X.map fun xs => xs.map Int.toNat
/-- The code of two alphabets, a letter map and a test of other arguments. -/
def mCode (L1 : Int) (xs1 : List Int) (L2 : Int) (xs2 : List Int) (X : List (List Int)) (inR : Bool) : Int :=
  if (alphB L1 xs1 && alphB L2 xs2) = true then (if (inR && lmB L1 L2 X) = true then (if morB (xs1.map Int.toNat) (xs2.map Int.toNat) (natW X) = true then 0 else 5) else 2) else 1
theorem mCode_no1 (L1 : Int) (xs1 : List Int) (L2 : Int) (xs2 : List Int) (X : List (List Int)) (inR : Bool) (h : alphB L1 xs1 = false) : mCode L1 xs1 L2 xs2 X inR = 1 := by unfold mCode; rw [if_neg (by rw [h]; simp)]
theorem mCode_no2 (L1 : Int) (xs1 : List Int) (L2 : Int) (xs2 : List Int) (X : List (List Int)) (inR : Bool) (h : alphB L2 xs2 = false) : mCode L1 xs1 L2 xs2 X inR = 1 := by unfold mCode; rw [if_neg (by rw [h]; simp)]
theorem mCode_bad (L1 : Int) (xs1 : List Int) (L2 : Int) (xs2 : List Int) (X : List (List Int)) (inR : Bool) (h1 : alphB L1 xs1 = true) (h2 : alphB L2 xs2 = true) (h : (inR && lmB L1 L2 X) = false) : mCode L1 xs1 L2 xs2 X inR = 2 := by
  unfold mCode; rw [if_pos (by rw [h1, h2]; rfl), if_neg (by rw [h]; decide)]
theorem mCode_in (L1 L2 : Int) (rs1 rs2 : List Nat) (Ws : List (List Nat)) (inR : Bool) (h1 : alphB L1 (ints rs1) = true) (h2 : alphB L2 (ints rs2) = true) (h : (inR && lmB L1 L2 (Ws.map ints)) = true) (hw : natW (Ws.map ints) = Ws) : mCode L1 (ints rs1) L2 (ints rs2) (Ws.map ints) inR = if morB rs1 rs2 Ws = true then 0 else 5 := by
  unfold mCode; rw [if_pos (by rw [h1, h2]; rfl), if_pos h, ints_toNat, ints_toNat, hw]
theorem natW_ints (Ws : List (List Nat)) : natW (Ws.map ints) = Ws := by
  unfold natW
  rw [List.map_map]
  conv => rhs; rw [← List.map_id Ws]
  exact List.map_congr_left fun W _ => ints_toNat W
theorem lm_nats (L : Int) (n2 : Nat) (X : List (List Int)) (h : lmB L (n2 : Int) X = true) : ∃ Ws : List (List Nat), X = Ws.map ints ∧ (Ws.length : Int) = L ∧ (∀ W, W ∈ Ws → W.length ≤ 24 ∧ ∀ x, x ∈ W → x < n2) := by
  unfold lmB at h
  rw [Bool.and_eq_true, decide_eq_true_eq, List.all_eq_true] at h
  refine ⟨natW X, ?_, by unfold natW; rw [List.length_map]; exact h.1, fun W hW => ?_⟩
  · unfold natW
    rw [List.map_map]
    conv => lhs; rw [← List.map_id X]
    refine List.map_congr_left fun xs hx => ?_
    obtain ⟨us, rfl, _, _⟩ := wordB_nats n2 xs (h.2 xs hx)
    show _ = ints ((ints us).map Int.toNat)
    rw [ints_toNat]; rfl
  · unfold natW at hW
    obtain ⟨xs, hx, rfl⟩ := List.mem_map.1 hW
    obtain ⟨us, rfl, h1, h2⟩ := wordB_nats n2 xs (h.2 xs hx)
    rw [ints_toNat]
    exact ⟨h1, h2⟩
theorem lm_at {Ws : List (List Nat)} {n2 : Nat} (h : ∀ W, W ∈ Ws → W.length ≤ 24 ∧ ∀ x, x ∈ W → x < n2) (k : Nat) : (Ws.getD k []).length ≤ 24 ∧ ∀ x, x ∈ Ws.getD k [] → x < n2 := by
  rw [List.getD_eq_getElem?_getD]
  cases hk : Ws[k]? with
  | none => exact ⟨Nat.zero_le _, fun x hx => by cases hx⟩
  | some W => exact h W (List.mem_of_getElem? hk)
theorem lm_word {Ws : List (List Nat)} {n2 : Nat} (h : ∀ W, W ∈ Ws → W.length ≤ 24 ∧ ∀ x, x ∈ W → x < n2) (k : Nat) : wordB (n2 : Int) (ints (Ws.getD k [])) = true := wordB_ints n2 _ (lm_at h k).1 (lm_at h k).2
theorem acF_symm (rs : List Nat) (n : Nat) (hsym : ∀ a b, RDep rs a b = RDep rs b a) (href : ∀ a, a < n → RDep rs a a = true) (u v : List Nat) (hu : ∀ x, x ∈ u → x < n) (hv : ∀ x, x ∈ v → x < n) : acF rs u v = acF rs v u := by
  have h1 := same_iff hsym href (u ++ v) (v ++ u) (fun x hx => (List.mem_append.1 hx).elim (hu x) (hv x)) (fun x hx => (List.mem_append.1 hx).elim (hv x) (hu x))
  have h2 := same_iff hsym href (v ++ u) (u ++ v) (fun x hx => (List.mem_append.1 hx).elim (hv x) (hu x)) (fun x hx => (List.mem_append.1 hx).elim (hu x) (hv x))
  unfold acF
  rw [Bool.eq_iff_iff, h1, h2]
  exact ⟨Eqv.symm, Eqv.symm⟩
theorem morB_iff (rs1 rs2 : List Nat) (Ws : List (List Nat)) : morB rs1 rs2 Ws = true ↔ ∀ a b, a < rs1.length → b < rs1.length → RDep rs1 a b = false → acF rs2 (Ws.getD a []) (Ws.getD b []) = true := by
  unfold morB
  rw [List.all_eq_true]
  constructor
  · intro h a b ha hb hd
    have := List.all_eq_true.1 (h a (List.mem_range.2 ha)) b (List.mem_range.2 hb)
    rw [hd, Bool.false_or] at this
    exact this
  · intro h a ha
    rw [List.all_eq_true]
    intro b hb
    cases hd : RDep rs1 a b
    · rw [Bool.false_or]; exact h a b (List.mem_range.1 ha) (List.mem_range.1 hb) hd
    · rfl
/-- It is enough to look at the smaller letters. -/
theorem morB_below (rs1 rs2 : List Nat) (n1 n2 : Nat) (Ws : List (List Nat)) (hl : rs1.length = n1) (hsym1 : ∀ a b, RDep rs1 a b = RDep rs1 b a) (href1 : ∀ a, a < n1 → RDep rs1 a a = true)
    (hsym : ∀ a b, RDep rs2 a b = RDep rs2 b a) (href : ∀ a, a < n2 → RDep rs2 a a = true) (hW : ∀ W, W ∈ Ws → W.length ≤ 24 ∧ ∀ x, x ∈ W → x < n2)
    (h : ∀ a b, a < n1 → b < a → RDep rs1 a b = false → acF rs2 (Ws.getD a []) (Ws.getD b []) = true) : morB rs1 rs2 Ws = true := by
  rw [morB_iff]
  intro a b ha hb hd
  rcases Nat.lt_trichotomy a b with h1 | h1 | h1
  · rw [acF_symm rs2 n2 hsym href _ _ (lm_at hW a).2 (lm_at hW b).2]
    exact h b a (by omega) h1 (by rw [hsym1]; exact hd)
  · subst h1; rw [href1 a (by omega)] at hd; cases hd
  · exact h a b (by omega) h1 hd
theorem morB_not (rs1 rs2 : List Nat) (Ws : List (List Nat)) (a b : Nat) (ha : a < rs1.length) (hb : b < rs1.length) (hd : RDep rs1 a b = false) (hac : acF rs2 (Ws.getD a []) (Ws.getD b []) = false) : morB rs1 rs2 Ws = false := by
  cases h : morB rs1 rs2 Ws with
  | false => rfl
  | true => rw [(morB_iff rs1 rs2 Ws).1 h a b ha hb hd] at hac; cases hac
end Go.Proofs.YtdafdffmkjhhcaaDoor
