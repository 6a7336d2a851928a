/-
  Plain mathematics of graph groups: cyclic reduction, the program's way and the model's.
-/
import Derived.Test.YtdafdffmkjhhcaaDoorGrV
namespace Go.Proofs.YtdafdffmkjhhcaaDoor
open Go.RowKit
set_option linter.unusedVariables false
set_option linter.unusedSimpArgs false
set_option maxRecDepth 100000

section
variable {D : Nat → Nat → Bool} {n : Nat}
theorem prj_rev (u : List Nat) (x y : Nat) : prj u.reverse x y = (prj u x y).reverse := by
  unfold prj; rw [List.filter_reverse]
theorem Eqv.rev {u v : List Nat} (h : Eqv D u v) : Eqv D u.reverse v.reverse := fun x y d => by rw [prj_rev, prj_rev, h x y d]
theorem redW_cons (a : Nat) (u : List Nat) : redW D (a :: u) = act D a (redW D u) := rfl
theorem redW_eqv (g : GD D n) : ∀ v u : List Nat, (∀ x, x ∈ u → x < n) → (∀ x, x ∈ v → x < n) → Eqv D u v → Eqv D (redW D u) (redW D v) := by
  intro v
  induction v with
  | nil =>
    intro u hu hv h
    have : u = [] := Eqv.nil g.ref hu h.symm
    rw [this]; exact Eqv.refl _ _
  | cons c v ih =>
    intro u hu hv h
    have hc : c < n := hv c (List.mem_cons_self ..)
    obtain ⟨h1, h2⟩ := Eqv.step g.sym (g.ref c hc) h.symm
    have h3 := redW_front g hc u hu h1
    have h4 := ih (u.erase c) (fun x hx => hu x (List.mem_of_mem_erase hx)) (fun x hx => hv x (List.mem_cons_of_mem _ hx)) h2.symm
    exact h3.trans (act_eqv g hc h4)
theorem redW_self : ∀ u : List Nat, rdB D u → redW D u = u := by
  intro u
  induction u with
  | nil => intro _; rfl
  | cons a u ih =>
    intro h
    rw [redW_cons, ih h.1, act_no h.2]
theorem rd_init (b : Nat) : ∀ u : List Nat, rdB D (u ++ [b]) → rdB D u := by
  intro u
  induction u with
  | nil => intro _; exact trivial
  | cons a u ih =>
    intro h
    refine ⟨ih h.1, ?_⟩
    cases hf : freeB D u (opp a)
    · rfl
    · have := free_left D (opp a) u [b] hf
      rw [show freeB D (u ++ [b]) (opp a) = false from h.2] at this
      cases this
theorem redW_app (u v : List Nat) : redW D (u ++ v) = u.foldr (act D) (redW D v) := by unfold redW; rw [List.foldr_append]
/-- A word without its first letter a and its last letter opp a. -/
def strip (a : Nat) (w : List Nat) : List Nat := ((w.erase a).reverse.erase (opp a)).reverse
/-- Whether a is a first letter, and its opposite a last one. -/
def isOut (D : Nat → Nat → Bool) (w : List Nat) (a : Nat) : Bool := freeB D w a && freeB D w.reverse (opp a)
def isOutM (D : Nat → Nat → Bool) (w : List Nat) (a : Nat) : Bool := freeB D w a && freeB D (w.erase a).reverse (opp a)
theorem out_same (g : GD D n) {a : Nat} (ha : a < n) {w : List Nat} (hw : ∀ x, x ∈ w → x < n) : isOutM D w a = isOut D w a := by
  unfold isOutM isOut
  cases hf : freeB D w a
  · rfl
  · rw [Bool.true_and, Bool.true_and]
    have h1 : Eqv D (a :: w.erase a) w := free_front D g.sym a w hf
    have h2 := h1.rev
    rw [List.reverse_cons] at h2
    have hb := g.lt a ha
    rw [← h2.free (g.ref _ hb)]
    have hdep : D a (opp a) = true := by rw [g.op2]; exact g.ref a ha
    have hone : freeB D [a] (opp a) = false := by rw [free_cons, if_neg (fun e => opp_ne a e.symm), if_pos hdep]
    rw [Bool.eq_iff_iff]
    constructor
    · exact fun h => free_left D _ _ _ h
    · intro h
      rcases free_append D (opp a) _ _ h with h3 | ⟨_, h3⟩
      · exact h3
      · rw [hone] at h3; cases h3
theorem out_eqv (g : GD D n) {a : Nat} (ha : a < n) {u v : List Nat} (h : Eqv D u v) : isOut D u a = isOut D v a := by
  unfold isOut
  rw [h.free (g.ref a ha), h.rev.free (g.ref _ (g.lt a ha))]
theorem strip_eqv (g : GD D n) {a : Nat} (ha : a < n) {w : List Nat} (hw : ∀ x, x ∈ w → x < n) (h : isOut D w a = true) : Eqv D (a :: (strip a w ++ [opp a])) w := by
  rw [← out_same g ha hw] at h
  unfold isOutM at h
  rw [Bool.and_eq_true] at h
  have h1 : Eqv D (a :: w.erase a) w := free_front D g.sym a w h.1
  have h2 : Eqv D (opp a :: (w.erase a).reverse.erase (opp a)) (w.erase a).reverse := free_front D g.sym (opp a) _ h.2
  have h3 := h2.rev
  rw [List.reverse_cons, List.reverse_reverse] at h3
  exact (h3.cons a).trans h1
theorem strip_lt {a : Nat} {w : List Nat} (hw : ∀ x, x ∈ w → x < n) : ∀ x, x ∈ strip a w → x < n := fun x hx => by
  unfold strip at hx
  exact hw x (List.mem_of_mem_erase (List.mem_reverse.1 (List.mem_of_mem_erase (List.mem_reverse.1 hx))))
theorem strip_len (g : GD D n) {a : Nat} (ha : a < n) {w : List Nat} (hw : ∀ x, x ∈ w → x < n) (h : isOut D w a = true) : (strip a w).length + 2 = w.length := by
  have h1 := strip_eqv g ha hw h
  have h2 := Eqv.len g.sym g.ref _ _ (fun x hx => by
    rcases List.mem_cons.1 hx with rfl | hx
    · exact ha
    · rcases List.mem_append.1 hx with hx | hx
      · exact strip_lt hw x hx
      · rw [List.mem_singleton.1 hx]; exact g.lt a ha) hw h1
  rw [List.length_cons, List.length_append, List.length_singleton] at h2
  omega
theorem strip_rd (g : GD D n) {a : Nat} (ha : a < n) {w : List Nat} (hw : ∀ x, x ∈ w → x < n) (hr : rdB D w) (h : isOut D w a = true) : rdB D (strip a w) := by
  have h1 := strip_eqv g ha hw h
  have h2 := rd_eqv g (a :: (strip a w ++ [opp a])) w hw (fun x hx => by
    rcases List.mem_cons.1 hx with rfl | hx
    · exact ha
    · rcases List.mem_append.1 hx with hx | hx
      · exact strip_lt hw x hx
      · rw [List.mem_singleton.1 hx]; exact g.lt a ha) h1.symm hr
  exact rd_init _ _ h2.1
/-- The program's step. -/
def turnP (D : Nat → Nat → Bool) (a : Nat) (w : List Nat) : List Nat := redW D (opp a :: (w ++ [a]))
theorem turn_lt (g : GD D n) {a : Nat} (ha : a < n) {w : List Nat} (hw : ∀ x, x ∈ w → x < n) : ∀ x, x ∈ turnP D a w → x < n := redW_lt (fun x hx => by
  rcases List.mem_cons.1 hx with rfl | hx
  · exact g.lt a ha
  · rcases List.mem_append.1 hx with hx | hx
    · exact hw x hx
    · rw [List.mem_singleton.1 hx]; exact ha)
theorem turn_eqv (g : GD D n) {a : Nat} (ha : a < n) {w : List Nat} (hw : ∀ x, x ∈ w → x < n) (hr : rdB D w) (h : isOut D w a = true) : Eqv D (turnP D a w) (strip a w) := by
  have hb := g.lt a ha
  have hs := strip_lt (n := n) (a := a) hw
  have h1 := strip_eqv g ha hw h
  have h2 : Eqv D (opp a :: (w ++ [a])) (opp a :: ((a :: (strip a w ++ [opp a])) ++ [a])) := (Eqv.append h1.symm (Eqv.refl D [a])).cons _
  have h3 := redW_eqv g (opp a :: ((a :: (strip a w ++ [opp a])) ++ [a])) (opp a :: (w ++ [a])) (fun x hx => by
    rcases List.mem_cons.1 hx with rfl | hx
    · exact hb
    · rcases List.mem_append.1 hx with hx | hx
      · exact hw x hx
      · rw [List.mem_singleton.1 hx]; exact ha) (fun x hx => by
    rcases List.mem_cons.1 hx with rfl | hx
    · exact hb
    · rcases List.mem_append.1 hx with hx | hx
      · rcases List.mem_cons.1 hx with rfl | hx
        · exact ha
        · rcases List.mem_append.1 hx with hx | hx
          · exact hs x hx
          · rw [List.mem_singleton.1 hx]; exact hb
      · rw [List.mem_singleton.1 hx]; exact ha) h2
  have e1 : redW D ([opp a] ++ [a]) = [] := by
    show act D (opp a) (act D a []) = []
    have e2 : act D a [] = [a] := act_no rfl
    rw [e2]
    have e3 : freeB D [a] (opp (opp a)) = true := by rw [opp_opp]; exact free_head D a []
    rw [act_yes e3, opp_opp]; simp
  have e4 : redW D (strip a w ++ ([opp a] ++ [a])) = strip a w := by
    rw [redW_app, e1]
    exact redW_self _ (strip_rd g ha hw hr h)
  have e5 : opp a :: ((a :: (strip a w ++ [opp a])) ++ [a]) = opp a :: a :: (strip a w ++ ([opp a] ++ [a])) := by simp
  rw [e5, redW_cons, redW_cons, redW_cons, e4] at h3
  have h6 := act_cancel g hb (w := strip a w) hs (strip_rd g ha hw hr h)
  rw [opp_opp] at h6
  exact h3.trans h6
/-- The smallest outer letter. -/
def outL (D : Nat → Nat → Bool) (n : Nat) (w : List Nat) : Option Nat := (List.range n).find? (isOut D w)
def outLM (D : Nat → Nat → Bool) (n : Nat) (w : List Nat) : Option Nat := (List.range n).find? (isOutM D w)
theorem find_congr {p q : Nat → Bool} : ∀ l : List Nat, (∀ x, x ∈ l → p x = q x) → l.find? p = l.find? q := by
  intro l
  induction l with
  | nil => intro _; rfl
  | cons a l ih =>
    intro h
    rw [List.find?_cons, List.find?_cons, h a (List.mem_cons_self ..), ih (fun x hx => h x (List.mem_cons_of_mem _ hx))]
theorem outL_same (g : GD D n) {u v : List Nat} (hu : ∀ x, x ∈ u → x < n) (h : Eqv D u v) : outL D n u = outLM D n v ∨ ¬ (∀ x, x ∈ v → x < n) := by
  by_cases hv : ∀ x, x ∈ v → x < n
  · left
    unfold outL outLM
    refine find_congr _ (fun a ha => ?_)
    have ha := List.mem_range.1 ha
    rw [out_same g ha hv, out_eqv g ha h]
  · exact .inr hv
theorem outL_some {w : List Nat} {a : Nat} (h : outL D n w = some a) : a < n ∧ isOut D w a = true ∧ ∀ b, b < a → isOut D w b = false := by
  unfold outL at h
  rw [List.find?_range_eq_some] at h
  exact ⟨by have := h.2.1; simpa using this, h.1, fun b hb => by have := h.2.2 b hb; simpa using this⟩
/-- The core and the frame: the program's way, and the model's. -/
def cycP (D : Nat → Nat → Bool) (n : Nat) : Nat → List Nat → List Nat → List Nat × List Nat
  | 0, w, f => (w, f)
  | k + 1, w, f => match outL D n w with
    | none => (w, f)
    | some a => cycP D n k (turnP D a w) (f ++ [a])
def cycM (D : Nat → Nat → Bool) (n : Nat) : Nat → List Nat → List Nat → List Nat × List Nat
  | 0, w, f => (w, f)
  | k + 1, w, f => match outLM D n w with
    | none => (w, f)
    | some a => cycM D n k (strip a w) (f ++ [a])
theorem cyc_same (g : GD D n) : ∀ (k : Nat) (u v f : List Nat), (∀ x, x ∈ u → x < n) → (∀ x, x ∈ v → x < n) → rdB D u → rdB D v → Eqv D u v →
    (cycP D n k u f).2 = (cycM D n k v f).2 ∧ Eqv D (cycP D n k u f).1 (cycM D n k v f).1 ∧ rdB D (cycP D n k u f).1 ∧ (∀ x, x ∈ (cycP D n k u f).1 → x < n) ∧ (∀ x, x ∈ (cycM D n k v f).1 → x < n) := by
  intro k
  induction k with
  | zero => intro u v f hu hv hru hrv h; exact ⟨rfl, h, hru, hu, hv⟩
  | succ k ih =>
    intro u v f hu hv hru hrv h
    have e : outL D n u = outLM D n v := (outL_same g hu h).resolve_right (fun h9 => h9 hv)
    cases ho : outL D n u with
    | none =>
      have eP : cycP D n (k + 1) u f = (u, f) := by
        show (match outL D n u with | none => (u, f) | some a => cycP D n k (turnP D a u) (f ++ [a])) = _
        rw [ho]
      have eM : cycM D n (k + 1) v f = (v, f) := by
        show (match outLM D n v with | none => (v, f) | some a => cycM D n k (strip a v) (f ++ [a])) = _
        rw [← e, ho]
      rw [eP, eM]
      exact ⟨rfl, h, hru, hu, hv⟩
    | some a =>
      have eP : cycP D n (k + 1) u f = cycP D n k (turnP D a u) (f ++ [a]) := by
        show (match outL D n u with | none => (u, f) | some a => cycP D n k (turnP D a u) (f ++ [a])) = _
        rw [ho]
      have eM : cycM D n (k + 1) v f = cycM D n k (strip a v) (f ++ [a]) := by
        show (match outLM D n v with | none => (v, f) | some a => cycM D n k (strip a v) (f ++ [a])) = _
        rw [← e, ho]
      rw [eP, eM]
      obtain ⟨ha, h1, _⟩ := outL_some ho
      have h1v : isOut D v a = true := by rw [← out_eqv g ha h]; exact h1
      have hE : Eqv D (turnP D a u) (strip a v) := by
        have h2 := turn_eqv g ha hu hru h1
        have h3 := (strip_eqv g ha hu h1).trans (h.trans (strip_eqv g ha hv h1v).symm)
        have h4 := h3.tail.rev
        rw [List.reverse_append, List.reverse_append] at h4
        have h5 : Eqv D (strip a u).reverse (strip a v).reverse := Eqv.tail (a := opp a) (by simpa using h4)
        have h6 := h5.rev
        rw [List.reverse_reverse, List.reverse_reverse] at h6
        exact h2.trans h6
      have hT := turn_lt g ha hu
      have hS := strip_lt (n := n) (a := a) hv
      have hRS := strip_rd g ha hv hrv h1v
      have hRT := rd_eqv g (turnP D a u) (strip a v) hS hT hE.symm hRS
      exact ih _ _ _ hT hS hRT hRS hE
/-- What a loop needs of the program's way: a step, and the end. -/
theorem cycP_step (g : GD D n) {K : Nat} {w f : List Nat} {a : Nat} (hw : ∀ x, x ∈ w → x < n) (hr : rdB D w) (hK : w.length ≤ K) (h : outL D n w = some a) :
    ∃ K', (turnP D a w).length ≤ K' ∧ (turnP D a w).length + 2 = w.length ∧ rdB D (turnP D a w) ∧ cycP D n K w f = cycP D n K' (turnP D a w) (f ++ [a]) := by
  obtain ⟨ha, h1, _⟩ := outL_some h
  have hE := turn_eqv g ha hw hr h1
  have hl := strip_len g ha hw h1
  have hTL := Eqv.len g.sym g.ref _ _ (turn_lt g ha hw) (strip_lt (n := n) (a := a) hw) hE
  have hRT := rd_eqv g (turnP D a w) (strip a w) (strip_lt (n := n) (a := a) hw) (turn_lt g ha hw) hE.symm (strip_rd g ha hw hr h1)
  cases K with
  | zero => omega
  | succ K =>
    refine ⟨K, by omega, by omega, hRT, ?_⟩
    show (match outL D n w with | none => (w, f) | some a => cycP D n K (turnP D a w) (f ++ [a])) = _
    rw [h]
theorem cycP_end {K : Nat} {w f : List Nat} (h : outL D n w = none) : cycP D n K w f = (w, f) := by
  cases K with
  | zero => rfl
  | succ K =>
    show (match outL D n w with | none => (w, f) | some a => cycP D n K (turnP D a w) (f ++ [a])) = _
    rw [h]
theorem cycM_step (g : GD D n) {K : Nat} {w f : List Nat} {a : Nat} (hw : ∀ x, x ∈ w → x < n) (hK : w.length ≤ K) (h : outLM D n w = some a) :
    ∃ K', (strip a w).length ≤ K' ∧ (strip a w).length + 2 = w.length ∧ cycM D n K w f = cycM D n K' (strip a w) (f ++ [a]) := by
  have e : outL D n w = outLM D n w := (outL_same g hw (Eqv.refl D w)).resolve_right (fun h9 => h9 hw)
  obtain ⟨ha, h1, _⟩ := outL_some (e.trans h)
  have hl := strip_len g ha hw h1
  cases K with
  | zero => omega
  | succ K =>
    refine ⟨K, by omega, hl, ?_⟩
    show (match outLM D n w with | none => (w, f) | some a => cycM D n K (strip a w) (f ++ [a])) = _
    rw [h]
theorem cycM_end {K : Nat} {w f : List Nat} (h : outLM D n w = none) : cycM D n K w f = (w, f) := by
  cases K with
  | zero => rfl
  | succ K =>
    show (match outLM D n w with | none => (w, f) | some a => cycM D n K (strip a w) (f ++ [a])) = _
    rw [h]
theorem cycP_len (g : GD D n) : ∀ (k : Nat) (w f : List Nat), (∀ x, x ∈ w → x < n) → rdB D w → w.length ≤ k → (cycP D n k w f).1.length + 2 * (cycP D n k w f).2.length = w.length + 2 * f.length := by
  intro k
  induction k with
  | zero => intro w f _ _ _; rfl
  | succ k ih =>
    intro w f hw hr hK
    cases ho : outL D n w with
    | none => rw [cycP_end ho]
    | some a =>
      have eP : cycP D n (k + 1) w f = cycP D n k (turnP D a w) (f ++ [a]) := by
        show (match outL D n w with | none => (w, f) | some a => cycP D n k (turnP D a w) (f ++ [a])) = _
        rw [ho]
      rw [eP]
      obtain ⟨ha, h1, _⟩ := outL_some ho
      obtain ⟨K', _, hl, hRT, _⟩ := cycP_step (f := f) g hw hr hK ho
      have := ih (turnP D a w) (f ++ [a]) (turn_lt g ha hw) hRT (by omega)
      rw [this, List.length_append, List.length_singleton]; omega
end
end Go.Proofs.YtdafdffmkjhhcaaDoor
