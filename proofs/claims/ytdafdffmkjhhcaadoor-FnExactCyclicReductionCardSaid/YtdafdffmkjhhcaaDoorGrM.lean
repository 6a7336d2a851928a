/-
  Plain mathematics of graph groups: letters with opposites, words that are reduced letter by letter.
-/
import Derived.Test.YtdafdffmkjhhcaaDoorMd
namespace Go.Proofs.YtdafdffmkjhhcaaDoor
open Go.RowKit
set_option linter.unusedVariables false
set_option maxRecDepth 100000

/-- The number of the inverse of a signed letter. -/
def opp (a : Nat) : Nat := if a % 2 = 0 then a + 1 else a - 1
theorem opp_opp (a : Nat) : opp (opp a) = a := by unfold opp; split <;> split <;> omega
theorem opp_ne (a : Nat) : opp a ≠ a := by unfold opp; split <;> omega
theorem opp_half (a : Nat) : opp a / 2 = a / 2 := by unfold opp; split <;> omega
/-- A dependence of letters with opposites. -/
structure GD (D : Nat → Nat → Bool) (n : Nat) : Prop where
  sym : ∀ a b, D a b = D b a
  ref : ∀ a, a < n → D a a = true
  op : ∀ a b, D (opp a) b = D a b
  lt : ∀ a, a < n → opp a < n
theorem GD.op2 {D : Nat → Nat → Bool} {n : Nat} (g : GD D n) (a b : Nat) : D a (opp b) = D a b := by rw [g.sym, g.op, g.sym]
/-- One letter ahead of a word. -/
def act (D : Nat → Nat → Bool) (a : Nat) (w : List Nat) : List Nat := if freeB D w (opp a) = true then w.erase (opp a) else a :: w
def redW (D : Nat → Nat → Bool) (u : List Nat) : List Nat := u.foldr (act D) []
def rdB (D : Nat → Nat → Bool) : List Nat → Prop
  | [] => True
  | a :: w => rdB D w ∧ freeB D w (opp a) = false
section
variable {D : Nat → Nat → Bool} {n : Nat}
theorem act_yes {a : Nat} {w : List Nat} (h : freeB D w (opp a) = true) : act D a w = w.erase (opp a) := if_pos h
theorem act_no {a : Nat} {w : List Nat} (h : freeB D w (opp a) = false) : act D a w = a :: w := if_neg (by rw [h]; decide)
theorem act_lt {a : Nat} {w : List Nat} (ha : a < n) (h : ∀ x, x ∈ w → x < n) : ∀ x, x ∈ act D a w → x < n := by
  intro x hx
  unfold act at hx
  split at hx
  · exact h x (List.mem_of_mem_erase hx)
  · rcases List.mem_cons.1 hx with e | e
    · rw [e]; exact ha
    · exact h x e
theorem redW_lt {u : List Nat} (h : ∀ x, x ∈ u → x < n) : ∀ x, x ∈ redW D u → x < n := by
  induction u with
  | nil => intro x hx; cases hx
  | cons a u ih => exact act_lt (h a List.mem_cons_self) (ih fun x hx => h x (List.mem_cons_of_mem _ hx))
theorem act_len (a : Nat) (w : List Nat) : (act D a w).length ≤ w.length + 1 := by
  unfold act
  split
  · have := List.length_erase_le (a := opp a) (l := w); omega
  · simp
theorem redW_len (u : List Nat) : (redW D u).length ≤ u.length := by
  induction u with
  | nil => exact Nat.le_refl _
  | cons a u ih =>
    have := act_len (D := D) a (redW D u)
    show (act D a (redW D u)).length ≤ u.length + 1
    omega
theorem ne_of_indep (g : GD D n) {a b : Nat} (ha : a < n) (h : D a b = false) : a ≠ b ∧ b ≠ opp a ∧ a ≠ opp b := by
  refine ⟨fun e => ?_, fun e => ?_, fun e => ?_⟩
  · rw [← e, g.ref a ha] at h; cases h
  · rw [e, g.op2, g.ref a ha] at h; cases h
  · have e2 : b = opp a := by rw [e, opp_opp]
    rw [e2, g.op2, g.ref a ha] at h; cases h
theorem free_pass (g : GD D n) {a b : Nat} (ha : a < n) (h : D a b = false) (w : List Nat) : freeB D (b :: w) (opp a) = freeB D w (opp a) := by
  obtain ⟨_, h2, _⟩ := ne_of_indep g ha h
  rw [free_cons, if_neg h2, g.op2, g.sym, h]; simp
theorem rd_erase (g : GD D n) {a : Nat} (ha : a < n) : ∀ u : List Nat, (∀ x, x ∈ u → x < n) → rdB D u → freeB D u a = true → rdB D (u.erase a) ∧ freeB D (u.erase a) (opp a) = false
  | [], _, _, h => by simp [freeB] at h
  | c :: u, hu, hr, h => by
    have hu' : ∀ x, x ∈ u → x < n := fun x hx => hu x (List.mem_cons_of_mem _ hx)
    have hc := hu c List.mem_cons_self
    by_cases e : c = a
    · subst e
      rw [List.erase_cons_head]; exact hr
    · rw [free_cons, if_neg e] at h
      cases hD : D c a with
      | true => rw [hD] at h; simp at h
      | false =>
        rw [hD] at h
        have hf : freeB D u a = true := by simpa using h
        obtain ⟨h1, h2⟩ := rd_erase g ha u hu' hr.1 hf
        have hDa : D a c = false := by rw [g.sym]; exact hD
        rw [List.erase_cons_tail (by simpa using e)]
        refine ⟨⟨h1, ?_⟩, ?_⟩
        · have h3 := (free_front D g.sym a u hf).free (a := opp c) (g.ref _ (g.lt c hc))
          rw [free_pass g hc hD] at h3
          rw [h3]; exact hr.2
        · rw [free_pass g ha hDa]; exact h2
theorem rd_eqv (g : GD D n) : ∀ v u : List Nat, (∀ x, x ∈ u → x < n) → (∀ x, x ∈ v → x < n) → Eqv D u v → rdB D u → rdB D v
  | [], _, _, _, _, _ => trivial
  | a :: v, u, hu, hv, h, hr => by
    have ha := hv a List.mem_cons_self
    have hf : freeB D u a = true := by rw [h.free (g.ref a ha), free_cons, if_pos rfl]
    obtain ⟨h1, h2⟩ := rd_erase g ha u hu hr hf
    have he : Eqv D (u.erase a) v := Eqv.tail (a := a) ((free_front D g.sym a u hf).trans h)
    have hv' : ∀ x, x ∈ v → x < n := fun x hx => hv x (List.mem_cons_of_mem _ hx)
    refine ⟨rd_eqv g v _ (fun x hx => hu x (List.mem_of_mem_erase hx)) hv' he h1, ?_⟩
    rw [← he.free (g.ref _ (g.lt a ha))]; exact h2
theorem act_rd (g : GD D n) {a : Nat} (ha : a < n) {w : List Nat} (hw : ∀ x, x ∈ w → x < n) (hr : rdB D w) : rdB D (act D a w) := by
  cases h : freeB D w (opp a) with
  | true => rw [act_yes h]; exact (rd_erase g (g.lt a ha) w hw hr h).1
  | false => rw [act_no h]; exact ⟨hr, h⟩
theorem redW_rd (g : GD D n) {u : List Nat} (h : ∀ x, x ∈ u → x < n) : rdB D (redW D u) := by
  induction u with
  | nil => trivial
  | cons a u ih =>
    have h' : ∀ x, x ∈ u → x < n := fun x hx => h x (List.mem_cons_of_mem _ hx)
    exact act_rd g (h a List.mem_cons_self) (redW_lt h') (ih h')
theorem act_eqv (g : GD D n) {a : Nat} (ha : a < n) {u v : List Nat} (h : Eqv D u v) : Eqv D (act D a u) (act D a v) := by
  have hf := h.free (a := opp a) (g.ref _ (g.lt a ha))
  cases hu : freeB D u (opp a) with
  | true =>
    have hv : freeB D v (opp a) = true := by rw [← hf]; exact hu
    rw [act_yes hu, act_yes hv]
    exact Eqv.tail (a := opp a) ((free_front D g.sym _ u hu).trans (h.trans (free_front D g.sym _ v hv).symm))
  | false =>
    have hv : freeB D v (opp a) = false := by rw [← hf]; exact hu
    rw [act_no hu, act_no hv]; exact h.cons a
theorem act_cancel (g : GD D n) {a : Nat} (ha : a < n) {w : List Nat} (hw : ∀ x, x ∈ w → x < n) (hr : rdB D w) : Eqv D (act D a (act D (opp a) w)) w := by
  cases h : freeB D w a with
  | true =>
    have e : act D (opp a) w = w.erase a := by rw [act_yes (by rw [opp_opp]; exact h), opp_opp]
    rw [e, act_no (rd_erase g ha w hw hr h).2]
    exact free_front D g.sym a w h
  | false =>
    have e : act D (opp a) w = opp a :: w := act_no (by rw [opp_opp]; exact h)
    rw [e, act_yes (by rw [free_cons, if_pos rfl]), List.erase_cons_head]
    exact Eqv.refl _ _
theorem free_gone (g : GD D n) {a b : Nat} (ha : a < n) (h : D a b = false) {w : List Nat} (hb : freeB D w (opp b) = true) : freeB D (w.erase (opp b)) (opp a) = freeB D w (opp a) := by
  have h3 := (free_front D g.sym (opp b) w hb).free (a := opp a) (g.ref _ (g.lt a ha))
  rw [free_pass g ha (by rw [g.op2]; exact h)] at h3
  exact h3
theorem act_comm (g : GD D n) {a b : Nat} (ha : a < n) (hb : b < n) (h : D a b = false) (w : List Nat) : Eqv D (act D a (act D b w)) (act D b (act D a w)) := by
  have h' : D b a = false := by rw [g.sym]; exact h
  obtain ⟨n1, n2, n3⟩ := ne_of_indep g ha h
  cases fa : freeB D w (opp a) with
  | true =>
    cases fb : freeB D w (opp b) with
    | true =>
      rw [act_yes fa, act_yes fb, act_yes (by rw [free_gone g ha h fb]; exact fa), act_yes (by rw [free_gone g hb h' fa]; exact fb), List.erase_comm]
      exact Eqv.refl _ _
    | false =>
      rw [act_yes fa, act_no fb, act_yes (by rw [free_pass g ha h]; exact fa), act_no (by rw [free_gone g hb h' fa]; exact fb), List.erase_cons_tail (by simpa using n2)]
      exact Eqv.refl _ _
  | false =>
    cases fb : freeB D w (opp b) with
    | true =>
      rw [act_no fa, act_yes fb, act_no (by rw [free_gone g ha h fb]; exact fa), act_yes (by rw [free_pass g hb h']; exact fb), List.erase_cons_tail (by simpa using n3)]
      exact Eqv.refl _ _
    | false =>
      rw [act_no fa, act_no fb, act_no (by rw [free_pass g ha h]; exact fa), act_no (by rw [free_pass g hb h']; exact fb)]
      have := pass D g.sym b (g.ref b hb) [a] w ((depL_no D [a] b).2 fun x hx => by simp at hx; rw [hx]; exact h)
      simpa using this
theorem redW_front (g : GD D n) {a : Nat} (ha : a < n) : ∀ u : List Nat, (∀ x, x ∈ u → x < n) → freeB D u a = true → Eqv D (redW D u) (act D a (redW D (u.erase a)))
  | [], _, h => by simp [freeB] at h
  | c :: u, hu, h => by
    have hu' : ∀ x, x ∈ u → x < n := fun x hx => hu x (List.mem_cons_of_mem _ hx)
    have hc := hu c List.mem_cons_self
    by_cases e : c = a
    · subst e
      rw [List.erase_cons_head]; exact Eqv.refl _ _
    · rw [free_cons, if_neg e] at h
      cases hD : D c a with
      | true => rw [hD] at h; simp at h
      | false =>
        rw [hD] at h
        have ih := redW_front g ha u hu' (by simpa using h)
        rw [List.erase_cons_tail (by simpa using e)]
        exact (act_eqv g hc ih).trans (act_comm g hc ha hD _)
/-- The step of the model: the first letter that has its inverse behind it with nothing in its way goes with it. -/
def stp (D : Nat → Nat → Bool) : List Nat → Option (List Nat)
  | [] => none
  | a :: t => if freeB D t (opp a) = true then some (t.erase (opp a)) else (stp D t).map (a :: ·)
theorem stp_none : ∀ w : List Nat, stp D w = none → redW D w = w
  | [], _ => rfl
  | a :: t, h => by
    have h' : (if freeB D t (opp a) = true then some (t.erase (opp a)) else (stp D t).map (a :: ·)) = none := h
    cases hf : freeB D t (opp a) with
    | true => rw [if_pos hf] at h'; cases h'
    | false =>
      rw [if_neg (by rw [hf]; decide)] at h'
      have ih := stp_none t (by simpa using h')
      show act D a (redW D t) = a :: t
      rw [ih, act_no hf]
theorem stp_some (g : GD D n) : ∀ w v : List Nat, (∀ x, x ∈ w → x < n) → stp D w = some v → Eqv D (redW D w) (redW D v) ∧ v.length + 2 = w.length ∧ ∀ x, x ∈ v → x ∈ w
  | [], _, _, h => by cases h
  | a :: t, v, hw, h => by
    have hw' : ∀ x, x ∈ t → x < n := fun x hx => hw x (List.mem_cons_of_mem _ hx)
    have ha := hw a List.mem_cons_self
    have h' : (if freeB D t (opp a) = true then some (t.erase (opp a)) else (stp D t).map (a :: ·)) = some v := h
    cases hf : freeB D t (opp a) with
    | true =>
      rw [if_pos hf] at h'
      injection h' with h'
      subst h'
      have he : ∀ x, x ∈ t.erase (opp a) → x < n := fun x hx => hw' x (List.mem_of_mem_erase hx)
      refine ⟨?_, ?_, fun x hx => List.mem_cons_of_mem _ (List.mem_of_mem_erase hx)⟩
      · have h1 := act_eqv g ha (redW_front g (g.lt a ha) t hw' hf)
        exact h1.trans (act_cancel g ha (redW_lt he) (redW_rd g he))
      · have hm := free_mem D _ t hf
        have := List.length_erase_of_mem hm
        have := List.length_pos_of_mem hm
        simp; omega
    | false =>
      rw [if_neg (by rw [hf]; decide)] at h'
      cases hs : stp D t with
      | none => rw [hs] at h'; cases h'
      | some z =>
        rw [hs] at h'
        injection h' with h'
        subst h'
        obtain ⟨h1, h2, h3⟩ := stp_some g t z hw' hs
        refine ⟨act_eqv g ha h1, by simp; omega, fun x hx => ?_⟩
        rcases List.mem_cons.1 hx with e | e
        · rw [e]; exact List.mem_cons_self
        · exact List.mem_cons_of_mem _ (h3 x e)
/-- The first letters up to k have no inverse behind them that could be brought there; the letter at k has one. -/
theorem stp_at : ∀ (k : Nat) (w : List Nat), k < w.length → (∀ j, j < k → freeB D (w.drop (j + 1)) (opp (w.getD j 0)) = false) → freeB D (w.drop (k + 1)) (opp (w.getD k 0)) = true → stp D w = some (w.take k ++ (w.drop (k + 1)).erase (opp (w.getD k 0)))
  | 0, a :: t, _, _, h => by
    have h' : freeB D t (opp a) = true := by simpa using h
    show (if freeB D t (opp a) = true then some (t.erase (opp a)) else (stp D t).map (a :: ·)) = _
    rw [if_pos h']; simp
  | k + 1, a :: t, hk, hb, h => by
    have h0 : freeB D t (opp a) = false := by simpa using hb 0 (by omega)
    have ih := stp_at k t (by simpa using hk) (fun j hj => by simpa using hb (j + 1) (by omega)) (by simpa using h)
    show (if freeB D t (opp a) = true then some (t.erase (opp a)) else (stp D t).map (a :: ·)) = _
    rw [if_neg (by rw [h0]; decide), ih]; simp
  | _, [], hk, _, _ => by simp at hk
theorem stp_no : ∀ (w : List Nat), (∀ j, j < w.length → freeB D (w.drop (j + 1)) (opp (w.getD j 0)) = false) → stp D w = none
  | [], _ => rfl
  | a :: t, hb => by
    have h0 : freeB D t (opp a) = false := by simpa using hb 0 (by simp)
    have ih := stp_no t (fun j hj => by simpa using hb (j + 1) (by simpa using hj))
    show (if freeB D t (opp a) = true then some (t.erase (opp a)) else (stp D t).map (a :: ·)) = _
    rw [if_neg (by rw [h0]; decide), ih]; rfl
end
end Go.Proofs.YtdafdffmkjhhcaaDoor
