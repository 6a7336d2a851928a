/-
  Roots of traces: plain mathematics.
-/
import Derived.Test.YtdafdffmkjhhcaaDoorM3
import Derived.Test.YtdafdffmkjhhcaaDoorRpt
namespace Go.Proofs.YtdafdffmkjhhcaaDoor
open Go Go.RowKit
set_option linter.unusedVariables false
set_option maxRecDepth 100000

/-- The first letters of each kind, of the first i: of each as many as one of k words gets. -/
def shTo (us : List Nat) (k : Nat) : Nat → List Nat
  | 0 => []
  | i + 1 => if (shTo us k i).count (us.getD i 0) < us.count (us.getD i 0) / k then shTo us k i ++ [us.getD i 0] else shTo us k i
def shF (us : List Nat) (k : Nat) : List Nat := shTo us k us.length
theorem shTo_count (us : List Nat) (k a : Nat) : ∀ i, (shTo us k i).count a ≤ us.count a / k
  | 0 => Nat.zero_le _
  | i + 1 => by
    have ih := shTo_count us k a i
    unfold shTo
    split
    · rename_i h
      obtain ⟨b, hb⟩ : ∃ b, b = us.getD i 0 := ⟨_, rfl⟩
      rw [← hb] at h ⊢
      rw [List.count_append, List.count_singleton]
      by_cases e : b = a
      · subst e; simp; omega
      · have e2 : (b == a) = false := beq_false_of_ne e
        rw [e2]; simpa using ih
    · exact ih
theorem shTo_mem (us : List Nat) (k : Nat) : ∀ i, i ≤ us.length → ∀ x, x ∈ shTo us k i → x ∈ us
  | 0, _, x, h => by cases h
  | i + 1, hi, x, h => by
    unfold shTo at h
    split at h
    · rcases List.mem_append.1 h with h1 | h1
      · exact shTo_mem us k i (by omega) x h1
      · rw [List.mem_singleton.1 h1, List.getD_eq_getElem?_getD, List.getElem?_eq_getElem (by omega)]; exact List.getElem_mem _
    · exact shTo_mem us k i (by omega) x h
theorem shTo_len (us : List Nat) (k : Nat) : ∀ i, (shTo us k i).length ≤ i
  | 0 => Nat.le_refl _
  | i + 1 => by
    have ih := shTo_len us k i
    unfold shTo
    split
    · rw [List.length_append]; show _ + 1 ≤ _; omega
    · omega
theorem repV_count (k a : Nat) (t : List Nat) : (repV k t).count a = k * t.count a := by
  induction k with
  | zero => rw [repV_zero, Nat.zero_mul]; rfl
  | succ k ih => rw [repV_add, List.count_append, ih, repV_one, Nat.succ_mul]
theorem len_of_count : ∀ (u v : List Nat), (∀ a, u.count a ≤ v.count a) → u.length ≤ v.length
  | [], v, _ => Nat.zero_le _
  | b :: u, v, h => by
    have hb : b ∈ v := by
      have := h b
      rw [List.count_cons_self] at this
      exact List.count_pos_iff.1 (by omega)
    have ih := len_of_count u (v.erase b) (fun a => by
      have h1 := h a
      rw [List.count_erase]
      by_cases e : b = a
      · subst e
        rw [List.count_cons_self] at h1
        simp; omega
      · have e2 : (b == a) = false := beq_false_of_ne e
        rw [List.count_cons_of_ne e] at h1
        rw [e2]; simpa using h1)
    rw [List.length_erase_of_mem hb] at ih
    have := List.length_pos_of_mem hb
    rw [List.length_cons]
    omega
/-- The power of the share has no more letters than the word. -/
theorem sh_len (us : List Nat) (k : Nat) : (shF us k).length * k ≤ us.length := by
  rw [← repV_len]
  refine len_of_count _ _ fun a => ?_
  rw [repV_count]
  have h1 := shTo_count us k a us.length
  exact Nat.le_trans (Nat.mul_le_mul_left k h1) (Nat.mul_div_le _ _)
theorem sh_lt (us : List Nat) (k n : Nat) (h : ∀ x, x ∈ us → x < n) : ∀ x, x ∈ shF us k → x < n := fun x hx => h x (shTo_mem us k us.length (Nat.le_refl _) x hx)
theorem count_prj (u : List Nat) (a : Nat) : u.count a = (prj u a a).length := by
  unfold prj
  rw [List.count_eq_length_filter]
  congr 1
  refine List.filter_congr fun x _ => ?_
  by_cases e : x = a <;> simp [e]
theorem Eqv.count {D : Nat → Nat → Bool} {u v : List Nat} (h : Eqv D u v) {a : Nat} (ha : D a a = true) : u.count a = v.count a := by
  rw [count_prj, count_prj, h a a ha]
/-- Whether each letter occurs a multiple of k times. -/
def fitRt (us : List Nat) (k n : Nat) : Bool := (List.range n).all fun a => us.count a % k == 0
theorem fit_of (rs us t : List Nat) (n k : Nat) (hl : rs.length = n) (hsym : ∀ a b, RDep rs a b = RDep rs b a) (href : ∀ a, a < n → RDep rs a a = true) (hu : ∀ x, x ∈ us → x < n) (ht : ∀ x, x ∈ t → x < n) (h : nfR rs (repV k t) = nfR rs us) : fitRt us k n = true := by
  have hr : ∀ x, x ∈ repV k t → x < n := fun x hx => ht x (repV_mem hx)
  have e : ∀ ws, nfR rs ws = nfM (RDep rs) n ws := fun ws => by unfold nfR; rw [hl]
  rw [e, e] at h
  have hE := (eqv_iff_nf hsym href _ _ hr hu).2 h
  unfold fitRt
  rw [List.all_eq_true]
  intro a ha
  have ha' := List.mem_range.1 ha
  rw [← hE.count (href a ha'), repV_count]
  simp
/-- The root, tried from k on downwards. -/
def rtGo (rs us : List Nat) : Nat → List Nat × Nat
  | 0 => (nfR rs us, 1)
  | k + 1 => if k = 0 then (nfR rs us, 1) else if nfR rs (repV (k + 1) (shF us (k + 1))) = nfR rs us then (nfR rs (shF us (k + 1)), k + 1) else rtGo rs us k
theorem rtGo_end (rs us : List Nat) (k : Nat) (h : k ≤ 1) : rtGo rs us k = (nfR rs us, 1) := by
  match k, h with
  | 0, _ => rfl
  | 1, _ => rfl
theorem rtGo_yes (rs us : List Nat) (k : Nat) (h : 1 < k) (h2 : nfR rs (repV k (shF us k)) = nfR rs us) : rtGo rs us k = (nfR rs (shF us k), k) := by
  match k, h with
  | k + 1, h =>
    show (if k = 0 then _ else if _ then _ else _) = _
    rw [if_neg (by omega), if_pos h2]
theorem rtGo_no (rs us : List Nat) (k : Nat) (h : 1 < k) (h2 : ¬ nfR rs (repV k (shF us k)) = nfR rs us) : rtGo rs us k = rtGo rs us (k - 1) := by
  match k, h with
  | k + 1, h =>
    show (if k = 0 then _ else if _ then _ else _) = _
    rw [if_neg (by omega), if_neg h2]; rfl
def rtF (rs us : List Nat) : List Nat × Nat := rtGo rs us us.length
theorem rtGo_len (rs us : List Nat) : ∀ k, (rtGo rs us k).1.length ≤ us.length ∧ 1 ≤ (rtGo rs us k).2
  | 0 => ⟨nfR_len rs us, Nat.le_refl _⟩
  | k + 1 => by
    rcases Nat.lt_or_ge 1 (k + 1) with h | h
    · by_cases h2 : nfR rs (repV (k + 1) (shF us (k + 1))) = nfR rs us
      · rw [rtGo_yes rs us (k + 1) h h2]
        exact ⟨Nat.le_trans (nfR_len rs _) (shTo_len us (k + 1) us.length), by omega⟩
      · rw [rtGo_no rs us (k + 1) h h2]
        exact rtGo_len rs us k
    · rw [rtGo_end rs us (k + 1) h]
      exact ⟨nfR_len rs us, Nat.le_refl _⟩
theorem nfGo_ltR (D : Nat → Nat → Bool) (n : Nat) : ∀ (k : Nat) (us : List Nat) (x : Nat), x ∈ nfGo D n k us → x < n
  | 0, _, x, h => by cases h
  | k + 1, us, x, h => by
    have h' : x ∈ (match leastFree D n us with | none => [] | some a => a :: nfGo D n k (us.erase a)) := h
    cases hl : leastFree D n us with
    | none => rw [hl] at h'; cases h'
    | some a =>
      rw [hl] at h'
      rcases List.mem_cons.1 h' with e | e
      · rw [e]; exact ((leastFree_iff D n us a).1 hl).1
      · exact nfGo_ltR D n k _ x e
end Go.Proofs.YtdafdffmkjhhcaaDoor
