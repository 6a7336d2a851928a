/-
  Division: mathematics of meets. Division: the program's least common continuation, by a contract. Division: the program's continuation of two words, with its codes. JoinOf, ResidualAfter: the program's side. Division: the model's join, by a contract.
-/
import Derived.Test.YtokikilfmglhhaaDoorDvA
import Derived.Deep.Upon
namespace Go.Proofs.YtokikilfmglhhaaDoor
open Go Go.RowKit
set_option linter.unusedVariables false
set_option maxRecDepth 100000

theorem cmp_len (D : Nat → Nat → Bool) (us vs : List Nat) : (cmpM D us vs).1.length ≤ us.length ∧ (cmpM D us vs).2.2.length ≤ vs.length ∧ (∀ x, x ∈ (cmpM D us vs).1 → x ∈ us) ∧ (∀ x, x ∈ (cmpM D us vs).2.1 → x ∈ us) ∧ (∀ x, x ∈ (cmpM D us vs).2.2 → x ∈ vs) := by
  obtain ⟨h1, h2, h3, h4, h5⟩ := cmp_parts D us [] [] vs
  unfold cmpM
  refine ⟨by simp at h1; omega, h2, fun x hx => ?_, fun x hx => ?_, h5⟩
  · rcases h3 x hx with h | h
    · cases h
    · exact h
  · rcases h4 x hx with h | h
    · cases h
    · exact h
theorem cmpM_meets (D : Nat → Nat → Bool) (n : Nat) (hsym : ∀ a b, D a b = D b a) (href : ∀ a, a < n → D a a = true) (us vs : List Nat) (hu : ∀ x, x ∈ us → x < n) (hv : ∀ x, x ∈ vs → x < n) : Meets D us vs (cmpM D us vs).1 (cmpM D us vs).2.1 (cmpM D us vs).2.2 :=
  cmp_meets D n hsym href us [] [] vs us vs hu hv (Eqv.refl _ _) (Eqv.refl _ _) (fun c hc => by simp [freeB] at hc)
/-- The model's meet has the normal form of the program's. -/
theorem meet_nf (rs : List Nat) (n : Nat) (hl : rs.length = n) (hsym : ∀ a b, RDep rs a b = RDep rs b a) (href : ∀ a, a < n → RDep rs a a = true) (us vs p a b : List Nat) (hu : ∀ x, x ∈ us → x < n) (hv : ∀ x, x ∈ vs → x < n) (hm : Meets (RDep rs) us vs p a b) (hp : ∀ x, x ∈ p → x < n) :
    nfR rs p = nfR rs (cmpM (RDep rs) us vs).1 ∧ Eqv (RDep rs) a (cmpM (RDep rs) us vs).2.1 ∧ Eqv (RDep rs) b (cmpM (RDep rs) us vs).2.2 := by
  have hc := cmpM_meets (RDep rs) n hsym href us vs hu hv
  have hp' : ∀ x, x ∈ (cmpM (RDep rs) us vs).1 → x < n := fun x hx => hu x ((cmp_len _ _ _).2.2.1 x hx)
  obtain ⟨h1, h2, h3⟩ := hm.unique hsym href hc hp hp'
  refine ⟨?_, h2, h3⟩
  unfold nfR
  rw [hl]
  exact (eqv_iff_nf hsym href p _ hp hp').1 h1
end Go.Proofs.YtokikilfmglhhaaDoor
namespace Go.Proofs.YtokikilfmglhhaaDoor
open Go Go.RowKit
set_option linter.unusedVariables false
set_option maxRecDepth 100000

theorem wpList_append_zero {P : Program} {w : World} {ops : Array Oper} {rest : List Oper} {o : Oper} {a : Act} {Q : Exit → Act → World → Prop} (hgd : o.guard = none) (s x : Operand) (t : TypeId)
    (ho : o.op = .call { callee := .builtin .append, args := #[s, x], argTypes := #[t, t] }) (e : TypeId) (i : TypeInfo) (ht : P.underlying t = some (.slice e)) (hi : P.info? e = some i) (base : Option Addr) (sLen sCap c : Nat) (hle : sLen ≤ sCap)
    (hs : a.eval s = .slice base sLen sCap) (hx : a.eval x = .slice none 0 c) (h : wpList P ops Q rest (a.put o.dst (.slice base sLen sCap)) w) : wpList P ops Q (o :: rest) a w := by
  refine wpList_plain hgd fun K hK => ?_
  have hrun := run_append_nothing (P := P) w t t o.type e i ht hi base sLen sCap hle (.slice none 0 c) (Src.ofNil w ht c)
  unfold Oper.wp
  simp [execOp, ho, resolve, invoke, builtin, hs, hx, hrun, Result.andThen]
  exact hK _ _ h
theorem ints_app (u v : List Nat) : ints (u ++ v) = ints u ++ ints v := by unfold ints; rw [List.map_append]
/-- A slice that reads as numbers, wherever it lies, behind an own one. -/
theorem wpList_append_rd {w : World} {ops : Array Oper} {rest : List Oper} {o : Oper} {a : Act} {Q : Exit → Act → World → Prop} (hgd : o.guard = none) (s x : Operand)
    (ho : o.op = .call { callee := .builtin .append, args := #[s, x], argTypes := #[22, 22] }) (base : Nat) (A : Option Addr) (N cA : Nat) (all : List Nat) (hs : a.eval s = .slice A N cA) (hown : Own 2 w base A N cA (ints all))
    (A2 : Option Addr) (m c2 : Nat) (ss : List Nat) (hx : a.eval x = .slice A2 m c2) (h2 : Rd w A2 m (ints ss)) (h63 : N + m ≤ maxLen) (hby : (N + m) * 8 ≤ 140737488355328) (hbase : base ≤ w.heap.size)
    (h : ∀ A' c' w', Own 2 w' base A' (N + m) c' (ints (all ++ ss)) → w.grownBy w' (Value.slice A N cA).ownBlock → wpList Tryd.prog ops Q rest (a.put o.dst (.slice A' (N + m) c')) w') : wpList Tryd.prog ops Q (o :: rest) a w := by
  obtain ⟨i0, hi, hz0, hz1, hz2⟩ := info_parts info_int
  cases A2 with
  | none =>
    have hm0 : m = 0 := by
      rcases Nat.eq_zero_or_pos m with h0 | h0
      · exact h0
      · obtain ⟨b, off, e9, _⟩ := h2.2 h0; cases e9
    subst hm0
    have hs0 : ss = [] := List.eq_nil_of_length_eq_zero (by have := h2.1; rw [ints_len] at this; exact this)
    subst hs0
    refine wpList_append_zero hgd s x 22 ho 2 i0 Tryd.underlying22 hi A N cA c2 (own_cap hown) hs hx ?_
    exact h A cA w (by rw [List.append_nil]; exact hown) (World.grownBy.refl _ _)
  | some ad =>
    have hl2 : ((ints ss).map (Value.int .i64)).length = m * 1 := by rw [List.length_map, h2.1, Nat.mul_one]
    refine wpList_append_own w hgd s x 22 ho base 2 i0 (.int .i64 0) 1 8 Tryd.underlying22 hi hz0 hz1 hz2 rfl (by decide) (.slice A N cA) N ((ints all).map (Value.int .i64)) hs hown ad m c2 ((ints ss).map (Value.int .i64)) hx hl2 ?_ (ints_oneCell .i64 _) h63 hby hbase ?_
    · intro j u hu
      have hj : 0 < m := by
        rcases Nat.eq_zero_or_pos m with h0 | h0
        · have h8 : (ints ss).map (Value.int .i64) = [] := List.eq_nil_of_length_eq_zero (by rw [hl2, h0])
          rw [h8] at hu; simp at hu
        · exact h0
      obtain ⟨b, off, e9, _⟩ := h2.2 hj
      injection e9 with e9
      subst e9
      exact rd_news h2 hj j u hu
    · intro v' w' hown' hg _
      have e8 : (ints all).map (Value.int .i64) ++ (ints ss).map (Value.int .i64) = (ints (all ++ ss)).map (Value.int .i64) := by rw [ints_app, List.map_append]
      rw [e8] at hown'
      obtain ⟨A3, c3, rfl, ho3⟩ := own_shape hown'
      exact h A3 c3 w' ho3 hg
/-- The least common continuation of some words, behind one that is there already. -/
def contGo (D : Nat → Nat → Bool) : List Nat → List (List Nat) → Option (List Nat)
  | all, [] => some all
  | all, v :: l => if indM D (cmpM D all v).2.1 (cmpM D all v).2.2 = true then contGo D (all ++ (cmpM D all v).2.2) l else none
theorem cont_yes (D : Nat → Nat → Bool) (all v : List Nat) (l : List (List Nat)) (h : indM D (cmpM D all v).2.1 (cmpM D all v).2.2 = true) : contGo D all (v :: l) = contGo D (all ++ (cmpM D all v).2.2) l := by
  show (if _ then _ else _) = _
  rw [if_pos h]
theorem cont_no (D : Nat → Nat → Bool) (all v : List Nat) (l : List (List Nat)) (h : indM D (cmpM D all v).2.1 (cmpM D all v).2.2 = false) : contGo D all (v :: l) = none := by
  show (if _ then _ else _) = _
  rw [if_neg (by rw [h]; decide)]
theorem drop_atL (l : List (List Nat)) (k : Nat) (hk : k < l.length) : l.drop k = l.getD k [] :: l.drop (k + 1) := by
  rw [List.getD_eq_getElem?_getD, List.getElem?_eq_getElem hk]; exact List.drop_eq_getElem_cons hk
end Go.Proofs.YtokikilfmglhhaaDoor
namespace Go.Proofs.YtokikilfmglhhaaDoor
open Go Go.RowKit
set_option linter.unusedVariables false
set_option maxRecDepth 100000

/-- The join: a word of it, if there is one. -/
def jnM (rs us ts : List Nat) : Option (List Nat) := if indM (RDep rs) (cmpM (RDep rs) us ts).2.1 (cmpM (RDep rs) us ts).2.2 = true then some (us ++ (cmpM (RDep rs) us ts).2.2) else none
def ciF (rs us ts : List Nat) : List Nat × Int := match jnM rs us ts with | none => ([], 4) | some l => if 24 < l.length then ([], 3) else (l, 0)
def joF (rs us ts : List Nat) : List Nat × Int := if (ciF rs us ts).2 = 0 then (nfR rs (ciF rs us ts).1, 0) else ([], (ciF rs us ts).2)
def raF (rs us ts : List Nat) : List Nat × Int := if (ciF rs us ts).2 = 0 then (nfR rs (cmpM (RDep rs) us ts).2.2, 0) else ([], (ciF rs us ts).2)
theorem ciF_no (rs us ts : List Nat) (h : jnM rs us ts = none) : ciF rs us ts = ([], 4) := by unfold ciF; rw [h]
theorem ciF_long (rs us ts l : List Nat) (h : jnM rs us ts = some l) (h2 : 24 < l.length) : ciF rs us ts = ([], 3) := by unfold ciF; rw [h]; exact if_pos h2
theorem ciF_yes (rs us ts l : List Nat) (h : jnM rs us ts = some l) (h2 : l.length ≤ 24) : ciF rs us ts = (l, 0) := by unfold ciF; rw [h]; exact if_neg (by omega)
theorem joF_err (rs us ts : List Nat) (l : List Nat) (c : Int) (h : ciF rs us ts = (l, c)) (hc : c ≠ 0) : joF rs us ts = ([], c) := by unfold joF; rw [h]; exact if_neg hc
theorem joF_yes (rs us ts : List Nat) (l : List Nat) (h : ciF rs us ts = (l, 0)) : joF rs us ts = (nfR rs l, 0) := by unfold joF; rw [h]; rfl
theorem raF_err (rs us ts : List Nat) (l : List Nat) (c : Int) (h : ciF rs us ts = (l, c)) (hc : c ≠ 0) : raF rs us ts = ([], c) := by unfold raF; rw [h]; exact if_neg hc
theorem raF_yes (rs us ts : List Nat) (l : List Nat) (h : ciF rs us ts = (l, 0)) : raF rs us ts = (nfR rs (cmpM (RDep rs) us ts).2.2, 0) := by unfold raF; rw [h]; rfl
theorem jnM_is (rs us ts l : List Nat) (h : jnM rs us ts = some l) : l = us ++ (cmpM (RDep rs) us ts).2.2 := by
  unfold jnM at h
  split at h
  · injection h with h; exact h.symm
  · cases h
theorem cmp_empty (D : Nat → Nat → Bool) (v : List Nat) : cmpM D [] v = ([], [], v) := rfl
theorem cont_two (rs us ts : List Nat) : contGo (RDep rs) [] [us, ts] = jnM rs us ts := by
  have h1 : indM (RDep rs) (cmpM (RDep rs) [] us).2.1 (cmpM (RDep rs) [] us).2.2 = true := by
    rw [cmp_empty, indM_iff]; intro x hx; cases hx
  rw [cont_yes _ _ _ _ h1, cmp_empty, List.nil_append]
  unfold jnM
  cases h : indM (RDep rs) (cmpM (RDep rs) us ts).2.1 (cmpM (RDep rs) us ts).2.2
  · rw [cont_no _ _ _ _ h]; rfl
  · rw [cont_yes _ _ _ _ h]; rfl
theorem joF_small (L : Int) (xs us ts : List Int) : (dL joF L xs us ts).1.length ≤ 24 := dL_small joF 24 (fun rs us ts _ _ => by
  cases h : jnM rs us ts with
  | none => rw [joF_err _ _ _ _ _ (ciF_no _ _ _ h) (by decide)]; exact Nat.zero_le _
  | some l =>
    rcases Nat.lt_or_ge 24 l.length with h2 | h2
    · rw [joF_err _ _ _ _ _ (ciF_long _ _ _ _ h h2) (by decide)]; exact Nat.zero_le _
    · rw [joF_yes _ _ _ _ (ciF_yes _ _ _ _ h h2)]; exact Nat.le_trans (nfR_len rs l) h2) L xs us ts
theorem raF_small (L : Int) (xs us ts : List Int) : (dL raF L xs us ts).1.length ≤ 24 := dL_small raF 24 (fun rs us ts _ ht => by
  cases h : jnM rs us ts with
  | none => rw [raF_err _ _ _ _ _ (ciF_no _ _ _ h) (by decide)]; exact Nat.zero_le _
  | some l =>
    rcases Nat.lt_or_ge 24 l.length with h2 | h2
    · rw [raF_err _ _ _ _ _ (ciF_long _ _ _ _ h h2) (by decide)]; exact Nat.zero_le _
    · rw [raF_yes _ _ _ _ (ciF_yes _ _ _ _ h h2)]; exact Nat.le_trans (nfR_len rs _) (Nat.le_trans (cmp_len _ _ _).2.1 ht)) L xs us ts
end Go.Proofs.YtokikilfmglhhaaDoor
namespace Go.Proofs.YtokikilfmglhhaaDoor
open Go Go.RowKit
set_option linter.unusedVariables false
set_option maxRecDepth 100000

end Go.Proofs.YtokikilfmglhhaaDoor
namespace Go.Proofs.YtokikilfmglhhaaDoor
open Go Go.RowKit
set_option linter.unusedVariables false
set_option maxRecDepth 100000

end Go.Proofs.YtokikilfmglhhaaDoor
