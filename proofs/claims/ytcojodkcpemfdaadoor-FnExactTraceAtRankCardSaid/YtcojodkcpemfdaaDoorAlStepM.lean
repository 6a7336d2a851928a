/-
  Plain mathematics of the sets of independent letters: the cliques of the complement are the steps.
-/
import Derived.Test.YtcojodkcpemfdaaDoorAlMath
import Derived.Test.YtcojodkcpemfdaaDoorCliq
namespace Go.Proofs.YtcojodkcpemfdaaDoor
open Go.RowKit
set_option linter.unusedVariables false
set_option maxRecDepth 100000

theorem asc_ext : ∀ (xs ys : List Nat), Asc xs → Asc ys → (∀ m, m ∈ xs ↔ m ∈ ys) → xs = ys := by
  intro xs
  induction xs with
  | nil =>
    intro ys _ _ h
    cases ys with
    | nil => rfl
    | cons y ys => exact absurd ((h y).2 (List.mem_cons_self ..)) (List.not_mem_nil)
  | cons x xs ih =>
    intro ys hx hy h
    cases ys with
    | nil => exact absurd ((h x).1 (List.mem_cons_self ..)) (List.not_mem_nil)
    | cons y ys =>
      obtain ⟨hx1, hx2⟩ := List.pairwise_cons.1 hx
      obtain ⟨hy1, hy2⟩ := List.pairwise_cons.1 hy
      have e : x = y := by
        rcases List.mem_cons.1 ((h x).1 (List.mem_cons_self ..)) with h1 | h1
        · exact h1
        · rcases List.mem_cons.1 ((h y).2 (List.mem_cons_self ..)) with h2 | h2
          · exact h2.symm
          · have := hx1 y h2; have := hy1 x h1; omega
      subst e
      rw [ih ys hx2 hy2 fun m => ?_]
      constructor
      · intro hm
        rcases List.mem_cons.1 ((h m).1 (List.mem_cons_of_mem _ hm)) with h1 | h1
        · subst h1; exact absurd (hx1 m hm) (by omega)
        · exact h1
      · intro hm
        rcases List.mem_cons.1 ((h m).2 (List.mem_cons_of_mem _ hm)) with h1 | h1
        · subst h1; exact absurd (hy1 m hm) (by omega)
        · exact h1
theorem range_asc (n : Nat) : Asc (List.range n) := List.pairwise_lt_range
theorem filter_asc (p : Nat → Bool) (xs : List Nat) (h : Asc xs) : Asc (xs.filter p) := List.Pairwise.filter p h
theorem famM_mem (fit : Nat → Nat → Bool) (n m : Nat) : m ∈ famM fit (List.range n) ↔ m < 2 ^ n ∧ ∀ k, k < n → m.testBit k = true → fit (m % 2 ^ k) k = true := by
  induction n generalizing m with
  | zero =>
    have e : famM fit (List.range 0) = [0] := rfl
    rw [e, List.mem_singleton]
    constructor
    · rintro rfl; exact ⟨by decide, fun k hk => absurd hk (Nat.not_lt_zero _)⟩
    · rintro ⟨h, _⟩; omega
  | succ n ih =>
    rw [List.range_succ, famM_snoc]
    unfold famStep
    rw [List.mem_append, ih, List.mem_map]
    have hp : 2 ^ (n + 1) = 2 * 2 ^ n := by rw [Nat.pow_succ]; omega
    constructor
    · rintro (⟨h1, h2⟩ | ⟨s, hs, rfl⟩)
      · refine ⟨by omega, fun k hk hb => ?_⟩
        have hkn := bit_lt h1 hb
        exact h2 k hkn hb
      · obtain ⟨hs1, hs2⟩ := List.mem_filter.1 hs
        obtain ⟨hs3, hs4⟩ := (ih s).1 hs1
        rw [or_top s n hs3]
        refine ⟨by omega, fun k hk hb => ?_⟩
        by_cases e : k = n
        · subst e
          rw [Nat.add_mod_right, Nat.mod_eq_of_lt hs3]; exact hs2
        · have hkn : k < n := by omega
          rw [← or_top s n hs3, Nat.testBit_or, Bool.or_eq_true, p2_bit] at hb
          have hb2 : s.testBit k = true := by
            rcases hb with h | h
            · exact h
            · omega
          have e2 : (s + 2 ^ n) % 2 ^ k = s % 2 ^ k := by
            obtain ⟨d, hd⟩ : 2 ^ k ∣ 2 ^ n := Nat.pow_dvd_pow 2 (by omega)
            rw [hd, Nat.add_mul_mod_self_left]
          rw [e2]; exact hs4 k hkn hb2
    · rintro ⟨h1, h2⟩
      rcases Nat.lt_or_ge m (2 ^ n) with h | h
      · exact .inl ⟨h, fun k hk hb => h2 k (by omega) hb⟩
      · refine .inr ⟨m - 2 ^ n, List.mem_filter.2 ⟨(ih _).2 ⟨by omega, fun k hk hb => ?_⟩, ?_⟩, ?_⟩
        · have e2 : m % 2 ^ k = (m - 2 ^ n) % 2 ^ k := by
            obtain ⟨d, hd⟩ : 2 ^ k ∣ 2 ^ n := Nat.pow_dvd_pow 2 (by omega)
            have : m = m - 2 ^ n + 2 ^ k * d := by omega
            conv => lhs; rw [this]
            rw [Nat.add_mul_mod_self_left]
          have hm : m = (m - 2 ^ n) ||| 2 ^ n := by rw [or_top _ n (by omega)]; omega
          rw [← e2]
          refine h2 k (by omega) ?_
          rw [hm, Nat.testBit_or, hb]; rfl
        · have hm : m = (m - 2 ^ n) ||| 2 ^ n := by rw [or_top _ n (by omega)]; omega
          have hb : m.testBit n = true := by rw [hm, Nat.testBit_or, Nat.testBit_two_pow_self, Bool.or_true]
          have h3 := h2 n (by omega) hb
          have e3 : m % 2 ^ n = m - 2 ^ n := by
            rw [Nat.mod_eq_sub_mod h, Nat.mod_eq_of_lt (by omega)]
          rw [e3] at h3; exact h3
        · rw [or_top _ n (by omega)]; omega
/-- The model's test of a step. -/
def stepB (rs : List Nat) (n m : Nat) : Bool := (List.range n).all fun a => !m.testBit a || decide (rs.getD a 0 &&& m = 2 ^ a)
def stepsM (rs : List Nat) : List Nat := (List.range (2 ^ rs.length)).filter (stepB rs rs.length)
theorem steps_eq (rs : List Nat) (n : Nat) (hn : rs.length = n) (h8 : n ≤ 8) (hr : ∀ i, rs.getD i 0 < 2 ^ n) (hd : Dep rs) : cliqM (cplM rs) = stepsM rs := by
  have h24 : n ≤ 24 := by omega
  have hcl : (cplM rs).length = n := by rw [cplM_len, hn]
  have hclt := cplM_lt rs n hn h24 hr
  unfold cliqM stepsM
  rw [hcl, hn]
  refine asc_ext _ _ (famM_asc _ _) (filter_asc _ _ (range_asc _)) fun m => ?_
  rw [famM_mem, List.mem_filter, List.mem_range]
  have hu : ∀ k b, k < n → (((mutM (cplM rs)).getD k 0).testBit b = true ↔ b < n ∧ (¬ R rs k b ∨ b = k)) := by
    intro k b hk
    rw [mutM_bit (cplM rs) n hcl k b hk]
    constructor
    · rintro ⟨h1, h2, h3⟩
      exact (cpl_R rs n hn h24 hr k b hk).1 h3
    · rintro ⟨h1, h2⟩
      refine ⟨h1, (cpl_R rs n hn h24 hr b k h1).2 ⟨hk, ?_⟩, (cpl_R rs n hn h24 hr k b hk).2 ⟨h1, h2⟩⟩
      rcases h2 with h2 | h2
      · exact .inl fun e => h2 ((hd.2 k b (by omega) (by omega)).2 e)
      · exact .inr h2.symm
  have hfit : ∀ s k, s < 2 ^ n → k < n → (fitC (mutM (cplM rs)) s k = true ↔ ∀ b, s.testBit b = true → (¬ R rs k b ∨ b = k)) := by
    intro s k hs hk
    have hp := p24 n h24
    have hmk := mutM_lt (cplM rs) n hcl hclt k
    unfold fitC
    rw [beq_iff_eq, dif_zero s _ (by omega) (by omega)]
    constructor
    · intro h b hb; exact ((hu k b hk).1 (h b hb)).2
    · intro h b hb; exact (hu k b hk).2 ⟨bit_lt hs hb, h b hb⟩
  have hstep : m < 2 ^ n → (stepB rs n m = true ↔ ∀ a b, m.testBit a = true → m.testBit b = true → a ≠ b → ¬ R rs a b) := by
    intro hm
    unfold stepB
    rw [List.all_eq_true]
    constructor
    · intro h a b ha hb hab hR
      have h1 := h a (List.mem_range.2 (bit_lt hm ha))
      rw [ha] at h1
      have h2 : rs.getD a 0 &&& m = 2 ^ a := by simpa using h1
      have h3 : (rs.getD a 0 &&& m).testBit b = true := by rw [Nat.testBit_and, hb, Bool.and_true]; exact hR
      rw [h2, p2_bit] at h3
      exact hab h3
    · intro h a ha
      have ha' := List.mem_range.1 ha
      cases hb : m.testBit a with
      | false => rfl
      | true =>
        simp only [Bool.not_true, Bool.false_or, decide_eq_true_eq]
        apply nat_ext (n := n) (Nat.lt_of_le_of_lt Nat.and_le_right hm) (Nat.pow_lt_pow_right (by decide) ha')
        intro b hbn
        rw [Nat.testBit_and, Bool.and_eq_true, p2_bit]
        constructor
        · rintro ⟨h1, h2⟩
          apply Classical.byContradiction
          intro hne
          exact h a b hb h2 hne h1
        · rintro rfl
          exact ⟨hd.1 a (by omega), hb⟩
  constructor
  · rintro ⟨hm, h⟩
    refine ⟨hm, (hstep hm).2 fun a b ha hb hab hR => ?_⟩
    have han := bit_lt hm ha
    have hbn := bit_lt hm hb
    have key : ∀ a b, a < n → b < n → m.testBit a = true → m.testBit b = true → b < a → ¬ R rs a b := by
      intro a b han hbn ha hb hlt
      have h1 := (hfit (m % 2 ^ a) a (Nat.lt_of_le_of_lt (Nat.mod_le _ _) hm) han).1 (h a han ha) b (by rw [Nat.testBit_mod_two_pow, hb]; simp; exact hlt)
      rcases h1 with h1 | h1
      · exact h1
      · omega
    rcases Nat.lt_or_ge b a with h1 | h1
    · exact key a b han hbn ha hb h1 hR
    · exact key b a hbn han hb ha (by omega) ((hd.2 a b (by omega) (by omega)).1 hR)
  · rintro ⟨hm, h⟩
    refine ⟨hm, fun k hk hb => ?_⟩
    refine (hfit (m % 2 ^ k) k (Nat.lt_of_le_of_lt (Nat.mod_le _ _) hm) hk).2 fun b hbb => ?_
    rw [Nat.testBit_mod_two_pow, Bool.and_eq_true] at hbb
    obtain ⟨h1, h2⟩ := hbb
    have h1' : b < k := by simpa using h1
    exact .inl ((hstep hm).1 h k b hb h2 (by omega))
theorem stepsM_len (rs : List Nat) (h : rs.length ≤ 8) : (stepsM rs).length ≤ 256 := by
  have h1 := List.length_filter_le (stepB rs rs.length) (List.range (2 ^ rs.length))
  rw [List.length_range] at h1
  have := p8 rs.length h
  unfold stepsM; omega
end Go.Proofs.YtcojodkcpemfdaaDoor
