/-
  Components of a trace: the classes of the dependence among its letters, by the program's way and by the model's: plain mathematics.
-/
import Derived.Test.YtokikilfmglhhaaDoorTrIn
import Derived.Test.YtokikilfmglhhaaDoorPrj
namespace Go.Proofs.YtokikilfmglhhaaDoor
open Go.RowKit
set_option linter.unusedVariables false
set_option maxRecDepth 100000

/-- The relation among the letters of a set. -/
def amM (rs : List Nat) (s : Nat) : List Nat := (List.range rs.length).map fun a => if s.testBit a = true then rs.getD a 0 &&& s else 0
theorem amM_len (rs : List Nat) (s : Nat) : (amM rs s).length = rs.length := by simp [amM]
theorem amM_at (rs : List Nat) (s a : Nat) (h : a < rs.length) : (amM rs s).getD a 0 = if s.testBit a = true then rs.getD a 0 &&& s else 0 := getD_range_map _ _ _ h
theorem amM_lt (rs : List Nat) (n s : Nat) (hl : rs.length = n) (hr : ∀ i, rs.getD i 0 < 2 ^ n) (i : Nat) : (amM rs s).getD i 0 < 2 ^ n := by
  rcases Nat.lt_or_ge i n with h | h
  · rw [amM_at rs s i (by omega)]
    split
    · exact Nat.lt_of_le_of_lt Nat.and_le_left (hr i)
    · exact p2_pos n
  · rw [List.getD_eq_getElem?_getD, List.getElem?_eq_none (by rw [amM_len]; omega)]; exact p2_pos n
/-- The symmetric relation whose classes are asked for. -/
def usM (rs : List Nat) (s : Nat) : List Nat := symM (amM rs s)
theorem usM_len (rs : List Nat) (n s : Nat) (hl : rs.length = n) : (usM rs s).length = n := by unfold usM; rw [symM_len, amM_len, hl]
theorem usM_lt (rs : List Nat) (n s : Nat) (hl : rs.length = n) (hr : ∀ i, rs.getD i 0 < 2 ^ n) (i : Nat) : (usM rs s).getD i 0 < 2 ^ n := symM_lt _ n (by rw [amM_len, hl]) (amM_lt rs n s hl hr) i
theorem usM_R (rs : List Nat) (n s : Nat) (hl : rs.length = n) (hr : ∀ i, rs.getD i 0 < 2 ^ n) (hd : Dep rs) (i k : Nat) (hi : i < n) (hk : k < n) : R (usM rs s) i k ↔ s.testBit i = true ∧ s.testBit k = true ∧ R rs i k := by
  have one : ∀ i k, i < n → (R (amM rs s) i k ↔ s.testBit i = true ∧ s.testBit k = true ∧ R rs i k) := fun i k hi => by
    unfold R
    rw [amM_at rs s i (by omega)]
    by_cases h : s.testBit i = true
    · rw [if_pos h, Nat.testBit_and, Bool.and_eq_true]
      exact ⟨fun ⟨a, b⟩ => ⟨h, b, a⟩, fun ⟨_, b, a⟩ => ⟨a, b⟩⟩
    · rw [if_neg h, Nat.zero_testBit]
      exact ⟨fun h9 => (by cases h9), fun ⟨a, _⟩ => absurd a h⟩
  unfold usM
  rw [symM_R _ n (by rw [amM_len, hl]) (amM_lt rs n s hl hr) i k hi hk, one i k hi, one k i hk]
  have := hd.2 i k (by omega) (by omega)
  constructor
  · rintro (h | ⟨a, b, c⟩)
    · exact h
    · exact ⟨b, a, this.2 c⟩
  · exact .inl
theorem usM_sym (rs : List Nat) (n s : Nat) (hl : rs.length = n) (hr : ∀ i, rs.getD i 0 < 2 ^ n) (hd : Dep rs) (i k : Nat) (hi : i < n) (hk : k < n) (h : R (usM rs s) i k) : R (usM rs s) k i := by
  rw [usM_R rs n s hl hr hd i k hi hk] at h
  rw [usM_R rs n s hl hr hd k i hk hi]
  exact ⟨h.2.1, h.1, (hd.2 i k (by omega) (by omega)).1 h.2.2⟩
/-- What is reached from a letter is a letter of the set, or the letter itself. -/
theorem rt_in (rs : List Nat) (n s : Nat) (hl : rs.length = n) (hr : ∀ i, rs.getD i 0 < 2 ^ n) (hd : Dep rs) {a b : Nat} (ha : a < n) (h : RT (usM rs s) a b) : a = b ∨ (s.testBit a = true ∧ s.testBit b = true) := by
  induction h with
  | refl => exact .inl rfl
  | step h1 h2 ih =>
    have hj := RT.lt (usM_lt rs n s hl hr) ha h1
    have hk := bit_lt (usM_lt rs n s hl hr _) h2
    have h3 := (usM_R rs n s hl hr hd _ _ hj hk).1 h2
    rcases ih with h4 | h4
    · subst h4; exact .inr ⟨h3.1, h3.2.1⟩
    · exact .inr ⟨h4.1, h3.2.1⟩
/-- All letters that depend on a letter of a set, of the first k. -/
def reachL (rs : List Nat) (m : Nat) : Nat → Nat
  | 0 => 0
  | k + 1 => if m.testBit k = true then reachL rs m k ||| rs.getD k 0 else reachL rs m k
theorem reachL_bit (rs : List Nat) (m k b : Nat) : (reachL rs m k).testBit b = true ↔ ∃ i, i < k ∧ m.testBit i = true ∧ R rs i b := by
  induction k with
  | zero => simp [reachL]
  | succ k ih =>
    unfold reachL
    by_cases h : m.testBit k = true
    · rw [if_pos h, Nat.testBit_or, Bool.or_eq_true, ih]
      constructor
      · rintro (⟨i, hi, h2, h3⟩ | h4)
        · exact ⟨i, by omega, h2, h3⟩
        · exact ⟨k, by omega, h, h4⟩
      · rintro ⟨i, hi, h2, h3⟩
        by_cases e : i = k
        · subst e; exact .inr h3
        · exact .inl ⟨i, by omega, h2, h3⟩
    · rw [if_neg h, ih]
      constructor
      · rintro ⟨i, hi, h2, h3⟩; exact ⟨i, by omega, h2, h3⟩
      · rintro ⟨i, hi, h2, h3⟩
        by_cases e : i = k
        · subst e; exact absurd h2 h
        · exact ⟨i, by omega, h2, h3⟩
theorem reachL_lt (rs : List Nat) (n m : Nat) (hr : ∀ i, rs.getD i 0 < 2 ^ n) : ∀ k, reachL rs m k < 2 ^ n
  | 0 => p2_pos n
  | k + 1 => by
    unfold reachL
    split
    · exact Nat.or_lt_two_pow (reachL_lt rs n m hr k) (hr k)
    · exact reachL_lt rs n m hr k
/-- The model's part around a letter, after k rounds. -/
def partM (rs : List Nat) (left a : Nat) : Nat → Nat
  | 0 => 2 ^ a
  | k + 1 => reachL rs (partM rs left a k) rs.length &&& (left ||| partM rs left a k)
/-- The letters of the set that no lesser one than t leads to. -/
def LeftM (rs : List Nat) (s t left : Nat) : Prop := ∀ b, left.testBit b = true ↔ s.testBit b = true ∧ ¬ ∃ a, a < t ∧ s.testBit a = true ∧ RT (usM rs s) a b
theorem part_reach (rs : List Nat) (n s a left : Nat) (hl : rs.length = n) (hr : ∀ i, rs.getD i 0 < 2 ^ n) (hd : Dep rs) (ha : a < n) (hL : LeftM rs s a left) (hla : left.testBit a = true) : ∀ k, partM rs left a k = reachM (usM rs s) a k
  | 0 => rfl
  | k + 1 => by
    have ih := part_reach rs n s a left hl hr hd ha hL hla k
    have hul := usM_len rs n s hl
    have hlt := usM_lt rs n s hl hr
    have hsa := ((hL a).1 hla).1
    have hno := ((hL a).1 hla).2
    show reachL rs (partM rs left a k) rs.length &&& (left ||| partM rs left a k) = stepM (usM rs s) (reachM (usM rs s) a k) (usM rs s).length
    rw [ih, hl, hul]
    have hm := reachM_lt (usM rs s) n a k hlt ha
    have hsub : ∀ t b, (reachM (usM rs s) a t).testBit b = true → RT (usM rs s) a b := by
      intro t
      induction t with
      | zero => intro b h; have := (p2_bit a b).1 h; subst this; exact .refl _
      | succ t ih =>
        intro b h
        rcases (stepM_bit _ _ _ _).1 h with h1 | ⟨i, _, h2, h3⟩
        · exact ih b h1
        · exact (ih i h2).step h3
    obtain ⟨m, hme⟩ : ∃ m, m = reachM (usM rs s) a k := ⟨_, rfl⟩
    have hsub' := hsub k
    rw [← hme] at hm hsub' ⊢
    have hin : ∀ i, m.testBit i = true → s.testBit i = true := fun i hi => by
      rcases rt_in rs n s hl hr hd ha (hsub' i hi) with h | h
      · rw [← h]; exact hsa
      · exact h.2
    apply Nat.eq_of_testBit_eq
    intro b
    apply Bool.eq_iff_iff.2
    rw [stepM_bit, Nat.testBit_and, Nat.testBit_or, Bool.and_eq_true, Bool.or_eq_true, reachL_bit]
    constructor
    · rintro ⟨⟨i, hi, h2, h3⟩, h4 | h4⟩
      · exact .inr ⟨i, hi, h2, (usM_R rs n s hl hr hd i b hi (bit_lt (hr i) h3)).2 ⟨hin i h2, ((hL b).1 h4).1, h3⟩⟩
      · exact .inl h4
    · rintro (h1 | ⟨i, hi, h2, h3⟩)
      · have hb := bit_lt hm h1
        exact ⟨⟨b, hb, h1, hd.1 b (by omega)⟩, .inr h1⟩
      · have hb := bit_lt (hlt i) h3
        have h4 := (usM_R rs n s hl hr hd i b hi hb).1 h3
        refine ⟨⟨i, hi, h2, h4.2.2⟩, .inl ((hL b).2 ⟨h4.2.1, ?_⟩)⟩
        rintro ⟨a', ha', hs', hrt⟩
        have h5 : RT (usM rs s) b a := sym_RT _ n hlt (fun i k hi hk h => usM_sym rs n s hl hr hd i k hi hk h) a b ha ((hsub' i h2).step h3)
        exact hno ⟨a', ha', hs', hrt.trans h5⟩
/-- The classes of the letters of the set, those that begin below t. -/
def prtL (rs : List Nat) (n s : Nat) : Nat → List Nat
  | 0 => []
  | t + 1 => if s.testBit t = true ∧ low (reachM (usM rs s) t n) = t then prtL rs n s t ++ [reachM (usM rs s) t n] else prtL rs n s t
theorem prtL_len (rs : List Nat) (n s : Nat) : ∀ t, (prtL rs n s t).length ≤ t
  | 0 => Nat.le_refl _
  | t + 1 => by
    have := prtL_len rs n s t
    unfold prtL
    split
    · rw [List.length_append]; show _ + 1 ≤ _; omega
    · omega
theorem prtL_lt (rs : List Nat) (n s : Nat) (hl : rs.length = n) (hr : ∀ i, rs.getD i 0 < 2 ^ n) : ∀ t, t ≤ n → ∀ p, p ∈ prtL rs n s t → p < 2 ^ n
  | 0, _, p, h => by cases h
  | t + 1, ht, p, h => by
    unfold prtL at h
    split at h
    · rcases List.mem_append.1 h with h1 | h1
      · exact prtL_lt rs n s hl hr t (by omega) p h1
      · rw [List.mem_singleton.1 h1]; exact reachM_lt _ n t n (usM_lt rs n s hl hr) (by omega)
    · exact prtL_lt rs n s hl hr t (by omega) p h
/-- A class is within the set exactly if its least letter is in it. -/
theorem class_in (rs : List Nat) (n s t : Nat) (hl : rs.length = n) (h24 : n ≤ 24) (hr : ∀ i, rs.getD i 0 < 2 ^ n) (hd : Dep rs) (hs : s < 2 ^ n) (ht : t < n) : dif (reachM (usM rs s) t n) s = 0 ↔ s.testBit t = true := by
  have hul := usM_len rs n s hl
  have hlt := usM_lt rs n s hl hr
  rw [dif_zero _ _ (lt63 h24 (reachM_lt _ n t n hlt ht)) (lt63 h24 hs)]
  constructor
  · intro h; exact h t (reach_self _ n t hul hlt ht)
  · intro h b hb
    rcases rt_in rs n s hl hr hd ht ((reachM_bit _ n t hul hlt ht b).1 hb) with h1 | h1
    · rw [← h1]; exact h
    · exact h1.2
/-- The program's list: the classes that lie within the set. -/
theorem comp_filter (rs : List Nat) (n s : Nat) (hl : rs.length = n) (h24 : n ≤ 24) (hr : ∀ i, rs.getD i 0 < 2 ^ n) (hd : Dep rs) (hs : s < 2 ^ n) : ∀ t, t ≤ n → (compL (usM rs s) n t).filter (fun c => dif c s == 0) = prtL rs n s t
  | 0, _ => rfl
  | t + 1, ht => by
    have ih := comp_filter rs n s hl h24 hr hd hs t (by omega)
    have hc := class_in rs n s t hl h24 hr hd hs (by omega)
    unfold compL prtL
    by_cases h1 : low (reachM (usM rs s) t n) = t
    · rw [if_pos h1, List.filter_append, ih]
      by_cases h2 : s.testBit t = true
      · rw [if_pos ⟨h2, h1⟩]
        congr 1
        rw [List.filter_cons_of_pos (by rw [hc.2 h2]; rfl)]; rfl
      · rw [if_neg (fun h => h2 h.1), List.filter_cons_of_neg (by
          simp only [beq_iff_eq]
          exact fun h => h2 (hc.1 h))]
        simp
    · rw [if_neg h1, if_neg (fun h => h1 h.2), ih]
theorem compM_filter (rs : List Nat) (n s : Nat) (hl : rs.length = n) (h24 : n ≤ 24) (hr : ∀ i, rs.getD i 0 < 2 ^ n) (hd : Dep rs) (hs : s < 2 ^ n) : (compM (amM rs s)).filter (fun c => dif c s == 0) = prtL rs n s n := by
  unfold compM
  rw [amM_len, hl]
  exact comp_filter rs n s hl h24 hr hd hs n (Nat.le_refl _)
theorem sub_bits (l p : Nat) (hl : l < 256) (hp : ∀ b, p.testBit b = true → l.testBit b = true) : p ≤ l ∧ ∀ b, (l - p).testBit b = (l.testBit b && !p.testBit b) := by
  have e : p &&& l = p := by
    apply Nat.eq_of_testBit_eq
    intro b
    rw [Nat.testBit_and]
    cases h : p.testBit b
    · rfl
    · rw [hp b h]; rfl
  have hpl : p ≤ l := by rw [← e]; exact Nat.and_le_right
  have key : ((List.range 256).all fun l => (List.range 256).all fun p => !(p &&& l == p) || (l - p == l ^^^ p)) = true := by decide +kernel
  have k1 := List.all_eq_true.1 (List.all_eq_true.1 key l (List.mem_range.2 hl)) p (List.mem_range.2 (by omega))
  rw [e] at k1
  simp only [beq_self_eq_true, Bool.not_true, Bool.false_or, beq_iff_eq] at k1
  refine ⟨hpl, fun b => ?_⟩
  rw [k1, Nat.testBit_xor]
  cases h : p.testBit b
  · simp
  · rw [hp b h]; rfl
/-- One letter of the model's loop. -/
theorem left_no (rs : List Nat) (n s t left : Nat) (hl : rs.length = n) (h24 : n ≤ 24) (hr : ∀ i, rs.getD i 0 < 2 ^ n) (hd : Dep rs) (ht : t < n) (hL : LeftM rs s t left) (h : left.testBit t = false) : LeftM rs s (t + 1) left ∧ prtL rs n s (t + 1) = prtL rs n s t := by
  have hul := usM_len rs n s hl
  have hlt := usM_lt rs n s hl hr
  have hsy := fun i k hi hk h => usM_sym rs n s hl hr hd i k hi hk h
  constructor
  · intro b
    rw [hL b]
    constructor
    · rintro ⟨h1, h2⟩
      refine ⟨h1, ?_⟩
      rintro ⟨a, ha, hs, hrt⟩
      by_cases e : a = t
      · subst e
        have h3 : ¬ left.testBit a = true := by rw [h]; decide
        rw [hL a] at h3
        apply h3
        refine ⟨hs, ?_⟩
        rintro ⟨a2, ha2, hs2, hrt2⟩
        exact h2 ⟨a2, ha2, hs2, hrt2.trans hrt⟩
      · exact h2 ⟨a, by omega, hs, hrt⟩
    · rintro ⟨h1, h2⟩
      exact ⟨h1, fun ⟨a, ha, hs, hrt⟩ => h2 ⟨a, by omega, hs, hrt⟩⟩
  · show (if _ then _ else _) = _
    refine if_neg ?_
    rintro ⟨h1, h2⟩
    have h3 : ¬ left.testBit t = true := by rw [h]; decide
    apply h3
    rw [hL t]
    refine ⟨h1, ?_⟩
    rintro ⟨a, ha, _, hrt⟩
    exact (comp_new (usM rs s) n t hul h24 hlt hsy ht).1 h2 ⟨a, ha, hrt⟩
theorem left_yes (rs : List Nat) (n s t left : Nat) (hl : rs.length = n) (h8 : n ≤ 8) (hr : ∀ i, rs.getD i 0 < 2 ^ n) (hd : Dep rs) (ht : t < n) (hlf : left < 2 ^ n) (hL : LeftM rs s t left) (h : left.testBit t = true) :
    partM rs left t n = reachM (usM rs s) t n ∧ partM rs left t n ≤ left ∧ LeftM rs s (t + 1) (left - partM rs left t n) ∧ prtL rs n s (t + 1) = prtL rs n s t ++ [partM rs left t n] := by
  have hul := usM_len rs n s hl
  have hlt := usM_lt rs n s hl hr
  have hsy := fun i k hi hk h => usM_sym rs n s hl hr hd i k hi hk h
  have e := part_reach rs n s t left hl hr hd ht hL h n
  have hst := (hL t).1 h
  have hp8 : (2:Nat) ^ n ≤ 256 := Nat.pow_le_pow_right (by decide) h8
  have hbit := fun b => reachM_bit (usM rs s) n t hul hlt ht b
  have hsubs : ∀ b, (reachM (usM rs s) t n).testBit b = true → left.testBit b = true := fun b hb => by
    have hrt := (hbit b).1 hb
    rw [hL b]
    refine ⟨?_, ?_⟩
    · rcases rt_in rs n s hl hr hd ht hrt with h1 | h1
      · rw [← h1]; exact hst.1
      · exact h1.2
    · rintro ⟨a, ha, hs, hra⟩
      exact hst.2 ⟨a, ha, hs, hra.trans (sym_RT _ n hlt hsy t b ht hrt)⟩
  have hsb := sub_bits left (reachM (usM rs s) t n) (by omega) hsubs
  rw [e]
  refine ⟨rfl, hsb.1, ?_, ?_⟩
  · intro b
    rw [hsb.2 b, Bool.and_eq_true, hL b]
    constructor
    · rintro ⟨⟨h1, h2⟩, h3⟩
      refine ⟨h1, ?_⟩
      rintro ⟨a, ha, hs, hrt⟩
      by_cases e2 : a = t
      · subst e2
        rw [(hbit b).2 hrt] at h3; cases h3
      · exact h2 ⟨a, by omega, hs, hrt⟩
    · rintro ⟨h1, h2⟩
      refine ⟨⟨h1, fun ⟨a, ha, hs, hrt⟩ => h2 ⟨a, by omega, hs, hrt⟩⟩, ?_⟩
      cases h3 : (reachM (usM rs s) t n).testBit b
      · rfl
      · exact absurd ⟨t, by omega, hst.1, (hbit b).1 h3⟩ h2
  · have hlow := (comp_new (usM rs s) n t hul (by omega) hlt hsy ht).2 (by
      rintro ⟨a, ha, hrt⟩
      rcases rt_in rs n s hl hr hd (by omega) hrt with h1 | h1
      · omega
      · exact hst.2 ⟨a, ha, h1.1, hrt⟩)
    show (if _ then _ else _) = _
    rw [if_pos ⟨hst.1, hlow⟩]
theorem left_zero (rs : List Nat) (s : Nat) : LeftM rs s 0 s := fun b => ⟨fun h => ⟨h, fun ⟨a, ha, _⟩ => absurd ha (Nat.not_lt_zero a)⟩, fun h => h.1⟩
/-- The letters of a word. -/
def ltM (us : List Nat) : Nat := us.foldl (fun m a => m ||| 2 ^ a) 0
theorem ltM_snoc (us : List Nat) (a : Nat) : ltM (us ++ [a]) = ltM us ||| 2 ^ a := by unfold ltM; rw [List.foldl_append]; rfl
theorem ltM_lt (n : Nat) : ∀ us : List Nat, (∀ x, x ∈ us → x < n) → ltM us < 2 ^ n := by
  have : ∀ (us : List Nat) (m : Nat), m < 2 ^ n → (∀ x, x ∈ us → x < n) → us.foldl (fun m a => m ||| 2 ^ a) m < 2 ^ n := by
    intro us
    induction us with
    | nil => intro m h _; exact h
    | cons a us ih =>
      intro m h hu
      exact ih _ (Nat.or_lt_two_pow h (Nat.pow_lt_pow_right (by decide) (hu a List.mem_cons_self))) (fun x hx => hu x (List.mem_cons_of_mem _ hx))
  exact fun us hu => this us 0 (p2_pos n) hu
/-- The components. -/
def tcL (rs us : List Nat) (ps : List Nat) : List (List Int) := ps.map fun p => ints (nfR rs (prjS us p))
end Go.Proofs.YtokikilfmglhhaaDoor
