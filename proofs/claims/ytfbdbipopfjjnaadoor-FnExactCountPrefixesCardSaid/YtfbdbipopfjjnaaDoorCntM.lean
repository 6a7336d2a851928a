/-
  Plain mathematics: the number of the downsets of a set of places, and the greatest number of places that are concurrent: by recursion over the places, in any order.
-/
import Derived.Test.YtfbdbipopfjjnaaDoorOrdM
namespace Go.Proofs.YtfbdbipopfjjnaaDoor
open Go.RowKit
set_option linter.unusedVariables false
set_option maxRecDepth 100000

section
variable (le : Nat → Nat → Bool)
/-- The downsets of those of a list that are not barred. -/
def cntL : List Nat → (Nat → Bool) → Nat
  | [], _ => 1
  | i :: t, p => if p i = true then cntL t p else cntL t (fun j => p j || le i j) + cntL t p
def widL : List Nat → (Nat → Bool) → Nat
  | [], _ => 0
  | i :: t, p => if p i = true then widL t p else max (widL t p) (1 + widL t (fun j => p j || le i j))
theorem cntL_congr : ∀ (l : List Nat) (p q : Nat → Bool), (∀ j, j ∈ l → p j = q j) → cntL le l p = cntL le l q
  | [], _, _, _ => rfl
  | i :: t, p, q, h => by
    show (if p i = true then cntL le t p else cntL le t (fun j => p j || le i j) + cntL le t p) = (if q i = true then cntL le t q else cntL le t (fun j => q j || le i j) + cntL le t q)
    have h' : ∀ j, j ∈ t → p j = q j := fun j hj => h j (List.mem_cons_of_mem _ hj)
    rw [h i List.mem_cons_self, cntL_congr t p q h', cntL_congr t (fun j => p j || le i j) (fun j => q j || le i j) (fun j hj => by show (p j || le i j) = (q j || le i j); rw [h' j hj])]
theorem widL_congr : ∀ (l : List Nat) (p q : Nat → Bool), (∀ j, j ∈ l → p j = q j) → widL le l p = widL le l q
  | [], _, _, _ => rfl
  | i :: t, p, q, h => by
    show (if p i = true then widL le t p else max (widL le t p) (1 + widL le t (fun j => p j || le i j))) = (if q i = true then widL le t q else max (widL le t q) (1 + widL le t (fun j => q j || le i j)))
    have h' : ∀ j, j ∈ t → p j = q j := fun j hj => h j (List.mem_cons_of_mem _ hj)
    rw [h i List.mem_cons_self, widL_congr t p q h', widL_congr t (fun j => p j || le i j) (fun j => q j || le i j) (fun j hj => by show (p j || le i j) = (q j || le i j); rw [h' j hj])]
theorem cntL_all : ∀ (l : List Nat) (p : Nat → Bool), (∀ j, j ∈ l → p j = true) → cntL le l p = 1
  | [], _, _ => rfl
  | i :: t, p, h => by
    show (if p i = true then cntL le t p else _) = 1
    rw [if_pos (h i List.mem_cons_self)]
    exact cntL_all t p fun j hj => h j (List.mem_cons_of_mem _ hj)
theorem widL_all : ∀ (l : List Nat) (p : Nat → Bool), (∀ j, j ∈ l → p j = true) → widL le l p = 0
  | [], _, _ => rfl
  | i :: t, p, h => by
    show (if p i = true then widL le t p else _) = 0
    rw [if_pos (h i List.mem_cons_self)]
    exact widL_all t p fun j hj => h j (List.mem_cons_of_mem _ hj)
/-- Any place parts the downsets: those without it, and those with it. -/
theorem cntL_split (hr : ∀ i, le i i = true) (hle : ∀ i j, le i j = true → i ≤ j) (ht : ∀ i j k, le i j = true → le j k = true → le i k = true) :
    ∀ (l : List Nat) (p : Nat → Bool) (t : Nat), l.Pairwise (· < ·) → t ∈ l → p t = false → cntL le l p = cntL le l (fun j => p j || le t j) + cntL le l (fun j => p j || le j t)
  | [], _, _, _, h, _ => by cases h
  | i :: r, p, t, hs, hm, hp => by
    obtain ⟨h0, hs'⟩ := List.pairwise_cons.1 hs
    have U : ∀ q : Nat → Bool, cntL le (i :: r) q = if q i = true then cntL le r q else cntL le r (fun j => q j || le i j) + cntL le r q := fun _ => rfl
    rw [U p, U, U]
    by_cases hpi : p i = true
    · have htr : t ∈ r := by
        rcases List.mem_cons.1 hm with h | h
        · subst h; rw [hpi] at hp; cases hp
        · exact h
      rw [if_pos hpi, if_pos (by rw [hpi]; rfl), if_pos (by rw [hpi]; rfl)]
      exact cntL_split hr hle ht r p t hs' htr hp
    · have hpi' : p i = false := by simpa using hpi
      rw [if_neg hpi]
      rcases List.mem_cons.1 hm with h | htr
      · subst h
        rw [if_pos (by rw [hr]; simp), if_pos (by rw [hr]; simp)]
        congr 1
        exact cntL_congr le r _ _ fun j hj => by
          have h1 := h0 j hj
          cases hl : le j t
          · simp
          · have := hle j t hl; omega
      · have hit := h0 t htr
        have hti : le t i = false := by
          cases hl : le t i
          · rfl
          · have := hle t i hl; omega
        have ih := cntL_split hr hle ht r p t hs' htr hp
        rw [if_neg (by rw [hpi', hti]; decide)]
        cases hit2 : le i t
        · rw [if_neg (by rw [hpi']; decide)]
          have ih2 := cntL_split hr hle ht r (fun j => p j || le i j) t hs' htr (by show (p t || le i t) = false; rw [hp, hit2]; rfl)
          rw [ih, ih2]
          rw [cntL_congr le r (fun j => (p j || le t j) || le i j) (fun j => (p j || le i j) || le t j) (fun j _ => by cases p j <;> cases le t j <;> cases le i j <;> rfl)]
          rw [cntL_congr le r (fun j => (p j || le j t) || le i j) (fun j => (p j || le i j) || le j t) (fun j _ => by cases p j <;> cases le j t <;> cases le i j <;> rfl)]
          omega
        · rw [if_pos (by simp), ih]
          rw [cntL_congr le r (fun j => (p j || le t j) || le i j) (fun j => p j || le i j) (fun j _ => by
            cases hl : le t j
            · cases p j <;> cases le i j <;> rfl
            · have := ht i t j hit2 hl
              rw [this]; simp)]
          omega
/-- The first place that is not barred. -/
theorem widL_split (hr : ∀ i, le i i = true) : ∀ (l : List Nat) (p : Nat → Bool) (t : Nat), l.Pairwise (· < ·) → t ∈ l → p t = false → (∀ j, j ∈ l → j < t → p j = true) → widL le l p = max (widL le l (fun j => p j || j == t)) (1 + widL le l (fun j => p j || le t j))
  | [], _, _, _, h, _, _ => by cases h
  | i :: r, p, t, hs, hm, hp, hb => by
    obtain ⟨h0, hs'⟩ := List.pairwise_cons.1 hs
    have U : ∀ q : Nat → Bool, widL le (i :: r) q = if q i = true then widL le r q else max (widL le r q) (1 + widL le r (fun j => q j || le i j)) := fun _ => rfl
    rw [U p, U, U]
    rcases List.mem_cons.1 hm with h | htr
    · subst h
      rw [if_neg (by rw [hp]; decide), if_pos (by simp), if_pos (by rw [hr]; simp)]
      rw [widL_congr le r (fun j => p j || j == t) p (fun j hj => by
        have h1 := h0 j hj
        have : (j == t) = false := by simp; omega
        rw [this, Bool.or_false])]
    · have hpi : p i = true := hb i List.mem_cons_self (h0 t htr)
      rw [if_pos hpi, if_pos (by rw [hpi]; rfl), if_pos (by rw [hpi]; rfl)]
      exact widL_split hr r p t hs' htr hp fun j hj => hb j (List.mem_cons_of_mem _ hj)
end

/-- Of a set of places. -/
def cntS (D : Nat → Nat → Bool) (us : List Nat) (m s : Nat) : Nat := cntL (lqB D us) (List.range m) fun j => !s.testBit j
def widS (D : Nat → Nat → Bool) (us : List Nat) (m s : Nat) : Nat := widL (lqB D us) (List.range m) fun j => !s.testBit j
theorem cntS_zero (D : Nat → Nat → Bool) (us : List Nat) (m : Nat) : cntS D us m 0 = 1 := cntL_all _ _ _ fun j _ => by simp
theorem widS_zero (D : Nat → Nat → Bool) (us : List Nat) (m : Nat) : widS D us m 0 = 0 := widL_all _ _ _ fun j _ => by simp
theorem cntS_split (D : Nat → Nat → Bool) (us : List Nat) (m s i : Nat) (hm : m ≤ 24) (hs : s < 2 ^ m) (hi : s.testBit i = true) : cntS D us m s = cntS D us m (dif s (upW D us m i)) + cntS D us m (dif s (dnW D us i)) := by
  have h24 := p24 m hm
  have him := bit_lt hs hi
  have h := cntL_split (lqB D us) (lq_refl D us) (fun i j => lq_le D us i j) (fun i j k h1 h2 => lq_trans D us i j h1 k h2) (List.range m) (fun j => !s.testBit j) i List.pairwise_lt_range (List.mem_range.2 him) (by rw [hi]; rfl)
  unfold cntS
  rw [h]
  congr 1
  · exact cntL_congr _ _ _ _ fun j hj => by
      have hj' := List.mem_range.1 hj
      rw [dif_bit s _ j (by omega) (by have := upW_lt D us m i; omega)]
      cases hl : lqB D us i j
      · have : (upW D us m i).testBit j = false := by rw [Bool.eq_false_iff]; intro h9; rw [((upW_bit _ _ _ _ _).1 h9).2] at hl; cases hl
        rw [this]; simp
      · rw [(upW_bit _ _ _ _ _).2 ⟨hj', hl⟩]; simp
  · exact cntL_congr _ _ _ _ fun j hj => by
      have hj' := List.mem_range.1 hj
      rw [dif_bit s _ j (by omega) (Nat.lt_of_lt_of_le (dnW_lt24 _ _ _) (by decide))]
      cases hl : lqB D us j i
      · have : (dnW D us i).testBit j = false := by rw [Bool.eq_false_iff]; intro h9; rw [((dnW_bit _ _ _ _).1 h9).2] at hl; cases hl
        rw [this]; simp
      · rw [(dnW_bit _ _ _ _).2 ⟨by omega, hl⟩]; simp
theorem widS_split (D : Nat → Nat → Bool) (us : List Nat) (m s i : Nat) (hm : m ≤ 24) (hs : s < 2 ^ m) (hi : s.testBit i = true) (hb : ∀ j, j < i → s.testBit j = false) : widS D us m s = max (widS D us m (dif s (2 ^ i))) (1 + widS D us m (s &&& concM D us m i)) := by
  have h24 := p24 m hm
  have him := bit_lt hs hi
  have h := widL_split (lqB D us) (lq_refl D us) (List.range m) (fun j => !s.testBit j) i List.pairwise_lt_range (List.mem_range.2 him) (by rw [hi]; rfl) (fun j _ hj => by rw [hb j hj]; rfl)
  unfold widS
  rw [h]
  congr 1
  · exact widL_congr _ _ _ _ fun j hj => by
      rw [dif_one s i (by omega) (by omega)]
      by_cases e : i = j
      · subst e; simp
      · have h1 : (j == i) = false := by simp; omega
        rw [h1]; simp [e]
  · congr 1
    exact widL_congr _ _ _ _ fun j hj => by
      have hj' := List.mem_range.1 hj
      have hdu : (dnW D us i ||| upW D us m i) < 2 ^ m := Nat.or_lt_two_pow (dnW_lt _ _ _ _ him) (upW_lt _ _ _ _)
      unfold concM
      have hp := p2_pos m
      rw [Nat.testBit_and, dif_bit _ _ j (by omega) (by omega), Nat.testBit_two_pow_sub_one, decide_eq_true hj', Nat.testBit_or, Bool.true_and]
      cases hsj : s.testBit j
      · simp
      · have hij : i ≤ j := by
          apply Nat.le_of_not_lt
          intro hlt
          rw [hb j hlt] at hsj; cases hsj
        cases hl : lqB D us i j
        · have h1 : (upW D us m i).testBit j = false := by rw [Bool.eq_false_iff]; intro h9; rw [((upW_bit _ _ _ _ _).1 h9).2] at hl; cases hl
          have h2 : (dnW D us i).testBit j = false := by
            rw [Bool.eq_false_iff]; intro h9
            have h8 := ((dnW_bit _ _ _ _).1 h9).2
            have := lq_le D us j i h8
            have : j = i := by omega
            subst this
            rw [h8] at hl; cases hl
          rw [h1, h2]; simp
        · rw [(upW_bit _ _ _ _ _).2 ⟨hj', hl⟩]; simp

/-! ### the model's recursions -/
/-- From the last place down: whether it can be left out. -/
def cntD (up : Nat → Nat) : Nat → Nat → Nat
  | 0, _ => 1
  | k + 1, inn => (if up k &&& inn = 0 then cntD up k inn else 0) + cntD up k (inn ||| 2 ^ k)
def qB (D : Nat → Nat → Bool) (us : List Nat) (m k inn : Nat) (j : Nat) : Bool := decide (k ≤ j) || (upW D us m j &&& inn != 0)
theorem and_ne (a b : Nat) : (a &&& b != 0) = true ↔ ∃ k, a.testBit k = true ∧ b.testBit k = true := by
  rw [bne_iff_ne]
  constructor
  · intro h
    apply Classical.byContradiction
    intro hno
    apply h
    rw [and_zero_iff]
    intro k hk
    cases hb : b.testBit k
    · rfl
    · exact absurd ⟨k, hk, hb⟩ hno
  · rintro ⟨k, h1, h2⟩ h0
    rw [(and_zero_iff a b).1 h0 k h1] at h2; cases h2
theorem cntD_eq (D : Nat → Nat → Bool) (us : List Nat) (m : Nat) : ∀ k inn, k ≤ m → cntD (upW D us m) k inn = cntL (lqB D us) (List.range m) (qB D us m k inn)
  | 0, inn, _ => (cntL_all _ _ _ fun j _ => by unfold qB; simp).symm
  | k + 1, inn, hk => by
    have ih1 := cntD_eq D us m k inn (by omega)
    have ih2 := cntD_eq D us m k (inn ||| 2 ^ k) (by omega)
    show (if upW D us m k &&& inn = 0 then cntD (upW D us m) k inn else 0) + cntD (upW D us m) k (inn ||| 2 ^ k) = _
    rw [ih1, ih2]
    have hor : ∀ j, j < m → j < k → ((upW D us m j &&& (inn ||| 2 ^ k) != 0) = ((upW D us m j &&& inn != 0) || lqB D us j k)) := fun j hj hjk => by
      rw [Bool.eq_iff_iff, Bool.or_eq_true, and_ne, and_ne]
      constructor
      · rintro ⟨e, h1, h2⟩
        rw [Nat.testBit_or, Bool.or_eq_true, p2_bit] at h2
        rcases h2 with h2 | rfl
        · exact .inl ⟨e, h1, h2⟩
        · exact .inr ((upW_bit _ _ _ _ _).1 h1).2
      · rintro (⟨e, h1, h2⟩ | h1)
        · exact ⟨e, h1, by rw [Nat.testBit_or, h2]; rfl⟩
        · exact ⟨k, (upW_bit _ _ _ _ _).2 ⟨by omega, h1⟩, by rw [Nat.testBit_or, (p2_bit k k).2 rfl, Bool.or_true]⟩
    by_cases h0 : upW D us m k &&& inn = 0
    · rw [if_pos h0]
      have hs := cntL_split (lqB D us) (lq_refl D us) (fun i j => lq_le D us i j) (fun i j k h1 h2 => lq_trans D us i j h1 k h2) (List.range m) (qB D us m (k + 1) inn) k List.pairwise_lt_range (List.mem_range.2 (by omega)) (by unfold qB; rw [h0]; simp)
      rw [hs]
      congr 1
      · exact cntL_congr _ _ _ _ fun j hj => by
          unfold qB
          rcases Nat.lt_trichotomy j k with h | h | h
          · have h1 : lqB D us k j = false := by rw [Bool.eq_false_iff]; intro h9; have := lq_le D us k j h9; omega
            rw [h1, decide_eq_false (by omega), decide_eq_false (by omega), Bool.or_false]
          · subst h
            rw [lq_refl, decide_eq_true (by omega)]; simp
          · rw [decide_eq_true (by omega), decide_eq_true (by omega)]; simp
      · exact cntL_congr _ _ _ _ fun j hj => by
          unfold qB
          rcases Nat.lt_trichotomy j k with h | h | h
          · rw [hor j (List.mem_range.1 hj) h, decide_eq_false (by omega), decide_eq_false (by omega)]; simp
          · subst h
            rw [lq_refl, decide_eq_true (by omega)]; simp
          · rw [decide_eq_true (by omega), decide_eq_true (by omega)]; simp
    · rw [if_neg h0, Nat.zero_add]
      exact cntL_congr _ _ _ _ fun j hj => by
        unfold qB
        rcases Nat.lt_trichotomy j k with h | h | h
        · rw [hor j (List.mem_range.1 hj) h, decide_eq_false (by omega), decide_eq_false (by omega)]
          cases hl : lqB D us j k
          · simp
          · obtain ⟨e, h1, h2⟩ := (and_ne (upW D us m k) inn).1 (by rw [bne_iff_ne]; exact h0)
            have h3 := (upW_bit _ _ _ _ _).1 h1
            have h4 : (upW D us m j &&& inn != 0) = true := (and_ne _ _).2 ⟨e, (upW_bit _ _ _ _ _).2 ⟨h3.1, lq_trans D us j k hl e h3.2⟩, h2⟩
            rw [h4]; rfl
        · subst h
          rw [decide_eq_true (by omega)]
          have : (upW D us m j &&& inn != 0) = true := by rw [bne_iff_ne]; exact h0
          rw [this]; simp
        · rw [decide_eq_true (by omega), decide_eq_true (by omega)]; simp
theorem cntD_full (D : Nat → Nat → Bool) (us : List Nat) (m : Nat) : cntD (upW D us m) m 0 = cntS D us m (2 ^ m - 1) := by
  rw [cntD_eq D us m m 0 (Nat.le_refl _)]
  exact cntL_congr _ _ _ _ fun j hj => by
    have := List.mem_range.1 hj
    unfold qB
    rw [Nat.testBit_two_pow_sub_one, decide_eq_false (by omega), decide_eq_true this, Nat.and_zero]; rfl
/-- From the first place on: whether it is taken. -/
def widD (up : Nat → Nat) (m : Nat) : Nat → Nat → Nat
  | 0, _ => 0
  | d + 1, out => if out.testBit (m - (d + 1)) = true then widD up m d out else max (widD up m d out) (1 + widD up m d (out ||| up (m - (d + 1))))
theorem range_from (m d : Nat) (h : d + 1 ≤ m) : (List.range' (m - (d + 1)) (d + 1)) = (m - (d + 1)) :: List.range' (m - d) d := by
  rw [List.range'_succ]
  congr 2
  omega
theorem widD_eq (D : Nat → Nat → Bool) (us : List Nat) (m : Nat) : ∀ d out, d ≤ m → widD (upW D us m) m d out = widL (lqB D us) (List.range' (m - d) d) (fun j => out.testBit j)
  | 0, _, _ => rfl
  | d + 1, out, hd => by
    rw [range_from m d hd]
    show (if out.testBit (m - (d + 1)) = true then widD (upW D us m) m d out else max (widD (upW D us m) m d out) (1 + widD (upW D us m) m d (out ||| upW D us m (m - (d + 1))))) = (if out.testBit (m - (d + 1)) = true then widL (lqB D us) (List.range' (m - d) d) (fun j => out.testBit j) else max (widL (lqB D us) (List.range' (m - d) d) (fun j => out.testBit j)) (1 + widL (lqB D us) (List.range' (m - d) d) (fun j => out.testBit j || lqB D us (m - (d + 1)) j)))
    rw [widD_eq D us m d out (by omega), widD_eq D us m d _ (by omega)]
    rw [widL_congr (lqB D us) (List.range' (m - d) d) (fun j => (out ||| upW D us m (m - (d + 1))).testBit j) (fun j => out.testBit j || lqB D us (m - (d + 1)) j) (fun j hj => by
      have hj' := List.mem_range'_1.1 hj
      rw [Nat.testBit_or]
      congr 1
      rw [Bool.eq_iff_iff, upW_bit]
      exact ⟨fun h => h.2, fun h => ⟨by omega, h⟩⟩)]
theorem widD_full (D : Nat → Nat → Bool) (us : List Nat) (m : Nat) : widD (upW D us m) m m 0 = widS D us m (2 ^ m - 1) := by
  rw [widD_eq D us m m 0 (Nat.le_refl _), Nat.sub_self, ← List.range_eq_range']
  exact widL_congr _ _ _ _ fun j hj => by
    have := List.mem_range.1 hj
    rw [Nat.testBit_two_pow_sub_one, decide_eq_true this]; simp
theorem cntL_le (le : Nat → Nat → Bool) : ∀ (l : List Nat) (p : Nat → Bool), cntL le l p ≤ 2 ^ l.length
  | [], _ => Nat.le_refl _
  | i :: t, p => by
    have U : cntL le (i :: t) p = if p i = true then cntL le t p else cntL le t (fun j => p j || le i j) + cntL le t p := rfl
    have h1 := cntL_le le t p
    have h2 := cntL_le le t (fun j => p j || le i j)
    rw [U, List.length_cons, Nat.pow_succ]
    split <;> omega
theorem widL_le (le : Nat → Nat → Bool) : ∀ (l : List Nat) (p : Nat → Bool), widL le l p ≤ l.length
  | [], _ => Nat.le_refl _
  | i :: t, p => by
    have U : widL le (i :: t) p = if p i = true then widL le t p else max (widL le t p) (1 + widL le t (fun j => p j || le i j)) := rfl
    have h1 := widL_le le t p
    have h2 := widL_le le t (fun j => p j || le i j)
    rw [U, List.length_cons]
    split <;> omega
theorem cntS_le (D : Nat → Nat → Bool) (us : List Nat) (m s : Nat) (hm : m ≤ 24) : cntS D us m s ≤ 16777216 := by
  have := cntL_le (lqB D us) (List.range m) (fun j => !s.testBit j)
  rw [List.length_range] at this
  have := p24 m hm
  unfold cntS; omega
theorem widS_le (D : Nat → Nat → Bool) (us : List Nat) (m s : Nat) : widS D us m s ≤ m := by
  have := widL_le (lqB D us) (List.range m) (fun j => !s.testBit j)
  rw [List.length_range] at this
  exact this
end Go.Proofs.YtfbdbipopfjjnaaDoor
