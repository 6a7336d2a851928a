/-
  Plain mathematics of alphabets: what a dependence is, its complement, and when exchanges are transitive.
-/
import Derived.Test.YtcojodkcpemfdaaDoorB2
namespace Go.Proofs.YtcojodkcpemfdaaDoor
open Go.RowKit
set_option linter.unusedVariables false
set_option maxRecDepth 100000

/-- Reflexive and symmetric. -/
def Dep (rs : List Nat) : Prop := (∀ i, i < rs.length → R rs i i) ∧ ∀ i k, i < rs.length → k < rs.length → (R rs i k ↔ R rs k i)
def reflB (rs : List Nat) : Bool := (List.range rs.length).all fun i => (rs.getD i 0).testBit i
def depB (rs : List Nat) : Bool := reflB rs && decide (rs = convM rs)
theorem conv_R (rs : List Nat) (n : Nat) (hn : rs.length = n) (i b : Nat) (hi : i < n) : R (convM rs) i b ↔ b < n ∧ R rs b i := by
  unfold R
  rw [convM_at rs i (by omega), colM_bit, hn]; rfl
theorem depB_iff (rs : List Nat) (n : Nat) (hn : rs.length = n) (hr : ∀ i, rs.getD i 0 < 2 ^ n) : depB rs = true ↔ Dep rs := by
  unfold depB reflB Dep
  rw [Bool.and_eq_true, List.all_eq_true, decide_eq_true_eq]
  constructor
  · rintro ⟨h1, h2⟩
    refine ⟨fun i hi => h1 i (List.mem_range.2 hi), fun i k hi hk => ?_⟩
    have h3 := conv_R rs n hn i k (by omega)
    rw [← h2] at h3
    exact ⟨fun h => (h3.1 h).2, fun h => h3.2 ⟨by omega, h⟩⟩
  · rintro ⟨h1, h2⟩
    refine ⟨fun i hi => h1 i (List.mem_range.1 hi), ?_⟩
    refine masks_eq rs (convM rs) n hn (by rw [convM_len, hn]) hr (convM_lt rs n hn) fun i k hi hk => ?_
    show R rs i k ↔ R (convM rs) i k
    rw [conv_R rs n hn i k hi, h2 i k (by omega) (by omega)]
    exact ⟨fun h => ⟨hk, h⟩, fun h => h.2⟩
def alphB (L : Int) (xs : List Int) : Bool := decide (0 ≤ L ∧ L ≤ 8 ∧ (xs.length : Int) = L) && (relB xs && depB (xs.map Int.toNat))
theorem alphB_nats (L : Int) (xs : List Int) (n : Nat) (hl : xs.length = n) (h : alphB L xs = true) :
    ∃ rs, xs = ints rs ∧ L = (n : Int) ∧ n ≤ 8 ∧ (∀ i, rs.getD i 0 < 2 ^ n) ∧ relB (ints rs) = true ∧ rs.length = n ∧ depB rs = true ∧ xs.map Int.toNat = rs := by
  unfold alphB at h
  rw [Bool.and_eq_true, Bool.and_eq_true, decide_eq_true_eq] at h
  obtain ⟨⟨h0, h8, hL⟩, hr, hd⟩ := h
  obtain ⟨h1, h2⟩ := clos_nats xs hr
  subst hl
  exact ⟨_, h1, hL.symm, by omega, h2, by rw [← h1]; exact hr, by rw [List.length_map], hd, rfl⟩
theorem alphB_L (L : Int) (xs : List Int) (h : ¬ (0 ≤ L ∧ L ≤ 8 ∧ (xs.length : Int) = L)) : alphB L xs = false := by
  unfold alphB; rw [decide_eq_false h]; rfl
theorem alphB_rel (L : Int) (xs : List Int) (h : relB xs = false) : alphB L xs = false := by
  unfold alphB; rw [h]; simp
theorem alphB_dep (L : Int) (rs : List Nat) (h : depB rs = false) : alphB L (ints rs) = false := by
  have e : (ints rs).map Int.toNat = rs := by
    unfold ints
    rw [List.map_map]
    have : (Int.toNat ∘ fun m : Nat => ((m : Nat) : Int)) = id := by funext m; simp
    rw [this, List.map_id]
  unfold alphB; rw [e, h]; simp
theorem ints_toNat (rs : List Nat) : (ints rs).map Int.toNat = rs := by
  unfold ints
  rw [List.map_map]
  have : (Int.toNat ∘ fun m : Nat => ((m : Nat) : Int)) = id := by funext m; simp
  rw [this, List.map_id]
theorem alphB_yes (n : Nat) (rs : List Nat) (hl : rs.length = n) (hn : n ≤ 8) (hr : relB (ints rs) = true) (hd : depB rs = true) : alphB (n : Int) (ints rs) = true := by
  unfold alphB
  rw [ints_toNat, hr, hd, ints_len, hl, decide_eq_true (by omega)]; rfl
theorem p8 (n : Nat) (h : n ≤ 8) : 2 ^ n ≤ 256 := Nat.pow_le_pow_right (by decide) h

/-! ### the complement -/
def cplRow (n s i : Nat) : Nat := dif (2 ^ n - 1) s ||| 2 ^ i
def cplM (rs : List Nat) : List Nat := (List.range rs.length).map fun i => cplRow rs.length (rs.getD i 0) i
theorem cplM_len (rs : List Nat) : (cplM rs).length = rs.length := by simp [cplM]
theorem cplM_at (rs : List Nat) (i : Nat) (h : i < rs.length) : (cplM rs).getD i 0 = cplRow rs.length (rs.getD i 0) i := getD_range_map _ _ _ h
theorem cplRow_bit (n s i b : Nat) (hn : n ≤ 24) (hs : s < 2 ^ n) (hi : i < n) : (cplRow n s i).testBit b = true ↔ b < n ∧ (¬ s.testBit b = true ∨ b = i) := by
  have := p24 n hn
  have := p2_pos n
  unfold cplRow
  rw [Nat.testBit_or, Bool.or_eq_true, dif_bit _ _ _ (by omega) (by omega), Nat.testBit_two_pow_sub_one, p2_bit]
  simp
  constructor
  · rintro (⟨h1, h2⟩ | h)
    · exact ⟨h1, .inl h2⟩
    · exact ⟨by omega, .inr h.symm⟩
  · rintro ⟨h1, h2 | h⟩
    · exact .inl ⟨h1, h2⟩
    · exact .inr h.symm
theorem cplRow_lt (n s i : Nat) (hn : n ≤ 24) (hs : s < 2 ^ n) (hi : i < n) : cplRow n s i < 2 ^ n := by
  unfold cplRow
  refine Nat.or_lt_two_pow ?_ (Nat.pow_lt_pow_right (by decide) hi)
  have := dif_le (2 ^ n - 1) s
  have := p2_pos n
  omega
theorem cplM_lt (rs : List Nat) (n : Nat) (hn : rs.length = n) (h24 : n ≤ 24) (hr : ∀ i, rs.getD i 0 < 2 ^ n) (i : Nat) : (cplM rs).getD i 0 < 2 ^ n := by
  rcases Nat.lt_or_ge i n with h | h
  · rw [cplM_at rs i (by omega), hn]; exact cplRow_lt n _ i h24 (hr i) h
  · rw [getD_past _ n i (by rw [cplM_len, hn]) h]; exact p2_pos n
theorem cpl_R (rs : List Nat) (n : Nat) (hn : rs.length = n) (h24 : n ≤ 24) (hr : ∀ i, rs.getD i 0 < 2 ^ n) (i b : Nat) (hi : i < n) : R (cplM rs) i b ↔ b < n ∧ (¬ R rs i b ∨ b = i) := by
  unfold R
  rw [cplM_at rs i (by omega), hn]
  exact cplRow_bit n _ i b h24 (hr i) hi
/-- The model's row: what is left of the full set, and the letter again. -/
theorem cplRow_sub (n s i : Nat) (hn : n ≤ 8) (hs : s < 2 ^ n) (hi : i < n) (hb : s.testBit i = true) : 2 ^ n - 1 - s + 2 ^ i = cplRow n s i := by
  have hs2 : s < 256 := by have := p8 n hn; omega
  have key : ((List.range 9).all fun n => (List.range 8).all fun i => (List.range 256).all fun s => !decide (s < 2 ^ n) || !decide (i < n) || !s.testBit i || (2 ^ n - 1 - s + 2 ^ i == cplRow n s i)) = true := by decide +kernel
  have k1 := List.all_eq_true.1 key n (List.mem_range.2 (by omega))
  have k2 := List.all_eq_true.1 k1 i (List.mem_range.2 (by omega))
  have k3 := List.all_eq_true.1 k2 s (List.mem_range.2 hs2)
  rw [decide_eq_true hs, decide_eq_true hi, hb] at k3
  simpa using k3
/-- The complement is a dependence. -/
theorem cpl_dep (rs : List Nat) (n : Nat) (hn : rs.length = n) (h24 : n ≤ 24) (hr : ∀ i, rs.getD i 0 < 2 ^ n) (hd : Dep rs) : Dep (cplM rs) := by
  unfold Dep
  rw [cplM_len, hn]
  refine ⟨fun i hi => (cpl_R rs n hn h24 hr i i hi).2 ⟨hi, .inr rfl⟩, fun i k hi hk => ?_⟩
  rw [cpl_R rs n hn h24 hr i k hi, cpl_R rs n hn h24 hr k i hk, hd.2 i k (by omega) (by omega)]
  constructor
  · rintro ⟨_, h | h⟩
    · exact ⟨hi, .inl h⟩
    · exact ⟨hi, .inr h.symm⟩
  · rintro ⟨_, h | h⟩
    · exact ⟨hk, .inl h⟩
    · exact ⟨hk, .inr h.symm⟩

/-! ### transitive exchanges -/
def Tri (rs : List Nat) : Prop := ∀ a b c, a < rs.length → b < rs.length → c < rs.length → ¬ (a ≠ c ∧ ¬ R rs a b ∧ ¬ R rs b c ∧ R rs a c)
theorem tri_iff (rs : List Nat) (n : Nat) (hn : rs.length = n) (h24 : n ≤ 24) (hr : ∀ i, rs.getD i 0 < 2 ^ n) : cplM rs = closM (cplM rs) ↔ Tri rs := by
  obtain ⟨us, hu⟩ : ∃ us, us = cplM rs := ⟨_, rfl⟩
  have hul : us.length = n := by rw [hu, cplM_len, hn]
  have hult : ∀ i, us.getD i 0 < 2 ^ n := by rw [hu]; exact cplM_lt rs n hn h24 hr
  have hUR : ∀ i b, i < n → (R us i b ↔ b < n ∧ (¬ R rs i b ∨ b = i)) := by rw [hu]; exact fun i b hi => cpl_R rs n hn h24 hr i b hi
  rw [← hu]
  unfold Tri
  rw [hn]
  have hcl : ∀ i, i < n → ∀ b, ((closM us).getD i 0).testBit b = true ↔ RT us i b := fun i hi b => by
    rw [closM_at us i (by omega), hul]; exact reachM_bit us n i hul hult hi b
  constructor
  · rintro he a b c ha hb hc ⟨h1, h2, h3, h4⟩
    have hab : R us a b := (hUR a b ha).2 ⟨hb, .inl h2⟩
    have hbc : R us b c := (hUR b c hb).2 ⟨hc, .inl h3⟩
    have hac : R us a c := by
      unfold R
      rw [he, hcl a ha]
      exact ((RT.refl a).step hab).step hbc
    rcases ((hUR a c ha).1 hac).2 with h | h
    · exact h h4
    · exact h1 h.symm
  · intro ht
    refine masks_eq us (closM us) n hul (by rw [closM_len, hul]) hult (fun i => ?_) fun i k hi hk => ?_
    · rcases Nat.lt_or_ge i n with h1 | h1
      · rw [closM_at us i (by omega), hul]; exact reachM_lt us n i n hult h1
      · rw [getD_past _ n i (by rw [closM_len, hul]) h1]; exact p2_pos n
    · rw [hcl i hi]
      constructor
      · intro h1; exact (RT.refl i).step h1
      · intro h1
        show R us i k
        clear hk
        induction h1 with
        | refl => exact (hUR i i hi).2 ⟨hi, .inr rfl⟩
        | step h1 h2 ih =>
          rename_i j k
          have hj := RT.lt hult hi h1
          have hk := bit_lt (hult j) h2
          have h2' := (hUR j k hj).1 h2
          have h1' := (hUR i j hi).1 ih
          refine (hUR i k hi).2 ⟨hk, ?_⟩
          apply Classical.byContradiction
          intro hno
          have hik : k ≠ i := fun e => hno (.inr e)
          have hR : R rs i k := Classical.byContradiction fun e => hno (.inl e)
          rcases h1'.2 with e1 | e1
          · rcases h2'.2 with e2 | e2
            · exact ht i j k hi hj hk ⟨fun e => hik e.symm, e1, e2, hR⟩
            · subst e2; exact e1 hR
          · subst e1
            rcases h2'.2 with e2 | e2
            · exact e2 hR
            · exact hik e2
end Go.Proofs.YtcojodkcpemfdaaDoor
