/-
  Plain mathematics of the processes of an alphabet: the maximal sets of letters that depend on each other.
-/
import Derived.Test.YtbjkpkgnjeaimaaDoorAlStepM
import Derived.Test.YtbjkpkgnjeaimaaDoorMaxC
namespace Go.Proofs.YtbjkpkgnjeaimaaDoor
open Go.RowKit
set_option linter.unusedVariables false
set_option maxRecDepth 100000

theorem mut_dep (rs : List Nat) (n : Nat) (hn : rs.length = n) (hr : ∀ i, rs.getD i 0 < 2 ^ n) (hd : Dep rs) : mutM rs = rs := by
  refine masks_eq _ _ n (by rw [mutM_len, hn]) hn (mutM_lt rs n hn hr) hr fun i k hi hk => ?_
  rw [mutM_bit rs n hn i k hi]
  show _ ↔ R rs i k
  constructor
  · exact fun h => h.2.2
  · exact fun h => ⟨hk, (hd.2 i k (by omega) (by omega)).1 h, h⟩
/-- What the model lists. -/
def procB (rs : List Nat) (n m : Nat) : Bool := decide (m ≠ 0) && decide (comM rs n (bitsOf m) = m)
def procM (rs : List Nat) : List Nat := (List.range (2 ^ rs.length)).filter (procB rs rs.length)
theorem proc_eq (rs : List Nat) (n : Nat) (hn : rs.length = n) (h8 : n ≤ 8) (hr : ∀ i, rs.getD i 0 < 2 ^ n) (hd : Dep rs) : (maxM rs).filter (fun m => decide (m ≠ 0)) = procM rs := by
  have h24 : n ≤ 24 := by omega
  have hm := mut_dep rs n hn hr hd
  unfold maxM procM cliqM
  rw [hm, hn]
  refine asc_ext _ _ (filter_asc _ _ (filter_asc _ _ (famM_asc _ _))) (filter_asc _ _ (range_asc _)) fun m => ?_
  rw [List.mem_filter, List.mem_filter, famM_mem, List.mem_filter, List.mem_range]
  have hp := p24 n h24
  have hfit : ∀ s k, s < 2 ^ n → k < n → (fitC rs s k = true ↔ ∀ b, s.testBit b = true → R rs k b) := by
    intro s k hs hk
    have hmk := hr k
    unfold fitC
    rw [beq_iff_eq, dif_zero s _ (by omega) (by omega)]; rfl
  have hcom : ∀ c b, c < 2 ^ n → ((comM rs n (bitsOf c)).testBit b = true ↔ b < n ∧ ∀ k, c.testBit k = true → R rs k b) := by
    intro c b hc
    rw [comM_bit]
    constructor
    · rintro ⟨h1, h2⟩
      exact ⟨h1, fun k hk => h2 k ((bitsOf_mem c k).2 ⟨by have := bit_lt hc hk; omega, hk⟩)⟩
    · rintro ⟨h1, h2⟩
      exact ⟨h1, fun k hk => h2 k ((bitsOf_mem c k).1 hk).2⟩
  have hcle : ∀ c, comM rs n (bitsOf c) < 2 ^ n := fun c => by have := comM_le rs n (bitsOf c); have := p2_pos n; omega
  unfold procB maxC
  simp only [Bool.and_eq_true, decide_eq_true_eq, beq_iff_eq]
  constructor
  · rintro ⟨⟨⟨hm1, hm2⟩, hm3⟩, hm0⟩
    refine ⟨hm1, hm0, ?_⟩
    rw [dif_zero _ _ (by have := hcle m; omega) (by omega)] at hm3
    refine nat_ext (hcle m) hm1 fun b hb => ⟨hm3 b, fun hbm => (hcom m b hm1).2 ⟨hb, fun k hk => ?_⟩⟩
    have hkn := bit_lt hm1 hk
    rcases Nat.lt_trichotomy b k with h1 | h1 | h1
    · exact (hfit (m % 2 ^ k) k (Nat.lt_of_le_of_lt (Nat.mod_le _ _) hm1) hkn).1 (hm2 k hkn hk) b (by rw [Nat.testBit_mod_two_pow, hbm]; simp; exact h1)
    · subst h1; exact hd.1 b (by omega)
    · exact (hd.2 k b (by omega) (by omega)).2 ((hfit (m % 2 ^ b) b (Nat.lt_of_le_of_lt (Nat.mod_le _ _) hm1) hb).1 (hm2 b hb hbm) k (by rw [Nat.testBit_mod_two_pow, hk]; simp; exact h1))
  · rintro ⟨hm1, hm0, hc⟩
    refine ⟨⟨⟨hm1, fun k hk hb => ?_⟩, ?_⟩, hm0⟩
    · refine (hfit (m % 2 ^ k) k (Nat.lt_of_le_of_lt (Nat.mod_le _ _) hm1) hk).2 fun b hb2 => ?_
      rw [Nat.testBit_mod_two_pow, Bool.and_eq_true] at hb2
      have h2 : (comM rs n (bitsOf m)).testBit b = true := by rw [hc]; exact hb2.2
      exact ((hcom m b hm1).1 h2).2 k hb
    · rw [hc, dif_zero _ _ (by omega) (by omega)]; exact fun i hi => hi
theorem procM_len (rs : List Nat) (h : rs.length ≤ 8) : (procM rs).length ≤ 256 := by
  have h1 := List.length_filter_le (procB rs rs.length) (List.range (2 ^ rs.length))
  rw [List.length_range] at h1
  have := p8 rs.length h
  unfold procM; omega
theorem cliq_small (rs : List Nat) (h : rs.length ≤ 8) : (cliqM rs).length ≤ 4096 := by
  have hp := p8 rs.length h
  have hlt := cliqM_lt rs rs.length rfl
  have ha : Asc (cliqM rs) := famM_asc _ _
  have key : ∀ (xs : List Nat) (b : Nat), Asc xs → (∀ s, s ∈ xs → b ≤ s ∧ s < 256) → xs.length ≤ 256 - b := by
    intro xs
    induction xs with
    | nil => intro b _ _; exact Nat.zero_le _
    | cons x xs ih =>
      intro b hx hs
      obtain ⟨h1, h2⟩ := List.pairwise_cons.1 hx
      have h3 := hs x (List.mem_cons_self ..)
      have h4 := ih (x + 1) h2 (fun s hs2 => ⟨h1 s hs2, (hs s (List.mem_cons_of_mem _ hs2)).2⟩)
      rw [List.length_cons]; omega
  have := key (cliqM rs) 0 ha (fun s hs => ⟨Nat.zero_le _, by have := hlt s hs; omega⟩)
  omega
end Go.Proofs.YtbjkpkgnjeaimaaDoor
