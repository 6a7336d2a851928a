/-
  Plain mathematics: the number of ones of a set of 24 elements, counted in parallel.
-/
import Derived.Test.YtcojodkcpemfdaaDoorB1
namespace Go.Proofs.YtcojodkcpemfdaaDoor
open Go.RowKit
set_option linter.unusedVariables false
set_option maxRecDepth 100000

def swF (m x : Nat) : Nat := (x / 2 &&& m) + (x &&& m)
def swG (m x : Nat) : Nat := (x / 4 &&& m) + (x &&& m)
def swH (m x : Nat) : Nat := (x / 16 + x) &&& m
theorem and_split (a t l h : Nat) (ha : a < 256) (hl : l < 256) : (a + 256 * t) &&& (l + 256 * h) = (a &&& l) + 256 * (t &&& h) := by
  have hal : a &&& l < 256 := Nat.lt_of_le_of_lt Nat.and_le_left ha
  apply Nat.eq_of_testBit_eq
  intro i
  have key : ∀ p q, p < 256 → (p + 256 * q).testBit i = if i < 8 then p.testBit i else q.testBit (i - 8) := by
    intro p q hp
    rw [Nat.add_comm, show (256 : Nat) = 2 ^ 8 from rfl, Nat.testBit_two_pow_mul_add q (show p < 2 ^ 8 from hp)]
  rw [Nat.testBit_and, key a t ha, key l h hl, key _ _ hal]
  by_cases e : i < 8
  · rw [if_pos e, if_pos e, if_pos e, Nat.testBit_and]
  · rw [if_neg e, if_neg e, if_neg e, Nat.testBit_and]
theorem low2 : ∀ a, a < 256 → ∀ u, u < 2 → (a / 2 + 128 * u) &&& 85 = a / 2 &&& 85 := by decide
theorem low4 : ∀ a, a < 256 → ∀ u, u < 4 → (a / 4 + 64 * u) &&& 51 = a / 4 &&& 51 := by decide
theorem swF_split (a t h : Nat) (ha : a < 256) : swF (85 + 256 * h) (a + 256 * t) = swF 85 a + 256 * swF h t := by
  unfold swF
  have e : (a + 256 * t) / 2 = (a / 2 + 128 * (t % 2)) + 256 * (t / 2) := by omega
  rw [e, and_split _ _ _ _ (by omega) (by decide), and_split _ _ _ _ ha (by decide), low2 a ha _ (by omega)]
  omega
theorem swG_split (a t h : Nat) (ha : a < 256) : swG (51 + 256 * h) (a + 256 * t) = swG 51 a + 256 * swG h t := by
  unfold swG
  have e : (a + 256 * t) / 4 = (a / 4 + 64 * (t % 4)) + 256 * (t / 4) := by omega
  rw [e, and_split _ _ _ _ (by omega) (by decide), and_split _ _ _ _ ha (by decide), low4 a ha _ (by omega)]
  omega
theorem swH_split (a t h : Nat) (ha : a % 16 ≤ 4 ∧ a / 16 ≤ 4) (ht : t % 16 ≤ 4) : swH (15 + 256 * h) (a + 256 * t) = swH 15 a + 256 * swH h t := by
  unfold swH
  have e : (a + 256 * t) / 16 + (a + 256 * t) = (a / 16 + a + 16 * (t % 16)) + 256 * (t / 16 + t) := by omega
  rw [e, and_split _ _ _ _ (by omega) (by decide)]
  have h15 : ∀ y, y &&& 15 = y % 16 := fun y => Nat.and_two_pow_sub_one_eq_mod y 4
  rw [h15, h15]
  omega
/-- The ones of a byte. -/
def ones8 (a : Nat) : Nat := ((List.range 8).filter fun b => a.testBit b).length
theorem byte_facts : ∀ a, a < 256 → swF 85 a < 256 ∧ swG 51 (swF 85 a) < 256 ∧ swG 51 (swF 85 a) % 16 ≤ 4 ∧ swG 51 (swF 85 a) / 16 ≤ 4 ∧ swH 15 (swG 51 (swF 85 a)) = ones8 a ∧ ones8 a ≤ 8 := by decide
def sw3 (x : Nat) : Nat := swH 1085102592571150095 (swG 3689348814741910323 (swF 6148914691236517205 x))
theorem sw3_bytes (a b c : Nat) (ha : a < 256) (hb : b < 256) (hc : c < 256) : sw3 (a + 256 * (b + 256 * c)) = ones8 a + 256 * (ones8 b + 256 * ones8 c) := by
  obtain ⟨a1, a2, a3, a4, a5, a6⟩ := byte_facts a ha
  obtain ⟨b1, b2, b3, b4, b5, b6⟩ := byte_facts b hb
  obtain ⟨c1, c2, c3, c4, c5, c6⟩ := byte_facts c hc
  unfold sw3
  have z : ∀ m, swF m 0 = 0 := fun m => by simp [swF]
  have zg : ∀ m, swG m 0 = 0 := fun m => by simp [swG]
  have zh : ∀ m, swH m 0 = 0 := fun m => by simp [swH]
  have f3 : swF 93824992236885 c = swF 85 c := by
    have h1 := swF_split c 0 366503875925 hc
    rw [Nat.mul_zero, Nat.add_zero, z, Nat.mul_zero, Nat.add_zero] at h1; exact h1
  have g3 : swG 56294995342131 (swF 85 c) = swG 51 (swF 85 c) := by
    have h1 := swG_split (swF 85 c) 0 219902325555 c1
    rw [Nat.mul_zero, Nat.add_zero, zg, Nat.mul_zero, Nat.add_zero] at h1; exact h1
  have h3 : swH 16557351571215 (swG 51 (swF 85 c)) = swH 15 (swG 51 (swF 85 c)) := by
    have h1 := swH_split (swG 51 (swF 85 c)) 0 64677154575 ⟨c3, c4⟩ (by decide)
    rw [Nat.mul_zero, Nat.add_zero, zh, Nat.mul_zero, Nat.add_zero] at h1; exact h1
  have f : swF 6148914691236517205 (a + 256 * (b + 256 * c)) = swF 85 a + 256 * (swF 85 b + 256 * swF 85 c) := by
    rw [show (6148914691236517205 : Nat) = 85 + 256 * (85 + 256 * 93824992236885) from rfl, swF_split a _ _ ha, swF_split b _ _ hb, f3]
  have g : swG 3689348814741910323 (swF 85 a + 256 * (swF 85 b + 256 * swF 85 c)) = swG 51 (swF 85 a) + 256 * (swG 51 (swF 85 b) + 256 * swG 51 (swF 85 c)) := by
    rw [show (3689348814741910323 : Nat) = 51 + 256 * (51 + 256 * 56294995342131) from rfl, swG_split _ _ _ a1, swG_split _ _ _ b1, g3]
  rw [f, g, show (1085102592571150095 : Nat) = 15 + 256 * (15 + 256 * 16557351571215) from rfl, swH_split _ _ _ ⟨a3, a4⟩ (by omega), swH_split _ _ _ ⟨b3, b4⟩ (by omega), h3, a5, b5, c5]
/-- The whole count. -/
def swAll (x : Nat) : Nat := let z := sw3 x; let z1 := z + z / 256; let z2 := z1 + z1 / 65536; (z2 + z2 / 4294967296) % 128
def ones24 (x : Nat) : Nat := ones8 (x % 256) + ones8 (x / 256 % 256) + ones8 (x / 65536)
theorem swAll_is (x : Nat) (hx : x < 16777216) : swAll x = ones24 x := by
  have e : x = x % 256 + 256 * (x / 256 % 256 + 256 * (x / 65536)) := by omega
  have h1 := sw3_bytes (x % 256) (x / 256 % 256) (x / 65536) (by omega) (by omega) (by omega)
  rw [← e] at h1
  have p := (byte_facts (x % 256) (by omega)).2.2.2.2.2
  have q := (byte_facts (x / 256 % 256) (by omega)).2.2.2.2.2
  have r := (byte_facts (x / 65536) (by omega)).2.2.2.2.2
  unfold swAll ones24
  rw [h1]
  dsimp only
  obtain ⟨u, hu⟩ : ∃ u, u = ones8 (x % 256) := ⟨_, rfl⟩
  obtain ⟨v, hv⟩ : ∃ v, v = ones8 (x / 256 % 256) := ⟨_, rfl⟩
  obtain ⟨t, ht⟩ : ∃ t, t = ones8 (x / 65536) := ⟨_, rfl⟩
  rw [← hu] at p ⊢
  rw [← hv] at q ⊢
  rw [← ht] at r ⊢
  clear hu hv ht h1 e
  rw [show (u + 256 * (v + 256 * t)) / 256 = v + 256 * t by omega]
  rw [show (u + 256 * (v + 256 * t) + (v + 256 * t)) / 65536 = t by omega]
  rw [show (u + 256 * (v + 256 * t) + (v + 256 * t) + t) / 4294967296 = 0 by omega]
  omega
theorem w64n (n : Nat) (h : n < 18446744073709551616) : IntKind.u64.wrap (n : Int) = (n : Int) := by rw [IntKind.wrap_u64]; omega
theorem and64 (a m : Nat) (ha : a < 18446744073709551616) (hm : m < 18446744073709551616) : bits .and .u64 (a : Int) (m : Int) = ((a &&& m : Nat) : Int) := bits_and_u64_nat a m ha hm
theorem stepF (m x d : Nat) (f : Nat) (hf : f = (x / d &&& m) + (x &&& m)) (hd : 0 < d) (hx : x < 9223372036854775808) (hm : m < 18446744073709551616) :
    IntKind.u64.wrap (bits .and .u64 ((x : Int) / (d : Int)) (m : Int) + bits .and .u64 (x : Int) (m : Int)) = (f : Int) := by
  have h1 : x / d ≤ x := Nat.div_le_self x d
  have h2 : x / d &&& m ≤ x / d := Nat.and_le_left
  have h3 : x &&& m ≤ x := Nat.and_le_left
  rw [show (x : Int) / (d : Int) = ((x / d : Nat) : Int) from rfl, and64 _ _ (by omega) hm, and64 _ _ (by omega) hm]
  rw [show (((x / d &&& m : Nat) : Int) + ((x &&& m : Nat) : Int)) = ((f : Nat) : Int) by omega]
  exact w64n f (by omega)
theorem stepA (z d : Nat) (hd : 0 < d) (hz : z < 9223372036854775808) : IntKind.u64.wrap ((z : Int) + (z : Int) / (d : Int)) = ((z + z / d : Nat) : Int) := by
  have h1 : z / d ≤ z := Nat.div_le_self z d
  rw [show (z : Int) / (d : Int) = ((z / d : Nat) : Int) from rfl, show ((z : Int) + ((z / d : Nat) : Int)) = ((z + z / d : Nat) : Int) by omega]
  exact w64n _ (by omega)
set_option maxHeartbeats 1000000 in
theorem onesCount_is (x : Nat) (hx : x < 16777216) (w : World) :
    Calls Tryd.prog 216 #[.int .u64 (x : Int)] w fun e w' => e = .returned (.int .i64 ((ones24 x : Nat) : Int)) ∧ w = w' := by
  go_enter Tryd.func216, Tryd.ntmps216
  go_wp2
  go_ret
  refine ⟨ret_i _ _ ?_, rfl⟩
  have b1 : swF 6148914691236517205 x ≤ 2 * x := by have h2 : x / 2 &&& 6148914691236517205 ≤ x / 2 := Nat.and_le_left; have h3 : x &&& 6148914691236517205 ≤ x := Nat.and_le_left; unfold swF; omega
  have e1 : IntKind.u64.wrap (bits .and .u64 ((x : Int) / 2) 6148914691236517205 + bits .and .u64 (x : Int) 6148914691236517205) = ((swF 6148914691236517205 x : Nat) : Int) := stepF 6148914691236517205 x 2 (swF 6148914691236517205 x) rfl (by decide) (by omega) (by decide)
  obtain ⟨f, hf⟩ : ∃ f, f = swF 6148914691236517205 x := ⟨_, rfl⟩
  rw [← hf] at b1 e1
  have b2 : swG 3689348814741910323 f ≤ 2 * f := by have h2 : f / 4 &&& 3689348814741910323 ≤ f / 4 := Nat.and_le_left; have h3 : f &&& 3689348814741910323 ≤ f := Nat.and_le_left; unfold swG; omega
  have e2 : IntKind.u64.wrap (bits .and .u64 ((f : Int) / 4) 3689348814741910323 + bits .and .u64 (f : Int) 3689348814741910323) = ((swG 3689348814741910323 f : Nat) : Int) := stepF 3689348814741910323 f 4 (swG 3689348814741910323 f) rfl (by decide) (by omega) (by decide)
  obtain ⟨g, hg⟩ : ∃ g, g = swG 3689348814741910323 f := ⟨_, rfl⟩
  rw [← hg] at b2 e2
  have e3 : bits .and .u64 (IntKind.u64.wrap ((g : Int) / 16 + (g : Int))) 1085102592571150095 = ((swH 1085102592571150095 g : Nat) : Int) := by
    rw [show ((g : Int) / 16 + (g : Int)) = ((g / 16 + g : Nat) : Int) by omega, w64n _ (by omega)]
    exact and64 _ 1085102592571150095 (by omega) (by decide)
  have b3 : swH 1085102592571150095 g ≤ g / 16 + g := Nat.and_le_left
  obtain ⟨z, hz⟩ : ∃ z, z = swH 1085102592571150095 g := ⟨_, rfl⟩
  rw [← hz] at b3 e3
  have e4 : IntKind.u64.wrap ((z : Int) + (z : Int) / 256) = ((z + z / 256 : Nat) : Int) := stepA z 256 (by decide) (by omega)
  obtain ⟨z1, hz1⟩ : ∃ z1, z1 = z + z / 256 := ⟨_, rfl⟩
  rw [← hz1] at e4
  have e5 : IntKind.u64.wrap ((z1 : Int) + (z1 : Int) / 65536) = ((z1 + z1 / 65536 : Nat) : Int) := stepA z1 65536 (by decide) (by omega)
  obtain ⟨z2, hz2⟩ : ∃ z2, z2 = z1 + z1 / 65536 := ⟨_, rfl⟩
  rw [← hz2] at e5
  have e6 : IntKind.u64.wrap ((z2 : Int) + (z2 : Int) / 4294967296) = ((z2 + z2 / 4294967296 : Nat) : Int) := stepA z2 4294967296 (by decide) (by omega)
  have hall : (z2 + z2 / 4294967296) % 128 = ones24 x := by
    rw [← swAll_is x hx]; unfold swAll sw3; rw [← hf, ← hg, ← hz]; dsimp only; rw [← hz1, ← hz2]
  rw [e1, e2, e3, e4, e5, e6]
  obtain ⟨z3, hz3⟩ : ∃ z3, z3 = z2 + z2 / 4294967296 := ⟨_, rfl⟩
  rw [← hz3] at hall ⊢
  have h3 : z3 < 9223372036854775808 := by omega
  rw [show wrap64 (z3 : Int) = (z3 : Int) from w64_nat z3 h3]
  rw [← hall, ← Nat.and_two_pow_sub_one_eq_mod z3 7]
  exact i64_and_nat z3 127 h3 (by decide)
theorem onesB (x y : Nat) (k : Nat) (h : ∀ b, b < 8 → y.testBit b = x.testBit (b + k)) : ones8 y = (((List.range 8).map (· + k)).filter fun b => x.testBit b).length := by
  unfold ones8
  rw [List.filter_map, List.length_map]
  congr 1
  apply List.filter_congr
  intro b hb
  exact h b (List.mem_range.1 hb)
theorem ones24_filter (x : Nat) (hx : x < 16777216) : ones24 x = ((List.range 24).filter fun b => x.testBit b).length := by
  unfold ones24
  rw [show List.range 24 = (List.range 8).map (· + 0) ++ ((List.range 8).map (· + 8) ++ (List.range 8).map (· + 16)) from rfl]
  rw [List.filter_append, List.filter_append, List.length_append, List.length_append]
  rw [onesB x (x % 256) 0, onesB x (x / 256 % 256) 8, onesB x (x / 65536) 16]
  · omega
  · intro b _; rw [show (65536 : Nat) = 2 ^ 16 from rfl, Nat.testBit_div_two_pow]
  · intro b hb; rw [show (256 : Nat) = 2 ^ 8 from rfl, Nat.testBit_mod_two_pow, Nat.testBit_div_two_pow, decide_eq_true hb, Bool.true_and]
  · intro b hb; rw [show (256 : Nat) = 2 ^ 8 from rfl, Nat.testBit_mod_two_pow, decide_eq_true hb, Bool.true_and]; rfl
theorem filter_len_le {α : Type} (p q : α → Bool) (h : ∀ a, p a = true → q a = true) (l : List α) : (l.filter p).length ≤ (l.filter q).length := by
  induction l with
  | nil => exact Nat.le_refl _
  | cons a l ih =>
    rw [List.filter_cons, List.filter_cons]
    by_cases hp : p a = true
    · rw [if_pos hp, if_pos (h a hp)]; simp only [List.length_cons]; omega
    · rw [if_neg hp]
      split
      · simp only [List.length_cons]; omega
      · exact ih
theorem filter_len_lt {α : Type} (p q : α → Bool) (h : ∀ a, p a = true → q a = true) (l : List α) (c : α) (hc : c ∈ l) (h1 : q c = true) (h2 : ¬ p c = true) : (l.filter p).length < (l.filter q).length := by
  induction l with
  | nil => cases hc
  | cons a l ih =>
    rw [List.filter_cons, List.filter_cons]
    rcases List.mem_cons.1 hc with e | hc
    · subst e
      rw [if_neg h2, if_pos h1]
      have := filter_len_le p q h l
      simp only [List.length_cons]; omega
    · have := ih hc
      by_cases hp : p a = true
      · rw [if_pos hp, if_pos (h a hp)]; simp only [List.length_cons]; omega
      · rw [if_neg hp]
        split
        · simp only [List.length_cons]; omega
        · exact this
/-- A part that lacks a member has fewer. -/
theorem ones_lt (x y c : Nat) (hx : x < 16777216) (hy : y < 16777216) (h : ∀ b, x.testBit b = true → y.testBit b = true) (h1 : y.testBit c = true) (h2 : ¬ x.testBit c = true) : ones24 x < ones24 y := by
  rw [ones24_filter x hx, ones24_filter y hy]
  exact filter_len_lt _ _ h _ c (List.mem_range.2 (by
    rcases Nat.lt_or_ge c 24 with h3 | h3
    · exact h3
    · have := Nat.ge_two_pow_of_testBit h1
      have h4 : 2 ^ 24 ≤ 2 ^ c := Nat.pow_le_pow_right (by decide) h3
      omega)) h1 h2
end Go.Proofs.YtcojodkcpemfdaaDoor
