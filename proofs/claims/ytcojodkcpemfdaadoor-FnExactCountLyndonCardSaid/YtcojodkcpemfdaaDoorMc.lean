/-
  Plain mathematics: the number of ones of a set of 24 elements, counted in parallel. The library's sort of a list of sets, and appends that keep what a copy of the slice reads, by contracts. The family of sets that come from the empty one by adding elements, by contracts. The cliques of a relation: the program's way and the model's, by contracts. Plain mathematics of the sets of independent letters: the cliques of the complement are the steps. The alphabet of a dependence, and the alphabet of letters that are all independent: by contracts. ComplementOf: both sides. StepsOf: both sides. The clique polynomial: how it is added up, set after set. Plain mathematics: normal forms counted by their first letters, and by the sets of independent letters. The sets of independent letters, their sizes and signs: by contracts. CliquePolynomial: both sides. The inverse of a list: plain mathematics; the program's way and the model's, by contracts. The inverse of a list: the program's way. The numbers of traces are the inverse of the clique polynomial. The inverse of the clique polynomial counts the normal forms. The number of all traces of a length: the program's way. Slices of slices of numbers: what is owned, and the laws' helpers by contracts. A list of lists as an answer: what a call leaves, what stays when its marks are set. The check of an alphabet, a length and masks ahead of counting; CountTraces: the program's way. One more slice behind an own row of slices. The model's table of tails: plain mathematics. The model's table of tails, by contracts. CountTraces: the model's side.
-/
import Derived.Test.YtcojodkcpemfdaaDoorB1
import Derived.Test.YtcojodkcpemfdaaDoorB2
import Derived.Test.YtcojodkcpemfdaaDoorSortP
import Derived.Sort.OwnSortedInts
import Derived.ArgAppend
import Derived.Conc.MuLone
import Derived.Test.YtcojodkcpemfdaaDoorM1
import Derived.Test.YtcojodkcpemfdaaDoorM3
import Derived.Test.YtcojodkcpemfdaaDoorM2
import Derived.Deep.AppendLies
import Derived.StillTailTactics
import Derived.Maps.AppendAt
namespace Go.Proofs.YtcojodkcpemfdaaDoor
open Go.RowKit
set_option linter.unusedVariables false
set_option maxRecDepth 100000

def swF (m x : Nat) : Nat := (x / 2 &&& m) + (x &&& m)
def swG (m x : Nat) : Nat := (x / 4 &&& m) + (x &&& m)
def swH (m x : Nat) : Nat := (x / 16 + x) &&& m
theorem and_split (a t l h : Nat) (ha : a < 256) (hl : l < 256) : (a + 256 * t) &&& (l + 256 * h) = (a &&& l) + 256 * (t &&& h) := by
  have hal : a &&& l < 256 := Nat.lt_of_le_of_lt Nat.and_le_left ha
  apply Nat.eq_of_testBit_eq
  intro i
  have key : ∀ p q, p < 256 → (p + 256 * q).testBit i = if i < 8 then p.testBit i else q.testBit (i - 8) := by
    intro p q hp
    rw [Nat.add_comm, show (256 : Nat) = 2 ^ 8 from rfl, Nat.testBit_two_pow_mul_add q (show p < 2 ^ 8 from hp)]
  rw [Nat.testBit_and, key a t ha, key l h hl, key _ _ hal]
  by_cases e : i < 8
  · rw [if_pos e, if_pos e, if_pos e, Nat.testBit_and]
  · rw [if_neg e, if_neg e, if_neg e, Nat.testBit_and]
theorem low2 : ∀ a, a < 256 → ∀ u, u < 2 → (a / 2 + 128 * u) &&& 85 = a / 2 &&& 85 := by decide
theorem low4 : ∀ a, a < 256 → ∀ u, u < 4 → (a / 4 + 64 * u) &&& 51 = a / 4 &&& 51 := by decide
theorem swF_split (a t h : Nat) (ha : a < 256) : swF (85 + 256 * h) (a + 256 * t) = swF 85 a + 256 * swF h t := by
  unfold swF
  have e : (a + 256 * t) / 2 = (a / 2 + 128 * (t % 2)) + 256 * (t / 2) := by omega
  rw [e, and_split _ _ _ _ (by omega) (by decide), and_split _ _ _ _ ha (by decide), low2 a ha _ (by omega)]
  omega
theorem swG_split (a t h : Nat) (ha : a < 256) : swG (51 + 256 * h) (a + 256 * t) = swG 51 a + 256 * swG h t := by
  unfold swG
  have e : (a + 256 * t) / 4 = (a / 4 + 64 * (t % 4)) + 256 * (t / 4) := by omega
  rw [e, and_split _ _ _ _ (by omega) (by decide), and_split _ _ _ _ ha (by decide), low4 a ha _ (by omega)]
  omega
theorem swH_split (a t h : Nat) (ha : a % 16 ≤ 4 ∧ a / 16 ≤ 4) (ht : t % 16 ≤ 4) : swH (15 + 256 * h) (a + 256 * t) = swH 15 a + 256 * swH h t := by
  unfold swH
  have e : (a + 256 * t) / 16 + (a + 256 * t) = (a / 16 + a + 16 * (t % 16)) + 256 * (t / 16 + t) := by omega
  rw [e, and_split _ _ _ _ (by omega) (by decide)]
  have h15 : ∀ y, y &&& 15 = y % 16 := fun y => Nat.and_two_pow_sub_one_eq_mod y 4
  rw [h15, h15]
  omega
/-- The ones of a byte. -/
def ones8 (a : Nat) : Nat := ((List.range 8).filter fun b => a.testBit b).length
theorem byte_facts : ∀ a, a < 256 → swF 85 a < 256 ∧ swG 51 (swF 85 a) < 256 ∧ swG 51 (swF 85 a) % 16 ≤ 4 ∧ swG 51 (swF 85 a) / 16 ≤ 4 ∧ swH 15 (swG 51 (swF 85 a)) = ones8 a ∧ ones8 a ≤ 8 := by decide
def sw3 (x : Nat) : Nat := swH 1085102592571150095 (swG 3689348814741910323 (swF 6148914691236517205 x))
theorem sw3_bytes (a b c : Nat) (ha : a < 256) (hb : b < 256) (hc : c < 256) : sw3 (a + 256 * (b + 256 * c)) = ones8 a + 256 * (ones8 b + 256 * ones8 c) := by
  obtain ⟨a1, a2, a3, a4, a5, a6⟩ := byte_facts a ha
  obtain ⟨b1, b2, b3, b4, b5, b6⟩ := byte_facts b hb
  obtain ⟨c1, c2, c3, c4, c5, c6⟩ := byte_facts c hc
  unfold sw3
  have z : ∀ m, swF m 0 = 0 := fun m => by simp [swF]
  have zg : ∀ m, swG m 0 = 0 := fun m => by simp [swG]
  have zh : ∀ m, swH m 0 = 0 := fun m => by simp [swH]
  have f3 : swF 93824992236885 c = swF 85 c := by
    have h1 := swF_split c 0 366503875925 hc
    rw [Nat.mul_zero, Nat.add_zero, z, Nat.mul_zero, Nat.add_zero] at h1; exact h1
  have g3 : swG 56294995342131 (swF 85 c) = swG 51 (swF 85 c) := by
    have h1 := swG_split (swF 85 c) 0 219902325555 c1
    rw [Nat.mul_zero, Nat.add_zero, zg, Nat.mul_zero, Nat.add_zero] at h1; exact h1
  have h3 : swH 16557351571215 (swG 51 (swF 85 c)) = swH 15 (swG 51 (swF 85 c)) := by
    have h1 := swH_split (swG 51 (swF 85 c)) 0 64677154575 ⟨c3, c4⟩ (by decide)
    rw [Nat.mul_zero, Nat.add_zero, zh, Nat.mul_zero, Nat.add_zero] at h1; exact h1
  have f : swF 6148914691236517205 (a + 256 * (b + 256 * c)) = swF 85 a + 256 * (swF 85 b + 256 * swF 85 c) := by
    rw [show (6148914691236517205 : Nat) = 85 + 256 * (85 + 256 * 93824992236885) from rfl, swF_split a _ _ ha, swF_split b _ _ hb, f3]
  have g : swG 3689348814741910323 (swF 85 a + 256 * (swF 85 b + 256 * swF 85 c)) = swG 51 (swF 85 a) + 256 * (swG 51 (swF 85 b) + 256 * swG 51 (swF 85 c)) := by
    rw [show (3689348814741910323 : Nat) = 51 + 256 * (51 + 256 * 56294995342131) from rfl, swG_split _ _ _ a1, swG_split _ _ _ b1, g3]
  rw [f, g, show (1085102592571150095 : Nat) = 15 + 256 * (15 + 256 * 16557351571215) from rfl, swH_split _ _ _ ⟨a3, a4⟩ (by omega), swH_split _ _ _ ⟨b3, b4⟩ (by omega), h3, a5, b5, c5]
/-- The whole count. -/
def swAll (x : Nat) : Nat := let z := sw3 x; let z1 := z + z / 256; let z2 := z1 + z1 / 65536; (z2 + z2 / 4294967296) % 128
def ones24 (x : Nat) : Nat := ones8 (x % 256) + ones8 (x / 256 % 256) + ones8 (x / 65536)
theorem swAll_is (x : Nat) (hx : x < 16777216) : swAll x = ones24 x := by
  have e : x = x % 256 + 256 * (x / 256 % 256 + 256 * (x / 65536)) := by omega
  have h1 := sw3_bytes (x % 256) (x / 256 % 256) (x / 65536) (by omega) (by omega) (by omega)
  rw [← e] at h1
  have p := (byte_facts (x % 256) (by omega)).2.2.2.2.2
  have q := (byte_facts (x / 256 % 256) (by omega)).2.2.2.2.2
  have r := (byte_facts (x / 65536) (by omega)).2.2.2.2.2
  unfold swAll ones24
  rw [h1]
  dsimp only
  obtain ⟨u, hu⟩ : ∃ u, u = ones8 (x % 256) := ⟨_, rfl⟩
  obtain ⟨v, hv⟩ : ∃ v, v = ones8 (x / 256 % 256) := ⟨_, rfl⟩
  obtain ⟨t, ht⟩ : ∃ t, t = ones8 (x / 65536) := ⟨_, rfl⟩
  rw [← hu] at p ⊢
  rw [← hv] at q ⊢
  rw [← ht] at r ⊢
  clear hu hv ht h1 e
  rw [show (u + 256 * (v + 256 * t)) / 256 = v + 256 * t by omega]
  rw [show (u + 256 * (v + 256 * t) + (v + 256 * t)) / 65536 = t by omega]
  rw [show (u + 256 * (v + 256 * t) + (v + 256 * t) + t) / 4294967296 = 0 by omega]
  omega
theorem w64n (n : Nat) (h : n < 18446744073709551616) : IntKind.u64.wrap (n : Int) = (n : Int) := by rw [IntKind.wrap_u64]; omega
theorem and64 (a m : Nat) (ha : a < 18446744073709551616) (hm : m < 18446744073709551616) : bits .and .u64 (a : Int) (m : Int) = ((a &&& m : Nat) : Int) := bits_and_u64_nat a m ha hm
theorem stepF (m x d : Nat) (f : Nat) (hf : f = (x / d &&& m) + (x &&& m)) (hd : 0 < d) (hx : x < 9223372036854775808) (hm : m < 18446744073709551616) :
    IntKind.u64.wrap (bits .and .u64 ((x : Int) / (d : Int)) (m : Int) + bits .and .u64 (x : Int) (m : Int)) = (f : Int) := by
  have h1 : x / d ≤ x := Nat.div_le_self x d
  have h2 : x / d &&& m ≤ x / d := Nat.and_le_left
  have h3 : x &&& m ≤ x := Nat.and_le_left
  rw [show (x : Int) / (d : Int) = ((x / d : Nat) : Int) from rfl, and64 _ _ (by omega) hm, and64 _ _ (by omega) hm]
  rw [show (((x / d &&& m : Nat) : Int) + ((x &&& m : Nat) : Int)) = ((f : Nat) : Int) by omega]
  exact w64n f (by omega)
theorem stepA (z d : Nat) (hd : 0 < d) (hz : z < 9223372036854775808) : IntKind.u64.wrap ((z : Int) + (z : Int) / (d : Int)) = ((z + z / d : Nat) : Int) := by
  have h1 : z / d ≤ z := Nat.div_le_self z d
  rw [show (z : Int) / (d : Int) = ((z / d : Nat) : Int) from rfl, show ((z : Int) + ((z / d : Nat) : Int)) = ((z + z / d : Nat) : Int) by omega]
  exact w64n _ (by omega)
set_option maxHeartbeats 1000000 in
theorem onesCount_is (x : Nat) (hx : x < 16777216) (w : World) :
    Calls Tryd.prog 216 #[.int .u64 (x : Int)] w fun e w' => e = .returned (.int .i64 ((ones24 x : Nat) : Int)) ∧ w = w' := by
  go_enter Tryd.func216, Tryd.ntmps216
  go_wp2
  go_ret
  refine ⟨ret_i _ _ ?_, rfl⟩
  have b1 : swF 6148914691236517205 x ≤ 2 * x := by have h2 : x / 2 &&& 6148914691236517205 ≤ x / 2 := Nat.and_le_left; have h3 : x &&& 6148914691236517205 ≤ x := Nat.and_le_left; unfold swF; omega
  have e1 : IntKind.u64.wrap (bits .and .u64 ((x : Int) / 2) 6148914691236517205 + bits .and .u64 (x : Int) 6148914691236517205) = ((swF 6148914691236517205 x : Nat) : Int) := stepF 6148914691236517205 x 2 (swF 6148914691236517205 x) rfl (by decide) (by omega) (by decide)
  obtain ⟨f, hf⟩ : ∃ f, f = swF 6148914691236517205 x := ⟨_, rfl⟩
  rw [← hf] at b1 e1
  have b2 : swG 3689348814741910323 f ≤ 2 * f := by have h2 : f / 4 &&& 3689348814741910323 ≤ f / 4 := Nat.and_le_left; have h3 : f &&& 3689348814741910323 ≤ f := Nat.and_le_left; unfold swG; omega
  have e2 : IntKind.u64.wrap (bits .and .u64 ((f : Int) / 4) 3689348814741910323 + bits .and .u64 (f : Int) 3689348814741910323) = ((swG 3689348814741910323 f : Nat) : Int) := stepF 3689348814741910323 f 4 (swG 3689348814741910323 f) rfl (by decide) (by omega) (by decide)
  obtain ⟨g, hg⟩ : ∃ g, g = swG 3689348814741910323 f := ⟨_, rfl⟩
  rw [← hg] at b2 e2
  have e3 : bits .and .u64 (IntKind.u64.wrap ((g : Int) / 16 + (g : Int))) 1085102592571150095 = ((swH 1085102592571150095 g : Nat) : Int) := by
    rw [show ((g : Int) / 16 + (g : Int)) = ((g / 16 + g : Nat) : Int) by omega, w64n _ (by omega)]
    exact and64 _ 1085102592571150095 (by omega) (by decide)
  have b3 : swH 1085102592571150095 g ≤ g / 16 + g := Nat.and_le_left
  obtain ⟨z, hz⟩ : ∃ z, z = swH 1085102592571150095 g := ⟨_, rfl⟩
  rw [← hz] at b3 e3
  have e4 : IntKind.u64.wrap ((z : Int) + (z : Int) / 256) = ((z + z / 256 : Nat) : Int) := stepA z 256 (by decide) (by omega)
  obtain ⟨z1, hz1⟩ : ∃ z1, z1 = z + z / 256 := ⟨_, rfl⟩
  rw [← hz1] at e4
  have e5 : IntKind.u64.wrap ((z1 : Int) + (z1 : Int) / 65536) = ((z1 + z1 / 65536 : Nat) : Int) := stepA z1 65536 (by decide) (by omega)
  obtain ⟨z2, hz2⟩ : ∃ z2, z2 = z1 + z1 / 65536 := ⟨_, rfl⟩
  rw [← hz2] at e5
  have e6 : IntKind.u64.wrap ((z2 : Int) + (z2 : Int) / 4294967296) = ((z2 + z2 / 4294967296 : Nat) : Int) := stepA z2 4294967296 (by decide) (by omega)
  have hall : (z2 + z2 / 4294967296) % 128 = ones24 x := by
    rw [← swAll_is x hx]; unfold swAll sw3; rw [← hf, ← hg, ← hz]; dsimp only; rw [← hz1, ← hz2]
  rw [e1, e2, e3, e4, e5, e6]
  obtain ⟨z3, hz3⟩ : ∃ z3, z3 = z2 + z2 / 4294967296 := ⟨_, rfl⟩
  rw [← hz3] at hall ⊢
  have h3 : z3 < 9223372036854775808 := by omega
  rw [show wrap64 (z3 : Int) = (z3 : Int) from w64_nat z3 h3]
  rw [← hall, ← Nat.and_two_pow_sub_one_eq_mod z3 7]
  exact i64_and_nat z3 127 h3 (by decide)
theorem onesB (x y : Nat) (k : Nat) (h : ∀ b, b < 8 → y.testBit b = x.testBit (b + k)) : ones8 y = (((List.range 8).map (· + k)).filter fun b => x.testBit b).length := by
  unfold ones8
  rw [List.filter_map, List.length_map]
  congr 1
  apply List.filter_congr
  intro b hb
  exact h b (List.mem_range.1 hb)
theorem ones24_filter (x : Nat) (hx : x < 16777216) : ones24 x = ((List.range 24).filter fun b => x.testBit b).length := by
  unfold ones24
  rw [show List.range 24 = (List.range 8).map (· + 0) ++ ((List.range 8).map (· + 8) ++ (List.range 8).map (· + 16)) from rfl]
  rw [List.filter_append, List.filter_append, List.length_append, List.length_append]
  rw [onesB x (x % 256) 0, onesB x (x / 256 % 256) 8, onesB x (x / 65536) 16]
  · omega
  · intro b _; rw [show (65536 : Nat) = 2 ^ 16 from rfl, Nat.testBit_div_two_pow]
  · intro b hb; rw [show (256 : Nat) = 2 ^ 8 from rfl, Nat.testBit_mod_two_pow, Nat.testBit_div_two_pow, decide_eq_true hb, Bool.true_and]
  · intro b hb; rw [show (256 : Nat) = 2 ^ 8 from rfl, Nat.testBit_mod_two_pow, decide_eq_true hb, Bool.true_and]; rfl
theorem filter_len_le {α : Type} (p q : α → Bool) (h : ∀ a, p a = true → q a = true) (l : List α) : (l.filter p).length ≤ (l.filter q).length := by
  induction l with
  | nil => exact Nat.le_refl _
  | cons a l ih =>
    rw [List.filter_cons, List.filter_cons]
    by_cases hp : p a = true
    · rw [if_pos hp, if_pos (h a hp)]; simp only [List.length_cons]; omega
    · rw [if_neg hp]
      split
      · simp only [List.length_cons]; omega
      · exact ih
theorem filter_len_lt {α : Type} (p q : α → Bool) (h : ∀ a, p a = true → q a = true) (l : List α) (c : α) (hc : c ∈ l) (h1 : q c = true) (h2 : ¬ p c = true) : (l.filter p).length < (l.filter q).length := by
  induction l with
  | nil => cases hc
  | cons a l ih =>
    rw [List.filter_cons, List.filter_cons]
    rcases List.mem_cons.1 hc with e | hc
    · subst e
      rw [if_neg h2, if_pos h1]
      have := filter_len_le p q h l
      simp only [List.length_cons]; omega
    · have := ih hc
      by_cases hp : p a = true
      · rw [if_pos hp, if_pos (h a hp)]; simp only [List.length_cons]; omega
      · rw [if_neg hp]
        split
        · simp only [List.length_cons]; omega
        · exact this
/-- A part that lacks a member has fewer. -/
theorem ones_lt (x y c : Nat) (hx : x < 16777216) (hy : y < 16777216) (h : ∀ b, x.testBit b = true → y.testBit b = true) (h1 : y.testBit c = true) (h2 : ¬ x.testBit c = true) : ones24 x < ones24 y := by
  rw [ones24_filter x hx, ones24_filter y hy]
  exact filter_len_lt _ _ h _ c (List.mem_range.2 (by
    rcases Nat.lt_or_ge c 24 with h3 | h3
    · exact h3
    · have := Nat.ge_two_pow_of_testBit h1
      have h4 : 2 ^ 24 ≤ 2 ^ c := Nat.pow_le_pow_right (by decide) h3
      omega)) h1 h2
end Go.Proofs.YtcojodkcpemfdaaDoor
namespace Go.Proofs.YtcojodkcpemfdaaDoor
open Go.RowKit Go.Sort Go.Shelf
set_option linter.unusedVariables false
set_option maxRecDepth 100000

/-- In ascending order. -/
def Asc (ys : List Nat) : Prop := ys.Pairwise (· < ·)
theorem asc_merge (ys : List Nat) (h : Asc ys) : ((ints ys).mergeSort fun x y => decide (x ≤ y)) = ints ys := by
  apply List.mergeSort_of_pairwise
  unfold ints
  rw [List.pairwise_map]
  exact List.Pairwise.imp (fun {a b} hab => by simp; omega) h
theorem sort_any (E B : Nat) (A : Option Addr) (n c : Nat) (ys : List Nat) (w : World) (h : Own E w B A n c (ints ys)) (hn : 0 < n) (hn2 : n ≤ 1048576) (ha : Asc ys) :
    Calls Tryd.prog 226 #[.slice A n c] w fun e w' => e = .returned (.tuple #[]) ∧ Own E w' B A n c (ints ys) ∧ w.grownBy w' (A.map (·.block)) := by
  rcases h.2 with ⟨_, h0⟩ | ⟨g, cap, cur, hv, hbg, hheap, hnc, hcm, hcs, htake⟩
  · omega
  · injection hv with hA hn3 hc3
    subst hA hc3
    have hlen : (ints ys).length = n := h.len
    have hH : Holds (Value.int .i64) w g 0 (ints ys).toArray := Go.holds_of_blockI hheap (by rw [hlen]; rw [Nat.mul_one] at htake; exact htake)
    have hlt : g < w.heap.size := (h.lt g rfl).2
    have hc := AnyG.slices_Sort_int Tryd.sortSet g 0 c (ints ys) w hH hlt (by omega)
    rw [hlen, asc_merge ys ha] at hc
    refine hc.mono fun e w' ⟨he, m, os, hw⟩ => ⟨he, ?_, ?_⟩
    · subst hw
      have ho := Go.ownsRow_sortedI (w := w) (base := B) (g := g) (cap := c) (n := m) (os := os) (ss := ints ys) (ts := ints ys) rfl hbg hheap (by rw [hlen]; exact hnc) hcm hcs
      rw [hlen] at ho
      exact ho
    · subst hw
      exact Go.grownBy_sortedI _
end Go.Proofs.YtcojodkcpemfdaaDoor
namespace Go.Proofs.YtcojodkcpemfdaaDoor
open Go.RowKit
set_option linter.unusedVariables false
set_option maxRecDepth 100000

/-! ### plain -/
def famStep (p : Nat → Bool) (bit : Nat) (fs : List Nat) : List Nat := fs ++ (fs.filter p).map fun s => s ||| bit
def famM (fit : Nat → Nat → Bool) (ks : List Nat) : List Nat := ks.foldl (fun fs k => famStep (fun s => fit s k) (2 ^ k) fs) [0]
theorem famM_snoc (fit : Nat → Nat → Bool) (ks : List Nat) (k : Nat) : famM fit (ks ++ [k]) = famStep (fun s => fit s k) (2 ^ k) (famM fit ks) := by unfold famM; rw [List.foldl_append]; rfl
theorem famStep_len (p : Nat → Bool) (bit : Nat) (fs : List Nat) : fs.length ≤ (famStep p bit fs).length := by unfold famStep; rw [List.length_append]; omega
theorem foldl_len (fit : Nat → Nat → Bool) (ks fs : List Nat) : fs.length ≤ (ks.foldl (fun fs k => famStep (fun s => fit s k) (2 ^ k) fs) fs).length := by
  induction ks generalizing fs with
  | nil => exact Nat.le_refl _
  | cons k ks ih => rw [List.foldl_cons]; exact Nat.le_trans (famStep_len _ _ _) (ih _)
/-- What has come after t of the sets in one step. -/
def famPart (p : Nat → Bool) (bit : Nat) (fs : List Nat) (t : Nat) : List Nat := fs ++ ((fs.take t).filter p).map fun s => s ||| bit
theorem famPart_zero (p : Nat → Bool) (bit : Nat) (fs : List Nat) : famPart p bit fs 0 = fs := by simp [famPart]
theorem famPart_full (p : Nat → Bool) (bit : Nat) (fs : List Nat) : famPart p bit fs fs.length = famStep p bit fs := by simp [famPart, famStep]
theorem famPart_yes (p : Nat → Bool) (bit : Nat) (fs : List Nat) (t s : Nat) (hs : fs[t]? = some s) (h : p s = true) : famPart p bit fs (t + 1) = famPart p bit fs t ++ [s ||| bit] := by
  unfold famPart
  rw [List.take_add_one, hs, List.filter_append, List.map_append]
  simp [h]
theorem famPart_no (p : Nat → Bool) (bit : Nat) (fs : List Nat) (t s : Nat) (hs : fs[t]? = some s) (h : p s = false) : famPart p bit fs (t + 1) = famPart p bit fs t := by
  unfold famPart
  rw [List.take_add_one, hs, List.filter_append, List.map_append]
  simp [h]
theorem famPart_le (p : Nat → Bool) (bit : Nat) (fs : List Nat) (t : Nat) : (famPart p bit fs t).length ≤ (famStep p bit fs).length := by
  unfold famPart famStep
  rw [List.length_append, List.length_append, List.length_map, List.length_map]
  have h1 : ((fs.take t).filter p).length ≤ (fs.filter p).length := ((List.take_sublist t fs).filter p).length_le
  omega
theorem famPart_take (p : Nat → Bool) (bit : Nat) (fs : List Nat) (t : Nat) : (famPart p bit fs t).take fs.length = fs := by unfold famPart; simp
theorem famPart_lt (p : Nat → Bool) (bit m : Nat) (fs : List Nat) (t : Nat) (hb : bit < 2 ^ m) (h : ∀ s, s ∈ fs → s < 2 ^ m) : ∀ s, s ∈ famPart p bit fs t → s < 2 ^ m := by
  intro s hs
  unfold famPart at hs
  rcases List.mem_append.1 hs with hs | hs
  · exact h s hs
  · obtain ⟨q, hq, rfl⟩ := List.mem_map.1 hs
    exact Nat.or_lt_two_pow (h q (List.mem_of_mem_take (List.mem_filter.1 hq).1)) hb
theorem famM_lt (fit : Nat → Nat → Bool) (ks : List Nat) (m : Nat) (hk : ∀ k, k ∈ ks → k < m) : ∀ s, s ∈ famM fit ks → s < 2 ^ m := by
  have key : ∀ (ks fs : List Nat), (∀ k, k ∈ ks → k < m) → (∀ s, s ∈ fs → s < 2 ^ m) → ∀ s, s ∈ ks.foldl (fun fs k => famStep (fun s => fit s k) (2 ^ k) fs) fs → s < 2 ^ m := by
    intro ks
    induction ks with
    | nil => intro fs _ h; exact h
    | cons k ks ih =>
      intro fs hk h
      rw [List.foldl_cons]
      refine ih _ (fun q hq => hk q (List.mem_cons_of_mem _ hq)) ?_
      rw [← famPart_full]
      exact famPart_lt _ _ m fs _ (Nat.pow_lt_pow_right (by decide) (hk k List.mem_cons_self)) h
  exact key ks [0] hk (fun s hs => by rw [List.mem_singleton.1 hs]; exact p2_pos m)
theorem famM_pos (fit : Nat → Nat → Bool) (ks : List Nat) : 1 ≤ (famM fit ks).length := foldl_len fit ks [0]
/-- A set behind the first ones stays where it is. -/
theorem Rd.prefix_ {w : World} {A : Option Addr} {n m : Nat} {xs : List Int} (h : Rd w A n xs) (hm : m ≤ n) : Rd w A m (xs.take m) := by
  refine ⟨by rw [List.length_take]; have := h.1; omega, fun h0 => ?_⟩
  obtain ⟨b, off, e, hb, hc⟩ := h.2 (by omega)
  refine ⟨b, off, e, hb, fun j x hx => ?_⟩
  have hj : j < m := by
    rcases Nat.lt_or_ge j m with h1 | h1
    · exact h1
    · rw [List.getElem?_eq_none (by rw [List.length_take]; omega)] at hx; cases hx
  rw [List.getElem?_take_of_lt hj] at hx
  exact hc j x hx
theorem Rd.far {w w' : World} {A : Option Addr} {n : Nat} {xs : List Int} (h : Rd w A n xs) {row : Option Nat} (hg : w.grownBy w' row) (hne : ∀ b off, A = some ⟨b, off, none⟩ → row ≠ some b) : Rd w' A n xs := by
  refine ⟨h.1, fun hn => ?_⟩
  obtain ⟨b, off, e, hb, hc⟩ := h.2 hn
  refine ⟨b, off, e, by have := hg.size; omega, fun j x hx => ?_⟩
  rw [World.cell?_of_block (w := w) (hg.block b hb (fun e2 => hne b off e e2.symm))]
  exact hc j x hx

theorem famM_take_le (fit : Nat → Nat → Bool) (ks : List Nat) (i : Nat) : (famM fit (ks.take i)).length ≤ (famM fit ks).length := by
  conv => rhs; rw [← List.take_append_drop i ks]
  unfold famM
  rw [List.foldl_append]
  exact foldl_len fit _ _
theorem nats_at (ls : List Nat) (k : Nat) (x : Int) (hl : k < ls.length) (hx : (ints ls)[k]? = some x) : ∃ X : Nat, ls[k]? = some X ∧ x = (X : Int) := by
  refine ⟨ls[k], List.getElem?_eq_getElem hl, ?_⟩
  rw [ints_at (List.getElem?_eq_getElem hl)] at hx
  exact (Option.some.inj hx).symm
/-- What familyOf leaves. -/
def FamPost (w : World) (fs : List Nat) (e : Ending) (w' : World) : Prop :=
  (fs.length ≤ 4096 ∧ ∃ A c, e = .returned (.tuple #[.slice A fs.length c, .bool true]) ∧ Own 84 w' w.heap.size A fs.length c (ints fs) ∧ Below w.heap.size w w') ∨
  (4096 < fs.length ∧ e = .returned (.tuple #[.slice none 0 0, .bool false]) ∧ Below w.heap.size w w')
set_option maxHeartbeats 3200000 in
theorem familyOf_any (fit : Nat → Nat → Bool) (f : FuncId) (lb : Array Value) (A : Option Addr) (n c : Nat) (ks : List Nat) (w : World) (h : Rd w A n (ints ks)) (hn : n ≤ 24) (hk : ∀ k, k ∈ ks → k < 24) (hasc : Asc (famM fit ks))
    (eg : ∀ args w, (callFunc f args).run Tryd.prog w = .ok (.enter f args) w)
    (hfit : ∀ (s k : Nat) (wx : World), s < 16777216 → k ∈ ks → Below w.heap.size w wx → Calls Tryd.prog f (#[.int .i64 (s : Int), .int .i64 (k : Int)] ++ lb) wx fun e w' => e = .returned (.bool (fit s k)) ∧ wx = w') :
    Calls Tryd.prog 223 #[.slice A n c, .func (.func f) #[] lb] w (FamPost w (famM fit ks)) := by
  have hlen : ks.length = n := by have := h.1; rw [ints_len] at this; exact this
  have HL := Lib.hid hlen
  have HASC := Lib.hid hasc
  have HFIT := Lib.hid hfit
  have HK := Lib.hid hk
  clear hlen hasc hfit hk
  obtain ⟨i0, hi, hz0, hz1, hz2⟩ := info_parts info_set
  go_enter Tryd.func223, Tryd.ntmps223
  go_wp2
  go_loopw [6, 14] (fun v q wr => ∃ (i : Nat) (A5 : Option Addr) (c5 : Nat), i ≤ n ∧ q = .int .i64 i ∧ v = .slice A5 (famM fit (ks.take i)).length c5 ∧ Own 84 wr w.heap.size A5 (famM fit (ks.take i)).length c5 (ints (famM fit (ks.take i))) ∧ Below w.heap.size w wr ∧ (famM fit (ks.take i)).length ≤ 4096) (fun _ q _ => n - (intOf q).toNat)
  case atStart => exact ⟨0, _, 1, Nat.zero_le _, rfl, rfl, World.ownsRow_lit w #[.int .i64 0] 1 (Nat.le_refl _) (by unfold maxLen; omega) rfl, (Below.refl _ _).alloc (Nat.le_refl _) _, by show 1 ≤ 4096; omega⟩
  case round =>
    obtain ⟨i, A5, c5, hi5, rfl, rfl, ho, hb, hle⟩ := hrel
    by_cases hlt : i < n
    · obtain ⟨b, off, x, rfl, hbs, hx, hcx⟩ := (h.below hb).at_ hlt
      obtain ⟨k, hkk, rfl⟩ := nats_at ks i x (by have := HL.out; omega) hx
      have hkm := List.mem_of_getElem? hkk
      have hk24 := HK.out k hkm
      have hnext : famM fit (ks.take (i + 1)) = famStep (fun s => fit s k) (2 ^ k) (famM fit (ks.take i)) := by
        rw [List.take_add_one, hkk]; exact famM_snoc fit _ k
      have hfl := famM_lt fit (ks.take i) 24 (fun q hq => HK.out q (List.mem_of_mem_take hq))
      have htl := famM_take_le fit ks (i + 1)
      have hpos := famM_pos fit (ks.take i)
      obtain ⟨fs, hfs⟩ : ∃ fs, fs = famM fit (ks.take i) := ⟨_, rfl⟩
      rw [← hfs] at ho hle hnext hfl hpos ⊢
      obtain ⟨L, hL⟩ : ∃ L, L = fs.length := ⟨_, rfl⟩
      rw [← hL] at ho hle hpos ⊢
      obtain ⟨gs, rfl, hgB, hglt⟩ := ho.form (by omega)
      have HNX := Lib.hid hnext
      have HTL := Lib.hid htl
      have HLL := Lib.hid hL
      have HKM := Lib.hid hkm
      have HFL := Lib.hid hfl
      have HFS := Lib.hid hfs
      have hrd0 := ho.rd
      have ho0 : Own 84 wr w.heap.size (some ⟨gs, 0, none⟩) (famPart (fun s => fit s k) (2 ^ k) fs 0).length c5 (ints (famPart (fun s => fit s k) (2 ^ k) fs 0)) := by
        rw [famPart_zero, ← hL]; exact ho
      have hstart : Value.slice (some ⟨gs, 0, none⟩) L c5 = .slice (some ⟨gs, 0, none⟩) (famPart (fun s => fit s k) (2 ^ k) fs 0).length c5 := by rw [famPart_zero, ← hL]
      have hle0 : (famPart (fun s => fit s k) (2 ^ k) fs 0).length ≤ 4096 := by rw [famPart_zero, ← hL]; exact hle
      have HST := Lib.hid hstart
      clear hx hkk hkm hnext hfl htl hfs hL hstart ho
      obtain ⟨wo, rfl⟩ : ∃ wo : World, wo = wr := ⟨_, rfl⟩
      go_wp2
      go_loopw [6, 20] (fun v q wr => ∃ (t : Nat) (A6 : Option Addr) (c6 : Nat), t ≤ L ∧ q = .int .i64 t ∧ v = .slice A6 (famPart (fun s => fit s k) (2 ^ k) fs t).length c6 ∧ Own 84 wr w.heap.size A6 (famPart (fun s => fit s k) (2 ^ k) fs t).length c6 (ints (famPart (fun s => fit s k) (2 ^ k) fs t)) ∧ Rd wr (some ⟨gs, 0, none⟩) L (ints fs) ∧ gs < wr.heap.size ∧ Below w.heap.size w wr ∧ (famPart (fun s => fit s k) (2 ^ k) fs t).length ≤ 4096) (fun _ q _ => L - (intOf q).toNat)
      case atStart => exact ⟨0, _, c5, Nat.zero_le _, rfl, HST.out, ho0, hrd0, hglt, hb, hle0⟩
      case round =>
        clear ho0 hrd0 hglt hb hle0
        obtain ⟨t, A6, c6, ht, rfl, rfl, ho, hrd, hgs, hb, hle6⟩ := hrel
        by_cases hlt2 : t < L
        · obtain ⟨b2, off2, x2, hadr, hbs2, hx2, hcx2⟩ := hrd.at_ hlt2
          injection hadr with hadr
          injection hadr with hadr1 hadr2
          subst hadr1 hadr2
          obtain ⟨s, hss, rfl⟩ := nats_at fs t x2 (by have := HLL.out; omega) hx2
          have hs24 := HFL.out s (List.mem_of_getElem? hss)
          have hs24' : s < 16777216 := by omega
          have hcx3 : wr.cell? ⟨gs, t, none⟩ = some (.int .i64 (s : Int)) := by rw [Nat.zero_add] at hcx2; exact hcx2
          have HC := Lib.hid (HFIT.out s k wr hs24' HKM.out hb)
          cases hfk : fit s k
          · have hno := famPart_no (fun s => fit s k) (2 ^ k) fs t s hss hfk
            have HNO := Lib.hid hno
            have HF := Lib.hid hfk
            clear hno hfk hx2 hss hcx2
            go_wp2_with fail
            refine HC.out.mono ?_
            rintro e w' ⟨rfl, rfl⟩
            rw [HF.out]
            go_wp2_with fail
            go_roundw
            case rel => exact ⟨t + 1, A6, c6, by omega, by go_num, by rw [HNO.out], by rw [HNO.out]; exact ho, hrd, hgs, hb, by rw [HNO.out]; exact hle6⟩
            case measure => simp [intOf]; omega
          · have hyes := famPart_yes (fun s => fit s k) (2 ^ k) fs t s hss hfk
            have hpl := famPart_le (fun s => fit s k) (2 ^ k) fs (t + 1)
            have hpt := famPart_take (fun s => fit s k) (2 ^ k) fs (t + 1)
            have hpt0 := famPart_take (fun s => fit s k) (2 ^ k) fs t
            have HYES := Lib.hid hyes
            have HF := Lib.hid hfk
            have HPL := Lib.hid hpl
            have HPT := Lib.hid hpt
            have hpl0 : fs.length ≤ (famPart (fun s => fit s k) (2 ^ k) fs t).length := by
              have h3 := congrArg List.length hpt0
              rw [List.length_take] at h3; omega
            obtain ⟨cur, hcur⟩ : ∃ cur, cur = famPart (fun s => fit s k) (2 ^ k) fs t := ⟨_, rfl⟩
            rw [← hcur] at ho hle6 HYES hpl0 ⊢
            obtain ⟨L6, hL6⟩ : ∃ L6, L6 = cur.length := ⟨_, rfl⟩
            rw [← hL6] at ho hle6 hpl0 ⊢
            have HL6 := Lib.hid hL6
            have hLL6 : L ≤ L6 := by have := HLL.out; omega
            clear hyes hfk hx2 hss hcx2 hpl hpt hpt0 hpl0 hcur hL6
            by_cases hfull : L6 = 4096
            · have hq1 : (((L6 : Nat) : Int) == 4096) = true := by simp; omega
              go_wp2_with fail
              refine HC.out.mono ?_
              rintro e w' ⟨rfl, rfl⟩
              rw [HF.out]
              go_wp2_with fail
              go_ret2
              refine .inr ⟨?_, rfl, hb⟩
              have h1 := HPL.out
              rw [HYES.out, List.length_append, ← HL6.out, ← HNX.out] at h1
              have h2 := HTL.out
              simp at h1
              omega
            · have hq1 : (((L6 : Nat) : Int) == 4096) = false := by simp; omega
              have hs63 : s < 9223372036854775808 := by omega
              have hk62 : k ≤ 62 := by omega
              have hmlx : L6 + 1 ≤ maxLen := by unfold maxLen; omega
              have hby2 : (L6 + 1) * 8 ≤ 140737488355328 := by omega
              have hL6p : 0 < L6 := by omega
              have hLle : L ≤ L6 + 1 := by omega
              obtain ⟨g6, rfl, hg6B, hg6lt⟩ := ho.form hL6p
              have HLN : Hid ((famPart (fun s => fit s k) (2 ^ k) fs (t + 1)).length = L6 + 1) := Lib.hid (by rw [HYES.out, List.length_append, ← HL6.out]; rfl)
              go_wp2_with fail
              refine HC.out.mono ?_
              rintro e w' ⟨rfl, rfl⟩
              rw [HF.out]
              go_wp2_with fail
              refine (with_any s k hs63 hk62 _).mono ?_
              rintro e w' ⟨rfl, rfl⟩
              by_cases hroom : L6 + 1 ≤ c6
              · go_wp2_with (at_builtin; refine wpList_append_fits _ rfl _ _ 72 rfl w.heap.size 84 i0 1 Tryd.underlying72 hi hz1 g6 L6 c6 ((ints cur).map (Value.int .i64)) rfl (World.ownsRow.alloc ho _) ⟨wr.heap.size, 0, none⟩ 1 1 [.int .i64 ((s ||| 2 ^ k : Nat) : Int)] rfl rfl ?s1 ?s2 hroom ?_)
                case s1 => exact cell_one_new _ _ _
                case s2 => intro u hu; simp at hu; subst hu; rfl
                intro w4 hown hg
                rw [ints_snoc_map, ← HYES.out] at hown
                have ho4 : Own 84 w4 w.heap.size (some ⟨g6, 0, none⟩) (L6 + 1) c6 (ints (famPart (fun s => fit s k) (2 ^ k) fs (t + 1))) := hown
                have hb4 : Below w.heap.size w w4 := (hb.alloc hb.size _).grown hg (by have := hb.size; simp; omega) (fun q hq => by injection hq with hq; omega)
                have hrd4 : Rd w4 (some ⟨gs, 0, none⟩) L (ints fs) := by
                  by_cases hgg : gs = g6
                  · subst hgg
                    have h1 := ho4.rd.prefix_ hLle
                    have h2 : (ints (famPart (fun s => fit s k) (2 ^ k) fs (t + 1))).take L = ints fs := by
                      unfold ints; rw [← List.map_take, HLL.out, HPT.out]
                    rw [h2] at h1; exact h1
                  · exact (hrd.keep (w' := wr.alloc _) (by simp) (fun p hp => World.cell?_alloc_lt wr _ p hp)).far hg (fun b off e e2 => by
                      injection e with e; injection e with e3 _ _; injection e2 with e2; omega)
                have hgs4 : gs < w4.heap.size := by have := hg.size; simp at this; omega
                clear hg hown ho hrd hgs hb
                go_wp2
                go_roundw
                case rel => exact ⟨t + 1, _, c6, by omega, by go_num, by rw [HLN.out], by rw [HLN.out]; exact ho4, hrd4, hgs4, hb4, by rw [HLN.out]; omega⟩
                case measure => simp [intOf]; omega
              · have hgrow : c6 < L6 + 1 := by omega
                have holds : ∀ b, some (⟨g6, 0, none⟩ : Addr) = some b → ∀ j u, ((ints cur).map (Value.int .i64))[j]? = some u → (wr.alloc (.cells #[.int .i64 ((s ||| 2 ^ k : Nat) : Int)] 84)).cell? (b.add j) = some u := by
                  intro b hb9 j u hu
                  injection hb9 with hb9
                  subst hb9
                  exact World.ownsRow.cells (World.ownsRow.alloc ho _) (g := g6) rfl j u hu
                have hlo : ((ints cur).map (Value.int .i64)).length = L6 * 1 := by rw [List.length_map, ints_len, ← HL6.out, Nat.mul_one]
                go_wp2_with (at_builtin; refine wpList_append_grows _ rfl _ _ 72 rfl 84 i0 (.int .i64 0) 1 8 Tryd.underlying72 hi hz0 hz1 hz2 rfl (by decide) (some ⟨g6, 0, none⟩) L6 c6 ((ints cur).map (Value.int .i64)) rfl (fun e9 => by cases e9) hlo holds ⟨wr.heap.size, 0, none⟩ 1 1 [.int .i64 ((s ||| 2 ^ k : Nat) : Int)] rfl rfl ?s1 ?s2 hgrow hmlx hby2 ?_)
                case s1 => exact cell_one_new _ _ _
                case s2 => intro u hu; simp at hu; subst hu; rfl
                intro v' w4 hown hg
                rw [ints_snoc_map, ← HYES.out] at hown
                obtain ⟨A7, c7, hv, ho7⟩ := own_shape hown
                have ho4 : Own 84 w4 w.heap.size A7 (L6 + 1) c7 (ints (famPart (fun s => fit s k) (2 ^ k) fs (t + 1))) := ho7.mono (by have := hb.size; simp; omega)
                have hb4 : Below w.heap.size w w4 := (hb.alloc hb.size _).grown hg (by have := hb.size; simp; omega) (fun q hq => by cases hq)
                have hrd4 : Rd w4 (some ⟨gs, 0, none⟩) L (ints fs) := (hrd.keep (w' := wr.alloc _) (by simp) (fun p hp => World.cell?_alloc_lt wr _ p hp)).far hg (fun b off e e2 => by cases e2)
                have hgs4 : gs < w4.heap.size := by have := hg.size; simp at this; omega
                rw [hv]
                clear hg hown hv ho7 ho hrd hgs hb holds hlo
                go_wp2
                go_roundw
                case rel => exact ⟨t + 1, _, c7, by omega, by go_num, by rw [HLN.out], by rw [HLN.out]; exact ho4, hrd4, hgs4, hb4, by rw [HLN.out]; omega⟩
                case measure => simp [intOf]; omega
        · obtain rfl : t = L := by omega
          have hfullp : famPart (fun s => fit s k) (2 ^ k) fs t = famM fit (ks.take (i + 1)) := by rw [HNX.out, HLL.out, famPart_full]
          rw [hfullp] at ho hle6
          have HFP := Lib.hid hfullp
          clear hfullp
          go_wp2
          go_roundw
          case rel => exact ⟨i + 1, A6, c6, by omega, by go_num, by rw [HFP.out], ho, hb, hle6⟩
          case measure => simp [intOf]; omega
    · obtain rfl : i = n := by omega
      have e : ks.take i = ks := List.take_of_length_le (by have := HL.out; omega)
      have hpos := famM_pos fit ks
      rw [e] at ho hle ⊢
      obtain ⟨FS, hFS⟩ : ∃ FS, FS = famM fit ks := ⟨_, rfl⟩
      rw [← hFS] at ho hle hpos HASC ⊢
      obtain ⟨L, hL⟩ : ∃ L, L = FS.length := ⟨_, rfl⟩
      rw [← hL] at ho hle hpos ⊢
      have HFS := Lib.hid hFS
      have HLL := Lib.hid hL
      clear e hFS hL
      go_wp2_with fail
      refine (sort_any _ _ A5 L c5 FS _ ho (by omega) (by omega) HASC.out).mono ?_
      rintro e w2 ⟨rfl, ho2, hg2⟩
      have hb2 := hb.grown hg2 hb.size (fun q hq => (ho.lt q hq).1)
      go_wp2_with fail
      go_ret2
      show FamPost w (famM fit ks) _ _
      rw [← HFS.out]
      exact .inl ⟨by rw [← HLL.out]; exact hle, A5, c5, by rw [← HLL.out]; rfl, by rw [← HLL.out]; exact ho2, hb2⟩
end Go.Proofs.YtcojodkcpemfdaaDoor
namespace Go.Proofs.YtcojodkcpemfdaaDoor
open Go.RowKit
set_option linter.unusedVariables false
set_option maxRecDepth 100000

theorem bitsOf_full (n : Nat) (hn : n ≤ 24) : bitsOf (2 ^ n - 1) = List.range n := by
  unfold bitsOf
  rw [upTo_skip (2 ^ n - 1) n 24 hn (fun b h1 _ => by rw [Nat.testBit_two_pow_sub_one]; simp; omega)]
  unfold upTo
  rw [List.filter_eq_self]
  intro b hb
  rw [Nat.testBit_two_pow_sub_one]
  simpa using hb
theorem or_top (s m : Nat) (h : s < 2 ^ m) : s ||| 2 ^ m = s + 2 ^ m := by
  rw [Nat.or_comm, nat_join m (2 ^ m) s (Nat.mod_self _) h, Nat.add_comm]
theorem famM_asc (fit : Nat → Nat → Bool) (m : Nat) : Asc (famM fit (List.range m)) := by
  induction m with
  | zero => exact List.pairwise_singleton _ _
  | succ m ih =>
    have hl := famM_lt fit (List.range m) m (fun k hk => List.mem_range.1 hk)
    rw [List.range_succ, famM_snoc]
    unfold famStep Asc
    rw [List.pairwise_append]
    refine ⟨ih, ?_, ?_⟩
    · rw [List.pairwise_map]
      refine List.Pairwise.imp_of_mem ?_ (List.Pairwise.filter (fun s => fit s m) ih)
      intro a b ha hb hab
      have h1 := hl a (List.mem_filter.1 ha).1
      have h2 := hl b (List.mem_filter.1 hb).1
      rw [or_top a m h1, or_top b m h2]; omega
    · intro a ha b hb
      obtain ⟨q, hq, rfl⟩ := List.mem_map.1 hb
      have h1 := hl a ha
      have h2 := hl q (List.mem_filter.1 hq).1
      rw [or_top q m h2]; omega
def fitC (us : List Nat) (s k : Nat) : Bool := dif s (us.getD k 0) == 0
/-- All cliques, in ascending order. -/
def cliqM (rs : List Nat) : List Nat := famM (fitC (mutM rs)) (List.range rs.length)

theorem within_any (a b : Nat) (ha : a < 9223372036854775808) (hb : b < 9223372036854775808) (w : World) :
    Calls Tryd.prog 174 #[.int .i64 (a : Int), .int .i64 (b : Int)] w fun e w' => e = .returned (.bool (dif a b == 0)) ∧ w = w' := by
  have h := isWithin_int (a : Int) (b : Int) w
  rw [i64_andNot_nat a b ha hb] at h
  have e : (((dif a b : Nat) : Int) == 0) = (dif a b == 0) := by
    rw [Bool.eq_iff_iff]; simp only [beq_iff_eq]; omega
  rw [e] at h
  exact h
theorem fitC_any (s k n cm gb : Nat) (Am : Option Addr) (us : List Nat) (w : World) (hs : s < 16777216) (hk : k < n) (hn : n ≤ 24) (hu : ∀ i, us.getD i 0 < 2 ^ n) (hul : us.length = n) (hc : w.cell? ⟨gb, 0, none⟩ = some (.slice Am n cm)) (hrd : Rd w Am n (ints us)) :
    Calls Tryd.prog 224 #[.int .i64 (s : Int), .int .i64 (k : Int), .pointer (some ⟨gb, 0, none⟩)] w fun e w' => e = .returned (.bool (fitC us s k)) ∧ w = w' := by
  obtain ⟨b, off, x, rfl, hbs, hx, hcx⟩ := hrd.at_ hk
  have hx2 := ints_getD us k (by omega)
  rw [hx2] at hx
  injection hx with hx
  subst hx
  have hs63 : s < 9223372036854775808 := by omega
  have hm := lt63 hn (hu k)
  have e0 : fitC us s k = (dif s (us.getD k 0) == 0) := rfl
  obtain ⟨D, hD⟩ : ∃ D, D = us.getD k 0 := ⟨_, rfl⟩
  rw [← hD] at hcx hm e0
  have HE := Lib.hid e0
  clear hD hx2 hul e0 hrd hu
  go_enter Tryd.func224, Tryd.ntmps224
  go_wp2_with (go_at_call 174; refine (within_any s D hs63 hm _).mono ?_; rintro e w' ⟨rfl, rfl⟩)
  go_ret
  exact ⟨ret_b _ _ HE.out.symm, rfl⟩
set_option maxHeartbeats 1600000 in
theorem cliques_any (A : Option Addr) (n c : Nat) (rs : List Nat) (w : World) (h : Rd w A n (ints rs)) (hn : n ≤ 24) (hr : ∀ i, rs.getD i 0 < 2 ^ n) (hT : Tab w) :
    Calls Tryd.prog 215 #[.slice A n c] w (FamPost w (cliqM rs)) := by
  have hlen : rs.length = n := by have := h.1; rw [ints_len] at this; exact this
  have hmu := mutM_lt rs n hlen hr
  have HML : Hid ((mutM rs).length = n) := Lib.hid (by rw [mutM_len, hlen])
  have HCM : Hid (cliqM rs = famM (fitC (mutM rs)) (List.range n)) := Lib.hid (by unfold cliqM; rw [hlen])
  clear hlen
  have hn62 : n ≤ 62 := by omega
  have hfull : 2 ^ n - 1 < 16777216 := by have := p24 n hn; have := p2_pos n; omega
  have eg : ∀ args w, (callFunc 224 args).run Tryd.prog w = .ok (.enter 224 args) w := fun args w => Go.MuLone.run_callFunc_enter (P := Tryd.prog) Tryd.func224 (by kernel_rfl) rfl args w
  go_enter Tryd.func215, Tryd.ntmps215
  go_wp2_with fail
  refine (mutual_any A n c rs _ h hn hr hT).mono ?_
  rintro e w1 ⟨A1, c1, rfl, ho1, hb1⟩
  go_wp2_with fail
  refine (firstNumbers_any n hn62 _).mono ?_
  rintro e w' ⟨rfl, rfl⟩
  go_wp2_with fail
  refine (members_any (2 ^ n - 1) hfull _ ?_).mono ?_
  · exact hT.below ((hb1.alloc hb1.size _))
  rintro e w2 ⟨A2, c2, rfl, ho2, hb2⟩
  have hb02 : Below w.heap.size w w2 := (hb1.alloc hb1.size _).trans (hb2.mono (by have := hb1.size; simp; omega))
  rw [bitsOf_full n hn] at ho2 ⊢
  have ho2' : Own 2 w2 (w1.alloc (.cells #[.slice A1 n c1] 73)).heap.size A2 n c2 (ints (List.range n)) := by
    have h9 := ho2; rw [List.length_range] at h9; exact h9
  rw [List.length_range]
  have hbox : w2.cell? ⟨w1.heap.size, 0, none⟩ = some (.slice A1 n c1) := by
    rw [hb2.cell (p := ⟨w1.heap.size, 0, none⟩) (by simp)]
    exact (cell_one_new w1 (.slice A1 n c1) _) 0 _ rfl
  have hrd2 : Rd w2 A1 n (ints (mutM rs)) := by
    refine ho1.rd.below ?_
    exact ((Below.refl _ _).alloc (Nat.le_refl _) _).trans (hb2.mono (by simp))
  have HBX := Lib.hid hbox
  have hboxlt : w1.heap.size < w2.heap.size := block_lt_of_cell hbox
  clear ho2 hbox
  go_wp2_with fail
  refine (familyOf_any (fitC (mutM rs)) 224 #[.pointer (some ⟨w1.heap.size, 0, none⟩)] A2 n c2 (List.range n) _ ho2'.rd hn (fun k hk => by have := List.mem_range.1 hk; omega) (famM_asc _ n) eg (fun s k wx hs hk hbx => fitC_any s k n c1 w1.heap.size A1 (mutM rs) wx hs (List.mem_range.1 hk) hn hmu HML.out ((hbx.cell (p := ⟨w1.heap.size, 0, none⟩) hboxlt).trans HBX.out) (hrd2.below hbx))).mono ?_
  rintro e w3 hp
  rcases hp with ⟨hle, A3, c3, rfl, ho3, hb3⟩ | ⟨hgt, rfl, hb3⟩
  · have hb03 := hb02.trans (hb3.mono hb02.size)
    have ho3' := ho3.mono hb02.size
    have hle2 := Lib.hid hle
    clear eg hle ho3
    go_wp2_with fail
    go_ret2
    show FamPost w (cliqM rs) _ _
    rw [HCM.out]
    exact .inl ⟨hle2.out, A3, c3, rfl, ho3', hb03⟩
  · have hb03 := hb02.trans (hb3.mono hb02.size)
    have hgt2 := Lib.hid hgt
    clear eg hgt
    go_wp2_with fail
    go_ret2
    show FamPost w (cliqM rs) _ _
    rw [HCM.out]
    exact .inr ⟨hgt2.out, rfl, hb03⟩

/-- A family as an answer: the list, or ErrLimit. -/
def famAns (fs : List Nat) : List Int × Int := if fs.length ≤ 4096 then (ints fs, 0) else ([], 3)
theorem famAns_small (fs : List Nat) : (famAns fs).1.length ≤ 4096 := by
  unfold famAns
  split
  · show (ints fs).length ≤ 4096; rw [ints_len]; assumption
  · exact Nat.zero_le _
def cliqAns (xs : List Int) : List Int × Int := if relB xs = true then famAns (cliqM (xs.map Int.toNat)) else ([], 1)
theorem cliqAns_small (xs : List Int) : (cliqAns xs).1.length ≤ 4096 := by
  unfold cliqAns
  split
  · exact famAns_small _
  · exact Nat.zero_le _
theorem AnsPost.from_ {w w1 w' : World} {ys : List Int} {code : Int} {e : Ending} (h : AnsPost w1 ys code e w') (hb : Below w.heap.size w w1) : AnsPost w ys code e w' := by
  obtain ⟨A, c, he, ho, hb2⟩ := h
  exact ⟨A, c, he, ho.mono hb.size, hb.trans (hb2.mono hb.size)⟩
end Go.Proofs.YtcojodkcpemfdaaDoor
namespace Go.Proofs.YtcojodkcpemfdaaDoor
open Go.RowKit
set_option linter.unusedVariables false
set_option maxRecDepth 100000

theorem asc_ext : ∀ (xs ys : List Nat), Asc xs → Asc ys → (∀ m, m ∈ xs ↔ m ∈ ys) → xs = ys := by
  intro xs
  induction xs with
  | nil =>
    intro ys _ _ h
    cases ys with
    | nil => rfl
    | cons y ys => exact absurd ((h y).2 (List.mem_cons_self ..)) (List.not_mem_nil)
  | cons x xs ih =>
    intro ys hx hy h
    cases ys with
    | nil => exact absurd ((h x).1 (List.mem_cons_self ..)) (List.not_mem_nil)
    | cons y ys =>
      obtain ⟨hx1, hx2⟩ := List.pairwise_cons.1 hx
      obtain ⟨hy1, hy2⟩ := List.pairwise_cons.1 hy
      have e : x = y := by
        rcases List.mem_cons.1 ((h x).1 (List.mem_cons_self ..)) with h1 | h1
        · exact h1
        · rcases List.mem_cons.1 ((h y).2 (List.mem_cons_self ..)) with h2 | h2
          · exact h2.symm
          · have := hx1 y h2; have := hy1 x h1; omega
      subst e
      rw [ih ys hx2 hy2 fun m => ?_]
      constructor
      · intro hm
        rcases List.mem_cons.1 ((h m).1 (List.mem_cons_of_mem _ hm)) with h1 | h1
        · subst h1; exact absurd (hx1 m hm) (by omega)
        · exact h1
      · intro hm
        rcases List.mem_cons.1 ((h m).2 (List.mem_cons_of_mem _ hm)) with h1 | h1
        · subst h1; exact absurd (hy1 m hm) (by omega)
        · exact h1
theorem range_asc (n : Nat) : Asc (List.range n) := List.pairwise_lt_range
theorem filter_asc (p : Nat → Bool) (xs : List Nat) (h : Asc xs) : Asc (xs.filter p) := List.Pairwise.filter p h
theorem famM_mem (fit : Nat → Nat → Bool) (n m : Nat) : m ∈ famM fit (List.range n) ↔ m < 2 ^ n ∧ ∀ k, k < n → m.testBit k = true → fit (m % 2 ^ k) k = true := by
  induction n generalizing m with
  | zero =>
    have e : famM fit (List.range 0) = [0] := rfl
    rw [e, List.mem_singleton]
    constructor
    · rintro rfl; exact ⟨by decide, fun k hk => absurd hk (Nat.not_lt_zero _)⟩
    · rintro ⟨h, _⟩; omega
  | succ n ih =>
    rw [List.range_succ, famM_snoc]
    unfold famStep
    rw [List.mem_append, ih, List.mem_map]
    have hp : 2 ^ (n + 1) = 2 * 2 ^ n := by rw [Nat.pow_succ]; omega
    constructor
    · rintro (⟨h1, h2⟩ | ⟨s, hs, rfl⟩)
      · refine ⟨by omega, fun k hk hb => ?_⟩
        have hkn := bit_lt h1 hb
        exact h2 k hkn hb
      · obtain ⟨hs1, hs2⟩ := List.mem_filter.1 hs
        obtain ⟨hs3, hs4⟩ := (ih s).1 hs1
        rw [or_top s n hs3]
        refine ⟨by omega, fun k hk hb => ?_⟩
        by_cases e : k = n
        · subst e
          rw [Nat.add_mod_right, Nat.mod_eq_of_lt hs3]; exact hs2
        · have hkn : k < n := by omega
          rw [← or_top s n hs3, Nat.testBit_or, Bool.or_eq_true, p2_bit] at hb
          have hb2 : s.testBit k = true := by
            rcases hb with h | h
            · exact h
            · omega
          have e2 : (s + 2 ^ n) % 2 ^ k = s % 2 ^ k := by
            obtain ⟨d, hd⟩ : 2 ^ k ∣ 2 ^ n := Nat.pow_dvd_pow 2 (by omega)
            rw [hd, Nat.add_mul_mod_self_left]
          rw [e2]; exact hs4 k hkn hb2
    · rintro ⟨h1, h2⟩
      rcases Nat.lt_or_ge m (2 ^ n) with h | h
      · exact .inl ⟨h, fun k hk hb => h2 k (by omega) hb⟩
      · refine .inr ⟨m - 2 ^ n, List.mem_filter.2 ⟨(ih _).2 ⟨by omega, fun k hk hb => ?_⟩, ?_⟩, ?_⟩
        · have e2 : m % 2 ^ k = (m - 2 ^ n) % 2 ^ k := by
            obtain ⟨d, hd⟩ : 2 ^ k ∣ 2 ^ n := Nat.pow_dvd_pow 2 (by omega)
            have : m = m - 2 ^ n + 2 ^ k * d := by omega
            conv => lhs; rw [this]
            rw [Nat.add_mul_mod_self_left]
          have hm : m = (m - 2 ^ n) ||| 2 ^ n := by rw [or_top _ n (by omega)]; omega
          rw [← e2]
          refine h2 k (by omega) ?_
          rw [hm, Nat.testBit_or, hb]; rfl
        · have hm : m = (m - 2 ^ n) ||| 2 ^ n := by rw [or_top _ n (by omega)]; omega
          have hb : m.testBit n = true := by rw [hm, Nat.testBit_or, Nat.testBit_two_pow_self, Bool.or_true]
          have h3 := h2 n (by omega) hb
          have e3 : m % 2 ^ n = m - 2 ^ n := by
            rw [Nat.mod_eq_sub_mod h, Nat.mod_eq_of_lt (by omega)]
          rw [e3] at h3; exact h3
        · rw [or_top _ n (by omega)]; omega
/-- The model's test of a step. -/
def stepB (rs : List Nat) (n m : Nat) : Bool := (List.range n).all fun a => !m.testBit a || decide (rs.getD a 0 &&& m = 2 ^ a)
def stepsM (rs : List Nat) : List Nat := (List.range (2 ^ rs.length)).filter (stepB rs rs.length)
theorem steps_eq (rs : List Nat) (n : Nat) (hn : rs.length = n) (h8 : n ≤ 8) (hr : ∀ i, rs.getD i 0 < 2 ^ n) (hd : Dep rs) : cliqM (cplM rs) = stepsM rs := by
  have h24 : n ≤ 24 := by omega
  have hcl : (cplM rs).length = n := by rw [cplM_len, hn]
  have hclt := cplM_lt rs n hn h24 hr
  unfold cliqM stepsM
  rw [hcl, hn]
  refine asc_ext _ _ (famM_asc _ _) (filter_asc _ _ (range_asc _)) fun m => ?_
  rw [famM_mem, List.mem_filter, List.mem_range]
  have hu : ∀ k b, k < n → (((mutM (cplM rs)).getD k 0).testBit b = true ↔ b < n ∧ (¬ R rs k b ∨ b = k)) := by
    intro k b hk
    rw [mutM_bit (cplM rs) n hcl k b hk]
    constructor
    · rintro ⟨h1, h2, h3⟩
      exact (cpl_R rs n hn h24 hr k b hk).1 h3
    · rintro ⟨h1, h2⟩
      refine ⟨h1, (cpl_R rs n hn h24 hr b k h1).2 ⟨hk, ?_⟩, (cpl_R rs n hn h24 hr k b hk).2 ⟨h1, h2⟩⟩
      rcases h2 with h2 | h2
      · exact .inl fun e => h2 ((hd.2 k b (by omega) (by omega)).2 e)
      · exact .inr h2.symm
  have hfit : ∀ s k, s < 2 ^ n → k < n → (fitC (mutM (cplM rs)) s k = true ↔ ∀ b, s.testBit b = true → (¬ R rs k b ∨ b = k)) := by
    intro s k hs hk
    have hp := p24 n h24
    have hmk := mutM_lt (cplM rs) n hcl hclt k
    unfold fitC
    rw [beq_iff_eq, dif_zero s _ (by omega) (by omega)]
    constructor
    · intro h b hb; exact ((hu k b hk).1 (h b hb)).2
    · intro h b hb; exact (hu k b hk).2 ⟨bit_lt hs hb, h b hb⟩
  have hstep : m < 2 ^ n → (stepB rs n m = true ↔ ∀ a b, m.testBit a = true → m.testBit b = true → a ≠ b → ¬ R rs a b) := by
    intro hm
    unfold stepB
    rw [List.all_eq_true]
    constructor
    · intro h a b ha hb hab hR
      have h1 := h a (List.mem_range.2 (bit_lt hm ha))
      rw [ha] at h1
      have h2 : rs.getD a 0 &&& m = 2 ^ a := by simpa using h1
      have h3 : (rs.getD a 0 &&& m).testBit b = true := by rw [Nat.testBit_and, hb, Bool.and_true]; exact hR
      rw [h2, p2_bit] at h3
      exact hab h3
    · intro h a ha
      have ha' := List.mem_range.1 ha
      cases hb : m.testBit a with
      | false => rfl
      | true =>
        simp only [Bool.not_true, Bool.false_or, decide_eq_true_eq]
        apply nat_ext (n := n) (Nat.lt_of_le_of_lt Nat.and_le_right hm) (Nat.pow_lt_pow_right (by decide) ha')
        intro b hbn
        rw [Nat.testBit_and, Bool.and_eq_true, p2_bit]
        constructor
        · rintro ⟨h1, h2⟩
          apply Classical.byContradiction
          intro hne
          exact h a b hb h2 hne h1
        · rintro rfl
          exact ⟨hd.1 a (by omega), hb⟩
  constructor
  · rintro ⟨hm, h⟩
    refine ⟨hm, (hstep hm).2 fun a b ha hb hab hR => ?_⟩
    have han := bit_lt hm ha
    have hbn := bit_lt hm hb
    have key : ∀ a b, a < n → b < n → m.testBit a = true → m.testBit b = true → b < a → ¬ R rs a b := by
      intro a b han hbn ha hb hlt
      have h1 := (hfit (m % 2 ^ a) a (Nat.lt_of_le_of_lt (Nat.mod_le _ _) hm) han).1 (h a han ha) b (by rw [Nat.testBit_mod_two_pow, hb]; simp; exact hlt)
      rcases h1 with h1 | h1
      · exact h1
      · omega
    rcases Nat.lt_or_ge b a with h1 | h1
    · exact key a b han hbn ha hb h1 hR
    · exact key b a hbn han hb ha (by omega) ((hd.2 a b (by omega) (by omega)).1 hR)
  · rintro ⟨hm, h⟩
    refine ⟨hm, fun k hk hb => ?_⟩
    refine (hfit (m % 2 ^ k) k (Nat.lt_of_le_of_lt (Nat.mod_le _ _) hm) hk).2 fun b hbb => ?_
    rw [Nat.testBit_mod_two_pow, Bool.and_eq_true] at hbb
    obtain ⟨h1, h2⟩ := hbb
    have h1' : b < k := by simpa using h1
    exact .inl ((hstep hm).1 h k b hb h2 (by omega))
theorem stepsM_len (rs : List Nat) (h : rs.length ≤ 8) : (stepsM rs).length ≤ 256 := by
  have h1 := List.length_filter_le (stepB rs rs.length) (List.range (2 ^ rs.length))
  rw [List.length_range] at h1
  have := p8 rs.length h
  unfold stepsM; omega
end Go.Proofs.YtcojodkcpemfdaaDoor
namespace Go.Proofs.YtcojodkcpemfdaaDoor
open Go.RowKit
set_option linter.unusedVariables false
set_option maxRecDepth 100000

theorem ownBlock_map {A : Option Addr} {n c q : Nat} (h : (Value.slice A n c).ownBlock = some q) : A.map (·.block) = some q := by
  cases A with
  | none => cases h
  | some a => simpa [Value.ownBlock] using h
theorem size1 (w : World) (o : Obj) : (w.alloc o).heap.size = w.heap.size + 1 := by simp
theorem AlPost.from_ {w w1 w' : World} {VL : Int} {VN : Nat} {VX : List Int} {C : Int} {e : Ending} (h : AlPost w1 VL VN VX C e w') (hb : Below w.heap.size w w1) : AlPost w VL VN VX C e w' := by
  obtain ⟨A, c, rfl, ho, hb2⟩ := h
  exact ⟨A, c, rfl, ho.mono hb.size, hb.trans (hb2.mono hb.size)⟩
/-- What a maker of an alphabet leaves. -/
def MakesAl (w : World) (L : Int) (n : Nat) (xs : List Int) (e : Ending) (w' : World) : Prop :=
  ∃ A c, e = .returned (.agg #[.int .i64 L, .slice A n c]) ∧ Own 2 w' w.heap.size A n c xs ∧ Below w.heap.size w w'
theorem alphabetOf_any (A : Option Addr) (n c : Nat) (xs : List Int) (w : World) (h : Rd w A n xs) (hn : n ≤ 1048576) :
    Calls Tryd.prog 185 #[.slice A n c] w (MakesAl w (n : Int) n xs) := by
  have HB := Lib.hid (below1 w (.cells #[.int .i64 0, .slice none 0 0] 29))
  have hh := h.below HB.out
  go_enter Tryd.func185, Tryd.ntmps185
  go_wp2_with fail
  refine (masksOf_any _ _ _ _ _ hh hn).mono ?_
  rintro e w1 ⟨A1, c1, rfl, ho, hb⟩
  have x1 := (box_new 29 w 0 none 0 0).next hb
  have y0 := x1.c0
  have y1 := x1.c1
  have f0 := x1.fr 0
  have f1 := x1.fr 1
  have hs := size1 w (.cells #[.int .i64 0, .slice none 0 0] 29)
  go_wp2
  refine ret_gen (fun W => Box 29 W w.heap.size (n : Int) A1 n c1 ∧ Own 2 W w.heap.size A1 n c1 xs ∧ Below w.heap.size w W) ⟨x1.set _ _ _ _, ?_, ?_⟩ ?_
  · have ho2 := ho.mono HB.out.size
    have hne : ∀ q, A1.map (·.block) = some q → q ≠ w.heap.size := fun q hq => by have := (ho.lt q hq).1; omega
    exact own_other (own_other ho2 _ _ _ hne) _ _ _ hne
  · exact ((HB.out.trans (hb.mono HB.out.size)).setCell (p := ⟨w.heap.size, 0, none⟩) (Nat.le_refl _) _).setCell (p := ⟨w.heap.size, 1, none⟩) (Nat.le_refl _) _
  · rintro W ⟨x, o, b⟩
    have e0 := x.c0
    have e1 := x.c1
    exact bodyPost_ret (v := .agg #[.int .i64 (n : Int), .slice A1 n c1]) (by simp [results, Tryd.results185, go_sem, e0, e1]) rfl ⟨_, _, rfl, o, b⟩
set_option maxHeartbeats 1600000 in
theorem free_any (n : Nat) (w : World) (hn : n ≤ 62) :
    Calls Tryd.prog 200 #[.int .i64 (n : Int)] w (MakesAl w (n : Int) n (ints (freeM n))) := by
  obtain ⟨i0, hi, hz0, hz1, hz2⟩ := info_parts info_int
  go_enter Tryd.func200, Tryd.ntmps200
  go_wp2_with fail
  have hsz1 := size1 w (.cells #[.int .i64 0, .slice none 0 0] 29)
  obtain ⟨wA, hwA⟩ : ∃ wA, wA = w.alloc (.cells #[.int .i64 0, .slice none 0 0] 29) := ⟨_, rfl⟩
  have HBA := Lib.hid (show Below w.heap.size w wA by rw [hwA]; exact below1 _ _)
  have xA : Box 29 wA w.heap.size 0 none 0 0 := by rw [hwA]; exact box_new _ _ _ _ _ _
  rw [← hwA] at hsz1 ⊢
  have hsz2 := size1 wA (.cells #[] 2)
  have oA : Own 2 (wA.alloc (.cells #[] 2)) wA.heap.size (some ⟨wA.heap.size, 0, none⟩) 0 0 [] := World.ownsRow_lit wA #[] 0 (Nat.le_refl _) (by unfold maxLen; omega) rfl
  rw [hsz1] at oA
  clear hwA
  go_loopw [4] (fun i wr => ∃ (k : Nat) (A1 : Option Addr) (c1 : Nat), k ≤ n ∧ i = .int .i64 k ∧ Box 29 wr (w.heap.size + 1 + 1) (n : Int) A1 k c1 ∧ Box 29 wr w.heap.size 0 none 0 0 ∧ Own 2 wr (w.heap.size + 1) A1 k c1 (ints (freeM k)) ∧ (∀ q, A1.map (·.block) = some q → q ≠ w.heap.size + 1 + 1) ∧ Below w.heap.size w wr) (fun i _ => n - (intOf i).toNat)
  case atStart =>
    refine ⟨0, some ⟨w.heap.size + 1, 0, none⟩, 0, Nat.zero_le _, rfl, ?_, ?_, World.ownsRow.alloc oA _, by intro q hq; cases hq; show ¬ w.heap.size + 1 = _; omega, ?_⟩
    · have h9 := box_new 29 (wA.alloc (.cells #[] 2)) (n : Int) (some ⟨w.heap.size + 1, 0, none⟩) 0 0
      rw [hsz2, hsz1] at h9; exact h9
    · exact xA.next (below2 _ _ _)
    · exact HBA.out.trans ((below2 wA _ _).mono (by omega))
  case round =>
    clear oA xA hsz1 hsz2
    obtain ⟨k, A1, c1, hk, rfl, x1, x0, ho, hne, hb⟩ := hrel
    have y1 := x1.c1
    by_cases hlt : k < n
    · have hk62 : k ≤ 62 := by omega
      have hml : k + 1 ≤ maxLen := by unfold maxLen; omega
      have hby2 : (k + 1) * 8 ≤ 140737488355328 := by omega
      have hlt1 := x1.lt
      have hdr : ∀ o, Below wr.heap.size wr ((wr.alloc o).drew) := fun o => (below1 wr o).drew
      have y1' := fun o => (x1.next (hdr o)).c1
      obtain ⟨P, hP⟩ : ∃ P : Nat, P = 2 ^ k := ⟨_, rfl⟩
      have hone : ∀ ww : World, Calls Tryd.prog 76 #[.int .i64 (k : Int)] ww fun e w' => e = .returned (.int .i64 (P : Int)) ∧ ww = w' := by rw [hP]; exact fun ww => one_any k hk62 ww
      have HNX : Hid (ints (freeM (k + 1)) = ints (freeM k ++ [P])) := Lib.hid (by rw [freeM_next, hP])
      clear hP
      go_wp2_with fail
      go_region_law (first | (refine step_append_lies _ (by rfl) _ _ _ (by rfl) (w.heap.size + 1) 2 i0 _ 1 8 Tryd.underlying22 hi hz0 hz1 hz2 rfl (by omega) (.slice A1 k c1) k ((ints (freeM k)).map (Value.int .i64)) (by rfl) ((World.ownsRow.alloc ho _).drew) ⟨wr.heap.size, 0, none⟩ 1 1 [.int .i64 (P : Int)] (by rfl) (by rfl) (World.news_of_block (cs := #[.int .i64 (P : Int)]) (t := 2) (fr := (0, 0)) (heap_alloc_new wr _)) (by simp [Value.oneCell']) (by omega) hml hby2 (by simp; omega) (wr.heap.size + 1) (by simp) ?_; intro g cap w2 hown hg hat hlt9; have x12 : Box 29 w2 (w.heap.size + 1 + 1) (n : Int) A1 k c1 := (x1.next (hdr _)).apart hg (fun e => hne _ (ownBlock_map e) rfl); have x02 : Box 29 w2 w.heap.size 0 none 0 0 := (x0.next (hdr _)).apart hg (fun e => by have := (ho.lt _ (ownBlock_map e)).1; omega); have z1 := x12.c1; have zf := x12.fr 1) | (go_simp; go_at_call 76; refine (hone _).mono ?_; rintro e w' ⟨rfl, rfl⟩))
      all_goals
        rw [ints_snoc_map, ← HNX.out] at hown
        have hb2 : Below w.heap.size w w2 := (hb.trans ((hdr _).mono hb.size)).grown hg (by have := hb.size; simp; omega) (fun q hq => by have h9 := (World.ownsRow.lt ho q hq).1; omega)
        have hgne : g ≠ w.heap.size + 1 + 1 := by
          rcases hat with h9 | h9
          · exact hne g (ownBlock_map h9)
          · omega
        have x13 := x12.set1 (some ⟨g, 0, none⟩) (k + 1) cap
        have x03 := x02.other (w.heap.size + 1 + 1) 1 (.slice (some ⟨g, 0, none⟩) (k + 1) cap) (by omega)
        have ho3 := own_other (show Own 2 w2 (w.heap.size + 1) (some ⟨g, 0, none⟩) (k + 1) cap (ints (freeM (k + 1))) from hown) (w.heap.size + 1 + 1) 1 (.slice (some ⟨g, 0, none⟩) (k + 1) cap) (by intro q hq; cases hq; exact hgne)
        have hb3 := hb2.setCell (p := ⟨w.heap.size + 1 + 1, 1, none⟩) (by show w.heap.size ≤ w.heap.size + 1 + 1; omega) (.slice (some ⟨g, 0, none⟩) (k + 1) cap)
        clear hg hat hlt9 z1 zf y1' hown
        go_wp2_with fail
        go_roundw
        case rel => exact ⟨k + 1, _, cap, by omega, by go_num, x13, x03, ho3, by intro q hq; cases hq; exact hgne, hb3⟩
        case measure => simp [intOf]; omega
    · obtain rfl : k = n := by omega
      have y0 := x1.c0
      have v0 := x0.c0
      have v1 := x0.c1
      have f0 := x0.fr 0
      have f1 := x0.fr 1
      go_wp2
      refine ret_gen (fun W => Box 29 W w.heap.size (k : Int) A1 k c1 ∧ Own 2 W w.heap.size A1 k c1 (ints (freeM k)) ∧ Below w.heap.size w W) ⟨x0.set _ _ _ _, ?_, ?_⟩ ?_
      · have hnn : ∀ q, A1.map (·.block) = some q → q ≠ w.heap.size := fun q hq => by have := (ho.lt q hq).1; omega
        exact own_other (own_other (ho.mono (by omega)) _ _ _ hnn) _ _ _ hnn
      · exact (hb.setCell (p := ⟨w.heap.size, 0, none⟩) (Nat.le_refl _) _).setCell (p := ⟨w.heap.size, 1, none⟩) (Nat.le_refl _) _
      · rintro W ⟨x, o, b⟩
        have e0 := x.c0
        have e1 := x.c1
        exact bodyPost_ret (v := .agg #[.int .i64 (k : Int), .slice A1 k c1]) (by simp [results, Tryd.results200, go_sem, e0, e1]) rfl ⟨_, _, rfl, o, b⟩
end Go.Proofs.YtcojodkcpemfdaaDoor
namespace Go.Proofs.YtcojodkcpemfdaaDoor
open Go.RowKit
set_option linter.unusedVariables false
set_option maxRecDepth 100000

/-- What a function from an alphabet to an alphabet answers: the letters, the list, the code: for a dependence f of it, else ErrInvalid. -/
def alAns (f : List Nat → List Nat) (L : Int) (xs : List Int) : Int × List Int × Int :=
  if alphB L xs = true then ((((f (xs.map Int.toNat)).length : Nat) : Int), ints (f (xs.map Int.toNat)), 0) else (0, [], 1)
theorem alAns_no (f : List Nat → List Nat) (L : Int) (xs : List Int) (h : alphB L xs = false) : alAns f L xs = (0, [], 1) := by unfold alAns; rw [if_neg (by rw [h]; decide)]
theorem alAns_yes (f : List Nat → List Nat) (n : Nat) (rs : List Nat) (h : alphB (n : Int) (ints rs) = true) : alAns f (n : Int) (ints rs) = ((((f rs).length : Nat) : Int), ints (f rs), 0) := by unfold alAns; rw [if_pos h, ints_toNat]
theorem alAns_small (f : List Nat → List Nat) (b : Nat) (hf : ∀ rs, rs.length ≤ 8 → (f rs).length ≤ b) (L : Int) (xs : List Int) : (alAns f L xs).2.1.length ≤ b := by
  unfold alAns
  split
  · rename_i h
    obtain ⟨rs, rfl, rfl, h8, _, _, hl, _, e⟩ := alphB_nats L xs _ rfl h
    rw [e]
    show (ints _).length ≤ b
    rw [ints_len]; exact hf _ (by rw [hl]; exact h8)
  · exact Nat.zero_le _
theorem minus_n (a b : Nat) (ha : a < 9223372036854775808) (hb : b < 9223372036854775808) (w : World) :
    Calls Tryd.prog 186 #[.int .i64 (a : Int), .int .i64 (b : Int)] w fun e w' => e = .returned (.int .i64 ((dif a b : Nat) : Int)) ∧ w = w' := minus_nat a b ha hb w
set_option maxHeartbeats 1600000 in
theorem complement_any (A : Option Addr) (n c : Nat) (rs : List Nat) (w : World) (h : Rd w A n (ints rs)) (hn : n ≤ 24) (hr : ∀ i, rs.getD i 0 < 2 ^ n) :
    Calls Tryd.prog 214 #[.slice A n c] w (MakesE 84 w n (ints (cplM rs))) := by
  have hlen : rs.length = n := by have := h.1; rw [ints_len] at this; exact this
  have HL := Lib.hid hlen
  clear hlen
  obtain ⟨i0, hi, hz0, hz1, hz2⟩ := info_parts info_set
  have hml : n ≤ maxLen := by unfold maxLen; omega
  have hby : i0.bytes * n ≤ 281474976710656 := by rw [hz2]; omega
  have hn62 : n ≤ 62 := by omega
  have hf63 : 2 ^ n - 1 < 9223372036854775808 := by have := p24 n hn; omega
  go_enter Tryd.func214, Tryd.ntmps214
  go_wp2_with (first | (at_make; refine wpList_make_full _ rfl _ _ _ rfl w.heap.size 84 i0 (.int .i64 0) 1 Tryd.underlying73 hi hz0 hz1 _ _ (n : Int) (n : Int) n rfl rfl rfl rfl hby hml (Nat.le_refl _) ?_; intro w1 hown0 hg1))
  have hown := own_made hown0
  clear hown0
  have hb1 : Below w.heap.size w w1 := (Below.refl _ _).grown hg1 (Nat.le_refl _) (by simp)
  clear hg1
  go_loopw [11] (fun i wr => ∃ (k : Nat) (ds : List Nat), k ≤ n ∧ i = .int .i64 k ∧ ds.length = n ∧ Own 84 wr w.heap.size (some ⟨w.heap.size, 0, none⟩) n n (ints ds) ∧ Below w.heap.size w wr ∧ (∀ i, i < n → ds.getD i 0 = if i < k then cplRow n (rs.getD i 0) i else (List.replicate n 0).getD i 0)) (fun i _ => n - (intOf i).toNat)
  case atStart => exact ⟨0, List.replicate n 0, Nat.zero_le _, rfl, List.length_replicate, hown, hb1, fun i hi => by rw [if_neg (by omega)]⟩
  case round =>
    clear hown hb1
    obtain ⟨k, ds, hk, rfl, hdl, ho, hb, hdw⟩ := hrel
    have HC := Lib.hid hdl
    have HW := Lib.hid hdw
    clear hdl hdw
    by_cases hlt : k < n
    · obtain ⟨b, off, x, rfl, hbs, hx, hcx⟩ := (h.below hb).at_ hlt
      have hx2 := ints_getD rs k (by rw [HL.out]; exact hlt)
      rw [hx2] at hx
      injection hx with hx
      subst hx
      obtain ⟨g, e9, hgB, hcell, hfr, hset⟩ := own_stored ho hlt
      cases e9
      have hst := Lib.hid (set_step (fun i => cplRow n (rs.getD i 0) i) (List.replicate n 0) ds n k HC.out hlt HW.out)
      have hm1 := lt63 hn (hr k)
      have hk62 : k ≤ 62 := by omega
      have hd63 : dif (2 ^ n - 1) (rs.getD k 0) < 9223372036854775808 := Nat.lt_of_le_of_lt (dif_le _ _) hf63
      have ho4 := hset (cplRow n (rs.getD k 0) k)
      have hb4 := hb.setCell (p := ⟨w.heap.size, k, none⟩) (Nat.le_refl _) (.int .i64 ((cplRow n (rs.getD k 0) k : Nat) : Int))
      have hrow : cplRow n (rs.getD k 0) k = dif (2 ^ n - 1) (rs.getD k 0) ||| 2 ^ k := rfl
      obtain ⟨D, hD⟩ : ∃ D, D = rs.getD k 0 := ⟨_, rfl⟩
      rw [← hD] at hcx hm1 hd63 ho4 hb4 hrow
      obtain ⟨F, hF⟩ : ∃ F, F = 2 ^ n - 1 := ⟨_, rfl⟩
      obtain ⟨M, hM⟩ : ∃ M, M = dif F D := ⟨_, rfl⟩
      rw [← hF] at hd63 hrow hf63
      rw [← hM] at hd63 hrow
      have hfirst : ∀ ww : World, Calls Tryd.prog 159 #[.int .i64 (n : Int)] ww fun e w' => e = .returned (.int .i64 (F : Int)) ∧ ww = w' := by rw [hF]; exact fun ww => firstNumbers_any n hn62 ww
      have hminus : ∀ ww : World, Calls Tryd.prog 186 #[.int .i64 (F : Int), .int .i64 (D : Int)] ww fun e w' => e = .returned (.int .i64 (M : Int)) ∧ ww = w' := by rw [hM]; exact fun ww => minus_nat F D hf63 hm1 ww
      obtain ⟨Q, hQ⟩ : ∃ Q, Q = cplRow n D k := ⟨_, rfl⟩
      have hwith : ∀ ww : World, Calls Tryd.prog 77 #[.int .i64 (M : Int), .int .i64 (k : Int)] ww fun e w' => e = .returned (.int .i64 (Q : Int)) ∧ ww = w' := by rw [hQ, hrow]; exact fun ww => with_any M k hd63 hk62 ww
      have HST : Hid (∀ i, i < n → (ds.set k Q).getD i 0 = if i < k + 1 then cplRow n (rs.getD i 0) i else (List.replicate n 0).getD i 0) := by rw [hQ, hD]; exact hst
      rw [← hQ] at ho4 hb4
      clear hD hF hM hQ hset hst hrow
      go_wp2_with (first | (go_at_call 159; refine (hfirst _).mono ?_; rintro e w' ⟨rfl, rfl⟩) | (go_at_call 186; refine (hminus _).mono ?_; rintro e w' ⟨rfl, rfl⟩) | (go_at_call 77; refine (hwith _).mono ?_; rintro e w' ⟨rfl, rfl⟩))
      go_roundw
      case rel => exact ⟨k + 1, ds.set k Q, by omega, by go_num, by rw [List.length_set]; exact HC.out, ho4, hb4, HST.out⟩
      case measure => simp [intOf]; omega
    · obtain rfl : k = n := by omega
      go_wp2
      go_ret
      refine ⟨_, _, rfl, ?_, hb⟩
      rw [← list_eq_getD ds (cplM rs) k HC.out (by rw [cplM_len, HL.out]) (fun i hi => by rw [HW.out i hi, if_pos hi, cplM_at rs i (by have := HL.out; omega), HL.out])]
      exact ho
theorem AlPost.no {w w' : World} (code : Int) (hb : Below w.heap.size w w') : AlPost w 0 0 [] code (.returned (.tuple #[.agg #[.int .i64 0, .slice none 0 0], .int .i64 code])) w' := ⟨none, 0, rfl, Own.nil _ _ _, hb⟩
end Go.Proofs.YtcojodkcpemfdaaDoor
namespace Go.Proofs.YtcojodkcpemfdaaDoor
open Go.RowKit
set_option linter.unusedVariables false
set_option maxRecDepth 100000

def stepsAns (L : Int) (xs : List Int) : List Int × Int := lsAns stepsM L xs
theorem stepsAns_small (L : Int) (xs : List Int) : (stepsAns L xs).1.length ≤ 256 := lsAns_small stepsM 256 (fun rs h => stepsM_len rs h) L xs
theorem and63 (a b : Nat) (ha : a < 9223372036854775808) (hb : b < 9223372036854775808) : bits .and .i64 (a : Int) (b : Int) = ((a &&& b : Nat) : Int) := i64_and_nat a b ha hb
set_option maxHeartbeats 1600000 in
theorem step_any (A : Option Addr) (n c m : Nat) (rs : List Nat) (w : World) (h : Rd w A n (ints rs)) (hn : n ≤ 8) (hr : ∀ i, rs.getD i 0 < 2 ^ n) (hm : m < 9223372036854775808) :
    Calls Tryd.prog 192 #[.agg #[.int .i64 (n : Int), .slice A n c], .int .i64 (m : Int)] w fun e w' => e = .returned (.bool (stepB rs n m)) ∧ Below w.heap.size w w' := by
  have hlen : rs.length = n := by have := h.1; rw [ints_len] at this; exact this
  have HL := Lib.hid hlen
  clear hlen
  have h24 : n ≤ 24 := by omega
  have HB := Lib.hid (below1 w (.cells #[.int .i64 (n : Int), .slice A n c] 29))
  have hh := h.below HB.out
  have x0 := box_new 29 w (n : Int) A n c
  obtain ⟨w1, hw1⟩ : ∃ w1, w1 = w.alloc (.cells #[.int .i64 (n : Int), .slice A n c] 29) := ⟨_, rfl⟩
  rw [← hw1] at hh x0
  have HB1 := Lib.hid (show Below w.heap.size w w1 by rw [hw1]; exact HB.out)
  go_enter Tryd.func192, Tryd.ntmps192
  go_wp2_with fail
  rw [← hw1]
  clear HB hw1
  go_loopw [5] (fun i wr => ∃ k : Nat, k ≤ n ∧ i = .int .i64 k ∧ Below w1.heap.size w1 wr ∧ (List.range k).all (fun a => !m.testBit a || decide (rs.getD a 0 &&& m = 2 ^ a)) = true) (fun i _ => n - (intOf i).toNat)
  case atStart => exact ⟨0, Nat.zero_le _, rfl, Below.refl _ _, rfl⟩
  case round =>
    obtain ⟨k, hk, rfl, hb, hall⟩ := hrel
    have HA := Lib.hid hall
    clear hall
    have y0 := (x0.next hb).c0
    have y1 := (x0.next hb).c1
    by_cases hlt : k < n
    · obtain ⟨b, off, x, rfl, hbs, hx, hcx⟩ := (hh.below hb).at_ hlt
      have hx2 := ints_getD rs k (by rw [HL.out]; exact hlt)
      rw [hx2] at hx
      injection hx with hx
      subst hx
      have hD63 := lt63 h24 (hr k)
      have hk62 : k ≤ 62 := by omega
      obtain ⟨D, hD⟩ : ∃ D, D = rs.getD k 0 := ⟨_, rfl⟩
      rw [← hD] at hcx hD63
      have HD := Lib.hid hD
      have hand := and63 D m hD63 hm
      obtain ⟨X, hX⟩ : ∃ X, X = D &&& m := ⟨_, rfl⟩
      rw [← hX] at hand
      have HX := Lib.hid hX
      obtain ⟨P, hP⟩ : ∃ P, P = 2 ^ k := ⟨_, rfl⟩
      have HP := Lib.hid hP
      have hone : ∀ ww : World, Calls Tryd.prog 76 #[.int .i64 (k : Int)] ww fun e w' => e = .returned (.int .i64 (P : Int)) ∧ ww = w' := by rw [hP]; exact fun ww => one_any k hk62 ww
      clear hx2 hD hX hP
      cases hbt : m.testBit k
      · have HT := Lib.hid hbt
        clear hbt
        go_wp2_with fail
        go_quiet ((go_at_call 125; exact bit_is m k false HT.out hm hk62 _ _))
        go_wp2
        go_roundw
        case rel => exact ⟨k + 1, by omega, by go_num, by first | exact below_drewN hb _ | exact hb.drew, by rw [all_range_next, HA.out, HT.out]; rfl⟩
        case measure => simp [intOf]; omega
      · have HT := Lib.hid hbt
        clear hbt
        by_cases he : X = P
        · have hne : ((X : Int) == (P : Int)) = true := by simp; omega
          go_wp2_with fail
          go_quiet ((first | (go_at_call 125; exact bit_is m k true HT.out hm hk62 _ _) | (go_at_call 76; exact Calls.quiet_of_same ((hone _).mono fun _ _ ⟨he, hw⟩ => ⟨he, hw.symm⟩))))
          go_wp2
          go_roundw
          case rel => exact ⟨k + 1, by omega, by go_num, by first | exact below_drewN hb _ | exact hb.drew, by rw [all_range_next, HA.out, HT.out, ← HD.out, ← HX.out, he, ← HP.out]; simp⟩
          case measure => simp [intOf]; omega
        · have hne : ((X : Int) == (P : Int)) = false := by simp; omega
          go_wp2_with fail
          go_quiet ((first | (go_at_call 125; exact bit_is m k true HT.out hm hk62 _ _) | (go_at_call 76; exact Calls.quiet_of_same ((hone _).mono fun _ _ ⟨he, hw⟩ => ⟨he, hw.symm⟩))))
          go_wp2
          go_ret
          refine ⟨ret_b _ _ ?_, by first | exact below_drewN (HB1.out.trans (hb.mono HB1.out.size)) _ | exact (HB1.out.trans (hb.mono HB1.out.size)).drew⟩
          symm
          unfold stepB
          refine all_range_no _ n k hlt ?_
          rw [HT.out, ← HD.out, ← HX.out, ← HP.out, decide_eq_false he]; rfl
    · obtain rfl : k = n := by omega
      go_wp2_with fail
      go_ret
      exact ⟨ret_b _ _ (by unfold stepB; rw [HA.out]), HB1.out.trans (hb.mono HB1.out.size)⟩
def stepsTo (rs : List Nat) (n m : Nat) : List Nat := (List.range m).filter (stepB rs n)
theorem stepsTo_yes (rs : List Nat) (n m : Nat) (h : stepB rs n m = true) : stepsTo rs n (m + 1) = stepsTo rs n m ++ [m] := by
  unfold stepsTo; rw [List.range_succ, List.filter_append]; simp [h]
theorem stepsTo_no (rs : List Nat) (n m : Nat) (h : stepB rs n m = false) : stepsTo rs n (m + 1) = stepsTo rs n m := by
  unfold stepsTo; rw [List.range_succ, List.filter_append]; simp [h]
theorem stepsTo_len (rs : List Nat) (n m : Nat) : (stepsTo rs n m).length ≤ m := by
  have := List.length_filter_le (stepB rs n) (List.range m)
  rw [List.length_range] at this; exact this
set_option maxHeartbeats 1600000 in
theorem steps_any (A : Option Addr) (n c : Nat) (rs : List Nat) (w : World) (h : Rd w A n (ints rs)) (hn : n ≤ 8) (hr : ∀ i, rs.getD i 0 < 2 ^ n) :
    Calls Tryd.prog 149 #[.agg #[.int .i64 (n : Int), .slice A n c]] w (MakesE 2 w (stepsM rs).length (ints (stepsM rs))) := by
  have hlen : rs.length = n := by have := h.1; rw [ints_len] at this; exact this
  have HS : Hid (stepsTo rs n (2 ^ n) = stepsM rs) := Lib.hid (by unfold stepsTo stepsM; rw [hlen])
  clear hlen
  obtain ⟨i0, hi, hz0, hz1, hz2⟩ := info_parts info_int
  have hn62 : n ≤ 62 := by omega
  have HB := Lib.hid (below1 w (.cells #[.int .i64 (n : Int), .slice A n c] 29))
  have hh := h.below HB.out
  have x0 := box_new 29 w (n : Int) A n c
  have hsz := size1 w (.cells #[.int .i64 (n : Int), .slice A n c] 29)
  obtain ⟨w1, hw1⟩ : ∃ w1, w1 = w.alloc (.cells #[.int .i64 (n : Int), .slice A n c] 29) := ⟨_, rfl⟩
  rw [← hw1] at hh x0 hsz
  have HB1 := Lib.hid (show Below w.heap.size w w1 by rw [hw1]; exact HB.out)
  have hp8 := p8 n hn
  have hp0 := p2_pos n
  obtain ⟨F, hF⟩ : ∃ F, F = 2 ^ n - 1 := ⟨_, rfl⟩
  have hFP : Hid (F + 1 = 2 ^ n) := Lib.hid (by omega)
  have hF8 : F ≤ 255 := by omega
  have hfull : ∀ ww : World, Calls Tryd.prog 124 #[.int .i64 (n : Int)] ww fun e w' => e = .returned (.int .i64 (F : Int)) ∧ ww = w' := by rw [hF]; exact fun ww => full_any n hn62 ww
  clear hp8 hp0 hF
  go_enter Tryd.func149, Tryd.ntmps149
  go_wp2_with fail
  rw [← hw1]
  have HSZ := Lib.hid hsz
  clear HB hw1 hsz
  go_loopw [3, 4] (fun v i wr => ∃ (m : Nat) (A1 : Option Addr) (c1 : Nat), m ≤ F + 1 ∧ i = .int .i64 m ∧ v = .slice A1 (stepsTo rs n m).length c1 ∧ Own 2 wr w1.heap.size A1 (stepsTo rs n m).length c1 (ints (stepsTo rs n m)) ∧ Below w1.heap.size w1 wr) (fun _ i _ => F + 1 - (intOf i).toNat)
  case atStart =>
    have h9 : Own 2 (w1.alloc (.cells #[] 2)) w1.heap.size (some ⟨w1.heap.size, 0, none⟩) 0 0 [] := World.ownsRow_lit w1 #[] 0 (Nat.le_refl _) (by unfold maxLen; omega) rfl
    refine ⟨0, some ⟨w.heap.size + 1, 0, none⟩, 0, Nat.zero_le _, rfl, rfl, ?_, below1 _ _⟩
    rw [HSZ.out] at h9 ⊢
    exact h9
  case round =>
    obtain ⟨m, A1, c1, hm, rfl, rfl, ho, hb⟩ := hrel
    have hle := stepsTo_len rs n m
    have y0 := (x0.next hb).c0
    have y1 := (x0.next hb).c1
    by_cases hlt : m ≤ F
    · have hm63 : m < 9223372036854775808 := by omega
      cases hst : stepB rs n m
      · have hno := stepsTo_no rs n m hst
        have HNO := Lib.hid hno
        have HST := Lib.hid hst
        clear hno hst hle
        obtain ⟨K, hK⟩ : ∃ K, K = (stepsTo rs n m).length := ⟨_, rfl⟩
        have HK := Lib.hid hK
        rw [← hK] at ho ⊢
        clear hK
        go_wp2_with fail
        refine (hfull _).mono ?_
        rintro e w' ⟨rfl, rfl⟩
        go_wp2_with fail
        refine (step_any _ _ _ m rs _ (hh.below hb) hn hr hm63).mono ?_
        rintro e w2 ⟨rfl, hb2⟩
        rw [HST.out]
        go_wp2_with fail
        go_roundw
        case rel => exact ⟨m + 1, A1, c1, by omega, by go_num, by rw [HNO.out, ← HK.out], by rw [HNO.out, ← HK.out]; exact ho.below hb2, hb.trans (hb2.mono hb.size)⟩
        case measure => simp [intOf]; omega
      · have hyes := stepsTo_yes rs n m hst
        have HYES := Lib.hid hyes
        have HST := Lib.hid hst
        have hml : (stepsTo rs n m).length + 1 ≤ maxLen := by unfold maxLen; omega
        have hby2 : ((stepsTo rs n m).length + 1) * 8 ≤ 140737488355328 := by omega
        have HLN : Hid ((stepsTo rs n (m + 1)).length = (stepsTo rs n m).length + 1) := Lib.hid (by rw [hyes, List.length_append]; rfl)
        clear hyes hst hle
        obtain ⟨K, hK⟩ : ∃ K, K = (stepsTo rs n m).length := ⟨_, rfl⟩
        rw [← hK] at ho hml hby2 HLN ⊢
        obtain ⟨ys, hys⟩ : ∃ ys, ys = stepsTo rs n m := ⟨_, rfl⟩
        rw [← hys] at ho HYES
        clear hK hys
        go_wp2_with fail
        refine (hfull _).mono ?_
        rintro e w' ⟨rfl, rfl⟩
        go_wp2_with fail
        refine (step_any _ _ _ m rs _ (hh.below hb) hn hr hm63).mono ?_
        rintro e w2 ⟨rfl, hb2⟩
        rw [HST.out]
        have ho2 := ho.below hb2
        have hb12 := hb.trans (hb2.mono hb.size)
        go_wp2_with (at_builtin; refine wpList_append_own _ rfl _ _ 22 rfl w1.heap.size 2 i0 (.int .i64 0) 1 8 Tryd.underlying22 hi hz0 hz1 hz2 rfl (by decide) (.slice A1 K c1) K ((ints ys).map (Value.int .i64)) rfl (World.ownsRow.alloc ho2 _) ⟨w2.heap.size, 0, none⟩ 1 1 [.int .i64 (m : Int)] rfl rfl ?s1 ?s2 hml hby2 ?s5 ?_)
        case s1 => exact cell_one_new _ _ _
        case s2 => intro u hu; simp at hu; subst hu; rfl
        case s5 => have := hb12.size; simp; omega
        intro v' w3 hown hg _
        rw [ints_snoc_map, ← HYES.out] at hown
        have hb3 : Below w1.heap.size w1 w3 := (hb12.alloc hb12.size _).grown hg (by have := hb12.size; simp; omega) (fun g hgr => (World.ownsRow.lt ho2 g hgr).1)
        obtain ⟨A2, c2, hv, ho3⟩ := own_shape hown
        rw [hv]
        clear hg hown hv
        go_wp2_with fail
        go_roundw
        case rel => exact ⟨m + 1, A2, c2, by omega, by go_num, by rw [HLN.out], by rw [HLN.out]; exact ho3, hb3⟩
        case measure => simp [intOf]; omega
    · obtain rfl : m = F + 1 := by omega
      have e9 : stepsTo rs n (F + 1) = stepsM rs := by rw [hFP.out]; exact HS.out
      rw [e9] at ho ⊢
      clear e9
      obtain ⟨K, hK⟩ : ∃ K, K = (stepsM rs).length := ⟨_, rfl⟩
      rw [← hK] at ho ⊢
      have HK := Lib.hid hK
      clear hK hle
      go_wp2_with fail
      refine (hfull _).mono ?_
      rintro e w' ⟨rfl, rfl⟩
      go_wp2_with fail
      go_ret
      show MakesE _ _ (stepsM rs).length _ _ _
      rw [← HK.out]
      exact ⟨A1, c1, rfl, ho.mono HB1.out.size, HB1.out.trans (hb.mono HB1.out.size)⟩
end Go.Proofs.YtcojodkcpemfdaaDoor
namespace Go.Proofs.YtcojodkcpemfdaaDoor
open Go Go.RowKit
set_option linter.unusedVariables false
set_option maxRecDepth 100000

def sgnM (k : Nat) : Int := 1 - 2 * ((k % 2 : Nat) : Int)
def padM (xs : List Int) (k : Nat) : List Int := xs ++ List.replicate (k + 1 - xs.length) 0
theorem padM_len (xs : List Int) (k : Nat) : (padM xs k).length = max xs.length (k + 1) := by
  unfold padM; rw [List.length_append, List.length_replicate]; omega
theorem padM_done (xs : List Int) (k : Nat) (h : k < xs.length) : padM xs k = xs := by
  unfold padM; rw [show k + 1 - xs.length = 0 by omega]; simp
theorem padM_next (xs : List Int) (k : Nat) (h : xs.length ≤ k) : padM (xs ++ [0]) k = padM xs k := by
  unfold padM
  rw [List.length_append, List.length_singleton, List.append_assoc, List.singleton_append, ← List.replicate_succ]
  congr 2; omega
def cpStep (xs : List Int) (s : Nat) : List Int := (padM xs (ones24 s)).set (ones24 s) ((padM xs (ones24 s)).getD (ones24 s) 0 + sgnM (ones24 s))
/-- The coefficients that a list of sets gives. -/
def cpM (fs : List Nat) : List Int := fs.foldl cpStep []
theorem cpM_next (fs : List Nat) (t s : Nat) (h : fs[t]? = some s) : cpM (fs.take (t + 1)) = cpStep (cpM (fs.take t)) s := by
  unfold cpM; rw [List.take_add_one, h, List.foldl_append]; rfl
theorem ones24_8 (s : Nat) (h : s < 256) : ones24 s ≤ 8 := by
  unfold ones24
  rw [show s / 256 % 256 = 0 by omega, show s / 65536 = 0 by omega]
  have h1 := (byte_facts (s % 256) (by omega)).2.2.2.2.2
  have h2 : ones8 0 = 0 := by decide
  omega
theorem getD_pad (xs : List Int) (k i : Nat) : (padM xs k).getD i 0 = xs.getD i 0 := by
  unfold padM
  simp only [List.getD_eq_getElem?_getD]
  by_cases h : i < xs.length
  · rw [List.getElem?_append_left h]
  · rw [List.getElem?_append_right (by omega), List.getElem?_eq_none (l := xs) (by omega)]
    by_cases h2 : i - xs.length < k + 1 - xs.length
    · rw [List.getElem?_replicate_of_lt h2]; rfl
    · rw [List.getElem?_eq_none (by rw [List.length_replicate]; omega)]
theorem getD_put (xs : List Int) (k i : Nat) (v : Int) (h : k < xs.length) : (xs.set k v).getD i 0 = if i = k then v else xs.getD i 0 := by
  simp only [List.getD_eq_getElem?_getD, List.getElem?_set]
  by_cases e : i = k
  · subst e; rw [if_pos rfl, if_pos rfl, if_pos h]; rfl
  · rw [if_neg (fun h9 => e h9.symm), if_neg e]
theorem sgnM_small (k : Nat) : -1 ≤ sgnM k ∧ sgnM k ≤ 1 := by unfold sgnM; omega
theorem cp_facts (fs : List Nat) (hf : ∀ s, s ∈ fs → s < 256) : ∀ t, t ≤ fs.length → (cpM (fs.take t)).length ≤ 9 ∧ ∀ i, -(t : Int) ≤ (cpM (fs.take t)).getD i 0 ∧ (cpM (fs.take t)).getD i 0 ≤ t := by
  intro t
  induction t with
  | zero => intro _; exact ⟨by simp [cpM], fun i => by simp [cpM]⟩
  | succ t ih =>
    intro ht
    obtain ⟨h1, h2⟩ := ih (by omega)
    have hx : fs[t]? = some fs[t] := List.getElem?_eq_getElem (by omega)
    have h8 := ones24_8 _ (hf _ (List.getElem_mem (show t < fs.length by omega)))
    rw [cpM_next fs t _ hx]
    obtain ⟨k, hk⟩ : ∃ k, k = ones24 fs[t] := ⟨_, rfl⟩
    unfold cpStep
    rw [← hk] at h8 ⊢
    refine ⟨by rw [List.length_set, padM_len]; omega, fun i => ?_⟩
    rw [getD_put _ _ _ _ (by rw [padM_len]; omega)]
    have h3 := h2 i
    have h4 := h2 k
    have h5 := sgnM_small k
    split
    · rw [getD_pad]; omega
    · rw [getD_pad]; omega
theorem cpM_len (rs : List Nat) (h : rs.length ≤ 8) : (cpM (stepsM rs)).length ≤ 9 := by
  have := (cp_facts (stepsM rs) (fun s hs => by
    unfold stepsM at hs
    have h1 := List.mem_range.1 (List.mem_filter.1 hs).1
    have h2 : 2 ^ rs.length ≤ 256 := Nat.pow_le_pow_right (by decide) h
    omega) _ (Nat.le_refl _)).1
  rw [List.take_length] at this; exact this
/-- The number of ones by halving. -/
def cntO : Nat → Nat → Nat
  | 0, _ => 0
  | f + 1, s => s % 2 + cntO f (s / 2)
theorem cntO_8 : ∀ s, s < 256 → cntO 8 s = ones8 s := by decide
theorem cntO_zero : ∀ f, cntO f 0 = 0
  | 0 => rfl
  | f + 1 => by rw [cntO, cntO_zero f]
theorem ones24_cnt (s : Nat) (h : s < 256) : ones24 s = cntO 8 s := by
  rw [cntO_8 s h]
  unfold ones24
  rw [show s / 256 % 256 = 0 by omega, show s / 65536 = 0 by omega, show s % 256 = s by omega]
  have h2 : ones8 0 = 0 := by decide
  omega
end Go.Proofs.YtcojodkcpemfdaaDoor
namespace Go.Proofs.YtcojodkcpemfdaaDoor
open Go Go.RowKit
set_option linter.unusedVariables false
set_option maxRecDepth 100000

section
variable (D : Nat → Nat → Bool)
/-- c less, for each letter of a list, h of the letters behind it that do not depend on it. -/
def gStep (c : Int) (h : List Nat → Int) : List Nat → Int
  | [] => c
  | b :: B => gStep c h B - h (B.filter fun x => !D b x)
def gAll (M : Nat → Int) : Nat → List Nat → Int
  | 0 => fun _ => M 0
  | m + 1 => fun B => gStep D (M (m + 1)) (gAll M m) B
/-- What gStep takes away. -/
def gSum (h : List Nat → Int) : List Nat → Int
  | [] => 0
  | b :: B => gSum h B + h (B.filter fun x => !D b x)
theorem gStep_sum (c : Int) (h : List Nat → Int) : ∀ B, gStep D c h B = c - gSum D h B
  | [] => by simp [gStep, gSum]
  | b :: B => by rw [gStep, gSum, gStep_sum c h B]; omega
theorem filter_swap (p q : Nat → Bool) (l : List Nat) : (l.filter p).filter q = (l.filter q).filter p := by
  rw [List.filter_filter, List.filter_filter]
  exact List.filter_congr fun x _ => Bool.and_comm _ _
theorem gAll_perm (M : Nat → Int) (hsym : ∀ a b, D a b = D b a) : ∀ m B B', B.Perm B' → gAll D M m B = gAll D M m B' := by
  intro m
  induction m with
  | zero => intro B B' _; rfl
  | succ m ih =>
    intro B B' h
    show gStep D (M (m + 1)) (gAll D M m) B = gStep D (M (m + 1)) (gAll D M m) B'
    induction h with
    | nil => rfl
    | @cons x l1 l2 h1 e => rw [gStep, gStep, e, ih _ _ (h1.filter _)]
    | @swap a b l =>
      simp only [gStep]
      have key : ∀ a b, gAll D M m ((b :: l).filter fun x => !D a x) = if D a b = true then gAll D M m (l.filter fun x => !D a x) else (match m with | 0 => M 0 | k + 1 => gAll D M (k + 1) (l.filter fun x => !D a x) - gAll D M k ((l.filter fun x => !D a x).filter fun x => !D b x)) := by
        intro a b
        by_cases hd : D a b = true
        · rw [if_pos hd, List.filter_cons, hd]; rfl
        · rw [if_neg hd]
          have : D a b = false := by simpa using hd
          rw [List.filter_cons, this]
          cases m with
          | zero => rfl
          | succ k => rfl
      rw [key a b, key b a, hsym b a]
      by_cases hd : D a b = true
      · rw [if_pos hd, if_pos hd]; omega
      · rw [if_neg hd, if_neg hd]
        cases m with
        | zero => simp [gAll]
        | succ k =>
          simp only
          rw [filter_swap (fun x => !D a x) (fun x => !D b x)]; omega
    | trans _ _ e1 e2 => exact e1.trans e2
theorem gSum_perm (M : Nat → Int) (hsym : ∀ a b, D a b = D b a) (m : Nat) (B B' : List Nat) (h : B.Perm B') : gSum D (gAll D M m) B = gSum D (gAll D M m) B' := by
  have := gAll_perm D M hsym (m + 1) B B' h
  have e : ∀ X, gAll D M (m + 1) X = M (m + 1) - gSum D (gAll D M m) X := fun X => gStep_sum D _ _ X
  rw [e, e] at this; omega
/-- Letters in descending order ahead of other ones: each has the smaller ones and the other ones behind it. -/
theorem gSum_rev (h : List Nat → Int) (N : List Nat) (p : Nat → Bool) : ∀ k, gSum D h (((List.range k).filter p).reverse ++ N) = ((List.range k).filter p).foldl (fun s a => s + h ((((List.range a).filter p).reverse ++ N).filter fun x => !D a x)) (gSum D h N)
  | 0 => rfl
  | k + 1 => by
    rw [List.range_succ, List.filter_append]
    by_cases hp : p k = true
    · have e : [k].filter p = [k] := by simp [hp]
      rw [e, List.reverse_append, List.reverse_singleton, List.singleton_append, List.cons_append, gSum, gSum_rev h N p k, List.foldl_append]
      rfl
    · have e : [k].filter p = [] := by simp [hp]
      rw [e, List.append_nil, gSum_rev h N p k]
/-- How many normal forms of m letters there are whose first letter is one of those of p. -/
def tp (n : Nat) : Nat → (Nat → Bool) → Int
  | 0, _ => 1
  | m + 1, p => ((List.range n).filter p).foldl (fun s a => s + tp n m (fun x => (p x && decide (a ≤ x)) || D a x)) 0
def tM (n m : Nat) : Int := tp D n m fun _ => true
theorem foldl_shift (f : Nat → Int) : ∀ (l : List Nat) (c : Int), l.foldl (fun s a => s + f a) c = c + l.foldl (fun s a => s + f a) 0
  | [], c => by simp
  | a :: l, c => by rw [List.foldl_cons, List.foldl_cons, foldl_shift f l (c + f a), foldl_shift f l (0 + f a)]; omega
theorem foldl_congr' (f g : Nat → Int) : ∀ (l : List Nat) (c : Int), (∀ a, a ∈ l → f a = g a) → l.foldl (fun s a => s + f a) c = l.foldl (fun s a => s + g a) c
  | [], c, _ => rfl
  | a :: l, c, h => by rw [List.foldl_cons, List.foldl_cons, h a List.mem_cons_self, foldl_congr' f g l _ fun b hb => h b (List.mem_cons_of_mem _ hb)]
theorem split_perm (p : Nat → Bool) (n a : Nat) (ha : a ≤ n) : ((List.range n).filter fun x => !(p x && decide (a ≤ x))).Perm (((List.range a).filter p).reverse ++ (List.range n).filter fun x => !p x) := by
  refine List.Perm.trans ?_ ((List.reverse_perm _).symm.append_right _)
  induction n with
  | zero => obtain rfl : a = 0 := by omega
            exact List.Perm.refl _
  | succ n ih =>
    rw [List.range_succ, List.filter_append, List.filter_append]
    by_cases h : a ≤ n
    · rw [← List.append_assoc]
      refine (ih h).append ?_
      have e : [n].filter (fun x => !(p x && decide (a ≤ x))) = [n].filter fun x => !p x := by
        refine List.filter_congr fun x hx => ?_
        rw [List.mem_singleton.1 hx, decide_eq_true h, Bool.and_true]
      rw [e]
    · obtain rfl : a = n + 1 := by omega
      have e1 : (List.range n).filter (fun x => !(p x && decide (n + 1 ≤ x))) = List.range n := by
        rw [List.filter_eq_self]; intro x hx
        have := List.mem_range.1 hx
        rw [decide_eq_false (by omega), Bool.and_false]; rfl
      have e2 : [n].filter (fun x => !(p x && decide (n + 1 ≤ x))) = [n] := by simp
      rw [e1, e2, ← List.range_succ, ← List.filter_append, ← List.range_succ]
      exact (List.filter_append_perm p (List.range (n + 1))).symm
/-- What begins with letters of p is what the sets of letters beside p leave of all. -/
theorem tp_gAll (hsym : ∀ a b, D a b = D b a) (n : Nat) : ∀ m p, tp D n m p = gAll D (tM D n) m ((List.range n).filter fun x => !p x) := by
  intro m
  induction m with
  | zero => intro p; rfl
  | succ m ih =>
    have key : ∀ p, tp D n (m + 1) p = gSum D (gAll D (tM D n) m) (((List.range n).filter p).reverse ++ (List.range n).filter fun x => !p x) - gSum D (gAll D (tM D n) m) ((List.range n).filter fun x => !p x) := by
      intro p
      rw [gSum_rev, foldl_shift]
      have : tp D n (m + 1) p = ((List.range n).filter p).foldl (fun s a => s + gAll D (tM D n) m ((((List.range a).filter p).reverse ++ (List.range n).filter fun x => !p x).filter fun x => !D a x)) 0 := by
        show ((List.range n).filter p).foldl _ 0 = _
        refine foldl_congr' _ _ _ _ fun a ha => ?_
        have hn := List.mem_range.1 (List.mem_filter.1 ha).1
        rw [ih]
        refine gAll_perm D _ hsym m _ _ ?_
        have e : (List.range n).filter (fun x => !((p x && decide (a ≤ x)) || D a x)) = ((List.range n).filter fun x => !(p x && decide (a ≤ x))).filter fun x => !D a x := by
          rw [List.filter_filter]
          refine List.filter_congr fun x _ => ?_
          rw [Bool.not_or, Bool.and_comm]
        rw [e]
        exact (split_perm p n a (by omega)).filter _
      rw [this]; omega
    have htot : ∀ p, gSum D (gAll D (tM D n) m) (((List.range n).filter p).reverse ++ (List.range n).filter fun x => !p x) = gSum D (gAll D (tM D n) m) (List.range n) := fun p =>
      gSum_perm D _ hsym m _ _ (((List.reverse_perm _).append_right _).trans (List.filter_append_perm p (List.range n)))
    intro p
    have hall : tM D n (m + 1) = gSum D (gAll D (tM D n) m) (List.range n) := by
      have h1 := key fun _ => true
      rw [htot] at h1
      have e : (List.range n).filter (fun x => !(true : Bool)) = [] := by simp
      rw [e] at h1
      show tp D n (m + 1) (fun _ => true) = _
      rw [h1]; simp [gSum]
    rw [key p, htot p, ← hall]
    exact (gStep_sum D _ _ _).symm
/-- No letter can come first: nothing of length m + 1. -/
theorem gAll_full (hsym : ∀ a b, D a b = D b a) (n m : Nat) : gAll D (tM D n) (m + 1) (List.range n) = 0 := by
  have h := tp_gAll D hsym n (m + 1) fun _ => false
  have e : (List.range n).filter (fun x => !(false : Bool)) = List.range n := by simp
  rw [e] at h
  rw [← h]
  have e2 : (List.range n).filter (fun _ => false) = [] := List.filter_eq_nil_iff.2 fun _ _ => by simp
  show ((List.range n).filter fun _ => false).foldl _ 0 = 0
  rw [e2]; rfl
theorem tp_nonneg (n : Nat) : ∀ m p, 0 ≤ tp D n m p
  | 0, _ => by simp [tp]
  | m + 1, p => by
    show 0 ≤ ((List.range n).filter p).foldl _ 0
    have : ∀ (l : List Nat) (c : Int), 0 ≤ c → 0 ≤ l.foldl (fun s a => s + tp D n m (fun x => (p x && decide (a ≤ x)) || D a x)) c := by
      intro l
      induction l with
      | nil => intro c h; exact h
      | cons a l ih => intro c h; rw [List.foldl_cons]; exact ih _ (by have := tp_nonneg n m (fun x => (p x && decide (a ≤ x)) || D a x); omega)
    exact this _ 0 (Int.le_refl _)
theorem tM_mono (n m : Nat) (hn : 0 < n) : tM D n m ≤ tM D n (m + 1) := by
  show tM D n m ≤ ((List.range n).filter fun _ => true).foldl (fun s a => s + tp D n m (fun x => (true && decide (a ≤ x)) || D a x)) 0
  obtain ⟨k, rfl⟩ : ∃ k, n = k + 1 := ⟨n - 1, by omega⟩
  have e : (List.range (k + 1)).filter (fun _ => true) = 0 :: (List.range k).map Nat.succ := by rw [List.filter_eq_self.2 (fun _ _ => rfl), List.range_succ_eq_map]
  rw [e, List.foldl_cons, foldl_shift]
  have h0 : (fun x => (true && decide (0 ≤ x)) || D 0 x) = fun _ => true := by funext x; simp
  rw [h0]
  have h1 : 0 ≤ ((List.range k).map Nat.succ).foldl (fun s a => s + tp D (k + 1) m (fun x => (true && decide (a ≤ x)) || D a x)) 0 := by
    have : ∀ (l : List Nat) (c : Int), 0 ≤ c → 0 ≤ l.foldl (fun s a => s + tp D (k + 1) m (fun x => (true && decide (a ≤ x)) || D a x)) c := by
      intro l
      induction l with
      | nil => intro c h; exact h
      | cons a l ih => intro c h; rw [List.foldl_cons]; exact ih _ (by have := tp_nonneg D (k + 1) m (fun x => (true && decide (a ≤ x)) || D a x); omega)
    exact this _ 0 (Int.le_refl _)
  have : tM D (k + 1) m = tp D (k + 1) m (fun _ => true) := rfl
  rw [this]; omega
end

end Go.Proofs.YtcojodkcpemfdaaDoor
namespace Go.Proofs.YtcojodkcpemfdaaDoor
open Go Go.RowKit
set_option linter.unusedVariables false
set_option maxRecDepth 100000

theorem size_is (x : Nat) (hx : x < 16777216) (w : World) :
    Calls Tryd.prog 196 #[.int .i64 (x : Int)] w fun e w' => e = .returned (.int .i64 ((ones24 x : Nat) : Int)) ∧ w = w' := by
  have hx2 : x < 18446744073709551616 := by omega
  have HO := Lib.hid (onesCount_is x hx w)
  obtain ⟨k, hk⟩ : ∃ k, k = ones24 x := ⟨_, rfl⟩
  rw [← hk] at HO ⊢
  clear hk
  go_enter Tryd.func196, Tryd.ntmps196
  go_wp2_with (go_at_call 216; refine HO.out.mono ?_; rintro e w' ⟨rfl, rfl⟩)
  go_ret
  exact ⟨rfl, rfl⟩
theorem and_one (k : Nat) (h : k < 9223372036854775808) : bits .and .i64 (k : Int) 1 = ((k % 2 : Nat) : Int) := by
  rw [show (1 : Int) = ((1 : Nat) : Int) from rfl, i64_and_nat k 1 h (by decide)]
  congr 1; exact Nat.and_one_is_mod k
theorem sign_is (x : Nat) (hx : x < 256) (w : World) :
    Calls Tryd.prog 197 #[.int .i64 (x : Int)] w fun e w' => e = .returned (.int .i64 (sgnM (ones24 x))) ∧ w = w' := by
  have HO := Lib.hid (size_is x (by omega) w)
  have h8 := ones24_8 x hx
  obtain ⟨k, hk⟩ : ∃ k, k = ones24 x := ⟨_, rfl⟩
  rw [← hk] at HO h8 ⊢
  have HA := Lib.hid (and_one k (by omega))
  clear hk
  go_enter Tryd.func197, Tryd.ntmps197
  go_wp2_with (go_at_call 196; refine HO.out.mono ?_; rintro e w' ⟨rfl, rfl⟩)
  go_ret
  refine ⟨ret_i _ _ ?_, rfl⟩
  rw [HA.out]
  unfold sgnM wrap64
  omega
set_option maxHeartbeats 800000 in
theorem indep_any (A : Option Addr) (n c : Nat) (rs : List Nat) (w : World) (h : Rd w A n (ints rs)) (h8 : n ≤ 8) (hr : ∀ i, rs.getD i 0 < 2 ^ n) (hd : Dep rs) (hT : Tab w) :
    Calls Tryd.prog 195 #[.slice A n c] w (MakesE 84 w (stepsM rs).length (ints (stepsM rs))) := by
  have hl : rs.length = n := by have := h.1; rw [ints_len] at this; exact this
  have h24 : n ≤ 24 := by omega
  have hclt := cplM_lt rs n hl h24 hr
  have hlen := stepsM_len rs (by omega)
  have HE := Lib.hid (steps_eq rs n hl h8 hr hd)
  clear hl
  have hsm : (stepsM rs).length ≤ 4096 := by omega
  clear hlen
  go_enter Tryd.func195, Tryd.ntmps195
  go_wp2_with fail
  refine (complement_any _ _ _ rs _ h h24 hr).mono ?_
  rintro e w2 ⟨A2, c2, rfl, ho2, hb2⟩
  have hT3 := hT.below hb2
  go_wp2_with fail
  refine (cliques_any _ _ _ (cplM rs) _ ho2.rd h24 hclt hT3).mono ?_
  rw [HE.out]
  rintro e w3 (⟨_, A3, c3, rfl, ho3, hb3⟩ | ⟨h9, _⟩)
  · obtain ⟨M, hM⟩ : ∃ M, M = (stepsM rs).length := ⟨_, rfl⟩
    rw [← hM] at ho3 ⊢
    have HM := Lib.hid hM
    clear hM hsm
    go_wp2_with fail
    go_ret
    show MakesE _ _ (stepsM rs).length _ _ _
    rw [← HM.out]
    exact ⟨A3, c3, rfl, ho3.mono hb2.size, hb2.trans (hb3.mono hb2.size)⟩
  · omega
theorem bits8_any (s : Nat) (hs : s < 256) (w : World) :
    Calls Tryd.prog 150 #[.int .i64 (s : Int)] w fun e w' => e = .returned (.int .i64 ((ones24 s : Nat) : Int)) ∧ w = w' := by
  have HC := Lib.hid (ones24_cnt s hs)
  go_enter Tryd.func150, Tryd.ntmps150
  go_wp2
  go_loop [0, 3] (fun q i => ∃ (t x k : Nat), x * 2 ^ t ≤ s ∧ t ≤ 8 ∧ x < 2 ^ (8 - t) ∧ q = .int .i64 (x : Int) ∧ i = .int .i64 (k : Int) ∧ k ≤ t ∧ Hid (k + cntO (8 - t) x = cntO 8 s)) (fun q i => (intOf q).toNat)
  case atStart => exact ⟨0, s, 0, by omega, by omega, by simpa using hs, rfl, rfl, by omega, Lib.hid (by simp)⟩
  case round =>
    obtain ⟨t, x, k, hx, ht, hx8, rfl, rfl, hk, HS⟩ := hrel
    by_cases h0 : 0 < x
    · have hx256 : x < 256 := by
        have : 2 ^ (8 - t) ≤ 2 ^ 8 := Nat.pow_le_pow_right (by decide) (by omega)
        omega
      have ht8 : t < 8 := by
        rcases Nat.lt_or_ge t 8 with h | h
        · exact h
        · rw [show 8 - t = 0 by omega] at hx8; omega
      have HN : Hid (k + x % 2 + cntO (8 - (t + 1)) (x / 2) = cntO 8 s) := Lib.hid (by
        have h9 := HS.out
        rw [show 8 - t = (8 - (t + 1)) + 1 by omega, cntO] at h9
        omega)
      have hxn : x / 2 < 2 ^ (8 - (t + 1)) := by
        rw [show 8 - t = (8 - (t + 1)) + 1 by omega, Nat.pow_succ] at hx8; omega
      have hxm : (x / 2) * 2 ^ (t + 1) ≤ s := by
        refine Nat.le_trans ?_ hx
        rw [Nat.pow_succ, Nat.mul_comm (2 ^ t) 2, ← Nat.mul_assoc]
        exact Nat.mul_le_mul_right _ (Nat.div_mul_le_self x 2)
      have HX1 := Lib.hid hxn
      have HX2 := Lib.hid hxm
      clear hxn hxm hx hx8
      go_wp2
      go_round
      case rel => exact ⟨t + 1, x / 2, k + x % 2, HX2.out, by omega, HX1.out, by go_num, by go_num, by omega, HN⟩
      case measure => simp [intOf]; omega
    · obtain rfl : x = 0 := by omega
      have HK : Hid (ones24 s = k) := Lib.hid (by
        have h9 := HS.out
        rw [cntO_zero] at h9
        rw [HC.out]; omega)
      clear hx hx8
      go_wp2
      go_ret
      exact ⟨ret_i _ _ (by rw [HK.out]), rfl⟩
end Go.Proofs.YtcojodkcpemfdaaDoor
namespace Go.Proofs.YtcojodkcpemfdaaDoor
open Go Go.RowKit
set_option linter.unusedVariables false
set_option maxRecDepth 100000

theorem steps_lt (rs : List Nat) (h : rs.length ≤ 8) : ∀ s, s ∈ stepsM rs → s < 256 := by
  intro s hs
  unfold stepsM at hs
  have h1 := List.mem_range.1 (List.mem_filter.1 hs).1
  have h2 : 2 ^ rs.length ≤ 256 := Nat.pow_le_pow_right (by decide) h
  omega
theorem cpStep_of (xs ys : List Int) (s k : Nat) (hk : ones24 s = k) (hp : padM ys k = padM xs k) (hl : k < ys.length) : cpStep xs s = ys.set k (ys.getD k 0 + sgnM k) := by
  unfold cpStep
  rw [hk, ← hp, padM_done ys k hl]
theorem snoc_zero (ys : List Int) : ys.map (Value.int .i64) ++ [Value.int .i64 0] = (ys ++ [0]).map (Value.int .i64) := by simp
set_option maxHeartbeats 3200000 in
theorem cliquePolynomial_any (A : Option Addr) (n c : Nat) (rs : List Nat) (w : World) (h : Rd w A n (ints rs)) (h8 : n ≤ 8) (hr : ∀ i, rs.getD i 0 < 2 ^ n) (hd : Dep rs) (hT : Tab w) :
    Calls Tryd.prog 155 #[.slice A n c] w (MakesE 2 w (cpM (stepsM rs)).length (cpM (stepsM rs))) := by
  have hl : rs.length = n := by have := h.1; rw [ints_len] at this; exact this
  have hlt := steps_lt rs (by omega)
  have hle := stepsM_len rs (by omega)
  have HI := Lib.hid (indep_any A n c rs w h h8 hr hd hT)
  obtain ⟨i0, hi, hz0, hz1, hz2⟩ := info_parts info_int
  obtain ⟨fs, hfs⟩ : ∃ fs, fs = stepsM rs := ⟨_, rfl⟩
  rw [← hfs] at HI hlt hle ⊢
  have HF := Lib.hid (cp_facts fs hlt)
  have HLT := Lib.hid hlt
  obtain ⟨F, hF⟩ : ∃ F, F = fs.length := ⟨_, rfl⟩
  rw [← hF] at HI HF hle
  have HFL := Lib.hid hF
  clear hlt hfs hl hF h hr hd hT
  go_enter Tryd.func155, Tryd.ntmps155
  go_wp2_with fail
  refine HI.out.mono ?_
  rintro e w1 ⟨A1, c1, rfl, ho1, hb1⟩
  have HLEN : Hid ((ints fs).length = F) := Lib.hid (by rw [ints_len, HFL.out])
  go_wp2_with fail
  go_loopw [3, 9] (fun v i wr => ∃ (t q : Nat) (A2 : Option Addr) (c2 : Nat), t ≤ F ∧ i = .int .i64 t ∧ v = .slice A2 q c2 ∧ Own 2 wr w1.heap.size A2 q c2 (cpM (fs.take t)) ∧ Below w1.heap.size w1 wr) (fun _ i _ => F - (intOf i).toNat)
  case atStart => exact ⟨0, 0, none, 0, Nat.zero_le _, rfl, rfl, Own.nil _ _ _, Below.refl _ _⟩
  case round =>
    obtain ⟨t, q, A2, c2, ht, rfl, rfl, ho, hb⟩ := hrel
    by_cases hlt : t < F
    · obtain ⟨b, off, x, rfl, hbs, hx, hcx⟩ := (ho1.rd.below hb).at_ hlt
      obtain ⟨s, hs, rfl⟩ := nats_at fs t x (by rw [← HFL.out]; exact hlt) hx
      have hs8 := HLT.out s (List.mem_of_getElem? hs)
      have HS1 : Hid (∀ ww : World, Calls Tryd.prog 196 #[.int .i64 (s : Int)] ww fun e w' => e = .returned (.int .i64 ((ones24 s : Nat) : Int)) ∧ ww = w') := Lib.hid fun ww => size_is s (by omega) ww
      have HS2 : Hid (∀ ww : World, Calls Tryd.prog 197 #[.int .i64 (s : Int)] ww fun e w' => e = .returned (.int .i64 (sgnM (ones24 s))) ∧ ww = w') := Lib.hid fun ww => sign_is s hs8 ww
      have hk8 := ones24_8 s hs8
      have HN := Lib.hid (cpM_next fs t s hs)
      have HQ := Lib.hid ho.len
      obtain ⟨hq9, hv0⟩ := HF.out t (by omega)
      have HV := Lib.hid hv0
      have HST := Lib.hid (fun ys hp hl => cpStep_of (cpM (fs.take t)) ys s (ones24 s) rfl hp hl)
      have hg := sgnM_small (ones24 s)
      obtain ⟨k, hk⟩ : ∃ k, k = ones24 s := ⟨_, rfl⟩
      rw [← hk] at HS1 HS2 hk8 HST hg
      obtain ⟨xs, hxs⟩ : ∃ xs, xs = cpM (fs.take t) := ⟨_, rfl⟩
      rw [← hxs] at ho HN HV HST HQ hq9
      obtain ⟨G, hG⟩ : ∃ G, G = sgnM k := ⟨_, rfl⟩
      rw [← hG] at HS2 HST hg
      rw [HQ.out] at hq9
      clear hx hk hxs hv0 hs hG
      obtain ⟨w2, rfl⟩ : ∃ w9 : World, w9 = wr := ⟨_, rfl⟩
      go_wp2_with fail
      go_loopw [3] (fun v wx => ∃ (q1 : Nat) (A3 : Option Addr) (c3 : Nat) (ys : List Int), q1 ≤ 9 ∧ v = .slice A3 q1 c3 ∧ Own 2 wx w1.heap.size A3 q1 c3 ys ∧ Below w1.heap.size w1 wx ∧ Hid (padM ys k = padM xs k)) (fun v _ => k + 1 - (match v with | .slice _ n _ => n | _ => 0))
      case atStart => exact ⟨q, A2, c2, xs, hq9, rfl, ho, hb, Lib.hid rfl⟩
      case round =>
        clear ho hcx
        obtain ⟨q1, A3, c3, ys, hq1, rfl, ho, hb3, HP⟩ := hrel
        have HYL := Lib.hid ho.len
        by_cases hqk : q1 ≤ k
        · have hml : q1 + 1 ≤ maxLen := by unfold maxLen; omega
          have hby2 : (q1 + 1) * 8 ≤ 140737488355328 := by omega
          have HPN : Hid (padM (ys ++ [0]) k = padM xs k) := Lib.hid ((padM_next ys k (by rw [HYL.out]; exact hqk)).trans HP.out)
          obtain ⟨w3, rfl⟩ : ∃ w9 : World, w9 = wr := ⟨_, rfl⟩
          go_wp2_with fail
          refine (HS1.out _).mono ?_
          rintro e w' ⟨rfl, rfl⟩
          go_wp2_with (at_builtin; refine wpList_append_own _ rfl _ _ 22 rfl w1.heap.size 2 i0 (.int .i64 0) 1 8 Tryd.underlying22 hi hz0 hz1 hz2 rfl (by decide) (.slice A3 q1 c3) q1 (ys.map (Value.int .i64)) rfl (World.ownsRow.alloc ho _) ⟨w3.heap.size, 0, none⟩ 1 1 [.int .i64 0] rfl rfl ?s1 ?s2 hml hby2 ?s5 ?_)
          case s1 => exact cell_one_new _ _ _
          case s2 => intro u hu; simp at hu; subst hu; rfl
          case s5 => have := hb3.size; simp; omega
          intro v' w4 hown hg4 _
          rw [snoc_zero] at hown
          have hb4 : Below w1.heap.size w1 w4 := (hb3.alloc hb3.size _).grown hg4 (by have := hb3.size; simp; omega) (fun g hgr => (World.ownsRow.lt ho g hgr).1)
          obtain ⟨A4, c4, hv, ho4⟩ := own_shape hown
          rw [hv]
          clear hg4 hown hv
          go_wp2_with fail
          go_roundw
          case rel => exact ⟨q1 + 1, A4, c4, ys ++ [0], by omega, rfl, ho4, hb4, HPN⟩
          case measure => simp; omega
        · have hky : k < ys.length := by rw [HYL.out]; omega
          have HE := Lib.hid (HST.out ys HP.out hky)
          have HVK : Hid (-(t : Int) ≤ ys.getD k 0 ∧ ys.getD k 0 ≤ t) := Lib.hid (by
            have h9 := HV.out k
            rw [← getD_pad xs k, ← HP.out, getD_pad] at h9; exact h9)
          have hvb := HVK.out
          have hgy : ys[k]? = some (ys.getD k 0) := by rw [List.getD_eq_getElem?_getD, List.getElem?_eq_getElem hky]; rfl
          obtain ⟨g, rfl, hgB, hgl⟩ := ho.form (by omega)
          have hf : wr.drew.frozen? ⟨g, k, none⟩ = false := ho.frozen k
          have hc2 : wr.drew.cell? ⟨g, k, none⟩ = some (.int .i64 (ys.getD k 0)) := ho.cell hgy
          have hc1 : wr.cell? ⟨g, k, none⟩ = some (.int .i64 (ys.getD k 0)) := ho.cell hgy
          have ho2 := ho.set_ k (ys.getD k 0 + G)
          rw [← HE.out, ← HN.out] at ho2
          obtain ⟨V, hV⟩ : ∃ V, V = ys.getD k 0 := ⟨_, rfl⟩
          rw [← hV] at hc1 hc2 hvb ho2
          have hw1 : IntKind.i64.wrap (V + G) = V + G := by rw [IntKind.wrap_i64]; omega
          have hb2 := (hb3.drew).setCell (p := ⟨g, k, none⟩) hgB (.int .i64 (V + G))
          have hkq : k < q1 := by omega
          clear hky hgy hV
          go_wp2_with fail
          refine (HS1.out _).mono ?_
          rintro e w' ⟨rfl, rfl⟩
          go_wp2_with fail
          go_still_tail 9, (by kernel_rfl)
          still_call ((HS1.out _).mono fun _ _ ⟨he, hw⟩ => ⟨he, hw.symm⟩)
          repeat still_step
          still_call ((HS2.out _).mono fun _ _ ⟨he, hw⟩ => ⟨he, hw.symm⟩)
          repeat still_step
          refine wpStill_nil ?_
          change wpList _ _ _ _ _ wr.drew
          have ho5 : Own 2 (wr.drew.setCell ⟨g, k, none⟩ (.int .i64 (V + G))) w1.heap.size (some ⟨g, 0, none⟩) q1 c3 (cpM (fs.take (t + 1))) := ho2
          go_wp2_with fail
          go_roundw
          case rel => exact ⟨t + 1, q1, _, c3, by omega, by go_num, rfl, ho5, hb2⟩
          case measure => simp [intOf]; omega
    · obtain rfl : t = F := by omega
      have e9 : fs.take t = fs := by rw [HFL.out]; exact List.take_length
      rw [e9] at ho
      have HQ := Lib.hid ho.len
      clear e9
      go_wp2_with fail
      go_ret
      show MakesE _ _ (cpM fs).length _ _ _
      rw [HQ.out]
      exact ⟨A2, c2, rfl, ho.mono hb1.size, hb1.trans (hb.mono hb1.size)⟩
def cpAns (L : Int) (xs : List Int) : List Int × Int := if alphB L xs = true then (cpM (stepsM (xs.map Int.toNat)), 0) else ([], 1)
theorem cpAns_no (L : Int) (xs : List Int) (h : alphB L xs = false) : cpAns L xs = ([], 1) := by unfold cpAns; rw [if_neg (by rw [h]; decide)]
theorem cpAns_yes (n : Nat) (rs : List Nat) (h : alphB (n : Int) (ints rs) = true) : cpAns (n : Int) (ints rs) = (cpM (stepsM rs), 0) := by unfold cpAns; rw [if_pos h, ints_toNat]
theorem cpAns_small (L : Int) (xs : List Int) : (cpAns L xs).1.length ≤ 9 := by
  unfold cpAns
  split
  · rename_i h
    obtain ⟨rs, rfl, rfl, h8, _, _, hl, _, e⟩ := alphB_nats L xs _ rfl h
    rw [e]
    exact cpM_len rs (by omega)
  · exact Nat.zero_le _
/-- Two own rows in blocks of their own. -/
def TwoOwn (w0 wr : World) (A2 : Option Addr) (q c2 : Nat) (xs : List Int) (A1 : Option Addr) (F c1 : Nat) (zs : List Int) : Prop :=
  Own 2 wr w0.heap.size A2 q c2 xs ∧ Own 2 wr w0.heap.size A1 F c1 zs ∧ (∀ k, A2.map (·.block) = some k → A1.map (·.block) ≠ some k) ∧ Below w0.heap.size w0 wr
theorem ownB (A : Option Addr) (n c : Nat) (k : Nat) : (Value.slice A n c).ownBlock = some k ↔ A.map (·.block) = some k := by
  cases A <;> simp [Value.ownBlock]
theorem TwoOwn.grow {w0 wr w4 : World} {o : Obj} {A2 A1 : Option Addr} {q c2 F c1 : Nat} {xs zs xs' : List Int} {v' : Value} (h : TwoOwn w0 wr A2 q c2 xs A1 F c1 zs)
    (hown : w4.ownsRow w0.heap.size 2 1 v' (q + 1) (xs'.map (Value.int .i64))) (hg : (wr.alloc o).grownBy w4 (Value.slice A2 q c2).ownBlock) (hat : v'.ownBlock = (Value.slice A2 q c2).ownBlock ∨ v'.ownBlock = some (wr.heap.size + 1)) :
    ∃ A3 c3, v' = .slice A3 (q + 1) c3 ∧ TwoOwn w0 w4 A3 (q + 1) c3 xs' A1 F c1 zs := by
  obtain ⟨o2, o1, s, hb⟩ := h
  obtain ⟨A3, c3, rfl, ho3⟩ := own_shape hown
  have hsz : (wr.alloc o).heap.size = wr.heap.size + 1 := by simp
  refine ⟨A3, c3, rfl, ho3, (o1.below (below1 wr o)).apart hg (fun k hk e => s k ((ownB _ _ _ _).1 e) hk), fun k hk e => ?_, (hb.alloc hb.size o).grown hg (by have := hb.size; omega) (fun r e => (o2.lt r ((ownB _ _ _ _).1 e)).1)⟩
  have hk' := (ownB A3 (q + 1) c3 k).2 hk
  rcases hat with h9 | h9
  · rw [hk'] at h9; exact s k ((ownB _ _ _ _).1 h9.symm) e
  · rw [hk'] at h9; injection h9 with h9; have := (o1.lt k e).2; omega
theorem TwoOwn.put {w0 wr : World} {g : Nat} {A1 : Option Addr} {q c2 F c1 : Nat} {xs zs : List Int} (h : TwoOwn w0 wr (some ⟨g, 0, none⟩) q c2 xs A1 F c1 zs) (k : Nat) (x : Int) :
    TwoOwn w0 (wr.setCell ⟨g, k, none⟩ (.int .i64 x)) (some ⟨g, 0, none⟩) q c2 (xs.set k x) A1 F c1 zs := by
  obtain ⟨o2, o1, s, hb⟩ := h
  exact ⟨o2.set_ k x, o1.apart (grown_set (World.grownBy.refl wr (some g)) k _) (fun r hr e => by injection e with e; subst e; exact s g rfl hr), s, hb.setCell (p := ⟨g, k, none⟩) ((o2.lt g rfl).1) _⟩
set_option maxHeartbeats 3200000 in
theorem l06Clique_any (A : Option Addr) (n c : Nat) (rs : List Nat) (w : World) (h : Rd w A n (ints rs)) (h8 : n ≤ 8) (hr : ∀ i, rs.getD i 0 < 2 ^ n) :
    Calls Tryd.prog 93 #[.agg #[.int .i64 (n : Int), .slice A n c]] w (MakesE 2 w (cpM (stepsM rs)).length (cpM (stepsM rs))) := by
  have hl : rs.length = n := by have := h.1; rw [ints_len] at this; exact this
  have HB := Lib.hid (below1 w (.cells #[.int .i64 (n : Int), .slice A n c] 29))
  have hh := h.below HB.out
  have x0 := box_new 29 w (n : Int) A n c
  have hlt := steps_lt rs (by omega)
  have hle := stepsM_len rs (by omega)
  have HI : Hid (∀ w9 : World, Rd w9 A n (ints rs) → Calls Tryd.prog 149 #[.agg #[.int .i64 (n : Int), .slice A n c]] w9 (MakesE 2 w9 (stepsM rs).length (ints (stepsM rs)))) := Lib.hid fun w9 h9 => steps_any A n c rs w9 h9 h8 hr
  obtain ⟨i0, hi, hz0, hz1, hz2⟩ := info_parts info_int
  obtain ⟨fs, hfs⟩ : ∃ fs, fs = stepsM rs := ⟨_, rfl⟩
  rw [← hfs] at HI hlt hle ⊢
  have HF := Lib.hid (cp_facts fs hlt)
  have HLT := Lib.hid hlt
  obtain ⟨F, hF⟩ : ∃ F, F = fs.length := ⟨_, rfl⟩
  rw [← hF] at HI HF hle
  have HFL := Lib.hid hF
  clear hlt hfs hl hF h hr
  have HSZ := Lib.hid (size1 w (.cells #[.int .i64 (n : Int), .slice A n c] 29))
  obtain ⟨w0, hw0⟩ : ∃ w0, w0 = w.alloc (.cells #[.int .i64 (n : Int), .slice A n c] 29) := ⟨_, rfl⟩
  rw [← hw0] at hh HSZ
  have HB0 := Lib.hid (show Below w.heap.size w w0 by rw [hw0]; exact HB.out)
  have hk1 := below1 w0 (.cells #[] 2)
  have y0 := (x0.next (by rw [← hw0]; exact hk1)).c0
  have y1 := (x0.next (by rw [← hw0]; exact hk1)).c1
  have HO : Own 2 (w0.alloc (.cells #[] 2)) w0.heap.size (some ⟨w0.heap.size, 0, none⟩) 0 0 [] := World.ownsRow_lit w0 #[] 0 (Nat.le_refl _) (by unfold maxLen; omega) rfl
  have HS0 := Lib.hid (HI.out _ (hh.below hk1))
  rw [hw0] at HS0
  clear HI hh x0
  go_enter Tryd.func93, Tryd.ntmps93
  go_wp2_with fail
  refine HS0.out.mono ?_
  rintro e w1 ⟨A1, c1, rfl, ho1, hb1⟩
  rw [← hw0] at hb1 ho1
  have HO1 := HO.below hb1
  have HB1 := Lib.hid (HB0.out.trans ((hk1.trans (hb1.mono hk1.size)).mono HB0.out.size))
  have HSB := Lib.hid (HB0.out.size)
  have HBW := Lib.hid (hk1.trans (hb1.mono hk1.size))
  have HO2 : Own 2 w1 w0.heap.size (some ⟨w.heap.size + 1, 0, none⟩) 0 0 [] := by rw [← HSZ.out]; exact HO1
  have HT2 : TwoOwn w0 w1 (some ⟨w.heap.size + 1, 0, none⟩) 0 0 [] A1 F c1 (ints fs) := ⟨HO2, ho1.mono (by simp), fun k hk e => by
    have h1 := (ho1.lt k e).1
    have h9 : w.heap.size + 1 = k := by injection hk
    have := HSZ.out
    simp at h1; omega, HBW.out⟩
  have HLEN : Hid ((ints fs).length = F) := Lib.hid (by rw [ints_len, HFL.out])
  clear hw0 HO HO1 hk1 y0 y1 HS0 HB ho1 HO2 hb1 HBW
  go_wp2_with fail
  go_loopw [3, 5] (fun v i wr => ∃ (t q : Nat) (A2 : Option Addr) (c2 : Nat), t ≤ F ∧ i = .int .i64 t ∧ v = .slice A2 q c2 ∧ TwoOwn w0 wr A2 q c2 (cpM (fs.take t)) A1 F c1 (ints fs)) (fun _ i _ => F - (intOf i).toNat)
  case atStart => exact ⟨0, 0, _, 0, Nat.zero_le _, rfl, rfl, HT2⟩
  case round =>
    obtain ⟨t, q, A2, c2, ht, rfl, rfl, h2⟩ := hrel
    by_cases hlt : t < F
    · obtain ⟨b, off, x, rfl, hbs, hx, hcx⟩ := h2.2.1.rd.at_ hlt
      obtain ⟨s, hs, rfl⟩ := nats_at fs t x (by rw [← HFL.out]; exact hlt) hx
      have hs8 := HLT.out s (List.mem_of_getElem? hs)
      have HS1 : Hid (∀ ww : World, Calls Tryd.prog 150 #[.int .i64 (s : Int)] ww fun e w' => e = .returned (.int .i64 ((ones24 s : Nat) : Int)) ∧ ww = w') := Lib.hid fun ww => bits8_any s hs8 ww
      have hk8 := ones24_8 s hs8
      have HN := Lib.hid (cpM_next fs t s hs)
      have HQ := Lib.hid h2.1.len
      obtain ⟨hq9, hv0⟩ := HF.out t (by omega)
      have HV := Lib.hid hv0
      have HST := Lib.hid (fun ys hp hl => cpStep_of (cpM (fs.take t)) ys s (ones24 s) rfl hp hl)
      obtain ⟨k, hk⟩ : ∃ k, k = ones24 s := ⟨_, rfl⟩
      rw [← hk] at HS1 hk8 HST
      obtain ⟨xs, hxs⟩ : ∃ xs, xs = cpM (fs.take t) := ⟨_, rfl⟩
      rw [← hxs] at h2 HN HV HST HQ hq9
      rw [HQ.out] at hq9
      clear hx hk hxs hv0 hs
      obtain ⟨w2, rfl⟩ : ∃ w9 : World, w9 = wr := ⟨_, rfl⟩
      go_wp2_with fail
      refine (HS1.out _).mono ?_
      rintro e w' ⟨rfl, rfl⟩
      go_wp2_with fail
      go_loopw [3] (fun v wx => ∃ (q1 : Nat) (A3 : Option Addr) (c3 : Nat) (ys : List Int), q1 ≤ 9 ∧ v = .slice A3 q1 c3 ∧ TwoOwn w0 wx A3 q1 c3 ys (some ⟨b, off, none⟩) F c1 (ints fs) ∧ Hid (padM ys k = padM xs k)) (fun v _ => k + 1 - (match v with | .slice _ n _ => n | _ => 0))
      case atStart => exact ⟨q, A2, c2, xs, hq9, rfl, h2, Lib.hid rfl⟩
      case round =>
        clear h2 hcx
        obtain ⟨q1, A3, c3, ys, hq1, rfl, h2, HP⟩ := hrel
        have HYL := Lib.hid h2.1.len
        have hb3 := h2.2.2.2
        by_cases hqk : q1 ≤ k
        · have hml : q1 + 1 ≤ maxLen := by unfold maxLen; omega
          have hby2 : (q1 + 1) * 8 ≤ 140737488355328 := by omega
          have HPN : Hid (padM (ys ++ [0]) k = padM xs k) := Lib.hid ((padM_next ys k (by rw [HYL.out]; exact hqk)).trans HP.out)
          obtain ⟨w3, rfl⟩ : ∃ w9 : World, w9 = wr := ⟨_, rfl⟩
          go_wp2_with (at_builtin; refine wpList_append_own_at _ rfl _ _ 22 rfl w0.heap.size 2 i0 (.int .i64 0) 1 8 Tryd.underlying22 hi hz0 hz1 hz2 rfl (by decide) (.slice A3 q1 c3) q1 (ys.map (Value.int .i64)) rfl (World.ownsRow.alloc h2.1 _) ⟨w3.heap.size, 0, none⟩ 1 1 [.int .i64 0] rfl rfl ?s1 ?s2 hml hby2 ?s5 ?_)
          case s1 => exact cell_one_new _ _ _
          case s2 => intro u hu; simp at hu; subst hu; rfl
          case s5 => have := hb3.size; simp; omega
          intro v' w4 hown hg4 _ hat
          rw [snoc_zero] at hown
          obtain ⟨A4, c4, hv, h4⟩ := h2.grow hown hg4 hat
          rw [hv]
          clear hg4 hown hv hat h2
          go_wp2_with fail
          go_roundw
          case rel => exact ⟨q1 + 1, A4, c4, ys ++ [0], by omega, rfl, h4, HPN⟩
          case measure => simp; omega
        · have hky : k < ys.length := by rw [HYL.out]; omega
          have HE := Lib.hid (HST.out ys HP.out hky)
          have HVK : Hid (-(t : Int) ≤ ys.getD k 0 ∧ ys.getD k 0 ≤ t) := Lib.hid (by
            have h9 := HV.out k
            rw [← getD_pad xs k, ← HP.out, getD_pad] at h9; exact h9)
          have hvb := HVK.out
          have hgy : ys[k]? = some (ys.getD k 0) := by rw [List.getD_eq_getElem?_getD, List.getElem?_eq_getElem hky]; rfl
          obtain ⟨g, rfl, hgB, hgl⟩ := h2.1.form (by omega)
          have hf : wr.frozen? ⟨g, k, none⟩ = false := h2.1.frozen k
          have hc1 : wr.cell? ⟨g, k, none⟩ = some (.int .i64 (ys.getD k 0)) := h2.1.cell hgy
          have h5 := h2.put k (ys.getD k 0 + sgnM k)
          rw [← HE.out, ← HN.out] at h5
          obtain ⟨V, hV⟩ : ∃ V, V = ys.getD k 0 := ⟨_, rfl⟩
          rw [← hV] at hc1 hvb h5
          have HZ : Hid (V + sgnM k = V + 1 - 2 * ((k : Int) % 2)) := Lib.hid (by unfold sgnM; omega)
          rw [HZ.out] at h5
          have hkq : k < q1 := by omega
          clear hky hgy hV h2
          go_wp2_with fail
          go_roundw
          case rel => exact ⟨t + 1, q1, _, c3, by omega, by go_num, rfl, h5⟩
          case measure => simp [intOf]; omega
    · obtain rfl : t = F := by omega
      have e9 : fs.take t = fs := by rw [HFL.out]; exact List.take_length
      rw [e9] at h2
      have HQ := Lib.hid h2.1.len
      clear e9
      go_wp2_with fail
      go_ret
      show MakesE _ _ (cpM fs).length _ _ _
      rw [HQ.out]
      exact ⟨A2, c2, rfl, h2.1.mono HB0.out.size, HB0.out.trans (h2.2.2.2.mono HB0.out.size)⟩
end Go.Proofs.YtcojodkcpemfdaaDoor
namespace Go.Proofs.YtcojodkcpemfdaaDoor
open Go Go.RowKit
set_option linter.unusedVariables false
set_option maxRecDepth 100000

/-- What the first k products add up to, with the sign turned. -/
def cvS (p q : List Int) : Nat → Int
  | 0 => 0
  | k + 1 => cvS p q k - p.getD (k + 1) 0 * q.getD (q.length - (k + 1)) 0
def cvN (p q : List Int) : Nat := min (p.length - 1) q.length
/-- The next element of the inverse. -/
def nextV (p q : List Int) : Int := cvS p q (cvN p q)
def invQ (p : List Int) : Nat → List Int
  | 0 => [1]
  | n + 1 => invQ p n ++ [nextV p (invQ p n)]
theorem invQ_len (p : List Int) : ∀ n, (invQ p n).length = n + 1
  | 0 => rfl
  | n + 1 => by rw [invQ, List.length_append, invQ_len p n]; rfl
def maxB (x : Int) : Bool := decide (-1000000000000000 ≤ x ∧ x ≤ 1000000000000000)
theorem invQ_take (p : List Int) (n : Nat) : ∀ k, n ≤ k → ∀ i, i ≤ n → (invQ p k).getD i 0 = (invQ p n).getD i 0 := by
  intro k hk
  induction k with
  | zero => obtain rfl : n = 0 := by omega
            intro i _; rfl
  | succ k ih =>
    intro i hi
    by_cases h : n ≤ k
    · rw [← ih h i hi, invQ]
      simp only [List.getD_eq_getElem?_getD]
      rw [List.getElem?_append_left (by rw [invQ_len]; omega)]
    · obtain rfl : n = k + 1 := by omega
      rfl
theorem invQ_last (p : List Int) (n : Nat) : (invQ p (n + 1)).getD (n + 1) 0 = nextV p (invQ p n) := by
  rw [invQ]
  simp only [List.getD_eq_getElem?_getD]
  rw [List.getElem?_append_right (by rw [invQ_len]; omega), invQ_len]; simp
/-- All elements up to the n-th are small. -/
def invB (p : List Int) : Nat → Bool
  | 0 => true
  | n + 1 => invB p n && maxB (nextV p (invQ p n))
theorem invB_le (p : List Int) (n : Nat) : ∀ k, n ≤ k → invB p k = true → invB p n = true := by
  intro k hk
  induction k with
  | zero => obtain rfl : n = 0 := by omega
            exact fun h => h
  | succ k ih =>
    intro h
    by_cases e : n ≤ k
    · exact ih e (by rw [invB, Bool.and_eq_true] at h; exact h.1)
    · obtain rfl : n = k + 1 := by omega
      exact h
theorem invB_no (p : List Int) (n k : Nat) (hk : n ≤ k) (h : invB p n = false) : invB p k = false := by
  cases e : invB p k
  · rfl
  · rw [invB_le p n k hk e] at h; cases h
theorem invQ_small (p : List Int) : ∀ n, invB p n = true → ∀ i, -1000000000000000 ≤ (invQ p n).getD i 0 ∧ (invQ p n).getD i 0 ≤ 1000000000000000
  | 0, _, i => by
    rw [invQ]
    cases i with
    | zero => decide
    | succ i => simp
  | n + 1, h, i => by
    rw [invB, Bool.and_eq_true] at h
    have h2 := h.2
    unfold maxB at h2
    rw [decide_eq_true_eq] at h2
    rw [invQ]
    simp only [List.getD_eq_getElem?_getD]
    by_cases e : i < (invQ p n).length
    · rw [List.getElem?_append_left e]
      have := invQ_small p n h.1 i
      rw [List.getD_eq_getElem?_getD] at this; exact this
    · rw [List.getElem?_append_right (by omega)]
      by_cases e2 : i - (invQ p n).length = 0
      · rw [e2]; exact h2
      · rw [List.getElem?_eq_none (by simp; omega)]; decide
theorem mul_small (a b A B : Int) (hA : 0 ≤ A) (ha : -A ≤ a ∧ a ≤ A) (hb : -B ≤ b ∧ b ≤ B) : -(A * B) ≤ a * b ∧ a * b ≤ A * B := by
  have hB : 0 ≤ B := by omega
  have h1 : 0 ≤ (A - a) * (B - b) := Int.mul_nonneg (by omega) (by omega)
  have h2 : 0 ≤ (A - a) * (B + b) := Int.mul_nonneg (by omega) (by omega)
  have h3 : 0 ≤ (A + a) * (B - b) := Int.mul_nonneg (by omega) (by omega)
  have h4 : 0 ≤ (A + a) * (B + b) := Int.mul_nonneg (by omega) (by omega)
  rw [Int.sub_mul, Int.mul_sub, Int.mul_sub] at h1
  rw [Int.sub_mul, Int.mul_add, Int.mul_add] at h2
  rw [Int.add_mul, Int.mul_sub, Int.mul_sub] at h3
  rw [Int.add_mul, Int.mul_add, Int.mul_add] at h4
  constructor <;> omega
/-- What a list's inverse is answered. -/
def invAns (p : List Int) (n : Nat) : List Int × Bool := if invB p n = true then (invQ p n, true) else ([], false)
def bigC (c : Int) : Bool := decide (c < -1000) || decide (1000 < c)
def isAns (p : List Int) (n : Int) : List Int × Int :=
  if (decide (0 ≤ n ∧ n ≤ 24) && !p.any bigC) = true then (if p.head? = some 1 then (if invB p n.toNat = true then (invQ p n.toNat, 0) else ([], 3)) else ([], 5)) else ([], 2)
theorem isAns_small (p : List Int) (n : Int) : (isAns p n).1.length ≤ 25 := by
  unfold isAns
  split
  · rename_i h
    rw [Bool.and_eq_true, decide_eq_true_eq] at h
    split
    · split
      · show (invQ p n.toNat).length ≤ 25
        rw [invQ_len]; omega
      · exact Nat.zero_le _
    · exact Nat.zero_le _
  · exact Nat.zero_le _
end Go.Proofs.YtcojodkcpemfdaaDoor
namespace Go.Proofs.YtcojodkcpemfdaaDoor
open Go Go.RowKit
set_option linter.unusedVariables false
set_option maxRecDepth 100000

theorem cvS_next (p q : List Int) (j : Nat) (hj : 1 ≤ j) : cvS p q (j - 1) - p.getD j 0 * q.getD (q.length - j) 0 = cvS p q j := by
  obtain ⟨k, rfl⟩ : ∃ k, j = k + 1 := ⟨j - 1, by omega⟩
  rfl
theorem tdiv_parts (X : Int) (hX : -1000000000000000000 ≤ X ∧ X ≤ 1000000000000000000) : X.tdiv 1000000000000000 * 1000000000000000 + X.tmod 1000000000000000 = X ∧ -1000 ≤ X.tdiv 1000000000000000 ∧ X.tdiv 1000000000000000 ≤ 1000 ∧ -1000000000000000 < X.tmod 1000000000000000 ∧ X.tmod 1000000000000000 < 1000000000000000 := by
  have h1 := Int.mul_tdiv_add_tmod X 1000000000000000
  have h2 := Int.tmod_lt_of_pos X (show (0 : Int) < 1000000000000000 by decide)
  have h3 : -1000000000000000 < X.tmod 1000000000000000 := by
    have := Int.tmod_lt_of_pos (-X) (show (0 : Int) < 1000000000000000 by decide)
    rw [Int.neg_tmod] at this; omega
  omega
set_option maxHeartbeats 1600000 in
theorem nextOfInverse_any (A B : Option Addr) (n c m d : Nat) (ps qs : List Int) (w : World) (h : Rd w A n ps) (h2 : Rd w B m qs) (hn : n ≤ 1048576) (hm : m ≤ 24) (hp : ∀ i, -1000 ≤ ps.getD i 0 ∧ ps.getD i 0 ≤ 1000) (hq : ∀ i, -1000000000000000 ≤ qs.getD i 0 ∧ qs.getD i 0 ≤ 1000000000000000) :
    Calls Tryd.prog 213 #[.slice A n c, .slice B m d] w fun e w' => ∃ X : Int, e = .returned (.tuple #[.int .i64 X, .bool (maxB (nextV ps qs))]) ∧ (maxB (nextV ps qs) = true → X = nextV ps qs) ∧ Below w.heap.size w w' := by
  have HP := Lib.hid hp
  have HQ := Lib.hid hq
  have HL := Lib.hid h.1
  have HM := Lib.hid h2.1
  clear hp hq
  go_enter Tryd.func213, Tryd.ntmps213
  go_wp2
  go_loopw [6, 7, 8] (fun a b i wr => ∃ (j : Nat) (W R : Int), 1 ≤ j ∧ j ≤ m + 1 ∧ (1 < j → j ≤ n) ∧ a = .int .i64 W ∧ b = .int .i64 R ∧ i = .int .i64 j ∧ Hid (W * 1000000000000000 + R = cvS ps qs (j - 1)) ∧ (-1000 * (j - 1 : Int) ≤ W ∧ W ≤ 1000 * (j - 1 : Int)) ∧ (-1000000000000000 * (j - 1 : Int) ≤ R ∧ R ≤ 1000000000000000 * (j - 1 : Int)) ∧ Below w.heap.size w wr) (fun _ _ i _ => m + 1 - (intOf i).toNat)
  case atStart => exact ⟨1, 0, 0, Nat.le_refl _, by omega, by omega, rfl, rfl, rfl, Lib.hid rfl, by omega, by omega, Below.refl _ _⟩
  case round =>
    obtain ⟨j, W, R, hj1, hj2, hj3, rfl, rfl, rfl, HS, hW, hR, hb⟩ := hrel
    by_cases hlt : j < n
    · by_cases hlm : j ≤ m
      · obtain ⟨b, off, x, rfl, hbs, hx, hcx⟩ := (h.below hb).at_ hlt
        obtain ⟨t, ht⟩ : ∃ t, t = m - j := ⟨_, rfl⟩
        obtain ⟨b2, off2, y, rfl, hbs2, hy, hcy⟩ := (h2.below hb).at_ (k := t) (by omega)
        have hxv : ps.getD j 0 = x := by rw [List.getD_eq_getElem?_getD, hx]; rfl
        have hyv : qs.getD (qs.length - j) 0 = y := by rw [HM.out, ← ht, List.getD_eq_getElem?_getD, hy]; rfl
        have hpx := HP.out j
        have hqy := HQ.out (qs.length - j)
        rw [hxv] at hpx
        rw [hyv] at hqy
        have hmul := mul_small (-x) y 1000 1000000000000000 (by decide) (by omega) (by omega)
        have hnx := Lib.hid (cvS_next ps qs j hj1)
        rw [hxv, hyv] at hnx
        obtain ⟨X, hX⟩ : ∃ X, X = -x * y := ⟨_, rfl⟩
        have HX := Lib.hid hX
        have HT := Lib.hid ht
        have htm : t < m := by omega
        rw [← hX] at hmul
        have HXY : Hid (X = -(x * y)) := Lib.hid (by rw [hX]; exact Int.neg_mul x y)
        obtain ⟨Y, hY⟩ : ∃ Y, Y = -x := ⟨_, rfl⟩
        rw [← hY] at hX
        have hneg : IntKind.i64.wrap (-x) = Y := by rw [hY, IntKind.wrap_i64]; omega
        have hneg2 : wrap64 (-x) = Y := by rw [hY]; unfold wrap64; omega
        have hw2 : IntKind.i64.wrap (Y * y) = X := by rw [← hX, IntKind.wrap_i64]; omega
        have hidx : IntKind.i64.wrap ((m : Int) - (j : Int)) = (t : Int) := by rw [IntKind.wrap_i64]; omega
        obtain ⟨p1, p2, p3, p4, p5⟩ := tdiv_parts X (by omega)
        obtain ⟨Q, hQ⟩ : ∃ Q, Q = X.tdiv 1000000000000000 := ⟨_, rfl⟩
        obtain ⟨Z, hZ⟩ : ∃ Z, Z = X.tmod 1000000000000000 := ⟨_, rfl⟩
        rw [← hQ] at p1 p2 p3
        rw [← hZ] at p1 p4 p5
        have hq1 : wrap64 (W + X.tdiv 1000000000000000) = W + Q := by rw [← hQ]; unfold wrap64; omega
        have hq2 : wrap64 (R + X.tmod 1000000000000000) = R + Z := by rw [← hZ]; unfold wrap64; omega
        have HN : Hid ((W + Q) * 1000000000000000 + (R + Z) = cvS ps qs j) := Lib.hid (by
          have h9 := HS.out
          rw [← hnx.out]
          have := HXY.out
          omega)
        clear hx hy hxv hyv hX ht hQ hZ p1 hY HX
        go_wp2
        go_region
        go_wp2
        go_roundw
        case rel => exact ⟨j + 1, W + Q, R + Z, by omega, by omega, by omega, congrArg _ hq1, congrArg _ hq2, by go_num, HN, by omega, by omega, by first | exact below_drewN hb _ | exact hb.drew⟩
        case measure => simp [intOf]; omega
      · have HV : Hid (nextV ps qs = W * 1000000000000000 + R) := Lib.hid (by
          unfold nextV cvN
          rw [HL.out, HM.out, show min (n - 1) m = j - 1 by omega]; exact HS.out.symm)
        obtain ⟨p1, p2, p3, p4, p5⟩ := tdiv_parts R (by omega)
        obtain ⟨Q, hQ⟩ : ∃ Q, Q = R.tdiv 1000000000000000 := ⟨_, rfl⟩
        obtain ⟨Z, hZ⟩ : ∃ Z, Z = R.tmod 1000000000000000 := ⟨_, rfl⟩
        rw [← hQ] at p1 p2 p3
        rw [← hZ] at p1 p4 p5
        obtain ⟨V, hV⟩ : ∃ V, V = W + Q := ⟨_, rfl⟩
        have hq1 : wrap64 (W + R.tdiv 1000000000000000) = V := by rw [← hQ, hV]; unfold wrap64; omega
        have hVb : -40000 ≤ V ∧ V ≤ 40000 := by omega
        have HVS : Hid (W * 1000000000000000 + R = V * 1000000000000000 + Z) := Lib.hid (by omega)
        rw [HVS.out] at HV
        clear hV p1 p2 p3 hQ
        by_cases v1 : V < -1
        · have HM1 : Hid (maxB (nextV ps qs) = false) := Lib.hid (by rw [HV.out]; unfold maxB; rw [decide_eq_false (by omega)])
          go_wp2
          go_ret2
          rw [HM1.out]
          exact ⟨0, rfl, fun e => (by cases e), hb⟩
        · by_cases v2 : 1 < V
          · have HM1 : Hid (maxB (nextV ps qs) = false) := Lib.hid (by rw [HV.out]; unfold maxB; rw [decide_eq_false (by omega)])
            go_wp2
            go_ret2
            rw [HM1.out]
            exact ⟨0, rfl, fun e => (by cases e), hb⟩
          · obtain ⟨S, hS⟩ : ∃ S, S = V * 1000000000000000 + Z := ⟨_, rfl⟩
            have hSb : -9000000000000000 ≤ S ∧ S ≤ 9000000000000000 := by omega
            rw [← hS] at HV
            have hS1 : wrap64 (V * 1000000000000000 + R.tmod 1000000000000000) = S := by rw [← hZ, hS]; unfold wrap64; omega
            clear hS hZ
            by_cases s1 : -1000000000000000 ≤ S
            · by_cases s2 : S ≤ 1000000000000000
              · have HM1 : Hid (maxB (nextV ps qs) = true) := Lib.hid (by rw [HV.out]; unfold maxB; rw [decide_eq_true ⟨s1, s2⟩])
                go_wp2
                go_ret2
                rw [HM1.out]
                exact ⟨_, rfl, fun _ => HV.out.symm, hb⟩
              · have HM1 : Hid (maxB (nextV ps qs) = false) := Lib.hid (by rw [HV.out]; unfold maxB; rw [decide_eq_false (by omega)])
                go_wp2
                go_ret2
                rw [HM1.out]
                exact ⟨_, rfl, fun e => (by cases e), hb⟩
            · have HM1 : Hid (maxB (nextV ps qs) = false) := Lib.hid (by rw [HV.out]; unfold maxB; rw [decide_eq_false (by omega)])
              go_wp2
              go_ret2
              rw [HM1.out]; exact ⟨_, rfl, fun e => (by cases e), hb⟩
    · have HV : Hid (nextV ps qs = W * 1000000000000000 + R) := Lib.hid (by
          unfold nextV cvN
          rw [HL.out, HM.out, show min (n - 1) m = j - 1 by omega]; exact HS.out.symm)
      obtain ⟨p1, p2, p3, p4, p5⟩ := tdiv_parts R (by omega)
      obtain ⟨Q, hQ⟩ : ∃ Q, Q = R.tdiv 1000000000000000 := ⟨_, rfl⟩
      obtain ⟨Z, hZ⟩ : ∃ Z, Z = R.tmod 1000000000000000 := ⟨_, rfl⟩
      rw [← hQ] at p1 p2 p3
      rw [← hZ] at p1 p4 p5
      obtain ⟨V, hV⟩ : ∃ V, V = W + Q := ⟨_, rfl⟩
      have hq1 : wrap64 (W + R.tdiv 1000000000000000) = V := by rw [← hQ, hV]; unfold wrap64; omega
      have hVb : -40000 ≤ V ∧ V ≤ 40000 := by omega
      have HVS : Hid (W * 1000000000000000 + R = V * 1000000000000000 + Z) := Lib.hid (by omega)
      rw [HVS.out] at HV
      clear hV p1 p2 p3 hQ
      by_cases v1 : V < -1
      · have HM1 : Hid (maxB (nextV ps qs) = false) := Lib.hid (by rw [HV.out]; unfold maxB; rw [decide_eq_false (by omega)])
        go_wp2
        go_ret2
        rw [HM1.out]
        exact ⟨0, rfl, fun e => (by cases e), hb⟩
      · by_cases v2 : 1 < V
        · have HM1 : Hid (maxB (nextV ps qs) = false) := Lib.hid (by rw [HV.out]; unfold maxB; rw [decide_eq_false (by omega)])
          go_wp2
          go_ret2
          rw [HM1.out]
          exact ⟨0, rfl, fun e => (by cases e), hb⟩
        · obtain ⟨S, hS⟩ : ∃ S, S = V * 1000000000000000 + Z := ⟨_, rfl⟩
          have hSb : -9000000000000000 ≤ S ∧ S ≤ 9000000000000000 := by omega
          rw [← hS] at HV
          have hS1 : wrap64 (V * 1000000000000000 + R.tmod 1000000000000000) = S := by rw [← hZ, hS]; unfold wrap64; omega
          clear hS hZ
          by_cases s1 : -1000000000000000 ≤ S
          · by_cases s2 : S ≤ 1000000000000000
            · have HM1 : Hid (maxB (nextV ps qs) = true) := Lib.hid (by rw [HV.out]; unfold maxB; rw [decide_eq_true ⟨s1, s2⟩])
              go_wp2
              go_ret2
              rw [HM1.out]
              exact ⟨_, rfl, fun _ => HV.out.symm, hb⟩
            · have HM1 : Hid (maxB (nextV ps qs) = false) := Lib.hid (by rw [HV.out]; unfold maxB; rw [decide_eq_false (by omega)])
              go_wp2
              go_ret2
              rw [HM1.out]
              exact ⟨_, rfl, fun e => (by cases e), hb⟩
          · have HM1 : Hid (maxB (nextV ps qs) = false) := Lib.hid (by rw [HV.out]; unfold maxB; rw [decide_eq_false (by omega)])
            go_wp2
            go_ret2
            rw [HM1.out]; exact ⟨_, rfl, fun e => (by cases e), hb⟩
/-- The first elements of an inverse, or none. -/
def InvPost (w : World) (ps : List Int) (k : Nat) (e : Ending) (w' : World) : Prop :=
  (invB ps k = true ∧ ∃ A1 c1, e = .returned (.tuple #[.slice A1 (k + 1) c1, .bool true]) ∧ Own 2 w' w.heap.size A1 (k + 1) c1 (invQ ps k) ∧ Below w.heap.size w w') ∨ (invB ps k = false ∧ e = .returned (.tuple #[.slice none 0 0, .bool false]) ∧ Below w.heap.size w w')
theorem snoc_map (ys : List Int) (x : Int) : ys.map (Value.int .i64) ++ [Value.int .i64 x] = (ys ++ [x]).map (Value.int .i64) := by simp
set_option maxHeartbeats 1600000 in
theorem inverse_any (A : Option Addr) (n c k : Nat) (ps : List Int) (w : World) (h : Rd w A n ps) (hn : n ≤ 1048576) (hk : k ≤ 24) (hp : ∀ i, -1000 ≤ ps.getD i 0 ∧ ps.getD i 0 ≤ 1000) :
    Calls Tryd.prog 193 #[.slice A n c, .int .i64 (k : Int)] w (InvPost w ps k) := by
  have HP := Lib.hid hp
  obtain ⟨i0, hi, hz0, hz1, hz2⟩ := info_parts info_int
  clear hp
  go_enter Tryd.func193, Tryd.ntmps193
  go_wp2
  go_loopw [6, 11] (fun v i wr => ∃ (j : Nat) (A1 : Option Addr) (c1 : Nat), j ≤ k ∧ i = .int .i64 j ∧ v = .slice A1 (j + 1) c1 ∧ Own 2 wr w.heap.size A1 (j + 1) c1 (invQ ps j) ∧ Below w.heap.size w wr ∧ Hid (invB ps j = true)) (fun _ i _ => k - (intOf i).toNat)
  case atStart => exact ⟨0, _, 1, Nat.zero_le _, rfl, rfl, World.ownsRow_lit w #[.int .i64 1] 1 (Nat.le_refl _) (by unfold maxLen; omega) rfl, (Below.refl _ _).alloc (Nat.le_refl _) _, Lib.hid rfl⟩
  case round =>
    obtain ⟨j, A1, c1, hj, rfl, rfl, ho, hb, HI⟩ := hrel
    by_cases hlt : j < k
    · have hq := invQ_small ps j HI.out
      have HN := Lib.hid (nextOfInverse_any A A1 n c (j + 1) c1 ps (invQ ps j) wr (h.below hb) ho.rd hn (by omega) HP.out hq)
      have HB1 : Hid (invB ps (j + 1) = maxB (nextV ps (invQ ps j))) := Lib.hid (by rw [invB, HI.out]; rfl)
      have HQ1 : Hid (invQ ps (j + 1) = invQ ps j ++ [nextV ps (invQ ps j)]) := Lib.hid rfl
      obtain ⟨qs, hqs⟩ : ∃ qs, qs = invQ ps j := ⟨_, rfl⟩
      rw [← hqs] at HN HB1 HQ1 ho
      obtain ⟨V, hV⟩ : ∃ V, V = nextV ps qs := ⟨_, rfl⟩
      rw [← hV] at HN HB1 HQ1
      clear hqs hV hq
      go_wp2_with fail
      refine HN.out.mono ?_
      cases hM : maxB V
      · rw [hM] at HB1
        rintro e w2 ⟨X, rfl, -, hb2⟩
        clear hM
        go_wp2_with fail
        go_ret2
        exact .inr ⟨invB_no ps (j + 1) k (by omega) HB1.out, rfl, hb.trans (hb2.mono hb.size)⟩
      · rw [hM] at HB1
        rintro e w2 ⟨X, rfl, hX, hb2⟩
        have hX2 := hX rfl
        clear hX hM
        subst hX2
        have ho2 := ho.below hb2
        have hb12 := hb.trans (hb2.mono hb.size)
        have hml : j + 1 + 1 ≤ maxLen := by unfold maxLen; omega
        have hby2 : (j + 1 + 1) * 8 ≤ 140737488355328 := by omega
        go_wp2_with (at_builtin; refine wpList_append_own _ rfl _ _ 22 rfl w.heap.size 2 i0 (.int .i64 0) 1 8 Tryd.underlying22 hi hz0 hz1 hz2 rfl (by decide) (.slice A1 (j + 1) c1) (j + 1) (qs.map (Value.int .i64)) rfl (World.ownsRow.alloc ho2 _) ⟨w2.heap.size, 0, none⟩ 1 1 [.int .i64 X] rfl rfl ?s1 ?s2 hml hby2 ?s5 ?_)
        case s1 => exact cell_one_new _ _ _
        case s2 => intro u hu; simp at hu; subst hu; rfl
        case s5 => have := hb12.size; simp; omega
        intro v' w3 hown hg _
        rw [snoc_map, ← HQ1.out] at hown
        have hb3 : Below w.heap.size w w3 := (hb12.alloc hb12.size _).grown hg (by have := hb12.size; simp; omega) (fun g hgr => (World.ownsRow.lt ho2 g hgr).1)
        obtain ⟨A2, c2, hv, ho3⟩ := own_shape hown
        rw [hv]
        clear hg hown hv
        go_wp2_with fail
        go_roundw
        case rel => exact ⟨j + 1, A2, c2, by omega, by go_num, rfl, ho3, hb3, HB1⟩
        case measure => simp [intOf]; omega
    · obtain rfl : j = k := by omega
      go_wp2
      go_ret2
      exact .inl ⟨HI.out, A1, c1, rfl, ho, hb⟩
end Go.Proofs.YtcojodkcpemfdaaDoor
namespace Go.Proofs.YtcojodkcpemfdaaDoor
open Go Go.RowKit
set_option linter.unusedVariables false
set_option maxRecDepth 100000

def pS (f : Nat → Int) : List Nat → Int
  | [] => 0
  | s :: l => f s + pS f l
theorem pS_append (f : Nat → Int) (b : List Nat) : ∀ a, pS f (a ++ b) = pS f a + pS f b
  | [] => by simp [pS]
  | s :: a => by rw [List.cons_append, pS, pS, pS_append f b a]; omega
theorem pS_map (f : Nat → Int) (g : Nat → Nat) : ∀ a, pS f (a.map g) = pS (fun s => f (g s)) a
  | [] => rfl
  | s :: a => by rw [List.map_cons, pS, pS, pS_map f g a]
theorem pS_congr (f g : Nat → Int) : ∀ a, (∀ s, s ∈ a → f s = g s) → pS f a = pS g a
  | [], _ => rfl
  | s :: a, h => by rw [pS, pS, h s List.mem_cons_self, pS_congr f g a fun t ht => h t (List.mem_cons_of_mem _ ht)]
theorem pS_neg (f : Nat → Int) : ∀ a, pS (fun s => - f s) a = - pS f a
  | [] => rfl
  | s :: a => by rw [pS, pS, pS_neg f a]; omega
theorem pS_zero : ∀ a, pS (fun _ => 0) a = 0
  | [] => rfl
  | s :: a => by rw [pS, pS_zero a]; rfl
/-- What a set of k letters adds. -/
def kT (M : Nat → Int) (m k : Nat) : Int := if k ≤ m then sgnM k * M (m - k) else 0
def allP (p : Nat → Bool) (s : Nat) : Bool := (List.range 8).all fun i => !s.testBit i || p i
theorem allP_iff (p : Nat → Bool) (s : Nat) (hs : s < 256) : allP p s = true ↔ ∀ i, s.testBit i = true → p i = true := by
  unfold allP
  rw [List.all_eq_true]
  constructor
  · intro h i hi
    have h8 : i < 8 := by
      rcases Nat.lt_or_ge i 8 with h9 | h9
      · exact h9
      · rw [Nat.testBit_lt_two_pow (Nat.lt_of_lt_of_le hs (Nat.pow_le_pow_right (by decide) h9 : 2 ^ 8 ≤ 2 ^ i))] at hi; cases hi
    have := h i (List.mem_range.2 h8)
    rw [hi] at this; simpa using this
  · intro h i _
    cases e : s.testBit i with
    | false => rfl
    | true => rw [h i e]; rfl
theorem ones24_or (s k : Nat) (hk : k < 8) (hs : s < 2 ^ k) : ones24 (s ||| 2 ^ k) = ones24 s + 1 := by
  have h1 : ∀ k, k < 8 → ∀ s, s < 2 ^ k → ones8 (s ||| 2 ^ k) = ones8 s + 1 := by decide
  have h256 : 2 ^ k ≤ 128 := Nat.pow_le_pow_right (by decide) (by omega : k ≤ 7)
  have hor : s ||| 2 ^ k < 256 := Nat.or_lt_two_pow (n := 8) (by omega) (by omega)
  have h2 := h1 k hk s hs
  unfold ones24
  rw [show s / 256 % 256 = 0 by omega, show s / 65536 = 0 by omega, show s % 256 = s by omega, show (s ||| 2 ^ k) / 256 % 256 = 0 by omega, show (s ||| 2 ^ k) / 65536 = 0 by omega, show (s ||| 2 ^ k) % 256 = (s ||| 2 ^ k) by omega]
  omega
theorem sgnM_next (k : Nat) : sgnM (k + 1) = - sgnM k := by unfold sgnM; omega
theorem kT_next (M : Nat → Int) (m k : Nat) : kT M (m + 1) (k + 1) = - kT M m k := by
  unfold kT
  by_cases h : k ≤ m
  · rw [if_pos h, if_pos (by omega), sgnM_next, Int.neg_mul, show m + 1 - (k + 1) = m - k by omega]
  · rw [if_neg h, if_neg (by omega)]; rfl
theorem kT_low (M : Nat → Int) (k : Nat) : kT M 0 (k + 1) = 0 := by unfold kT; rw [if_neg (by omega)]
theorem filter_map' (f : Nat → Nat) (q : Nat → Bool) : ∀ l : List Nat, (l.map f).filter q = (l.filter fun s => q (f s)).map f
  | [] => rfl
  | s :: l => by
    rw [List.map_cons, List.filter_cons, List.filter_cons, filter_map' f q l]
    split <;> rfl
/-- The sets within p: the sum over them, letter after letter. -/
theorem fam_sum (D : Nat → Nat → Bool) (M : Nat → Int) (fit : Nat → Nat → Bool) (n : Nat) (h8 : n ≤ 8) (hfit : ∀ s k, k < n → s < 2 ^ k → fit s k = allP (fun x => !D k x) s) :
    ∀ k, k ≤ n → ∀ p m, pS (fun s => kT M m (ones24 s)) ((famM fit (List.range k)).filter (allP p)) = gAll D M m ((List.range k).filter p).reverse := by
  intro k
  induction k with
  | zero =>
    intro _ p m
    have e0 : (famM fit (List.range 0)).filter (allP p) = [0] := by
      have : allP p 0 = true := (allP_iff p 0 (by decide)).2 (fun i hi => by simp at hi)
      show ([0] : List Nat).filter (allP p) = [0]
      rw [List.filter_cons, this]; rfl
    rw [e0]
    have o0 : ones24 0 = 0 := by decide
    show kT M m (ones24 0) + 0 = _
    rw [o0]
    unfold kT
    rw [if_pos (Nat.zero_le _), show sgnM 0 = 1 by decide]
    cases m with
    | zero => show 1 * M 0 + 0 = M 0; omega
    | succ m => show 1 * M (m + 1) + 0 = M (m + 1); omega
  | succ k ih =>
    intro hk p m
    have ih' := ih (by omega)
    have hlt : ∀ s, s ∈ famM fit (List.range k) → s < 2 ^ k := famM_lt fit (List.range k) k (fun q hq => List.mem_range.1 hq)
    have hp256 : 2 ^ k ≤ 128 := Nat.pow_le_pow_right (by decide) (by omega : k ≤ 7)
    rw [List.range_succ, famM_snoc]
    unfold famStep
    rw [List.filter_append, pS_append, ih' p m, filter_map', pS_map, List.filter_append]
    have hor : ∀ s, s < 2 ^ k → allP p (s ||| 2 ^ k) = (allP p s && p k) := by
      intro s hs
      rw [Bool.eq_iff_iff, Bool.and_eq_true, allP_iff p _ (Nat.or_lt_two_pow (n := 8) (by omega) (by omega)), allP_iff p s (by omega)]
      constructor
      · intro h
        exact ⟨fun i hi => h i (by rw [Nat.testBit_or, hi]; rfl), h k (by rw [Nat.testBit_or, Nat.testBit_two_pow_self, Bool.or_true])⟩
      · rintro ⟨h1, h2⟩ i hi
        rw [Nat.testBit_or, Bool.or_eq_true] at hi
        rcases hi with hi | hi
        · exact h1 i hi
        · rw [Nat.testBit_two_pow] at hi
          have : k = i := by simpa using hi
          rw [← this]; exact h2
    by_cases hp : p k = true
    · have e1 : [k].filter p = [k] := by simp [hp]
      rw [e1, List.reverse_append, List.reverse_singleton, List.singleton_append]
      have e2 : ((famM fit (List.range k)).filter fun s => fit s k).filter (fun s => allP p (s ||| 2 ^ k)) = (famM fit (List.range k)).filter (allP fun x => p x && !D k x) := by
        rw [List.filter_filter]
        refine List.filter_congr fun s hs => ?_
        have hs2 := hlt s hs
        rw [hor s hs2, hp, Bool.and_true, hfit s k (by omega) hs2, Bool.eq_iff_iff, Bool.and_eq_true, allP_iff _ s (by omega), allP_iff _ s (by omega), allP_iff _ s (by omega)]
        constructor
        · rintro ⟨h1, h2⟩ i hi
          rw [h1 i hi, h2 i hi]; rfl
        · intro h
          refine ⟨fun i hi => ?_, fun i hi => ?_⟩
          · have := h i hi
            rw [Bool.and_eq_true] at this; exact this.1
          · have := h i hi
            rw [Bool.and_eq_true] at this; exact this.2
      rw [e2]
      have e3 : ∀ s, s ∈ (famM fit (List.range k)).filter (allP fun x => p x && !D k x) → kT M m (ones24 (s ||| 2 ^ k)) = kT M m (ones24 s + 1) := fun s hs => by
        rw [ones24_or s k (by omega) (hlt s (List.mem_filter.1 hs).1)]
      rw [pS_congr _ _ _ e3]
      have e4 : (((List.range k).filter p).reverse).filter (fun x => !D k x) = ((List.range k).filter fun x => p x && !D k x).reverse := by
        rw [List.filter_reverse, List.filter_filter]
        congr 1
        exact List.filter_congr fun x _ => Bool.and_comm _ _
      cases m with
      | zero =>
        rw [pS_congr _ (fun _ => 0) _ (fun s _ => kT_low M (ones24 s)), pS_zero]
        show gAll D M 0 _ + 0 = gAll D M 0 _
        rw [Int.add_zero]; rfl
      | succ m =>
        rw [pS_congr _ (fun s => - kT M m (ones24 s)) _ (fun s _ => kT_next M m (ones24 s)), pS_neg, ih' _ m]
        show gStep D (M (m + 1)) (gAll D M m) _ + _ = gStep D (M (m + 1)) (gAll D M m) (k :: _)
        rw [gStep, e4]; rfl
    · have e1 : [k].filter p = [] := by simp [hp]
      rw [e1, List.append_nil]
      have e2 : ((famM fit (List.range k)).filter fun s => fit s k).filter (fun s => allP p (s ||| 2 ^ k)) = [] := by
        rw [List.filter_eq_nil_iff]
        intro s hs
        rw [hor s (hlt s (List.mem_filter.1 hs).1)]
        simp [hp]
      rw [e2]
      show _ + (0 : Int) = _
      rw [Int.add_zero]
/-- A list of coefficients against a function. -/
def lS (f : Nat → Int) : List Int → Nat → Int
  | [], _ => 0
  | x :: l, j => x * f j + lS f l (j + 1)
theorem lS_zeros (f : Nat → Int) : ∀ k (l : List Int) j, lS f (l ++ List.replicate k 0) j = lS f l j := by
  have h0 : ∀ k j, lS f (List.replicate k 0) j = 0 := by
    intro k
    induction k with
    | zero => intro j; rfl
    | succ k ih => intro j; rw [List.replicate_succ, lS, ih]; simp
  intro k l
  induction l with
  | nil => intro j; exact h0 k j
  | cons x l ih => intro j; rw [List.cons_append, lS, lS, ih]
theorem lS_set (f : Nat → Int) (v : Int) : ∀ (l : List Int) (k j : Nat), k < l.length → lS f (l.set k (l.getD k 0 + v)) j = lS f l j + v * f (j + k)
  | [], k, j, h => by simp at h
  | x :: l, 0, j, _ => by
    show (x + v) * f j + lS f l (j + 1) = x * f j + lS f l (j + 1) + v * f (j + 0)
    rw [Int.add_mul, show j + 0 = j from rfl]; omega
  | x :: l, k + 1, j, h => by
    have ih := lS_set f v l k (j + 1) (by simp at h; omega)
    show x * f j + lS f (l.set k (l.getD k 0 + v)) (j + 1) = x * f j + lS f l (j + 1) + v * f (j + (k + 1))
    rw [ih, show j + 1 + k = j + (k + 1) by omega]; omega
theorem lS_step (f : Nat → Int) (xs : List Int) (s : Nat) : lS f (cpStep xs s) 0 = lS f xs 0 + sgnM (ones24 s) * f (ones24 s) := by
  unfold cpStep
  rw [lS_set f _ _ _ 0 (by rw [padM_len]; omega), Nat.zero_add]
  congr 1
  unfold padM
  exact lS_zeros f _ xs 0
theorem lS_cp (f : Nat → Int) : ∀ (fs : List Nat) (xs : List Int), lS f (fs.foldl cpStep xs) 0 = lS f xs 0 + pS (fun s => sgnM (ones24 s) * f (ones24 s)) fs
  | [], xs => by simp [pS]
  | s :: fs, xs => by rw [List.foldl_cons, lS_cp f fs, lS_step, pS]; omega
end Go.Proofs.YtcojodkcpemfdaaDoor
namespace Go.Proofs.YtcojodkcpemfdaaDoor
open Go Go.RowKit
set_option linter.unusedVariables false
set_option maxRecDepth 100000

theorem rdepS_sym (rs : List Nat) (n : Nat) (hn : rs.length = n) (hr : ∀ i, rs.getD i 0 < 2 ^ n) (hd : Dep rs) : ∀ a b, RDep rs a b = RDep rs b a := by
  have hout : ∀ a b, n ≤ a ∨ n ≤ b → RDep rs a b = false := by
    intro a b h
    unfold RDep
    rcases Nat.lt_or_ge a n with ha | ha
    · have hb : n ≤ b := by omega
      exact Nat.testBit_lt_two_pow (Nat.lt_of_lt_of_le (hr a) (Nat.pow_le_pow_right (by decide) hb))
    · rw [List.getD_eq_getElem?_getD, List.getElem?_eq_none (by omega)]; simp
  intro a b
  rcases Nat.lt_or_ge a n with ha | ha
  · rcases Nat.lt_or_ge b n with hb | hb
    · rw [Bool.eq_iff_iff]; exact hd.2 a b (by omega) (by omega)
    · rw [hout a b (.inr hb), hout b a (.inl hb)]
  · rw [hout a b (.inl ha), hout b a (.inr ha)]
theorem fit_ind (rs : List Nat) (n : Nat) (hn : rs.length = n) (h8 : n ≤ 8) (hr : ∀ i, rs.getD i 0 < 2 ^ n) (hd : Dep rs) (s k : Nat) (hk : k < n) (hs : s < 2 ^ k) : fitC (mutM (cplM rs)) s k = allP (fun x => !RDep rs k x) s := by
  have h24 : n ≤ 24 := by omega
  have hcl : (cplM rs).length = n := by rw [cplM_len, hn]
  have hclt := cplM_lt rs n hn h24 hr
  have hs2 : s < 2 ^ n := Nat.lt_trans hs (Nat.pow_lt_pow_right (by decide) hk)
  have hp := p24 n h24
  have hp8 : 2 ^ n ≤ 256 := Nat.pow_le_pow_right (by decide) h8
  have hmk := mutM_lt (cplM rs) n hcl hclt k
  rw [Bool.eq_iff_iff, allP_iff _ s (by omega)]
  unfold fitC
  rw [beq_iff_eq, dif_zero s _ (by omega) (by omega)]
  have hu : ∀ b, (((mutM (cplM rs)).getD k 0).testBit b = true ↔ b < n ∧ (¬ R rs k b ∨ b = k)) := by
    intro b
    rw [mutM_bit (cplM rs) n hcl k b hk]
    constructor
    · rintro ⟨h1, h2, h3⟩
      exact (cpl_R rs n hn h24 hr k b hk).1 h3
    · rintro ⟨h1, h2⟩
      refine ⟨h1, (cpl_R rs n hn h24 hr b k h1).2 ⟨hk, ?_⟩, (cpl_R rs n hn h24 hr k b hk).2 ⟨h1, h2⟩⟩
      rcases h2 with h2 | h2
      · exact .inl fun e => h2 ((hd.2 k b (by omega) (by omega)).2 e)
      · exact .inr h2.symm
  constructor
  · intro h b hb
    have hbk := bit_lt hs hb
    rcases ((hu b).1 (h b hb)).2 with h1 | h1
    · have : RDep rs k b = false := by
        cases e : RDep rs k b
        · rfl
        · exact absurd e h1
      rw [this]; rfl
    · omega
  · intro h b hb
    have hbk := bit_lt hs hb
    refine (hu b).2 ⟨by omega, .inl fun e => ?_⟩
    have h1 := h b hb
    have e' : RDep rs k b = true := e
    rw [e'] at h1; cases h1
def traM (rs : List Nat) (m : Nat) : Int := tM (RDep rs) rs.length m
theorem traM_zero (rs : List Nat) : traM rs 0 = 1 := rfl
theorem steps_sum (rs : List Nat) (n : Nat) (hn : rs.length = n) (h8 : n ≤ 8) (hr : ∀ i, rs.getD i 0 < 2 ^ n) (hd : Dep rs) (m : Nat) :
    pS (fun s => kT (traM rs) m (ones24 s)) (stepsM rs) = if m = 0 then 1 else 0 := by
  have hsym := rdepS_sym rs n hn hr hd
  have h1 := fam_sum (RDep rs) (traM rs) (fitC (mutM (cplM rs))) n h8 (fun s k hk hs => fit_ind rs n hn h8 hr hd s k hk hs) n (Nat.le_refl _) (fun _ => true) m
  have e0 : (famM (fitC (mutM (cplM rs))) (List.range n)).filter (allP fun _ => true) = stepsM rs := by
    rw [← steps_eq rs n hn h8 hr hd]
    unfold cliqM
    rw [cplM_len, hn, List.filter_eq_self]
    intro s _
    unfold allP
    rw [List.all_eq_true]
    intro i _; rw [Bool.or_true]
  have e1 : (List.range n).filter (fun _ => true) = List.range n := List.filter_eq_self.2 fun _ _ => rfl
  rw [e0, e1] at h1
  rw [h1]
  have hM : traM rs = tM (RDep rs) n := by funext q; unfold traM; rw [hn]
  rw [hM, gAll_perm (RDep rs) (tM (RDep rs) n) hsym m _ _ (List.reverse_perm _)]
  cases m with
  | zero => rfl
  | succ m => rw [gAll_full (RDep rs) hsym n m, if_neg (by omega)]
def fM (M : Nat → Int) (m j : Nat) : Int := if j ≤ m then M (m - j) else 0
theorem poly_sum (rs : List Nat) (n : Nat) (hn : rs.length = n) (h8 : n ≤ 8) (hr : ∀ i, rs.getD i 0 < 2 ^ n) (hd : Dep rs) (m : Nat) :
    lS (fM (traM rs) m) (cpM (stepsM rs)) 0 = if m = 0 then 1 else 0 := by
  unfold cpM
  rw [lS_cp, ← steps_sum rs n hn h8 hr hd m]
  show 0 + _ = _
  rw [Int.zero_add]
  refine pS_congr _ _ _ fun s _ => ?_
  unfold kT fM
  split
  · rfl
  · rw [Int.mul_zero]
theorem lS_low (f : Nat → Int) (a : Nat) (h : ∀ j, a ≤ j → f j = 0) : ∀ (l : List Int) (j : Nat), a ≤ j → lS f l j = 0
  | [], _, _ => rfl
  | x :: l, j, hj => by rw [lS, h j hj, lS_low f a h l (j + 1) (by omega)]; simp
theorem lS_append (f : Nat → Int) (b : List Int) : ∀ (a : List Int) (j : Nat), lS f (a ++ b) j = lS f a j + lS f b (j + a.length)
  | [], j => by simp [lS]
  | x :: a, j => by rw [List.cons_append, lS, lS, lS_append f b a (j + 1), List.length_cons, show j + 1 + a.length = j + (a.length + 1) by omega]; omega
/-- The coefficient of the empty set is 1. -/
theorem poly_head (rs : List Nat) (n : Nat) (hn : rs.length = n) (h8 : n ≤ 8) (hr : ∀ i, rs.getD i 0 < 2 ^ n) (hd : Dep rs) : ∃ l, cpM (stepsM rs) = 1 :: l := by
  have h := poly_sum rs n hn h8 hr hd 0
  cases e : cpM (stepsM rs) with
  | nil => rw [e] at h; simp [lS] at h
  | cons x l =>
    rw [e] at h
    have e0 : fM (traM rs) 0 0 = 1 := rfl
    rw [lS, e0, lS_low _ 1 (fun j hj => by unfold fM; rw [if_neg (by omega)]) l 1 (Nat.le_refl _), if_pos rfl] at h
    exact ⟨l, by rw [show x = 1 by omega]⟩
theorem cv_lS (M : Nat → Int) (m : Nat) (l q : List Int) (hq : q = (List.range (m + 1)).map M) : ∀ K, K ≤ l.length → K ≤ m + 1 → cvS (1 :: l) q K = - lS (fM M (m + 1)) (l.take K) 1
  | 0, _, _ => by simp [cvS, lS]
  | K + 1, h1, h2 => by
    have ih := cv_lS M m l q hq K (by omega) (by omega)
    have hl : l[K]? = some l[K] := List.getElem?_eq_getElem (by omega)
    rw [cvS, ih, List.take_add_one, hl]
    show _ = - lS (fM M (m + 1)) (l.take K ++ [l[K]]) 1
    rw [lS_append, List.length_take, Nat.min_eq_left (by omega)]
    have e1 : (1 :: l).getD (K + 1) 0 = l[K] := by rw [List.getD_eq_getElem?_getD, List.getElem?_cons_succ, hl]; rfl
    have e2 : q.getD (q.length - (K + 1)) 0 = M (m - K) := by
      rw [hq, List.length_map, List.length_range, List.getD_eq_getElem?_getD, List.getElem?_map, List.getElem?_range (by omega)]
      show M (m + 1 - (K + 1)) = _
      rw [show m + 1 - (K + 1) = m - K by omega]
    have e3 : lS (fM M (m + 1)) [l[K]] (1 + K) = l[K] * M (m - K) := by
      show l[K] * fM M (m + 1) (1 + K) + 0 = _
      unfold fM
      rw [if_pos (by omega), show m + 1 - (1 + K) = m - K by omega, Int.add_zero]
    rw [e1, e2, e3]; omega
theorem next_tra (rs : List Nat) (n : Nat) (hn : rs.length = n) (h8 : n ≤ 8) (hr : ∀ i, rs.getD i 0 < 2 ^ n) (hd : Dep rs) (m : Nat) (q : List Int) (hq : q = (List.range (m + 1)).map (traM rs)) :
    nextV (cpM (stepsM rs)) q = traM rs (m + 1) := by
  obtain ⟨l, hl⟩ := poly_head rs n hn h8 hr hd
  have h := poly_sum rs n hn h8 hr hd (m + 1)
  rw [hl] at h ⊢
  have hqm : q.length = m + 1 := by rw [hq, List.length_map, List.length_range]
  unfold nextV cvN
  rw [hqm, List.length_cons, Nat.add_sub_cancel]
  obtain ⟨K, hK⟩ : ∃ K, K = min l.length (m + 1) := ⟨_, rfl⟩
  rw [← hK, cv_lS (traM rs) m l q hq K (by omega) (by omega)]
  rw [lS, if_neg (by omega)] at h
  have e0 : fM (traM rs) (m + 1) 0 = traM rs (m + 1) := rfl
  rw [e0] at h
  have e1 : lS (fM (traM rs) (m + 1)) l 1 = lS (fM (traM rs) (m + 1)) (l.take K) 1 := by
    conv => lhs; rw [← List.take_append_drop K l]
    rw [lS_append, List.length_take]
    by_cases hlm : l.length ≤ m + 1
    · rw [List.drop_of_length_le (by omega)]; simp [lS]
    · rw [lS_low _ (m + 2) (fun j hj => by unfold fM; rw [if_neg (by omega)]) (l.drop K) _ (by omega), Int.add_zero]
  rw [e1] at h
  omega
theorem inv_tra (rs : List Nat) (n : Nat) (hn : rs.length = n) (h8 : n ≤ 8) (hr : ∀ i, rs.getD i 0 < 2 ^ n) (hd : Dep rs) : ∀ m, invQ (cpM (stepsM rs)) m = (List.range (m + 1)).map (traM rs)
  | 0 => rfl
  | m + 1 => by
    have ih := inv_tra rs n hn h8 hr hd m
    rw [invQ, next_tra rs n hn h8 hr hd m _ ih, ih, List.range_succ (n := m + 1), List.map_append]; rfl
theorem tra_nonneg (rs : List Nat) (m : Nat) : 0 ≤ traM rs m := tp_nonneg _ _ _ _
theorem tra_none (rs : List Nat) (h : rs.length = 0) (m : Nat) : traM rs (m + 1) = 0 := by
  unfold traM; rw [h]; rfl
def cntC : Int := 1000000000000000
/-- The inverse stays small exactly if its last element is. -/
theorem inv_ok (rs : List Nat) (n : Nat) (hn : rs.length = n) (h8 : n ≤ 8) (hr : ∀ i, rs.getD i 0 < 2 ^ n) (hd : Dep rs) : ∀ m, invB (cpM (stepsM rs)) m = decide (traM rs m ≤ cntC)
  | 0 => by rw [traM_zero]; rfl
  | m + 1 => by
    rw [invB, inv_ok rs n hn h8 hr hd m, next_tra rs n hn h8 hr hd m _ (inv_tra rs n hn h8 hr hd m)]
    have h0 := tra_nonneg rs (m + 1)
    have hm : traM rs m ≤ traM rs (m + 1) ∨ traM rs m ≤ 1 ∧ traM rs (m + 1) = 0 := by
      rcases Nat.eq_zero_or_pos rs.length with e | e
      · right
        refine ⟨?_, tra_none rs e m⟩
        cases m with
        | zero => rw [traM_zero]; decide
        | succ m => rw [tra_none rs e m]; decide
      · exact .inl (tM_mono (RDep rs) rs.length m e)
    unfold maxB cntC
    rw [Bool.eq_iff_iff, Bool.and_eq_true, decide_eq_true_eq, decide_eq_true_eq, decide_eq_true_eq]
    omega
end Go.Proofs.YtcojodkcpemfdaaDoor
namespace Go.Proofs.YtcojodkcpemfdaaDoor
open Go Go.RowKit
set_option linter.unusedVariables false
set_option maxRecDepth 100000

/-- The number and whether it is small. -/
def ctN (rs : List Nat) (k : Nat) : Int := if traM rs k ≤ cntC then traM rs k else 0
def ctB (rs : List Nat) (k : Nat) : Bool := decide (traM rs k ≤ cntC)
theorem poly_small (rs : List Nat) (n : Nat) (hn : rs.length = n) (h8 : n ≤ 8) (i : Nat) : -1000 ≤ (cpM (stepsM rs)).getD i 0 ∧ (cpM (stepsM rs)).getD i 0 ≤ 1000 := by
  have h1 := (cp_facts (stepsM rs) (steps_lt rs (by omega)) _ (Nat.le_refl _)).2 i
  rw [List.take_length] at h1
  have h2 := stepsM_len rs (by omega)
  omega
set_option maxHeartbeats 800000 in
theorem countTraces_any (A : Option Addr) (n c k : Nat) (rs : List Nat) (w : World) (h : Rd w A n (ints rs)) (h8 : n ≤ 8) (hr : ∀ i, rs.getD i 0 < 2 ^ n) (hd : Dep rs) (hT : Tab w) (hk : k ≤ 24) :
    Calls Tryd.prog 153 #[.slice A n c, .int .i64 (k : Int)] w fun e w' => e = .returned (.tuple #[.int .i64 (ctN rs k), .bool (ctB rs k)]) ∧ Below w.heap.size w w' := by
  have hl : rs.length = n := by have := h.1; rw [ints_len] at this; exact this
  have HP := Lib.hid (poly_small rs n hl h8)
  have HCP := Lib.hid (cliquePolynomial_any A n c rs w h h8 hr hd hT)
  have hplen := cpM_len rs (by omega)
  have HOK := Lib.hid (inv_ok rs n hl h8 hr hd k)
  have HQ := Lib.hid (inv_tra rs n hl h8 hr hd k)
  obtain ⟨ps, hps⟩ : ∃ ps, ps = cpM (stepsM rs) := ⟨_, rfl⟩
  rw [← hps] at HP HCP hplen HOK HQ
  obtain ⟨P, hP⟩ : ∃ P, P = ps.length := ⟨_, rfl⟩
  rw [← hP] at HCP hplen
  have HN : Hid (ctN rs k = if traM rs k ≤ cntC then traM rs k else 0) := Lib.hid rfl
  have HBB : Hid (ctB rs k = decide (traM rs k ≤ cntC)) := Lib.hid rfl
  clear hl hps hP h hr hd hT
  go_enter Tryd.func153, Tryd.ntmps153
  go_wp2_with fail
  refine HCP.out.mono ?_
  rintro e w1 ⟨A1, c1, rfl, ho1, hb1⟩
  have HI := Lib.hid (inverse_any A1 P c1 k ps w1 ho1.rd (by omega) hk HP.out)
  go_wp2_with fail
  refine HI.out.mono ?_
  by_cases hM : traM rs k ≤ cntC
  · have HT := Lib.hid hM
    rintro e w2 (⟨hi, A2, c2, rfl, ho2, hb2⟩ | ⟨hi, _⟩)
    · have hb12 := hb1.trans (hb2.mono hb1.size)
      rw [HQ.out] at ho2
      have hx : ((List.range (k + 1)).map (traM rs))[k]? = some (traM rs k) := by rw [List.getElem?_map, List.getElem?_range (by omega)]; rfl
      obtain ⟨g, rfl, hgB, hgl⟩ := ho2.form (by omega)
      have hc := ho2.cell hx
      obtain ⟨V, hV⟩ : ∃ V, V = traM rs k := ⟨_, rfl⟩
      rw [← hV] at hc
      have HVV := Lib.hid hV
      have hk1 : k < k + 1 := Nat.lt_succ_self k
      clear hi hM hx hV ho2
      go_wp2_with fail
      go_ret2
      rw [HN.out, HBB.out, if_pos HT.out, decide_eq_true HT.out, ← HVV.out]
      exact ⟨rfl, hb12⟩
    · rw [HOK.out, decide_eq_true HT.out] at hi; cases hi
  · have HT := Lib.hid hM
    rintro e w2 (⟨hi, _⟩ | ⟨hi, rfl, hb2⟩)
    · rw [HOK.out, decide_eq_false (by have := HT.out; omega)] at hi; cases hi
    · have hb12 := hb1.trans (hb2.mono hb1.size)
      clear hi hM
      go_wp2_with fail
      go_ret2
      rw [HN.out, HBB.out, if_neg (by have := HT.out; omega), decide_eq_false (by have := HT.out; omega)]
      exact ⟨rfl, hb12⟩
end Go.Proofs.YtcojodkcpemfdaaDoor
namespace Go.Proofs.YtcojodkcpemfdaaDoor
open Go.RowKit
set_option linter.unusedVariables false
set_option linter.unusedSimpArgs false
set_option maxRecDepth 100000

/-- A row of slices of the call's own: address, capacity and numbers of each. -/
def valsT (ts : List (Option Addr × Nat × List Int)) : List Value := ts.map fun t => Value.slice t.1 t.2.2.length t.2.1
def OwnT (w : World) (lo hi : Nat) (A : Option Addr) (n c : Nat) (ts : List (Option Addr × Nat × List Int)) : Prop :=
  ts.length = n ∧ w.ownsRow lo 22 1 (.slice A n c) n (valsT ts) ∧ (∀ q, A.map (·.block) = some q → q < hi) ∧
  ∀ (j : Nat) (t : Option Addr × Nat × List Int), ts[j]? = some t → Own 2 w lo t.1 t.2.2.length t.2.1 t.2.2 ∧ ∀ q, t.1.map (·.block) = some q → q < hi ∧ A.map (·.block) ≠ some q ∧ ∀ (l : Nat) (u : Option Addr × Nat × List Int), l ≠ j → ts[l]? = some u → u.1.map (·.block) ≠ some q
def OwnSS (w : World) (lo hi : Nat) (A : Option Addr) (n c : Nat) (xss : List (List Int)) : Prop := ∃ ts, ts.map (fun t => t.2.2) = xss ∧ OwnT w lo hi A n c ts
theorem row_block {w : World} {lo n c : Nat} {E : TypeId} {A : Option Addr} {vs : List Value} (h : w.ownsRow lo E 1 (.slice A n c) n vs) (q : Nat) (hq : A.map (·.block) = some q) : lo ≤ q ∧ q < w.heap.size := by
  refine World.ownsRow.lt h q ?_
  cases A with
  | none => cases hq
  | some a => simpa [Value.ownBlock] using hq
theorem row_kept {w w' : World} {lo n c : Nat} {E : TypeId} {A : Option Addr} {vs : List Value} (h : w.ownsRow lo E 1 (.slice A n c) n vs) {row : Option Nat} (hg : w.grownBy w' row) (hne : ∀ q, A.map (·.block) = some q → row ≠ some q) : w'.ownsRow lo E 1 (.slice A n c) n vs := by
  refine World.ownsRow.kept h hg ?_
  cases A with
  | none => exact .inl rfl
  | some a =>
    refine .inr ?_
    intro e
    exact hne a.block rfl (by simpa [Value.ownBlock] using e.symm)
theorem OwnT.lt {w : World} {lo hi n c : Nat} {A : Option Addr} {ts : List (Option Addr × Nat × List Int)} (h : OwnT w lo hi A n c ts) (q : Nat) (hq : A.map (·.block) = some q) : lo ≤ q ∧ q < hi := ⟨(row_block h.2.1 q hq).1, h.2.2.1 q hq⟩
theorem OwnT.apart {w w' : World} {lo hi n c : Nat} {A : Option Addr} {ts : List (Option Addr × Nat × List Int)} (h : OwnT w lo hi A n c ts) {row : Option Nat} (hg : w.grownBy w' row) (hne : ∀ r, row = some r → r < lo ∨ hi ≤ r) : OwnT w' lo hi A n c ts := by
  refine ⟨h.1, row_kept h.2.1 hg (fun q hq e => ?_), h.2.2.1, fun j t ht => ⟨((h.2.2.2 j t ht).1).apart hg (fun q hq e => ?_), (h.2.2.2 j t ht).2⟩⟩
  · have h1 := h.lt q hq
    rcases hne q e with h2 | h2 <;> omega
  · have h1 := ((h.2.2.2 j t ht).1).lt q hq
    have h3 := ((h.2.2.2 j t ht).2 q hq).1
    rcases hne q e with h2 | h2 <;> omega
theorem OwnSS.apart {w w' : World} {lo hi n c : Nat} {A : Option Addr} {xss : List (List Int)} (h : OwnSS w lo hi A n c xss) {row : Option Nat} (hg : w.grownBy w' row) (hne : ∀ r, row = some r → r < lo ∨ hi ≤ r) : OwnSS w' lo hi A n c xss := by
  obtain ⟨ts, e, ho⟩ := h
  exact ⟨ts, e, ho.apart hg hne⟩
theorem OwnSS.below {w w' : World} {lo hi n c : Nat} {A : Option Addr} {xss : List (List Int)} (h : OwnSS w lo hi A n c xss) (hb : Below w.heap.size w w') : OwnSS w' lo hi A n c xss :=
  h.apart (grownBy_of_below hb) (fun r e => by cases e)
theorem OwnSS.len {w : World} {lo hi n c : Nat} {A : Option Addr} {xss : List (List Int)} (h : OwnSS w lo hi A n c xss) : xss.length = n := by
  obtain ⟨ts, e, ho⟩ := h
  rw [← e, List.length_map]; exact ho.1
/-- What a row of slices reads as. -/
def RdSS (w : World) (A : Option Addr) (n : Nat) (xss : List (List Int)) : Prop := ∃ ts, ts.map (fun t => t.2.2.2) = xss ∧ RdT w A n ts
theorem RdSS.below {w w' : World} {A : Option Addr} {n : Nat} {xss : List (List Int)} (h : RdSS w A n xss) (hb : Below w.heap.size w w') : RdSS w' A n xss := by
  obtain ⟨ts, e, ho⟩ := h
  exact ⟨ts, e, ho.below hb⟩
theorem OwnT.rdT {w : World} {lo hi n c : Nat} {A : Option Addr} {ts : List (Option Addr × Nat × List Int)} (h : OwnT w lo hi A n c ts) (hs : ∀ t, t ∈ ts → t.2.2.length ≤ maxLen) : RdT w A n (ts.map fun t => (t.1, t.2.2.length, t.2.1, t.2.2)) := by
  refine ⟨by rw [List.length_map]; exact h.1, fun t ht => ?_, fun hn => ?_⟩
  · obtain ⟨u, hu, rfl⟩ := List.mem_map.1 ht
    obtain ⟨j, hj⟩ := List.mem_iff_getElem?.1 hu
    exact ⟨(h.2.2.2 j u hj).1.rd, hs u hu⟩
  · obtain ⟨g, cap, hv, hbg, hlt⟩ := World.ownsRow.form h.2.1 hn
    have hA : A = some ⟨g, 0, none⟩ := by injection hv
    subst hA
    refine ⟨g, 0, rfl, hlt, fun j t ht => ?_⟩
    rw [List.getElem?_map] at ht
    cases hu : ts[j]? with
    | none => rw [hu] at ht; cases ht
    | some u =>
      rw [hu] at ht
      injection ht with ht
      subst ht
      have := World.ownsRow.cells h.2.1 (g := g) rfl j (Value.slice u.1 u.2.2.length u.2.1) (by unfold valsT; rw [List.getElem?_map, hu]; rfl)
      rw [add_zero_off] at this
      rw [Nat.zero_add]; exact this
theorem OwnSS.rd {w : World} {lo hi n c : Nat} {A : Option Addr} {xss : List (List Int)} (h : OwnSS w lo hi A n c xss) (hs : ∀ xs, xs ∈ xss → xs.length ≤ maxLen) : RdSS w A n xss := by
  obtain ⟨ts, e, ho⟩ := h
  refine ⟨_, ?_, ho.rdT (fun t ht => hs _ (by rw [← e]; exact List.mem_map_of_mem ht))⟩
  rw [List.map_map, ← e]; rfl
/-- An element's numbers are turned in place. -/
theorem OwnT.set_ {w w' : World} {lo hi n c j : Nat} {A : Option Addr} {ts : List (Option Addr × Nat × List Int)} {t : Option Addr × Nat × List Int} {ys : List Int} (h : OwnT w lo hi A n c ts) (ht : ts[j]? = some t) (hl : ys.length = t.2.2.length) (ho : Own 2 w' lo t.1 ys.length t.2.1 ys) (hg : w.grownBy w' (t.1.map (·.block))) : OwnT w' lo hi A n c (ts.set j (t.1, t.2.1, ys)) := by
  have hj : j < ts.length := by
    rcases Nat.lt_or_ge j ts.length with h9 | h9
    · exact h9
    · rw [List.getElem?_eq_none h9] at ht; cases ht
  have hv : valsT (ts.set j (t.1, t.2.1, ys)) = valsT ts := by
    unfold valsT
    refine List.ext_getElem? fun k => ?_
    rw [List.getElem?_map, List.getElem?_map, List.getElem?_set]
    by_cases e : j = k
    · subst e
      rw [if_pos rfl, if_pos hj, ht]
      show some (Value.slice t.1 ys.length t.2.1) = _
      rw [hl]; rfl
    · rw [if_neg e]
  have ht2 := (h.2.2.2 j t ht).2
  refine ⟨by rw [List.length_set]; exact h.1, ?_, h.2.2.1, fun k u hu => ?_⟩
  · rw [hv]
    exact row_kept h.2.1 hg (fun q hq e => (ht2 q e).2.1 hq)
  · rw [List.getElem?_set] at hu
    by_cases e : j = k
    · subst e
      rw [if_pos rfl, if_pos hj] at hu
      injection hu with hu
      subst hu
      refine ⟨ho, fun q hq => ⟨(ht2 q hq).1, (ht2 q hq).2.1, fun l v hlj hv9 => ?_⟩⟩
      rw [List.getElem?_set, if_neg (fun e => hlj e.symm)] at hv9
      exact (ht2 q hq).2.2 l v hlj hv9
    · rw [if_neg e] at hu
      have h9 := h.2.2.2 k u hu
      refine ⟨h9.1.apart hg (fun q hq e9 => (ht2 q e9).2.2 k u (fun e2 => e e2.symm) hu hq), fun q hq => ⟨(h9.2 q hq).1, (h9.2 q hq).2.1, fun l v hlk hv9 => ?_⟩⟩
      rw [List.getElem?_set] at hv9
      by_cases e2 : j = l
      · subst e2
        rw [if_pos rfl, if_pos hj] at hv9
        injection hv9 with hv9
        subst hv9
        exact (h9.2 q hq).2.2 j t hlk ht
      · rw [if_neg e2] at hv9
        exact (h9.2 q hq).2.2 l v hlk hv9
/-- The marks that the laws put into a row of slices. -/
def marksSS (k : Nat) : List (List Int) → List (List Int)
  | [] => []
  | xs :: r => marks k xs.length :: marksSS (k + xs.length) r
def sumL (xss : List (List Int)) : Nat := (xss.map List.length).sum
theorem marksSS_len (k : Nat) (xss : List (List Int)) : (marksSS k xss).length = xss.length := by
  induction xss generalizing k with
  | nil => rfl
  | cons x r ih => show (marksSS _ r).length + 1 = _; rw [ih]; rfl
theorem sumL_take (xss : List (List Int)) (j : Nat) (xs : List Int) (h : xss[j]? = some xs) : sumL (xss.take (j + 1)) = sumL (xss.take j) + xs.length := by
  unfold sumL
  rw [List.take_add_one, h, List.map_append, List.sum_append]; simp
theorem sumL_le (xss : List (List Int)) (j : Nat) : sumL (xss.take j) ≤ sumL xss := by
  have e := List.take_append_drop j xss
  have : sumL xss = sumL (xss.take j) + sumL (xss.drop j) := by
    unfold sumL
    rw [← List.sum_append, ← List.map_append, e]
  omega
theorem marksSS_at (k : Nat) (xss : List (List Int)) (j : Nat) (xs : List Int) (h : xss[j]? = some xs) : (marksSS k xss)[j]? = some (marks (k + sumL (xss.take j)) xs.length) := by
  induction xss generalizing k j with
  | nil => cases h
  | cons x r ih =>
    cases j with
    | zero =>
      injection h with h
      subst h
      show some _ = _
      simp [sumL]
    | succ j =>
      have := ih (k + x.length) j h
      show (marksSS (k + x.length) r)[j]? = _
      rw [this]
      have e : sumL ((x :: r).take (j + 1)) = x.length + sumL (r.take j) := by simp [sumL]
      rw [e, Nat.add_assoc]
theorem len_sumL (xss : List (List Int)) (xs : List Int) (h : xs ∈ xss) : xs.length ≤ sumL xss := by
  obtain ⟨j, hj⟩ := List.mem_iff_getElem?.1 h
  have h1 := sumL_take xss j xs hj
  have h2 := sumL_le xss (j + 1)
  omega
/-- Nothing has been turned but blocks from lo on, ahead of hi. -/
structure Touched (lo hi : Nat) (w w' : World) : Prop where
  os : w'.os = w.os
  tape : w'.tape = w.tape
  output : w'.output = w.output
  size : w.heap.size ≤ w'.heap.size
  block : ∀ k, k < w.heap.size → (k < lo ∨ hi ≤ k) → w'.heap[k]? = w.heap[k]?
theorem Touched.refl (lo hi : Nat) (w : World) : Touched lo hi w w := ⟨rfl, rfl, rfl, Nat.le_refl _, fun _ _ _ => rfl⟩
theorem Touched.grown {lo hi : Nat} {w w1 w' : World} {row : Option Nat} (h : Touched lo hi w w1) (hg : w1.grownBy w' row) (hr : ∀ r, row = some r → lo ≤ r ∧ r < hi) : Touched lo hi w w' :=
  ⟨hg.os.trans h.os, hg.tape.trans h.tape, hg.output.trans h.output, Nat.le_trans h.size hg.size, fun k hk hne => by
    rw [hg.block k (Nat.lt_of_lt_of_le hk h.size) (fun e => by have := hr k e.symm; omega)]
    exact h.block k hk hne⟩
set_option maxHeartbeats 1600000 in
theorem eqSS_true (A B : Option Addr) (n c d : Nat) (xss : List (List Int)) (w : World) (h : RdSS w A n xss) (h2 : RdSS w B n xss) (hn : n ≤ 9223372036854775807) :
    Calls Tryd.prog 22 #[.slice A n c, .slice B n d] w fun e w' => e = .returned (.bool true) ∧ Below w.heap.size w w' := by
  obtain ⟨ts, e1, ht⟩ := h
  obtain ⟨us, e2, hu⟩ := h2
  have HE : Hid (ts.map (fun t => t.2.2.2) = us.map (fun t => t.2.2.2)) := Lib.hid (e1.trans e2.symm)
  clear e1 e2
  go_enter Tryd.func22, Tryd.ntmps22
  go_wp2
  go_loopw [5] (fun i wr => ∃ k : Nat, k ≤ n ∧ i = .int .i64 k ∧ Below w.heap.size w wr) (fun i _ => n - (intOf i).toNat)
  case atStart => exact ⟨0, Nat.zero_le _, rfl, Below.refl _ _⟩
  case round =>
    obtain ⟨k, hk, rfl, hb⟩ := hrel
    by_cases hlt : k < n
    · obtain ⟨b, off, C, q, c1, xs, rfl, hbs, hx, hcx, hrd, hq⟩ := (ht.below hb).at_ hlt
      obtain ⟨b2, off2, C2, q2, c2, ys, rfl, hbs2, hx2, hcx2, hrd2, hq2⟩ := (hu.below hb).at_ hlt
      have e9 : xs = ys := by
        have := congrArg (fun l => l[k]?) HE.out
        simp only [List.getElem?_map, hx, hx2] at this
        injection this
      subst e9
      have e8 : q2 = q := hrd2.1.symm.trans hrd.1
      subst e8
      have hq3 : q2 ≤ 9223372036854775807 := by unfold maxLen at hq; omega
      have hdw : Below wr.heap.size wr wr.drew := (Below.refl _ _).drew
      clear hx hx2
      go_wp2_with fail
      go_still_tail 8, (by kernel_rfl)
      change wpList _ _ _ _ _ wr.drew
      go_wp2_with fail
      refine (eq_true _ _ _ _ _ xs _ (hrd.below hdw) (hrd2.below hdw) hq3).mono ?_
      rintro e w4 ⟨rfl, hb4⟩
      have hb5 := hb.trans ((hdw.trans (hb4.mono hdw.size)).mono hb.size)
      go_wp2_with fail
      go_roundw
      case rel => exact ⟨k + 1, by omega, by go_num, hb5⟩
      case measure => simp [intOf]; omega
    · obtain rfl : k = n := by omega
      go_wp2_with fail
      go_ret
      exact ⟨rfl, hb⟩
set_option maxHeartbeats 1600000 in
theorem markSS_any (lo hi : Nat) (A : Option Addr) (n c k0 : Nat) (xss : List (List Int)) (w : World) (h : OwnSS w lo hi A n c xss) (hs : sumL xss ≤ 1048576) (hn : n ≤ 1048576) (hk : k0 ≤ 1048576) :
    Calls Tryd.prog 28 #[.slice A n c, .int .i64 (k0 : Int)] w fun e w' => e = .returned (.int .i64 ((k0 + sumL xss : Nat) : Int)) ∧ OwnSS w' lo hi A n c (marksSS k0 xss) ∧ Touched lo hi w w' := by
  obtain ⟨ts0, e0, h0⟩ := h
  have hlen : xss.length = n := by rw [← e0, List.length_map]; exact h0.1
  have HL := Lib.hid hlen
  have HS : Hid (∀ xs, xs ∈ xss → xs.length ≤ 1048576) := Lib.hid (fun xs hx => Nat.le_trans (len_sumL xss xs hx) hs)
  have HE0 := Lib.hid e0
  clear hlen e0
  go_enter Tryd.func28, Tryd.ntmps28
  go_wp2
  go_loopw [1, 5] (fun q i wr => ∃ (t : Nat) (ts : List (Option Addr × Nat × List Int)), t ≤ n ∧ i = .int .i64 t ∧ q = .int .i64 ((k0 + sumL (xss.take t) : Nat) : Int) ∧ ts.map (fun t => t.2.2) = (marksSS k0 xss).take t ++ xss.drop t ∧ OwnT wr lo hi A n c ts ∧ Touched lo hi w wr) (fun _ i _ => n - (intOf i).toNat)
  case atStart => exact ⟨0, ts0, Nat.zero_le _, rfl, rfl, by rw [HE0.out]; rfl, h0, Touched.refl _ _ _⟩
  case round =>
    obtain ⟨t, ts, hle, rfl, rfl, he, ho, htt⟩ := hrel
    have HE := Lib.hid he
    clear he
    by_cases hlt : t < n
    · obtain ⟨ys, hys⟩ : ∃ ys, xss[t]? = some ys := ⟨_, List.getElem?_eq_getElem (by rw [HL.out]; exact hlt)⟩
      obtain ⟨u, hu⟩ : ∃ u, ts[t]? = some u := ⟨_, List.getElem?_eq_getElem (by rw [ho.1]; exact hlt)⟩
      have huy : u.2.2 = ys := by
        have h9 := congrArg (fun l => l[t]?) HE.out
        simp only [List.getElem?_map, hu] at h9
        rw [List.getElem?_append_right (by rw [List.length_take, marksSS_len, HL.out]; omega)] at h9
        rw [List.length_take, marksSS_len, HL.out, Nat.min_eq_left hle, Nat.sub_self, List.getElem?_drop, Nat.add_zero, hys] at h9
        injection h9
      have hou := (ho.2.2.2 t u hu).1
      have hub := (ho.2.2.2 t u hu).2
      have hsm := HS.out ys (List.mem_of_getElem? hys)
      have h2 := sumL_take xss t ys hys
      have h3 := sumL_le xss (t + 1)
      obtain ⟨g, cap, hv, hbg, hlt2⟩ := World.ownsRow.form ho.2.1 (by omega : 0 < n)
      have hA : A = some ⟨g, 0, none⟩ := by injection hv
      have hcx := World.ownsRow.cells ho.2.1 (g := g) (by rw [hA]; rfl) t (Value.slice u.1 u.2.2.length u.2.1) (by unfold valsT; rw [List.getElem?_map, hu]; rfl)
      rw [add_zero_off] at hcx
      subst hA
      rw [huy] at hou hcx
      obtain ⟨K, hK⟩ : ∃ K, K = k0 + sumL (xss.take t) := ⟨_, rfl⟩
      have HN : Hid (k0 + sumL (xss.take (t + 1)) = K + ys.length) := Lib.hid (by rw [hK, h2]; omega)
      have hKb : K ≤ 1073741824 := by omega
      have hmark := mark_any 2 lo u.1 ys.length u.2.1 K ys wr hou hsm hKb
      have hmat := marksSS_at k0 xss t ys hys
      rw [← hK] at hmat ⊢
      have HMAT := Lib.hid hmat
      have HU := Lib.hid hu
      have HUY := Lib.hid huy
      have HYS := Lib.hid hys
      obtain ⟨Q, hQ⟩ : ∃ Q, Q = ys.length := ⟨_, rfl⟩
      have HQ := Lib.hid hQ
      rw [← hQ] at hcx hmark HN
      have hQb : Q ≤ 1048576 := by omega
      obtain ⟨U, cu, us⟩ := u
      have hcx' : wr.cell? ⟨g, t, none⟩ = some (.slice U Q cu) := hcx
      have HUB := Lib.hid hub
      clear hys hu h2 h3 hK hQ hmat huy hou hub hsm hv hcx
      go_wp2_with fail
      refine hmark.mono ?_
      rintro e w4 ⟨rfl, hom, hgm⟩
      have HSET : Hid (OwnT w4 lo hi (some ⟨g, 0, none⟩) n c (ts.set t (U, cu, marks K Q))) := Lib.hid (ho.set_ HU.out (by rw [marks_len, HQ.out]; exact congrArg List.length HUY.out.symm) (by rw [marks_len]; exact hom) hgm)
      have htt2 := htt.grown hgm (fun r hr => ⟨((ho.2.2.2 t _ HU.out).1.lt r hr).1, (HUB.out r hr).1⟩)
      clear ho hom hgm htt hmark
      go_wp2_with fail
      go_roundw
      case rel => exact ⟨t + 1, ts.set t (U, cu, marks K Q), by omega, by go_num, by rw [HN.out, Int.natCast_add], by
        rw [List.map_set, HE.out]
        show (List.take t (marksSS k0 xss) ++ List.drop t xss).set t (marks K Q) = _
        have hl1 : (List.take t (marksSS k0 xss)).length = t := by rw [List.length_take, marksSS_len, HL.out]; omega
        rw [List.set_append, if_neg (by omega), hl1, Nat.sub_self]
        have hd1 : List.drop t xss = (xss[t]'(by rw [HL.out]; exact hlt)) :: List.drop (t + 1) xss := List.drop_eq_getElem_cons _
        rw [hd1, List.set_cons_zero, List.take_add_one, HMAT.out, ← HQ.out]
        simp, HSET.out, htt2⟩
      case measure => simp [intOf]; omega
    · obtain rfl : t = n := by omega
      have e9 : xss.take t = xss := List.take_of_length_le (by rw [HL.out]; exact Nat.le_refl _)
      rw [e9]
      clear e9
      go_wp2_with fail
      go_ret
      refine ⟨rfl, ⟨ts, ?_, ho⟩, htt⟩
      rw [HE.out, List.drop_of_length_le (by rw [HL.out]; exact Nat.le_refl _), List.append_nil, List.take_of_length_le (by rw [marksSS_len, HL.out]; exact Nat.le_refl _)]
set_option maxHeartbeats 1600000 in
theorem heldSS_any (A : Option Addr) (n c k0 : Nat) (xss : List (List Int)) (w : World) (h : RdSS w A n (marksSS k0 xss)) (hs : sumL xss ≤ 1048576) (hl : xss.length = n) (hn : n ≤ 1048576) (hk : k0 ≤ 1048576) :
    Calls Tryd.prog 35 #[.slice A n c, .int .i64 (k0 : Int)] w fun e w' => e = .returned (.int .i64 ((k0 + sumL xss : Nat) : Int)) ∧ w = w' := by
  obtain ⟨ts, e1, ht⟩ := h
  have HE := Lib.hid e1
  have HL := Lib.hid hl
  clear e1 hl
  go_enter Tryd.func35, Tryd.ntmps35
  go_wp2
  go_loop [1, 5] (fun q i => ∃ t : Nat, t ≤ n ∧ i = .int .i64 t ∧ q = .int .i64 ((k0 + sumL (xss.take t) : Nat) : Int)) (fun _ i => n - (intOf i).toNat)
  case atStart => exact ⟨0, Nat.zero_le _, rfl, rfl⟩
  case round =>
    obtain ⟨t, hle, rfl, rfl⟩ := hrel
    by_cases hlt : t < n
    · obtain ⟨b, off, C, q, c1, xs, rfl, hbs, hx, hcx, hrd, hq⟩ := ht.at_ hlt
      obtain ⟨ys, hys⟩ : ∃ ys, xss[t]? = some ys := ⟨_, List.getElem?_eq_getElem (by rw [HL.out]; exact hlt)⟩
      have h1 := marksSS_at k0 xss t ys hys
      rw [← HE.out, List.getElem?_map, hx] at h1
      injection h1 with h1
      have h1' : xs = marks (k0 + sumL (xss.take t)) ys.length := h1
      subst h1'
      have hq1 : q = ys.length := by have := hrd.1; rw [marks_len] at this; exact this.symm
      subst hq1
      have h2 := sumL_take xss t ys hys
      have h3 := sumL_le xss (t + 1)
      obtain ⟨K, hK⟩ : ∃ K, K = k0 + sumL (xss.take t) := ⟨_, rfl⟩
      have HN : Hid (k0 + sumL (xss.take (t + 1)) = K + ys.length) := Lib.hid (by rw [hK, h2]; omega)
      have hKb : K ≤ 1073741824 := by omega
      have hyl : ys.length ≤ 1048576 := by omega
      rw [← hK] at hrd ⊢
      have hheld := held_any C ys.length c1 K w hrd hyl hKb
      obtain ⟨Q, hQ⟩ : ∃ Q, Q = ys.length := ⟨_, rfl⟩
      rw [← hQ] at hcx hheld HN hyl
      have hge : decide (((K + Q : Nat) : Int) < 0) = false := decide_eq_false (by omega)
      have hge2 : decide ((K : Int) + (Q : Int) < 0) = false := decide_eq_false (by omega)
      clear hx hys h1 h2 h3 hK hQ hrd
      go_wp2_with fail
      refine hheld.mono ?_
      rintro e w' ⟨rfl, rfl⟩
      go_wp2_with fail
      go_round
      case rel => exact ⟨t + 1, by omega, by go_num, by rw [HN.out, Int.natCast_add]⟩
      case measure => simp [intOf]; omega
    · obtain rfl : t = n := by omega
      have e9 : xss.take t = xss := List.take_of_length_le (by rw [HL.out]; exact Nat.le_refl _)
      rw [e9]
      clear e9
      go_wp2_with fail
      go_ret
      exact ⟨rfl, rfl⟩
end Go.Proofs.YtcojodkcpemfdaaDoor
namespace Go.Proofs.YtcojodkcpemfdaaDoor
open Go Go.RowKit
set_option linter.unusedVariables false
set_option maxRecDepth 100000

/-- What a function that answers a list of lists and a code leaves. -/
def LssPost (w : World) (VN : Nat) (VX : List (List Int)) (C : Int) (e : Ending) (w' : World) : Prop :=
  ∃ A c, e = .returned (.tuple #[.slice A VN c, .int .i64 C]) ∧ OwnSS w' w.heap.size w'.heap.size A VN c VX ∧ Below w.heap.size w w'
section
variable {w w' : World} {lo hi : Nat}
theorem Touched.under {w0 : World} (ht : Touched lo hi w w') (hb : Below w0.heap.size w0 w) (hl : w0.heap.size ≤ lo) : Below w0.heap.size w0 w' :=
  ⟨ht.os.trans hb.os, ht.tape.trans hb.tape, ht.output.trans hb.output, Nat.le_trans hb.size ht.size, fun k hk => (ht.block k (Nat.lt_of_lt_of_le hk hb.size) (.inl (Nat.lt_of_lt_of_le hk hl))).trans (hb.block k hk)⟩
theorem Box.touched {T : TypeId} {g : Nat} {L : Int} {A : Option Addr} {n c : Nat} (h : Box T w g L A n c) (ht : Touched lo hi w w') (hne : g < lo ∨ hi ≤ g) : Box T w' g L A n c := by
  unfold Box; rw [ht.block g h.lt hne]; exact h
theorem row_touched {b n c : Nat} {E : TypeId} {A : Option Addr} {vs : List Value} (h : w.ownsRow b E 1 (.slice A n c) n vs) (ht : Touched lo hi w w') (hne : ∀ q, A.map (·.block) = some q → q < lo ∨ hi ≤ q) : w'.ownsRow b E 1 (.slice A n c) n vs := by
  refine ⟨h.1, ?_⟩
  rcases h.2 with h0 | ⟨g, cap, cur, e, hb, hg, rest⟩
  · exact .inl h0
  · have hA : A = some ⟨g, 0, none⟩ := by injection e
    have hq : A.map (·.block) = some g := by rw [hA]; rfl
    refine .inr ⟨g, cap, cur, e, hb, ?_, rest⟩
    rw [ht.block g (row_block h g hq).2 (hne g hq)]; exact hg
theorem OwnSS.touched {l u n c : Nat} {A : Option Addr} {xss : List (List Int)} (h : OwnSS w l u A n c xss) (ht : Touched lo hi w w') (hne : u ≤ lo ∨ hi ≤ l) : OwnSS w' l u A n c xss := by
  obtain ⟨ts, e, ho⟩ := h
  refine ⟨ts, e, ho.1, row_touched ho.2.1 ht (fun q hq => ?_), ho.2.2.1, fun j t hj => ⟨row_touched (ho.2.2.2 j t hj).1 ht (fun q hq => ?_), (ho.2.2.2 j t hj).2⟩⟩
  · have h1 := ho.lt q hq
    rcases hne with h2 | h2
    · left; omega
    · right; omega
  · have h1 := ((ho.2.2.2 j t hj).1).lt q hq
    have h3 := ((ho.2.2.2 j t hj).2 q hq).1
    rcases hne with h2 | h2
    · left; omega
    · right; omega
theorem OwnSS.wide {l u l' u' n c : Nat} {A : Option Addr} {xss : List (List Int)} (h : OwnSS w l u A n c xss) (h1 : l' ≤ l) (h2 : u ≤ u') : OwnSS w l' u' A n c xss := by
  obtain ⟨ts, e, ho⟩ := h
  refine ⟨ts, e, ho.1, ?_, fun q hq => Nat.lt_of_lt_of_le (ho.2.2.1 q hq) h2, fun j t hj => ⟨((ho.2.2.2 j t hj).1).mono h1, fun q hq => ⟨Nat.lt_of_lt_of_le ((ho.2.2.2 j t hj).2 q hq).1 h2, ((ho.2.2.2 j t hj).2 q hq).2⟩⟩⟩
  refine ⟨ho.2.1.1, ?_⟩
  rcases ho.2.1.2 with h0 | ⟨g, cap, cur, e, hg, rest⟩
  · exact .inl h0
  · exact .inr ⟨g, cap, cur, e, by omega, rest⟩
theorem OwnSS.nil (l u : Nat) : OwnSS w l u none 0 0 [] :=
  ⟨[], rfl, rfl, World.ownsRow_nil w l _ _, fun q hq => (by cases hq), fun j t hj => (by cases hj)⟩
end
theorem small_of {VX : List (List Int)} {SV : Nat} (h : sumL VX = SV) (hs : SV ≤ 1048576) : ∀ xs, xs ∈ VX → xs.length ≤ maxLen := fun xs hx => by
  have := len_sumL VX xs hx
  unfold maxLen; omega
theorem marksSS_mem : ∀ (VX : List (List Int)) (k : Nat) (ys : List Int), ys ∈ marksSS k VX → ∃ xs, xs ∈ VX ∧ ys.length = xs.length
  | [], _, _, h => by cases h
  | x :: r, k, ys, h => by
    rcases List.mem_cons.1 h with h | h
    · exact ⟨x, List.mem_cons_self, by rw [h, marks_len]⟩
    · obtain ⟨xs, h1, h2⟩ := marksSS_mem r _ ys h
      exact ⟨xs, List.mem_cons_of_mem _ h1, h2⟩
theorem small_marks {VX : List (List Int)} {SV : Nat} (h : sumL VX = SV) (hs : SV ≤ 1048576) : ∀ xs, xs ∈ marksSS 1 VX → xs.length ≤ maxLen := fun ys hy => by
  obtain ⟨xs, h1, h2⟩ := marksSS_mem VX 1 ys hy
  rw [h2]; exact small_of h hs xs h1
theorem markSS_one (lo hi : Nat) (A : Option Addr) (n c : Nat) (xss : List (List Int)) (w : World) (h : OwnSS w lo hi A n c xss) {SV : Nat} (hv : sumL xss = SV) (hs : SV ≤ 1048576) (hn : n ≤ 1048576) :
    Calls Tryd.prog 28 #[.slice A n c, .int .i64 1] w fun e w' => e = .returned (.int .i64 ((1 + SV : Nat) : Int)) ∧ OwnSS w' lo hi A n c (marksSS 1 xss) ∧ Touched lo hi w w' := by
  rw [← hv]
  exact markSS_any lo hi A n c 1 xss w h (by omega) hn (by omega)
theorem heldSS_one (A : Option Addr) (n c : Nat) (xss : List (List Int)) (w : World) (h : RdSS w A n (marksSS 1 xss)) {SV : Nat} (hv : sumL xss = SV) (hs : SV ≤ 1048576) (hn : n ≤ 1048576) :
    Calls Tryd.prog 35 #[.slice A n c, .int .i64 1] w fun e w' => e = .returned (.int .i64 ((1 + SV : Nat) : Int)) ∧ w = w' := by
  have hl : xss.length = n := by
    obtain ⟨ts, e, ht⟩ := h
    have := congrArg List.length e
    rw [List.length_map, ht.1, marksSS_len] at this
    exact this.symm
  rw [← hv]
  exact heldSS_any A n c 1 xss w h (by omega) hl hn (by omega)
end Go.Proofs.YtcojodkcpemfdaaDoor
namespace Go.Proofs.YtcojodkcpemfdaaDoor
open Go Go.RowKit
set_option linter.unusedVariables false
set_option maxRecDepth 100000

def lenB (a : Int) : Bool := decide (0 ≤ a ∧ a ≤ 24)
def badM (L : Int) (ms : List Int) : Bool := ms.any fun m => !isMaskB m L
theorem isLen_any (a : Int) (w : World) : Calls Tryd.prog 152 #[.int .i64 a] w fun e w' => e = .returned (.bool (lenB a)) ∧ w = w' := by
  by_cases h1 : 0 ≤ a
  · by_cases h2 : a ≤ 24
    · have HB : Hid (lenB a = true) := Lib.hid (decide_eq_true ⟨h1, h2⟩)
      go_enter Tryd.func152, Tryd.ntmps152
      go_wp2
      go_ret
      exact ⟨ret_b _ _ (by rw [HB.out]), rfl⟩
    · have HB : Hid (lenB a = false) := Lib.hid (decide_eq_false (by omega))
      go_enter Tryd.func152, Tryd.ntmps152
      go_wp2
      go_ret
      exact ⟨ret_b _ _ (by rw [HB.out]), rfl⟩
  · have HB : Hid (lenB a = false) := Lib.hid (decide_eq_false (by omega))
    go_enter Tryd.func152, Tryd.ntmps152
    go_wp2
    go_ret
    exact ⟨ret_b _ _ (by rw [HB.out]), rfl⟩
theorem noMask_any (b : Nat) (L m : Int) (hm1 : -9223372036854775808 ≤ m) (hm2 : m ≤ 9223372036854775807) (w : World) (hc : w.cell? ⟨b, 0, none⟩ = some (.int .i64 L)) :
    Calls Tryd.prog 151 #[.int .i64 m, .pointer (some ⟨b, 0, none⟩)] w fun e w' => e = .returned (.bool (!isMaskB m L)) ∧ w = w' := by
  have HM := Lib.hid (isMask_any m L hm1 hm2 w)
  go_enter Tryd.func151, Tryd.ntmps151
  go_wp2_with fail
  refine HM.out.mono ?_
  rintro e w' ⟨rfl, rfl⟩
  go_wp2
  go_ret
  exact ⟨rfl, rfl⟩
/-- What is answered: a relation of the call's own with the number, or a code. -/
def CinPost (w : World) (L : Int) (xs : List Int) (a : Int) (ms : List Int) (e : Ending) (w' : World) : Prop :=
  if alphB L xs = true then
    (if (lenB a && !badM L ms) = true then
      (if ctB (xs.map Int.toNat) a.toNat = true then ∃ A' c', e = .returned (.tuple #[.slice A' xs.length c', .int .i64 (traM (xs.map Int.toNat) a.toNat), .int .i64 0]) ∧ Own 84 w' w.heap.size A' xs.length c' xs ∧ Below w.heap.size w w'
      else e = .returned (.tuple #[.slice none 0 0, .int .i64 0, .int .i64 3]) ∧ Below w.heap.size w w')
    else e = .returned (.tuple #[.slice none 0 0, .int .i64 0, .int .i64 2]) ∧ Below w.heap.size w w')
  else e = .returned (.tuple #[.slice none 0 0, .int .i64 0, .int .i64 1]) ∧ Below w.heap.size w w'
set_option maxHeartbeats 3200000 in
theorem countIn_any (L : Int) (A : Option Addr) (n c : Nat) (xs : List Int) (a : Int) (AM : Option Addr) (nm cm : Nat) (ms : List Int) (w : World) (h : Rd w A n xs) (hwf : Wf xs) (hL1 : -9223372036854775808 ≤ L) (hL2 : L ≤ 9223372036854775807) (hn : n ≤ 9223372036854775807) (hM : Rd w AM nm ms) (hwm : Wf ms) (hnm : nm ≤ 1048576) (hT : Tab w) :
    Calls Tryd.prog 95 #[.agg #[.int .i64 L, .slice A n c], .int .i64 a, .slice AM nm cm] w (CinPost w L xs a ms) := by
  have HB := Lib.hid (below1 w (.cells #[.int .i64 L, .slice A n c] 29))
  have hh := h.below HB.out
  have hT1 := hT.below HB.out
  have x0 := box_new 29 w L A n c
  cases ha : alphB L xs
  · have HP : Hid (∀ e w', e = .returned (.tuple #[.slice none 0 0, .int .i64 0, .int .i64 1]) ∧ Below w.heap.size w w' → CinPost w L xs a ms e w') := Lib.hid fun e w' h9 => by unfold CinPost; rw [if_neg (by rw [ha]; decide)]; exact h9
    have HA := Lib.hid ha
    clear ha
    go_enter Tryd.func95, Tryd.ntmps95
    go_wp2_with fail
    refine (dependenceOf_no L _ _ _ xs _ hh hwf hL1 hL2 hn HA.out hT1).mono ?_
    rintro e w1 ⟨rfl, hb⟩
    go_wp2_with fail
    go_ret3
    exact HP.out _ _ ⟨rfl, HB.out.trans (hb.mono HB.out.size)⟩
  · have hxl := h.1
    obtain ⟨rs, rfl, rfl, h8, hr, hrel, hl, hd, hnat⟩ := alphB_nats L xs n hxl ha
    have HD := Lib.hid ((depB_iff rs n hl hr).1 hd)
    have eg : ∀ args w, (callFunc 151 args).run Tryd.prog w = .ok (.enter 151 args) w := fun args w => Go.MuLone.run_callFunc_enter (P := Tryd.prog) Tryd.func151 (by kernel_rfl) rfl args w
    have HL := Lib.hid (fun ww => isLen_any a ww)
    have HCF : Hid (∀ ww, Below (w.alloc (.cells #[.int .i64 (n : Int), .slice A n c] 29)).heap.size (w.alloc (.cells #[.int .i64 (n : Int), .slice A n c] 29)) ww → Calls Tryd.prog 138 #[.slice AM nm cm, .func (.func 151) #[] #[.pointer (some ⟨w.heap.size, 0, none⟩)]] ww fun e w' => e = .returned (.bool (badM (n : Int) ms)) ∧ ww = w') := Lib.hid fun ww hw =>
      containsFuncI_any (fun m => !isMaskB m (n : Int)) 151 #[.pointer (some ⟨w.heap.size, 0, none⟩)] AM nm cm ms ww ((hM.below HB.out).below hw) hnm eg (fun x hx => noMask_any w.heap.size (n : Int) x (hwm x hx).1 (hwm x hx).2 ww ((x0.next hw).c0))
    clear eg
    by_cases hl1 : lenB a = true
    · cases hb9 : badM (n : Int) ms
      · have ha2 : 0 ≤ a ∧ a ≤ 24 := of_decide_eq_true hl1
        obtain ⟨k, rfl⟩ := Int.eq_ofNat_of_zero_le ha2.1
        have hk : k ≤ 24 := by omega
        rw [hl1] at HL
        rw [hb9] at HCF
        cases hct : ctB rs k
        · have HP : Hid (∀ e w', e = .returned (.tuple #[.slice none 0 0, .int .i64 0, .int .i64 3]) ∧ Below w.heap.size w w' → CinPost w (n : Int) (ints rs) (k : Int) ms e w') := Lib.hid fun e w' h9 => by
            unfold CinPost; rw [if_pos ha, if_pos (by rw [hl1, hb9]; rfl), if_neg (by rw [ints_toNat]; show ¬ ctB rs k = true; rw [hct]; decide)]; exact h9
          have HCT := Lib.hid hct
          clear ha hl ha2 hb9 hct hl1 hnat hxl
          go_enter Tryd.func95, Tryd.ntmps95
          go_wp2_with fail
          refine (dependenceOf_yes _ _ _ _ rs _ hh hwf h8 rfl hr hrel hd hT1).mono ?_
          rintro e w1 ⟨A1, c1, rfl, ho1, hb1⟩
          have HB1 := Lib.hid (HB.out.trans (hb1.mono HB.out.size))
          have HC1 := Lib.hid (HCF.out w1 hb1)
          have HN := Lib.hid (countTraces_any A1 n c1 k rs w1 ho1.rd h8 hr HD.out (hT1.below hb1) hk)
          rw [HCT.out] at HN
          obtain ⟨V, hV⟩ : ∃ V, V = ctN rs k := ⟨_, rfl⟩
          rw [← hV] at HN
          clear hV
          go_wp2_with fail
          refine (HL.out _).mono ?_
          rintro e w' ⟨rfl, rfl⟩
          go_wp2_with fail
          refine HC1.out.mono ?_
          rintro e w' ⟨rfl, rfl⟩
          go_wp2_with fail
          refine HN.out.mono ?_
          rintro e w2 ⟨rfl, hb2⟩
          go_wp2_with fail
          go_ret3
          exact HP.out _ _ ⟨rfl, HB1.out.trans (hb2.mono HB1.out.size)⟩
        · have hV : ctN rs k = traM rs k := by
            unfold ctN; rw [if_pos (of_decide_eq_true hct)]
          have HP : Hid (∀ e w', (∃ A' c', e = .returned (.tuple #[.slice A' n c', .int .i64 (ctN rs k), .int .i64 0]) ∧ Own 84 w' w.heap.size A' n c' (ints rs) ∧ Below w.heap.size w w') → CinPost w (n : Int) (ints rs) (k : Int) ms e w') := Lib.hid fun e w' h9 => by
            unfold CinPost; rw [if_pos ha, if_pos (by rw [hl1, hb9]; rfl), if_pos (by rw [ints_toNat]; exact hct), ints_toNat, ints_len, hl]
            show ∃ A' c', e = .returned (.tuple #[.slice A' n c', .int .i64 (traM rs k), .int .i64 0]) ∧ _
            rw [← hV]; exact h9
          have HCT := Lib.hid hct
          clear ha hl ha2 hb9 hct hl1 hnat hxl hV
          go_enter Tryd.func95, Tryd.ntmps95
          go_wp2_with fail
          refine (dependenceOf_yes _ _ _ _ rs _ hh hwf h8 rfl hr hrel hd hT1).mono ?_
          rintro e w1 ⟨A1, c1, rfl, ho1, hb1⟩
          have HB1 := Lib.hid (HB.out.trans (hb1.mono HB.out.size))
          have HC1 := Lib.hid (HCF.out w1 hb1)
          have HN := Lib.hid (countTraces_any A1 n c1 k rs w1 ho1.rd h8 hr HD.out (hT1.below hb1) hk)
          rw [HCT.out] at HN
          have HP2 := Lib.hid HP.out
          obtain ⟨V, hV⟩ : ∃ V, V = ctN rs k := ⟨_, rfl⟩
          rw [← hV] at HN HP2
          clear hV HP
          go_wp2_with fail
          refine (HL.out _).mono ?_
          rintro e w' ⟨rfl, rfl⟩
          go_wp2_with fail
          refine HC1.out.mono ?_
          rintro e w' ⟨rfl, rfl⟩
          go_wp2_with fail
          refine HN.out.mono ?_
          rintro e w2 ⟨rfl, hb2⟩
          have ho3 := (ho1.below hb2).mono HB.out.size
          have HB2 := Lib.hid (HB1.out.trans (hb2.mono HB1.out.size))
          go_wp2_with fail
          go_ret3
          exact HP2.out _ _ ⟨A1, c1, rfl, ho3, HB2.out⟩
      · have HP : Hid (∀ e w', e = .returned (.tuple #[.slice none 0 0, .int .i64 0, .int .i64 2]) ∧ Below w.heap.size w w' → CinPost w (n : Int) (ints rs) a ms e w') := Lib.hid fun e w' h9 => by
          unfold CinPost; rw [if_pos ha, if_neg (by rw [hb9]; simp)]; exact h9
        rw [hl1] at HL
        rw [hb9] at HCF
        clear ha hl hb9 hl1 hnat hxl
        go_enter Tryd.func95, Tryd.ntmps95
        go_wp2_with fail
        refine (dependenceOf_yes _ _ _ _ rs _ hh hwf h8 rfl hr hrel hd hT1).mono ?_
        rintro e w1 ⟨A1, c1, rfl, ho1, hb1⟩
        have HB1 := Lib.hid (HB.out.trans (hb1.mono HB.out.size))
        have HC1 := Lib.hid (HCF.out w1 hb1)
        go_wp2_with fail
        refine (HL.out _).mono ?_
        rintro e w' ⟨rfl, rfl⟩
        go_wp2_with fail
        refine HC1.out.mono ?_
        rintro e w' ⟨rfl, rfl⟩
        go_wp2_with fail
        go_ret3
        exact HP.out _ _ ⟨rfl, HB1.out⟩
    · have hl2 : lenB a = false := by simpa using hl1
      have HP : Hid (∀ e w', e = .returned (.tuple #[.slice none 0 0, .int .i64 0, .int .i64 2]) ∧ Below w.heap.size w w' → CinPost w (n : Int) (ints rs) a ms e w') := Lib.hid fun e w' h9 => by
        unfold CinPost; rw [if_pos ha, if_neg (by rw [hl2]; simp)]; exact h9
      rw [hl2] at HL
      clear ha hl hl1 hl2 hnat hxl
      go_enter Tryd.func95, Tryd.ntmps95
      go_wp2_with fail
      refine (dependenceOf_yes _ _ _ _ rs _ hh hwf h8 rfl hr hrel hd hT1).mono ?_
      rintro e w1 ⟨A1, c1, rfl, ho1, hb1⟩
      have HB1 := Lib.hid (HB.out.trans (hb1.mono HB.out.size))
      go_wp2_with fail
      refine (HL.out _).mono ?_
      rintro e w' ⟨rfl, rfl⟩
      go_wp2_with fail
      go_ret3
      exact HP.out _ _ ⟨rfl, HB1.out⟩
/-- What CountTraces answers. -/
def ctAns (L : Int) (xs : List Int) (a : Int) : Int × Int :=
  if alphB L xs = true then (if lenB a = true then (if ctB (xs.map Int.toNat) a.toNat = true then (traM (xs.map Int.toNat) a.toNat, 0) else (0, 3)) else (0, 2)) else (0, 1)
end Go.Proofs.YtcojodkcpemfdaaDoor
namespace Go.Proofs.YtcojodkcpemfdaaDoor
open Go Go.RowKit
set_option linter.unusedVariables false
set_option maxRecDepth 100000

theorem own_blockS (A : Option Addr) (n c : Nat) : (Value.slice A n c).ownBlock = A.map (·.block) := by cases A <;> rfl
theorem alloc_grownS {w w' : World} {o : Obj} {row : Option Nat} (hg : (w.alloc o).grownBy w' row) : w.grownBy w' row := by
  have hb := below1 w o
  exact ⟨hg.os.trans hb.os, hg.tape.trans hb.tape, hg.output.trans hb.output, Nat.le_trans hb.size hg.size, fun k hk hne => (hg.block k (Nat.lt_of_lt_of_le hk hb.size) hne).trans (hb.block k hk)⟩
theorem info_slsS : (Tryd.prog.info? 22).map (fun i => (i.zero, i.size, i.bytes)) = some (some (.slice none 0 0), 1, 24) := by kernel_rfl
/-- One more slice behind a row of slices: the element is new behind the row's elements; the row itself may have moved. -/
theorem OwnSS.snocS {w w1 w2 : World} {lo n N c : Nat} {A : Option Addr} {v' : Value} {At : Option Addr} {ct : Nat} {ys : List Int}
    {ts : List (Option Addr × Nat × List Int)} (h : OwnT w lo w.heap.size A n c ts) (hb : Below w.heap.size w w1) (ho : Own 2 w1 w.heap.size At N ct ys) (hlo : lo ≤ w.heap.size)
    (hrow : w2.ownsRow lo 22 1 v' (n + 1) (valsT ts ++ [.slice At N ct])) (hg : w1.grownBy w2 (A.map (·.block)))
    (hat : v'.ownBlock = A.map (·.block) ∨ ∃ g, v'.ownBlock = some g ∧ w1.heap.size ≤ g) :
    ∃ A' c', v' = .slice A' (n + 1) c' ∧ OwnSS w2 lo w2.heap.size A' (n + 1) c' (ts.map (fun t => t.2.2) ++ [ys]) := by
  obtain ⟨g9, c', rfl, _, _⟩ := World.ownsRow.form hrow (Nat.succ_pos n)
  obtain ⟨A', hA9⟩ : ∃ A', A' = some (⟨g9, 0, none⟩ : Addr) := ⟨_, rfl⟩
  rw [← hA9] at hrow hat ⊢
  have ht := h
  have hN : ys.length = N := ho.len
  have hsz : w.heap.size ≤ w1.heap.size := hb.size
  have hsz2 : w1.heap.size ≤ w2.heap.size := hg.size
  have hA : ∀ q, A.map (·.block) = some q → lo ≤ q ∧ q < w.heap.size := fun q hq => row_block ht.2.1 q hq
  have hAt : ∀ q, At.map (·.block) = some q → w.heap.size ≤ q ∧ q < w1.heap.size := fun q hq => ho.lt q hq
  have hA' : ∀ q, A'.map (·.block) = some q → A.map (·.block) = some q ∨ w1.heap.size ≤ q := fun q hq => by
    rw [own_blockS] at hat
    rcases hat with h9 | ⟨g, h9, h8⟩
    · exact .inl (h9 ▸ hq)
    · rw [hq] at h9; injection h9 with h9; exact .inr (by omega)
  refine ⟨A', c', rfl, ts ++ [(At, ct, ys)], by rw [List.map_append]; rfl, by rw [List.length_append, ht.1]; rfl, ?_, fun q hq => (row_block hrow q hq).2, fun j t hj => ?_⟩
  · have : valsT (ts ++ [(At, ct, ys)]) = valsT ts ++ [.slice At N ct] := by unfold valsT; rw [List.map_append, ← hN]; rfl
    rw [this]; exact hrow
  · rcases Nat.lt_or_ge j ts.length with hlt | hge
    · rw [List.getElem?_append_left hlt] at hj
      have h9 := ht.2.2.2 j t hj
      have hblk : ∀ q, t.1.map (·.block) = some q → q < w.heap.size := fun q hq => (h9.1.lt q hq).2
      refine ⟨(h9.1.below hb).apart hg (fun q hq e9 => (h9.2 q hq).2.1 e9), fun q hq => ⟨by have := hblk q hq; omega, fun e9 => ?_, fun l u hl hu => ?_⟩⟩
      · rcases hA' q e9 with h8 | h8
        · exact (h9.2 q hq).2.1 h8
        · have := hblk q hq; omega
      · rcases Nat.lt_or_ge l ts.length with hl2 | hl2
        · rw [List.getElem?_append_left hl2] at hu
          exact (h9.2 q hq).2.2 l u hl hu
        · rw [List.getElem?_append_right hl2] at hu
          cases hd : l - ts.length with
          | zero =>
            rw [hd] at hu
            injection hu with hu
            subst hu
            intro e8
            have := (hAt q e8).1; have := hblk q hq; omega
          | succ k => rw [hd] at hu; cases hu
    · rw [List.getElem?_append_right hge] at hj
      cases hd : j - ts.length with
      | zero =>
        rw [hd] at hj
        injection hj with hj
        subst hj
        have hjl : j = ts.length := by omega
        refine ⟨?_, fun q hq => ⟨by have := (hAt q hq).2; omega, fun e9 => ?_, fun l u hl hu e8 => ?_⟩⟩
        · show Own 2 w2 lo At ys.length ct ys
          rw [hN]
          exact (ho.mono hlo).apart hg (fun q hq e9 => by have := (hA q e9).2; have := (hAt q hq).1; omega)
        · have h7 := hAt q hq
          rcases hA' q e9 with h8 | h8
          · have := (hA q h8).2; omega
          · omega
        · rcases Nat.lt_or_ge l ts.length with hl2 | hl2
          · rw [List.getElem?_append_left hl2] at hu
            have := ((ht.2.2.2 l u hu).1.lt q e8).2
            have := (hAt q hq).1; omega
          · rw [List.getElem?_append_right hl2] at hu
            have : l - ts.length ≠ 0 := by omega
            cases hk : l - ts.length with
            | zero => exact this hk
            | succ k => rw [hk] at hu; cases hu
      | succ k => rw [hd] at hj; cases hj
end Go.Proofs.YtcojodkcpemfdaaDoor
namespace Go.Proofs.YtcojodkcpemfdaaDoor
open Go Go.RowKit
set_option linter.unusedVariables false
set_option maxRecDepth 100000

/-- What must not follow, behind a letter. -/
def stM (rs : List Nat) (mask c : Nat) : Nat := dif (mask ||| (2 ^ c - 1)) (rs.getD c 0)
def capV (x : Int) : Int := if cntC < x then cntC + 1 else x
def sumF (f : Nat → Int) (l : List Nat) : Int := l.foldl (fun s a => s + f a) 0
def tlV (rs : List Nat) (n : Nat) : Nat → Nat → Int
  | 0, _ => 1
  | m + 1, mask => capV (sumF (fun c => tlV rs n m (stM rs mask c)) ((List.range n).filter fun c => !mask.testBit c))
def tlS (rs : List Nat) (n m mask k : Nat) : Int := sumF (fun c => tlV rs n m (stM rs mask c)) ((List.range k).filter fun c => !mask.testBit c)
theorem tlS_zero (rs : List Nat) (n m mask : Nat) : tlS rs n m mask 0 = 0 := rfl
theorem sumF_snoc (f : Nat → Int) (l : List Nat) (a : Nat) : sumF f (l ++ [a]) = sumF f l + f a := by unfold sumF; rw [List.foldl_append]; rfl
theorem tlS_yes (rs : List Nat) (n m mask k : Nat) (h : mask.testBit k = true) : tlS rs n m mask (k + 1) = tlS rs n m mask k := by
  unfold tlS; rw [List.range_succ, List.filter_append]; simp [h]
theorem tlS_no (rs : List Nat) (n m mask k : Nat) (h : mask.testBit k = false) : tlS rs n m mask (k + 1) = tlS rs n m mask k + tlV rs n m (stM rs mask k) := by
  have e : [k].filter (fun c => !mask.testBit c) = [k] := by simp [h]
  unfold tlS; rw [List.range_succ, List.filter_append, e, sumF_snoc]
theorem sumF_bounds (f : Nat → Int) (B : Int) (hB : 0 ≤ B) (h : ∀ a, 0 ≤ f a ∧ f a ≤ B) : ∀ l : List Nat, 0 ≤ sumF f l ∧ sumF f l ≤ l.length * B := by
  intro l
  obtain ⟨k, hk⟩ : ∃ k, k = l.length := ⟨_, rfl⟩
  induction k generalizing l with
  | zero => cases l with | nil => simp [sumF] | cons _ _ => simp at hk
  | succ k ih =>
    obtain ⟨g, b, rfl⟩ : ∃ g b, l = g ++ [b] := ⟨l.dropLast, l.getLast (by intro e; rw [e] at hk; simp at hk), (List.dropLast_concat_getLast _).symm⟩
    have h1 := ih g (by simp at hk; omega)
    have h2 := h b
    rw [sumF_snoc, List.length_append, List.length_singleton]
    have : ((g.length + 1 : Nat) : Int) * B = g.length * B + B := by rw [Int.natCast_succ, Int.add_mul, Int.one_mul]
    omega
theorem tlV_bounds (rs : List Nat) (n : Nat) : ∀ m mask, 0 ≤ tlV rs n m mask ∧ tlV rs n m mask ≤ cntC + 1
  | 0, mask => by unfold tlV cntC; decide
  | m + 1, mask => by
    have h := (sumF_bounds (fun c => tlV rs n m (stM rs mask c)) (cntC + 1) (by decide) (fun c => tlV_bounds rs n m (stM rs mask c)) ((List.range n).filter fun c => !mask.testBit c)).1
    show 0 ≤ capV _ ∧ capV _ ≤ _
    unfold capV
    split <;> unfold cntC at * <;> omega
theorem tlS_bounds (rs : List Nat) (n m mask k : Nat) (hk : k ≤ 8) : 0 ≤ tlS rs n m mask k ∧ tlS rs n m mask k ≤ 8000000000000008 := by
  have h := sumF_bounds (fun c => tlV rs n m (stM rs mask c)) (cntC + 1) (by decide) (fun c => tlV_bounds rs n m (stM rs mask c)) ((List.range k).filter fun c => !mask.testBit c)
  have hl : ((List.range k).filter fun c => !mask.testBit c).length ≤ 8 := by
    have := List.length_filter_le (fun c => !mask.testBit c) (List.range k)
    rw [List.length_range] at this; omega
  have h2 : (((List.range k).filter fun c => !mask.testBit c).length : Int) * (cntC + 1) ≤ 8 * (cntC + 1) := Int.mul_le_mul_of_nonneg_right (by omega) (by decide)
  have h3 : (8 : Int) * (cntC + 1) = 8000000000000008 := by decide
  unfold tlS; omega
def rowV (rs : List Nat) (n m k : Nat) : List Int := (List.range k).map (tlV rs n m)
theorem rowV_next (rs : List Nat) (n m k : Nat) : rowV rs n m (k + 1) = rowV rs n m k ++ [tlV rs n m k] := by unfold rowV; rw [List.range_succ, List.map_append]; rfl
theorem rowV_len (rs : List Nat) (n m k : Nat) : (rowV rs n m k).length = k := by unfold rowV; rw [List.length_map, List.length_range]
theorem rowV_at (rs : List Nat) (n m k i : Nat) (h : i < k) : (rowV rs n m k)[i]? = some (tlV rs n m i) := by unfold rowV; rw [List.getElem?_map, List.getElem?_range h]; rfl
def tabV (rs : List Nat) (n k : Nat) : List (List Int) := (List.range k).map fun m => rowV rs n m (2 ^ n)
theorem tabV_next (rs : List Nat) (n k : Nat) : tabV rs n (k + 1) = tabV rs n k ++ [rowV rs n k (2 ^ n)] := by unfold tabV; rw [List.range_succ, List.map_append]; rfl
theorem tabV_at (rs : List Nat) (n k i : Nat) (h : i < k) : (tabV rs n k)[i]? = some (rowV rs n i (2 ^ n)) := by unfold tabV; rw [List.getElem?_map, List.getElem?_range h]; rfl
theorem stM_lt (rs : List Nat) (n mask c : Nat) (hm : mask < 2 ^ n) (hc : c < n) : stM rs mask c < 2 ^ n := by
  unfold stM
  refine Nat.lt_of_le_of_lt (dif_le _ _) (Nat.or_lt_two_pow hm ?_)
  have := p2_pos c
  have : 2 ^ c ≤ 2 ^ n := Nat.pow_le_pow_right (by decide) (by omega)
  omega
/-- The table caps the numbers of normal forms. -/
theorem capV_sum (f g : Nat → Int) (h : ∀ a, f a = capV (g a)) (hg : ∀ a, 0 ≤ g a) : ∀ l : List Nat, capV (sumF f l) = capV (sumF g l) ∧ sumF f l ≤ sumF g l ∧ 0 ≤ sumF f l := by
  intro l
  obtain ⟨k, hk⟩ : ∃ k, k = l.length := ⟨_, rfl⟩
  induction k generalizing l with
  | zero => cases l with | nil => simp [sumF] | cons _ _ => simp at hk
  | succ k ih =>
    obtain ⟨q, b, rfl⟩ : ∃ q b, l = q ++ [b] := ⟨l.dropLast, l.getLast (by intro e; rw [e] at hk; simp at hk), (List.dropLast_concat_getLast _).symm⟩
    obtain ⟨h1, h2, h3⟩ := ih q (by simp at hk; omega)
    rw [sumF_snoc, sumF_snoc, h b]
    have hb := hg b
    unfold capV cntC at *
    split at h1 <;> split at h1 <;> split <;> (try split) <;> (try split) <;> omega
theorem tl_tp (rs : List Nat) (n : Nat) (hr : ∀ i, rs.getD i 0 < 2 ^ n) (h8 : n ≤ 8) : ∀ m mask, mask < 2 ^ n → tlV rs n m mask = capV (tp (RDep rs) n m fun x => !mask.testBit x)
  | 0, mask, _ => by unfold tlV tp capV cntC; decide
  | m + 1, mask, hm => by
    have hp8 : 2 ^ n ≤ 256 := Nat.pow_le_pow_right (by decide) h8
    have h1 : ∀ c, c ∈ (List.range n).filter (fun c => !mask.testBit c) → tlV rs n m (stM rs mask c) = capV (tp (RDep rs) n m fun x => (!mask.testBit x && decide (c ≤ x)) || RDep rs c x) := by
      intro c hc
      have hcn := List.mem_range.1 (List.mem_filter.1 hc).1
      rw [tl_tp rs n hr h8 m (stM rs mask c) (stM_lt rs n mask c hm hcn)]
      congr 2
      funext x
      have hor : mask ||| (2 ^ c - 1) < 2 ^ n := Nat.or_lt_two_pow hm (by have := p2_pos c; have : 2 ^ c ≤ 2 ^ n := Nat.pow_le_pow_right (by decide) (by omega); omega)
      unfold stM
      have := hr c
      rw [dif_bit _ _ _ (by omega) (by omega), Nat.testBit_or, Nat.testBit_two_pow_sub_one]
      unfold RDep
      cases mask.testBit x <;> cases (rs.getD c 0).testBit x <;> by_cases hx : c ≤ x <;> simp [hx] <;> omega
    show capV (sumF _ _) = capV (((List.range n).filter fun c => !mask.testBit c).foldl _ 0)
    have hs : sumF (fun c => tlV rs n m (stM rs mask c)) ((List.range n).filter fun c => !mask.testBit c) = sumF (fun c => capV (tp (RDep rs) n m fun x => (!mask.testBit x && decide (c ≤ x)) || RDep rs c x)) ((List.range n).filter fun c => !mask.testBit c) := foldl_congr' _ _ _ _ h1
    rw [hs]
    exact (capV_sum _ (fun c => tp (RDep rs) n m fun x => (!mask.testBit x && decide (c ≤ x)) || RDep rs c x) (fun a => rfl) (fun a => tp_nonneg _ _ _ _) _).1
theorem tl_all (rs : List Nat) (n : Nat) (hn : rs.length = n) (hr : ∀ i, rs.getD i 0 < 2 ^ n) (h8 : n ≤ 8) (m : Nat) : tlV rs n m 0 = capV (traM rs m) := by
  rw [tl_tp rs n hr h8 m 0 (p2_pos n)]
  unfold traM tM
  rw [hn]
  congr 2
  funext x; simp
theorem and_dif : ∀ X, X < 256 → ∀ D, D < 256 → (X &&& D) + dif X D = X := by decide +kernel
end Go.Proofs.YtcojodkcpemfdaaDoor
namespace Go.Proofs.YtcojodkcpemfdaaDoor
open Go Go.RowKit
set_option linter.unusedVariables false
set_option maxRecDepth 100000

set_option maxHeartbeats 800000 in
theorem after_any (A : Option Addr) (n c k mask : Nat) (rs : List Nat) (w : World) (h : Rd w A n (ints rs)) (h8 : n ≤ 8) (hr : ∀ i, rs.getD i 0 < 2 ^ n) (hm : mask < 2 ^ n) (hk : k < n) :
    Calls Tryd.prog 156 #[.agg #[.int .i64 (n : Int), .slice A n c], .int .i64 (mask : Int), .int .i64 (k : Int)] w fun e w' => e = .returned (.int .i64 ((stM rs mask k : Nat) : Int)) ∧ Below w.heap.size w w' := by
  have hlen : rs.length = n := by have := h.1; rw [ints_len] at this; exact this
  have hp8 : 2 ^ n ≤ 256 := Nat.pow_le_pow_right (by decide) h8
  have HB := Lib.hid (below1 w (.cells #[.int .i64 (n : Int), .slice A n c] 29))
  have x0 := box_new 29 w (n : Int) A n c
  obtain ⟨b, off, x, rfl, hbs, hx, hcx⟩ := (h.below HB.out).at_ hk
  have hx2 := ints_getD rs k (by rw [hlen]; exact hk)
  rw [hx2] at hx
  injection hx with hx
  subst hx
  have hrk := hr k
  have hpk : 2 ^ k - 1 < 2 ^ n := by have := p2_pos k; have : 2 ^ k ≤ 2 ^ n := Nat.pow_le_pow_right (by decide) (by omega); omega
  have hX : mask ||| (2 ^ k - 1) < 2 ^ n := Nat.or_lt_two_pow hm hpk
  have HS : Hid (stM rs mask k = dif (mask ||| (2 ^ k - 1)) (rs.getD k 0)) := Lib.hid rfl
  have hk62 : k ≤ 62 := by omega
  obtain ⟨D, hD⟩ : ∃ D, D = rs.getD k 0 := ⟨_, rfl⟩
  rw [← hD] at hcx hrk HS
  obtain ⟨F, hF⟩ : ∃ F, F = 2 ^ k - 1 := ⟨_, rfl⟩
  have HFU : Hid (∀ (ww : World) (j : Nat), Calls Tryd.prog 124 #[.int .i64 (k : Int)] (ww.drewN j) fun e w'' => e = .returned (.int .i64 (F : Int)) ∧ ∃ m', w'' = ww.drewN m') := Lib.hid fun ww j => by rw [hF]; exact full_q k hk62 ww j
  rw [← hF] at hX hpk HS
  obtain ⟨X, hX2⟩ : ∃ X, X = mask ||| F := ⟨_, rfl⟩
  rw [← hX2] at hX HS
  have hor : bits .or .i64 (mask : Int) (F : Int) = (X : Int) := by rw [hX2]; exact or63 mask F (by omega) (by omega)
  have had := and_dif X (by omega) D (by omega)
  obtain ⟨Y, hY⟩ : ∃ Y, Y = X &&& D := ⟨_, rfl⟩
  rw [← hY] at had
  have hand : bits .and .i64 (X : Int) (D : Int) = (Y : Int) := by rw [hY]; exact i64_and_nat X D (by omega) (by omega)
  obtain ⟨Z, hZ⟩ : ∃ Z, Z = dif X D := ⟨_, rfl⟩
  rw [← hZ] at had HS
  have hsub : IntKind.i64.wrap ((X : Int) - (Y : Int)) = (Z : Int) := by rw [IntKind.wrap_i64]; omega
  have y0 := x0.c0
  have y1 := x0.c1
  have hkn : k < n := hk
  clear hlen hx2 hrk hpk hX2 hY hZ hF hD had
  go_enter Tryd.func156, Tryd.ntmps156
  go_wp2_with fail
  go_quiet ((go_at_call 124; exact HFU.out _ _))
  go_wp2
  go_ret
  exact ⟨ret_i _ _ (by rw [HS.out]), below_drewN HB.out _⟩
theorem RdSS.elem {w : World} {A : Option Addr} {n k : Nat} {xss : List (List Int)} {xs : List Int} (h : RdSS w A n xss) (hk : k < n) (hx : xss[k]? = some xs) :
    ∃ b off C c, A = some ⟨b, off, none⟩ ∧ b < w.heap.size ∧ w.cell? ⟨b, off + k, none⟩ = some (.slice C xs.length c) ∧ Rd w C xs.length xs := by
  obtain ⟨ts, e, ho⟩ := h
  obtain ⟨b, off, C, m, c, ys, hA, hb, ht, hc, hr, _⟩ := ho.at_ hk
  have : ys = xs := by
    rw [← e, List.getElem?_map, ht] at hx
    injection hx
  subst this
  have hm := hr.1
  subst hm
  exact ⟨b, off, C, c, hA, hb, hc, hr⟩
theorem one_ownSS {w : World} {B N c : Nat} {A : Option Addr} {ys : List Int} (o : Own 2 w B A N c ys) (hB : B ≤ w.heap.size) :
    OwnSS (w.alloc (.cells #[.slice A N c] 22)) B (w.alloc (.cells #[.slice A N c] 22)).heap.size (some ⟨w.heap.size, 0, none⟩) 1 1 [ys] := by
  have e := o.len
  subst e
  have hz : (w.alloc (.cells #[.slice A ys.length c] 22)).heap.size = w.heap.size + 1 := by simp
  have p := o.below (below1 w (.cells #[.slice A ys.length c] 22))
  refine ⟨[(A, c, ys)], rfl, rfl, ⟨rfl, .inr ⟨w.heap.size, 1, _, rfl, hB, World.alloc_heap_new w _, Nat.le_refl _, by unfold maxLen; omega, rfl, rfl⟩⟩, fun q hq => ?_, fun j t ht => ?_⟩
  · injection hq with hq
    have h9 : w.heap.size = q := hq
    omega
  · match j, ht with
    | 0, ht =>
      simp at ht
      subst ht
      refine ⟨p, fun q hq => ⟨by have := (o.lt q hq).2; omega, fun e => ?_, fun l u hl hu => ?_⟩⟩
      · injection e with e
        have h9 : w.heap.size = q := e
        have := (o.lt q hq).2; omega
      · match l, hl, hu with
        | 0, hl, _ => exact absurd rfl hl
        | l + 1, _, hu => simp at hu
    | j + 1, ht => simp at ht
set_option maxHeartbeats 6400000 in
theorem tails_any (A : Option Addr) (n c k : Nat) (rs : List Nat) (w : World) (h : Rd w A n (ints rs)) (h8 : n ≤ 8) (hr : ∀ i, rs.getD i 0 < 2 ^ n) (hk : k ≤ 24) :
    Calls Tryd.prog 148 #[.agg #[.int .i64 (n : Int), .slice A n c], .int .i64 (k : Int)] w fun e w' => ∃ A' c', e = .returned (.slice A' (k + 1) c') ∧ OwnSS w' w.heap.size w'.heap.size A' (k + 1) c' (tabV rs n (k + 1)) ∧ Below w.heap.size w w' := by
  have hp8 : 2 ^ n ≤ 256 := Nat.pow_le_pow_right (by decide) h8
  have hp0 := p2_pos n
  obtain ⟨i0, hi, hz0, hz1, hz2⟩ := info_parts info_int
  obtain ⟨i1, hi1, hy0, hy1, hy2⟩ := info_parts info_slsS
  have HB := Lib.hid (below1 w (.cells #[.int .i64 (n : Int), .slice A n c] 29))
  have hh := h.below HB.out
  have x0 := box_new 29 w (n : Int) A n c
  have HAF : Hid (∀ (ww : World) (mask j : Nat), Rd ww A n (ints rs) → mask < 2 ^ n → j < n → Calls Tryd.prog 156 #[.agg #[.int .i64 (n : Int), .slice A n c], .int .i64 (mask : Int), .int .i64 (j : Int)] ww fun e w' => e = .returned (.int .i64 ((stM rs mask j : Nat) : Int)) ∧ Below ww.heap.size ww w') := Lib.hid fun ww mask j h1 h2 h3 => after_any A n c j mask rs ww h1 h8 hr h2 h3
  have HSL := Lib.hid (fun mask c => stM_lt rs n mask c)
  have HONE := Lib.hid (fun ww => one_any n (by omega) ww)
  have HRV : Hid (∀ q : Nat, tabV rs n (q + 1) = tabV rs n q ++ [rowV rs n q (2 ^ n)]) := Lib.hid fun q => tabV_next rs n q
  have HTA : Hid (∀ q i : Nat, i < q → (tabV rs n q)[i]? = some (rowV rs n i (2 ^ n))) := Lib.hid fun q i hi => tabV_at rs n q i hi
  obtain ⟨P, hP⟩ : ∃ P, P = 2 ^ n := ⟨_, rfl⟩
  rw [← hP] at hp8 hp0 HAF HSL HONE HRV HTA
  obtain ⟨w0, hw0⟩ : ∃ w0, w0 = w.alloc (.cells #[.int .i64 (n : Int), .slice A n c] 29) := ⟨_, rfl⟩
  rw [← hw0] at hh x0
  have HB0 := Lib.hid (show Below w.heap.size w w0 by rw [hw0]; exact HB.out)
  clear hP hr h HB
  have y0 := x0.c0
  have y1 := x0.c1
  rw [hw0] at y0 y1
  go_enter Tryd.func148, Tryd.ntmps148
  go_wp2_with fail
  refine (HONE.out _).mono ?_
  rintro e w' ⟨rfl, rfl⟩
  rw [← hw0]
  have HO : Own 2 (w0.alloc (.cells #[] 2)) w0.heap.size (some ⟨w0.heap.size, 0, none⟩) 0 0 [] := World.ownsRow_lit w0 #[] 0 (Nat.le_refl _) (by unfold maxLen; omega) rfl
  have HSZ : Hid (w0.heap.size = w.heap.size + 1) := Lib.hid (by rw [hw0]; simp)
  rw [HSZ.out] at HO
  clear y0 y1
  go_wp2_with fail
  go_loopw [6, 7] (fun v i wr => ∃ (t : Nat) (A1 : Option Addr) (c1 : Nat), t ≤ P ∧ i = .int .i64 t ∧ v = .slice A1 t c1 ∧ Own 2 wr (w.heap.size + 1) A1 t c1 (rowV rs n 0 t) ∧ Below w0.heap.size w0 wr) (fun _ i _ => P - (intOf i).toNat)
  case atStart =>
    rw [← hw0]
    exact ⟨0, _, 0, Nat.zero_le _, rfl, rfl, HO, below1 _ _⟩
  case round =>
    clear HO hw0
    obtain ⟨t, A1, c1, ht, rfl, rfl, ho, hb⟩ := hrel
    by_cases hlt : t < P
    · have hml : t + 1 ≤ maxLen := by unfold maxLen; omega
      have hby2 : (t + 1) * 8 ≤ 140737488355328 := by omega
      have HN := Lib.hid (rowV_next rs n 0 t)
      have HV1 : Hid (tlV rs n 0 t = 1) := Lib.hid rfl
      obtain ⟨ys, hys⟩ : ∃ ys, ys = rowV rs n 0 t := ⟨_, rfl⟩
      rw [← hys] at ho HN
      clear hys
      obtain ⟨w3, rfl⟩ : ∃ w9 : World, w9 = wr := ⟨_, rfl⟩
      go_wp2_with (at_builtin; refine wpList_append_own _ rfl _ _ 22 rfl (w.heap.size + 1) 2 i0 (.int .i64 0) 1 8 Tryd.underlying22 hi hz0 hz1 hz2 rfl (by decide) (.slice A1 t c1) t (ys.map (Value.int .i64)) rfl (World.ownsRow.alloc ho _) ⟨w3.heap.size, 0, none⟩ 1 1 [.int .i64 1] rfl rfl ?s1 ?s2 hml hby2 ?s5 ?_)
      case s1 => exact cell_one_new _ _ _
      case s2 => intro u hu; simp at hu; subst hu; rfl
      case s5 => have := hb.size; have := HSZ.out; simp; omega
      intro v' w4 hown hg4 _
      rw [snoc_map, ← HV1.out, ← HN.out] at hown
      have hb4 : Below w0.heap.size w0 w4 := (hb.alloc hb.size _).grown hg4 (by have := hb.size; simp; omega) (fun g hgr => by have := (World.ownsRow.lt ho g hgr).1; have := HSZ.out; omega)
      obtain ⟨A4, c4, hv, ho4⟩ := own_shape hown
      rw [hv]
      clear hg4 hown hv
      go_wp2_with fail
      go_roundw
      case rel => exact ⟨t + 1, A4, c4, by omega, by go_num, rfl, ho4, hb4⟩
      case measure => simp [intOf]; omega
    · obtain rfl : P = t := by omega
      obtain ⟨w1, rfl⟩ : ∃ w9 : World, w9 = wr := ⟨_, rfl⟩
      have HF1 := Lib.hid (one_ownSS ho (by have := hb.size; have := HSZ.out; omega))
      have HT1 : Hid (tabV rs n 1 = [rowV rs n 0 P]) := Lib.hid (by rw [HRV.out 0]; rfl)
      have HB1 := Lib.hid (hb.trans ((below1 w1 (.cells #[.slice A1 P c1] 22)).mono hb.size))
      clear ho hb
      go_wp2_with fail
      go_loopw [8, 9] (fun v i wr => ∃ (q : Nat) (A2 : Option Addr) (c2 : Nat), 1 ≤ q ∧ q ≤ k + 1 ∧ i = .int .i64 q ∧ v = .slice A2 q c2 ∧ OwnSS wr (w.heap.size + 1) wr.heap.size A2 q c2 (tabV rs n q) ∧ Below w0.heap.size w0 wr) (fun _ i _ => k + 1 - (intOf i).toNat)
      case atStart => exact ⟨1, _, 1, Nat.le_refl _, by omega, rfl, rfl, by rw [HT1.out]; exact HF1.out, HB1.out⟩
      case round =>
        obtain ⟨q, A2, c2, hq1, hq2, rfl, rfl, hss, hb⟩ := hrel
        by_cases hqk : q ≤ k
        · obtain ⟨u, hu⟩ : ∃ u, u = q - 1 := ⟨_, rfl⟩
          have huq : u < q := by omega
          have hidx : IntKind.i64.wrap ((q : Int) - 1) = (u : Int) := by rw [IntKind.wrap_i64]; omega
          have hrow := HTA.out q u huq
          obtain ⟨w2, rfl⟩ : ∃ w9 : World, w9 = wr := ⟨_, rfl⟩
          have HRS := Lib.hid (hss.rd (fun xs hxs => by
            unfold tabV at hxs
            obtain ⟨m9, _, rfl⟩ := List.mem_map.1 hxs
            rw [rowV_len]
            have : 2 ^ n ≤ 256 := Nat.pow_le_pow_right (by decide) h8
            unfold maxLen; omega))
          obtain ⟨b3, off3, C4, c4, rfl, hb3, hc3, hr4⟩ := HRS.out.elem huq hrow
          rw [rowV_len] at hc3 hr4
          have HC3 := Lib.hid hc3
          have HR4 := Lib.hid hr4
          have HU : Hid (q = u + 1) := Lib.hid (by omega)
          have HOR : Own 2 (w2.alloc (.cells #[] 2)) w2.heap.size (some ⟨w2.heap.size, 0, none⟩) 0 0 [] := World.ownsRow_lit w2 #[] 0 (Nat.le_refl _) (by unfold maxLen; omega) rfl
          have HX := Lib.hid (fun (ww : World) (h9 : Below w2.heap.size w2 ww) => x0.below (hb.trans (h9.mono hb.size)) x0.lt)
          have HRR := Lib.hid (fun (ww : World) (h9 : Below w2.heap.size w2 ww) => hh.below (hb.trans (h9.mono hb.size)))
          clear hc3 hr4 hrow hu
          go_wp2_with fail
          go_loopw [10, 11] (fun v i wx => ∃ (s : Nat) (A3 : Option Addr) (c3 : Nat), s ≤ P ∧ i = .int .i64 s ∧ v = .slice A3 s c3 ∧ Own 2 wx w2.heap.size A3 s c3 (rowV rs n q s) ∧ Below w2.heap.size w2 wx) (fun _ i _ => P - (intOf i).toNat)
          case atStart => exact ⟨0, _, 0, Nat.zero_le _, rfl, rfl, HOR, below1 _ _⟩
          case round =>
            clear HOR
            obtain ⟨s, A3, c3, hs, rfl, rfl, ho, hb4⟩ := hrel
            by_cases hsP : s < P
            · obtain ⟨w5, rfl⟩ : ∃ w9 : World, w9 = wr := ⟨_, rfl⟩
              go_wp2_with fail
              go_loopw [12, 13] (fun v i wx => ∃ (j : Nat), j ≤ n ∧ i = .int .i64 j ∧ v = .int .i64 (tlS rs n u s j) ∧ Below w5.heap.size w5 wx) (fun _ i _ => n - (intOf i).toNat)
              case atStart => exact ⟨0, Nat.zero_le _, rfl, by rw [tlS_zero], Below.refl _ _⟩
              case round =>
                obtain ⟨j, hj, rfl, rfl, hb5⟩ := hrel
                have hbx := hb4.trans (hb5.mono hb4.size)
                have z0 := (HX.out _ hbx).c0
                have z1 := (HX.out _ hbx).c1
                by_cases hjn : j < n
                · cases hbt : s.testBit j
                  · have HBT : Hid (∀ ww : World, Calls Tryd.prog 125 #[.int .i64 (s : Int), .int .i64 (j : Int)] ww fun e w' => e = .returned (.bool false) ∧ ww = w') := Lib.hid fun ww => by rw [← hbt]; exact bit_any s j (by omega) (by omega) ww
                    have HNS := Lib.hid (tlS_no rs n u s j hbt)
                    have hZ := HSL.out s j hsP hjn
                    have hSb := tlS_bounds rs n u s j (by omega)
                    obtain ⟨Z, hZe⟩ : ∃ Z, Z = stM rs s j := ⟨_, rfl⟩
                    rw [← hZe] at hZ HNS
                    have hVb := tlV_bounds rs n u Z
                    have HAJ : Hid (∀ ww, Below w2.heap.size w2 ww → Calls Tryd.prog 156 #[.agg #[.int .i64 (n : Int), .slice A n c], .int .i64 (s : Int), .int .i64 (j : Int)] ww fun e w' => e = .returned (.int .i64 (Z : Int)) ∧ Below ww.heap.size ww w') := Lib.hid fun ww hw => by rw [hZe]; exact HAF.out ww s j (HRR.out ww hw) hsP hjn
                    obtain ⟨b6, off6, v, rfl, hb6, hv, hcv⟩ := HR4.out.at_ hZ
                    rw [rowV_at rs n u P Z hZ] at hv
                    injection hv with hv
                    subst hv
                    obtain ⟨V, hVe⟩ : ∃ V, V = tlV rs n u Z := ⟨_, rfl⟩
                    rw [← hVe] at hcv HNS hVb
                    obtain ⟨S, hSe⟩ : ∃ S, S = tlS rs n u s j := ⟨_, rfl⟩
                    rw [← hSe] at HNS hSb ⊢
                    have hsum : IntKind.i64.wrap (S + V) = S + V := by unfold cntC at hVb; rw [IntKind.wrap_i64]; omega
                    have hdr : Below w2.heap.size w2 wr.drew := hbx.drew
                    have hc3w : wr.cell? ⟨b3, off3 + u, none⟩ = some (.slice (some ⟨b6, off6, none⟩) P c4) := (hbx.cell (p := ⟨b3, off3 + u, none⟩) hb3).trans HC3.out
                    have hcvw : wr.cell? ⟨b6, off6 + Z, none⟩ = some (.int .i64 V) := (hbx.cell (p := ⟨b6, off6 + Z, none⟩) hb6).trans hcv
                    have HCV := Lib.hid hcv
                    have HVS := Lib.hid hVb
                    clear hZe hVe hSe hcv hVb hSb hbt
                    go_wp2_with fail
                    refine (HBT.out _).mono ?_
                    rintro e w' ⟨rfl, rfl⟩
                    go_wp2_with fail
                    go_region_with (go_at_call 156; refine (HAJ.out _ hdr).mono ?_; rintro e wz ⟨rfl, hbz⟩; have hbw : Below w2.heap.size w2 wz := hdr.trans (hbz.mono hdr.size); have q0 := (HX.out _ hbw).c0; have q1 := (HX.out _ hbw).c1; have hc3z : wz.cell? ⟨b3, off3 + u, none⟩ = some (.slice (some ⟨b6, off6, none⟩) P c4) := (hbw.cell (p := ⟨b3, off3 + u, none⟩) hb3).trans HC3.out; have hcvz : wz.cell? ⟨b6, off6 + Z, none⟩ = some (.int .i64 V) := (hbw.cell (p := ⟨b6, off6 + Z, none⟩) hb6).trans HCV.out; have hb5z : Below w5.heap.size w5 wz := (hb5.drew).trans (hbz.mono hb5.size))
                    all_goals (
                      go_wp2_with fail
                      go_roundw
                      case rel => exact ⟨j + 1, by omega, by go_num, by rw [HNS.out], hb5z⟩
                      case measure => simp [intOf]; omega)
                  · have HNS := Lib.hid (tlS_yes rs n u s j hbt)
                    have HBT : Hid (∀ ww : World, Calls Tryd.prog 125 #[.int .i64 (s : Int), .int .i64 (j : Int)] ww fun e w' => e = .returned (.bool true) ∧ ww = w') := Lib.hid fun ww => by rw [← hbt]; exact bit_any s j (by omega) (by omega) ww
                    obtain ⟨S, hSe⟩ : ∃ S, S = tlS rs n u s j := ⟨_, rfl⟩
                    rw [← hSe] at HNS ⊢
                    clear hSe hbt
                    go_wp2_with fail
                    refine (HBT.out _).mono ?_
                    rintro e w' ⟨rfl, rfl⟩
                    go_wp2_with fail
                    go_roundw
                    case rel => exact ⟨j + 1, by omega, by go_num, by rw [HNS.out], hb5⟩
                    case measure => simp [intOf]; omega
                · obtain rfl : j = n := by omega
                  have hSb := tlS_bounds rs j u s j (by omega)
                  have HV9 : Hid (tlV rs j q s = capV (tlS rs j u s j)) := Lib.hid (by rw [HU.out]; rfl)
                  have HN := Lib.hid (rowV_next rs j q s)
                  obtain ⟨S, hSe⟩ : ∃ S, S = tlS rs j u s j := ⟨_, rfl⟩
                  rw [← hSe] at HV9 hSb ⊢
                  obtain ⟨ys, hys⟩ : ∃ ys, ys = rowV rs j q s := ⟨_, rfl⟩
                  rw [← hys] at HN ho
                  have ho5 := ho.below hb5
                  have hml : s + 1 ≤ maxLen := by unfold maxLen; omega
                  have hby2 : (s + 1) * 8 ≤ 140737488355328 := by omega
                  clear hSe hys ho
                  obtain ⟨w6, rfl⟩ : ∃ w9 : World, w9 = wr := ⟨_, rfl⟩
                  by_cases hS : 1000000000000000 < S
                  · have HV8 : Hid (tlV rs j q s = 1000000000000001) := Lib.hid (by rw [HV9.out]; unfold capV cntC; rw [if_pos hS]; rfl)
                    clear HV9
                    go_wp2_with (at_builtin; refine wpList_append_own _ rfl _ _ 22 rfl w2.heap.size 2 i0 (.int .i64 0) 1 8 Tryd.underlying22 hi hz0 hz1 hz2 rfl (by decide) (.slice A3 s c3) s (ys.map (Value.int .i64)) rfl (World.ownsRow.alloc ho5 _) ⟨w6.heap.size, 0, none⟩ 1 1 [.int .i64 1000000000000001] rfl rfl ?s1 ?s2 hml hby2 ?s5 ?_)
                    case s1 => exact cell_one_new _ _ _
                    case s2 => intro u hu; simp at hu; subst hu; rfl
                    case s5 => have := hbx.size; simp; omega
                    intro v' w7 hown hg7 _
                    rw [snoc_map, ← HV8.out, ← HN.out] at hown
                    have hb7 : Below w2.heap.size w2 w7 := (hbx.alloc hbx.size _).grown hg7 (by have := hbx.size; simp; omega) (fun g hgr => (World.ownsRow.lt ho5 g hgr).1)
                    obtain ⟨A7, c7, hv, ho7⟩ := own_shape hown
                    rw [hv]
                    clear hg7 hown hv
                    go_wp2_with fail
                    go_roundw
                    case rel => exact ⟨s + 1, A7, c7, by omega, by go_num, rfl, ho7, hb7⟩
                    case measure => simp [intOf]; omega
                  · have HV8 : Hid (tlV rs j q s = S) := Lib.hid (by rw [HV9.out]; unfold capV cntC; rw [if_neg hS])
                    clear HV9
                    go_wp2_with (at_builtin; refine wpList_append_own _ rfl _ _ 22 rfl w2.heap.size 2 i0 (.int .i64 0) 1 8 Tryd.underlying22 hi hz0 hz1 hz2 rfl (by decide) (.slice A3 s c3) s (ys.map (Value.int .i64)) rfl (World.ownsRow.alloc ho5 _) ⟨w6.heap.size, 0, none⟩ 1 1 [.int .i64 S] rfl rfl ?s1 ?s2 hml hby2 ?s5 ?_)
                    case s2 => rfl
                    case s5 => have := hbx.size; omega
                    intro v' w7 hown hg7 _
                    rw [snoc_map, ← HV8.out, ← HN.out] at hown
                    have hb7 : Below w2.heap.size w2 w7 := (hbx.alloc hbx.size _).grown hg7 (by have := hbx.size; simp; omega) (fun g hgr => (World.ownsRow.lt ho5 g hgr).1)
                    obtain ⟨A7, c7, hv, ho7⟩ := own_shape hown
                    rw [hv]
                    clear hg7 hown hv
                    go_wp2_with fail
                    go_roundw
                    case rel => exact ⟨s + 1, A7, c7, by omega, by go_num, rfl, ho7, hb7⟩
                    case measure => simp [intOf]; omega
            · obtain rfl : P = s := by omega
              obtain ⟨ts, hts, hot⟩ := hss
              have HTS := Lib.hid hts
              have HNX := Lib.hid (HRV.out q)
              have hlo : w.heap.size + 1 ≤ w2.heap.size := by have := hb.size; have := HSZ.out; omega
              obtain ⟨ys, hys⟩ : ∃ ys, ys = rowV rs n q P := ⟨_, rfl⟩
              rw [← hys] at ho HNX
              have hml : q + 1 ≤ maxLen := by unfold maxLen; omega
              have hkb : (q + 1) * 24 ≤ 140737488355328 := by omega
              clear hys hts
              obtain ⟨w6, rfl⟩ : ∃ w9 : World, w9 = wr := ⟨_, rfl⟩
              have hrow6 := row_kept hot.2.1 (grownBy_of_below hb4) (fun q _ e => by cases e)
              have hrb : ∀ q, (some (⟨b3, off3, none⟩ : Addr)).map (·.block) = some q → w.heap.size + 1 ≤ q := fun q hq => (row_block hot.2.1 q hq).1
              go_wp2_with (at_builtin; refine wpList_append_own_at _ rfl _ _ 25 rfl (w.heap.size + 1) 22 i1 (.slice none 0 0) 1 24 Tryd.underlying25 hi1 hy0 hy1 hy2 rfl (by decide) (.slice (some ⟨b3, off3, none⟩) q c2) q (valsT ts) rfl (World.ownsRow.alloc hrow6 _) ⟨w6.heap.size, 0, none⟩ 1 1 [.slice A3 P c3] rfl rfl ?c1 ?c2 hml hkb ?c5 ?_)
              case c1 => exact cell_one_new _ _ _
              case c2 => intro u hu; simp at hu; subst hu; rfl
              case c5 => have := hb4.size; simp; omega
              intro v' w7 hown hg _ hat
              have hbw6 := hb.trans (hb4.mono hb.size)
              have hb7 : Below w0.heap.size w0 w7 := (hbw6.alloc hbw6.size _).grown hg (by have := hbw6.size; simp; omega) (fun r hr => by have := hrb r (by rw [own_blockS] at hr; exact hr); have := HSZ.out; omega)
              have hg3 := alloc_grownS hg
              rw [own_blockS] at hg3 hat
              obtain ⟨A7, c7, hv, hss7⟩ := OwnSS.snocS hot hb4 ho hlo hown hg3 (hat.imp id fun h9 => ⟨_, h9, Nat.le_succ _⟩)
              rw [hv]
              rw [HTS.out, ← HNX.out] at hss7
              clear hown hg hv hot hb4 ho hrow6 hg3 hat hbw6 hrb
              go_wp2_with fail
              go_roundw
              case rel => exact ⟨q + 1, A7, c7, by omega, by omega, by go_num, rfl, hss7, hb7⟩
              case measure => simp [intOf]; omega
        · obtain rfl : q = k + 1 := by omega
          go_wp2_with fail
          go_ret
          have hw1 : w.heap.size ≤ w.heap.size + 1 := Nat.le_succ _
          exact ⟨A2, c2, rfl, hss.wide hw1 (Nat.le_refl _), HB0.out.trans (hb.mono HB0.out.size)⟩
theorem rd_small {w : World} {A : Option Addr} {n c lo hi : Nat} {rs : List Nat} {m k : Nat} (h8 : m ≤ 8) (h : OwnSS w lo hi A n c (tabV rs m k)) : RdSS w A n (tabV rs m k) := h.rd (fun xs hxs => by
  unfold tabV at hxs
  obtain ⟨m9, _, rfl⟩ := List.mem_map.1 hxs
  rw [rowV_len]
  have : 2 ^ m ≤ 256 := Nat.pow_le_pow_right (by decide) h8
  unfold maxLen; omega)
/-- Its last row's first number. -/
theorem tab_last {w : World} {A : Option Addr} {n c lo hi : Nat} {rs : List Nat} {k : Nat} (h8 : n ≤ 8) (h : OwnSS w lo hi A (k + 1) c (tabV rs n (k + 1))) :
    ∃ b off b2 off2 c2, A = some ⟨b, off, none⟩ ∧ w.cell? ⟨b, off + k, none⟩ = some (.slice (some ⟨b2, off2, none⟩) (2 ^ n) c2) ∧ w.cell? ⟨b2, off2, none⟩ = some (.int .i64 (tlV rs n k 0)) := by
  have hp := p2_pos n
  obtain ⟨b, off, C, c2, hA, hb, hc, hr⟩ := (rd_small h8 h).elem (k := k) (by omega) (tabV_at rs n (k + 1) k (by omega))
  rw [rowV_len] at hc hr
  obtain ⟨b2, off2, x, rfl, hb2, hx, hcx⟩ := hr.at_ (k := 0) (by omega)
  rw [rowV_at rs n k (2 ^ n) 0 (by omega)] at hx
  injection hx with hx
  subst hx
  exact ⟨b, off, b2, off2, c2, hA, hc, hcx⟩
theorem capV_le (x : Int) : (cntC < capV x) = (cntC < x) := by
  unfold capV
  split
  · rename_i h
    exact propext ⟨fun _ => h, fun _ => by omega⟩
  · rfl
theorem l06Code_any (L : Int) (A : Option Addr) (n c : Nat) (xs : List Int) (a : Int) (w : World) (h : Rd w A n xs) (hn : n ≤ 9223372036854775807) :
    Calls Tryd.prog 91 #[.agg #[.int .i64 L, .slice A n c], .int .i64 a] w fun e w' => e = .returned (.int .i64 (if alphB L xs = true then (if lenB a = true then 0 else 2) else 1)) ∧ Below w.heap.size w w' := by
  have HB := Lib.hid (below1 w (.cells #[.int .i64 L, .slice A n c] 29))
  have hh := h.below HB.out
  have HI := Lib.hid (l02Is_any L A n c xs _ hh hn)
  cases ha : alphB L xs
  · rw [ha] at HI
    rw [if_neg (by decide)]
    clear ha
    go_enter Tryd.func91, Tryd.ntmps91
    go_wp2_with fail
    refine HI.out.mono ?_
    rintro e w1 ⟨rfl, hb⟩
    go_wp2_with fail
    go_ret
    exact ⟨rfl, HB.out.trans (hb.mono HB.out.size)⟩
  · rw [ha] at HI
    rw [if_pos rfl]
    clear ha
    by_cases hl : 0 ≤ a ∧ a ≤ 24
    · have HL := Lib.hid (fun ww => in_true a 0 24 hl ww)
      rw [if_pos (show lenB a = true from decide_eq_true hl)]
      clear hl
      go_enter Tryd.func91, Tryd.ntmps91
      go_wp2_with fail
      refine HI.out.mono ?_
      rintro e w1 ⟨rfl, hb⟩
      go_wp2_with fail
      refine (HL.out _).mono ?_
      rintro e w' ⟨rfl, rfl⟩
      go_wp2_with fail
      go_ret
      exact ⟨rfl, HB.out.trans (hb.mono HB.out.size)⟩
    · have HL := Lib.hid (fun ww => in_false a 0 24 hl ww)
      rw [if_neg (show ¬ lenB a = true by unfold lenB; rw [decide_eq_false hl]; decide)]
      clear hl
      go_enter Tryd.func91, Tryd.ntmps91
      go_wp2_with fail
      refine HI.out.mono ?_
      rintro e w1 ⟨rfl, hb⟩
      go_wp2_with fail
      refine (HL.out _).mono ?_
      rintro e w' ⟨rfl, rfl⟩
      go_wp2_with fail
      go_ret
      exact ⟨rfl, HB.out.trans (hb.mono HB.out.size)⟩
set_option maxHeartbeats 1600000 in
theorem l06Many_any (A : Option Addr) (n c k : Nat) (rs : List Nat) (w : World) (h : Rd w A n (ints rs)) (h8 : n ≤ 8) (hr : ∀ i, rs.getD i 0 < 2 ^ n) (hk : k ≤ 24) :
    Calls Tryd.prog 92 #[.agg #[.int .i64 (n : Int), .slice A n c], .int .i64 (k : Int)] w fun e w' => e = .returned (.int .i64 (if ctB rs k = true then 0 else 3)) ∧ Below w.heap.size w w' := by
  have hl : rs.length = n := by have := h.1; rw [ints_len] at this; exact this
  have HB := Lib.hid (below1 w (.cells #[.int .i64 (n : Int), .slice A n c] 29))
  have hh := h.below HB.out
  have HT := Lib.hid (tails_any A n c k rs _ hh h8 hr hk)
  have HA := Lib.hid (tl_all rs n hl hr h8 k)
  have hp := p2_pos n
  obtain ⟨P, hP⟩ : ∃ P, P = 2 ^ n := ⟨_, rfl⟩
  have HL9 := Lib.hid (fun (W : World) (A' : Option Addr) (lo hi c' : Nat) (h9 : OwnSS W lo hi A' (k + 1) c' (tabV rs n (k + 1))) => tab_last h8 h9)
  rw [← hP] at HL9 hp
  obtain ⟨C, hC⟩ : ∃ C : Int, C = (if ctB rs k = true then 0 else 3) := ⟨_, rfl⟩
  rw [← hC]
  have HCC := Lib.hid hC
  clear hl hr hP h hh hC
  go_enter Tryd.func92, Tryd.ntmps92
  go_wp2_with fail
  refine HT.out.mono ?_
  rintro e w1 ⟨A1, c1, rfl, hss, hb⟩
  obtain ⟨b, off, b2, off2, c2, rfl, hc1, hc2⟩ := HL9.out _ _ _ _ _ hss
  obtain ⟨V, hV⟩ : ∃ V, V = tlV rs n k 0 := ⟨_, rfl⟩
  rw [← hV] at hc2
  have HV := Lib.hid hV
  have hkk : k < k + 1 := Nat.lt_succ_self k
  clear hV hss HT HL9
  by_cases hc : 1000000000000000 < V
  · have HC : Hid (ctB rs k = false) := Lib.hid (decide_eq_false (fun h9 => by
      have h1 : cntC < capV (traM rs k) := by rw [← HA.out, ← HV.out]; exact hc
      rw [capV_le] at h1; omega))
    go_wp2_with fail
    go_ret
    exact ⟨ret_i _ _ (by rw [HCC.out, HC.out]; rfl), HB.out.trans (hb.mono HB.out.size)⟩
  · have HC : Hid (ctB rs k = true) := Lib.hid (decide_eq_true (by
      have h1 : ¬ cntC < capV (traM rs k) := by rw [← HA.out, ← HV.out]; exact hc
      rw [capV_le] at h1; omega))
    go_wp2_with fail
    go_ret
    exact ⟨ret_i _ _ (by rw [HCC.out, HC.out]; rfl), HB.out.trans (hb.mono HB.out.size)⟩
end Go.Proofs.YtcojodkcpemfdaaDoor
namespace Go.Proofs.YtcojodkcpemfdaaDoor
open Go Go.RowKit
set_option linter.unusedVariables false
set_option maxRecDepth 100000

theorem ctAns_no (L : Int) (xs : List Int) (a : Int) (h : alphB L xs = false) : ctAns L xs a = (0, 1) := by unfold ctAns; rw [if_neg (by rw [h]; decide)]
theorem ctAns_out (L : Int) (xs : List Int) (a : Int) (h : alphB L xs = true) (h2 : lenB a = false) : ctAns L xs a = (0, 2) := by unfold ctAns; rw [if_pos h, if_neg (by rw [h2]; decide)]
theorem ctAns_big (n k : Nat) (rs : List Nat) (h : alphB (n : Int) (ints rs) = true) (h2 : lenB (k : Int) = true) (h3 : ctB rs k = false) : ctAns (n : Int) (ints rs) (k : Int) = (0, 3) := by
  unfold ctAns; rw [if_pos h, if_pos h2, ints_toNat, if_neg (by show ¬ ctB rs k = true; rw [h3]; decide)]
theorem ctAns_yes (n k : Nat) (rs : List Nat) (h : alphB (n : Int) (ints rs) = true) (h2 : lenB (k : Int) = true) (h3 : ctB rs k = true) : ctAns (n : Int) (ints rs) (k : Int) = (traM rs k, 0) := by
  unfold ctAns; rw [if_pos h, if_pos h2, ints_toNat, if_pos (show ctB rs (k : Int).toNat = true from h3)]; rfl
set_option maxHeartbeats 1600000 in
theorem specCountTraces (L : Int) (A : Option Addr) (n c : Nat) (xs : List Int) (a : Int) (w : World) (h : Rd w A n xs) (hwf : Wf xs) (hL1 : -9223372036854775808 ≤ L) (hL2 : L ≤ 9223372036854775807) (hn : n ≤ 9223372036854775807) (ha1 : -9223372036854775808 ≤ a) (ha2 : a ≤ 9223372036854775807) :
    Calls Tryd.prog 97 #[.agg #[.int .i64 L, .slice A n c], .int .i64 a] w (fun e w' => e = .returned (.tuple #[.int .i64 (ctAns L xs a).1, .int .i64 (ctAns L xs a).2]) ∧ Below w.heap.size w w') := by
  have HB := Lib.hid (below1 w (.cells #[.int .i64 L, .slice A n c] 29))
  have hh := h.below HB.out
  have x0 := box_new 29 w L A n c
  have HC := Lib.hid (l06Code_any L A n c xs a _ hh hn)
  cases ha : alphB L xs
  · rw [ctAns_no L xs a ha]
    rw [ha, if_neg (by decide)] at HC
    clear ha
    go_enter Tryd.func97, Tryd.ntmps97
    go_wp2_with fail
    refine HC.out.mono ?_
    rintro e w1 ⟨rfl, hb⟩
    go_wp2_with fail
    go_ret2
    exact ⟨rfl, HB.out.trans (hb.mono HB.out.size)⟩
  · rw [ha, if_pos rfl] at HC
    cases hl : lenB a
    · rw [ctAns_out L xs a ha hl]
      rw [hl, if_neg (by decide)] at HC
      clear ha hl
      go_enter Tryd.func97, Tryd.ntmps97
      go_wp2_with fail
      refine HC.out.mono ?_
      rintro e w1 ⟨rfl, hb⟩
      go_wp2_with fail
      go_ret2
      exact ⟨rfl, HB.out.trans (hb.mono HB.out.size)⟩
    · rw [hl, if_pos rfl] at HC
      have ha3 : 0 ≤ a ∧ a ≤ 24 := of_decide_eq_true hl
      obtain ⟨k, rfl⟩ := Int.eq_ofNat_of_zero_le ha3.1
      have hk : k ≤ 24 := by omega
      obtain ⟨rs, rfl, rfl, h8, hr, hrel, hlen, hd, _⟩ := alphB_nats L xs n h.1 ha
      have HM := Lib.hid (fun (ww : World) (h9 : Rd ww A n (ints rs)) => l06Many_any A n c k rs ww h9 h8 hr hk)
      cases hc : ctB rs k
      · rw [ctAns_big n k rs ha hl hc]
        rw [hc, if_neg (by decide)] at HM
        clear ha hl hc hlen hd hrel ha3
        go_enter Tryd.func97, Tryd.ntmps97
        go_wp2_with fail
        refine HC.out.mono ?_
        rintro e w1 ⟨rfl, hb⟩
        have HM1 := Lib.hid (HM.out w1 (hh.below hb))
        have HB1 := Lib.hid (HB.out.trans (hb.mono HB.out.size))
        have y0 := (x0.next hb).c0
        have y1 := (x0.next hb).c1
        go_wp2_with fail
        refine HM1.out.mono ?_
        rintro e w2 ⟨rfl, hb2⟩
        go_wp2_with fail
        go_ret2
        exact ⟨rfl, HB1.out.trans (hb2.mono HB1.out.size)⟩
      · rw [ctAns_yes n k rs ha hl hc]
        rw [hc, if_pos rfl] at HM
        have HT := Lib.hid (fun (ww : World) (h9 : Rd ww A n (ints rs)) => tails_any A n c k rs ww h9 h8 hr hk)
        have HA := Lib.hid (tl_all rs n hlen hr h8 k)
        have HV9 : Hid (capV (traM rs k) = traM rs k) := Lib.hid (by
          have h9 : traM rs k ≤ cntC := of_decide_eq_true hc
          unfold capV; rw [if_neg (by omega)])
        have HL9 := Lib.hid (fun (W : World) (A' : Option Addr) (lo hi c' : Nat) (h9 : OwnSS W lo hi A' (k + 1) c' (tabV rs n (k + 1))) => tab_last h8 h9)
        have hp := p2_pos n
        obtain ⟨P, hP⟩ : ∃ P, P = 2 ^ n := ⟨_, rfl⟩
        rw [← hP] at HL9 hp
        clear ha hl hc hlen hd hrel ha3 hP hr
        go_enter Tryd.func97, Tryd.ntmps97
        go_wp2_with fail
        refine HC.out.mono ?_
        rintro e w1 ⟨rfl, hb⟩
        have HM1 := Lib.hid (HM.out w1 (hh.below hb))
        have HB1 := Lib.hid (HB.out.trans (hb.mono HB.out.size))
        have x1 := x0.next hb
        have y0 := x1.c0
        have y1 := x1.c1
        go_wp2_with fail
        refine HM1.out.mono ?_
        rintro e w2 ⟨rfl, hb2⟩
        have HT2 := Lib.hid (HT.out w2 ((hh.below hb).below hb2))
        have HB2 := Lib.hid (HB1.out.trans (hb2.mono HB1.out.size))
        have z0 := (x1.next hb2).c0
        have z1 := (x1.next hb2).c1
        go_wp2_with fail
        refine HT2.out.mono ?_
        rintro e w3 ⟨A3, c3, rfl, hss, hb3⟩
        obtain ⟨b, off, b2, off2, c2, rfl, hc1, hc2⟩ := HL9.out _ _ _ _ _ hss
        rw [HA.out, HV9.out] at hc2
        obtain ⟨V, hV⟩ : ∃ V, V = traM rs k := ⟨_, rfl⟩
        rw [← hV] at hc2
        have HV := Lib.hid hV
        have hkk : k < k + 1 := Nat.lt_succ_self k
        clear hV hss HT HL9 HM HM1 HT2 HV9 HA
        go_wp2_with fail
        go_ret2
        rw [← HV.out]
        exact ⟨rfl, HB2.out.trans (hb3.mono HB2.out.size)⟩
end Go.Proofs.YtcojodkcpemfdaaDoor
