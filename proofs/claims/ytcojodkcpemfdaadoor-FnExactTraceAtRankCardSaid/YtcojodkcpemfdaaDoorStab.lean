/-
  Plain mathematics of a stable sort by swapping blocks: what turning a segment does, and when keys come into order.
-/
import Derived.Test.YtcojodkcpemfdaaDoorB2
namespace Go.Proofs.YtcojodkcpemfdaaDoor
open Go.RowKit
set_option linter.unusedVariables false
set_option maxRecDepth 100000

/-- The segment from a to b, its part behind m first. -/
def rot (ds : List Nat) (a m b : Nat) : List Nat := (List.range ds.length).map fun p =>
  ds.getD (if p < a then p else if p < a + (b - m) then p - a + m else if p < b then p - (b - m) else p) 0
theorem rot_len (ds : List Nat) (a m b : Nat) : (rot ds a m b).length = ds.length := by simp [rot]
theorem rot_at (ds : List Nat) (a m b p : Nat) (hp : p < ds.length) : (rot ds a m b).getD p 0 = ds.getD (if p < a then p else if p < a + (b - m) then p - a + m else if p < b then p - (b - m) else p) 0 := getD_range_map _ _ _ hp
theorem rot_low (ds : List Nat) (a m b p : Nat) (hb : b ≤ ds.length) (ham : a ≤ m) (hmb : m ≤ b) (hp : p < a) : (rot ds a m b).getD p 0 = ds.getD p 0 := by rw [rot_at _ _ _ _ _ (by omega), if_pos hp]
theorem rot_left (ds : List Nat) (a m b p : Nat) (hb : b ≤ ds.length) (ham : a ≤ m) (hmb : m ≤ b) (h1 : a ≤ p) (h2 : p < a + (b - m)) : (rot ds a m b).getD p 0 = ds.getD (p - a + m) 0 := by rw [rot_at _ _ _ _ _ (by omega), if_neg (by omega), if_pos h2]
theorem rot_right (ds : List Nat) (a m b p : Nat) (hb : b ≤ ds.length) (ham : a ≤ m) (hmb : m ≤ b) (h1 : a + (b - m) ≤ p) (h2 : p < b) : (rot ds a m b).getD p 0 = ds.getD (p - (b - m)) 0 := by rw [rot_at _ _ _ _ _ (by omega), if_neg (by omega), if_neg (by omega), if_pos h2]
theorem rot_high (ds : List Nat) (a m b p : Nat) (hp : p < ds.length) (ham : a ≤ m) (hmb : m ≤ b) (h1 : b ≤ p) : (rot ds a m b).getD p 0 = ds.getD p 0 := by rw [rot_at _ _ _ _ _ hp, if_neg (by omega), if_neg (by omega), if_neg (by omega)]
/-- As four pieces. -/
theorem rot_parts (ds : List Nat) (a m b : Nat) (hb : b ≤ ds.length) (ham : a ≤ m) (hmb : m ≤ b) : rot ds a m b = ds.take a ++ ((ds.take b).drop m ++ ((ds.take m).drop a ++ ds.drop b)) := by
  have l1 : (ds.take a).length = a := by rw [List.length_take]; omega
  have l2 : ((ds.take b).drop m).length = b - m := by rw [List.length_drop, List.length_take]; omega
  have l3 : ((ds.take m).drop a).length = m - a := by rw [List.length_drop, List.length_take]; omega
  have lt : (ds.take a ++ ((ds.take b).drop m ++ ((ds.take m).drop a ++ ds.drop b))).length = ds.length := by simp; omega
  refine list_eq_getD _ _ ds.length (rot_len _ _ _ _) lt fun p hp => ?_
  rw [List.getD_eq_getElem?_getD (l := _ ++ _), List.getElem?_append, l1]
  by_cases h1 : p < a
  · rw [rot_low _ _ _ _ _ hb ham hmb h1, if_pos h1, List.getElem?_take_of_lt h1, List.getD_eq_getElem?_getD]
  · rw [if_neg h1, List.getElem?_append, l2]
    by_cases h2 : p - a < b - m
    · rw [rot_left _ _ _ _ _ hb ham hmb (by omega) (by omega), if_pos h2, List.getElem?_drop, List.getElem?_take_of_lt (by omega), List.getD_eq_getElem?_getD]
      congr 2; omega
    · rw [if_neg h2, List.getElem?_append, l3]
      by_cases h3 : p - a - (b - m) < m - a
      · rw [rot_right _ _ _ _ _ hb ham hmb (by omega) (by omega), if_pos h3, List.getElem?_drop, List.getElem?_take_of_lt (by omega), List.getD_eq_getElem?_getD]
        congr 2; omega
      · rw [if_neg h3, rot_high _ _ _ _ _ hp ham hmb (by omega), List.getElem?_drop, List.getD_eq_getElem?_getD]
        congr 2; omega
theorem parts_perm (ds : List Nat) (a m b : Nat) (hb : b ≤ ds.length) (ham : a ≤ m) (hmb : m ≤ b) : ds = ds.take a ++ ((ds.take m).drop a ++ ((ds.take b).drop m ++ ds.drop b)) := by
  have h1 : ds.take b = ds.take m ++ (ds.take b).drop m := by
    have := List.take_append_drop m (ds.take b)
    rw [List.take_take, Nat.min_eq_left hmb] at this; exact this.symm
  have h2 : ds.take m = ds.take a ++ (ds.take m).drop a := by
    have := List.take_append_drop a (ds.take m)
    rw [List.take_take, Nat.min_eq_left ham] at this; exact this.symm
  have h3 := (List.take_append_drop b ds).symm
  conv => lhs; rw [h3, h1, h2]
  simp only [List.append_assoc]
theorem rot_perm (ds : List Nat) (a m b : Nat) (hb : b ≤ ds.length) (ham : a ≤ m) (hmb : m ≤ b) : (rot ds a m b).Perm ds := by
  rw [rot_parts ds a m b hb ham hmb]
  conv => rhs; rw [parts_perm ds a m b hb ham hmb]
  refine List.Perm.append_left _ ?_
  rw [← List.append_assoc, ← List.append_assoc]
  exact List.Perm.append_right _ List.perm_append_comm

/-- Equal keys stand in the order of their numbers. -/
def St (key : Nat → Nat) (ds : List Nat) : Prop := ∀ p q, p < q → q < ds.length → key (ds.getD p 0) = key (ds.getD q 0) → ds.getD p 0 < ds.getD q 0
def Srt (key : Nat → Nat) (ds : List Nat) (lo hi : Nat) : Prop := ∀ p q, lo ≤ p → p < q → q < hi → key (ds.getD p 0) ≤ key (ds.getD q 0)
def Cross (key : Nat → Nat) (ds : List Nat) (a m b : Nat) : Prop := ∀ p q, a ≤ p → p < m → m ≤ q → q < b → key (ds.getD q 0) < key (ds.getD p 0)
/-- Nothing outside a segment has been turned. -/
def Same (ds es : List Nat) (lo hi : Nat) : Prop := ds.length = es.length ∧ ∀ p, p < lo ∨ hi ≤ p → es.getD p 0 = ds.getD p 0
theorem Same.refl (ds : List Nat) (lo hi : Nat) : Same ds ds lo hi := ⟨rfl, fun _ _ => rfl⟩
theorem Same.trans {ds es fs : List Nat} {lo hi : Nat} (h : Same ds es lo hi) (h2 : Same es fs lo hi) : Same ds fs lo hi := ⟨h.1.trans h2.1, fun p hp => (h2.2 p hp).trans (h.2 p hp)⟩
theorem Same.wide {ds es : List Nat} {lo hi lo' hi' : Nat} (h : Same ds es lo hi) (h1 : lo' ≤ lo) (h2 : hi ≤ hi') : Same ds es lo' hi' := ⟨h.1, fun p hp => h.2 p (by omega)⟩
theorem rot_same (ds : List Nat) (a m b : Nat) (hb : b ≤ ds.length) (ham : a ≤ m) (hmb : m ≤ b) : Same ds (rot ds a m b) a b := by
  refine ⟨(rot_len _ _ _ _).symm, fun p hp => ?_⟩
  rcases Nat.lt_or_ge p ds.length with h9 | h9
  · rcases hp with h | h
    · exact rot_low _ _ _ _ _ hb ham hmb h
    · exact rot_high _ _ _ _ _ h9 ham hmb h
  · rw [List.getD_eq_getElem?_getD, List.getD_eq_getElem?_getD, List.getElem?_eq_none (by rw [rot_len]; exact h9), List.getElem?_eq_none h9]
theorem rot_st {key : Nat → Nat} {ds : List Nat} {a m b : Nat} (h : St key ds) (hc : Cross key ds a m b) (hb : b ≤ ds.length) (ham : a ≤ m) (hmb : m ≤ b) : St key (rot ds a m b) := by
  intro p q hpq hq
  rw [rot_len] at hq
  rw [rot_at _ _ _ _ _ (by omega), rot_at _ _ _ _ _ hq]
  intro he
  by_cases p1 : p < a
  · rw [if_pos p1] at he ⊢
    by_cases q1 : q < a
    · rw [if_pos q1] at he ⊢; exact h p q hpq hq he
    · rw [if_neg q1] at he ⊢
      by_cases q2 : q < a + (b - m)
      · rw [if_pos q2] at he ⊢; exact h _ _ (by omega) (by omega) he
      · rw [if_neg q2] at he ⊢
        by_cases q3 : q < b
        · rw [if_pos q3] at he ⊢; exact h _ _ (by omega) (by omega) he
        · rw [if_neg q3] at he ⊢; exact h _ _ (by omega) (by omega) he
  · rw [if_neg p1, if_neg (by omega : ¬ q < a)] at he ⊢
    by_cases p2 : p < a + (b - m)
    · rw [if_pos p2] at he ⊢
      by_cases q2 : q < a + (b - m)
      · rw [if_pos q2] at he ⊢; exact h _ _ (by omega) (by omega) he
      · rw [if_neg q2] at he ⊢
        by_cases q3 : q < b
        · rw [if_pos q3] at he ⊢
          have := hc (q - (b - m)) (p - a + m) (by omega) (by omega) (by omega) (by omega)
          omega
        · rw [if_neg q3] at he ⊢; exact h _ _ (by omega) (by omega) he
    · rw [if_neg p2, if_neg (by omega : ¬ q < a + (b - m))] at he ⊢
      by_cases p3 : p < b
      · rw [if_pos p3] at he ⊢
        by_cases q3 : q < b
        · rw [if_pos q3] at he ⊢; exact h _ _ (by omega) (by omega) he
        · rw [if_neg q3] at he ⊢; exact h _ _ (by omega) (by omega) he
      · rw [if_neg p3, if_neg (by omega : ¬ q < b)] at he ⊢
        exact h p q hpq hq he
theorem Srt.same {key : Nat → Nat} {ds es : List Nat} {lo hi a b : Nat} (h : Srt key ds lo hi) (hs : Same ds es a b) (hd : hi ≤ a ∨ b ≤ lo) : Srt key es lo hi := by
  intro p q h1 h2 h3
  rw [hs.2 p (by omega), hs.2 q (by omega)]
  exact h p q h1 h2 h3
theorem Srt.sub {key : Nat → Nat} {ds : List Nat} {lo hi lo' hi' : Nat} (h : Srt key ds lo hi) (h1 : lo ≤ lo') (h2 : hi' ≤ hi) : Srt key ds lo' hi' := fun p q h3 h4 h5 => h p q (by omega) h4 (by omega)
theorem Srt.one (key : Nat → Nat) (ds : List Nat) (lo hi : Nat) (h : hi ≤ lo + 1) : Srt key ds lo hi := fun p q h1 h2 h3 => by omega
/-- Two sorted runs, the first not above the second. -/
theorem Srt.join {key : Nat → Nat} {ds : List Nat} {a m b : Nat} (h1 : Srt key ds a m) (h2 : Srt key ds m b) (hc : ∀ p q, a ≤ p → p < m → m ≤ q → q < b → key (ds.getD p 0) ≤ key (ds.getD q 0)) : Srt key ds a b := by
  intro p q hp hpq hq
  rcases Nat.lt_or_ge q m with h | h
  · exact h1 p q hp hpq h
  · rcases Nat.lt_or_ge p m with h9 | h9
    · exact hc p q hp h9 h hq
    · exact h2 p q h9 hpq hq
/-- A run whose segment has been put in order: the numbers of the segment are the same. -/
def All (P : Nat → Prop) (ds : List Nat) (lo hi : Nat) : Prop := ∀ p, lo ≤ p → p < hi → P (ds.getD p 0)
theorem mem_seg (ds : List Nat) (lo hi x : Nat) (hh : hi ≤ ds.length) : x ∈ (ds.take hi).drop lo ↔ ∃ p, lo ≤ p ∧ p < hi ∧ ds.getD p 0 = x := by
  constructor
  · intro hx
    obtain ⟨k, hk⟩ := List.mem_iff_getElem?.1 hx
    rw [List.getElem?_drop] at hk
    have hlt : lo + k < hi := by
      rcases Nat.lt_or_ge (lo + k) hi with h9 | h9
      · exact h9
      · rw [List.getElem?_eq_none (by rw [List.length_take]; omega)] at hk; cases hk
    rw [List.getElem?_take_of_lt hlt] at hk
    exact ⟨lo + k, by omega, hlt, by rw [List.getD_eq_getElem?_getD, hk]; rfl⟩
  · rintro ⟨p, h1, h2, rfl⟩
    refine List.mem_iff_getElem?.2 ⟨p - lo, ?_⟩
    rw [List.getElem?_drop, List.getElem?_take_of_lt (by omega), show lo + (p - lo) = p by omega, List.getD_eq_getElem?_getD, List.getElem?_eq_getElem (by omega)]; rfl
/-- If nothing outside a segment has been turned and the whole is a permutation, so is the segment. -/
theorem seg_perm {ds es : List Nat} {lo hi : Nat} (hs : Same ds es lo hi) (hp : es.Perm ds) (hl : lo ≤ hi) (hh : hi ≤ ds.length) : ((es.take hi).drop lo).Perm ((ds.take hi).drop lo) := by
  have e1 : es.take lo = ds.take lo := by
    refine list_eq_getD _ _ lo (by rw [List.length_take, ← hs.1]; omega) (by rw [List.length_take]; omega) fun i hi2 => ?_
    have := hs.2 i (.inl hi2)
    rw [List.getD_eq_getElem?_getD, List.getElem?_take_of_lt hi2, List.getD_eq_getElem?_getD (l := ds.take lo), List.getElem?_take_of_lt hi2]
    rw [List.getD_eq_getElem?_getD, List.getD_eq_getElem?_getD] at this; exact this
  have e2 : es.drop hi = ds.drop hi := by
    refine list_eq_getD _ _ (ds.length - hi) (by rw [List.length_drop, ← hs.1]) (by rw [List.length_drop]) fun i hi2 => ?_
    have := hs.2 (hi + i) (.inr (by omega))
    rw [List.getD_eq_getElem?_getD, List.getElem?_drop, List.getD_eq_getElem?_getD (l := ds.drop hi), List.getElem?_drop]
    rw [List.getD_eq_getElem?_getD, List.getD_eq_getElem?_getD] at this; exact this
  have h1 := parts_perm ds lo hi hi hh hl (Nat.le_refl _)
  have h2 := parts_perm es lo hi hi (by rw [← hs.1]; exact hh) hl (Nat.le_refl _)
  have n1 : (ds.take hi).drop hi = [] := List.drop_of_length_le (by rw [List.length_take]; omega)
  have n2 : (es.take hi).drop hi = [] := List.drop_of_length_le (by rw [List.length_take]; omega)
  rw [n1, List.nil_append] at h1
  rw [n2, List.nil_append, e1, e2] at h2
  rw [h1, h2] at hp
  have hp2 := (List.perm_append_left_iff _).1 hp
  exact (List.perm_append_right_iff _).1 hp2
theorem All.perm {P : Nat → Prop} {ds es : List Nat} {lo hi : Nat} (h : All P ds lo hi) (hs : Same ds es lo hi) (hp : es.Perm ds) (hl : lo ≤ hi) (hh : hi ≤ ds.length) : All P es lo hi := by
  intro p h1 h2
  have hm : es.getD p 0 ∈ (es.take hi).drop lo := (mem_seg es lo hi _ (by rw [← hs.1]; exact hh)).2 ⟨p, h1, h2, rfl⟩
  obtain ⟨q, hq1, hq2, e⟩ := (mem_seg ds lo hi _ hh).1 ((seg_perm hs hp hl hh).mem_iff.1 hm)
  rw [← e]; exact h q hq1 hq2
end Go.Proofs.YtcojodkcpemfdaaDoor
