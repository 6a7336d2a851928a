/-
  Plain mathematics of the merge: where the two runs are cut, and what holds behind the turn.
-/
import Derived.Test.YtcojodkcpemfdaaDoorSymR
namespace Go.Proofs.YtcojodkcpemfdaaDoor
open Go.RowKit
set_option linter.unusedVariables false
set_option maxRecDepth 100000

/-- The bounds between which the cut is sought. -/
def CutOk (a m b mid s0 r0 : Nat) : Prop := a < m ∧ m < b ∧ 2 * mid ≤ a + b ∧ a + b < 2 * mid + 2 ∧ ((mid < m ∧ s0 + b = mid + m ∧ r0 = mid) ∨ (m ≤ mid ∧ s0 = a ∧ r0 = m))
theorem CutOk.le {a m b mid s0 r0 : Nat} (h : CutOk a m b mid s0 r0) : a ≤ s0 ∧ s0 ≤ r0 ∧ r0 ≤ m ∧ r0 ≤ mid ∧ a ≤ mid ∧ mid ≤ b ∧ mid + m - s0 ≤ b := by
  obtain ⟨h1, h2, h3, h4, h5⟩ := h
  rcases h5 with ⟨h5, h6, h7⟩ | ⟨h5, h6, h7⟩ <;> omega
theorem CutOk.at_ {a m b mid s0 r0 t : Nat} (h : CutOk a m b mid s0 r0) (h1 : s0 ≤ t) (h2 : t < r0) : t < m ∧ a ≤ t ∧ m ≤ mid + m - 1 - t ∧ mid + m - 1 - t < b := by
  obtain ⟨g1, g2, g3, g4, h5⟩ := h
  rcases h5 with ⟨h5, h6, h7⟩ | ⟨h5, h6, h7⟩ <;> omega
/-- Where the test holds, it holds further on. -/
theorem cut_next {key : Nat → Nat} {ds : List Nat} {a m b mid s0 r0 c t : Nat} (h : CutOk a m b mid s0 r0) (hA : Srt key ds a m) (hB : Srt key ds m b) (h1 : s0 ≤ c) (h2 : c ≤ t) (h3 : t < r0) (hc : key (ds.getD (mid + m - 1 - c) 0) < key (ds.getD c 0)) : key (ds.getD (mid + m - 1 - t) 0) < key (ds.getD t 0) := by
  by_cases e : c = t
  · subst e; exact hc
  · have a1 := h.at_ h1 (by omega)
    have a2 := h.at_ (t := t) (by omega) h3
    have b1 := hA c t (by omega) (by omega) (by omega)
    have b2 := hB (mid + m - 1 - t) (mid + m - 1 - c) (by omega) (by omega) (by omega)
    omega
theorem cut_prev {key : Nat → Nat} {ds : List Nat} {a m b mid s0 r0 c t : Nat} (h : CutOk a m b mid s0 r0) (hA : Srt key ds a m) (hB : Srt key ds m b) (h1 : s0 ≤ t) (h2 : t ≤ c) (h3 : c < r0) (hc : ¬ key (ds.getD (mid + m - 1 - c) 0) < key (ds.getD c 0)) : ¬ key (ds.getD (mid + m - 1 - t) 0) < key (ds.getD t 0) := fun h9 => hc (cut_next h hA hB h1 h2 h3 h9)
structure CutPost (key : Nat → Nat) (ds : List Nat) (a m b mid S : Nat) : Prop where
  le1 : a ≤ S
  le2 : S ≤ m
  le3 : S ≤ mid
  le4 : m ≤ mid + m - S
  le5 : mid + m - S ≤ b
  le6 : mid ≤ mid + m - S
  cross : Cross key ds S m (mid + m - S)
  s1 : Srt key (rot ds S m (mid + m - S)) a S
  s2 : Srt key (rot ds S m (mid + m - S)) S mid
  s3 : Srt key (rot ds S m (mid + m - S)) mid (mid + m - S)
  s4 : Srt key (rot ds S m (mid + m - S)) (mid + m - S) b
  over : ∀ p q, a ≤ p → p < mid → mid ≤ q → q < b → key ((rot ds S m (mid + m - S)).getD p 0) ≤ key ((rot ds S m (mid + m - S)).getD q 0)
theorem cut_post {key : Nat → Nat} {ds : List Nat} {a m b mid s0 r0 S : Nat} (h : CutOk a m b mid s0 r0) (hA : Srt key ds a m) (hB : Srt key ds m b) (hb : b ≤ ds.length) (h1 : s0 ≤ S) (h2 : S ≤ r0)
    (hlo : ∀ t, s0 ≤ t → t < S → ¬ key (ds.getD (mid + m - 1 - t) 0) < key (ds.getD t 0)) (hhi : ∀ t, S ≤ t → t < r0 → key (ds.getD (mid + m - 1 - t) 0) < key (ds.getD t 0)) : CutPost key ds a m b mid S := by
  have hle := h.le
  obtain ⟨E, hE⟩ : ∃ E, E = mid + m - S := ⟨_, rfl⟩
  have hcross : Cross key ds S m E := by
    intro p q hp1 hp2 hq1 hq2
    have hS : S < r0 := by
      obtain ⟨g1, g2, g3, g4, h5⟩ := h
      rcases h5 with ⟨h5, h6, h7⟩ | ⟨h5, h6, h7⟩ <;> omega
    have c1 := hhi S (Nat.le_refl _) hS
    have e1 : mid + m - 1 - S = E - 1 := by omega
    rw [e1] at c1
    have c2 : key (ds.getD q 0) ≤ key (ds.getD (E - 1) 0) := by
      by_cases e : q = E - 1
      · rw [e]; exact Nat.le_refl _
      · exact hB q (E - 1) hq1 (by omega) (by omega)
    have c3 : key (ds.getD S 0) ≤ key (ds.getD p 0) := by
      by_cases e : p = S
      · rw [e]; exact Nat.le_refl _
      · exact hA S p (by omega) (by omega) hp2
    omega
  have gap : S + (E - m) = mid := by omega
  have at1 : ∀ p, p < S → (rot ds S m E).getD p 0 = ds.getD p 0 := fun p hp => rot_low _ _ _ _ _ (by omega) (by omega) (by omega) hp
  have at2 : ∀ p, S ≤ p → p < mid → (rot ds S m E).getD p 0 = ds.getD (p - S + m) 0 := fun p h3 h4 => rot_left _ _ _ _ _ (by omega) (by omega) (by omega) h3 (by omega)
  have at3 : ∀ p, mid ≤ p → p < E → (rot ds S m E).getD p 0 = ds.getD (p - (E - m)) 0 := fun p h3 h4 => rot_right _ _ _ _ _ (by omega) (by omega) (by omega) (by omega) h4
  have at4 : ∀ p, E ≤ p → p < b → (rot ds S m E).getD p 0 = ds.getD p 0 := fun p h3 h4 => rot_high _ _ _ _ _ (by omega) (by omega) (by omega) h3
  subst hE
  refine ⟨by omega, by omega, by omega, by omega, by omega, by omega, hcross, ?_, ?_, ?_, ?_, ?_⟩
  · intro p q hp hpq hq
    rw [at1 p (by omega), at1 q hq]; exact hA p q hp hpq (by omega)
  · intro p q hp hpq hq
    rw [at2 p hp (by omega), at2 q (by omega) hq]; exact hB _ _ (by omega) (by omega) (by omega)
  · intro p q hp hpq hq
    rw [at3 p hp (by omega), at3 q (by omega) hq]; exact hA _ _ (by omega) (by omega) (by omega)
  · intro p q hp hpq hq
    rw [at4 p hp (by omega), at4 q (by omega) hq]; exact hB _ _ (by omega) (by omega) hq
  · intro p q hp1 hp2 hq1 hq2
    by_cases p1 : p < S
    · rw [at1 p p1]
      by_cases q1 : q < mid + m - S
      · rw [at3 q hq1 q1]; exact hA _ _ hp1 (by omega) (by omega)
      · rw [at4 q (by omega) hq2]
        have hS : s0 < S := by
          obtain ⟨g1, g2, g3, g4, h5⟩ := h
          rcases h5 with ⟨h5, h6, h7⟩ | ⟨h5, h6, h7⟩ <;> omega
        have c1 := hlo (S - 1) (by omega) (by omega)
        have e1 : mid + m - 1 - (S - 1) = mid + m - S := by omega
        rw [e1] at c1
        have c2 : key (ds.getD p 0) ≤ key (ds.getD (S - 1) 0) := by
          by_cases e : p = S - 1
          · rw [e]; exact Nat.le_refl _
          · exact hA p (S - 1) hp1 (by omega) (by omega)
        have c3 : key (ds.getD (mid + m - S) 0) ≤ key (ds.getD q 0) := by
          by_cases e : q = mid + m - S
          · rw [e]; exact Nat.le_refl _
          · exact hB _ q (by omega) (by omega) hq2
        omega
    · rw [at2 p (by omega) hp2]
      by_cases q1 : q < mid + m - S
      · rw [at3 q hq1 q1]
        exact Nat.le_of_lt (hcross (q - (mid + m - S - m)) (p - S + m) (by omega) (by omega) (by omega) (by omega))
      · rw [at4 q (by omega) hq2]; exact hB _ _ (by omega) (by omega) hq2
theorem rot_id (ds : List Nat) (s m e : Nat) (h : ¬ (s < m ∧ m < e)) (h1 : s ≤ m) (h2 : m ≤ e) : rot ds s m e = ds := by
  refine list_eq_getD _ _ ds.length (rot_len _ _ _ _) rfl fun p hp => ?_
  rw [rot_at _ _ _ _ _ hp]
  congr 1; (repeat' split) <;> omega
/-- Behind both calls. -/
theorem cut_end {key : Nat → Nat} {d1 d2 d3 : List Nat} {a mid b : Nat} (hover : ∀ p q, a ≤ p → p < mid → mid ≤ q → q < b → key (d1.getD p 0) ≤ key (d1.getD q 0)) (h1 : d2.Perm d1) (s1 : Same d1 d2 a mid) (h2 : d3.Perm d2) (s2 : Same d2 d3 mid b) (ha : a ≤ mid) (hm : mid ≤ b) (hb : b ≤ d1.length) (k1 : Srt key d2 a mid) (k2 : Srt key d3 mid b) : Srt key d3 a b := by
  have hl : d2.length = d1.length := s1.1.symm
  refine (k1.same s2 (.inl (Nat.le_refl _))).join k2 fun p q hp1 hp2 hq1 hq2 => ?_
  have c1 : All (fun x => ∀ q, mid ≤ q → q < b → key x ≤ key (d1.getD q 0)) d2 a mid := All.perm (fun p h3 h4 q h5 h6 => hover p q h3 h4 h5 h6) s1 h1 ha (by omega)
  have c2 : All (fun y => key (d2.getD p 0) ≤ key y) d3 mid b := All.perm (fun q h3 h4 => by
    have := c1 p hp1 hp2 q h3 h4
    rw [s1.2 q (.inr h3)]; exact this) s2 h2 hm (by omega)
  rw [s2.2 p (.inl hp2)]
  exact c2 q hq1 hq2
end Go.Proofs.YtcojodkcpemfdaaDoor
