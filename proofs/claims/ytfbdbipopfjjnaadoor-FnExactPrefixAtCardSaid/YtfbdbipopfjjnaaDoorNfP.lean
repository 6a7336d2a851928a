/-
  Plain mathematics: a word is a normal form exactly if no letter could stand further to the front; the letters of a downset of positions are a normal form; downsets by rows and by columns.
-/
import Derived.Test.YtfbdbipopfjjnaaDoorOrdM
namespace Go.Proofs.YtfbdbipopfjjnaaDoor
open Go.RowKit
set_option linter.unusedVariables false
set_option maxRecDepth 100000

/-- No letter could stand before a greater one ahead of it. -/
def IsNf (D : Nat → Nat → Bool) (u : List Nat) : Prop := ∀ i k, i < k → k < u.length → u.getD k 0 < u.getD i 0 → ∃ j, i ≤ j ∧ j < k ∧ D (u.getD j 0) (u.getD k 0) = true
theorem isNf_tail {D : Nat → Nat → Bool} {a : Nat} {t : List Nat} (h : IsNf D (a :: t)) : IsNf D t := fun i k hik hk hlt => by
  obtain ⟨j, h1, h2, h3⟩ := h (i + 1) (k + 1) (by omega) (by simpa using hk) (by simpa using hlt)
  obtain ⟨q, rfl⟩ : ∃ q, j = q + 1 := ⟨j - 1, by omega⟩
  exact ⟨q, by omega, by omega, by simpa using h3⟩
theorem nf_fix (D : Nat → Nat → Bool) (n : Nat) : ∀ u : List Nat, (∀ x, x ∈ u → x < n) → IsNf D u → nfGo D n u.length u = u
  | [], _, _ => rfl
  | a :: t, hn, h => by
    have ih := nf_fix D n t (fun x hx => hn x (List.mem_cons_of_mem _ hx)) (isNf_tail h)
    have hl : leastFree D n (a :: t) = some a := by
      rw [leastFree_iff]
      refine ⟨hn a List.mem_cons_self, by rw [free_cons, if_pos rfl], fun b hb => ?_⟩
      rw [Bool.eq_false_iff]
      intro hf
      obtain ⟨p, hp, h1, h2⟩ := (free_places D (a :: t) (t.length + 1) b (by simp)).1 hf
      have hp0 : p ≠ 0 := by
        rintro rfl
        have : a = b := h1
        omega
      obtain ⟨j, _, h4, h5⟩ := h 0 p (by omega) (by simpa using hp) (by rw [h1]; exact hb)
      have := h2 j h4
      rw [h1] at h5
      rw [this] at h5; cases h5
    show (match leastFree D n (a :: t) with | none => [] | some b => b :: nfGo D n t.length ((a :: t).erase b)) = a :: t
    rw [hl]
    show a :: nfGo D n t.length ((a :: t).erase a) = a :: t
    rw [List.erase_cons_head, ih]
theorem nf_isNf {D : Nat → Nat → Bool} {n : Nat} (hsym : ∀ a b, D a b = D b a) (href : ∀ a, a < n → D a a = true) : ∀ (k : Nat) (u : List Nat), u.length = k → (∀ x, x ∈ u → x < n) → IsNf D (nfGo D n k u)
  | 0, _, _, _ => fun i k _ hk _ => absurd hk (Nat.not_lt_zero _)
  | k + 1, u, hu, hn => by
    obtain ⟨a, ha⟩ := least_some (D := D) hn (fun e => by rw [e] at hu; simp at hu)
    obtain ⟨h1, h2, h3⟩ := (leastFree_iff D n u a).1 ha
    have hm := free_mem D a u h2
    have hl' : (u.erase a).length = k := by rw [List.length_erase_of_mem hm]; omega
    have hn' : ∀ x, x ∈ u.erase a → x < n := fun x hx => hn x (List.mem_of_mem_erase hx)
    have ih := nf_isNf hsym href k (u.erase a) hl' hn'
    have he : nfGo D n (k + 1) u = a :: nfGo D n k (u.erase a) := by
      show (match leastFree D n u with | none => [] | some b => b :: nfGo D n k (u.erase b)) = _
      rw [ha]
    have hq : Eqv D (nfGo D n (k + 1) u) u := nfGo_eqv hsym href (k + 1) u hu hn
    rw [he] at hq ⊢
    obtain ⟨t, ht⟩ : ∃ t, t = nfGo D n k (u.erase a) := ⟨_, rfl⟩
    rw [← ht] at ih hq ⊢
    intro i p hip hp hlt
    by_cases h0 : i = 0
    · subst h0
      apply Classical.byContradiction
      intro hno
      have hlt' : (a :: t).getD p 0 < a := hlt
      obtain ⟨b, hb⟩ : ∃ b, b = (a :: t).getD p 0 := ⟨_, rfl⟩
      rw [← hb] at hlt'
      have hf : freeB D (a :: t) b = true := (free_places D (a :: t) (a :: t).length b rfl).2 ⟨p, hp, hb.symm, fun q hqp => by
        cases hD : D ((a :: t).getD q 0) b
        · rfl
        · exact absurd ⟨q, Nat.zero_le _, hqp, by rw [← hb]; exact hD⟩ hno⟩
      rw [hq.free (href b (by omega))] at hf
      rw [h3 b hlt'] at hf; cases hf
    · obtain ⟨i', rfl⟩ : ∃ q, i = q + 1 := ⟨i - 1, by omega⟩
      obtain ⟨p', rfl⟩ : ∃ q, p = q + 1 := ⟨p - 1, by omega⟩
      obtain ⟨j, h4, h5, h6⟩ := ih i' p' (by omega) (by simpa using hp) (by simpa using hlt)
      exact ⟨j + 1, by omega, by omega, by simpa using h6⟩

/-! ### the letters at the places of a set -/
def atM (us : List Nat) (x : Nat) : Nat → List Nat
  | 0 => []
  | k + 1 => if x.testBit k = true then atM us x k ++ [us.getD k 0] else atM us x k
theorem atM_eq (us : List Nat) (x : Nat) : ∀ k, atM us x k = (upTo x k).map (fun i => us.getD i 0)
  | 0 => rfl
  | k + 1 => by
    show (if x.testBit k = true then atM us x k ++ [us.getD k 0] else atM us x k) = _
    rw [atM_eq us x k]
    unfold upTo
    rw [List.range_succ, List.filter_append, List.map_append]
    by_cases h : x.testBit k = true
    · rw [if_pos h, List.filter_cons_of_pos (by simpa using h), List.filter_nil]; rfl
    · rw [if_neg h, List.filter_cons_of_neg (by simpa using h), List.filter_nil, List.map_nil, List.append_nil]
def Down (D : Nat → Nat → Bool) (us : List Nat) (m x : Nat) : Prop := ∀ i k, i < m → k < m → lqB D us i k = true → x.testBit k = true → x.testBit i = true
theorem upTo_sorted (x k : Nat) : (upTo x k).Pairwise (· < ·) := List.Pairwise.sublist List.filter_sublist List.pairwise_lt_range
theorem upTo_mem (x k a : Nat) : a ∈ upTo x k ↔ a < k ∧ x.testBit a = true := by unfold upTo; rw [List.mem_filter, List.mem_range]
theorem getD_map0 (ps : List Nat) (us : List Nat) (i : Nat) (h : i < ps.length) : (ps.map (fun p => us.getD p 0)).getD i 0 = us.getD (ps.getD i 0) 0 := by
  have e : ps.getD i 0 = ps[i] := by rw [List.getD_eq_getElem?_getD, List.getElem?_eq_getElem h]; rfl
  rw [e, List.getD_eq_getElem?_getD, List.getElem?_map, List.getElem?_eq_getElem h]; rfl
theorem getD_mem0 (ps : List Nat) (i : Nat) (h : i < ps.length) : ps.getD i 0 ∈ ps := by
  rw [List.getD_eq_getElem?_getD, List.getElem?_eq_getElem h]; exact List.getElem_mem _
theorem sorted_lt {ps : List Nat} (hs : ps.Pairwise (· < ·)) {i k : Nat} (hk : k < ps.length) (h : i < k) : ps.getD i 0 < ps.getD k 0 := by
  have := List.pairwise_iff_getElem.1 hs i k (by omega) hk h
  rw [List.getD_eq_getElem?_getD, List.getD_eq_getElem?_getD, List.getElem?_eq_getElem (show i < ps.length by omega), List.getElem?_eq_getElem hk]
  exact this
/-- Of a normal form, the letters of a downset are one. -/
theorem at_isNf {D : Nat → Nat → Bool} {us : List Nat} {m x : Nat} (hl : us.length = m) (h : IsNf D us) (hd : Down D us m x) : IsNf D (atM us x m) := by
  rw [atM_eq]
  have hs := upTo_sorted x m
  intro i k hik hk hlt
  rw [List.length_map] at hk
  have hi : i < (upTo x m).length := by omega
  rw [getD_map0 _ _ _ hk, getD_map0 _ _ _ hi] at hlt
  obtain ⟨hkm, hkx⟩ := (upTo_mem x m _).1 (getD_mem0 _ k hk)
  obtain ⟨j, h1, h2, h3⟩ := h _ _ (sorted_lt hs hk hik) (by omega) hlt
  have hjx : x.testBit j = true := hd j _ (by omega) hkm ((lq_rec D us j _).2 (.inr ⟨j, h2, lq_refl _ _ _, h3⟩)) hkx
  have hj : j ∈ upTo x m := (upTo_mem x m j).2 ⟨by omega, hjx⟩
  obtain ⟨q, hq, e⟩ := List.getElem_of_mem hj
  have eq : (upTo x m).getD q 0 = j := by rw [List.getD_eq_getElem?_getD, List.getElem?_eq_getElem hq]; exact e
  refine ⟨q, ?_, ?_, ?_⟩
  · apply Nat.le_of_not_lt
    intro hlt2
    have := sorted_lt hs hi hlt2
    omega
  · apply Nat.lt_of_not_le
    intro hle
    rcases Nat.eq_or_lt_of_le hle with h9 | h9
    · rw [← h9] at eq; omega
    · have := sorted_lt hs hq h9
      omega
  · rw [getD_map0 _ _ _ hq, getD_map0 _ _ _ hk, eq]; exact h3
theorem atM_lt (us : List Nat) (x n : Nat) : ∀ k, (∀ p, p < k → us.getD p 0 < n) → ∀ y, y ∈ atM us x k → y < n
  | 0, _, _, h => by cases h
  | k + 1, hn, y, h => by
    have e : atM us x (k + 1) = if x.testBit k = true then atM us x k ++ [us.getD k 0] else atM us x k := rfl
    rw [e] at h
    split at h
    · rcases List.mem_append.1 h with h | h
      · exact atM_lt us x n k (fun p hp => hn p (by omega)) y h
      · rw [List.mem_singleton] at h; rw [h]; exact hn k (by omega)
    · exact atM_lt us x n k (fun p hp => hn p (by omega)) y h
theorem atM_len (us : List Nat) (x : Nat) : ∀ k, (atM us x k).length ≤ k
  | 0 => Nat.le_refl _
  | k + 1 => by
    have ih := atM_len us x k
    have e : atM us x (k + 1) = if x.testBit k = true then atM us x k ++ [us.getD k 0] else atM us x k := rfl
    rw [e]
    split
    · rw [List.length_append]; show _ + 1 ≤ _; omega
    · omega
theorem at_nf {D : Nat → Nat → Bool} {n m x : Nat} {us : List Nat} (hsym : ∀ a b, D a b = D b a) (href : ∀ a, a < n → D a a = true) (hu : us.length = m) (hn : ∀ y, y ∈ us → y < n) (hd : Down D (nfM D n us) m x) (hl : (nfM D n us).length = m) :
    nfM D n (atM (nfM D n us) x m) = atM (nfM D n us) x m := by
  have h1 : IsNf D (nfM D n us) := nf_isNf hsym href us.length us rfl hn
  have h2 := at_isNf hl h1 hd
  have hlt : ∀ p, p < m → (nfM D n us).getD p 0 < n := fun p hp => by
    have h9 : (nfM D n us).getD p 0 ∈ nfM D n us := getD_mem0 _ _ (by omega)
    have hq := nfM_eqv hsym href us hn
    have h8 : ∀ (k : Nat) (vs : List Nat) (y : Nat), y ∈ nfGo D n k vs → y < n := by
      intro k
      induction k with
      | zero => intro vs y h; cases h
      | succ k ih =>
        intro vs y h
        have e : nfGo D n (k + 1) vs = match leastFree D n vs with | none => [] | some a => a :: nfGo D n k (vs.erase a) := rfl
        rw [e] at h
        cases hl2 : leastFree D n vs with
        | none => rw [hl2] at h; cases h
        | some a =>
          rw [hl2] at h
          rcases List.mem_cons.1 h with rfl | h
          · exact ((leastFree_iff D n vs y).1 hl2).1
          · exact ih _ y h
    exact h8 _ _ _ h9
  exact nf_fix D n _ (atM_lt _ _ _ _ hlt) h2

/-! ### whether a set is a downset: by columns, by rows -/
def dnB (D : Nat → Nat → Bool) (us : List Nat) (x : Nat) : Bool := (bitsOf x).all fun i => dif (dnW D us i) x == 0
def upB (D : Nat → Nat → Bool) (us : List Nat) (m x : Nat) : Bool := (List.range m).all fun i => x.testBit i || upW D us m i &&& x == 0
theorem dnB_iff (D : Nat → Nat → Bool) (us : List Nat) (m x : Nat) (hm : m ≤ 24) (hx : x < 2 ^ m) : dnB D us x = true ↔ Down D us m x := by
  have h24 := p24 m hm
  unfold dnB
  rw [List.all_eq_true]
  constructor
  · intro h i k hi hk hl hb
    have h1 := h k ((bitsOf_mem _ _).2 ⟨by omega, hb⟩)
    rw [beq_iff_eq, dif_zero _ _ (Nat.lt_of_lt_of_le (dnW_lt24 _ _ _) (by decide)) (by omega)] at h1
    exact h1 i ((dnW_bit _ _ _ _).2 ⟨by omega, hl⟩)
  · intro h i hi
    obtain ⟨_, hb⟩ := (bitsOf_mem _ _).1 hi
    have him := bit_lt hx hb
    rw [beq_iff_eq, dif_zero _ _ (Nat.lt_of_lt_of_le (dnW_lt24 _ _ _) (by decide)) (by omega)]
    intro a ha
    obtain ⟨_, h2⟩ := (dnW_bit _ _ _ _).1 ha
    have := lq_le D us a i h2
    exact h a i (by omega) him h2 hb
theorem upB_iff (D : Nat → Nat → Bool) (us : List Nat) (m x : Nat) : upB D us m x = true ↔ Down D us m x := by
  unfold upB
  rw [List.all_eq_true]
  constructor
  · intro h i k hi hk hl hb
    have h1 := h i (List.mem_range.2 hi)
    rw [Bool.or_eq_true, beq_iff_eq] at h1
    rcases h1 with h1 | h1
    · exact h1
    · have := (and_zero_iff _ _).1 h1 k ((upW_bit _ _ _ _ _).2 ⟨hk, hl⟩)
      rw [hb] at this; cases this
  · intro h i hi
    have him := List.mem_range.1 hi
    rw [Bool.or_eq_true, beq_iff_eq]
    cases hb : x.testBit i
    · right
      rw [and_zero_iff]
      intro k hk
      obtain ⟨hkm, hl⟩ := (upW_bit _ _ _ _ _).1 hk
      cases hx : x.testBit k
      · rfl
      · have := h i k him hkm hl hx
        rw [hb] at this; cases this
    · exact .inl rfl
theorem dn_up (D : Nat → Nat → Bool) (us : List Nat) (m x : Nat) (hm : m ≤ 24) (hx : x < 2 ^ m) : dnB D us x = upB D us m x := by
  rw [Bool.eq_iff_iff, dnB_iff D us m x hm hx, upB_iff]
end Go.Proofs.YtfbdbipopfjjnaaDoor
