/-
  Plain mathematics of alphabets that are made by joining letters: parts and products. The events of a word: plain mathematics; sorting no places. The trace of a word: its places sorted by their letters, their letters, and what comes before each. Normal forms, the model's side: l03First, l03Without, l03Normal. The trace of a word that comes in, and its normal form: contracts. The model's l03Same: each letter of a word is taken away from the front of the other one. slices.Equal of two slices of numbers. NormalForm: both sides. AreSameTrace: both sides.
-/
import Derived.Test.YtdafdffmkjhhcaaDoorM1
import Derived.Test.YtdafdffmkjhhcaaDoorM2
import Derived.Deep.RegionLaw
import Derived.Deep.CutRange
import Derived.Test.YtdafdffmkjhhcaaDoorB2
namespace Go.Proofs.YtdafdffmkjhhcaaDoor
open Go.RowKit
set_option linter.unusedVariables false
set_option maxRecDepth 100000

def mkM (p : Nat → Bool) : Nat → Nat
  | 0 => 0
  | t + 1 => if p t = true then mkM p t ||| 2 ^ t else mkM p t
theorem mkM_bit (p : Nat → Bool) (t b : Nat) : (mkM p t).testBit b = true ↔ b < t ∧ p b = true := by
  induction t with
  | zero => simp [mkM]
  | succ t ih =>
    unfold mkM
    split
    · rename_i h
      rw [Nat.testBit_or, Bool.or_eq_true, ih, p2_bit]
      constructor
      · rintro (⟨h1, h2⟩ | rfl)
        · exact ⟨by omega, h2⟩
        · exact ⟨by omega, h⟩
      · rintro ⟨h1, h2⟩
        by_cases e : t = b
        · exact .inr e
        · exact .inl ⟨by omega, h2⟩
    · rename_i h
      rw [ih]
      constructor
      · rintro ⟨h1, h2⟩; exact ⟨by omega, h2⟩
      · rintro ⟨h1, h2⟩
        refine ⟨?_, h2⟩
        by_cases e : t = b
        · subst e; exact absurd h2 h
        · omega
theorem mkM_lt (p : Nat → Bool) (t m : Nat) (h : t ≤ m) : mkM p t < 2 ^ m := by
  induction t with
  | zero => exact p2_pos m
  | succ t ih =>
    unfold mkM
    split
    · exact Nat.or_lt_two_pow (ih (by omega)) (Nat.pow_lt_pow_right (by decide) (by omega))
    · exact ih (by omega)
def relM (N : Nat) (p : Nat → Nat → Bool) : List Nat := (List.range N).map fun i => mkM (p i) N
theorem relM_len (N : Nat) (p : Nat → Nat → Bool) : (relM N p).length = N := by simp [relM]
theorem relM_at (N : Nat) (p : Nat → Nat → Bool) (i : Nat) (h : i < N) : (relM N p).getD i 0 = mkM (p i) N := getD_range_map _ _ _ h
theorem relM_lt (N : Nat) (p : Nat → Nat → Bool) (i : Nat) : (relM N p).getD i 0 < 2 ^ N := by
  rcases Nat.lt_or_ge i N with h | h
  · rw [relM_at N p i h]; exact mkM_lt _ _ _ (Nat.le_refl _)
  · rw [getD_past _ N i (relM_len N p) h]; exact p2_pos N
theorem relM_R (N : Nat) (p : Nat → Nat → Bool) (i b : Nat) (hi : i < N) : R (relM N p) i b ↔ b < N ∧ p i b = true := by
  unfold R; rw [relM_at N p i hi, mkM_bit]
/-- A list of masks with the bits of p is relM. -/
theorem relM_eq (cs : List Nat) (N : Nat) (p : Nat → Nat → Bool) (hl : cs.length = N) (hc : ∀ i, cs.getD i 0 < 2 ^ N) (h : ∀ i b, i < N → b < N → (R cs i b ↔ p i b = true)) : cs = relM N p :=
  masks_eq cs (relM N p) N hl (relM_len N p) hc (relM_lt N p) fun i b hi hb => by
    show R cs i b ↔ R (relM N p) i b
    rw [h i b hi hb, relM_R N p i b hi]
    exact ⟨fun e => ⟨hb, e⟩, fun e => e.2⟩

/-- Letters alone. -/
def freeM (N : Nat) : List Nat := (List.range N).map fun i => 2 ^ i
theorem freeM_len (N : Nat) : (freeM N).length = N := by simp [freeM]
theorem freeM_at (N i : Nat) (h : i < N) : (freeM N).getD i 0 = 2 ^ i := getD_range_map _ _ _ h
theorem freeM_lt (N i : Nat) : (freeM N).getD i 0 < 2 ^ N := by
  rcases Nat.lt_or_ge i N with h | h
  · rw [freeM_at N i h]; exact Nat.pow_lt_pow_right (by decide) h
  · rw [getD_past _ N i (freeM_len N) h]; exact p2_pos N
theorem freeM_next (k : Nat) : freeM (k + 1) = freeM k ++ [2 ^ k] := by unfold freeM; rw [List.range_succ]; simp

def Before (a b i k : Nat) : Prop := i < a ∨ (i = a ∧ k < b)
/-- The letters so far: those alone, and the pairs that came before (a, b). -/
def Joined (zs : List Nat) (N : Nat) (D : Nat → Nat → Bool) (a b : Nat) : Prop :=
  zs.length = N ∧ (∀ i, zs.getD i 0 < 2 ^ N) ∧ ∀ i k, i < N → k < N → (R zs i k ↔ i = k ∨ (Before a b i k ∧ D i k = true) ∨ (Before a b k i ∧ D k i = true))
theorem joined_start (N : Nat) (D : Nat → Nat → Bool) : Joined (freeM N) N D 0 0 := by
  refine ⟨freeM_len N, freeM_lt N, fun i k hi hk => ?_⟩
  unfold R
  rw [freeM_at N i hi, p2_bit]
  constructor
  · exact fun h => .inl h
  · rintro (h | ⟨h, _⟩ | ⟨h, _⟩)
    · exact h
    · unfold Before at h; omega
    · unfold Before at h; omega
theorem joined_row {zs : List Nat} {N : Nat} {D : Nat → Nat → Bool} {a : Nat} (h : Joined zs N D a N) : Joined zs N D (a + 1) 0 := by
  refine ⟨h.1, h.2.1, fun i k hi hk => ?_⟩
  rw [h.2.2 i k hi hk]
  have e : ∀ i k, i < N → k < N → (Before a N i k ↔ Before (a + 1) 0 i k) := by intro i k hi hk; unfold Before; omega
  rw [e i k hi hk, e k i hk hi]
theorem joined_no {zs : List Nat} {N : Nat} {D : Nat → Nat → Bool} {a b : Nat} (h : Joined zs N D a b) (hd : D a b = false) : Joined zs N D a (b + 1) := by
  refine ⟨h.1, h.2.1, fun i k hi hk => ?_⟩
  rw [h.2.2 i k hi hk]
  have e : ∀ i k, (Before a (b + 1) i k ∧ D i k = true) ↔ (Before a b i k ∧ D i k = true) := by
    intro i k
    constructor
    · rintro ⟨h1, h2⟩
      refine ⟨?_, h2⟩
      unfold Before at h1 ⊢
      rcases h1 with h1 | ⟨rfl, h1⟩
      · exact .inl h1
      · by_cases e : k = b
        · subst e; rw [hd] at h2; cases h2
        · exact .inr ⟨rfl, by omega⟩
    · rintro ⟨h1, h2⟩
      refine ⟨?_, h2⟩
      unfold Before at h1 ⊢; omega
  rw [e i k, e k i]
def joinM (zs : List Nat) (a b : Nat) : List Nat :=
  let ys := zs.set a (zs.getD a 0 ||| 2 ^ b)
  ys.set b (ys.getD b 0 ||| 2 ^ a)
theorem joinM_at (zs : List Nat) (a b i : Nat) (ha : a < zs.length) (hb : b < zs.length) (k : Nat) :
    ((joinM zs a b).getD i 0).testBit k = true ↔ (zs.getD i 0).testBit k = true ∨ (i = a ∧ k = b) ∨ (i = b ∧ k = a) := by
  unfold joinM
  rw [getD_set _ _ _ _ (by rw [List.length_set]; exact hb), getD_set _ _ _ _ ha, getD_set _ _ _ _ ha]
  by_cases h1 : i = b
  · subst h1
    rw [if_pos rfl, Nat.testBit_or, Bool.or_eq_true, p2_bit]
    by_cases h2 : i = a
    · subst h2
      rw [if_pos rfl, Nat.testBit_or, Bool.or_eq_true, p2_bit]
      constructor
      · rintro ((h | h) | h)
        · exact .inl h
        · exact .inr (.inl ⟨rfl, h.symm⟩)
        · exact .inr (.inl ⟨rfl, h.symm⟩)
      · rintro (h | ⟨_, h⟩ | ⟨_, h⟩)
        · exact .inl (.inl h)
        · exact .inr h.symm
        · exact .inr h.symm
    · rw [if_neg h2]
      constructor
      · rintro (h | h)
        · exact .inl h
        · exact .inr (.inr ⟨rfl, h.symm⟩)
      · rintro (h | ⟨h, _⟩ | ⟨_, h⟩)
        · exact .inl h
        · exact absurd h h2
        · exact .inr h.symm
  · rw [if_neg h1]
    by_cases h2 : i = a
    · subst h2
      rw [if_pos rfl, Nat.testBit_or, Bool.or_eq_true, p2_bit]
      constructor
      · rintro (h | h)
        · exact .inl h
        · exact .inr (.inl ⟨rfl, h.symm⟩)
      · rintro (h | ⟨_, h⟩ | ⟨h, _⟩)
        · exact .inl h
        · exact .inr h.symm
        · exact absurd h h1
    · rw [if_neg h2]
      constructor
      · exact fun h => .inl h
      · rintro (h | ⟨h, _⟩ | ⟨h, _⟩)
        · exact h
        · exact absurd h h2
        · exact absurd h h1
theorem joinM_len (zs : List Nat) (a b : Nat) : (joinM zs a b).length = zs.length := by simp [joinM]
theorem joined_yes {zs : List Nat} {N : Nat} {D : Nat → Nat → Bool} {a b : Nat} (h : Joined zs N D a b) (hd : D a b = true) (ha : a < N) (hb : b < N) : Joined (joinM zs a b) N D a (b + 1) := by
  refine ⟨by rw [joinM_len, h.1], fun i => ?_, fun i k hi hk => ?_⟩
  · refine Nat.lt_pow_two_of_testBit _ fun k hk => ?_
    cases e : ((joinM zs a b).getD i 0).testBit k with
    | false => rfl
    | true =>
      exfalso
      rcases (joinM_at zs a b i (by have := h.1; omega) (by have := h.1; omega) k).1 e with h1 | ⟨_, h1⟩ | ⟨_, h1⟩
      · have := bit_lt (h.2.1 i) h1; omega
      · omega
      · omega
  · show ((joinM zs a b).getD i 0).testBit k = true ↔ _
    rw [joinM_at zs a b i (by have := h.1; omega) (by have := h.1; omega) k]
    have := h.2.2 i k hi hk
    unfold R at this
    rw [this]
    have e : ∀ i k, (Before a (b + 1) i k ∧ D i k = true) ↔ (Before a b i k ∧ D i k = true) ∨ (i = a ∧ k = b) := by
      intro i k
      constructor
      · rintro ⟨h1, h2⟩
        unfold Before at h1 ⊢
        rcases h1 with h1 | ⟨rfl, h1⟩
        · exact .inl ⟨.inl h1, h2⟩
        · by_cases e : k = b
          · exact .inr ⟨rfl, e⟩
          · exact .inl ⟨.inr ⟨rfl, by omega⟩, h2⟩
      · rintro (⟨h1, h2⟩ | ⟨rfl, rfl⟩)
        · refine ⟨?_, h2⟩
          unfold Before at h1 ⊢; omega
        · exact ⟨.inr ⟨rfl, by omega⟩, hd⟩
    rw [e i k, e k i]
    constructor
    · rintro ((h1 | h1 | h1) | ⟨h1, h2⟩ | ⟨h1, h2⟩)
      · exact .inl h1
      · exact .inr (.inl (.inl h1))
      · exact .inr (.inr (.inl h1))
      · exact .inr (.inl (.inr ⟨h1, h2⟩))
      · exact .inr (.inr (.inr ⟨h2, h1⟩))
    · rintro (h1 | (h1 | ⟨h1, h2⟩) | (h1 | ⟨h1, h2⟩))
      · exact .inl (.inl h1)
      · exact .inl (.inr (.inl h1))
      · exact .inr (.inl ⟨h1, h2⟩)
      · exact .inl (.inr (.inr h1))
      · exact .inr (.inr ⟨h2, h1⟩)
/-- Behind all pairs of a symmetric and reflexive D. -/
theorem joined_end {zs : List Nat} {N : Nat} {D : Nat → Nat → Bool} (h : Joined zs N D N 0) (hr : ∀ i, i < N → D i i = true) (hs : ∀ i k, i < N → k < N → D i k = D k i) : zs = relM N D := by
  refine relM_eq zs N D h.1 h.2.1 fun i b hi hb => ?_
  rw [h.2.2 i b hi hb, hs b i hb hi]
  have e : ∀ i k, i < N → k < N → Before N 0 i k := by intro i k hi hk; exact .inl hi
  constructor
  · rintro (rfl | ⟨_, h⟩ | ⟨_, h⟩)
    · exact hr i hi
    · exact h
    · exact h
  · exact fun h => .inr (.inl ⟨e i b hi hb, h⟩)
end Go.Proofs.YtdafdffmkjhhcaaDoor
namespace Go.Proofs.YtdafdffmkjhhcaaDoor
open Go Go.RowKit
set_option linter.unusedVariables false
set_option maxRecDepth 100000

/-- What depends: by the rows of a relation. -/
def RDep (rows : List Nat) (a b : Nat) : Bool := (rows.getD a 0).testBit b
/-- Whether the event at place f comes before that at place e, and e's letter depends on it. -/
def befP (rows us es : List Nat) (e f : Nat) : Bool := decide (es.getD f 0 < es.getD e 0) && RDep rows (us.getD (es.getD e 0) 0) (us.getD (es.getD f 0) 0)
def letM (us es : List Nat) (m k : Nat) : List Nat := (List.range k).map fun e => us.getD (es.getD e 0) 0
/-- The events before each one, where those of e events are whole and that of one more is whole up to f. -/
def befM (rows us es : List Nat) (m e f : Nat) : List Nat := (List.range m).map fun j => if j < e then mkM (befP rows us es j) m else if j = e then mkM (befP rows us es e) f else 0
theorem letM_len (us es : List Nat) (m k : Nat) : (letM us es m k).length = k := by simp [letM]
theorem letM_at (us es : List Nat) (m k e : Nat) (h : e < k) : (letM us es m k).getD e 0 = us.getD (es.getD e 0) 0 := getD_range_map _ _ _ h
theorem letM_snoc (us es : List Nat) (m k : Nat) : letM us es m (k + 1) = letM us es m k ++ [us.getD (es.getD k 0) 0] := by
  unfold letM; rw [List.range_succ, List.map_append]; rfl
theorem befM_len (rows us es : List Nat) (m e f : Nat) : (befM rows us es m e f).length = m := by simp [befM]
theorem befM_at (rows us es : List Nat) (m e f j : Nat) (h : j < m) : (befM rows us es m e f).getD j 0 = if j < e then mkM (befP rows us es j) m else if j = e then mkM (befP rows us es e) f else 0 := getD_range_map _ _ _ h
theorem befM_zero (rows us es : List Nat) (m : Nat) : befM rows us es m 0 0 = List.replicate m 0 := by
  refine list_eq_getD _ _ m (befM_len _ _ _ _ _ _) List.length_replicate fun j hj => ?_
  rw [befM_at _ _ _ _ _ _ _ hj, if_neg (by omega)]
  have : (List.replicate m 0).getD j 0 = 0 := by rw [List.getD_eq_getElem?_getD, List.getElem?_replicate, if_pos hj]; rfl
  rw [this]
  split <;> rfl
theorem befM_round (rows us es : List Nat) (m e : Nat) : befM rows us es m e m = befM rows us es m (e + 1) 0 := by
  refine list_eq_getD _ _ m (befM_len _ _ _ _ _ _) (befM_len _ _ _ _ _ _) fun j hj => ?_
  rw [befM_at _ _ _ _ _ _ _ hj, befM_at _ _ _ _ _ _ _ hj]
  by_cases h1 : j < e
  · rw [if_pos h1, if_pos (by omega)]
  · rw [if_neg h1]
    by_cases h2 : j = e
    · subst h2; rw [if_pos rfl, if_pos (by omega)]
    · rw [if_neg h2, if_neg (by omega)]
      split <;> rfl
theorem befM_cur (rows us es : List Nat) (m e f : Nat) (h : e < m) : (befM rows us es m e f).getD e 0 = mkM (befP rows us es e) f := by
  rw [befM_at _ _ _ _ _ _ _ h, if_neg (by omega), if_pos rfl]
theorem befM_set (rows us es : List Nat) (m e f : Nat) (h : e < m) (hp : befP rows us es e f = true) : (befM rows us es m e f).set e ((befM rows us es m e f).getD e 0 ||| 2 ^ f) = befM rows us es m e (f + 1) := by
  refine list_eq_getD _ _ m (by rw [List.length_set, befM_len]) (befM_len _ _ _ _ _ _) fun j hj => ?_
  rw [getD_set _ _ _ _ (by rw [befM_len]; exact h), befM_cur _ _ _ _ _ _ h, befM_at _ _ _ _ _ (f + 1) _ hj]
  by_cases e9 : j = e
  · subst e9; rw [if_pos rfl, if_neg (by omega), if_pos rfl]
    show _ = (if befP rows us es j f = true then mkM (befP rows us es j) f ||| 2 ^ f else mkM (befP rows us es j) f)
    rw [if_pos hp]
  · rw [if_neg e9, befM_at _ _ _ _ _ _ _ hj, if_neg e9, if_neg e9]
theorem befM_skip (rows us es : List Nat) (m e f : Nat) (hp : befP rows us es e f = false) : befM rows us es m e f = befM rows us es m e (f + 1) := by
  refine list_eq_getD _ _ m (befM_len _ _ _ _ _ _) (befM_len _ _ _ _ _ _) fun j hj => ?_
  rw [befM_at _ _ _ _ _ _ _ hj, befM_at _ _ _ _ _ _ _ hj]
  have : mkM (befP rows us es e) (f + 1) = mkM (befP rows us es e) f := by
    show (if befP rows us es e f = true then _ else _) = _
    rw [hp]; rfl
  rw [this]
theorem befM_lt (rows us es : List Nat) (m e f : Nat) (hf : f ≤ m) (j : Nat) : (befM rows us es m e f).getD j 0 < 2 ^ m := by
  rcases Nat.lt_or_ge j m with h | h
  · rw [befM_at _ _ _ _ _ _ _ h]
    split
    · exact mkM_lt _ _ _ (Nat.le_refl _)
    · split
      · exact mkM_lt _ _ _ hf
      · exact p2_pos m
  · rw [getD_past _ m j (befM_len _ _ _ _ _ _) h]; exact p2_pos m
/-- The sorted places are the events. -/
theorem evs_of (rows us es : List Nat) (m : Nat) (hu : us.length = m) (hp : es.Perm (List.range m)) (hs : Srt (fun p => us.getD p 0) es 0 m) :
    Evs (RDep rows) us m (fun e => es.getD e 0) (fun e => (letM us es m m).getD e 0) (fun e => (befM rows us es m m 0).getD e 0) := by
  have hl : es.length = m := by rw [hp.length_eq, List.length_range]
  have hnd : es.Nodup := hp.nodup_iff.2 List.nodup_range
  have hin : ∀ e, e < m → es.getD e 0 ∈ es := fun e he => by
    rw [List.getD_eq_getElem?_getD, List.getElem?_eq_getElem (by omega)]; exact List.getElem_mem _
  refine ⟨hu, fun e he => ?_, fun e f he hf h => ?_, fun p hp' => ?_, fun e he => letM_at _ _ _ _ _ he, fun e f hef hf => ?_, fun e f he => ?_⟩
  · have := hp.mem_iff.1 (hin e he)
    rwa [List.mem_range] at this
  · have h1 : es[e]? = es[f]? := by
      have h' : es.getD e 0 = es.getD f 0 := h
      rw [List.getD_eq_getElem?_getD, List.getD_eq_getElem?_getD, List.getElem?_eq_getElem (by omega), List.getElem?_eq_getElem (by omega)] at h'
      rw [List.getElem?_eq_getElem (by omega), List.getElem?_eq_getElem (by omega)]
      exact congrArg some h'
    exact (List.getElem?_inj (by omega) hnd).1 h1
  · have : p ∈ es := hp.mem_iff.2 (List.mem_range.2 hp')
    obtain ⟨j, hj, e⟩ := List.getElem_of_mem this
    exact ⟨j, by omega, by show es.getD j 0 = p; rw [List.getD_eq_getElem?_getD, List.getElem?_eq_getElem hj]; exact e⟩
  · show (letM us es m m).getD e 0 ≤ (letM us es m m).getD f 0
    rw [letM_at _ _ _ _ _ (by omega), letM_at _ _ _ _ _ hf]
    exact hs e f (Nat.zero_le _) hef hf
  · show ((befM rows us es m m 0).getD e 0).testBit f = true ↔ _
    rw [befM_at _ _ _ _ _ _ _ he, if_pos he, mkM_bit]
    show (f < m ∧ (decide (es.getD f 0 < es.getD e 0) && _) = true) ↔ _
    rw [Bool.and_eq_true, decide_eq_true_eq]
/-- Picking goes on to the end. -/
theorem goes_of {D : Nat → Nat → Bool} {us : List Nat} {m n : Nat} {es ls bf : Nat → Nat} (h : Evs D us m es ls bf) (hm : m ≤ 24) (hsym : ∀ a b, D a b = D b a) (href : ∀ a, a < n → D a a = true) (hn : ∀ p, p < m → us.getD p 0 < n) :
    ∀ (k left : Nat) (ps : List Nat), left < 2 ^ m → Left m es left ps → ps.length = k → Goes bf k left
  | 0, left, ps, hlt, hl, hk => by
    have hps : ps = [] := List.eq_nil_of_length_eq_zero hk
    subst hps
    show left = 0
    apply Nat.eq_of_testBit_eq
    intro i
    rw [Nat.zero_testBit]
    cases hb : left.testBit i
    · rfl
    · have := (hl.2 (es i)).2 ⟨i, bit_lt hlt hb, hb, rfl⟩
      cases this
  | k + 1, left, ps, hlt, hl, hk => by
    obtain ⟨e, he⟩ := pick_none h hm hl (fun e => by rw [e] at hk; simp at hk)
    obtain ⟨h1, h2, h3, h4, h5⟩ := pick_some h hm hsym href hn hlt hl he
    refine ⟨fun h0 => ?_, e, he, goes_of h hm hsym href hn k _ _ (Nat.lt_of_le_of_lt (dif_le _ _) hlt) h4 (by rw [List.length_erase_of_mem h5]; omega)⟩
    have := ((pickB_iff bf left e).1 he).1.2.1
    rw [h0, Nat.zero_testBit] at this; cases this
theorem goes_full {D : Nat → Nat → Bool} {us : List Nat} {m n : Nat} {es ls bf : Nat → Nat} (h : Evs D us m es ls bf) (hm : m ≤ 24) (hsym : ∀ a b, D a b = D b a) (href : ∀ a, a < n → D a a = true) (hn : ∀ p, p < m → us.getD p 0 < n) : Goes bf m (2 ^ m - 1) :=
  goes_of h hm hsym href hn m (2 ^ m - 1) (List.range m) (by have := Nat.two_pow_pos m; omega) (left_full m hm es h) (by simp)
theorem bits_full (m : Nat) (hm : m ≤ 24) : bitsOf (2 ^ m - 1) = List.range m := by
  unfold bitsOf
  rw [upTo_skip (2 ^ m - 1) m 24 hm (fun b h1 _ => by rw [Nat.testBit_two_pow_sub_one]; simp; omega)]
  unfold upTo
  rw [List.filter_eq_self]
  intro b hb
  rw [Nat.testBit_two_pow_sub_one]
  simpa using hb
theorem range_st (key : Nat → Nat) (m : Nat) : St key (List.range m) := fun p q h1 h2 _ => by
  rw [List.length_range] at h2
  have e : ∀ k, k < m → (List.range m).getD k 0 = k := fun k hk => by rw [List.getD_eq_getElem?_getD, List.getElem?_range hk]; rfl
  rw [e p (by omega), e q h2]; exact h1
theorem members_zero (w : World) :
    Calls Tryd.prog 112 #[.int .i64 0] w fun e w' => ∃ g c, e = .returned (.slice (some ⟨g, 0, none⟩) 0 c) ∧ Own 2 w' w.heap.size (some ⟨g, 0, none⟩) 0 c (ints []) ∧ Below w.heap.size w w' := by
  obtain ⟨i0, hi, hz0, hz1, hz2⟩ := info_parts info_int
  go_enter Tryd.func112, Tryd.ntmps112
  go_wp2_with fail
  refine (size_any 0 (by omega) _).mono ?_
  rintro e w' ⟨N, hN, rfl, rfl⟩
  have hml : N ≤ maxLen := by unfold maxLen; omega
  have hby : i0.bytes * N ≤ 281474976710656 := by rw [hz2]; omega
  go_wp2_with (at_make; refine wpList_make_own _ rfl _ _ _ rfl w.heap.size 2 i0 (.int .i64 0) 1 Tryd.underlying22 hi hz0 hz1 _ _ (N : Int) N rfl rfl rfl hby hml (Nat.le_refl _) ?_; intro w1 hown0 hg1)
  have hb1 : Below w.heap.size w w1 := (Below.refl _ _).grown hg1 (Nat.le_refl _) (by simp)
  clear hg1 hml hby
  go_loopw [3, 4] (fun v q wr => v = .slice (some ⟨w.heap.size, 0, none⟩) 0 N ∧ q = .int .i64 0 ∧ wr = w1) (fun _ q _ => (intOf q).toNat)
  case atStart => exact ⟨rfl, rfl, rfl⟩
  case round =>
    obtain ⟨rfl, rfl, rfl⟩ := hrel
    go_wp2
    go_ret
    exact ⟨_, _, rfl, hown0, hb1⟩
theorem members_some (x : Nat) (hx : x < 16777216) (w : World) (hT : Tab w) :
    Calls Tryd.prog 112 #[.int .i64 (x : Int)] w fun e w' => ∃ g c, e = .returned (.slice (some ⟨g, 0, none⟩) (bitsOf x).length c) ∧ Own 2 w' w.heap.size (some ⟨g, 0, none⟩) (bitsOf x).length c (ints (bitsOf x)) ∧ Below w.heap.size w w' := by
  by_cases h : 0 < (bitsOf x).length
  · refine (members_any x hx w hT).mono ?_
    rintro e w' ⟨A, c, rfl, ho, hb⟩
    obtain ⟨g, rfl, _⟩ := ho.form h
    exact ⟨g, c, rfl, ho, hb⟩
  · have hl : (bitsOf x).length = 0 := by omega
    have hnil : bitsOf x = [] := List.eq_nil_of_length_eq_zero hl
    have hx0 : x = 0 := by
      apply Nat.eq_of_testBit_eq
      intro i
      rw [Nat.zero_testBit]
      cases hb : x.testBit i
      · rfl
      · have hi : i < 24 := bit_lt (show x < 2 ^ 24 by omega) hb
        have := (bitsOf_mem x i).2 ⟨hi, hb⟩
        rw [hnil] at this; cases this
    subst hx0
    rw [hnil]
    exact members_zero w
end Go.Proofs.YtdafdffmkjhhcaaDoor
namespace Go.Proofs.YtdafdffmkjhhcaaDoor
open Go Go.RowKit
set_option linter.unusedVariables false
set_option maxRecDepth 100000

/-- A variable that holds a trace: two slices. -/
def TBox (w : World) (g : Nat) (A : Option Addr) (n c : Nat) (B : Option Addr) (n' c' : Nat) : Prop := w.heap[g]? = some (.cells #[.slice A n c, .slice B n' c'] 85 (0, 0))
section
variable {w w' : World} {g n c n' c' : Nat} {A B : Option Addr}
theorem TBox.lt (h : TBox w g A n c B n' c') : g < w.heap.size := (Array.getElem?_eq_some_iff.1 h).1
theorem TBox.c0 (h : TBox w g A n c B n' c') : w.cell? ⟨g, 0, none⟩ = some (.slice A n c) := by unfold TBox at h; unfold World.cell?; rw [h]; rfl
theorem TBox.c1 (h : TBox w g A n c B n' c') : w.cell? ⟨g, 1, none⟩ = some (.slice B n' c') := by unfold TBox at h; unfold World.cell?; rw [h]; rfl
theorem TBox.fr (h : TBox w g A n c B n' c') (k : Nat) : w.frozen? ⟨g, k, none⟩ = false := by unfold TBox at h; simp [World.frozen?, h]
theorem TBox.next (h : TBox w g A n c B n' c') (hb : Below w.heap.size w w') : TBox w' g A n c B n' c' := (hb.block g h.lt).trans h
theorem TBox.apart {row : Option Nat} (h : TBox w g A n c B n' c') (hg : w.grownBy w' row) (hne : row ≠ some g) : TBox w' g A n c B n' c' := (hg.block g h.lt (fun e => hne e.symm)).trans h
theorem TBox.other (h : TBox w g A n c B n' c') (b k : Nat) (v : Value) (hne : g ≠ b) : TBox (w.setCell ⟨b, k, none⟩ v) g A n c B n' c' := by
  unfold TBox; rw [Below.heap_setCell w _ v g (fun e => hne e)]; exact h
theorem TBox.set0 (h : TBox w g A n c B n' c') (A' : Option Addr) (k k' : Nat) : TBox (w.setCell ⟨g, 0, none⟩ (.slice A' k k')) g A' k k' B n' c' := by unfold TBox at h ⊢; rw [heap_put h]; rfl
theorem TBox.set1 (h : TBox w g A n c B n' c') (A' : Option Addr) (k k' : Nat) : TBox (w.setCell ⟨g, 1, none⟩ (.slice A' k k')) g A n c A' k k' := by unfold TBox at h ⊢; rw [heap_put h]; rfl
end
theorem tbox_new (w : World) (A : Option Addr) (n c : Nat) (B : Option Addr) (n' c' : Nat) : TBox (w.alloc (.cells #[.slice A n c, .slice B n' c'] 85)) w.heap.size A n c B n' c' := World.alloc_heap_new w _
theorem ownBlock_map' {A : Option Addr} {n c q : Nat} (h : (Value.slice A n c).ownBlock = some q) : A.map (·.block) = some q := by
  cases A with
  | none => cases h
  | some a => simpa [Value.ownBlock] using h
theorem own_obj {E : TypeId} {w : World} {B n c b : Nat} {A : Option Addr} {xs : List Int} (h : Own E w B A n c xs) (hb : A.map (·.block) = some b) : ∃ cur, w.heap[b]? = some (.cells cur E (0, 0)) := by
  rcases h.2 with ⟨h0, _⟩ | ⟨g, cap, cur, e1, _, h3, _⟩
  · cases A with
    | none => cases hb
    | some _ => injection h0 with h0; cases h0
  · injection e1 with e1
    subst e1
    injection hb with hb
    subst hb
    exact ⟨cur, h3⟩
theorem own_ne {E E' : TypeId} {w : World} {B B' n c n' c' b b' : Nat} {A A' : Option Addr} {xs ys : List Int} (h : Own E w B A n c xs) (h' : Own E' w B' A' n' c' ys) (hE : E ≠ E') (hb : A.map (·.block) = some b) (hb' : A'.map (·.block) = some b') : b ≠ b' := by
  intro e
  subst e
  obtain ⟨c1, h1⟩ := own_obj h hb
  obtain ⟨c2, h2⟩ := own_obj h' hb'
  rw [h1] at h2
  injection h2 with h2
  injection h2 with _ h2
  exact hE h2
theorem TBox.ne_own {w : World} {g n c n' c' B k d b : Nat} {A A' Q : Option Addr} {E : TypeId} {xs : List Int} (h : TBox w g A n c A' n' c') (h' : Own E w B Q k d xs) (hE : E ≠ 85) (hb : Q.map (·.block) = some b) : b ≠ g := by
  intro e
  subst e
  obtain ⟨c1, h1⟩ := own_obj h' hb
  unfold TBox at h
  rw [h] at h1
  injection h1 with h1
  injection h1 with _ h1
  exact hE h1.symm
def TracePost (m : Nat) (rows us : List Nat) (w : World) (e : Ending) (w' : World) : Prop :=
  ∃ A1 c1 B1 d1 es, e = .returned (.agg #[.slice A1 m c1, .slice B1 m d1]) ∧ es.Perm (List.range m) ∧ Srt (fun p => us.getD p 0) es 0 m ∧ Rd w' A1 m (ints (letM us es m m)) ∧ Rd w' B1 m (ints (befM rows us es m m 0)) ∧ (∀ b, A1.map (·.block) = some b → w.heap.size ≤ b) ∧ (∀ b, B1.map (·.block) = some b → w.heap.size ≤ b) ∧ Below w.heap.size w w'
set_option maxHeartbeats 4000000 in
theorem traceOf_any (R A : Option Addr) (n m cr cu : Nat) (rows us : List Nat) (w : World) (hR : Rd w R n (ints rows)) (hU : Rd w A m (ints us)) (hm : m ≤ 24) (hn : n ≤ 24) (hus : ∀ p, p < m → us.getD p 0 < n) (hrs : ∀ i, rows.getD i 0 < 9223372036854775808) (hT : Tab w) :
    Calls Tryd.prog 66 #[.slice R n cr, .slice A m cu] w (TracePost m rows us w) := by
  obtain ⟨i0, hi, hz0, hz1, hz2⟩ := info_parts info_int
  obtain ⟨i1, hi', hz0', hz1', hz2'⟩ := info_parts info_set
  have h24 : (2:Nat) ^ m ≤ 2 ^ 24 := Nat.pow_le_pow_right (by decide) hm
  obtain ⟨P, hP⟩ : ∃ P, P = 2 ^ m - 1 := ⟨_, rfl⟩
  have HFN : Hid (∀ ww : World, Calls Tryd.prog 111 #[.int .i64 (m : Int)] ww fun e w' => e = .returned (.int .i64 (P : Int)) ∧ ww = w') := Lib.hid (by rw [hP]; exact fun ww => firstNumbers_any m (by omega) ww)
  have HME : Hid (∀ ww : World, Tab ww → Calls Tryd.prog 112 #[.int .i64 (P : Int)] ww fun e w' => ∃ g c, e = .returned (.slice (some ⟨g, 0, none⟩) m c) ∧ Own 2 w' ww.heap.size (some ⟨g, 0, none⟩) m c (ints (List.range m)) ∧ Below ww.heap.size ww w') := Lib.hid fun ww ht => by
    have := members_some P (by omega) ww ht
    rw [show bitsOf P = List.range m by rw [hP]; exact bits_full m hm, List.length_range] at this
    exact this
  have HUS := Lib.hid hus
  have HRS := Lib.hid hrs
  have hlenU : us.length = m := by have := hU.1; rw [ints_len] at this; exact this
  have hlenR : rows.length = n := by have := hR.1; rw [ints_len] at this; exact this
  have HLU := Lib.hid hlenU
  have HLR := Lib.hid hlenR
  clear hP h24 hus hrs hlenU hlenR
  have mixed : Tryd.prog.follows .mixedOrders = true := by kernel_rfl
  obtain ⟨W1, hW1⟩ : ∃ W1, (w.alloc (.cells #[.slice A m cu] 22)).alloc (.cells #[.slice none 0 0, .slice none 0 0] 85) = W1 := ⟨_, rfl⟩
  have hb1 : Below w.heap.size w W1 := by rw [← hW1]; exact ((Below.refl _ w).alloc (Nat.le_refl _) _).alloc (by simp) _
  have u1 : Boxed W1 w.heap.size 22 (.slice A m cu) := by rw [← hW1]; exact (Boxed.new w _ _).alloc _
  have r1 : TBox W1 (w.heap.size + 1) none 0 0 none 0 0 := by rw [← hW1]; have := tbox_new (w.alloc (.cells #[.slice A m cu] 22)) none 0 0 none 0 0; rwa [World.size_alloc] at this
  have uc1 := u1.cell
  go_enter Tryd.func66, Tryd.ntmps66
  go_wp2_with fail
  refine (HFN.out _).mono ?_
  rintro e w' ⟨rfl, rfl⟩
  go_wp2_with fail
  refine (HME.out _ (hT.below hb1)).mono ?_
  rintro e w2 ⟨g, cg, rfl, ho2, hb2⟩
  have hg1 := (ho2.lt g rfl).1
  have hg2 := (ho2.lt g rfl).2
  have hw2 : Below w.heap.size w w2 := hb1.trans (hb2.mono hb1.size)
  have u2 : Boxed w2 w.heap.size 22 (.slice A m cu) := (hb2.block _ u1.lt).trans u1
  have hU2 := hU.below hw2
  have hR2 := hR.below hw2
  have HGW : Hid (w.heap.size + 1 < g) := Lib.hid (by have := r1.lt; omega)
  have HSORT := Lib.hid (sortStable_any W1.heap.size g m cg m (List.range m) (fun p => us.getD p 0) (fun i k => cmpI ((us.getD i 0 : Nat) : Int) ((us.getD k 0 : Nat) : Int)) 114 #[.pointer (some ⟨w.heap.size, 0, none⟩)] w2 ho2 hm (enters_of Tryd.func114 (by kernel_rfl) rfl)
    (traceCmp_ok w.heap.size g m cu A us w2 u2.cell hU2 (by have := HGW.out; omega) (fun b h0 hb e => by
      obtain ⟨b', off, e1, hb', _⟩ := hU.2 h0
      rw [e1] at hb
      injection hb with hb
      injection e with e
      have := HGW.out
      have hb9 : b' = b := hb
      omega) u2.lt) (fun x hx => List.mem_range.1 hx) (range_st _ m))
  clear hg1 hg2
  go_wp2_with fail
  refine HSORT.out.mono ?_
  rintro e w3 ⟨rfl, es, ho3, hg3, hperm, hst, hsrt⟩
  have hgw := HGW.out
  have hw3 : Below w.heap.size w w3 := hw2.grown hg3 hw2.size (fun q e => by cases e; omega)
  have u3 : Boxed w3 w.heap.size 22 (.slice A m cu) := u2.kept hg3 (fun e => by injection e with e; omega)
  have r3 : TBox w3 (w.heap.size + 1) none 0 0 none 0 0 := (r1.next hb2).apart hg3 (fun e => by injection e with e; omega)
  have uc3 := u3.cell
  have hml : m ≤ maxLen := by unfold maxLen; omega
  have hby : i1.bytes * m ≤ 281474976710656 := by rw [hz2']; omega
  clear hg3 ho2 hb2 hgw
  go_wp2_with (at_make; refine wpList_make_full _ rfl _ _ _ rfl w3.heap.size 77 i1 (.int .i64 0) 1 Tryd.underlying66 hi' hz0' hz1' _ _ (m : Int) (m : Int) m rfl rfl rfl rfl hby hml (Nat.le_refl _) ?_; intro w4 hown0 hg4)
  have ho4 : Own 77 w4 w3.heap.size (some ⟨w3.heap.size, 0, none⟩) m m (ints (List.replicate m 0)) := own_made hown0
  have hb4 : Below w3.heap.size w3 w4 := (Below.refl _ _).grown hg4 (Nat.le_refl _) (by simp)
  obtain ⟨W5, hW5⟩ : ∃ W5, w4.alloc (.cells #[.slice none 0 0, .slice (some ⟨w3.heap.size, 0, none⟩) m m] 85) = W5 := ⟨_, rfl⟩
  have x5 : TBox W5 w4.heap.size none 0 0 (some ⟨w3.heap.size, 0, none⟩) m m := by rw [← hW5]; exact tbox_new _ _ _ _ _ _ _
  have hb5 : Below w3.heap.size w3 W5 := by rw [← hW5]; exact hb4.alloc hb4.size _
  have ho5 : Own 77 W5 w3.heap.size (some ⟨w3.heap.size, 0, none⟩) m m (ints (List.replicate m 0)) := ho4.below (by rw [← hW5]; exact (Below.refl _ _).alloc (Nat.le_refl _) _)
  have HLT4 : Hid (w3.heap.size < w4.heap.size) := Lib.hid (ho4.lt _ rfl).2
  have HW3 := Lib.hid hw3
  have HPERM := Lib.hid hperm
  have HSRT := Lib.hid hsrt
  rw [hW5]
  obtain ⟨tb, htb⟩ : ∃ tb, tb = w4.heap.size := ⟨_, rfl⟩
  obtain ⟨bb, hbb⟩ : ∃ bb, bb = w3.heap.size := ⟨_, rfl⟩
  rw [← htb] at x5 HLT4 ⊢
  rw [← hbb] at x5 ho5 HLT4 ⊢
  have HTB := Lib.hid htb
  have HBB := Lib.hid hbb
  clear hown0 hg4 ho4 hb4 hW5 htb hbb HSORT HME HFN hperm hsrt hst
  go_loopw [24] (fun q wr => ∃ (k : Nat) (A1 : Option Addr) (c1 : Nat), k ≤ m ∧ q = .int .i64 (k : Int) ∧ TBox wr tb A1 k c1 (some ⟨bb, 0, none⟩) m m ∧ Own 2 wr w3.heap.size A1 k c1 (ints (letM us es m k)) ∧ Own 77 wr w3.heap.size (some ⟨bb, 0, none⟩) m m (ints (befM rows us es m k 0)) ∧ Below w3.heap.size w3 wr) (fun q _ => m - (intOf q).toNat)
  case atStart => exact ⟨0, none, 0, Nat.zero_le _, rfl, x5, Own.nil _ _ _, by rw [befM_zero]; exact ho5.mono (by rw [HBB.out]; exact Nat.le_refl _), hb5⟩
  case round =>
    clear x5 ho5 hb5
    obtain ⟨k, A1, c1, hk, rfl, x, ho, hob, hb⟩ := hrel
    have hpl := ho3.rd.below hb
    have hUr := (hU.below hw3).below hb
    have hRr := (hR.below hw3).below hb
    have ur : Boxed wr w.heap.size 22 (.slice A m cu) := (hb.block _ u3.lt).trans u3
    have urc := ur.cell
    have x0 := x.c0
    have x1 := x.c1
    have xf0 := x.fr 0
    have xf1 := x.fr 1
    by_cases hkm : k < m
    · obtain ⟨gp, op, xI, eI, hgp, hxI, hcI⟩ := hpl.at_ hkm
      have HL : Hid (es.length = m) := Lib.hid (by rw [HPERM.out.length_eq, List.length_range])
      rw [ints_getD es k (by rw [HL.out]; exact hkm)] at hxI
      injection hxI with hxI
      have HIM : Hid (es.getD k 0 < m) := Lib.hid (by
        have : es.getD k 0 ∈ es := by rw [List.getD_eq_getElem?_getD, List.getElem?_eq_getElem (by rw [HL.out]; exact hkm)]; exact List.getElem_mem _
        exact List.mem_range.1 (HPERM.out.mem_iff.1 this))
      obtain ⟨I, hI⟩ : ∃ I, I = es.getD k 0 := ⟨_, rfl⟩
      rw [← hI] at hxI HIM
      have HI := Lib.hid hI
      subst hxI
      cases eI
      rw [Nat.zero_add] at hcI
      have him := HIM.out
      obtain ⟨gu, ou, xU, eU, hgu, hxU, hcU⟩ := hUr.at_ him
      rw [ints_getD us I (by rw [HLU.out]; exact him)] at hxU
      injection hxU with hxU
      obtain ⟨Lt, hLt⟩ : ∃ Lt, Lt = us.getD I 0 := ⟨_, rfl⟩
      rw [← hLt] at hxU
      have HLT := Lib.hid hLt
      subst hxU eU
      have hmlx : k + 1 ≤ maxLen := by unfold maxLen; omega
      have hby2 : (k + 1) * 8 ≤ 140737488355328 := by omega
      have hdr : ∀ o, Below wr.heap.size wr ((wr.alloc o).drew) := fun o => (((Below.refl _ wr).alloc (Nat.le_refl _) o)).drew
      have y0' := fun o => (x.next (hdr o)).c0
      clear hLt hI
      have HLET : Hid (ints (letM us es m (k + 1)) = ints (letM us es m k ++ [Lt])) := Lib.hid (by rw [letM_snoc, HLT.out, HI.out])
      go_upto_region 7 with fail
      go_cut [36] from 29 to 37 (fun v wx => ∃ g9 cap, v = .slice (some ⟨g9, 0, none⟩) (k + 1) cap ∧ TBox wx tb (some ⟨g9, 0, none⟩) (k + 1) cap (some ⟨bb, 0, none⟩) m m ∧ Own 2 wx w3.heap.size (some ⟨g9, 0, none⟩) (k + 1) cap (ints (letM us es m (k + 1))) ∧ Own 77 wx w3.heap.size (some ⟨bb, 0, none⟩) m m (ints (befM rows us es m k 0)) ∧ Below w3.heap.size w3 wx)
      case first =>
        go_region_law (refine step_append_lies _ (by rfl) _ _ _ (by rfl) w3.heap.size 2 i0 _ 1 8 Tryd.underlying22 hi hz0 hz1 hz2 rfl (by omega) (.slice A1 k c1) k ((ints (letM us es m k)).map (Value.int .i64)) (by rfl) ((World.ownsRow.alloc ho _).drew) ⟨wr.heap.size, 0, none⟩ 1 1 [.int .i64 (Lt : Int)] (by rfl) (by rfl) (World.news_of_block (cs := #[.int .i64 (Lt : Int)]) (t := 2) (fr := (0, 0)) (heap_alloc_new wr _)) (by simp [Value.oneCell']) (by omega) hmlx hby2 (by have := hb.size; simp; omega) (wr.heap.size + 1) (by simp) ?_; intro g9 cap w6 hown hg hat hlt9; have x6 : TBox w6 tb A1 k c1 (some ⟨bb, 0, none⟩) m m := (x.next (hdr _)).apart hg (fun e => x.ne_own ho (by decide) (ownBlock_map' e) rfl); have z0 := x6.c0; have zf := x6.fr 0)
        all_goals (
          rw [ints_snoc_map, ← HLET.out] at hown
          have hbt := HLT4.out
          have hbb := HBB.out
          have hgt : g9 ≠ tb := by
            rcases hat with h9 | h9
            · exact x.ne_own ho (by decide) (ownBlock_map' h9)
            · have := x.lt; omega
          have hb6 : Below w3.heap.size w3 w6 := (hb.trans ((hdr _).mono hb.size)).grown hg (by have := hb.size; simp; omega) (fun q hq => (ho.lt _ (ownBlock_map' hq)).1)
          have hob6 : Own 77 w6 w3.heap.size (some ⟨bb, 0, none⟩) m m (ints (befM rows us es m k 0)) := Own.apart (hob.below (hdr _)) hg (fun q hq e9 => own_ne ho hob (by decide) (ownBlock_map' e9) hq rfl)
          have ho7 := own_other (show Own 2 w6 w3.heap.size (some ⟨g9, 0, none⟩) (k + 1) cap (ints (letM us es m (k + 1))) from hown) tb 0 (.slice (some ⟨g9, 0, none⟩) (k + 1) cap) (by intro q hq; cases hq; exact hgt)
          have hob7 := own_other hob6 tb 0 (.slice (some ⟨g9, 0, none⟩) (k + 1) cap) (by intro q hq; cases hq; exact Nat.ne_of_lt hbt)
          have hb7 := hb6.setCell (p := ⟨tb, 0, none⟩) (by show w3.heap.size ≤ tb; omega) (.slice (some ⟨g9, 0, none⟩) (k + 1) cap)
          have x7 := x6.set0 (some ⟨g9, 0, none⟩) (k + 1) cap
          clear hbt hbb hg hat hlt9
          go_wp2_with fail
          go_meet
          exact ⟨g9, cap, rfl, x7, ho7, hob7, hb7⟩)
      case rest =>
        obtain ⟨g9, cap, rfl, x7, ho7, hob7, hb7⟩ := hcut
        clear x ho hob hb hpl hUr hRr ur urc x0 x1 xf0 xf1 hdr y0' hcI hcU hgp hgu HLET
        go_wp2_with fail
        go_loopw [40] (fun q wy => ∃ f, f ≤ m ∧ q = .int .i64 ((f : Nat) : Int) ∧ TBox wy tb (some ⟨g9, 0, none⟩) (k + 1) cap (some ⟨bb, 0, none⟩) m m ∧ Own 2 wy w3.heap.size (some ⟨g9, 0, none⟩) (k + 1) cap (ints (letM us es m (k + 1))) ∧ Own 77 wy w3.heap.size (some ⟨bb, 0, none⟩) m m (ints (befM rows us es m k f)) ∧ Below w3.heap.size w3 wy) (fun q _ => m - (intOf q).toNat)
        case atStart => exact ⟨0, Nat.zero_le _, rfl, x7, ho7, hob7, hb7⟩
        case round =>
          clear x7 ho7 hob7 hb7
          obtain ⟨f, hf, rfl, x, ho, hob, hb⟩ := hrel
          have hpl := ho3.rd.below hb
          have hUr := (hU.below HW3.out).below hb
          have hRr := (hR.below HW3.out).below hb
          have ur := (show Boxed _ w.heap.size 22 _ from (hb.block _ u3.lt).trans u3)
          have urc := ur.cell
          have x1 := x.c1
          by_cases hfm : f < m
          · obtain ⟨gp, op, xJ, eJ, hgp, hxJ, hcJ⟩ := hpl.at_ hfm
            rw [ints_getD es f (by rw [HL.out]; exact hfm)] at hxJ
            injection hxJ with hxJ
            have HJM : Hid (es.getD f 0 < m) := Lib.hid (by
              have : es.getD f 0 ∈ es := by rw [List.getD_eq_getElem?_getD, List.getElem?_eq_getElem (by rw [HL.out]; exact hfm)]; exact List.getElem_mem _
              exact List.mem_range.1 (HPERM.out.mem_iff.1 this))
            obtain ⟨J, hJ⟩ : ∃ J, J = es.getD f 0 := ⟨_, rfl⟩
            rw [← hJ] at hxJ HJM
            have HJ := Lib.hid hJ
            subst hxJ
            cases eJ
            rw [Nat.zero_add] at hcJ
            have hjm := HJM.out
            have HBEF : Hid (befP rows us es k f = (decide (J < I) && RDep rows Lt (us.getD J 0))) := Lib.hid (by unfold befP; rw [← HJ.out, ← HI.out, ← HLT.out])
            clear hJ
            by_cases hJI : J < I
            · obtain ⟨gv, ov, xV, eV, hgv, hxV, hcV⟩ := hUr.at_ hjm
              obtain ⟨gi, oi, xX, eX, hgi, hxX, hcX⟩ := hUr.at_ him
              rw [ints_getD us J (by rw [HLU.out]; exact hjm)] at hxV
              rw [ints_getD us I (by rw [HLU.out]; exact him)] at hxX
              injection hxV with hxV
              injection hxX with hxX
              obtain ⟨V, hV⟩ : ∃ V, V = us.getD J 0 := ⟨_, rfl⟩
              rw [← hV] at hxV HBEF
              have HV := Lib.hid hV
              rw [← HLT.out] at hxX
              subst hxV hxX
              cases eV
              cases eX
              have hvn : V < n := by have := HUS.out J hjm; rw [← HV.out] at this; exact this
              have hln : Lt < n := by have := HUS.out I him; rw [← HLT.out] at this; exact this
              obtain ⟨gd, od, xD, eD, hgd, hxD, hcD⟩ := hRr.at_ hln
              rw [ints_getD rows Lt (by rw [HLR.out]; exact hln)] at hxD
              injection hxD with hxD
              obtain ⟨D, hD⟩ : ∃ D, D = rows.getD Lt 0 := ⟨_, rfl⟩
              rw [← hD] at hxD
              have hD63 : D < 9223372036854775808 := by rw [hD]; exact HRS.out Lt
              have HDB : Hid (RDep rows Lt V = D.testBit V) := Lib.hid (by unfold RDep; rw [hD])
              subst hxD
              subst eD
              have HHAS : Hid (∀ ww : World, Calls Tryd.prog 116 #[.int .i64 (D : Int), .int .i64 (V : Int)] ww fun e w'' => e = .returned (.bool (D.testBit V)) ∧ w'' = ww) := Lib.hid fun ww => (has_any D V hD63 (by omega) ww).mono fun _ _ h => ⟨h.1, h.2.symm⟩
              have hdJ : decide (J < I) = true := decide_eq_true hJI
              have hn0 : 0 < n := by omega
              obtain ⟨b, hb9⟩ : ∃ b, b = D.testBit V := ⟨_, rfl⟩
              rw [← hb9] at HHAS
              have HB9 := Lib.hid hb9
              clear hD hV hb9 hD63
              go_wp2_with fail
              refine wp_region_still_lit (by kernel_rfl) (by kernel_rfl) ?_
              iterate 4 still_step
              iterate 11 ((with_reducible refine wpStill_want ?_ ?_); kernel_rfl; intro K hK; go_simp; refine hK _ ?_; clear hK K)
              (with_reducible refine wpStill_want ?_ ?_); kernel_rfl; intro K hK; go_simp
              refine ⟨_, HHAS.out _, hK _ ?_⟩; clear hK K
              still_step
              refine wpStill_nil ?_
              have hdw : Below wr.heap.size wr wr.drew := (Below.refl _ _).drew
              cases b
              · have HNX : Hid (befM rows us es m k f = befM rows us es m k (f + 1)) := Lib.hid (befM_skip _ _ _ _ _ _ (by rw [HBEF.out, hdJ, HDB.out, ← HB9.out]; rfl))
                go_wp2_with fail
                go_roundw
                case rel => exact ⟨f + 1, hfm, by go_num, x.next hdw, ho.below hdw, by rw [← HNX.out]; exact hob.below hdw, hb.trans (hdw.mono hb.size)⟩
                case measure => simp [intOf]; omega
              · have HNX : Hid ((befM rows us es m k f).set k ((befM rows us es m k f).getD k 0 ||| 2 ^ f) = befM rows us es m k (f + 1)) := Lib.hid (befM_set _ _ _ _ _ _ hkm (by rw [HBEF.out, hdJ, HDB.out, ← HB9.out]; rfl))
                obtain ⟨M, hM⟩ : ∃ M, M = (befM rows us es m k f).getD k 0 := ⟨_, rfl⟩
                have hM24 : M < 2 ^ m := by rw [hM]; exact befM_lt _ _ _ _ _ _ hf _
                have hp24 : (2:Nat) ^ m ≤ 2 ^ 24 := Nat.pow_le_pow_right (by decide) hm
                rw [← hM] at HNX
                obtain ⟨N, hN⟩ : ∃ N, N = M ||| 2 ^ f := ⟨_, rfl⟩
                rw [← hN] at HNX
                have HWI : Hid (∀ ww : World, Calls Tryd.prog 57 #[.int .i64 (M : Int), .int .i64 (f : Int)] ww fun e w'' => e = .returned (.int .i64 (N : Int)) ∧ w'' = ww) := Lib.hid fun ww => (with_any M f (by omega) (by omega) ww).mono fun _ _ h => ⟨by rw [hN]; exact h.1, h.2.symm⟩
                obtain ⟨wd, hwd⟩ : ∃ wd, wd = wr.drew := ⟨_, rfl⟩
                have hdw : Below wr.heap.size wr wd := by rw [hwd]; exact (Below.refl _ _).drew
                have xd := x.next hdw
                have hod := ho.below hdw
                have hobd := hob.below hdw
                have hbd := hb.trans (hdw.mono hb.size)
                have hcM : wd.cell? ⟨bb, k, none⟩ = some (.int .i64 (M : Int)) := hobd.cell (by rw [ints_getD _ k (by rw [befM_len]; exact hkm), ← hM])
                have hfM := hobd.frozen k
                have hm0 : 0 < m := by omega
                have xd1 := xd.c1
                clear hM hN hM24 hp24
                go_wp2_with fail
                change Code.wp _ _ _ _ wr.drew
                rw [← hwd]
                clear hwd hdw
                go_still_tail 11, mixed
                still_call (HWI.out _)
                repeat still_step
                refine wpStill_nil ?_
                change wpList _ _ _ _ _ wd.drew
                have hdw2 : Below wd.heap.size wd wd.drew := (Below.refl _ _).drew
                have x3 := (xd.next hdw2).other bb k (.int .i64 (N : Int)) (by have := HLT4.out; omega)
                have ho3 := own_other (hod.below hdw2) bb k (.int .i64 (N : Int)) (fun q hq => own_ne (hod.below hdw2) (hobd.below hdw2) (by decide) hq rfl)
                have hob3 := (hobd.below hdw2).set_ k (N : Int)
                rw [ints_set, HNX.out] at hob3
                have hb3 := (hbd.trans (hdw2.mono hbd.size)).setCell (p := ⟨bb, k, none⟩) (by show w3.heap.size ≤ bb; rw [HBB.out]; exact Nat.le_refl _) (.int .i64 (N : Int))
                go_wp2_with fail
                go_roundw
                case rel => exact ⟨f + 1, hfm, by go_num, x3, ho3, hob3, hb3⟩
                case measure => simp [intOf]; omega
            · have hdJ : decide (J < I) = false := decide_eq_false hJI
              go_wp2_with fail
              refine wp_region_still_lit (by kernel_rfl) (by kernel_rfl) ?_
              iterate 4 still_step
              iterate 12 ((with_reducible refine wpStill_skip ?_ ?_); kernel_rfl; simp only [Act.put, List.setIfInBounds_toArray, List.set_cons_zero, List.set_cons_succ])
              still_step
              refine wpStill_nil ?_
              have hdw : Below wr.heap.size wr wr.drew := (Below.refl _ _).drew
              have HNX : Hid (befM rows us es m k f = befM rows us es m k (f + 1)) := Lib.hid (befM_skip _ _ _ _ _ _ (by rw [HBEF.out, hdJ]; rfl))
              go_wp2_with fail
              go_roundw
              case rel => exact ⟨f + 1, hfm, by go_num, x.next hdw, ho.below hdw, by rw [← HNX.out]; exact hob.below hdw, hb.trans (hdw.mono hb.size)⟩
              case measure => simp [intOf]; omega
          · have hfe : f = m := by omega
            subst hfe
            have HRD : Hid (befM rows us es f k f = befM rows us es f (k + 1) 0) := Lib.hid (befM_round _ _ _ _ _)
            go_wp2_with fail
            go_roundw
            case rel => exact ⟨k + 1, some ⟨g9, 0, none⟩, cap, hkm, by go_num, x, ho, by rw [← HRD.out]; exact hob, hb⟩
            case measure => simp [intOf]; omega
    · have hke : k = m := by omega
      subst hke
      have rr : TBox wr (w.heap.size + 1) none 0 0 none 0 0 := r3.next hb
      have rc0 := rr.c0
      have rc1 := rr.c1
      have rf0 := rr.fr 0
      have rf1 := rr.fr 1
      have hwr : Below w.heap.size w wr := HW3.out.trans (hb.mono HW3.out.size)
      have hl3 : Hid (w.heap.size + 1 < w3.heap.size) := Lib.hid r3.lt
      have HFIN : Hid (TBox ((wr.setCell ⟨w.heap.size + 1, 0, none⟩ (.slice A1 k c1)).setCell ⟨w.heap.size + 1, 1, none⟩ (.slice (some ⟨bb, 0, none⟩) k k)) (w.heap.size + 1) A1 k c1 (some ⟨bb, 0, none⟩) k k ∧ Rd ((wr.setCell ⟨w.heap.size + 1, 0, none⟩ (.slice A1 k c1)).setCell ⟨w.heap.size + 1, 1, none⟩ (.slice (some ⟨bb, 0, none⟩) k k)) A1 k (ints (letM us es k k)) ∧ Rd ((wr.setCell ⟨w.heap.size + 1, 0, none⟩ (.slice A1 k c1)).setCell ⟨w.heap.size + 1, 1, none⟩ (.slice (some ⟨bb, 0, none⟩) k k)) (some ⟨bb, 0, none⟩) k (ints (befM rows us es k k 0)) ∧ Below w.heap.size w ((wr.setCell ⟨w.heap.size + 1, 0, none⟩ (.slice A1 k c1)).setCell ⟨w.heap.size + 1, 1, none⟩ (.slice (some ⟨bb, 0, none⟩) k k))) := Lib.hid (by
        have h9 := hl3.out
        have n1 : ∀ q, A1.map (·.block) = some q → q ≠ w.heap.size + 1 := fun q hq => by have := (ho.lt q hq).1; omega
        have n2 : ∀ q, (some (⟨bb, 0, none⟩ : Addr)).map (·.block) = some q → q ≠ w.heap.size + 1 := fun q hq => by have := (hob.lt q hq).1; omega
        exact ⟨(rr.set0 _ _ _).set1 _ _ _, (own_other (own_other ho _ 0 _ n1) _ 1 _ n1).rd, (own_other (own_other hob _ 0 _ n2) _ 1 _ n2).rd, (hwr.setCell (p := ⟨w.heap.size + 1, 0, none⟩) (Nat.le_succ _) _).setCell (p := ⟨w.heap.size + 1, 1, none⟩) (Nat.le_succ _) _⟩)
      have HN1 : Hid (∀ q, A1.map (·.block) = some q → w.heap.size ≤ q) := Lib.hid fun q hq => by have := (ho.lt q hq).1; have := hl3.out; omega
      have HN2 : Hid (∀ q, (some (⟨bb, 0, none⟩ : Addr)).map (·.block) = some q → w.heap.size ≤ q) := Lib.hid fun q hq => by have := (hob.lt q hq).1; have := hl3.out; omega
      clear hwr
      go_wp2_with fail
      refine ret_gen (fun W => TBox W (w.heap.size + 1) A1 k c1 (some ⟨bb, 0, none⟩) k k ∧ Rd W A1 k (ints (letM us es k k)) ∧ Rd W (some ⟨bb, 0, none⟩) k (ints (befM rows us es k k 0)) ∧ Below w.heap.size w W) HFIN.out fun W ⟨h1, h2, h3, h4⟩ => ?_
      have e0 := h1.c0
      have e1 := h1.c1
      refine bodyPost_ret (v := .agg #[.slice A1 k c1, .slice (some ⟨bb, 0, none⟩) k k]) (by simp [results, Tryd.results66, go_sem, e0, e1]) rfl ?_
      exact ⟨A1, c1, some ⟨bb, 0, none⟩, k, es, rfl, HPERM.out, HSRT.out, h2, h3, HN1.out, HN2.out, h4⟩
end Go.Proofs.YtdafdffmkjhhcaaDoor
namespace Go.Proofs.YtdafdffmkjhhcaaDoor
open Go Go.RowKit
set_option linter.unusedVariables false
set_option maxRecDepth 100000

/-- The first place of a letter that may come first, or -1. -/
def firstI (D : Nat → Nat → Bool) (us : List Nat) (a : Nat) : Int := if freeB D us a = true then ((us.idxOf a : Nat) : Int) else -1
theorem free_drop (D : Nat → Nat → Bool) (us : List Nat) (a k : Nat) (hk : k < us.length) (hne : us.getD k 0 ≠ a) (hD : D (us.getD k 0) a = false) : freeB D (us.drop k) a = freeB D (us.drop (k + 1)) a := by
  have e : us.drop k = us.getD k 0 :: us.drop (k + 1) := by
    rw [List.getD_eq_getElem?_getD, List.getElem?_eq_getElem hk]; exact List.drop_eq_getElem_cons hk
  rw [e]
  show (if us.getD k 0 = a then true else if D (us.getD k 0) a then false else freeB D (us.drop (k + 1)) a) = _
  rw [if_neg hne, hD]; rfl
theorem first_none (D : Nat → Nat → Bool) (us : List Nat) (a : Nat) (h : freeB D us a = freeB D (us.drop us.length) a) : firstI D us a = -1 := by
  unfold firstI
  rw [h, List.drop_length]; rfl
theorem first_dep (D : Nat → Nat → Bool) (us : List Nat) (a k : Nat) (hk : k < us.length) (h : freeB D us a = freeB D (us.drop k) a) (hne : us.getD k 0 ≠ a) (hD : D (us.getD k 0) a = true) : firstI D us a = -1 := by
  unfold firstI
  have e : us.drop k = us.getD k 0 :: us.drop (k + 1) := by
    rw [List.getD_eq_getElem?_getD, List.getElem?_eq_getElem hk]; exact List.drop_eq_getElem_cons hk
  have h2 : freeB D (us.drop k) a = false := by
    rw [e]
    show (if us.getD k 0 = a then true else if D (us.getD k 0) a then false else freeB D (us.drop (k + 1)) a) = _
    rw [if_neg hne, hD]; rfl
  rw [h, h2]; rfl
theorem idxOf_is (a : Nat) : ∀ (us : List Nat) (k : Nat), k < us.length → us.getD k 0 = a → (∀ j, j < k → us.getD j 0 ≠ a) → us.idxOf a = k
  | [], k, hk, _, _ => absurd hk (by simp)
  | u :: us, 0, _, he, _ => by
    have : u = a := he
    subst this
    simp
  | u :: us, k + 1, hk, he, hb => by
    have h0 : u ≠ a := hb 0 (by omega)
    have ih := idxOf_is a us k (by simpa using hk) he (fun j hj => hb (j + 1) (by omega))
    have hf : (u == a) = false := beq_eq_false_iff_ne.2 h0
    rw [List.idxOf_cons, hf, ih]
    rfl
theorem first_at (D : Nat → Nat → Bool) (us : List Nat) (a k : Nat) (hk : k < us.length) (h : freeB D us a = freeB D (us.drop k) a) (he : us.getD k 0 = a) (hb : ∀ j, j < k → us.getD j 0 ≠ a) : firstI D us a = (k : Int) := by
  unfold firstI
  have e : us.drop k = us.getD k 0 :: us.drop (k + 1) := by
    rw [List.getD_eq_getElem?_getD, List.getElem?_eq_getElem hk]; exact List.drop_eq_getElem_cons hk
  have h2 : freeB D (us.drop k) a = true := by
    rw [e]
    show (if us.getD k 0 = a then true else if D (us.getD k 0) a then false else freeB D (us.drop (k + 1)) a) = _
    rw [if_pos he]
  rw [h, h2, if_pos rfl]
  have h3 : us.idxOf a = k := idxOf_is a us k hk he hb
  rw [h3]
set_option maxHeartbeats 1600000 in
theorem l03First_any (L : Int) (A B : Option Addr) (n c m d a : Nat) (rs us : List Nat) (w : World) (h : Rd w A n (ints rs)) (hn : n ≤ 24) (hr : ∀ i, rs.getD i 0 < 2 ^ n) (h2 : Rd w B m (ints us)) (hm : m ≤ 24) (hus : ∀ p, p < m → us.getD p 0 < n) (ha : a < n) :
    Calls Tryd.prog 96 #[.agg #[.int .i64 L, .slice A n c], .slice B m d, .int .i64 (a : Int)] w fun e w' => e = .returned (.int .i64 (firstI (RDep rs) us a)) ∧ Below w.heap.size w w' := by
  have mixed : Tryd.prog.follows .mixedOrders = true := by kernel_rfl
  have hlen : us.length = m := by have := h2.1; rw [ints_len] at this; exact this
  have HLEN := Lib.hid hlen
  have HR := Lib.hid hr
  have HUS := Lib.hid hus
  clear hlen hr hus
  have x0 := box_new 29 w L A n c
  have hb0 : Below w.heap.size w (w.alloc (.cells #[.int .i64 L, .slice A n c] 29)) := below1 w _
  obtain ⟨W1, hW1⟩ : ∃ W1, w.alloc (.cells #[.int .i64 L, .slice A n c] 29) = W1 := ⟨_, rfl⟩
  rw [hW1] at x0 hb0
  go_enter Tryd.func96, Tryd.ntmps96
  go_wp2_with fail
  go_loopw [7] (fun q wr => ∃ k, k ≤ m ∧ q = .int .i64 ((k : Nat) : Int) ∧ Below W1.heap.size W1 wr ∧ freeB (RDep rs) us a = freeB (RDep rs) (us.drop k) a ∧ ∀ j, j < k → us.getD j 0 ≠ a) (fun q _ => m - (intOf q).toNat)
  case atStart => exact ⟨0, Nat.zero_le _, rfl, Below.refl _ _, rfl, fun j hj => absurd hj (by omega)⟩
  case round =>
    obtain ⟨k, hk, rfl, hb, hf, hne⟩ := hrel
    have HF := Lib.hid hf
    have HNE := Lib.hid hne
    clear hf hne
    have x1 := x0.next hb
    have y0 := x1.c0
    have y1 := x1.c1
    have hr1 := (h.below hb0).below hb
    have hu1 := (h2.below hb0).below hb
    have HB := Lib.hid (hb0.trans (hb.mono hb0.size))
    by_cases hlt : k < m
    · obtain ⟨gu, ou, x, eU, hgu, hx, hcx⟩ := hu1.at_ hlt
      rw [ints_getD us k (by rw [HLEN.out]; exact hlt)] at hx
      injection hx with hx
      have hun := HUS.out k hlt
      obtain ⟨u, hu⟩ : ∃ u, u = us.getD k 0 := ⟨_, rfl⟩
      rw [← hu] at hx hun
      have HU := Lib.hid hu
      subst hx eU
      clear hu
      by_cases hua : u = a
      · have HAN : Hid (firstI (RDep rs) us a = (k : Int)) := Lib.hid (first_at _ us a k (by rw [HLEN.out]; exact hlt) HF.out (by rw [← HU.out]; exact hua) HNE.out)
        have hd : ((u : Int) == (a : Int)) = true := by rw [hua]; simp
        go_wp2_with fail
        go_ret
        exact ⟨ret_i _ _ HAN.out.symm, HB.out⟩
      · have hd : ((u : Int) == (a : Int)) = false := by simp; omega
        obtain ⟨b, hbv⟩ : ∃ b, b = (rs.getD u 0).testBit a := ⟨_, rfl⟩
        have HDEP : Hid (∀ ww : World, Below _ _ ww → Calls Tryd.prog 103 #[.agg #[.int .i64 L, .slice A n c], .int .i64 (u : Int), .int .i64 (a : Int)] ww fun e w' => e = .returned (.bool b) ∧ Below ww.heap.size ww w') := Lib.hid fun ww hww => by
          rw [hbv]; exact dep_any L A n c u a rs ww (hr1.below hww) hn HR.out hun ha
        have HBV : Hid (RDep rs u a = b) := Lib.hid hbv.symm
        clear hbv
        have hdw : Below wr.heap.size wr wr.drew := (Below.refl _ _).drew
        have HD1 := HDEP.out _ hdw
        have HD2 := Lib.hid HD1
        clear HD1
        go_wp2_with fail
        go_still_tail 6, mixed
        change wpList _ _ _ _ _ wr.drew
        cases b
        · go_wp2_with fail
          refine HD2.out.mono ?_
          rintro e w3 ⟨rfl, hb3⟩
          go_wp2_with fail
          go_roundw
          case rel => exact ⟨k + 1, hlt, by go_num, hb.trans ((hdw.trans (hb3.mono hdw.size)).mono hb.size), HF.out.trans (free_drop _ us a k (by rw [HLEN.out]; exact hlt) (by rw [← HU.out]; exact hua) (by rw [← HU.out]; exact HBV.out)), fun j hj => by
            by_cases e9 : j = k
            · subst e9; rw [← HU.out]; exact hua
            · exact HNE.out j (by omega)⟩
          case measure => simp [intOf]; omega
        · have HAN : Hid (firstI (RDep rs) us a = -1) := Lib.hid (first_dep _ us a k (by rw [HLEN.out]; exact hlt) HF.out (by rw [← HU.out]; exact hua) (by rw [← HU.out]; exact HBV.out))
          go_wp2_with fail
          refine HD2.out.mono ?_
          rintro e w3 ⟨rfl, hb3⟩
          go_wp2_with fail
          go_ret
          exact ⟨ret_i _ _ HAN.out.symm, HB.out.trans ((hdw.trans (hb3.mono hdw.size)).mono HB.out.size)⟩
    · have hke : k = m := by omega
      subst hke
      have HAN : Hid (firstI (RDep rs) us a = -1) := Lib.hid (first_none _ us a (by rw [HLEN.out]; exact HF.out))
      go_wp2_with fail
      go_ret
      exact ⟨ret_i _ _ HAN.out.symm, HB.out⟩
section
variable {P : Program} {w : World}
theorem step_append_own' {ops : Array Oper} {o : Oper} {a : Act} {K : Act → World → Prop} {Q : Exit → Act → World → Prop} {E : Prop} (hgd : o.guard = none) (s x : Operand) (t : TypeId)
    (ho : o.op = .call { callee := .builtin .append, args := #[s, x], argTypes := #[t, t] })
    (base : Nat) (e : TypeId) (i : TypeInfo) (z : Value) (size bytes : Nat) (ht : P.underlying t = some (.slice e)) (hi : P.info? e = some i) (hz : i.zero = some z)
    (hsize : i.size = size) (hby : i.bytes = bytes) (hzs : z.cells.size = size) (hsz : 0 < size)
    (v : Value) (n : Nat) (xs : List Value) (hs : a.eval s = v) (hown : w.ownsRow base e size v n xs)
    (ad : Addr) (m c : Nat) (news : List Value) (hx : a.eval x = .slice (some ad) m c) (hl : news.length = m * size) (hnews : ∀ j u, news[j]? = some u → w.cell? (ad.add j) = some u) (h1 : ∀ u ∈ news, u.oneCell' = true)
    (h63 : n + m ≤ maxLen) (hbytes : (n + m) * bytes ≤ 140737488355328) (hbase : base ≤ w.heap.size)
    (h : ∀ v' w', w'.ownsRow base e size v' (n + m) (xs ++ news) → w.grownBy w' v.ownBlock → K (a.put o.dst v') w') :
    if Region.wanted o (yielded ops a.tmps) = true then Oper.wp P o a w K Q else E := by
  have hw : Region.wanted o (yielded ops a.tmps) = true := by simp [Region.wanted, hgd]
  rw [if_pos hw]
  exact wp_append_own (P := P) w s x t ho base e i z size bytes ht hi hz hsize hby hzs hsz v n xs hs hown ad m c news hx hl hnews h1 h63 hbytes hbase (fun v' w' a b _ => h v' w' a b)
end
theorem Rd.take_ {w : World} {A : Option Addr} {m : Nat} {us : List Nat} (h : Rd w A m (ints us)) (k : Nat) (hk : k ≤ m) : Rd w A k (ints (us.take k)) := by
  have hl := h.1
  rw [ints_len] at hl
  refine ⟨by rw [ints_len, List.length_take]; omega, fun h0 => ?_⟩
  obtain ⟨b', off', e, hb, hc⟩ := h.2 (by omega)
  refine ⟨b', off', e, hb, fun j x hx => ?_⟩
  refine hc j x ?_
  unfold ints at hx ⊢
  rw [List.map_take] at hx
  have hj : j < k := by
    rcases Nat.lt_or_ge j k with h1 | h1
    · exact h1
    · rw [List.getElem?_eq_none (by rw [List.length_take]; omega)] at hx; cases hx
  rwa [List.getElem?_take_of_lt hj] at hx
theorem Rd.drop_ {w : World} {b off m : Nat} {us : List Nat} (h : Rd w (some ⟨b, off, none⟩) m (ints us)) (k : Nat) : Rd w (some ⟨b, off + k, none⟩) (m - k) (ints (us.drop k)) := by
  have hl := h.1
  rw [ints_len] at hl
  refine ⟨by rw [ints_len, List.length_drop]; omega, fun h0 => ?_⟩
  obtain ⟨b', off', e, hb, hc⟩ := h.2 (by omega)
  cases e
  refine ⟨b, off + k, rfl, hb, fun j x hx => ?_⟩
  rw [Nat.add_assoc]
  refine hc (k + j) x ?_
  unfold ints at hx ⊢
  rw [List.map_drop, List.getElem?_drop] at hx
  exact hx
set_option maxHeartbeats 1600000 in
theorem l03Without_any (b off m d k : Nat) (us : List Nat) (w : World) (h : Rd w (some ⟨b, off, none⟩) m (ints us)) (hm : m ≤ 24) (hk : k < m) (hd : m ≤ d) :
    Calls Tryd.prog 97 #[.slice (some ⟨b, off, none⟩) m d, .int .i64 (k : Int)] w (MakesE 2 w (m - 1) (ints (us.eraseIdx k))) := by
  obtain ⟨i0, hi, hz0, hz1, hz2⟩ := info_parts info_int
  have hlen : us.length = m := by have := h.1; rw [ints_len] at this; exact this
  have h1 : Rd w (some ⟨b, off, none⟩) k (ints (us.take k)) := h.take_ k (by omega)
  have h2 := h.drop_ (k + 1)
  have HOWN : Hid (∀ ww : World, Below w.heap.size w ww → Calls Tryd.prog 80 #[.slice (some ⟨b, off, none⟩) k d] ww (MakesE 2 ww k (ints (us.take k)))) := Lib.hid fun ww hw => own_any _ _ _ _ ww (h1.below hw) (by omega)
  have hkd : k ≤ d := by omega
  have hkd1 : k + 1 ≤ d := by omega
  have hkm1 : k + 1 ≤ m := by omega
  have hdr : Below w.heap.size w w.drew := (Below.refl _ _).drew
  have hw1 : IntKind.i64.wrap ((k : Int) + 1) = (k : Int) + 1 := by rw [IntWalk.i64_left]; unfold wrap64; omega
  have hI2 : (0 : Int) ≤ (k : Int) + 1 := by omega
  have hI3 : (k : Int) + 1 ≤ (m : Int) := by omega
  have HER : Hid (us.take k ++ us.drop (k + 1) = us.eraseIdx k) := Lib.hid (List.eraseIdx_eq_take_drop_succ ..).symm
  have fin : ∀ (w2 : World) (A2 : Option Addr) (c2 q : Nat) (v' : Value) (w3 : World), Own 2 w2 w.heap.size A2 k c2 (ints (us.take k)) → Below w.heap.size w w2 → q = m - 1 → w3.ownsRow w.heap.size 2 1 v' q ((ints (us.take k)).map (Value.int .i64) ++ (ints (us.drop (k + 1))).map (Value.int .i64)) → w2.grownBy w3 (Value.slice A2 k c2).ownBlock → ∃ A3 c3, v' = .slice A3 (m - 1) c3 ∧ Own 2 w3 w.heap.size A3 (m - 1) c3 (ints (us.eraseIdx k)) ∧ Below w.heap.size w w3 := by
    intro w2 A2 c2 q v' w3 ho hb hq hown hg
    subst hq
    rw [← List.map_append] at hown
    have e9 : ints (us.take k) ++ ints (us.drop (k + 1)) = ints (us.eraseIdx k) := by rw [← HER.out]; unfold ints; rw [List.map_append]
    rw [e9] at hown
    obtain ⟨A3, c3, rfl, ho3⟩ := own_shape hown
    exact ⟨A3, c3, rfl, ho3, hb.grown hg hb.size (fun r hr => (World.ownsRow.lt ho r hr).1)⟩
  have HFIN := Lib.hid fin
  clear fin
  by_cases hdk : d = k + 1
  · have hmk : m = k + 1 := by omega
    subst hdk hmk
    have hI1 : (k : Int) ≤ (k : Int) + 1 := by omega
    have hml : k + 0 ≤ maxLen := by unfold maxLen; omega
    have hby : (k + 0) * 8 ≤ 140737488355328 := by omega
    have hnil : Hid (us.drop (k + 1) = []) := Lib.hid (List.drop_eq_nil_of_le (by omega))
    clear hlen
    go_enter Tryd.func97, Tryd.ntmps97
    go_wp2_with fail
    go_region_law (first | (refine step_append_own' (by rfl) _ _ _ (by rfl) w.heap.size 2 i0 _ 1 8 Tryd.underlying22 hi hz0 hz1 hz2 rfl (by omega) (.slice A2 k c2) k ((ints (us.take k)).map (Value.int .i64)) (by rfl) ho2 ⟨b, off, none⟩ 0 0 [] (by rfl) (by rfl) (by intro j u hu; simp at hu) (by simp) hml hby (by have := hb2.size; exact this) ?_; intro v3 w3 hown hg) | (go_simp; go_at_call 80; refine (HOWN.out _ hdr).mono ?_; rintro e w2 ⟨A2, c2, rfl, ho2, hb2⟩))
    all_goals (
      obtain ⟨A3, c3, rfl, ho3, hb3⟩ := HFIN.out w2 A2 c2 (k + 0) v3 w3 ho2 (hdr.trans hb2) (by omega) (by rw [hnil.out]; exact hown) hg
      clear hown hg
      go_wp2_with fail
      go_ret
      exact ⟨A3, c3, rfl, ho3, hb3⟩)
  · have hI1 : (k : Int) ≤ (d : Int) := by omega
    have hml : k + (m - (k + 1)) ≤ maxLen := by unfold maxLen; omega
    have hby : (k + (m - (k + 1))) * 8 ≤ 140737488355328 := by omega
    have hl2 : ((ints (us.drop (k + 1))).map (Value.int .i64)).length = (m - (k + 1)) * 1 := by rw [List.length_map, h2.1, Nat.mul_one]
    have HN2 : Hid (∀ wx : World, Below w.heap.size w wx → ∀ j u, ((ints (us.drop (k + 1))).map (Value.int .i64))[j]? = some u → wx.cell? ((⟨b, off + (k + 1), none⟩ : Addr).add j) = some u) := Lib.hid fun wx hwx => rd_news2 h2 (fun p hp => hwx.cell hp) hwx.size
    have HL2 := Lib.hid hl2
    have HMQ : Hid (k + (m - (k + 1)) = m - 1) := Lib.hid (by omega)
    clear hlen hl2 h2
    go_enter Tryd.func97, Tryd.ntmps97
    go_wp2_with fail
    go_region_law (first | (refine step_append_own' (by rfl) _ _ _ (by rfl) w.heap.size 2 i0 _ 1 8 Tryd.underlying22 hi hz0 hz1 hz2 rfl (by omega) (.slice A2 k c2) k ((ints (us.take k)).map (Value.int .i64)) (by rfl) ho2 ⟨b, off + (k + 1), none⟩ (m - (k + 1)) (d - (k + 1)) ((ints (us.drop (k + 1))).map (Value.int .i64)) (by rfl) HL2.out (HN2.out _ (hdr.trans hb2)) (ints_oneCell .i64 _) hml hby (by have := hb2.size; exact this) ?_; intro v3 w3 hown hg) | (go_simp; go_at_call 80; refine (HOWN.out _ hdr).mono ?_; rintro e w2 ⟨A2, c2, rfl, ho2, hb2⟩))
    all_goals (
      obtain ⟨A3, c3, rfl, ho3, hb3⟩ := HFIN.out w2 A2 c2 (k + (m - (k + 1))) v3 w3 ho2 (hdr.trans hb2) HMQ.out hown hg
      clear hown hg
      go_wp2_with fail
      go_ret
      exact ⟨A3, c3, rfl, ho3, hb3⟩)
theorem own_cap {E : TypeId} {w : World} {B n c : Nat} {A : Option Addr} {xs : List Int} (h : Own E w B A n c xs) : n ≤ c := by
  rcases h.2 with ⟨h0, h1⟩ | ⟨g, cap, cur, e1, _, _, h4, _⟩
  · injection h0 with _ h2 h3; omega
  · injection e1 with _ _ h3; omega
def sliceLen : Value → Nat
  | .slice _ n _ => n
  | _ => 0
theorem free_head (D : Nat → Nat → Bool) (u : Nat) (us : List Nat) : freeB D (u :: us) u = true := by
  show (if u = u then true else if D u u then false else freeB D us u) = true
  rw [if_pos rfl]
theorem erase_idx (us : List Nat) (a : Nat) (h : a ∈ us) : us.eraseIdx (us.idxOf a) = us.erase a := (List.erase_eq_eraseIdx_of_idxOf rfl).symm
theorem nf_step (D : Nat → Nat → Bool) (n k a : Nat) (pre vs : List Nat) (h : leastFree D n vs = some a) : (pre ++ [a]) ++ nfGo D n k (vs.erase a) = pre ++ nfGo D n (k + 1) vs := by
  show _ = pre ++ (match leastFree D n vs with | none => [] | some a => a :: nfGo D n k (vs.erase a))
  rw [h, List.append_assoc]; rfl
set_option maxHeartbeats 3200000 in
theorem l03Normal_any (A B : Option Addr) (n c m d : Nat) (rs us : List Nat) (w : World) (h : Rd w A n (ints rs)) (hn : n ≤ 24) (hr : ∀ i, rs.getD i 0 < 2 ^ n) (h2 : Rd w B m (ints us)) (hm : m ≤ 24) (hus : ∀ p, p < m → us.getD p 0 < n) :
    Calls Tryd.prog 53 #[.agg #[.int .i64 (n : Int), .slice A n c], .slice B m d] w (MakesE 2 w m (ints (nfM (RDep rs) n us))) := by
  obtain ⟨i0, hi, hz0, hz1, hz2⟩ := info_parts info_int
  have hlen : us.length = m := by have := h2.1; rw [ints_len] at this; exact this
  have HUS : Hid (∀ x, x ∈ us → x < n) := Lib.hid fun x hx => by
    obtain ⟨j, hj, e⟩ := List.getElem_of_mem hx
    have := hus j (by omega)
    rw [List.getD_eq_getElem?_getD, List.getElem?_eq_getElem hj] at this
    rw [← e]; exact this
  have HNF : Hid (nfM (RDep rs) n us = nfGo (RDep rs) n m us) := Lib.hid (by unfold nfM; rw [hlen])
  have HR := Lib.hid hr
  have HLEN := Lib.hid hlen
  obtain ⟨NF, hNF⟩ : ∃ NF, NF = nfM (RDep rs) n us := ⟨_, rfl⟩
  rw [← hNF] at HNF ⊢
  clear hNF hlen hr hus
  have x0 := box_new 29 w (n : Int) A n c
  have hb0 : Below w.heap.size w (w.alloc (.cells #[.int .i64 (n : Int), .slice A n c] 29)) := below1 w _
  obtain ⟨W1, hW1⟩ : ∃ W1, w.alloc (.cells #[.int .i64 (n : Int), .slice A n c] 29) = W1 := ⟨_, rfl⟩
  rw [hW1] at x0 hb0
  have h21 := h2.below hb0
  have HOWN : Hid (∀ ww : World, Below W1.heap.size W1 ww → Calls Tryd.prog 80 #[.slice B m d] ww (MakesE 2 ww m (ints us))) := Lib.hid fun ww hw => own_any _ _ _ _ ww (h21.below hw) (by omega)
  go_enter Tryd.func53, Tryd.ntmps53
  go_wp2_with fail
  refine (HOWN.out _ ((Below.refl _ W1).alloc (Nat.le_refl _) _)).mono ?_
  rintro e w3 ⟨A3, c3, rfl, ho3, hb3⟩
  have hb13 : Below W1.heap.size W1 w3 := ((Below.refl _ W1).alloc (Nat.le_refl _) _).trans (hb3.mono (by simp))
  have hor : Own 2 w3 W1.heap.size A3 m c3 (ints us) := ho3.mono (by simp)
  have hoo : Own 2 w3 W1.heap.size (some ⟨W1.heap.size, 0, none⟩) 0 0 (ints []) := Own.below (show Own 2 (W1.alloc (.cells #[] 2)) W1.heap.size (some ⟨W1.heap.size, 0, none⟩) 0 0 (ints []) from World.ownsRow_lit W1 #[] 0 (Nat.le_refl _) (by unfold maxLen; omega) rfl) hb3
  have hap : ∀ q, (some (⟨W1.heap.size, 0, none⟩ : Addr)).map (·.block) = some q → A3.map (·.block) ≠ some q := fun q hq e => by
    have h1 := (ho3.lt q e).1
    cases hq
    simp at h1
    omega
  clear HOWN h21 hb3 ho3
  go_wp2_with fail
  go_loopw [5, 6] (fun p q wr => ∃ (k : Nat) (pre vs : List Nat) (Ao Ar : Option Addr) (co cr : Nat), p = .slice Ao pre.length co ∧ q = .slice Ar k cr ∧ vs.length = k ∧ pre.length + k = m ∧ Own 2 wr W1.heap.size Ao pre.length co (ints pre) ∧ Own 2 wr W1.heap.size Ar k cr (ints vs) ∧ (∀ q, Ao.map (·.block) = some q → Ar.map (·.block) ≠ some q) ∧ Below W1.heap.size W1 wr ∧ pre ++ nfGo (RDep rs) n k vs = NF ∧ ∀ x, x ∈ vs → x < n) (fun _ q _ => sliceLen q)
  case atStart => exact ⟨m, [], us, _, A3, 0, c3, rfl, rfl, HLEN.out, by simp, hoo, hor, hap, hb13, HNF.out.symm, HUS.out⟩
  case round =>
    clear hoo hor hap hb13
    obtain ⟨k, pre, vs, Ao, Ar, co, cr, rfl, rfl, hvl, hpk, hoo, hor, hap, hb, hnf, hvn⟩ := hrel
    have HVL := Lib.hid hvl
    have HPK := Lib.hid hpk
    have HNFK := Lib.hid hnf
    have HVN := Lib.hid hvn
    obtain ⟨pl, hpl⟩ : ∃ pl, pl = pre.length := ⟨_, rfl⟩
    rw [← hpl] at hoo HPK ⊢
    have HPL := Lib.hid hpl
    clear hvl hpk hnf hvn hpl
    by_cases hk0 : 0 < k
    · obtain ⟨gr, rfl, _⟩ := hor.form hk0
      have hrd := hor.rd
      have HCAP := Lib.hid (own_cap hor)
      have hap2 : ∀ q, Ao.map (·.block) = some q → gr ≠ q := fun q hq e => hap q hq (by rw [← e]; rfl)
      have HAP := Lib.hid hap2
      clear hap hap2
      have hx := x0.next hb
      have HV0 : Hid (∃ v0, v0 < n ∧ freeB (RDep rs) vs v0 = true) := Lib.hid (by
        cases hvs : vs with
        | nil => have := HVL.out; rw [hvs] at this; simp at this; omega
        | cons v0 us' => exact ⟨v0, HVN.out v0 (by rw [hvs]; exact List.mem_cons_self), free_head _ _ _⟩)
      have hn0 : 0 < n := by obtain ⟨v0, h1, _⟩ := HV0.out; omega
      go_wp2_with fail
      go_loopw [5, 6, 7] (fun p5 p6 q wx => ∃ a, p5 = .slice Ao pl co ∧ p6 = .slice (some ⟨gr, 0, none⟩) k cr ∧ a < n ∧ q = .int .i64 ((a : Nat) : Int) ∧ (∀ b, b < a → freeB (RDep rs) vs b = false) ∧ Below wr.heap.size wr wx) (fun _ _ q _ => n - (intOf q).toNat)
      case atStart => exact ⟨0, rfl, rfl, hn0, rfl, fun b hb9 => absurd hb9 (by omega), Below.refl _ _⟩
      case round =>
        obtain ⟨a, rfl, rfl, han, rfl, hnf, hbx⟩ := hrel
        have HNO := Lib.hid hnf
        clear hnf
        have hxx := hx.next hbx
        have y0 := hxx.c0
        have y1 := hxx.c1
        have hFI := l03First_any (n : Int) A (some ⟨gr, 0, none⟩) n c k cr a rs vs wr ((h.below hb0).below (hb.trans (hbx.mono hb.size))) hn HR.out (hrd.below hbx) (by have := HPK.out; omega) (fun p hp => HVN.out _ (by rw [List.getD_eq_getElem?_getD, List.getElem?_eq_getElem (by rw [HVL.out]; exact hp)]; exact List.getElem_mem _)) han
        cases hfree : freeB (RDep rs) vs a
        · have hfi : firstI (RDep rs) vs a = -1 := by unfold firstI; rw [hfree]; rfl
          rw [hfi] at hFI
          have HFI := Lib.hid hFI
          have HNX : Hid (a + 1 < n ∧ ∀ b, b < a + 1 → freeB (RDep rs) vs b = false) := Lib.hid (by
            have hall : ∀ b, b < a + 1 → freeB (RDep rs) vs b = false := fun b hb9 => by
              by_cases e9 : b = a
              · rw [e9]; exact hfree
              · exact HNO.out b (by omega)
            refine ⟨?_, hall⟩
            obtain ⟨v0, h1, h2⟩ := HV0.out
            rcases Nat.lt_or_ge (a + 1) n with h3 | h3
            · exact h3
            · have := hall v0 (by omega); rw [h2] at this; cases this)
          clear hFI hfi hfree
          go_wp2_with fail
          refine HFI.out.mono ?_
          rintro e w4 ⟨rfl, hb4⟩
          go_wp2_with fail
          go_roundw
          case rel => exact ⟨a + 1, rfl, rfl, HNX.out.1, by go_num, HNX.out.2, hbx.trans (hb4.mono hbx.size)⟩
          case measure => simp [intOf]; omega
        · have hmem := free_mem (RDep rs) a vs hfree
          have hidx : vs.idxOf a < k := by rw [← HVL.out]; exact List.idxOf_lt_length_of_mem hmem
          have hfi : firstI (RDep rs) vs a = ((vs.idxOf a : Nat) : Int) := by unfold firstI; rw [hfree]; rfl
          rw [hfi] at hFI
          have HLF : Hid (leastFree (RDep rs) n vs = some a) := Lib.hid ((leastFree_iff _ _ _ _).2 ⟨han, hfree, HNO.out⟩)
          have HER := Lib.hid (erase_idx vs a hmem)
          have HLE : Hid ((vs.erase a).length = k - 1) := Lib.hid (by rw [List.length_erase_of_mem hmem, HVL.out])
          obtain ⟨q, hq⟩ : ∃ q, q = vs.idxOf a := ⟨_, rfl⟩
          rw [← hq] at hidx hFI HER
          have HFI := Lib.hid hFI
          clear hFI hfi hfree hmem hq
          go_wp2_with fail
          refine HFI.out.mono ?_
          rintro e w4 ⟨rfl, hb4⟩
          have hb04 : Below W1.heap.size W1 w4 := hb.trans ((hbx.trans (hb4.mono hbx.size)).mono hb.size)
          have hoo4 := (hoo.below hbx).below hb4
          have hor4 := (hor.below hbx).below hb4
          have hmlx : pl + 1 ≤ maxLen := by have := HPK.out; unfold maxLen; omega
          have hby2 : (pl + 1) * 8 ≤ 140737488355328 := by have := HPK.out; omega
          clear hxx y0 y1 hbx hb4 hoo hor hrd hx HFI
          go_wp2_with (at_builtin; refine wpList_append_lies _ rfl _ _ 22 rfl W1.heap.size 2 i0 (.int .i64 0) 1 8 Tryd.underlying22 hi hz0 hz1 hz2 rfl (by decide) (.slice Ao pl co) pl ((ints pre).map (Value.int .i64)) rfl (World.ownsRow.alloc hoo4 _) ⟨w4.heap.size, 0, none⟩ 1 1 [.int .i64 (a : Int)] rfl rfl ?c1 ?c2 (by decide) hmlx hby2 ?c5 (w4.heap.size + 1) (by simp) ?_)
          case c1 => exact cell_one_new _ _ _
          case c2 => intro u hu; simp at hu; subst hu; rfl
          case c5 => have := hb04.size; simp; omega
          intro g9 cap w5 hown hg hat hlt9
          rw [ints_snoc_map] at hown
          have hgr4 := (hor4.lt gr rfl).2
          have hgne : g9 ≠ gr := by
            rcases hat with h9 | h9
            · exact fun e9 => HAP.out g9 (ownBlock_map' h9) e9.symm
            · omega
          have hb5 : Below W1.heap.size W1 w5 := (hb04.alloc hb04.size _).grown hg (by have := hb04.size; simp; omega) (fun r hr => (hoo4.lt _ (ownBlock_map' hr)).1)
          have hoo5 : Own 2 w5 W1.heap.size (some ⟨g9, 0, none⟩) (pl + 1) cap (ints (pre ++ [a])) := hown
          have hor5 : Own 2 w5 W1.heap.size (some ⟨gr, 0, none⟩) k cr (ints vs) := Own.apart (hor4.below ((Below.refl _ w4).alloc (Nat.le_refl _) _)) hg (fun r hr e9 => by cases hr; exact HAP.out _ (ownBlock_map' e9) rfl)
          have HWI := Lib.hid (l03Without_any gr 0 k cr q vs w5 hor5.rd (by have := HPK.out; omega) hidx HCAP.out)
          clear hown hg hat hlt9 hoo4 hor4 hgr4
          go_wp2_with fail
          refine HWI.out.mono ?_
          rintro e w6 ⟨A6, c6, rfl, ho6, hb6⟩
          rw [HER.out] at ho6
          have hoo6 := hoo5.below hb6
          have hap6 : ∀ r, (some (⟨g9, 0, none⟩ : Addr)).map (·.block) = some r → A6.map (·.block) ≠ some r := fun r hr e9 => by
            have h1 := (ho6.lt r e9).1
            have h2 := (hoo5.lt r hr).2
            omega
          have HPL1 : Hid (pl + 1 = (pre ++ [a]).length) := Lib.hid (by rw [List.length_append, HPL.out]; rfl)
          have HNF1 : Hid ((pre ++ [a]) ++ nfGo (RDep rs) n (k - 1) (vs.erase a) = NF) := Lib.hid (by
            have := nf_step (RDep rs) n (k - 1) a pre vs HLF.out
            rw [show k - 1 + 1 = k by omega] at this
            rw [this]; exact HNFK.out)
          have HLEN1 : Hid ((pre ++ [a]).length + (k - 1) = m) := Lib.hid (by rw [← HPL1.out]; have := HPK.out; omega)
          have hb16 := hb5.trans (hb6.mono hb5.size)
          have ho6' := ho6.mono hb5.size
          clear hgne
          go_wp2_with fail
          go_roundw
          case rel => exact ⟨k - 1, pre ++ [a], vs.erase a, some ⟨g9, 0, none⟩, A6, cap, c6, by rw [HPL1.out], rfl, HLE.out, HLEN1.out, by rw [← HPL1.out]; exact hoo6, ho6', hap6, hb16, HNF1.out, fun x hx => HVN.out x (List.mem_of_mem_erase hx)⟩
          case measure => simp [sliceLen]; omega
    · have hk : k = 0 := by omega
      subst hk
      have HFIN : Hid (pre = NF) := Lib.hid (by have := HNFK.out; rw [show nfGo (RDep rs) n 0 vs = [] from rfl, List.append_nil] at this; exact this)
      go_wp2_with fail
      go_ret
      have h1 := HPK.out
      have e9 : pl = m := by omega
      subst e9
      refine ⟨Ao, co, rfl, ?_, hb0.trans (hb.mono hb0.size)⟩
      rw [← HFIN.out]
      exact hoo.mono hb0.size
end Go.Proofs.YtdafdffmkjhhcaaDoor
namespace Go.Proofs.YtdafdffmkjhhcaaDoor
open Go Go.RowKit
set_option linter.unusedVariables false
set_option maxRecDepth 100000

theorem rdep_sym (rs : List Nat) (n : Nat) (hl : rs.length = n) (hr : ∀ i, rs.getD i 0 < 2 ^ n) (hd : Dep rs) (a b : Nat) : RDep rs a b = RDep rs b a := by
  have key : ∀ a b, RDep rs a b = true → RDep rs b a = true := fun a b h => by
    have ha : a < n := by
      rcases Nat.lt_or_ge a n with h1 | h1
      · exact h1
      · unfold RDep at h; rw [getD_past _ n a hl h1, Nat.zero_testBit] at h; cases h
    have hb : b < n := bit_lt (hr a) h
    exact (hd.2 a b (by omega) (by omega)).1 h
  cases h1 : RDep rs a b
  · cases h2 : RDep rs b a
    · rfl
    · rw [key b a h2] at h1; cases h1
  · exact (key a b h1).symm
/-- The normal form of a word, by the rows of a dependence. -/
def nfR (rs us : List Nat) : List Nat := nfM (RDep rs) rs.length us
theorem nfGo_len (D : Nat → Nat → Bool) (n : Nat) : ∀ (k : Nat) (us : List Nat), (nfGo D n k us).length ≤ k
  | 0, _ => Nat.le_refl _
  | k + 1, us => by
    show (match leastFree D n us with | none => [] | some a => a :: nfGo D n k (us.erase a)).length ≤ k + 1
    cases leastFree D n us with
    | none => simp
    | some a => have := nfGo_len D n k (us.erase a); simp; omega
theorem nfR_len (rs us : List Nat) : (nfR rs us).length ≤ us.length := nfGo_len _ _ _ _
/-- Behind traceOf: the normal form. -/
theorem nf_from (A1 B1 : Option Addr) (c1 d1 m n : Nat) (rs us es : List Nat) (w : World) (hl : rs.length = n) (hr : ∀ i, rs.getD i 0 < 2 ^ n) (hd : Dep rs) (hu : us.length = m) (hus : ∀ p, p < m → us.getD p 0 < n) (hm : m ≤ 24)
    (hp : es.Perm (List.range m)) (hs : Srt (fun p => us.getD p 0) es 0 m) (h1 : Rd w A1 m (ints (letM us es m m))) (h2 : Rd w B1 m (ints (befM rs us es m m 0))) (hT : Tab w) :
    Calls Tryd.prog 67 #[.agg #[.slice A1 m c1, .slice B1 m d1]] w (MakesE 2 w m (ints (nfR rs us))) := by
  have hE := evs_of rs us es m hu hp hs
  have hsym := rdep_sym rs n hl hr hd
  have href : ∀ a, a < n → RDep rs a a = true := fun a ha => hd.1 a (by omega)
  refine normalForm_any m c1 d1 A1 B1 (letM us es m m) (befM rs us es m m 0) (nfR rs us) w h1 h2 hm (fun i => ?_) hT (goes_full hE hm hsym href hus) ?_
  · rcases Nat.lt_or_ge 0 m with h0 | h0
    · exact befM_lt rs us es m m 0 (by omega) i
    · rw [getD_past _ m i (befM_len _ _ _ _ _ _) (by omega)]; exact p2_pos m
  · unfold nfR
    rw [hl]
    exact (nfB_full hE hm hsym href hus).symm
end Go.Proofs.YtdafdffmkjhhcaaDoor
namespace Go.Proofs.YtdafdffmkjhhcaaDoor
open Go Go.RowKit
set_option linter.unusedVariables false
set_option maxRecDepth 100000

theorem take_no (D : Nat → Nat → Bool) (a : Nat) (u v : List Nat) (h : freeB D v a = false) : takeB D (a :: u) v = false := by
  show (freeB D v a && _) = false
  rw [h]; rfl
theorem take_yes (D : Nat → Nat → Bool) (a : Nat) (u v : List Nat) (h : freeB D v a = true) : takeB D (a :: u) v = takeB D u (v.erase a) := by
  show (freeB D v a && _) = _
  rw [h]; rfl
theorem drop_at (us : List Nat) (k : Nat) (hk : k < us.length) : us.drop k = us.getD k 0 :: us.drop (k + 1) := by
  rw [List.getD_eq_getElem?_getD, List.getElem?_eq_getElem hk]; exact List.drop_eq_getElem_cons hk
theorem isEmpty_len (ts : List Nat) : ts.isEmpty = decide (ts.length = 0) := by cases ts <;> simp
set_option maxHeartbeats 3200000 in
theorem l03Same_any (A B C : Option Addr) (n c m d q f : Nat) (rs us vs : List Nat) (w : World) (h : Rd w A n (ints rs)) (hn : n ≤ 24) (hr : ∀ i, rs.getD i 0 < 2 ^ n) (h2 : Rd w B m (ints us)) (hm : m ≤ 24) (h3 : Rd w C q (ints vs)) (hq : q ≤ 24) (hus : ∀ x, x ∈ us → x < n) (hvs : ∀ x, x ∈ vs → x < n) :
    Calls Tryd.prog 104 #[.agg #[.int .i64 (n : Int), .slice A n c], .slice B m d, .slice C q f] w fun e w' => e = .returned (.bool (takeB (RDep rs) us vs)) ∧ Below w.heap.size w w' := by
  have mixed : Tryd.prog.follows .mixedOrders = true := by kernel_rfl
  have HLU : Hid (us.length = m) := Lib.hid (by have := h2.1; rw [ints_len] at this; exact this)
  have HLV : Hid (vs.length = q) := Lib.hid (by have := h3.1; rw [ints_len] at this; exact this)
  have HR := Lib.hid hr
  have HUS := Lib.hid hus
  have HVS := Lib.hid hvs
  clear hr hus hvs
  have x0 := box_new 29 w (n : Int) A n c
  have hb0 : Below w.heap.size w (w.alloc (.cells #[.int .i64 (n : Int), .slice A n c] 29)) := below1 w _
  obtain ⟨W1, hW1⟩ : ∃ W1, w.alloc (.cells #[.int .i64 (n : Int), .slice A n c] 29) = W1 := ⟨_, rfl⟩
  rw [hW1] at x0 hb0
  have HOWN := Lib.hid (own_any C q f (ints vs) W1 (h3.below hb0) (by omega))
  obtain ⟨V, hV⟩ : ∃ V, V = takeB (RDep rs) us vs := ⟨_, rfl⟩
  have HV := Lib.hid hV
  rw [← hV]
  clear hV h3
  go_enter Tryd.func104, Tryd.ntmps104
  go_wp2_with fail
  refine HOWN.out.mono ?_
  rintro e w3 ⟨A3, c3, rfl, ho3, hb3⟩
  go_wp2_with fail
  go_loopw [7, 8] (fun p i wr => ∃ (k kr : Nat) (ts : List Nat) (Ar : Option Addr) (cr : Nat), k ≤ m ∧ kr ≤ 24 ∧ p = .slice Ar kr cr ∧ i = .int .i64 (k : Int) ∧ Own 2 wr W1.heap.size Ar kr cr (ints ts) ∧ V = takeB (RDep rs) (us.drop k) ts ∧ (∀ x, x ∈ ts → x < n) ∧ Below W1.heap.size W1 wr) (fun _ i _ => m - (intOf i).toNat)
  case atStart => exact ⟨0, q, vs, A3, c3, Nat.zero_le _, hq, rfl, rfl, ho3, HV.out, HVS.out, hb3⟩
  case round =>
    clear ho3 hb3
    obtain ⟨k, kr, ts, Ar, cr, hk, hkr, rfl, rfl, ho, hv, hts, hb⟩ := hrel
    have HVK := Lib.hid hv
    have HTS := Lib.hid hts
    have HLT : Hid (ts.length = kr) := Lib.hid (by have := ho.len; rw [ints_len] at this; exact this)
    clear hv hts
    have hx := x0.next hb
    have y0 := hx.c0
    have y1 := hx.c1
    have HB := Lib.hid (hb0.trans (hb.mono hb0.size))
    by_cases hlt : k < m
    · obtain ⟨gu, ou, x, eU, hgu, hxu, hcx⟩ := ((h2.below hb0).below hb).at_ hlt
      rw [ints_getD us k (by rw [HLU.out]; exact hlt)] at hxu
      injection hxu with hxu
      have hun : us.getD k 0 < n := HUS.out _ (by rw [List.getD_eq_getElem?_getD, List.getElem?_eq_getElem (by rw [HLU.out]; exact hlt)]; exact List.getElem_mem _)
      have hdrop := drop_at us k (by rw [HLU.out]; exact hlt)
      obtain ⟨u, hu⟩ : ∃ u, u = us.getD k 0 := ⟨_, rfl⟩
      rw [← hu] at hxu hun hdrop
      have HDR := Lib.hid hdrop
      subst hxu eU
      clear hu hdrop
      have hdw : Below wr.heap.size wr wr.drew := (Below.refl _ _).drew
      have hFI := l03First_any (n : Int) A Ar n c kr cr u rs ts wr.drew (((h.below hb0).below hb).below hdw) hn HR.out (ho.rd.below hdw) hkr (fun p hp => HTS.out _ (by rw [List.getD_eq_getElem?_getD, List.getElem?_eq_getElem (by rw [HLT.out]; exact hp)]; exact List.getElem_mem _)) hun
      cases hfree : freeB (RDep rs) ts u
      · have hfi : firstI (RDep rs) ts u = -1 := by unfold firstI; rw [hfree]; rfl
        rw [hfi] at hFI
        have HFI := Lib.hid hFI
        have HF : Hid (V = false) := Lib.hid (by rw [HVK.out, HDR.out]; exact take_no _ _ _ _ hfree)
        clear hFI hfi hfree
        go_wp2_with fail
        go_still_tail 6, mixed
        change wpList _ _ _ _ _ wr.drew
        go_wp2_with fail
        refine HFI.out.mono ?_
        rintro e w4 ⟨rfl, hb4⟩
        go_wp2_with fail
        go_ret
        exact ⟨ret_b _ _ HF.out.symm, HB.out.trans ((hdw.trans (hb4.mono hdw.size)).mono HB.out.size)⟩
      · have hmem := free_mem (RDep rs) u ts hfree
        have hidx : ts.idxOf u < kr := by rw [← HLT.out]; exact List.idxOf_lt_length_of_mem hmem
        have hfi : firstI (RDep rs) ts u = ((ts.idxOf u : Nat) : Int) := by unfold firstI; rw [hfree]; rfl
        rw [hfi] at hFI
        have HER := Lib.hid (erase_idx ts u hmem)
        have HVN : Hid (V = takeB (RDep rs) (us.drop (k + 1)) (ts.erase u)) := Lib.hid (by rw [HVK.out, HDR.out]; exact take_yes _ _ _ _ hfree)
        obtain ⟨qi, hqi⟩ : ∃ qi, qi = ts.idxOf u := ⟨_, rfl⟩
        rw [← hqi] at hidx hFI HER
        have HFI := Lib.hid hFI
        obtain ⟨gr, rfl, _⟩ := ho.form (by omega)
        have HCAP := Lib.hid (own_cap ho)
        clear hFI hfi hfree hmem hqi
        go_wp2_with fail
        go_still_tail 6, mixed
        change wpList _ _ _ _ _ wr.drew
        go_wp2_with fail
        refine HFI.out.mono ?_
        rintro e w4 ⟨rfl, hb4⟩
        have hb04 : Below wr.heap.size wr w4 := hdw.trans (hb4.mono hdw.size)
        have HWI := Lib.hid (l03Without_any gr 0 kr cr qi ts w4 (ho.rd.below hb04) hkr hidx HCAP.out)
        go_wp2_with fail
        refine HWI.out.mono ?_
        rintro e w6 ⟨A6, c6, rfl, ho6, hb6⟩
        rw [HER.out] at ho6
        have hb06 := hb04.trans (hb6.mono hb04.size)
        have ho6' := ho6.mono (show W1.heap.size ≤ w4.heap.size by have := hb.size; have := hb04.size; omega)
        go_wp2_with fail
        go_roundw
        case rel => exact ⟨k + 1, kr - 1, ts.erase u, A6, c6, hlt, by omega, rfl, by go_num, ho6', HVN.out, fun x hx => HTS.out x (List.mem_of_mem_erase hx), hb.trans (hb06.mono hb.size)⟩
        case measure => simp [intOf]; omega
    · have hkm : k = m := by omega
      subst hkm
      have HE : Hid (V = decide (kr = 0)) := Lib.hid (by
        rw [HVK.out, List.drop_of_length_le (by rw [HLU.out]; exact Nat.le_refl _)]
        show ts.isEmpty = decide (kr = 0)
        rw [isEmpty_len, HLT.out])
      go_wp2_with fail
      go_ret
      exact ⟨ret_b _ _ (by rw [HE.out]; by_cases h0 : kr = 0 <;> simp [h0]), HB.out⟩
end Go.Proofs.YtdafdffmkjhhcaaDoor
namespace Go.Proofs.YtdafdffmkjhhcaaDoor
open Go.RowKit
set_option linter.unusedVariables false
set_option maxRecDepth 100000

set_option maxHeartbeats 800000 in
theorem equal64_any (A B : Option Addr) (n c d : Nat) (xs ys : List Int) (w : World) (h : Rd w A n xs) (h2 : Rd w B n ys) (hn : n ≤ 9223372036854775807) :
    Calls Tryd.prog 137 #[.slice A n c, .slice B n d] w fun e w' => e = .returned (.bool (sameB xs ys)) ∧ Below w.heap.size w w' := by
  go_enter Tryd.func137, Tryd.ntmps137
  go_wp2
  go_loopw [13] (fun i wr => ∃ k : Nat, k ≤ n ∧ i = .int .i64 k ∧ Below w.heap.size w wr ∧ xs.take k = ys.take k) (fun i _ => n - (intOf i).toNat)
  case atStart => exact ⟨0, Nat.zero_le _, rfl, Below.refl _ _, rfl⟩
  case round =>
    obtain ⟨k, hk, rfl, hb, hsame⟩ := hrel
    by_cases hlt : k < n
    · obtain ⟨b, off, x, rfl, hbs, hx, hcx⟩ := h.at_ hlt
      obtain ⟨b2, off2, y, rfl, hbs2, hy, hcy⟩ := h2.at_ hlt
      have hc1 : wr.cell? ⟨b, off + k, none⟩ = some (.int .i64 x) := (hb.cell (p := ⟨b, off + k, none⟩) hbs).trans hcx
      have hc2 : wr.cell? ⟨b2, off2 + k, none⟩ = some (.int .i64 y) := (hb.cell (p := ⟨b2, off2 + k, none⟩) hbs2).trans hcy
      have HX := Lib.hid hx
      have HY := Lib.hid hy
      have HS := Lib.hid hsame
      clear hx hy hcx hcy hsame
      by_cases hxy : x = y
      · subst hxy
        go_wp2
        go_quiet (fail)
        go_wp2
        go_roundw
        case rel => exact ⟨k + 1, by omega, by go_num, by first | exact below_drewN hb _ | exact hb.drew, take_same xs ys k x HS.out HX.out HY.out⟩
        case measure => simp [intOf]; omega
      · have hne1 : (x == y) = false := by simpa using hxy
        have hne2 : (x != y) = true := by simpa using hxy
        have HN : Hid (sameB xs ys = false) := Lib.hid (by
          unfold sameB
          apply decide_eq_false
          intro e
          apply hxy
          have h1 := HX.out
          rw [e, HY.out] at h1
          injection h1 with h1; exact h1.symm)
        clear hxy
        go_wp2
        go_quiet (fail)
        go_wp2
        go_ret
        exact ⟨ret_b _ _ HN.out.symm, by first | exact below_drewN hb _ | exact hb.drew⟩
    · obtain rfl : k = n := by omega
      have HN : Hid (sameB xs ys = true) := Lib.hid (by
        unfold sameB
        apply decide_eq_true
        rw [List.take_of_length_le (by have := h.1; omega), List.take_of_length_le (by have := h2.1; omega)] at hsame
        exact hsame)
      clear hsame
      go_wp2
      go_ret
      exact ⟨ret_b _ _ HN.out.symm, hb⟩
set_option maxHeartbeats 800000 in
theorem equal64_len (A B : Option Addr) (n m c d : Nat) (w : World) (hnm : n ≠ m) :
    Calls Tryd.prog 137 #[.slice A n c, .slice B m d] w fun e w' => e = .returned (.bool false) ∧ Below w.heap.size w w' := by
  have h1 : ((n : Int) != (m : Int)) = true := by simp; omega
  have h2 : ¬ ((n : Int) = (m : Int)) := by omega
  have h3 : ¬ (n = m) := hnm
  go_enter Tryd.func137, Tryd.ntmps137
  go_wp2
  go_ret
  exact ⟨rfl, Below.refl _ _⟩
theorem equal64_two (A B : Option Addr) (n m c d : Nat) (xs ys : List Int) (w : World) (h : Rd w A n xs) (h2 : Rd w B m ys) (hn : n ≤ 9223372036854775807) :
    Calls Tryd.prog 137 #[.slice A n c, .slice B m d] w fun e w' => e = .returned (.bool (decide (xs = ys))) ∧ Below w.heap.size w w' := by
  by_cases e : n = m
  · subst e
    exact equal64_any A B n c d xs ys w h h2 hn
  · have : decide (xs = ys) = false := decide_eq_false (fun e9 => e (by rw [← h.1, ← h2.1, e9]))
    rw [this]
    exact equal64_len A B n m c d w e
end Go.Proofs.YtdafdffmkjhhcaaDoor
namespace Go.Proofs.YtdafdffmkjhhcaaDoor
open Go Go.RowKit
set_option linter.unusedVariables false
set_option maxRecDepth 100000

def nfAns (L : Int) (xs us : List Int) : List Int × Int := wAns nfR L xs us
theorem nfAns_small (L : Int) (xs us : List Int) : (nfAns L xs us).1.length ≤ 24 := wAns_small _ 24 (fun rs us _ h => Nat.le_trans (nfR_len rs us) h) L xs us
theorem in_getD {n : Nat} {vs : List Nat} (h : ∀ u, u ∈ vs → u < n) : ∀ p, p < vs.length → vs.getD p 0 < n := fun p hp => h _ (by rw [List.getD_eq_getElem?_getD, List.getElem?_eq_getElem hp]; exact List.getElem_mem _)
end Go.Proofs.YtdafdffmkjhhcaaDoor
namespace Go.Proofs.YtdafdffmkjhhcaaDoor
open Go Go.RowKit
set_option linter.unusedVariables false
set_option maxRecDepth 100000

def stAns (L : Int) (xs us ts : List Int) : Bool × Int := if wCode2 L xs us ts = 0 then (decide (nfR (xs.map Int.toNat) (us.map Int.toNat) = nfR (xs.map Int.toNat) (ts.map Int.toNat)), 0) else (false, wCode2 L xs us ts)
theorem stAns_no (L : Int) (xs us ts : List Int) (h : alphB L xs = false) : stAns L xs us ts = (false, 1) := by
  have e : wCode2 L xs us ts = 1 := by unfold wCode2; rw [if_neg (by rw [h]; decide)]
  unfold stAns; rw [e]; rfl
theorem stAns_bad (L : Int) (xs us ts : List Int) (h : alphB L xs = true) (h2 : (wordB L us && wordB L ts) = false) : stAns L xs us ts = (false, 2) := by
  have e : wCode2 L xs us ts = 2 := by unfold wCode2; rw [if_pos h, if_neg (by rw [h2]; decide)]
  unfold stAns; rw [e]; rfl
theorem stAns_yes (L : Int) (rs us ts : List Nat) (h : alphB L (ints rs) = true) (h2 : (wordB L (ints us) && wordB L (ints ts)) = true) : stAns L (ints rs) (ints us) (ints ts) = (decide (nfR rs us = nfR rs ts), 0) := by
  have e : wCode2 L (ints rs) (ints us) (ints ts) = 0 := by unfold wCode2; rw [if_pos h, if_pos h2]
  unfold stAns; rw [if_pos e, ints_toNat, ints_toNat, ints_toNat]
theorem wCode2_no (L : Int) (xs us ts : List Int) (h : alphB L xs = false) : wCode2 L xs us ts = 1 := by unfold wCode2; rw [if_neg (by rw [h]; decide)]
theorem wCode2_bad (L : Int) (xs us ts : List Int) (h : alphB L xs = true) (h2 : (wordB L us && wordB L ts) = false) : wCode2 L xs us ts = 2 := by unfold wCode2; rw [if_pos h, if_neg (by rw [h2]; decide)]
theorem wCode2_yes (L : Int) (xs us ts : List Int) (h : alphB L xs = true) (h2 : (wordB L us && wordB L ts) = true) : wCode2 L xs us ts = 0 := by unfold wCode2; rw [if_pos h, if_pos h2]
theorem okT_pair (L : Int) (t1 t2 : Option Addr × Nat × Nat × List Int) : okT L [t1, t2] = (wordB L t1.2.2.2 && wordB L t2.2.2.2) := by simp [okT]
end Go.Proofs.YtdafdffmkjhhcaaDoor
