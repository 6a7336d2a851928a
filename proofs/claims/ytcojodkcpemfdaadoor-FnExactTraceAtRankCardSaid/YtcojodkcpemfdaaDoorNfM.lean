/-
  Plain mathematics of normal forms: the least free letter, again and again: by words and by events.
-/
import Derived.Test.YtcojodkcpemfdaaDoorB2
namespace Go.Proofs.YtcojodkcpemfdaaDoor
open Go.RowKit
set_option linter.unusedVariables false
set_option maxRecDepth 100000

/-- Whether a letter stands in a word with no letter on which it depends before its first place. -/
def freeB (D : Nat → Nat → Bool) : List Nat → Nat → Bool
  | [], _ => false
  | b :: us, a => if b = a then true else if D b a then false else freeB D us a
def leastFree (D : Nat → Nat → Bool) (n : Nat) (us : List Nat) : Option Nat := (List.range n).find? (freeB D us)
def nfGo (D : Nat → Nat → Bool) (n : Nat) : Nat → List Nat → List Nat
  | 0, _ => []
  | k + 1, us => match leastFree D n us with
    | none => []
    | some a => a :: nfGo D n k (us.erase a)
/-- The normal form of the trace of a word. -/
def nfM (D : Nat → Nat → Bool) (n : Nat) (us : List Nat) : List Nat := nfGo D n us.length us

theorem free_iff (D : Nat → Nat → Bool) (u : Nat → Nat) (a : Nat) : ∀ ps : List Nat, ps.Pairwise (· < ·) → (freeB D (ps.map u) a = true ↔ ∃ p, p ∈ ps ∧ u p = a ∧ ∀ q, q ∈ ps → q < p → D (u q) a = false)
  | [], _ => ⟨fun h => (by simp [freeB] at h), fun ⟨p, hp, _⟩ => (by cases hp)⟩
  | p0 :: ps, hs => by
    obtain ⟨h0, hs'⟩ := List.pairwise_cons.1 hs
    have ih := free_iff D u a ps hs'
    show (if u p0 = a then true else if D (u p0) a then false else freeB D (ps.map u) a) = true ↔ _
    by_cases e : u p0 = a
    · rw [if_pos e]
      refine ⟨fun _ => ⟨p0, List.mem_cons_self, e, fun q hq hlt => ?_⟩, fun _ => rfl⟩
      rcases List.mem_cons.1 hq with rfl | hq
      · omega
      · have := h0 q hq; omega
    · rw [if_neg e]
      cases hD : D (u p0) a with
      | true =>
        rw [if_pos rfl]
        refine ⟨fun h => (by cases h), fun ⟨p, hp, hu, hq⟩ => ?_⟩
        rcases List.mem_cons.1 hp with rfl | hp
        · exact absurd hu e
        · have := hq p0 List.mem_cons_self (h0 p hp); rw [hD] at this; cases this
      | false =>
        rw [if_neg (by decide), ih]
        constructor
        · rintro ⟨p, hp, hu, hq⟩
          refine ⟨p, List.mem_cons_of_mem _ hp, hu, fun q hq' hlt => ?_⟩
          rcases List.mem_cons.1 hq' with rfl | hq'
          · exact hD
          · exact hq q hq' hlt
        · rintro ⟨p, hp, hu, hq⟩
          rcases List.mem_cons.1 hp with rfl | hp
          · exact absurd hu e
          · exact ⟨p, hp, hu, fun q hq' hlt => hq q (List.mem_cons_of_mem _ hq') hlt⟩
theorem erase_at (D : Nat → Nat → Bool) (u : Nat → Nat) (a p : Nat) (hD : D a a = true) : ∀ ps : List Nat, ps.Pairwise (· < ·) → p ∈ ps → u p = a → (∀ q, q ∈ ps → q < p → D (u q) a = false) → (ps.map u).erase a = (ps.erase p).map u
  | [], _, hp, _, _ => by cases hp
  | p0 :: ps, hs, hp, hu, hq => by
    obtain ⟨h0, hs'⟩ := List.pairwise_cons.1 hs
    show (u p0 :: ps.map u).erase a = _
    by_cases e : u p0 = a
    · have hpp : p0 = p := by
        rcases List.mem_cons.1 hp with h | h
        · exact h.symm
        · have h1 := hq p0 List.mem_cons_self (h0 p h)
          rw [e, hD] at h1; cases h1
      subst hpp
      rw [e, List.erase_cons_head, List.erase_cons_head]
    · have hp' : p ∈ ps := by
        rcases List.mem_cons.1 hp with h | h
        · subst h; exact absurd hu e
        · exact h
      have hne : p0 ≠ p := fun h => by subst h; exact e hu
      rw [List.erase_cons_tail (by simpa using e), List.erase_cons_tail (by simpa using hne), List.map_cons, erase_at D u a p hD ps hs' hp' hu fun q hq' hlt => hq q (List.mem_cons_of_mem _ hq') hlt]
theorem leastFree_iff (D : Nat → Nat → Bool) (n : Nat) (us : List Nat) (a : Nat) : leastFree D n us = some a ↔ a < n ∧ freeB D us a = true ∧ ∀ b, b < a → freeB D us b = false := by
  unfold leastFree
  rw [List.find?_range_eq_some]
  constructor
  · rintro ⟨h1, h2, h3⟩; exact ⟨by simpa using h2, h1, fun b hb => by simpa using h3 b hb⟩
  · rintro ⟨h1, h2, h3⟩; exact ⟨h2, by simpa using h1, fun b hb => by simpa using h3 b hb⟩
theorem free_mem (D : Nat → Nat → Bool) (a : Nat) : ∀ us : List Nat, freeB D us a = true → a ∈ us
  | [], h => by simp [freeB] at h
  | b :: us, h => by
    unfold freeB at h
    split at h
    · rename_i e; exact e ▸ List.mem_cons_self
    · split at h
      · cases h
      · exact List.mem_cons_of_mem _ (free_mem D a us h)

/-- The events of a word in the order of their letters: what the program's lists of letters and of those before are. -/
structure Evs (D : Nat → Nat → Bool) (us : List Nat) (m : Nat) (es : Nat → Nat) (ls bf : Nat → Nat) : Prop where
  len : us.length = m
  lt : ∀ e, e < m → es e < m
  inj : ∀ e f, e < m → f < m → es e = es f → e = f
  surj : ∀ p, p < m → ∃ e, e < m ∧ es e = p
  hls : ∀ e, e < m → ls e = us.getD (es e) 0
  srt : ∀ e f, e < f → f < m → ls e ≤ ls f
  hbf : ∀ e f, e < m → ((bf e).testBit f = true ↔ f < m ∧ es f < es e ∧ D (us.getD (es e) 0) (us.getD (es f) 0) = true)
def pickB (bf : Nat → Nat) (left : Nat) : Option Nat := (bitsOf left).find? fun e => bf e &&& left == 0
def nfB (ls bf : Nat → Nat) : Nat → Nat → List Nat
  | 0, _ => []
  | k + 1, left => match pickB bf left with
    | none => []
    | some e => ls e :: nfB ls bf k (dif left (2 ^ e))
theorem pickB_iff (bf : Nat → Nat) (left e : Nat) : pickB bf left = some e ↔ (e < 24 ∧ left.testBit e = true ∧ bf e &&& left = 0) ∧ ∀ f, f < e → left.testBit f = true → ¬ bf f &&& left = 0 := by
  unfold pickB bitsOf upTo
  rw [List.find?_filter, List.find?_range_eq_some]
  constructor
  · rintro ⟨h1, h2, h3⟩
    rw [decide_eq_true_eq] at h1
    refine ⟨⟨by simpa using h2, h1.1, by simpa using h1.2⟩, fun f hf ht => ?_⟩
    have := h3 f hf
    simp only [ht, true_and] at this
    simpa using this
  · rintro ⟨⟨h1, h2, h3⟩, h4⟩
    refine ⟨by simp [h2, h3], by simpa using h1, fun f hf => ?_⟩
    cases ht : left.testBit f
    · simp
    · have := h4 f hf ht; simp [this]
/-- The places that are left are those of the events that are left. -/
def Left (m : Nat) (es : Nat → Nat) (left : Nat) (ps : List Nat) : Prop := ps.Pairwise (· < ·) ∧ ∀ p, p ∈ ps ↔ ∃ e, e < m ∧ left.testBit e = true ∧ es e = p
theorem and_zero_iff (a b : Nat) : a &&& b = 0 ↔ ∀ f, a.testBit f = true → b.testBit f = false := by
  constructor
  · intro h f hf
    have := congrArg (fun x => x.testBit f) h
    simp only [Nat.testBit_and, Nat.zero_testBit, hf, Bool.true_and] at this
    exact this
  · intro h
    apply Nat.eq_of_testBit_eq
    intro f
    rw [Nat.testBit_and, Nat.zero_testBit]
    cases e : a.testBit f
    · rfl
    · rw [h f e]; rfl
theorem bf_zero {D : Nat → Nat → Bool} {us : List Nat} {m : Nat} {es ls bf : Nat → Nat} (h : Evs D us m es ls bf) {left : Nat} {ps : List Nat} (hl : Left m es left ps) {e : Nat} (he : e < m) :
    bf e &&& left = 0 ↔ ∀ q, q ∈ ps → q < es e → D (us.getD (es e) 0) (us.getD q 0) = false := by
  rw [and_zero_iff]
  constructor
  · intro hz q hq hlt
    obtain ⟨f, hf, hb, rfl⟩ := (hl.2 q).1 hq
    cases hD : D (us.getD (es e) 0) (us.getD (es f) 0)
    · rfl
    · have := hz f ((h.hbf e f he).2 ⟨hf, hlt, hD⟩); rw [hb] at this; cases this
  · intro hz f hb
    obtain ⟨hf, hlt, hD⟩ := (h.hbf e f he).1 hb
    cases ht : left.testBit f
    · rfl
    · have := hz (es f) ((hl.2 _).2 ⟨f, hf, ht, rfl⟩) hlt
      rw [hD] at this; cases this
theorem dif_one (left e : Nat) (hl : left < 9223372036854775808) (he : e < 63) (f : Nat) : (dif left (2 ^ e)).testBit f = (left.testBit f && !decide (e = f)) := by
  rw [dif_bit left (2 ^ e) f hl (Nat.pow_lt_pow_right (by decide : 1 < 2) he), Nat.testBit_two_pow]
theorem pick_some {D : Nat → Nat → Bool} {us : List Nat} {m n : Nat} {es ls bf : Nat → Nat} (h : Evs D us m es ls bf) (hm : m ≤ 24) (hsym : ∀ a b, D a b = D b a) (href : ∀ a, a < n → D a a = true) (hn : ∀ p, p < m → us.getD p 0 < n) {left : Nat} {ps : List Nat} (hlt : left < 2 ^ m) (hl : Left m es left ps) {e : Nat} (hp : pickB bf left = some e) :
    e < m ∧ leastFree D n (ps.map fun p => us.getD p 0) = some (ls e) ∧ (ps.map fun p => us.getD p 0).erase (ls e) = (ps.erase (es e)).map (fun p => us.getD p 0) ∧ Left m es (dif left (2 ^ e)) (ps.erase (es e)) ∧ (es e) ∈ ps := by
  obtain ⟨⟨_, hb, hz⟩, hmin⟩ := (pickB_iff bf left e).1 hp
  have he : e < m := by
    rcases Nat.lt_or_ge e m with h1 | h1
    · exact h1
    · have := Nat.testBit_lt_two_pow (Nat.lt_of_lt_of_le hlt (Nat.pow_le_pow_right (by decide : 0 < 2) h1)); rw [hb] at this; cases this
  have hin : es e ∈ ps := (hl.2 _).2 ⟨e, he, hb, rfl⟩
  have hz' := (bf_zero h hl he).1 hz
  have hls := h.hls e he
  have hln := hn _ (h.lt e he)
  refine ⟨he, ?_, ?_, ⟨List.Pairwise.sublist List.erase_sublist hl.1, fun p => ?_⟩, hin⟩
  · rw [leastFree_iff]
    refine ⟨by rw [hls]; exact hln, (free_iff D _ _ ps hl.1).2 ⟨es e, hin, hls.symm, fun q hq hq' => by rw [hsym, hls]; exact hz' q hq hq'⟩, fun b hb' => ?_⟩
    rw [Bool.eq_false_iff]
    intro hf
    obtain ⟨p, hp1, hp2, hp3⟩ := (free_iff D _ _ ps hl.1).1 hf
    obtain ⟨f, hf1, hf2, rfl⟩ := (hl.2 p).1 hp1
    have hlf := h.hls f hf1
    have hfe : f < e := by
      rcases Nat.lt_or_ge f e with h1 | h1
      · exact h1
      · rcases Nat.eq_or_lt_of_le h1 with h2 | h2
        · subst h2; omega
        · have := h.srt e f h2 hf1; omega
    refine hmin f hfe hf2 ((bf_zero h hl hf1).2 fun q hq hq' => ?_)
    rw [hsym, hp2]; exact hp3 q hq hq'
  · refine erase_at D _ _ _ (href _ (by rw [hls]; exact hln)) ps hl.1 hin hls.symm fun q hq hq' => ?_
    rw [hsym, hls]; exact hz' q hq hq'
  · have hnd : ps.Nodup := hl.1.imp (fun h => by omega)
    rw [List.Nodup.mem_erase_iff hnd, hl.2 p]
    have h9 : (2:Nat) ^ m ≤ 2 ^ 24 := Nat.pow_le_pow_right (by decide) hm
    constructor
    · rintro ⟨hne, f, hf, hfb, rfl⟩
      refine ⟨f, hf, ?_, rfl⟩
      rw [dif_one left e (by omega) (by omega), hfb]
      have : ¬ e = f := fun h => hne (by rw [h])
      simp [this]
    · rintro ⟨f, hf, hfb, rfl⟩
      rw [dif_one left e (by omega) (by omega), Bool.and_eq_true] at hfb
      refine ⟨fun hh => ?_, f, hf, hfb.1, rfl⟩
      have := h.inj _ _ hf he hh
      subst this; simp at hfb
theorem pick_none {D : Nat → Nat → Bool} {us : List Nat} {m : Nat} {es ls bf : Nat → Nat} (h : Evs D us m es ls bf) (hm : m ≤ 24) {left : Nat} {ps : List Nat} (hl : Left m es left ps) (hp : ps ≠ []) : ∃ e, pickB bf left = some e := by
  cases hps : ps with
  | nil => exact absurd hps hp
  | cons p0 qs =>
    obtain ⟨e, he, hb, hes⟩ := (hl.2 p0).1 (by rw [hps]; exact List.mem_cons_self)
    have hs := hl.1
    rw [hps] at hs
    obtain ⟨h0, _⟩ := List.pairwise_cons.1 hs
    cases hpk : pickB bf left with
    | some f => exact ⟨f, rfl⟩
    | none =>
      unfold pickB at hpk
      rw [List.find?_eq_none] at hpk
      have h1 := hpk e ((bitsOf_mem left e).2 ⟨by omega, hb⟩)
      have h2 : bf e &&& left = 0 := (bf_zero h hl he).2 fun q hq hlt => by
        rw [hps] at hq
        rcases List.mem_cons.1 hq with rfl | hq
        · omega
        · have := h0 q hq; omega
      rw [h2] at h1; simp at h1
theorem nfB_eq {D : Nat → Nat → Bool} {us : List Nat} {m n : Nat} {es ls bf : Nat → Nat} (h : Evs D us m es ls bf) (hm : m ≤ 24) (hsym : ∀ a b, D a b = D b a) (href : ∀ a, a < n → D a a = true) (hn : ∀ p, p < m → us.getD p 0 < n) :
    ∀ (k left : Nat) (ps : List Nat), left < 2 ^ m → Left m es left ps → ps.length = k → nfB ls bf k left = nfGo D n k (ps.map fun p => us.getD p 0)
  | 0, _, _, _, _, _ => rfl
  | k + 1, left, ps, hlt, hl, hk => by
    obtain ⟨e, he⟩ := pick_none h hm hl (fun e => by rw [e] at hk; simp at hk)
    obtain ⟨h1, h2, h3, h4, h5⟩ := pick_some h hm hsym href hn hlt hl he
    show (match pickB bf left with | none => [] | some e => ls e :: nfB ls bf k (dif left (2 ^ e))) = (match leastFree D n (ps.map fun p => us.getD p 0) with | none => [] | some a => a :: nfGo D n k ((ps.map fun p => us.getD p 0).erase a))
    rw [he, h2]
    show ls e :: _ = ls e :: _
    rw [h3, nfB_eq h hm hsym href hn k _ _ (Nat.lt_of_le_of_lt (dif_le _ _) hlt) h4 (by rw [List.length_erase_of_mem h5]; omega)]
theorem left_full (m : Nat) (hm : m ≤ 24) (es : Nat → Nat) {D : Nat → Nat → Bool} {us : List Nat} {ls bf : Nat → Nat} (h : Evs D us m es ls bf) : Left m es (2 ^ m - 1) (List.range m) := by
  refine ⟨List.pairwise_lt_range, fun p => ?_⟩
  rw [List.mem_range]
  constructor
  · intro hp
    obtain ⟨e, he, hes⟩ := h.surj p hp
    exact ⟨e, he, by rw [Nat.testBit_two_pow_sub_one]; simpa using he, hes⟩
  · rintro ⟨e, he, _, rfl⟩; exact h.lt e he
theorem nfB_full {D : Nat → Nat → Bool} {us : List Nat} {m n : Nat} {es ls bf : Nat → Nat} (h : Evs D us m es ls bf) (hm : m ≤ 24) (hsym : ∀ a b, D a b = D b a) (href : ∀ a, a < n → D a a = true) (hn : ∀ p, p < m → us.getD p 0 < n) : nfB ls bf m (2 ^ m - 1) = nfM D n us := by
  rw [nfB_eq h hm hsym href hn m (2 ^ m - 1) (List.range m) (by have := Nat.two_pow_pos m; omega) (left_full m hm es h) (by simp)]
  unfold nfM
  rw [h.len]
  congr 1
  refine list_eq_getD _ _ m (by simp) h.len fun p hp => ?_
  exact getD_range_map _ _ _ hp
end Go.Proofs.YtcojodkcpemfdaaDoor
