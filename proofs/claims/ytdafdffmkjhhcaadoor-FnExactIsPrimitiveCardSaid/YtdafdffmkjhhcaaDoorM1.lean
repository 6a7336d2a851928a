/-
  Plain mathematics of normal forms: the least free letter, again and again: by words and by events. When two words are words of one trace: taking letters away from the front, projections on pairs, normal forms: plain mathematics. A range over a function whose first round says 'no more': the iterator's contract, and the statement's law. A region that draws its order, whose first operations only read and whose last ones stand in a row: where a round is called among the last ones. Plain mathematics of a stable sort by swapping blocks: what turning a segment does, and when keys come into order. slices.swapRangeCmpFunc and rotateCmpFunc at []int64, by contracts: two segments are exchanged; a segment is turned. Plain mathematics of alphabets: what a dependence is, its complement, and when exchanges are transitive. Alphabets as values: the laws' helpers, whether a value is an alphabet, the alphabet of a dependence: by contracts. Whether a value is an alphabet: the program's way and the model's, by contracts. IsAlphabet and AreDependent: both sides; the walks of their laws. Words: what a word is; the program's way and the model's, by contracts. slices.symMergeCmpFunc at []int64: two sorted runs become one, equals keep their order. slices.symMergeCmpFunc at []int64, where the second run is one number. slices.insertionSortCmpFunc at []int64: a segment comes into order, equals keep theirs. Plain mathematics of the merge: where the two runs are cut, and what holds behind the turn. slices.symMergeCmpFunc at []int64: the general case. slices.symMergeCmpFunc at []int64: the general case. slices.symMergeCmpFunc at []int64, wherever its runs meet. slices.SortStableFunc at []int64, at most 24 numbers.
-/
import Derived.Test.YtdafdffmkjhhcaaDoorB2
import Derived.RangeFuncNested
import Derived.RangeFuncLeaves
import Derived.RangeFuncBound
import Derived.RangeFuncCalls
import Derived.Shelf.Abstract
import Derived.Shelf.RegionOpen
import Derived.WalkKit
import Derived.OwnWalkIn
import Derived.TacticsInMore
import Derived.LoopNIn
import Derived.LoopIn
import Derived.StillTailTactics
import Derived.Test.YtdafdffmkjhhcaaDoorB1
import Derived.OrdersIn
import Derived.Shelf.RegionOpenPlain
import Derived.Deep.RegionWith
import Derived.Deep.RegionLaw
import Derived.Deep.QuietTactic
import Derived.BigQuiet
import Derived.Conc.MuLone
import Derived.Lib.SliceRun
import Derived.BigFrame
import Derived.Deep.RegionHeld3
namespace Go.Proofs.YtdafdffmkjhhcaaDoor
open Go.RowKit
set_option linter.unusedVariables false
set_option maxRecDepth 100000

/-- Whether a letter stands in a word with no letter on which it depends before its first place. -/
def freeB (D : Nat → Nat → Bool) : List Nat → Nat → Bool
  | [], _ => false
  | b :: us, a => if b = a then true else if D b a then false else freeB D us a
def leastFree (D : Nat → Nat → Bool) (n : Nat) (us : List Nat) : Option Nat := (List.range n).find? (freeB D us)
def nfGo (D : Nat → Nat → Bool) (n : Nat) : Nat → List Nat → List Nat
  | 0, _ => []
  | k + 1, us => match leastFree D n us with
    | none => []
    | some a => a :: nfGo D n k (us.erase a)
/-- The normal form of the trace of a word. -/
def nfM (D : Nat → Nat → Bool) (n : Nat) (us : List Nat) : List Nat := nfGo D n us.length us

theorem free_iff (D : Nat → Nat → Bool) (u : Nat → Nat) (a : Nat) : ∀ ps : List Nat, ps.Pairwise (· < ·) → (freeB D (ps.map u) a = true ↔ ∃ p, p ∈ ps ∧ u p = a ∧ ∀ q, q ∈ ps → q < p → D (u q) a = false)
  | [], _ => ⟨fun h => (by simp [freeB] at h), fun ⟨p, hp, _⟩ => (by cases hp)⟩
  | p0 :: ps, hs => by
    obtain ⟨h0, hs'⟩ := List.pairwise_cons.1 hs
    have ih := free_iff D u a ps hs'
    show (if u p0 = a then true else if D (u p0) a then false else freeB D (ps.map u) a) = true ↔ _
    by_cases e : u p0 = a
    · rw [if_pos e]
      refine ⟨fun _ => ⟨p0, List.mem_cons_self, e, fun q hq hlt => ?_⟩, fun _ => rfl⟩
      rcases List.mem_cons.1 hq with rfl | hq
      · omega
      · have := h0 q hq; omega
    · rw [if_neg e]
      cases hD : D (u p0) a with
      | true =>
        rw [if_pos rfl]
        refine ⟨fun h => (by cases h), fun ⟨p, hp, hu, hq⟩ => ?_⟩
        rcases List.mem_cons.1 hp with rfl | hp
        · exact absurd hu e
        · have := hq p0 List.mem_cons_self (h0 p hp); rw [hD] at this; cases this
      | false =>
        rw [if_neg (by decide), ih]
        constructor
        · rintro ⟨p, hp, hu, hq⟩
          refine ⟨p, List.mem_cons_of_mem _ hp, hu, fun q hq' hlt => ?_⟩
          rcases List.mem_cons.1 hq' with rfl | hq'
          · exact hD
          · exact hq q hq' hlt
        · rintro ⟨p, hp, hu, hq⟩
          rcases List.mem_cons.1 hp with rfl | hp
          · exact absurd hu e
          · exact ⟨p, hp, hu, fun q hq' hlt => hq q (List.mem_cons_of_mem _ hq') hlt⟩
theorem erase_at (D : Nat → Nat → Bool) (u : Nat → Nat) (a p : Nat) (hD : D a a = true) : ∀ ps : List Nat, ps.Pairwise (· < ·) → p ∈ ps → u p = a → (∀ q, q ∈ ps → q < p → D (u q) a = false) → (ps.map u).erase a = (ps.erase p).map u
  | [], _, hp, _, _ => by cases hp
  | p0 :: ps, hs, hp, hu, hq => by
    obtain ⟨h0, hs'⟩ := List.pairwise_cons.1 hs
    show (u p0 :: ps.map u).erase a = _
    by_cases e : u p0 = a
    · have hpp : p0 = p := by
        rcases List.mem_cons.1 hp with h | h
        · exact h.symm
        · have h1 := hq p0 List.mem_cons_self (h0 p h)
          rw [e, hD] at h1; cases h1
      subst hpp
      rw [e, List.erase_cons_head, List.erase_cons_head]
    · have hp' : p ∈ ps := by
        rcases List.mem_cons.1 hp with h | h
        · subst h; exact absurd hu e
        · exact h
      have hne : p0 ≠ p := fun h => by subst h; exact e hu
      rw [List.erase_cons_tail (by simpa using e), List.erase_cons_tail (by simpa using hne), List.map_cons, erase_at D u a p hD ps hs' hp' hu fun q hq' hlt => hq q (List.mem_cons_of_mem _ hq') hlt]
theorem leastFree_iff (D : Nat → Nat → Bool) (n : Nat) (us : List Nat) (a : Nat) : leastFree D n us = some a ↔ a < n ∧ freeB D us a = true ∧ ∀ b, b < a → freeB D us b = false := by
  unfold leastFree
  rw [List.find?_range_eq_some]
  constructor
  · rintro ⟨h1, h2, h3⟩; exact ⟨by simpa using h2, h1, fun b hb => by simpa using h3 b hb⟩
  · rintro ⟨h1, h2, h3⟩; exact ⟨h2, by simpa using h1, fun b hb => by simpa using h3 b hb⟩
theorem free_mem (D : Nat → Nat → Bool) (a : Nat) : ∀ us : List Nat, freeB D us a = true → a ∈ us
  | [], h => by simp [freeB] at h
  | b :: us, h => by
    unfold freeB at h
    split at h
    · rename_i e; exact e ▸ List.mem_cons_self
    · split at h
      · cases h
      · exact List.mem_cons_of_mem _ (free_mem D a us h)

/-- The events of a word in the order of their letters: what the program's lists of letters and of those before are. -/
structure Evs (D : Nat → Nat → Bool) (us : List Nat) (m : Nat) (es : Nat → Nat) (ls bf : Nat → Nat) : Prop where
  len : us.length = m
  lt : ∀ e, e < m → es e < m
  inj : ∀ e f, e < m → f < m → es e = es f → e = f
  surj : ∀ p, p < m → ∃ e, e < m ∧ es e = p
  hls : ∀ e, e < m → ls e = us.getD (es e) 0
  srt : ∀ e f, e < f → f < m → ls e ≤ ls f
  hbf : ∀ e f, e < m → ((bf e).testBit f = true ↔ f < m ∧ es f < es e ∧ D (us.getD (es e) 0) (us.getD (es f) 0) = true)
def pickB (bf : Nat → Nat) (left : Nat) : Option Nat := (bitsOf left).find? fun e => bf e &&& left == 0
def nfB (ls bf : Nat → Nat) : Nat → Nat → List Nat
  | 0, _ => []
  | k + 1, left => match pickB bf left with
    | none => []
    | some e => ls e :: nfB ls bf k (dif left (2 ^ e))
theorem pickB_iff (bf : Nat → Nat) (left e : Nat) : pickB bf left = some e ↔ (e < 24 ∧ left.testBit e = true ∧ bf e &&& left = 0) ∧ ∀ f, f < e → left.testBit f = true → ¬ bf f &&& left = 0 := by
  unfold pickB bitsOf upTo
  rw [List.find?_filter, List.find?_range_eq_some]
  constructor
  · rintro ⟨h1, h2, h3⟩
    rw [decide_eq_true_eq] at h1
    refine ⟨⟨by simpa using h2, h1.1, by simpa using h1.2⟩, fun f hf ht => ?_⟩
    have := h3 f hf
    simp only [ht, true_and] at this
    simpa using this
  · rintro ⟨⟨h1, h2, h3⟩, h4⟩
    refine ⟨by simp [h2, h3], by simpa using h1, fun f hf => ?_⟩
    cases ht : left.testBit f
    · simp
    · have := h4 f hf ht; simp [this]
/-- The places that are left are those of the events that are left. -/
def Left (m : Nat) (es : Nat → Nat) (left : Nat) (ps : List Nat) : Prop := ps.Pairwise (· < ·) ∧ ∀ p, p ∈ ps ↔ ∃ e, e < m ∧ left.testBit e = true ∧ es e = p
theorem and_zero_iff (a b : Nat) : a &&& b = 0 ↔ ∀ f, a.testBit f = true → b.testBit f = false := by
  constructor
  · intro h f hf
    have := congrArg (fun x => x.testBit f) h
    simp only [Nat.testBit_and, Nat.zero_testBit, hf, Bool.true_and] at this
    exact this
  · intro h
    apply Nat.eq_of_testBit_eq
    intro f
    rw [Nat.testBit_and, Nat.zero_testBit]
    cases e : a.testBit f
    · rfl
    · rw [h f e]; rfl
theorem bf_zero {D : Nat → Nat → Bool} {us : List Nat} {m : Nat} {es ls bf : Nat → Nat} (h : Evs D us m es ls bf) {left : Nat} {ps : List Nat} (hl : Left m es left ps) {e : Nat} (he : e < m) :
    bf e &&& left = 0 ↔ ∀ q, q ∈ ps → q < es e → D (us.getD (es e) 0) (us.getD q 0) = false := by
  rw [and_zero_iff]
  constructor
  · intro hz q hq hlt
    obtain ⟨f, hf, hb, rfl⟩ := (hl.2 q).1 hq
    cases hD : D (us.getD (es e) 0) (us.getD (es f) 0)
    · rfl
    · have := hz f ((h.hbf e f he).2 ⟨hf, hlt, hD⟩); rw [hb] at this; cases this
  · intro hz f hb
    obtain ⟨hf, hlt, hD⟩ := (h.hbf e f he).1 hb
    cases ht : left.testBit f
    · rfl
    · have := hz (es f) ((hl.2 _).2 ⟨f, hf, ht, rfl⟩) hlt
      rw [hD] at this; cases this
theorem dif_one (left e : Nat) (hl : left < 9223372036854775808) (he : e < 63) (f : Nat) : (dif left (2 ^ e)).testBit f = (left.testBit f && !decide (e = f)) := by
  rw [dif_bit left (2 ^ e) f hl (Nat.pow_lt_pow_right (by decide : 1 < 2) he), Nat.testBit_two_pow]
theorem pick_some {D : Nat → Nat → Bool} {us : List Nat} {m n : Nat} {es ls bf : Nat → Nat} (h : Evs D us m es ls bf) (hm : m ≤ 24) (hsym : ∀ a b, D a b = D b a) (href : ∀ a, a < n → D a a = true) (hn : ∀ p, p < m → us.getD p 0 < n) {left : Nat} {ps : List Nat} (hlt : left < 2 ^ m) (hl : Left m es left ps) {e : Nat} (hp : pickB bf left = some e) :
    e < m ∧ leastFree D n (ps.map fun p => us.getD p 0) = some (ls e) ∧ (ps.map fun p => us.getD p 0).erase (ls e) = (ps.erase (es e)).map (fun p => us.getD p 0) ∧ Left m es (dif left (2 ^ e)) (ps.erase (es e)) ∧ (es e) ∈ ps := by
  obtain ⟨⟨_, hb, hz⟩, hmin⟩ := (pickB_iff bf left e).1 hp
  have he : e < m := by
    rcases Nat.lt_or_ge e m with h1 | h1
    · exact h1
    · have := Nat.testBit_lt_two_pow (Nat.lt_of_lt_of_le hlt (Nat.pow_le_pow_right (by decide : 0 < 2) h1)); rw [hb] at this; cases this
  have hin : es e ∈ ps := (hl.2 _).2 ⟨e, he, hb, rfl⟩
  have hz' := (bf_zero h hl he).1 hz
  have hls := h.hls e he
  have hln := hn _ (h.lt e he)
  refine ⟨he, ?_, ?_, ⟨List.Pairwise.sublist List.erase_sublist hl.1, fun p => ?_⟩, hin⟩
  · rw [leastFree_iff]
    refine ⟨by rw [hls]; exact hln, (free_iff D _ _ ps hl.1).2 ⟨es e, hin, hls.symm, fun q hq hq' => by rw [hsym, hls]; exact hz' q hq hq'⟩, fun b hb' => ?_⟩
    rw [Bool.eq_false_iff]
    intro hf
    obtain ⟨p, hp1, hp2, hp3⟩ := (free_iff D _ _ ps hl.1).1 hf
    obtain ⟨f, hf1, hf2, rfl⟩ := (hl.2 p).1 hp1
    have hlf := h.hls f hf1
    have hfe : f < e := by
      rcases Nat.lt_or_ge f e with h1 | h1
      · exact h1
      · rcases Nat.eq_or_lt_of_le h1 with h2 | h2
        · subst h2; omega
        · have := h.srt e f h2 hf1; omega
    refine hmin f hfe hf2 ((bf_zero h hl hf1).2 fun q hq hq' => ?_)
    rw [hsym, hp2]; exact hp3 q hq hq'
  · refine erase_at D _ _ _ (href _ (by rw [hls]; exact hln)) ps hl.1 hin hls.symm fun q hq hq' => ?_
    rw [hsym, hls]; exact hz' q hq hq'
  · have hnd : ps.Nodup := hl.1.imp (fun h => by omega)
    rw [List.Nodup.mem_erase_iff hnd, hl.2 p]
    have h9 : (2:Nat) ^ m ≤ 2 ^ 24 := Nat.pow_le_pow_right (by decide) hm
    constructor
    · rintro ⟨hne, f, hf, hfb, rfl⟩
      refine ⟨f, hf, ?_, rfl⟩
      rw [dif_one left e (by omega) (by omega), hfb]
      have : ¬ e = f := fun h => hne (by rw [h])
      simp [this]
    · rintro ⟨f, hf, hfb, rfl⟩
      rw [dif_one left e (by omega) (by omega), Bool.and_eq_true] at hfb
      refine ⟨fun hh => ?_, f, hf, hfb.1, rfl⟩
      have := h.inj _ _ hf he hh
      subst this; simp at hfb
theorem pick_none {D : Nat → Nat → Bool} {us : List Nat} {m : Nat} {es ls bf : Nat → Nat} (h : Evs D us m es ls bf) (hm : m ≤ 24) {left : Nat} {ps : List Nat} (hl : Left m es left ps) (hp : ps ≠ []) : ∃ e, pickB bf left = some e := by
  cases hps : ps with
  | nil => exact absurd hps hp
  | cons p0 qs =>
    obtain ⟨e, he, hb, hes⟩ := (hl.2 p0).1 (by rw [hps]; exact List.mem_cons_self)
    have hs := hl.1
    rw [hps] at hs
    obtain ⟨h0, _⟩ := List.pairwise_cons.1 hs
    cases hpk : pickB bf left with
    | some f => exact ⟨f, rfl⟩
    | none =>
      unfold pickB at hpk
      rw [List.find?_eq_none] at hpk
      have h1 := hpk e ((bitsOf_mem left e).2 ⟨by omega, hb⟩)
      have h2 : bf e &&& left = 0 := (bf_zero h hl he).2 fun q hq hlt => by
        rw [hps] at hq
        rcases List.mem_cons.1 hq with rfl | hq
        · omega
        · have := h0 q hq; omega
      rw [h2] at h1; simp at h1
theorem nfB_eq {D : Nat → Nat → Bool} {us : List Nat} {m n : Nat} {es ls bf : Nat → Nat} (h : Evs D us m es ls bf) (hm : m ≤ 24) (hsym : ∀ a b, D a b = D b a) (href : ∀ a, a < n → D a a = true) (hn : ∀ p, p < m → us.getD p 0 < n) :
    ∀ (k left : Nat) (ps : List Nat), left < 2 ^ m → Left m es left ps → ps.length = k → nfB ls bf k left = nfGo D n k (ps.map fun p => us.getD p 0)
  | 0, _, _, _, _, _ => rfl
  | k + 1, left, ps, hlt, hl, hk => by
    obtain ⟨e, he⟩ := pick_none h hm hl (fun e => by rw [e] at hk; simp at hk)
    obtain ⟨h1, h2, h3, h4, h5⟩ := pick_some h hm hsym href hn hlt hl he
    show (match pickB bf left with | none => [] | some e => ls e :: nfB ls bf k (dif left (2 ^ e))) = (match leastFree D n (ps.map fun p => us.getD p 0) with | none => [] | some a => a :: nfGo D n k ((ps.map fun p => us.getD p 0).erase a))
    rw [he, h2]
    show ls e :: _ = ls e :: _
    rw [h3, nfB_eq h hm hsym href hn k _ _ (Nat.lt_of_le_of_lt (dif_le _ _) hlt) h4 (by rw [List.length_erase_of_mem h5]; omega)]
theorem left_full (m : Nat) (hm : m ≤ 24) (es : Nat → Nat) {D : Nat → Nat → Bool} {us : List Nat} {ls bf : Nat → Nat} (h : Evs D us m es ls bf) : Left m es (2 ^ m - 1) (List.range m) := by
  refine ⟨List.pairwise_lt_range, fun p => ?_⟩
  rw [List.mem_range]
  constructor
  · intro hp
    obtain ⟨e, he, hes⟩ := h.surj p hp
    exact ⟨e, he, by rw [Nat.testBit_two_pow_sub_one]; simpa using he, hes⟩
  · rintro ⟨e, he, _, rfl⟩; exact h.lt e he
theorem nfB_full {D : Nat → Nat → Bool} {us : List Nat} {m n : Nat} {es ls bf : Nat → Nat} (h : Evs D us m es ls bf) (hm : m ≤ 24) (hsym : ∀ a b, D a b = D b a) (href : ∀ a, a < n → D a a = true) (hn : ∀ p, p < m → us.getD p 0 < n) : nfB ls bf m (2 ^ m - 1) = nfM D n us := by
  rw [nfB_eq h hm hsym href hn m (2 ^ m - 1) (List.range m) (by have := Nat.two_pow_pos m; omega) (left_full m hm es h) (by simp)]
  unfold nfM
  rw [h.len]
  congr 1
  refine list_eq_getD _ _ m (by simp) h.len fun p hp => ?_
  exact getD_range_map _ _ _ hp
end Go.Proofs.YtdafdffmkjhhcaaDoor
namespace Go.Proofs.YtdafdffmkjhhcaaDoor
open Go.RowKit
set_option linter.unusedVariables false
set_option maxRecDepth 100000

/-- The letters x and y of a word. -/
def prj (u : List Nat) (x y : Nat) : List Nat := u.filter fun z => decide (z = x) || decide (z = y)
theorem prj_in (c : Nat) (u : List Nat) (x y : Nat) (h : c = x ∨ c = y) : prj (c :: u) x y = c :: prj u x y := by
  unfold prj
  rw [List.filter_cons_of_pos]
  rcases h with h | h <;> simp [h]
theorem prj_out (c : Nat) (u : List Nat) (x y : Nat) (h1 : c ≠ x) (h2 : c ≠ y) : prj (c :: u) x y = prj u x y := by
  unfold prj
  rw [List.filter_cons_of_neg]
  simp [h1, h2]
def Eqv (D : Nat → Nat → Bool) (u v : List Nat) : Prop := ∀ x y, D x y = true → prj u x y = prj v x y
theorem Eqv.refl (D : Nat → Nat → Bool) (u : List Nat) : Eqv D u u := fun _ _ _ => rfl
theorem Eqv.symm {D : Nat → Nat → Bool} {u v : List Nat} (h : Eqv D u v) : Eqv D v u := fun x y d => (h x y d).symm
theorem Eqv.trans {D : Nat → Nat → Bool} {u v t : List Nat} (h : Eqv D u v) (h2 : Eqv D v t) : Eqv D u t := fun x y d => (h x y d).trans (h2 x y d)
theorem Eqv.cons {D : Nat → Nat → Bool} {u v : List Nat} (h : Eqv D u v) (a : Nat) : Eqv D (a :: u) (a :: v) := fun x y d => by
  by_cases e : a = x ∨ a = y
  · rw [prj_in _ _ _ _ e, prj_in _ _ _ _ e, h x y d]
  · rw [prj_out _ _ _ _ (fun h => e (.inl h)) (fun h => e (.inr h)), prj_out _ _ _ _ (fun h => e (.inl h)) (fun h => e (.inr h)), h x y d]
theorem Eqv.tail {D : Nat → Nat → Bool} {u v : List Nat} {a : Nat} (h : Eqv D (a :: u) (a :: v)) : Eqv D u v := fun x y d => by
  have := h x y d
  by_cases e : a = x ∨ a = y
  · rw [prj_in _ _ _ _ e, prj_in _ _ _ _ e] at this
    injection this
  · rwa [prj_out _ _ _ _ (fun h => e (.inl h)) (fun h => e (.inr h)), prj_out _ _ _ _ (fun h => e (.inl h)) (fun h => e (.inr h))] at this
theorem mem_prj (D : Nat → Nat → Bool) (u : List Nat) (a : Nat) : a ∈ u ↔ a ∈ prj u a a := by
  unfold prj
  rw [List.mem_filter]; simp
theorem free_cons (D : Nat → Nat → Bool) (c : Nat) (us : List Nat) (a : Nat) : freeB D (c :: us) a = if c = a then true else if D c a then false else freeB D us a := rfl
theorem free_prj (D : Nat → Nat → Bool) (a : Nat) : ∀ u : List Nat, freeB D u a = true ↔ a ∈ u ∧ ∀ b, D b a = true → (prj u b a).head? = some a
  | [] => ⟨fun h => (by simp [freeB] at h), fun h => (by cases h.1)⟩
  | c :: us => by
    have ih := free_prj D a us
    rw [free_cons]
    by_cases e : c = a
    · rw [if_pos e]
      refine ⟨fun _ => ⟨by rw [e]; exact List.mem_cons_self, fun b _ => ?_⟩, fun _ => rfl⟩
      rw [prj_in _ _ _ _ (.inr e), e]; rfl
    · rw [if_neg e]
      cases hD : D c a with
      | true =>
        rw [if_pos rfl]
        refine ⟨fun h => (by cases h), fun ⟨_, h⟩ => ?_⟩
        have := h c hD
        rw [prj_in _ _ _ _ (.inl rfl)] at this
        injection this with this
        exact absurd this e
      | false =>
        rw [if_neg (by decide), ih]
        have hne : ∀ b, D b a = true → c ≠ b := fun b hb h => by rw [← h, hD] at hb; cases hb
        constructor
        · rintro ⟨h1, h2⟩
          exact ⟨List.mem_cons_of_mem _ h1, fun b hb => by rw [prj_out _ _ _ _ (hne b hb) e]; exact h2 b hb⟩
        · rintro ⟨h1, h2⟩
          refine ⟨?_, fun b hb => by have := h2 b hb; rwa [prj_out _ _ _ _ (hne b hb) e] at this⟩
          rcases List.mem_cons.1 h1 with h | h
          · exact absurd h.symm e
          · exact h
theorem Eqv.mem {D : Nat → Nat → Bool} {u v : List Nat} (h : Eqv D u v) {a : Nat} (ha : D a a = true) : a ∈ u ↔ a ∈ v := by
  rw [mem_prj D u a, mem_prj D v a, h a a ha]
theorem Eqv.free {D : Nat → Nat → Bool} {u v : List Nat} (h : Eqv D u v) {a : Nat} (ha : D a a = true) : freeB D u a = freeB D v a := by
  have : freeB D u a = true ↔ freeB D v a = true := by
    rw [free_prj, free_prj, h.mem ha]
    exact ⟨fun ⟨h1, h2⟩ => ⟨h1, fun b hb => by rw [← h b a hb]; exact h2 b hb⟩, fun ⟨h1, h2⟩ => ⟨h1, fun b hb => by rw [h b a hb]; exact h2 b hb⟩⟩
  cases h1 : freeB D u a <;> cases h2 : freeB D v a
  · rfl
  · exact absurd (this.2 h2) (by rw [h1]; decide)
  · exact absurd (this.1 h1) (by rw [h2]; decide)
  · rfl
/-- A letter that may come first can be put there. -/
theorem free_front (D : Nat → Nat → Bool) (hsym : ∀ a b, D a b = D b a) (a : Nat) : ∀ v : List Nat, freeB D v a = true → Eqv D (a :: v.erase a) v
  | [], h => by simp [freeB] at h
  | c :: us, h => by
    rw [free_cons] at h
    by_cases e : c = a
    · subst e
      rw [List.erase_cons_head]; exact Eqv.refl _ _
    · rw [if_neg e] at h
      cases hD : D c a with
      | true => rw [hD] at h; simp at h
      | false =>
        rw [hD] at h
        have ih := free_front D hsym a us (by simpa using h)
        intro x y d
        rw [List.erase_cons_tail (by simpa using e)]
        have ihx := ih x y d
        by_cases hc : c = x ∨ c = y
        · by_cases ha : a = x ∨ a = y
          · exfalso
            have : D c a = true := by
              rcases hc with hc | hc <;> rcases ha with ha | ha
              · exact absurd (hc.trans ha.symm) e
              · rw [hc, ha]; exact d
              · rw [hc, ha, hsym]; exact d
              · exact absurd (hc.trans ha.symm) e
            rw [hD] at this; cases this
          · rw [prj_out a _ _ _ (fun h => ha (.inl h)) (fun h => ha (.inr h))] at ihx ⊢
            rw [prj_in _ _ _ _ hc, prj_in _ _ _ _ hc, ihx]
        · have h1 : c ≠ x := fun h => hc (.inl h)
          have h2 : c ≠ y := fun h => hc (.inr h)
          rw [prj_out c us _ _ h1 h2, ← ihx]
          by_cases ha : a = x ∨ a = y
          · rw [prj_in _ _ _ _ ha, prj_in _ _ _ _ ha, prj_out c _ _ _ h1 h2]
          · have h3 : a ≠ x := fun h => ha (.inl h)
            have h4 : a ≠ y := fun h => ha (.inr h)
            rw [prj_out _ _ _ _ h3 h4, prj_out _ _ _ _ h3 h4, prj_out c _ _ _ h1 h2]
theorem Eqv.nil {D : Nat → Nat → Bool} {n : Nat} {v : List Nat} (href : ∀ a, a < n → D a a = true) (hv : ∀ x, x ∈ v → x < n) (h : Eqv D [] v) : v = [] := by
  cases v with
  | nil => rfl
  | cons c us =>
    have := (h.mem (href c (hv c List.mem_cons_self))).2 List.mem_cons_self
    cases this
theorem Eqv.step {D : Nat → Nat → Bool} {u v : List Nat} {a : Nat} (hsym : ∀ a b, D a b = D b a) (ha : D a a = true) (h : Eqv D (a :: u) v) : freeB D v a = true ∧ Eqv D u (v.erase a) := by
  have hf : freeB D v a = true := by rw [← h.free ha, free_cons, if_pos rfl]
  exact ⟨hf, Eqv.tail (h.trans (free_front D hsym a v hf).symm)⟩
theorem Eqv.len {D : Nat → Nat → Bool} {n : Nat} (hsym : ∀ a b, D a b = D b a) (href : ∀ a, a < n → D a a = true) : ∀ (u v : List Nat), (∀ x, x ∈ u → x < n) → (∀ x, x ∈ v → x < n) → Eqv D u v → u.length = v.length
  | [], v, _, hv, h => by rw [Eqv.nil href hv h]
  | a :: u, v, hu, hv, h => by
    obtain ⟨hf, he⟩ := h.step hsym (href a (hu a List.mem_cons_self))
    have hm := free_mem D a v hf
    have ih := Eqv.len hsym href u (v.erase a) (fun x hx => hu x (List.mem_cons_of_mem _ hx)) (fun x hx => hv x (List.mem_of_mem_erase hx)) he
    rw [List.length_erase_of_mem hm] at ih
    have := List.length_pos_of_mem hm
    rw [List.length_cons]; omega
theorem Eqv.erase {D : Nat → Nat → Bool} {u v : List Nat} {a : Nat} (hsym : ∀ a b, D a b = D b a) (ha : D a a = true) (h : Eqv D u v) (hf : freeB D u a = true) : Eqv D (u.erase a) (v.erase a) :=
  Eqv.tail ((free_front D hsym a u hf).trans (h.trans (free_front D hsym a v (by rw [← h.free ha]; exact hf)).symm))
theorem Eqv.least {D : Nat → Nat → Bool} {n : Nat} {u v : List Nat} (href : ∀ a, a < n → D a a = true) (h : Eqv D u v) : leastFree D n u = leastFree D n v := by
  have key : ∀ a, a < n → freeB D u a = freeB D v a := fun a ha => h.free (href a ha)
  cases h1 : leastFree D n u with
  | some a =>
    obtain ⟨h2, h3, h4⟩ := (leastFree_iff D n u a).1 h1
    exact ((leastFree_iff D n v a).2 ⟨h2, by rw [← key a h2]; exact h3, fun b hb => by rw [← key b (by omega)]; exact h4 b hb⟩).symm
  | none =>
    cases h2 : leastFree D n v with
    | none => rfl
    | some a =>
      obtain ⟨h3, h4, h5⟩ := (leastFree_iff D n v a).1 h2
      have := (leastFree_iff D n u a).2 ⟨h3, by rw [key a h3]; exact h4, fun b hb => by rw [key b (by omega)]; exact h5 b hb⟩
      rw [h1] at this; cases this
theorem Eqv.nfGo_ {D : Nat → Nat → Bool} {n : Nat} (hsym : ∀ a b, D a b = D b a) (href : ∀ a, a < n → D a a = true) : ∀ (k : Nat) (u v : List Nat), Eqv D u v → nfGo D n k u = nfGo D n k v
  | 0, _, _, _ => rfl
  | k + 1, u, v, h => by
    show (match leastFree D n u with | none => [] | some a => a :: nfGo D n k (u.erase a)) = (match leastFree D n v with | none => [] | some a => a :: nfGo D n k (v.erase a))
    rw [h.least href]
    cases h1 : leastFree D n v with
    | none => rfl
    | some a =>
      obtain ⟨h2, h3, _⟩ := (leastFree_iff D n v a).1 h1
      show a :: _ = a :: _
      rw [Eqv.nfGo_ hsym href k (u.erase a) (v.erase a) (h.erase hsym (href a h2) (by rw [h.free (href a h2)]; exact h3))]
theorem least_some {D : Nat → Nat → Bool} {n : Nat} {u : List Nat} (hu : ∀ x, x ∈ u → x < n) (hne : u ≠ []) : ∃ a, leastFree D n u = some a := by
  cases h : leastFree D n u with
  | some a => exact ⟨a, rfl⟩
  | none =>
    cases u with
    | nil => exact absurd rfl hne
    | cons c us =>
      unfold leastFree at h
      rw [List.find?_eq_none] at h
      have := h c (List.mem_range.2 (hu c List.mem_cons_self))
      rw [free_cons, if_pos rfl] at this
      exact absurd rfl this
theorem nfGo_eqv {D : Nat → Nat → Bool} {n : Nat} (hsym : ∀ a b, D a b = D b a) (href : ∀ a, a < n → D a a = true) : ∀ (k : Nat) (u : List Nat), u.length = k → (∀ x, x ∈ u → x < n) → Eqv D (nfGo D n k u) u
  | 0, u, hk, _ => by
    have : u = [] := List.eq_nil_of_length_eq_zero hk
    subst this; exact Eqv.refl _ _
  | k + 1, u, hk, hu => by
    obtain ⟨a, ha⟩ := least_some (D := D) hu (fun e => by rw [e] at hk; simp at hk)
    obtain ⟨h2, h3, _⟩ := (leastFree_iff D n u a).1 ha
    show Eqv D (match leastFree D n u with | none => [] | some a => a :: nfGo D n k (u.erase a)) u
    rw [ha]
    have hm := free_mem D a u h3
    exact ((nfGo_eqv hsym href k (u.erase a) (by rw [List.length_erase_of_mem hm]; omega) (fun x hx => hu x (List.mem_of_mem_erase hx))).cons a).trans (free_front D hsym a u h3)
theorem eqv_iff_nf {D : Nat → Nat → Bool} {n : Nat} (hsym : ∀ a b, D a b = D b a) (href : ∀ a, a < n → D a a = true) (u v : List Nat) (hu : ∀ x, x ∈ u → x < n) (hv : ∀ x, x ∈ v → x < n) : Eqv D u v ↔ nfM D n u = nfM D n v := by
  constructor
  · intro h
    unfold nfM
    rw [Eqv.len hsym href u v hu hv h]
    exact Eqv.nfGo_ hsym href _ u v h
  · intro h
    have h1 := nfGo_eqv hsym href u.length u rfl hu
    have h2 := nfGo_eqv hsym href v.length v rfl hv
    unfold nfM at h
    rw [h] at h1
    exact h1.symm.trans h2
/-- The model's way: each letter of a word is taken away from the front of the other one. -/
def takeB (D : Nat → Nat → Bool) : List Nat → List Nat → Bool
  | [], v => v.isEmpty
  | a :: u, v => freeB D v a && takeB D u (v.erase a)
theorem same_iff {D : Nat → Nat → Bool} {n : Nat} (hsym : ∀ a b, D a b = D b a) (href : ∀ a, a < n → D a a = true) : ∀ (u v : List Nat), (∀ x, x ∈ u → x < n) → (∀ x, x ∈ v → x < n) → (takeB D u v = true ↔ Eqv D u v)
  | [], v, _, hv => by
    constructor
    · intro h
      have : v = [] := List.isEmpty_iff.1 h
      rw [this]; exact Eqv.refl _ _
    · intro h
      exact List.isEmpty_iff.2 (Eqv.nil href hv h)
  | a :: u, v, hu, hv => by
    show (freeB D v a && takeB D u (v.erase a)) = true ↔ _
    rw [Bool.and_eq_true, same_iff hsym href u (v.erase a) (fun x hx => hu x (List.mem_cons_of_mem _ hx)) (fun x hx => hv x (List.mem_of_mem_erase hx))]
    constructor
    · rintro ⟨h1, h2⟩
      exact (h2.cons a).trans (free_front D hsym a v h1)
    · intro h
      exact h.step hsym (href a (hu a List.mem_cons_self))
theorem same_nf {D : Nat → Nat → Bool} {n : Nat} (hsym : ∀ a b, D a b = D b a) (href : ∀ a, a < n → D a a = true) (u v : List Nat) (hu : ∀ x, x ∈ u → x < n) (hv : ∀ x, x ∈ v → x < n) : takeB D u v = decide (nfM D n u = nfM D n v) := by
  have h1 := same_iff hsym href u v hu hv
  have h2 := eqv_iff_nf hsym href u v hu hv
  cases h : takeB D u v
  · symm; rw [decide_eq_false_iff_not, ← h2, ← h1, h]; decide
  · symm; rw [decide_eq_true_eq, ← h2, ← h1]; exact h
end Go.Proofs.YtdafdffmkjhhcaaDoor
namespace Go.Proofs.YtdafdffmkjhhcaaDoor
open Go Go.RowKit
set_option linter.unusedVariables false
set_option maxRecDepth 100000

/-- What is said of x abides what an iterator does that began at n1: blocks that are no cells are turned, and cells of blocks below those of x. -/
def AbidesTo {α : Type} (n1 : Nat) (base : α → Nat) (J : α → World → Prop) : Prop :=
  ∀ x A B row, J x A → A.grownBy B row → (∀ r, row = some r → n1 ≤ r ∧ (r < base x ∨ ∃ o : Obj, A.heap[r]? = some o ∧ o.isCells = false)) → J x B
/-- All blocks from B on lie as they lay. -/
structure KeepsAll (B : Nat) (W W' : World) : Prop where
  size : W.heap.size ≤ W'.heap.size
  same : ∀ (k : Nat) (o : Obj), B ≤ k → W.heap[k]? = some o → W'.heap[k]? = some o
theorem KeepsAll.refl (B : Nat) (W : World) : KeepsAll B W W := ⟨Nat.le_refl _, fun _ _ _ h => h⟩
theorem KeepsAll.trans {B : Nat} {X Y Z : World} (h : KeepsAll B X Y) (k : KeepsAll B Y Z) : KeepsAll B X Z := ⟨Nat.le_trans h.size k.size, fun i o hB hi => k.same i o hB (h.same i o hB hi)⟩
theorem KeepsAll.above {B B' : Nat} {W W' : World} (h : KeepsAll B W W') (hB : B ≤ B') : KeepsAll B' W W' := ⟨h.size, fun k o hk => h.same k o (by omega)⟩
theorem keeps_put {B l : Nat} (W : World) (o' : Obj) (h : l < B) : KeepsAll B W (W.putObj l o') := ⟨by simp, fun k o hk ho => (World.putObj_heap_other (by omega)).trans ho⟩
/-- An iterator whose first round says 'no more'. -/
def FirstSeq {α : Type} (P : Program) (g : Nat) (lb : Array Value) (encs : α → Array Value) (S : α → Nat → World → Prop) (base : α → Nat) (w : World) : Prop :=
  ∀ (l : Nat) (J : α → World → Prop) (W : World), Below w.heap.size w W → AbidesTo W.heap.size base J →
    (∀ x W1, S x W.heap.size W1 → Below W.heap.size W W1 → YieldAt Fence.wide 0 P l (encs x) W1 fun e W' => e = .returned (.bool false) ∧ J x W' ∧ KeepsAll W.heap.size W1 W') →
    Calls P g (#[.func (.yield l) #[] #[]] ++ lb) W fun e W' => (∃ v, e = .returned v) ∧ ∃ x, J x W'
def firstPost {α : Type} (B : Nat) (Jx : Code → α → World → Prop) (x : α) (W : World) : Exit → Act → World → Prop
  | .ret, _, W' => KeepsAll B W W' ∧ Jx .ret x W'
  | .exit id, _, W' => KeepsAll B W W' ∧ Jx (.exit id) x W'
  | .goto t, _, W' => KeepsAll B W W' ∧ Jx (.goto t) x W'
  | _, _, _ => False
theorem wide_depth {m : Nat} : Fence.wide.depth.isSome = true → 1 ≤ m := fun h => by simp [Fence.wide] at h
theorem wp_rangeFunc_first {α : Type} {P : Program} {g : Operand} {ps : Array Tmp} {assign body : Code} {Q : Exit → Act → World → Prop} {a : Act} {w : World}
    {gf : Nat} {lb : Array Value} (hg : a.eval g = .func (.func gf) #[] lb) (eg : ∀ args w, (callFunc gf args).run P w = .ok (.enter gf args) w)
    {encs : α → Array Value} {S : α → Nat → World → Prop} {base : α → Nat} {w0 : World} (hseq : FirstSeq P gf lb encs S base w0) (hb0 : Below w0.heap.size w0 w) (hps : ∀ x, (encs x).size = ps.size)
    (hS : ∀ x n1 W l o o', S x n1 W → W.heap[l]? = some o → o.isCells = false → S x n1 (W.putObj l o'))
    (Jx : Code → α → World → Prop) (hJ : ∀ c, AbidesTo w.heap.size base (Jx c)) (a₁ : α → Act)
    (hassign : ∀ (l : Nat) (x : α) (W : World) (K : Act → World → Prop), K (a₁ x) W →
      assign.wpIn (Fence.wide.inRound l) 0 P (Exit.then K (fun _ _ _ => False)) { tmps := (ps.zip (encs x)).foldl (fun t (p, v) => t.setIfInBounds p v) a.tmps, defers := [] } W)
    (hbody : ∀ (l : Nat) (x : α) (W : World), S x (w.heap.size + 2) W → Below w.heap.size w W → w.heap.size + 2 ≤ W.heap.size → body.wpIn (Fence.wide.inRound l) 0 P (firstPost w.heap.size Jx x W) (a₁ x) W)
    (hstop : ∀ (D : Nat) (c : Code) (x : α) (W : World), w.heap.size ≤ D → Jx c x W → W.heap[D]? = some (.deferred (some [])) → c.wp P Q { a with defers := { target := .collected D, args := #[] } :: a.defers } W) :
    (Code.rangeFunc g ps assign body).wp P Q a w := by
  refine (wpIn_wide (n := 0)).1 (wpIn_rangeFunc ?_)
  intro fn _
  obtain ⟨rec, hrec⟩ : ∃ rec : LoopState → Option Code → Loop, rec = fun st pe => { state := st, pending := pe, fn, tmps := a.tmps, params := ps, assign, body, defers := w.heap.size } := ⟨_, rfl⟩
  obtain ⟨W1, hW1⟩ : ∃ W1, (w.alloc (.deferred (some []))).alloc (.loop (rec .ready none)) = W1 := ⟨_, rfl⟩
  have hL1 : W1.heap[w.heap.size + 1]? = some (.loop (rec .ready none)) := by
    rw [← hW1]; have := World.alloc_heap_new (w.alloc (.deferred (some []))) (.loop (rec .ready none)); rwa [World.size_alloc] at this
  have hK1 : W1.heap[w.heap.size]? = some (.deferred (some [])) := by
    rw [← hW1]; exact (Below.heap_alloc _ _ _ (by simp)).trans (World.alloc_heap_new w _)
  have hsz : W1.heap.size = w.heap.size + 2 := by rw [← hW1]; simp
  have hbw : Below w.heap.size w W1 := by rw [← hW1]; exact ((Below.refl _ w).alloc (Nat.le_refl _) _).alloc (by simp) _
  have hb1 : Below w0.heap.size w0 W1 := hb0.trans (hbw.mono hb0.size)
  refine ⟨w.heap.size + 1, [{ target := .collected w.heap.size, args := #[] }], W1, { target := .fn (.func gf) lb, args := #[.func (.yield (w.heap.size + 1)) #[] #[]] }, W1, gf,
    #[.func (.yield (w.heap.size + 1)) #[] #[]] ++ lb, W1, ?_, ?_, ?_, ?_, wide_depth, ?_⟩
  · rw [← hW1, hrec]; exact run_enterLoop_outer _ _ _ _ _
  · simp only [resolve, hg]
    simp [go_sem]
  · intro f' _; trivial
  · simp [invoke, go_sem, eg]
  · refine callsIn_wide.2 ((hseq (w.heap.size + 1)
      (fun x W => ∃ c, Jx c x W ∧ W.heap[w.heap.size + 1]? = some (.loop (rec .done (some c))) ∧ W.heap[w.heap.size]? = some (.deferred (some [])))
      W1 hb1 ?_ ?_).mono ?_)
    · rintro x A B row ⟨c, h1, h2, h3⟩ hg' hr
      have hne : ∀ k, k < W1.heap.size → some k ≠ row := fun k hk e => by have := (hr k e.symm).1; omega
      refine ⟨c, hJ c x A B row h1 hg' (fun r e => ⟨by have := (hr r e).1; omega, (hr r e).2⟩), ?_, ?_⟩
      · exact (hg'.block _ (Array.getElem?_eq_some_iff.1 h2).1 (hne _ (by omega))).trans h2
      · exact (hg'.block _ (Array.getElem?_eq_some_iff.1 h3).1 (hne _ (by omega))).trans h3
    · intro x W hSx hbel
      have hl : W.heap[w.heap.size + 1]? = some (.loop (rec .ready none)) := (hbel.block _ (by omega)).trans hL1
      have hk : W.heap[w.heap.size]? = some (.deferred (some [])) := (hbel.block _ (by omega)).trans hK1
      have hlt : w.heap.size + 1 < W.heap.size := (Array.getElem?_eq_some_iff.1 hl).1
      have hy := run_yield (P := P) (args := encs x) hl (by rw [hrec]; exact hps x)
      rw [hrec] at hy
      refine ⟨fn, _, assign, body, hy, roundIn_of_wpIn trivial (hassign _ x W _ ⟨_, run_beginRound hl (by rw [hrec]), ?_⟩)⟩
      have hl2 : (W.putObj (w.heap.size + 1) (.loop { rec .ready none with state := .busy })).heap[w.heap.size + 1]? = some (.loop { rec .ready none with state := .busy }) := World.putObj_heap_same hlt
      have hk2 : (W.putObj (w.heap.size + 1) (.loop { rec .ready none with state := .busy })).heap[w.heap.size]? = some (.deferred (some [])) := (World.putObj_heap_other (by omega)).trans hk
      have hbW : Below w.heap.size w (W.putObj (w.heap.size + 1) (.loop { rec .ready none with state := .busy })) := (hbw.trans (hbel.mono hbw.size)).trans (belowK_b (Nat.le_refl _) W _ _ _ (by omega) hl rfl rfl)
      rw [hsz] at hSx
      refine wpIn_mono (hbody _ x _ (hS x _ W _ _ _ hSx hl rfl) hbW (by simp; omega)) ?_
      have fin : ∀ (jump : Code) (W3 : World), KeepsAll w.heap.size (W.putObj (w.heap.size + 1) (.loop { rec .ready none with state := .busy })) W3 → Jx jump x W3 →
          ∃ v w', (Instr.endRound (w.heap.size + 1) (some jump)).run P W3 = .ok v w' ∧ (Ending.returned v = .returned (.bool false) ∧ (∃ c, Jx c x w' ∧ w'.heap[w.heap.size + 1]? = some (.loop (rec .done (some c))) ∧ w'.heap[w.heap.size]? = some (.deferred (some []))) ∧ KeepsAll W1.heap.size W w') := fun jump W3 hk3 hj3 => by
        have hl3 := hk3.same _ _ (by omega) hl2
        have := run_endRound (P := P) (some jump) hl3
        rw [hrec] at this ⊢
        refine ⟨_, _, this, rfl, ⟨jump, ?_, World.putObj_heap_same (Array.getElem?_eq_some_iff.1 hl3).1, (World.putObj_heap_other (by omega)).trans (hk3.same _ _ (by omega) hk2)⟩, ((keeps_put W _ (by omega)).trans (hk3.above (by omega))).trans (keeps_put W3 _ (by omega))⟩
        exact hJ jump x W3 _ (some (w.heap.size + 1)) hj3 (grownBy_putObj' _ _ _) (fun r e => by cases e; exact ⟨by omega, .inr ⟨_, hl3, rfl⟩⟩)
      rintro e a3 W3 hp
      cases e with
      | ret => exact fin .ret W3 hp.1 hp.2
      | exit id => exact fin (.exit id) W3 hp.1 hp.2
      | goto t => exact fin (.goto t) W3 hp.1 hp.2
      | normal => exact hp.elim
      | panic ch => exact hp.elim
      | outgrown => exact hp.elim
    · rintro e W2 ⟨⟨v, rfl⟩, x, c, hi, hl, hk⟩
      refine ⟨some c, _, by have := run_endLoop (P := P) hl (by rw [hrec]; simp); rw [hrec] at this; exact this, wpIn_wide.2 (hstop _ c x _ (Nat.le_refl _) ?_ ((World.putObj_heap_other (by omega)).trans hk))⟩
      exact hJ c x W2 _ (some (w.heap.size + 1)) hi (grownBy_putObj' _ _ _) (fun r e => by cases e; exact ⟨by omega, .inr ⟨_, hl, rfl⟩⟩)
/-- A function whose body holds a range over a function, walked by the plain words. -/
theorem calls_of_marks {P : Program} {f : FuncId} {fn : Func} {c : Code} {args : Array Value} {w : World} {R : Ending → World → Prop}
    (hf : P.funcs[f]? = some fn) (hb : fn.body = some c)
    (h : c.wp P (bodyPostM Fence.wide 0 P fn R) { tmps := args ++ Array.replicate (fn.ntmps - args.size) undef, defers := [] } w) : Calls P f args w R :=
  callsIn_wide.1 (callsIn_of_wp_marks (F := Fence.wide) (n := 0) hf hb trivial (wpIn_wide.2 h) rfl)
end Go.Proofs.YtdafdffmkjhhcaaDoor
namespace Go.Proofs.YtdafdffmkjhhcaaDoor
open Go Go.RowKit
set_option linter.unusedVariables false
set_option maxRecDepth 100000

theorem wpIn_of_still {P : Program} {o : Oper} {a : Act} {w : World} {K : Act → Prop} {K' : Act → World → Prop} {Q' : Exit → Act → World → Prop} (h : ∀ a, K a → K' a w) (hh : o.still P a w K) : o.wpIn Fence.wide 0 P a w K' Q' := by
  refine ⟨fun _ _ => trivial, ?_⟩
  show o.uponIn Fence.wide 0 P a K' Q' ((execOp a.eval o).run P w)
  unfold Oper.still at hh
  generalize (execOp a.eval o).run P w = r at *
  cases r with
  | ok n w' =>
    cases n <;> simp only [Oper.stillUpon] at hh <;> simp only [Oper.uponIn]
    case enter f args =>
      obtain ⟨rfl, v, hc, hn⟩ := hh
      exact ⟨wide_depth, callsIn_wide.2 (hc.mono fun e w'' ⟨he, hw⟩ => by subst he; subst hw; exact h _ hn)⟩
    all_goals (obtain ⟨rfl, h2⟩ := hh; exact h _ h2)
  | halt x w' => simp only [Oper.stillUpon] at hh
theorem wpOpIn_of_stOp {P : Program} {ops : Array Oper} {i : Nat} {a : Act} {w : World} {K : Act → Prop} {K' : Act → World → Prop} {Q' : Exit → Act → World → Prop} (h : ∀ a, K a → K' a w) (hh : stOp P ops w i K a) : wpOpIn Fence.wide 0 P ops Q' i K' a w := by
  unfold stOp at hh
  unfold wpOpIn
  split
  · rename_i ho; simp only [ho] at hh; exact h _ hh
  · rename_i o ho
    simp only [ho] at hh
    split
    · rename_i hw; simp only [hw, if_true] at hh; exact wpIn_of_still h hh
    · rename_i hw; simp only [hw] at hh; exact ⟨fun _ _ => trivial, h _ hh⟩
theorem wpAnyIn_of_head {P : Program} {md : Region.Mode} {ops : Array Oper} {w : World} {n g : Nat} {L : Array Bool → Act → Prop} {Q' : Exit → Act → World → Prop} (hL : ∀ listed a, L listed a → wpAnyIn Fence.wide 0 P md ops Q' g listed a w) :
    ∀ (f : Nat) (listed : Array Bool) (a : Act), wpAnyL P md ops w n L f listed a → wpAnyIn Fence.wide 0 P md ops Q' (f + g) listed a w
  | 0, listed, a, h => by rw [Nat.zero_add]; exact hL _ _ h
  | f + 1, listed, a, h => by
    rw [show f + 1 + g = (f + g) + 1 by omega]
    exact ⟨fun h0 => absurd h0 h.1, fun i hi => wpOpIn_of_stOp (fun a' h' => wpAnyIn_of_head hL f _ a' h') (h.2 i hi).2⟩
theorem wpAnyIn_of_seq {P : Program} {md : Region.Mode} {ops : Array Oper} {Q' : Exit → Act → World → Prop} : ∀ (l : List Oper) (k : Nat) (listed : Array Bool) (a : Act) (w : World), (∀ j, l[j]? = ops[k + j]?) →
    Region.seqB md ops l.length k listed = true → wpListIn Fence.wide 0 P ops Q' l a w → wpAnyIn Fence.wide 0 P md ops Q' l.length listed a w
  | [], _, _, _, _, _, hB, h => ⟨by simpa [Region.seqB] using hB, h⟩
  | o :: l, k, listed, a, w, hl, hB, h => by
    have h0 : ops[k]? = some o := by simpa using (hl 0).symm
    simp only [List.length_cons, Region.seqB, Bool.and_eq_true, decide_eq_true_eq] at hB
    refine ⟨fun h1 => (by rw [hB.1] at h1; cases h1), fun i hi => ?_⟩
    rw [hB.1] at hi
    have hik : i = k := by simpa using hi
    subst hik
    have hw : wpOpIn Fence.wide 0 P ops Q' i (wpListIn Fence.wide 0 P ops Q' l) a w := by unfold wpOpIn; simp only [h0]; exact h
    exact wpOpIn_mono (fun a' w' h' => wpAnyIn_of_seq l (i + 1) _ a' w' (fun j => by have := hl (j + 1); simpa [Nat.add_assoc, Nat.add_comm 1 j] using this) hB.2 h') hw
theorem wp_region_still_tail_in {P : Program} {id : Nat} {Q : Exit → Act → World → Prop} {a : Act} {w : World} {l : List Oper} (n : Nat) (hm : P.follows .mixedOrders = true) (hB : Region.lexTailB .any l.toArray n = true)
    (h : wpStill P l.toArray { w with drawn := w.drawn + 1 } (fun a' => wpListIn Fence.wide 0 P l.toArray Q (l.drop n) a' { w with drawn := w.drawn + 1 }) (l.take n) a) : (Code.region id l.toArray true).wp P Q a w := by
  simp only [Region.lexTailB, Bool.and_eq_true, decide_eq_true_eq] at hB
  obtain ⟨⟨⟨⟨hsel, hn⟩, hs⟩, hc⟩, hlex⟩ := hB
  have hn' : n < l.length := by simpa using hn
  have htl : (l.take n).length = n := by simp; omega
  have hdl : (l.drop n).length = l.toArray.size - n := by simp
  have inv0 : HeadInv .any l.toArray n (Array.replicate l.toArray.size false) :=
    ⟨by simp, fun j oj _ hl => (by rw [getD_replicate_false] at hl; cases hl), fun t _ ht => getD_in (by simpa using ht) (getD_replicate_false _ _)⟩
  have H := wpAnyL_lex (md := .any) (g := l.toArray.size - n) hsel hs hc hn (l.take n) 0 _ a (fun j hj => by
    have hj' : j < n := by rw [htl] at hj; exact hj
    simp [hj']) (by simpa using htl) inv0 (by rw [htl]; exact hlex) h
  refine (wpIn_wide (n := 0)).1 (wpIn_region_any hm ?_)
  have := wpAnyIn_of_head (Q' := Q) (g := l.toArray.size - n) (fun listed a' hL => by
    have := wpAnyIn_of_seq (md := .any) (Q' := Q) (l.drop n) n listed a' { w with drawn := w.drawn + 1 } (fun j => by simp [List.getElem?_drop]) (by rw [hdl]; exact hL.1) hL.2
    rwa [hdl] at this) _ _ _ H
  rw [htl, show n + (l.toArray.size - n) = l.toArray.size by omega] at this
  exact this
theorem wpStill_skip {P : Program} {ops : Array Oper} {w : World} {Q : Act → Prop} {a : Act} {o : Oper} {rest : List Oper} (hw : Region.wanted o (yielded ops a.tmps) = false) (h : wpStill P ops w Q rest (a.put o.dst undef)) : wpStill P ops w Q (o :: rest) a := by
  simp only [wpStill, hw]; exact h
theorem wpStill_want {P : Program} {ops : Array Oper} {w : World} {Q : Act → Prop} {a : Act} {o : Oper} {rest : List Oper} (hw : Region.wanted o (yielded ops a.tmps) = true) (h : ∀ K : Act → Prop, (∀ a, wpStill P ops w Q rest a → K a) → o.still P a w K) : wpStill P ops w Q (o :: rest) a := by
  simp only [wpStill, hw, if_true]; exact h _ (fun _ h => h)
theorem wpListIn_want {P : Program} {ops : Array Oper} {w : World} {Q : Exit → Act → World → Prop} {a : Act} {o : Oper} {rest : List Oper} (hw : Region.wanted o (yielded ops a.tmps) = true) (h : ∀ K : Act → World → Prop, (∀ a w, wpListIn Fence.wide 0 P ops Q rest a w → K a w) → o.wpIn Fence.wide 0 P a w K Q) : wpListIn Fence.wide 0 P ops Q (o :: rest) a w := by
  simp only [wpListIn, hw, if_true]; exact h _ (fun _ _ h => h)
theorem wpListIn_skipw {P : Program} {ops : Array Oper} {w : World} {Q : Exit → Act → World → Prop} {a : Act} {o : Oper} {rest : List Oper} (hw : Region.wanted o (yielded ops a.tmps) = false) (h : wpListIn Fence.wide 0 P ops Q rest (a.put o.dst undef) w) : wpListIn Fence.wide 0 P ops Q (o :: rest) a w := by
  simp only [wpListIn, hw]; exact ⟨fun _ _ => trivial, h⟩
end Go.Proofs.YtdafdffmkjhhcaaDoor
namespace Go.Proofs.YtdafdffmkjhhcaaDoor
open Go.RowKit
set_option linter.unusedVariables false
set_option maxRecDepth 100000

/-- The segment from a to b, its part behind m first. -/
def rot (ds : List Nat) (a m b : Nat) : List Nat := (List.range ds.length).map fun p =>
  ds.getD (if p < a then p else if p < a + (b - m) then p - a + m else if p < b then p - (b - m) else p) 0
theorem rot_len (ds : List Nat) (a m b : Nat) : (rot ds a m b).length = ds.length := by simp [rot]
theorem rot_at (ds : List Nat) (a m b p : Nat) (hp : p < ds.length) : (rot ds a m b).getD p 0 = ds.getD (if p < a then p else if p < a + (b - m) then p - a + m else if p < b then p - (b - m) else p) 0 := getD_range_map _ _ _ hp
theorem rot_low (ds : List Nat) (a m b p : Nat) (hb : b ≤ ds.length) (ham : a ≤ m) (hmb : m ≤ b) (hp : p < a) : (rot ds a m b).getD p 0 = ds.getD p 0 := by rw [rot_at _ _ _ _ _ (by omega), if_pos hp]
theorem rot_left (ds : List Nat) (a m b p : Nat) (hb : b ≤ ds.length) (ham : a ≤ m) (hmb : m ≤ b) (h1 : a ≤ p) (h2 : p < a + (b - m)) : (rot ds a m b).getD p 0 = ds.getD (p - a + m) 0 := by rw [rot_at _ _ _ _ _ (by omega), if_neg (by omega), if_pos h2]
theorem rot_right (ds : List Nat) (a m b p : Nat) (hb : b ≤ ds.length) (ham : a ≤ m) (hmb : m ≤ b) (h1 : a + (b - m) ≤ p) (h2 : p < b) : (rot ds a m b).getD p 0 = ds.getD (p - (b - m)) 0 := by rw [rot_at _ _ _ _ _ (by omega), if_neg (by omega), if_neg (by omega), if_pos h2]
theorem rot_high (ds : List Nat) (a m b p : Nat) (hp : p < ds.length) (ham : a ≤ m) (hmb : m ≤ b) (h1 : b ≤ p) : (rot ds a m b).getD p 0 = ds.getD p 0 := by rw [rot_at _ _ _ _ _ hp, if_neg (by omega), if_neg (by omega), if_neg (by omega)]
/-- As four pieces. -/
theorem rot_parts (ds : List Nat) (a m b : Nat) (hb : b ≤ ds.length) (ham : a ≤ m) (hmb : m ≤ b) : rot ds a m b = ds.take a ++ ((ds.take b).drop m ++ ((ds.take m).drop a ++ ds.drop b)) := by
  have l1 : (ds.take a).length = a := by rw [List.length_take]; omega
  have l2 : ((ds.take b).drop m).length = b - m := by rw [List.length_drop, List.length_take]; omega
  have l3 : ((ds.take m).drop a).length = m - a := by rw [List.length_drop, List.length_take]; omega
  have lt : (ds.take a ++ ((ds.take b).drop m ++ ((ds.take m).drop a ++ ds.drop b))).length = ds.length := by simp; omega
  refine list_eq_getD _ _ ds.length (rot_len _ _ _ _) lt fun p hp => ?_
  rw [List.getD_eq_getElem?_getD (l := _ ++ _), List.getElem?_append, l1]
  by_cases h1 : p < a
  · rw [rot_low _ _ _ _ _ hb ham hmb h1, if_pos h1, List.getElem?_take_of_lt h1, List.getD_eq_getElem?_getD]
  · rw [if_neg h1, List.getElem?_append, l2]
    by_cases h2 : p - a < b - m
    · rw [rot_left _ _ _ _ _ hb ham hmb (by omega) (by omega), if_pos h2, List.getElem?_drop, List.getElem?_take_of_lt (by omega), List.getD_eq_getElem?_getD]
      congr 2; omega
    · rw [if_neg h2, List.getElem?_append, l3]
      by_cases h3 : p - a - (b - m) < m - a
      · rw [rot_right _ _ _ _ _ hb ham hmb (by omega) (by omega), if_pos h3, List.getElem?_drop, List.getElem?_take_of_lt (by omega), List.getD_eq_getElem?_getD]
        congr 2; omega
      · rw [if_neg h3, rot_high _ _ _ _ _ hp ham hmb (by omega), List.getElem?_drop, List.getD_eq_getElem?_getD]
        congr 2; omega
theorem parts_perm (ds : List Nat) (a m b : Nat) (hb : b ≤ ds.length) (ham : a ≤ m) (hmb : m ≤ b) : ds = ds.take a ++ ((ds.take m).drop a ++ ((ds.take b).drop m ++ ds.drop b)) := by
  have h1 : ds.take b = ds.take m ++ (ds.take b).drop m := by
    have := List.take_append_drop m (ds.take b)
    rw [List.take_take, Nat.min_eq_left hmb] at this; exact this.symm
  have h2 : ds.take m = ds.take a ++ (ds.take m).drop a := by
    have := List.take_append_drop a (ds.take m)
    rw [List.take_take, Nat.min_eq_left ham] at this; exact this.symm
  have h3 := (List.take_append_drop b ds).symm
  conv => lhs; rw [h3, h1, h2]
  simp only [List.append_assoc]
theorem rot_perm (ds : List Nat) (a m b : Nat) (hb : b ≤ ds.length) (ham : a ≤ m) (hmb : m ≤ b) : (rot ds a m b).Perm ds := by
  rw [rot_parts ds a m b hb ham hmb]
  conv => rhs; rw [parts_perm ds a m b hb ham hmb]
  refine List.Perm.append_left _ ?_
  rw [← List.append_assoc, ← List.append_assoc]
  exact List.Perm.append_right _ List.perm_append_comm

/-- Equal keys stand in the order of their numbers. -/
def St (key : Nat → Nat) (ds : List Nat) : Prop := ∀ p q, p < q → q < ds.length → key (ds.getD p 0) = key (ds.getD q 0) → ds.getD p 0 < ds.getD q 0
def Srt (key : Nat → Nat) (ds : List Nat) (lo hi : Nat) : Prop := ∀ p q, lo ≤ p → p < q → q < hi → key (ds.getD p 0) ≤ key (ds.getD q 0)
def Cross (key : Nat → Nat) (ds : List Nat) (a m b : Nat) : Prop := ∀ p q, a ≤ p → p < m → m ≤ q → q < b → key (ds.getD q 0) < key (ds.getD p 0)
/-- Nothing outside a segment has been turned. -/
def Same (ds es : List Nat) (lo hi : Nat) : Prop := ds.length = es.length ∧ ∀ p, p < lo ∨ hi ≤ p → es.getD p 0 = ds.getD p 0
theorem Same.refl (ds : List Nat) (lo hi : Nat) : Same ds ds lo hi := ⟨rfl, fun _ _ => rfl⟩
theorem Same.trans {ds es fs : List Nat} {lo hi : Nat} (h : Same ds es lo hi) (h2 : Same es fs lo hi) : Same ds fs lo hi := ⟨h.1.trans h2.1, fun p hp => (h2.2 p hp).trans (h.2 p hp)⟩
theorem Same.wide {ds es : List Nat} {lo hi lo' hi' : Nat} (h : Same ds es lo hi) (h1 : lo' ≤ lo) (h2 : hi ≤ hi') : Same ds es lo' hi' := ⟨h.1, fun p hp => h.2 p (by omega)⟩
theorem rot_same (ds : List Nat) (a m b : Nat) (hb : b ≤ ds.length) (ham : a ≤ m) (hmb : m ≤ b) : Same ds (rot ds a m b) a b := by
  refine ⟨(rot_len _ _ _ _).symm, fun p hp => ?_⟩
  rcases Nat.lt_or_ge p ds.length with h9 | h9
  · rcases hp with h | h
    · exact rot_low _ _ _ _ _ hb ham hmb h
    · exact rot_high _ _ _ _ _ h9 ham hmb h
  · rw [List.getD_eq_getElem?_getD, List.getD_eq_getElem?_getD, List.getElem?_eq_none (by rw [rot_len]; exact h9), List.getElem?_eq_none h9]
theorem rot_st {key : Nat → Nat} {ds : List Nat} {a m b : Nat} (h : St key ds) (hc : Cross key ds a m b) (hb : b ≤ ds.length) (ham : a ≤ m) (hmb : m ≤ b) : St key (rot ds a m b) := by
  intro p q hpq hq
  rw [rot_len] at hq
  rw [rot_at _ _ _ _ _ (by omega), rot_at _ _ _ _ _ hq]
  intro he
  by_cases p1 : p < a
  · rw [if_pos p1] at he ⊢
    by_cases q1 : q < a
    · rw [if_pos q1] at he ⊢; exact h p q hpq hq he
    · rw [if_neg q1] at he ⊢
      by_cases q2 : q < a + (b - m)
      · rw [if_pos q2] at he ⊢; exact h _ _ (by omega) (by omega) he
      · rw [if_neg q2] at he ⊢
        by_cases q3 : q < b
        · rw [if_pos q3] at he ⊢; exact h _ _ (by omega) (by omega) he
        · rw [if_neg q3] at he ⊢; exact h _ _ (by omega) (by omega) he
  · rw [if_neg p1, if_neg (by omega : ¬ q < a)] at he ⊢
    by_cases p2 : p < a + (b - m)
    · rw [if_pos p2] at he ⊢
      by_cases q2 : q < a + (b - m)
      · rw [if_pos q2] at he ⊢; exact h _ _ (by omega) (by omega) he
      · rw [if_neg q2] at he ⊢
        by_cases q3 : q < b
        · rw [if_pos q3] at he ⊢
          have := hc (q - (b - m)) (p - a + m) (by omega) (by omega) (by omega) (by omega)
          omega
        · rw [if_neg q3] at he ⊢; exact h _ _ (by omega) (by omega) he
    · rw [if_neg p2, if_neg (by omega : ¬ q < a + (b - m))] at he ⊢
      by_cases p3 : p < b
      · rw [if_pos p3] at he ⊢
        by_cases q3 : q < b
        · rw [if_pos q3] at he ⊢; exact h _ _ (by omega) (by omega) he
        · rw [if_neg q3] at he ⊢; exact h _ _ (by omega) (by omega) he
      · rw [if_neg p3, if_neg (by omega : ¬ q < b)] at he ⊢
        exact h p q hpq hq he
theorem Srt.same {key : Nat → Nat} {ds es : List Nat} {lo hi a b : Nat} (h : Srt key ds lo hi) (hs : Same ds es a b) (hd : hi ≤ a ∨ b ≤ lo) : Srt key es lo hi := by
  intro p q h1 h2 h3
  rw [hs.2 p (by omega), hs.2 q (by omega)]
  exact h p q h1 h2 h3
theorem Srt.sub {key : Nat → Nat} {ds : List Nat} {lo hi lo' hi' : Nat} (h : Srt key ds lo hi) (h1 : lo ≤ lo') (h2 : hi' ≤ hi) : Srt key ds lo' hi' := fun p q h3 h4 h5 => h p q (by omega) h4 (by omega)
theorem Srt.one (key : Nat → Nat) (ds : List Nat) (lo hi : Nat) (h : hi ≤ lo + 1) : Srt key ds lo hi := fun p q h1 h2 h3 => by omega
/-- Two sorted runs, the first not above the second. -/
theorem Srt.join {key : Nat → Nat} {ds : List Nat} {a m b : Nat} (h1 : Srt key ds a m) (h2 : Srt key ds m b) (hc : ∀ p q, a ≤ p → p < m → m ≤ q → q < b → key (ds.getD p 0) ≤ key (ds.getD q 0)) : Srt key ds a b := by
  intro p q hp hpq hq
  rcases Nat.lt_or_ge q m with h | h
  · exact h1 p q hp hpq h
  · rcases Nat.lt_or_ge p m with h9 | h9
    · exact hc p q hp h9 h hq
    · exact h2 p q h9 hpq hq
/-- A run whose segment has been put in order: the numbers of the segment are the same. -/
def All (P : Nat → Prop) (ds : List Nat) (lo hi : Nat) : Prop := ∀ p, lo ≤ p → p < hi → P (ds.getD p 0)
theorem mem_seg (ds : List Nat) (lo hi x : Nat) (hh : hi ≤ ds.length) : x ∈ (ds.take hi).drop lo ↔ ∃ p, lo ≤ p ∧ p < hi ∧ ds.getD p 0 = x := by
  constructor
  · intro hx
    obtain ⟨k, hk⟩ := List.mem_iff_getElem?.1 hx
    rw [List.getElem?_drop] at hk
    have hlt : lo + k < hi := by
      rcases Nat.lt_or_ge (lo + k) hi with h9 | h9
      · exact h9
      · rw [List.getElem?_eq_none (by rw [List.length_take]; omega)] at hk; cases hk
    rw [List.getElem?_take_of_lt hlt] at hk
    exact ⟨lo + k, by omega, hlt, by rw [List.getD_eq_getElem?_getD, hk]; rfl⟩
  · rintro ⟨p, h1, h2, rfl⟩
    refine List.mem_iff_getElem?.2 ⟨p - lo, ?_⟩
    rw [List.getElem?_drop, List.getElem?_take_of_lt (by omega), show lo + (p - lo) = p by omega, List.getD_eq_getElem?_getD, List.getElem?_eq_getElem (by omega)]; rfl
/-- If nothing outside a segment has been turned and the whole is a permutation, so is the segment. -/
theorem seg_perm {ds es : List Nat} {lo hi : Nat} (hs : Same ds es lo hi) (hp : es.Perm ds) (hl : lo ≤ hi) (hh : hi ≤ ds.length) : ((es.take hi).drop lo).Perm ((ds.take hi).drop lo) := by
  have e1 : es.take lo = ds.take lo := by
    refine list_eq_getD _ _ lo (by rw [List.length_take, ← hs.1]; omega) (by rw [List.length_take]; omega) fun i hi2 => ?_
    have := hs.2 i (.inl hi2)
    rw [List.getD_eq_getElem?_getD, List.getElem?_take_of_lt hi2, List.getD_eq_getElem?_getD (l := ds.take lo), List.getElem?_take_of_lt hi2]
    rw [List.getD_eq_getElem?_getD, List.getD_eq_getElem?_getD] at this; exact this
  have e2 : es.drop hi = ds.drop hi := by
    refine list_eq_getD _ _ (ds.length - hi) (by rw [List.length_drop, ← hs.1]) (by rw [List.length_drop]) fun i hi2 => ?_
    have := hs.2 (hi + i) (.inr (by omega))
    rw [List.getD_eq_getElem?_getD, List.getElem?_drop, List.getD_eq_getElem?_getD (l := ds.drop hi), List.getElem?_drop]
    rw [List.getD_eq_getElem?_getD, List.getD_eq_getElem?_getD] at this; exact this
  have h1 := parts_perm ds lo hi hi hh hl (Nat.le_refl _)
  have h2 := parts_perm es lo hi hi (by rw [← hs.1]; exact hh) hl (Nat.le_refl _)
  have n1 : (ds.take hi).drop hi = [] := List.drop_of_length_le (by rw [List.length_take]; omega)
  have n2 : (es.take hi).drop hi = [] := List.drop_of_length_le (by rw [List.length_take]; omega)
  rw [n1, List.nil_append] at h1
  rw [n2, List.nil_append, e1, e2] at h2
  rw [h1, h2] at hp
  have hp2 := (List.perm_append_left_iff _).1 hp
  exact (List.perm_append_right_iff _).1 hp2
theorem All.perm {P : Nat → Prop} {ds es : List Nat} {lo hi : Nat} (h : All P ds lo hi) (hs : Same ds es lo hi) (hp : es.Perm ds) (hl : lo ≤ hi) (hh : hi ≤ ds.length) : All P es lo hi := by
  intro p h1 h2
  have hm : es.getD p 0 ∈ (es.take hi).drop lo := (mem_seg es lo hi _ (by rw [← hs.1]; exact hh)).2 ⟨p, h1, h2, rfl⟩
  obtain ⟨q, hq1, hq2, e⟩ := (mem_seg ds lo hi _ hh).1 ((seg_perm hs hp hl hh).mem_iff.1 hm)
  rw [← e]; exact h q hq1 hq2
end Go.Proofs.YtdafdffmkjhhcaaDoor
namespace Go.Proofs.YtdafdffmkjhhcaaDoor
open Go.RowKit
set_option linter.unusedVariables false
set_option linter.unusedSimpArgs false
set_option maxRecDepth 100000

def xchg (ds : List Nat) (a b k : Nat) : List Nat := (List.range ds.length).map fun p =>
  ds.getD (if a ≤ p ∧ p < a + k then p - a + b else if b ≤ p ∧ p < b + k then p - b + a else p) 0
theorem xchg_len (ds : List Nat) (a b k : Nat) : (xchg ds a b k).length = ds.length := by simp [xchg]
theorem xchg_at (ds : List Nat) (a b k p : Nat) (hp : p < ds.length) : (xchg ds a b k).getD p 0 = ds.getD (if a ≤ p ∧ p < a + k then p - a + b else if b ≤ p ∧ p < b + k then p - b + a else p) 0 := getD_range_map _ _ _ hp
theorem xchg_zero (ds : List Nat) (a b : Nat) : xchg ds a b 0 = ds := by
  refine list_eq_getD _ _ ds.length (xchg_len _ _ _ _) rfl fun p hp => ?_
  rw [xchg_at _ _ _ _ _ hp, if_neg (by omega), if_neg (by omega)]
theorem xchg_next (ds : List Nat) (a b k : Nat) (hab : a + k < b) (hb : b + k < ds.length) :
    xchg ds a b (k + 1) = ((xchg ds a b k).set (a + k) ((xchg ds a b k).getD (b + k) 0)).set (b + k) ((xchg ds a b k).getD (a + k) 0) := by
  refine list_eq_getD _ _ ds.length (xchg_len _ _ _ _) (by rw [List.length_set, List.length_set, xchg_len]) fun p hp => ?_
  rw [getD_set _ _ _ _ (by rw [List.length_set, xchg_len]; exact hb), getD_set _ _ _ _ (by rw [xchg_len]; omega), xchg_at _ _ _ (k + 1) _ hp, xchg_at _ _ _ k (a + k) (by omega), xchg_at _ _ _ k (b + k) hb, xchg_at _ _ _ k p hp]
  by_cases h1 : p = b + k
  · subst h1
    rw [if_pos rfl, if_neg (by omega), if_pos (by omega), if_neg (by omega), if_neg (by omega)]
    congr 1; omega
  · rw [if_neg h1]
    by_cases h2 : p = a + k
    · subst h2
      rw [if_pos rfl, if_pos (by omega), if_neg (by omega), if_neg (by omega)]
      congr 1; omega
    · rw [if_neg h2]
      by_cases h3 : a ≤ p ∧ p < a + k
      · rw [if_pos h3, if_pos (by omega)]
      · rw [if_neg h3, if_neg (by omega)]
        by_cases h4 : b ≤ p ∧ p < b + k
        · rw [if_pos h4, if_pos (by omega)]
        · rw [if_neg h4, if_neg (by omega)]
theorem grown_drew {w w' : World} {row : Option Nat} (h : w.grownBy w' row) : w.grownBy w'.drew row := ⟨h.os, h.tape, h.output, h.size, h.block⟩
set_option maxHeartbeats 3200000 in
theorem swapRange_any (B g n c a b m : Nat) (ds : List Nat) (F : Value) (w : World) (h : Own 2 w B (some ⟨g, 0, none⟩) n c (ints ds)) (hab : a + m ≤ b) (hb : b + m ≤ n) (hn : n ≤ 1048576) :
    Calls Tryd.prog 186 #[.slice (some ⟨g, 0, none⟩) n c, .int .i64 (a : Int), .int .i64 (b : Int), .int .i64 (m : Int), F] w fun e w' => e = .returned (.tuple #[]) ∧ Own 2 w' B (some ⟨g, 0, none⟩) n c (ints (xchg ds a b m)) ∧ w.grownBy w' (some g) := by
  have hlen : ds.length = n := by have := h.len; rw [ints_len] at this; exact this
  have HL := Lib.hid hlen
  have mixed : Tryd.prog.follows .mixedOrders = true := by kernel_rfl
  clear hlen
  go_enter Tryd.func186, Tryd.ntmps186
  go_wp2
  go_loopw [10] (fun q wr => ∃ k : Nat, k ≤ m ∧ q = .int .i64 k ∧ Own 2 wr B (some ⟨g, 0, none⟩) n c (ints (xchg ds a b k)) ∧ w.grownBy wr (some g)) (fun q _ => m - (intOf q).toNat)
  case atStart => exact ⟨0, Nat.zero_le _, rfl, by rw [xchg_zero]; exact h, World.grownBy.refl _ _⟩
  case round =>
    obtain ⟨k, hk, rfl, ho, hg⟩ := hrel
    by_cases hlt : k < m
    · have hnext := xchg_next ds a b k (by omega) (by rw [HL.out]; omega)
      obtain ⟨ga, ea, _, hca, hfa, hseta⟩ := own_stored ho (k := a + k) (by omega)
      cases ea
      obtain ⟨gb, eb, _, hcb, hfb, _⟩ := own_stored ho (k := b + k) (by omega)
      cases eb
      have h1 := hseta ((xchg ds a b k).getD (b + k) 0)
      obtain ⟨gc, ec, _, _, _, hsetb⟩ := own_stored h1 (k := b + k) (by omega)
      cases ec
      have h2 := hsetb ((xchg ds a b k).getD (a + k) 0)
      rw [← hnext] at h2
      obtain ⟨X, hX⟩ : ∃ X, X = (xchg ds a b k).getD (a + k) 0 := ⟨_, rfl⟩
      obtain ⟨Y, hY⟩ : ∃ Y, Y = (xchg ds a b k).getD (b + k) 0 := ⟨_, rfl⟩
      rw [← hX] at hca h2
      rw [← hY] at hcb h2
      obtain ⟨p, hp⟩ : ∃ p, p = a + k := ⟨_, rfl⟩
      obtain ⟨q, hq⟩ : ∃ q, q = b + k := ⟨_, rfl⟩
      rw [← hp] at hca hfa h2
      rw [← hq] at hcb hfb h2
      have hpn : p < n := by omega
      have hqn : q < n := by omega
      have hne1 : ¬ p = q := by omega
      have hne2 : ¬ q = p := by omega
      have H2 := Lib.hid h2
      have hg2 := grown_drew (grown_set (grown_set hg p (.int .i64 (Y : Int))) q (.int .i64 (X : Int)))
      have HG2 := Lib.hid hg2
      have hw1 : IntKind.i64.wrap ((a : Int) + (k : Int)) = (p : Int) := by rw [IntKind.wrap_i64]; omega
      have hw2 : IntKind.i64.wrap ((b : Int) + (k : Int)) = (q : Int) := by rw [IntKind.wrap_i64]; omega
      have hz1 : (0 : Int) ≤ (p : Int) := Int.natCast_nonneg _
      have hz2 : (0 : Int) ≤ (q : Int) := Int.natCast_nonneg _
      have hz3 : (p : Int) < (n : Int) := Int.ofNat_lt.2 hpn
      have hz4 : (q : Int) < (n : Int) := Int.ofNat_lt.2 hqn
      have ht1 : ((p : Int)).toNat = p := by simp
      have ht2 : ((q : Int)).toNat = q := by simp
      clear hX hY hp hq hseta hsetb h1 h2 hnext hg2 ho hg
      go_wp2_with fail
      go_big_region_o
      clear hw1 hw2 hz1 hz2 hz3 hz4 ht1 ht2 hca hcb hfa hfb
      go_wp2_with fail
      go_roundw
      case rel => exact ⟨k + 1, by omega, by go_num, H2.out, HG2.out⟩
      case measure => simp [intOf]; omega
    · obtain rfl : k = m := by omega
      go_wp2_with fail
      exact bodyPost_end (results_none Tryd.results186 _ _ _) rfl ⟨rfl, ho, hg⟩
/-- Turning a segment by exchanging its ends. -/
theorem rot_longer (ds : List Nat) (a i j : Nat) (hb : a + i + j ≤ ds.length) (h : j < i) : rot (xchg ds a (a + i) j) (a + j) (a + i) (a + i + j) = rot ds a (a + i) (a + i + j) := by
  refine list_eq_getD _ _ ds.length (by rw [rot_len, xchg_len]) (rot_len _ _ _ _) fun p hp => ?_
  rw [rot_at _ _ _ _ _ (by rw [xchg_len]; exact hp), rot_at _ _ _ _ _ hp, xchg_at _ _ _ _ _ (by (repeat' split) <;> omega)]
  congr 1
  (repeat' split) <;> omega
theorem rot_shorter (ds : List Nat) (a i j : Nat) (hb : a + i + j ≤ ds.length) (h : i < j) : rot (xchg ds a (a + j) i) a (a + i) (a + j) = rot ds a (a + i) (a + i + j) := by
  refine list_eq_getD _ _ ds.length (by rw [rot_len, xchg_len]) (rot_len _ _ _ _) fun p hp => ?_
  rw [rot_at _ _ _ _ _ (by rw [xchg_len]; exact hp), rot_at _ _ _ _ _ hp, xchg_at _ _ _ _ _ (by (repeat' split) <;> omega)]
  congr 1
  (repeat' split) <;> omega
theorem rot_same_len (ds : List Nat) (a i : Nat) (hb : a + i + i ≤ ds.length) : xchg ds a (a + i) i = rot ds a (a + i) (a + i + i) := by
  refine list_eq_getD _ _ ds.length (xchg_len _ _ _ _) (rot_len _ _ _ _) fun p hp => ?_
  rw [rot_at _ _ _ _ _ hp, xchg_at _ _ _ _ _ hp]
  congr 1
  (repeat' split) <;> omega
set_option maxHeartbeats 3200000 in
theorem rotate_any (B g n c a m b : Nat) (ds : List Nat) (F : Value) (w : World) (h : Own 2 w B (some ⟨g, 0, none⟩) n c (ints ds)) (ham : a < m) (hmb : m < b) (hb : b ≤ n) (hn : n ≤ 1048576) :
    Calls Tryd.prog 184 #[.slice (some ⟨g, 0, none⟩) n c, .int .i64 (a : Int), .int .i64 (m : Int), .int .i64 (b : Int), F] w fun e w' => e = .returned (.tuple #[]) ∧ Own 2 w' B (some ⟨g, 0, none⟩) n c (ints (rot ds a m b)) ∧ w.grownBy w' (some g) := by
  have hlen : ds.length = n := by have := h.len; rw [ints_len] at this; exact this
  have HL := Lib.hid hlen
  clear hlen
  go_enter Tryd.func184, Tryd.ntmps184
  go_wp2_with fail
  go_loopw [10, 11] (fun p q wr => ∃ (i j : Nat) (es : List Nat), 0 < i ∧ 0 < j ∧ i ≤ m ∧ m + j ≤ n ∧ p = .int .i64 i ∧ q = .int .i64 j ∧ es.length = n ∧ Own 2 wr B (some ⟨g, 0, none⟩) n c (ints es) ∧ w.grownBy wr (some g) ∧ rot es (m - i) m (m + j) = rot ds a m b) (fun p q _ => (intOf p).toNat + (intOf q).toNat)
  case atStart => exact ⟨m - a, b - m, ds, by omega, by omega, by omega, by omega, by congr 1; omega, by congr 1; omega, HL.out, h, World.grownBy.refl _ _, by rw [show m - (m - a) = a by omega, show m + (b - m) = b by omega]⟩
  case round =>
    obtain ⟨i, j, es, hi, hj, him, hjn, rfl, rfl, hel, ho, hg, hr⟩ := hrel
    have HR := Lib.hid hr
    have HEL := Lib.hid hel
    clear hr hel h
    obtain ⟨s, hs⟩ : ∃ s, s = m - i := ⟨_, rfl⟩
    have hms : (m : Int) - (i : Int) = (s : Int) := by omega
    have HS : Hid (s + i = m) := Lib.hid (by omega)
    have hsm : s + i ≤ m := by omega
    rw [← hs] at HR
    clear hs
    by_cases hij : i = j
    · subst hij
      have hne : ((i : Int) != (i : Int)) = false := by simp
      have hend : xchg es s m i = rot ds a m b := by
        rw [← HR.out]
        have := rot_same_len es s i (by rw [HEL.out]; have := HS.out; omega)
        rw [HS.out] at this; exact this
      have hsw := swapRange_any B g n c s m i es F wr ho (by omega) (by omega) hn
      rw [hend] at hsw
      have HSW := Lib.hid hsw
      clear hend hsw
      go_wp2_with fail
      try rw [hms]
      refine HSW.out.mono ?_
      rintro e w2 ⟨rfl, ho2, hg2⟩
      go_wp2_with fail
      exact bodyPost_end (results_none Tryd.results184 _ _ _) rfl ⟨rfl, ho2, hg.trans hg2⟩
    · by_cases hlt : j < i
      · have hne : ((i : Int) != (j : Int)) = true := by simp; omega
        have hgt : decide (j < i) = true := decide_eq_true hlt
        have hend : rot (xchg es s m j) (s + j) m (m + j) = rot ds a m b := by
          rw [← HR.out]
          have := rot_longer es s i j (by rw [HEL.out]; have := HS.out; omega) hlt
          rw [HS.out] at this; exact this
        have hsw := swapRange_any B g n c s m j es F wr ho (by omega) (by omega) hn
        have HSW := Lib.hid hsw
        have HEND := Lib.hid hend
        clear hend hsw
        go_wp2_with fail
        try rw [hms]
        refine HSW.out.mono ?_
        rintro e w2 ⟨rfl, ho2, hg2⟩
        clear hms
        go_wp2_with fail
        go_roundw
        case rel => exact ⟨i - j, j, xchg es s m j, by omega, hj, by omega, hjn, by congr 1; omega, rfl, by rw [xchg_len]; exact HEL.out, ho2, hg.trans hg2, by rw [show m - (i - j) = s + j by have := HS.out; omega]; exact HEND.out⟩
        case measure => simp [intOf]; omega
      · have hne : ((i : Int) != (j : Int)) = true := by simp; omega
        have hgt : decide (j < i) = false := decide_eq_false hlt
        have hmj : (m : Int) + (j : Int) - (i : Int) = ((s + j : Nat) : Int) := by have := HS.out; omega
        have hend : rot (xchg es s (s + j) i) s m (m + (j - i)) = rot ds a m b := by
          rw [← HR.out]
          have := rot_shorter es s i j (by rw [HEL.out]; have := HS.out; omega) (by omega)
          rw [HS.out] at this
          rw [show m + (j - i) = s + j by have := HS.out; omega]; exact this
        have hsw := swapRange_any B g n c s (s + j) i es F wr ho (by omega) (by have := HS.out; omega) hn
        have HSW := Lib.hid hsw
        have HEND := Lib.hid hend
        have HMJ := Lib.hid hmj
        clear hend hsw hmj
        go_wp2_with fail
        try rw [HMJ.out]
        try rw [hms]
        refine HSW.out.mono ?_
        rintro e w2 ⟨rfl, ho2, hg2⟩
        clear hms
        go_wp2_with fail
        go_roundw
        case rel => exact ⟨i, j - i, xchg es s (s + j) i, hi, by omega, him, by omega, rfl, by congr 1; omega, by rw [xchg_len]; exact HEL.out, ho2, hg.trans hg2, by rw [show m - i = s by have := HS.out; omega]; exact HEND.out⟩
        case measure => simp [intOf]; omega
end Go.Proofs.YtdafdffmkjhhcaaDoor
namespace Go.Proofs.YtdafdffmkjhhcaaDoor
open Go.RowKit
set_option linter.unusedVariables false
set_option maxRecDepth 100000

/-- Reflexive and symmetric. -/
def Dep (rs : List Nat) : Prop := (∀ i, i < rs.length → R rs i i) ∧ ∀ i k, i < rs.length → k < rs.length → (R rs i k ↔ R rs k i)
def reflB (rs : List Nat) : Bool := (List.range rs.length).all fun i => (rs.getD i 0).testBit i
def depB (rs : List Nat) : Bool := reflB rs && decide (rs = convM rs)
theorem conv_R (rs : List Nat) (n : Nat) (hn : rs.length = n) (i b : Nat) (hi : i < n) : R (convM rs) i b ↔ b < n ∧ R rs b i := by
  unfold R
  rw [convM_at rs i (by omega), colM_bit, hn]; rfl
theorem depB_iff (rs : List Nat) (n : Nat) (hn : rs.length = n) (hr : ∀ i, rs.getD i 0 < 2 ^ n) : depB rs = true ↔ Dep rs := by
  unfold depB reflB Dep
  rw [Bool.and_eq_true, List.all_eq_true, decide_eq_true_eq]
  constructor
  · rintro ⟨h1, h2⟩
    refine ⟨fun i hi => h1 i (List.mem_range.2 hi), fun i k hi hk => ?_⟩
    have h3 := conv_R rs n hn i k (by omega)
    rw [← h2] at h3
    exact ⟨fun h => (h3.1 h).2, fun h => h3.2 ⟨by omega, h⟩⟩
  · rintro ⟨h1, h2⟩
    refine ⟨fun i hi => h1 i (List.mem_range.1 hi), ?_⟩
    refine masks_eq rs (convM rs) n hn (by rw [convM_len, hn]) hr (convM_lt rs n hn) fun i k hi hk => ?_
    show R rs i k ↔ R (convM rs) i k
    rw [conv_R rs n hn i k hi, h2 i k (by omega) (by omega)]
    exact ⟨fun h => ⟨hk, h⟩, fun h => h.2⟩
def alphB (L : Int) (xs : List Int) : Bool := decide (0 ≤ L ∧ L ≤ 8 ∧ (xs.length : Int) = L) && (relB xs && depB (xs.map Int.toNat))
theorem alphB_nats (L : Int) (xs : List Int) (n : Nat) (hl : xs.length = n) (h : alphB L xs = true) :
    ∃ rs, xs = ints rs ∧ L = (n : Int) ∧ n ≤ 8 ∧ (∀ i, rs.getD i 0 < 2 ^ n) ∧ relB (ints rs) = true ∧ rs.length = n ∧ depB rs = true ∧ xs.map Int.toNat = rs := by
  unfold alphB at h
  rw [Bool.and_eq_true, Bool.and_eq_true, decide_eq_true_eq] at h
  obtain ⟨⟨h0, h8, hL⟩, hr, hd⟩ := h
  obtain ⟨h1, h2⟩ := clos_nats xs hr
  subst hl
  exact ⟨_, h1, hL.symm, by omega, h2, by rw [← h1]; exact hr, by rw [List.length_map], hd, rfl⟩
theorem alphB_L (L : Int) (xs : List Int) (h : ¬ (0 ≤ L ∧ L ≤ 8 ∧ (xs.length : Int) = L)) : alphB L xs = false := by
  unfold alphB; rw [decide_eq_false h]; rfl
theorem alphB_rel (L : Int) (xs : List Int) (h : relB xs = false) : alphB L xs = false := by
  unfold alphB; rw [h]; simp
theorem alphB_dep (L : Int) (rs : List Nat) (h : depB rs = false) : alphB L (ints rs) = false := by
  have e : (ints rs).map Int.toNat = rs := by
    unfold ints
    rw [List.map_map]
    have : (Int.toNat ∘ fun m : Nat => ((m : Nat) : Int)) = id := by funext m; simp
    rw [this, List.map_id]
  unfold alphB; rw [e, h]; simp
theorem ints_toNat (rs : List Nat) : (ints rs).map Int.toNat = rs := by
  unfold ints
  rw [List.map_map]
  have : (Int.toNat ∘ fun m : Nat => ((m : Nat) : Int)) = id := by funext m; simp
  rw [this, List.map_id]
theorem alphB_yes (n : Nat) (rs : List Nat) (hl : rs.length = n) (hn : n ≤ 8) (hr : relB (ints rs) = true) (hd : depB rs = true) : alphB (n : Int) (ints rs) = true := by
  unfold alphB
  rw [ints_toNat, hr, hd, ints_len, hl, decide_eq_true (by omega)]; rfl
theorem p8 (n : Nat) (h : n ≤ 8) : 2 ^ n ≤ 256 := Nat.pow_le_pow_right (by decide) h

/-! ### the complement -/
def cplRow (n s i : Nat) : Nat := dif (2 ^ n - 1) s ||| 2 ^ i
def cplM (rs : List Nat) : List Nat := (List.range rs.length).map fun i => cplRow rs.length (rs.getD i 0) i
theorem cplM_len (rs : List Nat) : (cplM rs).length = rs.length := by simp [cplM]
theorem cplM_at (rs : List Nat) (i : Nat) (h : i < rs.length) : (cplM rs).getD i 0 = cplRow rs.length (rs.getD i 0) i := getD_range_map _ _ _ h
theorem cplRow_bit (n s i b : Nat) (hn : n ≤ 24) (hs : s < 2 ^ n) (hi : i < n) : (cplRow n s i).testBit b = true ↔ b < n ∧ (¬ s.testBit b = true ∨ b = i) := by
  have := p24 n hn
  have := p2_pos n
  unfold cplRow
  rw [Nat.testBit_or, Bool.or_eq_true, dif_bit _ _ _ (by omega) (by omega), Nat.testBit_two_pow_sub_one, p2_bit]
  simp
  constructor
  · rintro (⟨h1, h2⟩ | h)
    · exact ⟨h1, .inl h2⟩
    · exact ⟨by omega, .inr h.symm⟩
  · rintro ⟨h1, h2 | h⟩
    · exact .inl ⟨h1, h2⟩
    · exact .inr h.symm
theorem cplRow_lt (n s i : Nat) (hn : n ≤ 24) (hs : s < 2 ^ n) (hi : i < n) : cplRow n s i < 2 ^ n := by
  unfold cplRow
  refine Nat.or_lt_two_pow ?_ (Nat.pow_lt_pow_right (by decide) hi)
  have := dif_le (2 ^ n - 1) s
  have := p2_pos n
  omega
theorem cplM_lt (rs : List Nat) (n : Nat) (hn : rs.length = n) (h24 : n ≤ 24) (hr : ∀ i, rs.getD i 0 < 2 ^ n) (i : Nat) : (cplM rs).getD i 0 < 2 ^ n := by
  rcases Nat.lt_or_ge i n with h | h
  · rw [cplM_at rs i (by omega), hn]; exact cplRow_lt n _ i h24 (hr i) h
  · rw [getD_past _ n i (by rw [cplM_len, hn]) h]; exact p2_pos n
theorem cpl_R (rs : List Nat) (n : Nat) (hn : rs.length = n) (h24 : n ≤ 24) (hr : ∀ i, rs.getD i 0 < 2 ^ n) (i b : Nat) (hi : i < n) : R (cplM rs) i b ↔ b < n ∧ (¬ R rs i b ∨ b = i) := by
  unfold R
  rw [cplM_at rs i (by omega), hn]
  exact cplRow_bit n _ i b h24 (hr i) hi
/-- The model's row: what is left of the full set, and the letter again. -/
theorem cplRow_sub (n s i : Nat) (hn : n ≤ 8) (hs : s < 2 ^ n) (hi : i < n) (hb : s.testBit i = true) : 2 ^ n - 1 - s + 2 ^ i = cplRow n s i := by
  have hs2 : s < 256 := by have := p8 n hn; omega
  have key : ((List.range 9).all fun n => (List.range 8).all fun i => (List.range 256).all fun s => !decide (s < 2 ^ n) || !decide (i < n) || !s.testBit i || (2 ^ n - 1 - s + 2 ^ i == cplRow n s i)) = true := by decide +kernel
  have k1 := List.all_eq_true.1 key n (List.mem_range.2 (by omega))
  have k2 := List.all_eq_true.1 k1 i (List.mem_range.2 (by omega))
  have k3 := List.all_eq_true.1 k2 s (List.mem_range.2 hs2)
  rw [decide_eq_true hs, decide_eq_true hi, hb] at k3
  simpa using k3
/-- The complement is a dependence. -/
theorem cpl_dep (rs : List Nat) (n : Nat) (hn : rs.length = n) (h24 : n ≤ 24) (hr : ∀ i, rs.getD i 0 < 2 ^ n) (hd : Dep rs) : Dep (cplM rs) := by
  unfold Dep
  rw [cplM_len, hn]
  refine ⟨fun i hi => (cpl_R rs n hn h24 hr i i hi).2 ⟨hi, .inr rfl⟩, fun i k hi hk => ?_⟩
  rw [cpl_R rs n hn h24 hr i k hi, cpl_R rs n hn h24 hr k i hk, hd.2 i k (by omega) (by omega)]
  constructor
  · rintro ⟨_, h | h⟩
    · exact ⟨hi, .inl h⟩
    · exact ⟨hi, .inr h.symm⟩
  · rintro ⟨_, h | h⟩
    · exact ⟨hk, .inl h⟩
    · exact ⟨hk, .inr h.symm⟩

/-! ### transitive exchanges -/
def Tri (rs : List Nat) : Prop := ∀ a b c, a < rs.length → b < rs.length → c < rs.length → ¬ (a ≠ c ∧ ¬ R rs a b ∧ ¬ R rs b c ∧ R rs a c)
theorem tri_iff (rs : List Nat) (n : Nat) (hn : rs.length = n) (h24 : n ≤ 24) (hr : ∀ i, rs.getD i 0 < 2 ^ n) : cplM rs = closM (cplM rs) ↔ Tri rs := by
  obtain ⟨us, hu⟩ : ∃ us, us = cplM rs := ⟨_, rfl⟩
  have hul : us.length = n := by rw [hu, cplM_len, hn]
  have hult : ∀ i, us.getD i 0 < 2 ^ n := by rw [hu]; exact cplM_lt rs n hn h24 hr
  have hUR : ∀ i b, i < n → (R us i b ↔ b < n ∧ (¬ R rs i b ∨ b = i)) := by rw [hu]; exact fun i b hi => cpl_R rs n hn h24 hr i b hi
  rw [← hu]
  unfold Tri
  rw [hn]
  have hcl : ∀ i, i < n → ∀ b, ((closM us).getD i 0).testBit b = true ↔ RT us i b := fun i hi b => by
    rw [closM_at us i (by omega), hul]; exact reachM_bit us n i hul hult hi b
  constructor
  · rintro he a b c ha hb hc ⟨h1, h2, h3, h4⟩
    have hab : R us a b := (hUR a b ha).2 ⟨hb, .inl h2⟩
    have hbc : R us b c := (hUR b c hb).2 ⟨hc, .inl h3⟩
    have hac : R us a c := by
      unfold R
      rw [he, hcl a ha]
      exact ((RT.refl a).step hab).step hbc
    rcases ((hUR a c ha).1 hac).2 with h | h
    · exact h h4
    · exact h1 h.symm
  · intro ht
    refine masks_eq us (closM us) n hul (by rw [closM_len, hul]) hult (fun i => ?_) fun i k hi hk => ?_
    · rcases Nat.lt_or_ge i n with h1 | h1
      · rw [closM_at us i (by omega), hul]; exact reachM_lt us n i n hult h1
      · rw [getD_past _ n i (by rw [closM_len, hul]) h1]; exact p2_pos n
    · rw [hcl i hi]
      constructor
      · intro h1; exact (RT.refl i).step h1
      · intro h1
        show R us i k
        clear hk
        induction h1 with
        | refl => exact (hUR i i hi).2 ⟨hi, .inr rfl⟩
        | step h1 h2 ih =>
          rename_i j k
          have hj := RT.lt hult hi h1
          have hk := bit_lt (hult j) h2
          have h2' := (hUR j k hj).1 h2
          have h1' := (hUR i j hi).1 ih
          refine (hUR i k hi).2 ⟨hk, ?_⟩
          apply Classical.byContradiction
          intro hno
          have hik : k ≠ i := fun e => hno (.inr e)
          have hR : R rs i k := Classical.byContradiction fun e => hno (.inl e)
          rcases h1'.2 with e1 | e1
          · rcases h2'.2 with e2 | e2
            · exact ht i j k hi hj hk ⟨fun e => hik e.symm, e1, e2, hR⟩
            · subst e2; exact e1 hR
          · subst e1
            rcases h2'.2 with e2 | e2
            · exact e2 hR
            · exact hik e2
end Go.Proofs.YtdafdffmkjhhcaaDoor
namespace Go.Proofs.YtdafdffmkjhhcaaDoor
open Go.RowKit
set_option linter.unusedVariables false
set_option maxRecDepth 100000

/-- A variable that holds an alphabet. -/
def Box (T : TypeId) (w : World) (g : Nat) (L : Int) (A : Option Addr) (n c : Nat) : Prop :=
  w.heap[g]? = some (.cells #[.int .i64 L, .slice A n c] T (0, 0))
theorem Box.lt {T : TypeId} {w : World} {g : Nat} {L : Int} {A : Option Addr} {n c : Nat} (h : Box T w g L A n c) : g < w.heap.size := by
  rcases Nat.lt_or_ge g w.heap.size with h' | h'
  · exact h'
  · unfold Box at h; rw [Array.getElem?_eq_none h'] at h; cases h
theorem Box.c0 {T : TypeId} {w : World} {g : Nat} {L : Int} {A : Option Addr} {n c : Nat} (h : Box T w g L A n c) : w.cell? ⟨g, 0, none⟩ = some (.int .i64 L) := by
  unfold Box at h; simp [World.cell?, h]
theorem Box.c1 {T : TypeId} {w : World} {g : Nat} {L : Int} {A : Option Addr} {n c : Nat} (h : Box T w g L A n c) : w.cell? ⟨g, 1, none⟩ = some (.slice A n c) := by
  unfold Box at h; simp [World.cell?, h]
theorem Box.fr {T : TypeId} {w : World} {g : Nat} {L : Int} {A : Option Addr} {n c : Nat} (h : Box T w g L A n c) (k : Nat) : w.frozen? ⟨g, k, none⟩ = false := by
  unfold Box at h; simp [World.frozen?, h]
theorem Box.below {T : TypeId} {w w' : World} {g B : Nat} {L : Int} {A : Option Addr} {n c : Nat} (h : Box T w g L A n c) (hb : Below B w w') (hg : g < B) : Box T w' g L A n c := by
  unfold Box; rw [hb.block g hg]; exact h
theorem Box.next {T : TypeId} {w w' : World} {g : Nat} {L : Int} {A : Option Addr} {n c : Nat} (h : Box T w g L A n c) (hb : Below w.heap.size w w') : Box T w' g L A n c := h.below hb h.lt
theorem Box.apart {T : TypeId} {w w' : World} {g : Nat} {L : Int} {A : Option Addr} {n c : Nat} {row : Option Nat} (h : Box T w g L A n c) (hg : w.grownBy w' row) (hne : row ≠ some g) : Box T w' g L A n c := by
  unfold Box; rw [hg.block g h.lt (fun e => hne e.symm)]; exact h
theorem box_new (T : TypeId) (w : World) (L : Int) (A : Option Addr) (n c : Nat) : Box T (w.alloc (.cells #[.int .i64 L, .slice A n c] T)) w.heap.size L A n c := by
  unfold Box; exact heap_alloc_new w _

/-- What a function that answers an alphabet, or a list, and a code leaves. -/
def AlPost (w : World) (VL : Int) (VN : Nat) (VX : List Int) (C : Int) (e : Ending) (w' : World) : Prop :=
  ∃ A c, e = .returned (.tuple #[.agg #[.int .i64 VL, .slice A VN c], .int .i64 C]) ∧ Own 2 w' w.heap.size A VN c VX ∧ Below w.heap.size w w'
def LsPost (w : World) (VN : Nat) (VX : List Int) (C : Int) (e : Ending) (w' : World) : Prop :=
  ∃ A c, e = .returned (.tuple #[.slice A VN c, .int .i64 C]) ∧ Own 2 w' w.heap.size A VN c VX ∧ Below w.heap.size w w'
theorem heap_put {w : World} {g k : Nat} {cs : Array Value} {T : TypeId} (h : w.heap[g]? = some (.cells cs T (0, 0))) (v : Value) : (w.setCell ⟨g, k, none⟩ v).heap[g]? = some (.cells (cs.setIfInBounds k v) T (0, 0)) := by
  simp [World.setCell, Array.getElem?_modify, h]
theorem Box.set1 {T : TypeId} {w : World} {g : Nat} {L : Int} {A : Option Addr} {n c : Nat} (h : Box T w g L A n c) (A' : Option Addr) (n' c' : Nat) : Box T (w.setCell ⟨g, 1, none⟩ (.slice A' n' c')) g L A' n' c' := by
  unfold Box at h ⊢; rw [heap_put h]; rfl
theorem Box.set0 {T : TypeId} {w : World} {g : Nat} {L : Int} {A : Option Addr} {n c : Nat} (h : Box T w g L A n c) (L' : Int) : Box T (w.setCell ⟨g, 0, none⟩ (.int .i64 L')) g L' A n c := by
  unfold Box at h ⊢; rw [heap_put h]; rfl
theorem Box.set {T : TypeId} {w : World} {g : Nat} {L : Int} {A : Option Addr} {n c : Nat} (h : Box T w g L A n c) (L' : Int) (A' : Option Addr) (n' c' : Nat) : Box T ((w.setCell ⟨g, 0, none⟩ (.int .i64 L')).setCell ⟨g, 1, none⟩ (.slice A' n' c')) g L' A' n' c' := (h.set0 L').set1 A' n' c'
theorem Box.other {T : TypeId} {w : World} {g : Nat} {L : Int} {A : Option Addr} {n c : Nat} (h : Box T w g L A n c) (b k : Nat) (v : Value) (hne : g ≠ b) : Box T (w.setCell ⟨b, k, none⟩ v) g L A n c := by
  unfold Box; rw [Below.heap_setCell w _ v g (fun e => hne e)]; exact h
theorem own_other {E : TypeId} {w : World} {B : Nat} {A : Option Addr} {n c : Nat} {xs : List Int} (h : Own E w B A n c xs) (b k : Nat) (v : Value) (hne : ∀ q, A.map (·.block) = some q → q ≠ b) : Own E (w.setCell ⟨b, k, none⟩ v) B A n c xs :=
  h.apart (row := some b) (grown_set (World.grownBy.refl _ _) k v) (fun q hq e => hne q hq (by injection e with e; exact e.symm))
theorem ret_gen {P : Program} {fn : Func} {R : Ending → World → Prop} {a : Act} {W : World} (Q : World → Prop) (hq : Q W) (h : ∀ W, Q W → bodyPost P fn R .ret a W) : bodyPost P fn R .ret a W := h W hq
theorem sz1_any (A : Option Addr) (n c m : Nat) (w : World) (hn : n ≤ m) (hm : m ≤ 1048576) :
    Calls Tryd.prog 49 #[.slice A n c, .int .i64 (m : Int)] w fun e w' => e = .returned (.int .i64 ((m - n : Nat) : Int)) ∧ w = w' := by
  have h2 : wrap64 ((m : Int) - (n : Int)) = ((m - n : Nat) : Int) := by unfold wrap64; omega
  go_enter Tryd.func49, Tryd.ntmps49
  go_wp2
  go_ret
  exact ⟨ret_i _ _ (by omega), rfl⟩
theorem sz_any (L : Int) (A : Option Addr) (n c m : Nat) (w : World) (hn : n ≤ m) (hm : m ≤ 1048576) :
    Calls Tryd.prog 13 #[.agg #[.int .i64 L, .slice A n c], .int .i64 (m : Int)] w fun e w' => e = .returned (.int .i64 ((m - n : Nat) : Int)) ∧ Below w.heap.size w w' := by
  go_enter Tryd.func13, Tryd.ntmps13
  go_wp2_with fail
  refine (sz1_any _ _ _ _ _ hn hm).mono ?_
  rintro e w1 ⟨rfl, rfl⟩
  go_wp2
  go_ret
  exact ⟨rfl, (Below.refl _ _).alloc (Nat.le_refl _) _⟩
theorem sz_law (L : Int) (A : Option Addr) (n c : Nat) (w : World) (hn : n ≤ 1048576) :
    Calls Tryd.prog 13 #[.agg #[.int .i64 L, .slice A n c], .int .i64 1048576] w fun e w' => e = .returned (.int .i64 ((1048576 - n : Nat) : Int)) ∧ Below w.heap.size w w' :=
  sz_any L A n c 1048576 w hn (Nat.le_refl _)
theorem szno_any (L : Int) (A : Option Addr) (n c : Nat) (w : World) (hn : 1048576 < n) (hm : n ≤ 9223372036854775807) :
    Calls Tryd.prog 13 #[.agg #[.int .i64 L, .slice A n c], .int .i64 1048576] w fun e w' => e = .returned (.int .i64 (-1)) ∧ Below w.heap.size w w' := by
  have h2 : wrap64 ((1048576 : Int) - (n : Int)) = 1048576 - (n : Int) := by unfold wrap64; omega
  have h3 : Calls Tryd.prog 49 #[.slice A n c, .int .i64 1048576] (w.alloc (.cells #[.int .i64 L, .slice A n c] 24)) fun e w' => e = .returned (.int .i64 (-1)) ∧ (w.alloc (.cells #[.int .i64 L, .slice A n c] 24)) = w' := by
    go_enter Tryd.func49, Tryd.ntmps49
    go_wp2
    go_ret
    exact ⟨rfl, rfl⟩
  go_enter Tryd.func13, Tryd.ntmps13
  go_wp2_with fail
  refine h3.mono ?_
  rintro e w1 ⟨rfl, rfl⟩
  go_wp2
  go_ret
  exact ⟨rfl, (Below.refl _ _).alloc (Nat.le_refl _) _⟩
theorem toAl_any (L : Int) (A : Option Addr) (n c : Nat) (xs : List Int) (w : World) (h : Rd w A n xs) (hn : n ≤ 1048576) :
    Calls Tryd.prog 16 #[.agg #[.int .i64 L, .slice A n c]] w fun e w' => ∃ g c', e = .returned (.agg #[.int .i64 L, .slice (some ⟨g, 0, none⟩) n c']) ∧ w.heap.size ≤ g ∧ Own 2 w' w.heap.size (some ⟨g, 0, none⟩) n c' xs ∧ Below w.heap.size w w' := by
  go_enter Tryd.func16, Tryd.ntmps16
  go_wp2_with fail
  have hB3 : Below w.heap.size w (((w.alloc (.cells #[.int .i64 L, .slice A n c] 24)).alloc (.cells #[.int .i64 0, .slice none 0 0] 29)).alloc (.cells #[.int .i64 L, .slice none 0 0] 29)) := (((Below.refl _ _).alloc (Nat.le_refl _) _).alloc (by simp) _).alloc (by simp; omega) _
  refine (toInt_any _ _ _ xs _ (h.below hB3) hn).mono ?_
  rintro e w1 ⟨c', rfl, ho, hb⟩
  have x2 : Box 29 w1 (w.heap.size + 1 + 1) L none 0 0 := by
    have := (box_new 29 ((w.alloc (.cells #[.int .i64 L, .slice A n c] 24)).alloc (.cells #[.int .i64 0, .slice none 0 0] 29)) L none 0 0).next hb
    simpa using this
  have x1 : Box 29 w1 (w.heap.size + 1) 0 none 0 0 := by
    have := ((box_new 29 (w.alloc (.cells #[.int .i64 L, .slice A n c] 24)) 0 none 0 0).next ((Below.refl _ _).alloc (Nat.le_refl _) _)).next hb
    simpa using this
  have y0 := x2.c0
  have y1 := x2.c1
  have yf := x2.fr 1
  have z0 := x1.c0
  have z1 := x1.c1
  have zf0 := x1.fr 0
  have zf1 := x1.fr 1
  go_wp2
  have hs : ∀ w0 : World, w0 = (((w.alloc (.cells #[.int .i64 L, .slice A n c] 24)).alloc (.cells #[.int .i64 0, .slice none 0 0] 29)).alloc (.cells #[.int .i64 L, .slice none 0 0] 29)) → w0.heap.size = w.heap.size + 1 + 1 + 1 := by rintro _ rfl; simp
  rw [hs _ rfl] at ho
  refine ret_gen (fun W => Box 29 W (w.heap.size + 1) L (some ⟨w.heap.size + 1 + 1 + 1, 0, none⟩) n c' ∧ Own 2 W w.heap.size (some ⟨w.heap.size + 1 + 1 + 1, 0, none⟩) n c' xs ∧ Below w.heap.size w W) ⟨(x1.other _ _ _ (by omega)).set _ _ _ _, ?_, ?_⟩ ?_
  · exact own_other (own_other (own_other (ho.mono (by omega)) _ _ _ (by intro q hq; cases hq; show ¬ w.heap.size + 1 + 1 + 1 = _; omega)) _ _ _ (by intro q hq; cases hq; show ¬ w.heap.size + 1 + 1 + 1 = _; omega)) _ _ _ (by intro q hq; cases hq; show ¬ w.heap.size + 1 + 1 + 1 = _; omega)
  · exact (((hB3.trans (hb.mono hB3.size)).setCell (p := ⟨w.heap.size + 1 + 1, 1, none⟩) (by show w.heap.size ≤ w.heap.size + 1 + 1; omega) _).setCell (p := ⟨w.heap.size + 1, 0, none⟩) (by show w.heap.size ≤ w.heap.size + 1; omega) _).setCell (p := ⟨w.heap.size + 1, 1, none⟩) (by show w.heap.size ≤ w.heap.size + 1; omega) _
  · rintro W ⟨x, o, b⟩
    have e0 := x.c0
    have e1 := x.c1
    exact bodyPost_ret (v := .agg #[.int .i64 L, .slice (some ⟨w.heap.size + 1 + 1 + 1, 0, none⟩) n c']) (by simp [results, Tryd.results16, go_sem, e0, e1]) rfl ⟨_, _, rfl, by omega, o, b⟩
theorem grown_any {w w' : World} (h : w.grownBy w' none) (row : Option Nat) : w.grownBy w' row := ⟨h.os, h.tape, h.output, h.size, fun k hk _ => h.block k hk (by simp)⟩
theorem below1 (w : World) (o1 : Obj) : Below w.heap.size w (w.alloc o1) := (Below.refl _ _).alloc (Nat.le_refl _) o1
theorem below2 (w : World) (o1 o2 : Obj) : Below w.heap.size w ((w.alloc o1).alloc o2) := (below1 w o1).alloc (by simp) o2
theorem eqAl_true (L : Int) (A B : Option Addr) (n c d : Nat) (xs : List Int) (w : World) (h : Rd w A n xs) (h2 : Rd w B n xs) (hn : n ≤ 9223372036854775807) :
    Calls Tryd.prog 19 #[.agg #[.int .i64 L, .slice A n c], .agg #[.int .i64 L, .slice B n d]] w fun e w' => e = .returned (.bool true) ∧ Below w.heap.size w w' := by
  have hB := below2 w (.cells #[.int .i64 L, .slice A n c] 29) (.cells #[.int .i64 L, .slice B n d] 29)
  go_enter Tryd.func19, Tryd.ntmps19
  go_wp2_with fail
  refine (eq_true _ _ _ _ _ xs _ (h.below hB) (h2.below hB) hn).mono ?_
  rintro e w1 ⟨rfl, hb⟩
  go_wp2
  go_ret
  exact ⟨rfl, hB.trans (hb.mono hB.size)⟩
theorem markAl_any (E B : Nat) (L : Int) (A : Option Addr) (n c k : Nat) (xs : List Int) (w : World) (h : Own E w B A n c xs) (hn : n ≤ 1048576) (hk : k ≤ 1073741824) :
    Calls Tryd.prog 25 #[.agg #[.int .i64 L, .slice A n c], .int .i64 (k : Int)] w fun e w' => e = .returned (.int .i64 ((k + n : Nat) : Int)) ∧ Own E w' B A n c (marks k n) ∧ w.grownBy w' (A.map (·.block)) := by
  have hB := below1 w (.cells #[.int .i64 L, .slice A n c] 29)
  go_enter Tryd.func25, Tryd.ntmps25
  go_wp2_with fail
  refine (mark_any E B _ _ _ k xs _ (h.below hB) hn hk).mono ?_
  rintro e w1 ⟨rfl, ho, hg⟩
  go_wp2
  go_ret
  exact ⟨rfl, ho, (grown_any (grownBy_of_below hB) _).trans hg⟩
end Go.Proofs.YtdafdffmkjhhcaaDoor
namespace Go.Proofs.YtdafdffmkjhhcaaDoor
open Go.RowKit
set_option linter.unusedVariables false
set_option maxRecDepth 100000

theorem isNum_any (L : Int) (w : World) : Calls Tryd.prog 141 #[.int .i64 L] w fun e w' => e = .returned (.bool (decide (0 ≤ L ∧ L ≤ 8))) ∧ w = w' := by
  by_cases h1 : 0 ≤ L
  · by_cases h2 : L ≤ 8
    · go_enter Tryd.func141, Tryd.ntmps141
      go_wp2
      go_ret
      exact ⟨ret_b _ _ (by rw [decide_eq_true ⟨h1, h2⟩]), rfl⟩
    · go_enter Tryd.func141, Tryd.ntmps141
      go_wp2
      go_ret
      exact ⟨ret_b _ _ (by symm; simp; omega), rfl⟩
  · go_enter Tryd.func141, Tryd.ntmps141
    go_wp2
    go_ret
    exact ⟨ret_b _ _ (by symm; simp; omega), rfl⟩
theorem all_range_next (p : Nat → Bool) (k : Nat) : (List.range (k + 1)).all p = ((List.range k).all p && p k) := by
  rw [List.range_succ, List.all_append]; simp
theorem all_range_no (p : Nat → Bool) (n k : Nat) (hk : k < n) (h : p k = false) : (List.range n).all p = false := by
  rw [Bool.eq_false_iff]
  intro e
  have := List.all_eq_true.1 e k (List.mem_range.2 hk)
  rw [h] at this; cases this
theorem same_ints (rs cs : List Nat) : sameB (ints rs) (ints cs) = decide (rs = cs) := by
  unfold sameB
  rw [decide_eq_decide]; exact ints_inj rs cs
set_option maxHeartbeats 800000 in
theorem isDep_any (A : Option Addr) (n c : Nat) (rs : List Nat) (w : World) (h : Rd w A n (ints rs)) (hn : n ≤ 24) (hr : ∀ i, rs.getD i 0 < 2 ^ n) (hT : Tab w) :
    Calls Tryd.prog 142 #[.slice A n c] w fun e w' => e = .returned (.bool (depB rs)) ∧ Below w.heap.size w w' := by
  have hlen : rs.length = n := by have := h.1; rw [ints_len] at this; exact this
  have HL := Lib.hid hlen
  clear hlen
  have hn2 : n ≤ 9223372036854775807 := by omega
  go_enter Tryd.func142, Tryd.ntmps142
  go_wp2
  go_loop [7] (fun q => ∃ k : Nat, k ≤ n ∧ q = .int .i64 k ∧ (List.range k).all (fun i => (rs.getD i 0).testBit i) = true) (fun q => n - (intOf q).toNat)
  case atStart => exact ⟨0, Nat.zero_le _, rfl, rfl⟩
  case round =>
    obtain ⟨k, hk, rfl, hall⟩ := hrel
    have HA := Lib.hid hall
    clear hall
    by_cases hlt : k < n
    · obtain ⟨b, off, x, rfl, hbs, hx, hcx⟩ := h.at_ hlt
      have hx2 := ints_getD rs k (by rw [HL.out]; exact hlt)
      rw [hx2] at hx
      injection hx with hx
      subst hx
      have hm := lt63 hn (hr k)
      have hk62 : k ≤ 62 := by omega
      obtain ⟨D, hD⟩ : ∃ D, D = rs.getD k 0 := ⟨_, rfl⟩
      rw [← hD] at hcx hm
      have HD := Lib.hid hD
      clear hx2 hD
      cases hb : D.testBit k
      · have HB := Lib.hid hb
        clear hb
        go_wp2_with fail
        refine (has_any D k hm hk62 _).mono ?_
        rintro e w' ⟨rfl, rfl⟩
        rw [HB.out]
        go_wp2
        go_ret
        refine ⟨ret_b _ _ ?_, Below.refl _ _⟩
        unfold depB reflB
        rw [HL.out, all_range_no _ n k hlt (by rw [← HD.out]; exact HB.out)]; rfl
      · have HB := Lib.hid hb
        clear hb
        go_wp2_with fail
        refine (has_any D k hm hk62 _).mono ?_
        rintro e w' ⟨rfl, rfl⟩
        rw [HB.out]
        go_wp2
        go_round
        case rel => exact ⟨k + 1, by omega, by go_num, by rw [all_range_next, HA.out, ← HD.out, HB.out]; rfl⟩
        case measure => simp [intOf]; omega
    · obtain rfl : k = n := by omega
      go_wp2_with fail
      refine (converse_any A k c rs _ h hn hr hT).mono ?_
      rintro e w1 ⟨A1, c1, rfl, ho1, hb1⟩
      go_wp2_with fail
      refine (equal_any _ _ _ _ _ _ _ _ (h.below hb1) ho1.rd hn2).mono ?_
      rintro e w2 ⟨rfl, hb2⟩
      go_wp2
      go_ret
      refine ⟨ret_b _ _ ?_, hb1.trans (hb2.mono hb1.size)⟩
      rw [same_ints]
      unfold depB reflB
      rw [HL.out, HA.out]; rfl
set_option maxHeartbeats 800000 in
theorem dependenceOf_yes (L : Int) (A : Option Addr) (n c : Nat) (rs : List Nat) (w : World) (h : Rd w A n (ints rs)) (hwf : Wf (ints rs)) (hn : n ≤ 8) (hL : L = (n : Int)) (hr : ∀ i, rs.getD i 0 < 2 ^ n) (hrel : relB (ints rs) = true) (hd : depB rs = true) (hT : Tab w) :
    Calls Tryd.prog 93 #[.agg #[.int .i64 L, .slice A n c]] w fun e w' => ∃ A c, e = .returned (.tuple #[.slice A n c, .bool true]) ∧ Own 77 w' w.heap.size A n c (ints rs) ∧ Below w.heap.size w w' := by
  subst hL
  have HB := Lib.hid (below1 w (.cells #[.int .i64 (n : Int), .slice A n c] 29))
  have hn2 : n ≤ 9223372036854775807 := by omega
  have h24 : n ≤ 24 := by omega
  have HR := Lib.hid hrel
  have HD := Lib.hid hd
  have HN := Lib.hid (decide_eq_true (show (0 : Int) ≤ (n : Int) ∧ (n : Int) ≤ 8 by omega))
  have hh := h.below HB.out
  have x0 := box_new 29 w (n : Int) A n c
  clear hrel hd
  go_enter Tryd.func93, Tryd.ntmps93
  go_wp2_with fail
  refine (relationOf_yes _ _ _ _ _ hh hwf hn2 HR.out).mono ?_
  rintro e w1 ⟨A1, c1, rfl, ho1, hb1⟩
  have x1 := x0.next hb1
  have y0 := x1.c0
  have hT1 := (hT.below HB.out).below hb1
  have HBB := Lib.hid (HB.out.trans (hb1.mono HB.out.size))
  have HO := Lib.hid (ho1.mono HB.out.size)
  have hrd := ho1.rd
  clear ho1 hb1 x0 x1 hh h
  go_wp2_with fail
  refine (isNum_any _ _).mono ?_
  rintro e w' ⟨rfl, rfl⟩
  rw [HN.out]
  go_wp2_with fail
  refine (isDep_any _ _ _ rs _ hrd h24 hr hT1).mono ?_
  rintro e w2 ⟨rfl, hb2⟩
  rw [HD.out]
  go_wp2_with fail
  go_ret2
  exact ⟨A1, c1, rfl, HO.out.below hb2, HBB.out.trans (hb2.mono HBB.out.size)⟩
set_option maxHeartbeats 800000 in
theorem dependenceOf_no (L : Int) (A : Option Addr) (n c : Nat) (xs : List Int) (w : World) (h : Rd w A n xs) (hwf : Wf xs) (hL1 : -9223372036854775808 ≤ L) (hL2 : L ≤ 9223372036854775807) (hn : n ≤ 9223372036854775807) (ha : alphB L xs = false) (hT : Tab w) :
    Calls Tryd.prog 93 #[.agg #[.int .i64 L, .slice A n c]] w fun e w' => e = .returned (.tuple #[.slice none 0 0, .bool false]) ∧ Below w.heap.size w w' := by
  have HB := Lib.hid (below1 w (.cells #[.int .i64 L, .slice A n c] 29))
  have HA := Lib.hid ha
  have hh := h.below HB.out
  have x0 := box_new 29 w L A n c
  clear ha
  cases hrel : relB xs
  · have HR := Lib.hid hrel
    clear hrel
    go_enter Tryd.func93, Tryd.ntmps93
    go_wp2_with fail
    refine (relationOf_no _ _ _ _ _ hh hwf hn HR.out).mono ?_
    rintro e w1 ⟨rfl, hb1⟩
    go_wp2_with fail
    go_ret2
    exact ⟨rfl, HB.out.trans (hb1.mono HB.out.size)⟩
  · have HR := Lib.hid hrel
    clear hrel
    obtain ⟨hx1, hx2⟩ := clos_nats xs HR.out
    have hlen := h.1
    by_cases hL : 0 ≤ L ∧ L ≤ 8
    · have HN := Lib.hid (decide_eq_true hL)
      go_enter Tryd.func93, Tryd.ntmps93
      go_wp2_with fail
      refine (relationOf_yes _ _ _ _ _ hh hwf hn HR.out).mono ?_
      rintro e w1 ⟨A1, c1, rfl, ho1, hb1⟩
      have x1 := x0.next hb1
      have y0 := x1.c0
      have hT1 := (hT.below HB.out).below hb1
      have HBB := Lib.hid (HB.out.trans (hb1.mono HB.out.size))
      have hrd := ho1.rd
      clear ho1 hb1 x0 x1 hh h
      go_wp2_with fail
      refine (isNum_any _ _).mono ?_
      rintro e w' ⟨rfl, rfl⟩
      rw [HN.out]
      clear HN
      by_cases hnl : (n : Int) = L
      · subst hnl
        have h24 : n ≤ 24 := by omega
        rw [hlen] at hx2
        obtain ⟨rs, hrs⟩ : ∃ rs, rs = xs.map Int.toNat := ⟨_, rfl⟩
        rw [← hrs] at hx1 hx2
        subst hx1
        have hd : depB rs = false := by
          cases hd : depB rs
          · rfl
          · have h1 := alphB_yes n rs (by rw [← ints_len]; exact hlen) (by omega) HR.out hd
            rw [HA.out] at h1; cases h1
        have HD := Lib.hid hd
        clear hd hlen hL hrs
        go_wp2_with fail
        refine (isDep_any _ _ _ rs _ hrd h24 hx2 hT1).mono ?_
        rintro e w2 ⟨rfl, hb2⟩
        rw [HD.out]
        go_wp2_with fail
        go_ret2
        exact ⟨rfl, HBB.out.trans (hb2.mono HBB.out.size)⟩
      · have hnl2 : ((n : Int) != L) = true := by simpa using hnl
        go_wp2_with fail
        go_ret2
        exact ⟨rfl, HBB.out⟩
    · have HN := Lib.hid (decide_eq_false hL)
      go_enter Tryd.func93, Tryd.ntmps93
      go_wp2_with fail
      refine (relationOf_yes _ _ _ _ _ hh hwf hn HR.out).mono ?_
      rintro e w1 ⟨A1, c1, rfl, ho1, hb1⟩
      have x1 := x0.next hb1
      have y0 := x1.c0
      have HBB := Lib.hid (HB.out.trans (hb1.mono HB.out.size))
      clear ho1 hb1 x0 x1 hh h
      go_wp2_with fail
      refine (isNum_any _ _).mono ?_
      rintro e w' ⟨rfl, rfl⟩
      rw [HN.out]
      go_wp2_with fail
      go_ret2
      exact ⟨rfl, HBB.out⟩
theorem bitq_is (m k : Nat) (v : Bool) (h : m.testBit k = v) (hm : m < 9223372036854775808) (hk : k ≤ 62) (w : World) (j : Nat) :
    Calls Tryd.prog 79 #[.int .i64 (m : Int), .int .i64 (k : Int)] (w.drewN j) fun e w'' => e = .returned (.bool v) ∧ ∃ m', w'' = w.drewN m' := bit_is m k v h hm hk w j
theorem dep_false (rs : List Nat) (n : Nat) (hn : rs.length = n) (hr : ∀ i, rs.getD i 0 < 2 ^ n) (h : ¬ Dep rs) : depB rs = false := by
  rw [Bool.eq_false_iff]; intro e; exact h ((depB_iff rs n hn hr).1 e)
set_option maxHeartbeats 1600000 in
theorem l02Is_rel (A : Option Addr) (n c : Nat) (rs : List Nat) (w : World) (h : Rd w A n (ints rs)) (hn : n ≤ 8) (hr : ∀ i, rs.getD i 0 < 2 ^ n) (hrel : relB (ints rs) = true) :
    Calls Tryd.prog 58 #[.agg #[.int .i64 (n : Int), .slice A n c]] w fun e w' => e = .returned (.bool (depB rs)) ∧ Below w.heap.size w w' := by
  have hlen : rs.length = n := by have := h.1; rw [ints_len] at this; exact this
  have h24 : n ≤ 24 := by omega
  have hn62 : n ≤ 62 := by omega
  have hn2 : n ≤ 9223372036854775807 := by omega
  have hin : inFull n (ints rs) = true := by
    unfold inFull
    rw [all_mask _ n h24]
    unfold relB at hrel
    rw [Bool.and_eq_true, ints_len, hlen] at hrel
    exact hrel.2
  have HYES := Lib.hid (fun hd : Dep rs => (depB_iff rs n hlen hr).2 hd)
  have HNO := Lib.hid (fun hd : ¬ Dep rs => dep_false rs n hlen hr hd)
  have HL := Lib.hid hlen
  have HI := Lib.hid hin
  have HB := Lib.hid (below1 w (.cells #[.int .i64 (n : Int), .slice A n c] 29))
  have hh := h.below HB.out
  have x0 := box_new 29 w (n : Int) A n c
  clear hlen hin hrel
  go_enter Tryd.func58, Tryd.ntmps58
  go_wp2_with fail
  refine (in_true _ _ _ (by omega) _).mono ?_
  rintro e w' ⟨rfl, rfl⟩
  go_wp2_with fail
  refine (masks_any n hn62 _ _ _ _ _ hh hn2).mono ?_
  rintro e w1 ⟨rfl, hb1⟩
  rw [HI.out]
  have x1 := x0.next hb1
  have HB1 := Lib.hid (HB.out.trans (hb1.mono HB.out.size))
  go_wp2_with fail
  go_loopw [3] (fun i wr => ∃ k : Nat, k ≤ n ∧ i = .int .i64 k ∧ Below w1.heap.size w1 wr ∧ ∀ a, a < k → R rs a a ∧ ∀ b, b < n → (R rs a b ↔ R rs b a)) (fun i _ => n - (intOf i).toNat)
  case atStart => exact ⟨0, Nat.zero_le _, rfl, Below.refl _ _, fun a ha => absurd ha (Nat.not_lt_zero _)⟩
  case round =>
    obtain ⟨k, hk, rfl, hb, hall⟩ := hrel
    have HA := Lib.hid hall
    clear hall
    have y0 := (x1.next hb).c0
    have y1 := (x1.next hb).c1
    by_cases hlt : k < n
    · obtain ⟨b, off, x, rfl, hbs, hx, hcx⟩ := ((hh.below hb1).below hb).at_ hlt
      have hx2 := ints_getD rs k (by rw [HL.out]; exact hlt)
      rw [hx2] at hx
      injection hx with hx
      subst hx
      have hm := lt63 h24 (hr k)
      have hk62 : k ≤ 62 := by omega
      obtain ⟨D, hD⟩ : ∃ D, D = rs.getD k 0 := ⟨_, rfl⟩
      rw [← hD] at hcx hm
      have HD := Lib.hid hD
      clear hx2 hD
      cases hbt : D.testBit k
      · have HT := Lib.hid hbt
        clear hbt
        go_wp2_with fail
        refine (bit_any D k hm hk62 _).mono ?_
        rintro e w' ⟨rfl, rfl⟩
        rw [HT.out]
        go_wp2_with fail
        go_ret
        refine ⟨ret_b _ _ ?_, HB1.out.trans (hb.mono HB1.out.size)⟩
        symm
        refine HNO.out fun hd => ?_
        have := hd.1 k (by rw [HL.out]; exact hlt)
        unfold R at this
        rw [← HD.out, HT.out] at this; cases this
      · have HT := Lib.hid hbt
        clear hbt
        go_wp2_with fail
        refine (bit_any D k hm hk62 _).mono ?_
        rintro e w' ⟨rfl, rfl⟩
        rw [HT.out]
        obtain ⟨wo, rfl⟩ : ∃ wo : World, wo = wr := ⟨_, rfl⟩
        go_wp2_with fail
        go_loopw [4] (fun i wr => ∃ t : Nat, t ≤ n ∧ i = .int .i64 t ∧ Below w1.heap.size w1 wr ∧ ∀ b, b < t → (R rs k b ↔ R rs b k)) (fun i _ => n - (intOf i).toNat)
        case atStart => exact ⟨0, Nat.zero_le _, rfl, hb, fun a ha => absurd ha (Nat.not_lt_zero _)⟩
        case round =>
          clear y0 y1 hcx hb
          obtain ⟨t, ht, rfl, hb, hall2⟩ := hrel
          have HA2 := Lib.hid hall2
          clear hall2
          have y0 := (x1.next hb).c0
          have y1 := (x1.next hb).c1
          by_cases hlt2 : t < n
          · obtain ⟨b', off', x', e9, hbs', hx', hcx'⟩ := ((hh.below hb1).below hb).at_ hlt2
            cases e9
            obtain ⟨b9, off9, x, e9, hbs9, hx, hcx⟩ := ((hh.below hb1).below hb).at_ hlt
            cases e9
            have hx2 := ints_getD rs k (by rw [HL.out]; exact hlt)
            rw [hx2, ← HD.out] at hx
            injection hx with hx
            subst hx
            have hx2' := ints_getD rs t (by rw [HL.out]; exact hlt2)
            rw [hx2'] at hx'
            injection hx' with hx'
            subst hx'
            have hm' := lt63 h24 (hr t)
            have ht62 : t ≤ 62 := by omega
            obtain ⟨D', hD'⟩ : ∃ D', D' = rs.getD t 0 := ⟨_, rfl⟩
            rw [← hD'] at hcx' hm'
            have HD' := Lib.hid hD'
            clear hx2 hx2' hD'
            obtain ⟨p, hp⟩ : ∃ p, p = D.testBit t := ⟨_, rfl⟩
            obtain ⟨q, hq⟩ : ∃ q, q = D'.testBit k := ⟨_, rfl⟩
            have HP := Lib.hid hp
            have HQ := Lib.hid hq
            clear hp hq
            by_cases hpq : p = q
            · subst hpq
              have hne : (p == p) = true := by simp
              go_wp2_with fail
              go_quiet ((first | (go_at_call 79; with_reducible exact bitq_is D t p HP.out.symm hm ht62 _ _) | (go_at_call 79; with_reducible exact bitq_is D' k p HQ.out.symm hm' hk62 _ _)))
              go_wp2
              go_roundw
              case rel => exact ⟨t + 1, by omega, by go_num, by first | exact below_drewN hb _ | exact hb.drew, fun b hb => by
                by_cases e : b = t
                · subst e
                  unfold R
                  rw [← HD.out, ← HD'.out, ← HP.out, ← HQ.out]
                · exact HA2.out b (by omega)⟩
              case measure => simp [intOf]; omega
            · have hne : (p == q) = false := by simpa using hpq
              go_wp2_with fail
              go_quiet ((first | (go_at_call 79; with_reducible exact bitq_is D t p HP.out.symm hm ht62 _ _) | (go_at_call 79; with_reducible exact bitq_is D' k q HQ.out.symm hm' hk62 _ _)))
              go_wp2
              go_ret
              refine ⟨ret_b _ _ ?_, by first | exact below_drewN (HB1.out.trans (hb.mono HB1.out.size)) _ | exact (HB1.out.trans (hb.mono HB1.out.size)).drew⟩
              symm
              refine HNO.out fun hd => hpq ?_
              have := hd.2 k t (by rw [HL.out]; exact hlt) (by rw [HL.out]; exact hlt2)
              unfold R at this
              rw [← HD.out, ← HD'.out, ← HP.out, ← HQ.out] at this
              exact Bool.eq_iff_iff.2 this
          · obtain rfl : t = n := by omega
            go_wp2_with fail
            go_roundw
            case rel => exact ⟨k + 1, by omega, by go_num, hb, fun a ha => by
              by_cases e : a = k
              · subst e
                exact ⟨by unfold R; rw [← HD.out]; exact HT.out, HA2.out⟩
              · exact HA.out a (by omega)⟩
            case measure => simp [intOf]; omega
    · obtain rfl : k = n := by omega
      go_wp2_with fail
      go_ret
      refine ⟨ret_b _ _ ?_, HB1.out.trans (hb.mono HB1.out.size)⟩
      symm
      exact HYES.out ⟨fun i hi => (HA.out i (by rw [← HL.out]; exact hi)).1, fun i k hi hk => (HA.out i (by rw [← HL.out]; exact hi)).2 k (by rw [← HL.out]; exact hk)⟩
set_option maxHeartbeats 800000 in
theorem l02Is_any (L : Int) (A : Option Addr) (n c : Nat) (xs : List Int) (w : World) (h : Rd w A n xs) (hn : n ≤ 9223372036854775807) :
    Calls Tryd.prog 58 #[.agg #[.int .i64 L, .slice A n c]] w fun e w' => e = .returned (.bool (alphB L xs)) ∧ Below w.heap.size w w' := by
  have hlen := h.1
  by_cases hL : 0 ≤ L ∧ L ≤ 8
  · by_cases hnl : (n : Int) = L
    · subst hnl
      have h8 : n ≤ 8 := by omega
      have h24 : n ≤ 24 := by omega
      cases hrel : relB xs
      · have hin : inFull n xs = false := by
          unfold relB at hrel
          rw [hlen, decide_eq_true h24, Bool.true_and] at hrel
          unfold inFull; rw [all_mask _ n h24]; exact hrel
        have HF := Lib.hid (alphB_rel (n : Int) xs hrel)
        have HI := Lib.hid hin
        have HB := Lib.hid (below1 w (.cells #[.int .i64 (n : Int), .slice A n c] 29))
        have hh := h.below HB.out
        clear hin hrel hlen
        go_enter Tryd.func58, Tryd.ntmps58
        go_wp2_with fail
        refine (in_true _ _ _ (by omega) _).mono ?_
        rintro e w' ⟨rfl, rfl⟩
        go_wp2_with fail
        refine (masks_any n (by omega) _ _ _ _ _ hh hn).mono ?_
        rintro e w1 ⟨rfl, hb1⟩
        rw [HI.out]
        go_wp2_with fail
        go_ret
        exact ⟨ret_b _ _ HF.out.symm, HB.out.trans (hb1.mono HB.out.size)⟩
      · obtain ⟨h1, h2⟩ := clos_nats xs hrel
        rw [hlen] at h2
        have e : alphB (n : Int) xs = depB (xs.map Int.toNat) := by
          unfold alphB; rw [hrel, hlen, decide_eq_true (by omega)]; rfl
        rw [e]
        rw [h1] at h hrel
        exact l02Is_rel A n c _ w h h8 h2 hrel
    · have HF := Lib.hid (alphB_L L xs (fun e => hnl (by rw [← e.2.2, hlen])))
      have hne : ((n : Int) == L) = false := by simpa using hnl
      clear hlen
      go_enter Tryd.func58, Tryd.ntmps58
      go_wp2_with fail
      refine (in_true _ _ _ hL _).mono ?_
      rintro e w' ⟨rfl, rfl⟩
      go_wp2_with fail
      go_ret
      exact ⟨ret_b _ _ HF.out.symm, below1 _ _⟩
  · have HF := Lib.hid (alphB_L L xs (fun e => hL ⟨e.1, e.2.1⟩))
    clear hlen
    go_enter Tryd.func58, Tryd.ntmps58
    go_wp2_with fail
    refine (in_false _ _ _ hL _).mono ?_
    rintro e w' ⟨rfl, rfl⟩
    go_wp2_with fail
    go_ret
    exact ⟨ret_b _ _ HF.out.symm, below1 _ _⟩
end Go.Proofs.YtdafdffmkjhhcaaDoor
namespace Go.Proofs.YtdafdffmkjhhcaaDoor
open Go.RowKit
set_option linter.unusedVariables false
set_option maxRecDepth 100000

theorem implIsAlphabet (L : Int) (A : Option Addr) (n c : Nat) (xs : List Int) (w : World) (h : Rd w A n xs) (hwf : Wf xs) (hL1 : -9223372036854775808 ≤ L) (hL2 : L ≤ 9223372036854775807) (hn : n ≤ 9223372036854775807) (hT : Tab w) :
    Calls Tryd.prog 61 #[.agg #[.int .i64 L, .slice A n c]] w fun e w' => e = .returned (.bool (alphB L xs)) ∧ Below w.heap.size w w' := by
  have HB := Lib.hid (below1 w (.cells #[.int .i64 L, .slice A n c] 29))
  have hh := h.below HB.out
  have hT1 := hT.below HB.out
  cases ha : alphB L xs
  · have HA := Lib.hid ha
    clear ha
    go_enter Tryd.func61, Tryd.ntmps61
    go_wp2_with fail
    refine (dependenceOf_no L _ _ _ xs _ hh hwf hL1 hL2 hn HA.out hT1).mono ?_
    rintro e w1 ⟨rfl, hb⟩
    go_wp2_with fail
    go_ret
    exact ⟨rfl, HB.out.trans (hb.mono HB.out.size)⟩
  · obtain ⟨rs, rfl, rfl, h8, hr, hrel, hl, hd, _⟩ := alphB_nats L xs n h.1 ha
    clear ha
    go_enter Tryd.func61, Tryd.ntmps61
    go_wp2_with fail
    refine (dependenceOf_yes _ _ _ _ rs _ hh hwf h8 rfl hr hrel hd hT1).mono ?_
    rintro e w1 ⟨A1, c1, rfl, ho, hb⟩
    go_wp2_with fail
    go_ret
    exact ⟨rfl, HB.out.trans (hb.mono HB.out.size)⟩
end Go.Proofs.YtdafdffmkjhhcaaDoor
namespace Go.Proofs.YtdafdffmkjhhcaaDoor
open Go.RowKit
set_option linter.unusedVariables false
set_option maxRecDepth 100000

def letB (L a : Int) : Bool := decide (0 ≤ a ∧ a < L)
def wordB (L : Int) (ws : List Int) : Bool := decide (ws.length ≤ 24) && ws.all (letB L)
theorem wordB_long (L : Int) (ws : List Int) (h : 24 < ws.length) : wordB L ws = false := by unfold wordB; rw [decide_eq_false (by omega)]; rfl
theorem wordB_nats (n : Nat) (ws : List Int) (h : wordB (n : Int) ws = true) : ∃ us, ws = ints us ∧ us.length ≤ 24 ∧ ∀ u, u ∈ us → u < n := by
  unfold wordB at h
  rw [Bool.and_eq_true, decide_eq_true_eq, List.all_eq_true] at h
  refine ⟨ws.map Int.toNat, ?_, by rw [List.length_map]; exact h.1, ?_⟩
  · unfold ints
    rw [List.map_map]
    conv => lhs; rw [← List.map_id ws]
    refine List.map_congr_left fun a ha => ?_
    have := h.2 a ha
    unfold letB at this
    rw [decide_eq_true_eq] at this
    simp [Int.toNat_of_nonneg this.1]
  · intro u hu
    obtain ⟨a, ha, rfl⟩ := List.mem_map.1 hu
    have := h.2 a ha
    unfold letB at this
    rw [decide_eq_true_eq] at this
    omega
theorem wordB_ints (n : Nat) (us : List Nat) (h1 : us.length ≤ 24) (h2 : ∀ u, u ∈ us → u < n) : wordB (n : Int) (ints us) = true := by
  unfold wordB
  rw [Bool.and_eq_true, decide_eq_true_eq, List.all_eq_true, ints_len]
  refine ⟨h1, fun a ha => ?_⟩
  unfold ints at ha
  obtain ⟨u, hu, rfl⟩ := List.mem_map.1 ha
  have := h2 u hu
  unfold letB
  rw [decide_eq_true_eq]; omega

/-- The first index of an element that meets a test, or -1. -/
def idxB (p : Int → Bool) (xs : List Int) : Int := match xs.findIdx? p with | some k => (k : Int) | none => -1
theorem idxB_none (p : Int → Bool) (xs : List Int) (h : ∀ (k : Nat) (x : Int), xs[k]? = some x → p x = false) : idxB p xs = -1 := by
  unfold idxB
  rw [List.findIdx?_eq_none_iff.2]
  intro x hx
  obtain ⟨k, hk⟩ := List.mem_iff_getElem?.1 hx
  exact h k x hk
theorem idxB_some (p : Int → Bool) (xs : List Int) (k : Nat) (x : Int) (hx : xs[k]? = some x) (hp : p x = true) (h : ∀ j y, j < k → xs[j]? = some y → p y = false) : idxB p xs = (k : Int) := by
  unfold idxB
  have hk : k < xs.length := by
    rcases Nat.lt_or_ge k xs.length with h9 | h9
    · exact h9
    · rw [List.getElem?_eq_none h9] at hx; cases hx
  have e : xs.findIdx? p = some k := by
    rw [List.findIdx?_eq_some_iff_getElem]
    refine ⟨hk, ?_, fun j hj => ?_⟩
    · rw [List.getElem?_eq_getElem hk] at hx; injection hx with hx; rw [hx]; exact hp
    · have := h j (xs[j]'(by omega)) hj (List.getElem?_eq_getElem (by omega))
      rw [this]; decide
  rw [e]
theorem idxB_any (p : Int → Bool) (xs : List Int) : decide (0 ≤ idxB p xs) = xs.any p := by
  unfold idxB
  cases e : xs.findIdx? p with
  | none =>
    rw [List.findIdx?_eq_none_iff] at e
    symm
    show _ = decide ((0 : Int) ≤ -1)
    rw [decide_eq_false (by omega), List.any_eq_false]
    intro x hx; rw [e x hx]; decide
  | some k =>
    rw [List.findIdx?_eq_some_iff_getElem] at e
    obtain ⟨hk, hp, _⟩ := e
    show decide ((0 : Int) ≤ (k : Int)) = _
    rw [decide_eq_true (by omega)]
    symm
    rw [List.any_eq_true]
    exact ⟨_, List.getElem_mem hk, hp⟩
set_option maxHeartbeats 800000 in
theorem indexFuncI_any (p : Int → Bool) (f : FuncId) (lb : Array Value) (A : Option Addr) (n c : Nat) (xs : List Int) (w : World) (h : Rd w A n xs) (hn : n ≤ 1048576)
    (eg : ∀ args w, (callFunc f args).run Tryd.prog w = .ok (.enter f args) w)
    (hp : ∀ x, x ∈ xs → Calls Tryd.prog f (#[.int .i64 x] ++ lb) w fun e w' => e = .returned (.bool (p x)) ∧ w = w') :
    Calls Tryd.prog 145 #[.slice A n c, .func (.func f) #[] lb] w fun e w' => e = .returned (.int .i64 (idxB p xs)) ∧ w = w' := by
  have HP := Lib.hid hp
  have HL := Lib.hid h.1
  clear hp
  go_enter Tryd.func145, Tryd.ntmps145
  go_wp2
  go_loop [8] (fun q => ∃ k : Nat, k ≤ n ∧ q = .int .i64 k ∧ ∀ j y, j < k → xs[j]? = some y → p y = false) (fun q => n - (intOf q).toNat)
  case atStart => exact ⟨0, Nat.zero_le _, rfl, fun j y hj => absurd hj (Nat.not_lt_zero _)⟩
  case round =>
    obtain ⟨k, hk, rfl, hall⟩ := hrel
    have HA := Lib.hid hall
    clear hall
    by_cases hlt : k < n
    · obtain ⟨b, off, x, rfl, hbs, hx, hcx⟩ := h.at_ hlt
      have HC := Lib.hid (HP.out x (List.mem_of_getElem? hx))
      have HX := Lib.hid hx
      clear hx
      cases hpx : p x
      · have HF := Lib.hid hpx
        clear hpx
        go_wp2_with fail
        refine HC.out.mono ?_
        rintro e w' ⟨rfl, rfl⟩
        rw [HF.out]
        go_wp2
        go_round
        case rel => exact ⟨k + 1, by omega, by go_num, fun j y hj hy => by
          by_cases e : j = k
          · subst e
            have := HX.out
            rw [hy] at this
            injection this with this
            rw [this]; exact HF.out
          · exact HA.out j y (by omega) hy⟩
        case measure => simp [intOf]; omega
      · have HF := Lib.hid hpx
        clear hpx
        go_wp2_with fail
        refine HC.out.mono ?_
        rintro e w' ⟨rfl, rfl⟩
        rw [HF.out]
        go_wp2
        go_ret
        exact ⟨ret_i _ _ (idxB_some p xs k x HX.out HF.out HA.out).symm, rfl⟩
    · obtain rfl : k = n := by omega
      go_wp2
      go_ret
      refine ⟨ret_i _ _ (idxB_none p xs fun j x hx => HA.out j x ?_ hx).symm, rfl⟩
      rcases Nat.lt_or_ge j k with h9 | h9
      · exact h9
      · rw [List.getElem?_eq_none (by rw [HL.out]; exact h9)] at hx; cases hx
theorem containsFuncI_any (p : Int → Bool) (f : FuncId) (lb : Array Value) (A : Option Addr) (n c : Nat) (xs : List Int) (w : World) (h : Rd w A n xs) (hn : n ≤ 1048576)
    (eg : ∀ args w, (callFunc f args).run Tryd.prog w = .ok (.enter f args) w)
    (hp : ∀ x, x ∈ xs → Calls Tryd.prog f (#[.int .i64 x] ++ lb) w fun e w' => e = .returned (.bool (p x)) ∧ w = w') :
    Calls Tryd.prog 99 #[.slice A n c, .func (.func f) #[] lb] w fun e w' => e = .returned (.bool (xs.any p)) ∧ w = w' := by
  have HI := Lib.hid (indexFuncI_any p f lb A n c xs w h hn eg hp)
  have HE := Lib.hid (idxB_any p xs)
  obtain ⟨I, hI⟩ : ∃ I, I = idxB p xs := ⟨_, rfl⟩
  rw [← hI] at HI HE
  clear hp hI
  go_enter Tryd.func99, Tryd.ntmps99
  go_wp2_with fail
  refine HI.out.mono ?_
  rintro e w' ⟨rfl, rfl⟩
  go_wp2
  go_ret
  exact ⟨ret_b _ _ HE.out, rfl⟩
theorem noLetter_any (b : Nat) (L a : Int) (w : World) (hc : w.cell? ⟨b, 0, none⟩ = some (.int .i64 L)) :
    Calls Tryd.prog 98 #[.int .i64 a, .pointer (some ⟨b, 0, none⟩)] w fun e w' => e = .returned (.bool (!letB L a)) ∧ w = w' := by
  by_cases h1 : 0 ≤ a
  · by_cases h2 : a < L
    · have HF : Hid (letB L a = true) := Lib.hid (decide_eq_true ⟨h1, h2⟩)
      go_enter Tryd.func98, Tryd.ntmps98
      go_wp2
      go_ret
      exact ⟨ret_b _ _ (by rw [HF.out, decide_eq_false (by omega : ¬ a < 0), decide_eq_false (by omega : ¬ L ≤ a)]; rfl), rfl⟩
    · have HF : Hid (letB L a = false) := Lib.hid (decide_eq_false (by omega))
      go_enter Tryd.func98, Tryd.ntmps98
      go_wp2
      go_ret
      exact ⟨ret_b _ _ (by rw [HF.out]; rfl), rfl⟩
  · have HF : Hid (letB L a = false) := Lib.hid (decide_eq_false (by omega))
    go_enter Tryd.func98, Tryd.ntmps98
    go_wp2
    go_ret
    exact ⟨ret_b _ _ (by rw [HF.out]; rfl), rfl⟩
theorem cell_new0 (w : World) (v : Value) (T : TypeId) : (w.alloc (.cells #[v] T)).cell? ⟨w.heap.size, 0, none⟩ = some v := by
  have := cell_one_new w v T 0 v rfl
  rw [add_zero_off] at this; exact this
theorem any_not_all (p : Int → Bool) (xs : List Int) : xs.any (fun a => !p a) = !xs.all p := by
  induction xs with
  | nil => rfl
  | cons x r ih => simp [List.any_cons, List.all_cons, ih, Bool.not_and]
set_option maxHeartbeats 800000 in
theorem isWordOf_any (L : Int) (A : Option Addr) (n c : Nat) (xs : List Int) (w : World) (h : Rd w A n xs) (hn : n ≤ 9223372036854775807) :
    Calls Tryd.prog 54 #[.int .i64 L, .slice A n c] w fun e w' => e = .returned (.bool (wordB L xs)) ∧ Below w.heap.size w w' := by
  have hlen := h.1
  have HB := Lib.hid (below1 w (.cells #[.int .i64 L] 2))
  by_cases h24 : n ≤ 24
  · have eg : ∀ args w, (callFunc 98 args).run Tryd.prog w = .ok (.enter 98 args) w := fun args w => Go.MuLone.run_callFunc_enter (P := Tryd.prog) Tryd.func98 (by kernel_rfl) rfl args w
    have HW : Hid (wordB L xs = xs.all (letB L)) := Lib.hid (by unfold wordB; rw [hlen, decide_eq_true h24]; rfl)
    have HC := Lib.hid (containsFuncI_any (fun a => !letB L a) 98 #[.pointer (some ⟨w.heap.size, 0, none⟩)] A n c xs _ (h.below HB.out) (by omega) eg (fun x _ => noLetter_any w.heap.size L x _ (cell_new0 w _ _)))
    clear hlen
    go_enter Tryd.func54, Tryd.ntmps54
    go_wp2_with fail
    refine HC.out.mono ?_
    rintro e w1 ⟨rfl, rfl⟩
    go_wp2_with fail
    go_ret
    exact ⟨ret_b _ _ (by rw [any_not_all, Bool.not_not, HW.out]), HB.out⟩
  · have HW := Lib.hid (wordB_long L xs (by omega))
    clear hlen
    go_enter Tryd.func54, Tryd.ntmps54
    go_wp2_with fail
    go_ret
    exact ⟨ret_b _ _ HW.out.symm, HB.out⟩
end Go.Proofs.YtdafdffmkjhhcaaDoor
namespace Go.Proofs.YtdafdffmkjhhcaaDoor
open Go.RowKit
set_option linter.unusedVariables false
set_option linter.unusedSimpArgs false
set_option maxRecDepth 100000

/-- What a sort of the numbers in a block asks of its comparison: it answers by keys, in every world that the sort passes through, and only reads. -/
def CmpOk (w0 : World) (g N : Nat) (key : Nat → Nat) (cf : Nat → Nat → Int) (f : FuncId) (lb : Array Value) : Prop :=
  (∀ x y, cf x y < 0 ↔ key x < key y) ∧ ∀ (x y : Nat) (wx : World), x < N → y < N → w0.grownBy wx (some g) → Calls Tryd.prog f (#[.int .i64 (x : Int), .int .i64 (y : Int)] ++ lb) wx fun e w' => e = .returned (.int .i64 (cf x y)) ∧ ∃ q, w' = wx.drewN q
def SymPost (key : Nat → Nat) (w : World) (B g n c a b : Nat) (ds : List Nat) (e : Ending) (w' : World) : Prop :=
  e = .returned (.tuple #[]) ∧ ∃ es : List Nat, Own 2 w' B (some ⟨g, 0, none⟩) n c (ints es) ∧ w.grownBy w' (some g) ∧ es.Perm ds ∧ St key es ∧ Same ds es a b ∧ Srt key es a b
theorem getD_mem' (ms : List Nat) (j : Nat) (h : j < ms.length) : ms.getD j 0 ∈ ms := by
  rw [List.getD_eq_getElem?_getD, List.getElem?_eq_getElem h]; exact List.getElem_mem _
theorem grown_drewN' {w w' : World} {row : Option Nat} (h : w.grownBy w' row) (k : Nat) : w.grownBy (w'.drewN k) row := ⟨h.os, h.tape, h.output, h.size, h.block⟩
theorem rot_step (ds : List Nat) (a k : Nat) (ha : a ≤ k) (hk : k + 1 < ds.length) : ((rot ds a (a + 1) (k + 1)).set k ((rot ds a (a + 1) (k + 1)).getD (k + 1) 0)).set (k + 1) ((rot ds a (a + 1) (k + 1)).getD k 0) = rot ds a (a + 1) (k + 2) := by
  refine list_eq_getD _ _ ds.length (by rw [List.length_set, List.length_set, rot_len]) (rot_len _ _ _ _) fun p hp => ?_
  rw [getD_set _ _ _ _ (by rw [List.length_set, rot_len]; exact hk), getD_set _ _ _ _ (by rw [rot_len]; omega), rot_at _ _ _ (k + 1) _ hp, rot_at _ _ _ (k + 1) k (by omega), rot_at _ _ _ (k + 1) (k + 1) hk, rot_at _ _ _ (k + 2) _ hp]
  by_cases h1 : p = k + 1
  · rw [if_pos h1]; congr 1; (repeat' split) <;> omega
  · rw [if_neg h1]
    by_cases h2 : p = k
    · rw [if_pos h2]; congr 1; (repeat' split) <;> omega
    · rw [if_neg h2]; congr 1; (repeat' split) <;> omega
theorem rot_none (ds : List Nat) (a : Nat) : rot ds a (a + 1) (a + 1) = ds := by
  refine list_eq_getD _ _ ds.length (rot_len _ _ _ _) rfl fun p hp => ?_
  rw [rot_at _ _ _ _ _ hp]
  congr 1; (repeat' split) <;> omega
theorem left_srt {key : Nat → Nat} {ds : List Nat} {a b i : Nat} (hs : Srt key ds (a + 1) b) (hb : b ≤ ds.length) (h1 : a + 1 ≤ i) (h2 : i ≤ b) (hlo : ∀ t, a + 1 ≤ t → t < i → key (ds.getD t 0) < key (ds.getD a 0)) (hhi : ∀ t, i ≤ t → t < b → key (ds.getD a 0) ≤ key (ds.getD t 0)) : Srt key (rot ds a (a + 1) i) a b := by
  intro p q hp hpq hq
  rw [rot_at _ _ _ _ p (by omega), rot_at _ _ _ _ q (by omega), if_neg (by omega : ¬ p < a), if_neg (by omega : ¬ q < a)]
  by_cases p1 : p < a + (i - (a + 1))
  · rw [if_pos p1]
    by_cases q1 : q < a + (i - (a + 1))
    · rw [if_pos q1]; exact hs _ _ (by omega) (by omega) (by omega)
    · rw [if_neg q1]
      by_cases q2 : q < i
      · rw [if_pos q2, show q - (i - (a + 1)) = a by omega]
        exact Nat.le_of_lt (hlo _ (by omega) (by omega))
      · rw [if_neg q2]; exact hs _ _ (by omega) (by omega) hq
  · rw [if_neg p1, if_neg (by omega : ¬ q < a + (i - (a + 1)))]
    by_cases p2 : p < i
    · rw [if_pos p2, if_neg (by omega : ¬ q < i), show p - (i - (a + 1)) = a by omega]
      exact hhi _ (by omega) hq
    · rw [if_neg p2, if_neg (by omega : ¬ q < i)]
      exact hs _ _ (by omega) hpq hq
set_option maxHeartbeats 6400000 in
theorem sym_left (B g n c a b N : Nat) (ds : List Nat) (key : Nat → Nat) (cf : Nat → Nat → Int) (f : FuncId) (lb : Array Value) (w0 w : World) (h : Own 2 w B (some ⟨g, 0, none⟩) n c (ints ds)) (hw : w0.grownBy w (some g)) (hn : n ≤ 1048576) (hb : b ≤ n) (hab : a + 1 < b)
    (eg : ∀ args w, (callFunc f args).run Tryd.prog w = .ok (.enter f args) w) (hcmp : CmpOk w0 g N key cf f lb) (hds : ∀ x, x ∈ ds → x < N) (hst : St key ds) (hs : Srt key ds (a + 1) b) :
    Calls Tryd.prog 175 #[.slice (some ⟨g, 0, none⟩) n c, .int .i64 (a : Int), .int .i64 ((a : Int) + 1), .int .i64 (b : Int), .func (.func f) #[] lb] w (SymPost key w B g n c a b ds) := by
  have hlen : ds.length = n := by have := h.len; rw [ints_len] at this; exact this
  have HL := Lib.hid hlen
  have HC := Lib.hid hcmp
  have HD := Lib.hid hds
  have HST := Lib.hid hst
  have HS := Lib.hid hs
  have mixed : Tryd.prog.follows .mixedOrders = true := by kernel_rfl
  have hx1 : (a : Int) + 1 - (a : Int) = 1 := by omega
  clear hlen hcmp hds hst hs
  go_enter Tryd.func175, Tryd.ntmps175
  go_wp2_with fail
  go_loopw [10, 11] (fun p q wr => ∃ (i j : Nat), a + 1 ≤ i ∧ i ≤ j ∧ j ≤ b ∧ p = .int .i64 i ∧ q = .int .i64 j ∧ Own 2 wr B (some ⟨g, 0, none⟩) n c (ints ds) ∧ w.grownBy wr (some g) ∧ (∀ t, a + 1 ≤ t → t < i → key (ds.getD t 0) < key (ds.getD a 0)) ∧ (∀ t, j ≤ t → t < b → key (ds.getD a 0) ≤ key (ds.getD t 0))) (fun p q _ => (intOf q).toNat - (intOf p).toNat)
  case atStart => exact ⟨a + 1, b, by omega, by omega, by omega, by go_num, rfl, h, World.grownBy.refl _ _, fun t h1 h2 => by omega, fun t h1 h2 => by omega⟩
  case round =>
    obtain ⟨i, j, hi, hij, hj, rfl, rfl, ho, hg, hlo, hhi⟩ := hrel
    have HLO := Lib.hid hlo
    have HHI := Lib.hid hhi
    clear hlo hhi h
    by_cases hlt : i < j
    · obtain ⟨m, hm⟩ : ∃ m, m = (i + j) / 2 := ⟨_, rfl⟩
      have hdiv : ((i : Int) + (j : Int)) / 2 = (m : Int) := by omega
      have hm1 : i ≤ m := by omega
      have hm2 : m < j := by omega
      obtain ⟨g1, e1, _, hca, _, _⟩ := own_stored ho (k := a) (by omega)
      cases e1
      obtain ⟨g2, e2, _, hcm, _, _⟩ := own_stored ho (k := m) (by omega)
      cases e2
      have hxa : ds.getD a 0 < N := HD.out _ (getD_mem' ds a (by rw [HL.out]; omega))
      have hxm : ds.getD m 0 < N := HD.out _ (getD_mem' ds m (by rw [HL.out]; omega))
      have hc := fun k => HC.out.2 (ds.getD m 0) (ds.getD a 0) (wr.drewN k) hxm hxa (grown_drewN' (hw.trans hg) k)
      have hz := HC.out.1 (ds.getD m 0) (ds.getD a 0)
      have HM := Lib.hid hm
      obtain ⟨X, hX⟩ : ∃ X, X = ds.getD m 0 := ⟨_, rfl⟩
      obtain ⟨Y, hY⟩ : ∃ Y, Y = ds.getD a 0 := ⟨_, rfl⟩
      rw [← hX] at hcm hc hz
      rw [← hY] at hca hc hz
      obtain ⟨Z, hZ⟩ : ∃ Z, Z = cf X Y := ⟨_, rfl⟩
      rw [← hZ] at hc hz
      have HX := Lib.hid hX
      have HY := Lib.hid hY
      have HZ := Lib.hid hz
      have ham : a < n := by omega
      have hmn : m < n := by omega
      clear hm hxa hxm hX hY hZ hz
      by_cases hzz : Z < 0
      · have hd : decide (Z < 0) = true := decide_eq_true hzz
        go_wp2_with fail
        go_quiet_o (first | (go_at_fn f; refine Calls.quiet_of (hc _)))
        clear hdiv hc hcm hca hd
        go_wp2_with fail
        go_roundw
        case rel => exact ⟨m + 1, j, by omega, by omega, hj, by go_num, rfl, ho, grown_drewN' hg _, fun t h1 h2 => by
          by_cases h3 : t < i
          · exact HLO.out t h1 h3
          · have h4 : key X < key Y := HZ.out.1 hzz
            rw [← HY.out]
            by_cases h5 : t = m
            · rw [h5, ← HX.out]; exact h4
            · have := HS.out t m h1 (by omega) (by omega)
              rw [← HX.out] at this
              omega, HHI.out⟩
        case measure => simp [intOf]; omega
      · have hd : decide (Z < 0) = false := decide_eq_false hzz
        go_wp2_with fail
        go_quiet_o (first | (go_at_fn f; refine Calls.quiet_of (hc _)))
        clear hdiv hc hcm hca hd
        go_wp2_with fail
        go_roundw
        case rel => exact ⟨i, m, hi, by omega, by omega, rfl, rfl, ho, grown_drewN' hg _, HLO.out, fun t h1 h2 => by
          have h4 : ¬ key X < key Y := fun h => by have := HZ.out.2 h; omega
          rw [← HY.out]
          by_cases h5 : t = m
          · rw [h5, ← HX.out]; omega
          · have := HS.out m t (by omega) (by omega) h2
            rw [← HX.out] at this
            omega⟩
        case measure => simp [intOf]; omega
    · obtain rfl : i = j := by omega
      obtain ⟨i1, hi1⟩ : ∃ i1, i = i1 + 1 := ⟨i - 1, by omega⟩
      subst hi1
      clear hij hlt
      have ho1 : Own 2 wr B (some ⟨g, 0, none⟩) n c (ints (rot ds a (a + 1) (a + 1))) := by rw [rot_none]; exact ho
      obtain ⟨wo, rfl⟩ : ∃ wo : World, wo = wr := ⟨_, rfl⟩
      go_wp2_with fail
      go_loopw [13] (fun q wr => ∃ k : Nat, a ≤ k ∧ k ≤ i1 ∧ q = .int .i64 k ∧ Own 2 wr B (some ⟨g, 0, none⟩) n c (ints (rot ds a (a + 1) (k + 1))) ∧ w.grownBy wr (some g)) (fun q _ => i1 - (intOf q).toNat)
      case atStart => exact ⟨a, Nat.le_refl _, by omega, rfl, ho1, hg⟩
      case round =>
        clear ho ho1 hg
        obtain ⟨k, hk1, hk2, rfl, ho, hg⟩ := hrel
        by_cases hlt : k < i1
        · have hnext := rot_step ds a k hk1 (by rw [HL.out]; omega)
          obtain ⟨ga, ea, _, hca, hfa, hseta⟩ := own_stored ho (k := k) (by omega)
          cases ea
          obtain ⟨gb, eb, _, hcb, hfb, _⟩ := own_stored ho (k := k + 1) (by omega)
          cases eb
          have h1 := hseta ((rot ds a (a + 1) (k + 1)).getD (k + 1) 0)
          obtain ⟨gc, ec, _, _, _, hsetb⟩ := own_stored h1 (k := k + 1) (by omega)
          cases ec
          have h2 := hsetb ((rot ds a (a + 1) (k + 1)).getD k 0)
          rw [hnext] at h2
          obtain ⟨X, hX⟩ : ∃ X, X = (rot ds a (a + 1) (k + 1)).getD k 0 := ⟨_, rfl⟩
          obtain ⟨Y, hY⟩ : ∃ Y, Y = (rot ds a (a + 1) (k + 1)).getD (k + 1) 0 := ⟨_, rfl⟩
          rw [← hX] at hca h2
          rw [← hY] at hcb h2
          obtain ⟨q, hq⟩ : ∃ q, q = k + 1 := ⟨_, rfl⟩
          rw [← hq] at hcb hfb h2
          have hkn : k < n := by omega
          have hqn : q < n := by omega
          have hne1 : ¬ k = q := by omega
          have hne2 : ¬ q = k := by omega
          have H2 := Lib.hid h2
          have hg2 := grown_drew (grown_set (grown_set hg k (.int .i64 (Y : Int))) q (.int .i64 (X : Int)))
          have HG2 := Lib.hid hg2
          have hz1 : (0 : Int) ≤ (k : Int) := Int.natCast_nonneg _
          have hz2 : (0 : Int) ≤ (q : Int) := Int.natCast_nonneg _
          have hz3 : (k : Int) < (n : Int) := Int.ofNat_lt.2 hkn
          have hz4 : (q : Int) < (n : Int) := Int.ofNat_lt.2 hqn
          have ht1 : ((k : Int)).toNat = k := by simp
          have ht2 : ((q : Int)).toNat = q := by simp
          have hw2 : IntKind.i64.wrap ((k : Int) + 1) = (q : Int) := by rw [IntKind.wrap_i64]; omega
          clear hX hY hq hseta hsetb h1 h2 hnext hg2 ho hg
          go_wp2_with fail
          go_big_region_o
          clear hw2 hz1 hz2 hz3 hz4 ht1 ht2 hca hcb hfa hfb
          go_wp2_with fail
          go_roundw
          case rel => exact ⟨k + 1, by omega, by omega, by go_num, H2.out, HG2.out⟩
          case measure => simp [intOf]; omega
        · obtain rfl : k = i1 := by omega
          have hb2 : b ≤ ds.length := by rw [HL.out]; exact hb
          have hps : (rot ds a (a + 1) (k + 1)).Perm ds := rot_perm _ _ _ _ (by omega) (by omega) (by omega)
          have hss : St key (rot ds a (a + 1) (k + 1)) := rot_st HST.out (fun p q h1 h2 h3 h4 => by
            have : p = a := by omega
            subst this
            exact HLO.out q h3 h4) (by omega) (by omega) (by omega)
          have hsm := (rot_same ds a (a + 1) (k + 1) (by omega) (by omega) (by omega)).wide (Nat.le_refl a) hj
          have hsr := left_srt HS.out hb2 hi hj HLO.out HHI.out
          have HE := Lib.hid (show ∃ es : List Nat, Own 2 wr B (some ⟨g, 0, none⟩) n c (ints es) ∧ w.grownBy wr (some g) ∧ es.Perm ds ∧ St key es ∧ Same ds es a b ∧ Srt key es a b from ⟨_, ho, hg, hps, hss, hsm, hsr⟩)
          clear hps hss hsm hsr ho hg
          go_wp2_with fail
          exact bodyPost_end (results_none Tryd.results175 _ _ _) rfl ⟨rfl, HE.out⟩
end Go.Proofs.YtdafdffmkjhhcaaDoor
namespace Go.Proofs.YtdafdffmkjhhcaaDoor
open Go.RowKit
set_option linter.unusedVariables false
set_option linter.unusedSimpArgs false
set_option maxRecDepth 100000

theorem rot_stepR (ds : List Nat) (q m : Nat) (ha : q + 1 ≤ m) (hk : m < ds.length) : ((rot ds (q + 1) m (m + 1)).set (q + 1) ((rot ds (q + 1) m (m + 1)).getD q 0)).set q ((rot ds (q + 1) m (m + 1)).getD (q + 1) 0) = rot ds q m (m + 1) := by
  refine list_eq_getD _ _ ds.length (by rw [List.length_set, List.length_set, rot_len]) (rot_len _ _ _ _) fun p hp => ?_
  rw [getD_set _ _ _ _ (by rw [List.length_set, rot_len]; omega), getD_set _ _ _ _ (by rw [rot_len]; omega), rot_at _ (q + 1) _ _ p hp, rot_at _ (q + 1) _ _ q (by omega), rot_at _ (q + 1) _ _ (q + 1) (by omega), rot_at _ q _ _ _ hp]
  by_cases h1 : p = q
  · rw [if_pos h1]; congr 1; (repeat' split) <;> omega
  · rw [if_neg h1]
    by_cases h2 : p = q + 1
    · rw [if_pos h2]; congr 1; (repeat' split) <;> omega
    · rw [if_neg h2]; congr 1; (repeat' split) <;> omega
theorem rot_noneR (ds : List Nat) (m : Nat) : rot ds m m (m + 1) = ds := by
  refine list_eq_getD _ _ ds.length (rot_len _ _ _ _) rfl fun p hp => ?_
  rw [rot_at _ _ _ _ _ hp]
  congr 1; (repeat' split) <;> omega
theorem right_srt {key : Nat → Nat} {ds : List Nat} {a m i : Nat} (hs : Srt key ds a m) (hb : m + 1 ≤ ds.length) (h1 : a ≤ i) (h2 : i ≤ m) (hlo : ∀ t, a ≤ t → t < i → key (ds.getD t 0) ≤ key (ds.getD m 0)) (hhi : ∀ t, i ≤ t → t < m → key (ds.getD m 0) < key (ds.getD t 0)) : Srt key (rot ds i m (m + 1)) a (m + 1) := by
  intro p q hp hpq hq
  rw [rot_at _ _ _ _ p (by omega), rot_at _ _ _ _ q (by omega)]
  by_cases p1 : p < i
  · rw [if_pos p1]
    by_cases q1 : q < i
    · rw [if_pos q1]; exact hs _ _ hp hpq (by omega)
    · rw [if_neg q1]
      by_cases q2 : q < i + (m + 1 - m)
      · rw [if_pos q2, show q - i + m = m by omega]; exact hlo _ hp p1
      · rw [if_neg q2, if_pos (by omega)]; exact hs _ _ hp (by omega) (by omega)
  · rw [if_neg p1, if_neg (by omega : ¬ q < i), if_neg (by omega : ¬ q < i + (m + 1 - m)), if_pos (by omega : q < m + 1)]
    by_cases p2 : p < i + (m + 1 - m)
    · rw [if_pos p2, show p - i + m = m by omega]; exact Nat.le_of_lt (hhi _ (by omega) (by omega))
    · rw [if_neg p2, if_pos (by omega : p < m + 1)]; exact hs _ _ (by omega) (by omega) (by omega)
set_option maxHeartbeats 6400000 in
theorem sym_right (B g n c a mm N : Nat) (ds : List Nat) (key : Nat → Nat) (cf : Nat → Nat → Int) (f : FuncId) (lb : Array Value) (w0 w : World) (h : Own 2 w B (some ⟨g, 0, none⟩) n c (ints ds)) (hw : w0.grownBy w (some g)) (hn : n ≤ 1048576) (hb : mm + 1 ≤ n) (hab : a + 1 < mm)
    (eg : ∀ args w, (callFunc f args).run Tryd.prog w = .ok (.enter f args) w) (hcmp : CmpOk w0 g N key cf f lb) (hds : ∀ x, x ∈ ds → x < N) (hst : St key ds) (hs : Srt key ds a mm) :
    Calls Tryd.prog 175 #[.slice (some ⟨g, 0, none⟩) n c, .int .i64 (a : Int), .int .i64 (mm : Int), .int .i64 ((mm : Int) + 1), .func (.func f) #[] lb] w (SymPost key w B g n c a (mm + 1) ds) := by
  have hlen : ds.length = n := by have := h.len; rw [ints_len] at this; exact this
  have HL := Lib.hid hlen
  have HC := Lib.hid hcmp
  have HD := Lib.hid hds
  have HST := Lib.hid hst
  have HS := Lib.hid hs
  have mixed : Tryd.prog.follows .mixedOrders = true := by kernel_rfl
  have hx1 : (mm : Int) + 1 - (mm : Int) = 1 := by omega
  obtain ⟨d, hd0⟩ : ∃ d, d = mm - a := ⟨_, rfl⟩
  have hx2 : (mm : Int) - (a : Int) = (d : Int) := by omega
  have hx3 : ((d : Int) == 1) = false := by simp; omega
  clear hd0
  clear hlen hcmp hds hst hs
  go_enter Tryd.func175, Tryd.ntmps175
  go_wp2_with fail
  go_loopw [14, 15] (fun p q wr => ∃ (i j : Nat), a ≤ i ∧ i ≤ j ∧ j ≤ mm ∧ p = .int .i64 i ∧ q = .int .i64 j ∧ Own 2 wr B (some ⟨g, 0, none⟩) n c (ints ds) ∧ w.grownBy wr (some g) ∧ (∀ t, a ≤ t → t < i → key (ds.getD t 0) ≤ key (ds.getD mm 0)) ∧ (∀ t, j ≤ t → t < mm → key (ds.getD mm 0) < key (ds.getD t 0))) (fun p q _ => (intOf q).toNat - (intOf p).toNat)
  case atStart => exact ⟨a, mm, by omega, by omega, by omega, rfl, rfl, h, World.grownBy.refl _ _, fun t h1 h2 => by omega, fun t h1 h2 => by omega⟩
  case round =>
    obtain ⟨i, j, hi, hij, hj, rfl, rfl, ho, hg, hlo, hhi⟩ := hrel
    have HLO := Lib.hid hlo
    have HHI := Lib.hid hhi
    clear hlo hhi h
    by_cases hlt : i < j
    · obtain ⟨m, hm⟩ : ∃ m, m = (i + j) / 2 := ⟨_, rfl⟩
      have hdiv : ((i : Int) + (j : Int)) / 2 = (m : Int) := by omega
      have hm1 : i ≤ m := by omega
      have hm2 : m < j := by omega
      obtain ⟨g1, e1, _, hca, _, _⟩ := own_stored ho (k := mm) (by omega)
      cases e1
      obtain ⟨g2, e2, _, hcm, _, _⟩ := own_stored ho (k := m) (by omega)
      cases e2
      have hxa : ds.getD mm 0 < N := HD.out _ (getD_mem' ds mm (by rw [HL.out]; omega))
      have hxm : ds.getD m 0 < N := HD.out _ (getD_mem' ds m (by rw [HL.out]; omega))
      have hc := fun k => HC.out.2 (ds.getD mm 0) (ds.getD m 0) (wr.drewN k) hxa hxm (grown_drewN' (hw.trans hg) k)
      have hz := HC.out.1 (ds.getD mm 0) (ds.getD m 0)
      have HM := Lib.hid hm
      obtain ⟨X, hX⟩ : ∃ X, X = ds.getD m 0 := ⟨_, rfl⟩
      obtain ⟨Y, hY⟩ : ∃ Y, Y = ds.getD mm 0 := ⟨_, rfl⟩
      rw [← hX] at hcm hc hz
      rw [← hY] at hca hc hz
      obtain ⟨Z, hZ⟩ : ∃ Z, Z = cf Y X := ⟨_, rfl⟩
      rw [← hZ] at hc hz
      have HX := Lib.hid hX
      have HY := Lib.hid hY
      have HZ := Lib.hid hz
      have ham : mm < n := by omega
      have hmn : m < n := by omega
      clear hm hxa hxm hX hY hZ hz
      by_cases hzz : Z < 0
      · have hd : decide (Z < 0) = true := decide_eq_true hzz
        go_wp2_with fail
        go_quiet_o (first | (go_at_fn f; refine Calls.quiet_of (hc _)))
        clear hdiv hc hcm hca hd
        go_wp2_with fail
        go_roundw
        case rel => exact ⟨i, m, hi, by omega, by omega, rfl, rfl, ho, grown_drewN' hg _, HLO.out, fun t h1 h2 => by
          have h4 : key Y < key X := HZ.out.1 hzz
          rw [← HY.out]
          by_cases h5 : t = m
          · rw [h5, ← HX.out]; exact h4
          · have := HS.out m t (by omega) (by omega) h2
            rw [← HX.out] at this
            omega⟩
        case measure => simp [intOf]; omega
      · have hd : decide (Z < 0) = false := decide_eq_false hzz
        go_wp2_with fail
        go_quiet_o (first | (go_at_fn f; refine Calls.quiet_of (hc _)))
        clear hdiv hc hcm hca hd
        go_wp2_with fail
        go_roundw
        case rel => exact ⟨m + 1, j, by omega, by omega, hj, by go_num, rfl, ho, grown_drewN' hg _, fun t h1 h2 => by
          have h4 : ¬ key Y < key X := fun h => by have := HZ.out.2 h; omega
          rw [← HY.out]
          by_cases h5 : t = m
          · rw [h5, ← HX.out]; omega
          · by_cases h3 : t < i
            · have := HLO.out t h1 h3
              rw [← HY.out] at this; exact this
            · have := HS.out t m h1 (by omega) (by omega)
              rw [← HX.out] at this
              omega, HHI.out⟩
        case measure => simp [intOf]; omega
    · obtain rfl : i = j := by omega
      clear hij hlt
      have ho1 : Own 2 wr B (some ⟨g, 0, none⟩) n c (ints (rot ds mm mm (mm + 1))) := by rw [rot_noneR]; exact ho
      obtain ⟨wo, rfl⟩ : ∃ wo : World, wo = wr := ⟨_, rfl⟩
      go_wp2_with fail
      go_loopw [17] (fun q wr => ∃ k : Nat, i ≤ k ∧ k ≤ mm ∧ q = .int .i64 k ∧ Own 2 wr B (some ⟨g, 0, none⟩) n c (ints (rot ds k mm (mm + 1))) ∧ w.grownBy wr (some g)) (fun q _ => (intOf q).toNat)
      case atStart => exact ⟨mm, hj, Nat.le_refl _, rfl, ho1, hg⟩
      case round =>
        clear ho ho1 hg
        obtain ⟨k, hk1, hk2, rfl, ho, hg⟩ := hrel
        by_cases hlt : i < k
        · obtain ⟨q, hq⟩ : ∃ q, k = q + 1 := ⟨k - 1, by omega⟩
          subst hq
          have hnext := rot_stepR ds q mm (by omega) (by rw [HL.out]; omega)
          obtain ⟨ga, ea, _, hca, hfa, hseta⟩ := own_stored ho (k := q + 1) (by omega)
          cases ea
          obtain ⟨gb, eb, _, hcb, hfb, _⟩ := own_stored ho (k := q) (by omega)
          cases eb
          have h1 := hseta ((rot ds (q + 1) mm (mm + 1)).getD q 0)
          obtain ⟨gc, ec, _, _, _, hsetb⟩ := own_stored h1 (k := q) (by omega)
          cases ec
          have h2 := hsetb ((rot ds (q + 1) mm (mm + 1)).getD (q + 1) 0)
          rw [hnext] at h2
          obtain ⟨X, hX⟩ : ∃ X, X = (rot ds (q + 1) mm (mm + 1)).getD (q + 1) 0 := ⟨_, rfl⟩
          obtain ⟨Y, hY⟩ : ∃ Y, Y = (rot ds (q + 1) mm (mm + 1)).getD q 0 := ⟨_, rfl⟩
          rw [← hX] at hca h2
          rw [← hY] at hcb h2
          obtain ⟨p, hp⟩ : ∃ p, p = q + 1 := ⟨_, rfl⟩
          rw [← hp] at hca hfa h2 hlt hk1 hk2 ⊢
          have hkn : p < n := by omega
          have hqn : q < n := by omega
          have hne1 : ¬ p = q := by omega
          have hne2 : ¬ q = p := by omega
          have H2 := Lib.hid h2
          have hg2 := grown_drew (grown_set (grown_set hg p (.int .i64 (Y : Int))) q (.int .i64 (X : Int)))
          have HG2 := Lib.hid hg2
          have HPQ := Lib.hid hp
          have hz1 : (0 : Int) ≤ (p : Int) := Int.natCast_nonneg _
          have hz2 : (0 : Int) ≤ (q : Int) := Int.natCast_nonneg _
          have hz3 : (p : Int) < (n : Int) := Int.ofNat_lt.2 hkn
          have hz4 : (q : Int) < (n : Int) := Int.ofNat_lt.2 hqn
          have ht1 : ((p : Int)).toNat = p := by simp
          have ht2 : ((q : Int)).toNat = q := by simp
          have hw2 : IntKind.i64.wrap ((p : Int) - 1) = (q : Int) := by rw [IntKind.wrap_i64]; omega
          clear hX hY hp hseta hsetb h1 h2 hnext hg2 ho hg
          go_wp2_with fail
          go_big_region_o
          clear hw2 hz1 hz2 hz3 hz4 ht1 ht2 hca hcb hfa hfb
          go_wp2_with fail
          go_roundw
          case rel => exact ⟨q, by have := HPQ.out; omega, by have := HPQ.out; omega, by congr 1; have := HPQ.out; omega, H2.out, HG2.out⟩
          case measure => have := HPQ.out; simp [intOf]; omega
        · obtain rfl : k = i := by omega
          have hb2 : mm + 1 ≤ ds.length := by rw [HL.out]; exact hb
          have hps : (rot ds k mm (mm + 1)).Perm ds := rot_perm _ _ _ _ hb2 hj (by omega)
          have hss : St key (rot ds k mm (mm + 1)) := rot_st HST.out (fun p q h1 h2 h3 h4 => by
            have : q = mm := by omega
            subst this
            exact HHI.out p h1 h2) hb2 hj (by omega)
          have hsm := (rot_same ds k mm (mm + 1) hb2 hj (by omega)).wide hi (Nat.le_refl _)
          have hsr := right_srt HS.out hb2 hi hj HLO.out HHI.out
          have HE := Lib.hid (show ∃ es : List Nat, Own 2 wr B (some ⟨g, 0, none⟩) n c (ints es) ∧ w.grownBy wr (some g) ∧ es.Perm ds ∧ St key es ∧ Same ds es a (mm + 1) ∧ Srt key es a (mm + 1) from ⟨_, ho, hg, hps, hss, hsm, hsr⟩)
          clear hps hss hsm hsr ho hg
          go_wp2_with fail
          exact bodyPost_end (results_none Tryd.results175 _ _ _) rfl ⟨rfl, HE.out⟩
end Go.Proofs.YtdafdffmkjhhcaaDoor
namespace Go.Proofs.YtdafdffmkjhhcaaDoor
open Go.RowKit
set_option linter.unusedVariables false
set_option linter.unusedSimpArgs false
set_option maxRecDepth 100000

theorem rot_swap (ds : List Nat) (q : Nat) (hq : q + 1 < ds.length) : (ds.set (q + 1) (ds.getD q 0)).set q (ds.getD (q + 1) 0) = rot ds q (q + 1) (q + 2) := by
  refine list_eq_getD _ _ ds.length (by rw [List.length_set, List.length_set]) (rot_len _ _ _ _) fun p hp => ?_
  rw [getD_set _ _ _ _ (by rw [List.length_set]; omega), getD_set _ _ _ _ (by omega), rot_at _ _ _ _ p hp]
  by_cases h1 : p = q
  · rw [if_pos h1]; congr 1; (repeat' split) <;> omega
  · rw [if_neg h1]
    by_cases h2 : p = q + 1
    · rw [if_pos h2]; congr 1; (repeat' split) <;> omega
    · rw [if_neg h2]; congr 1; (repeat' split) <;> omega
/-- All but the number at j are in order from a to i; those behind j are above it. -/
def InsAt (key : Nat → Nat) (ds : List Nat) (a i j : Nat) : Prop := (∀ p q, a ≤ p → p < q → q ≤ i → p ≠ j → q ≠ j → key (ds.getD p 0) ≤ key (ds.getD q 0)) ∧ ∀ q, j < q → q ≤ i → key (ds.getD j 0) < key (ds.getD q 0)
theorem ins_start {key : Nat → Nat} {ds : List Nat} {a i : Nat} (h : Srt key ds a i) : InsAt key ds a i i := ⟨fun p q h1 h2 h3 h4 h5 => h p q h1 h2 (by omega), fun q h1 h2 => by omega⟩
theorem ins_stop {key : Nat → Nat} {ds : List Nat} {a i j : Nat} (h : InsAt key ds a i j) (hj : a ≤ j) (hs : j = a ∨ ∃ q, j = q + 1 ∧ ¬ key (ds.getD j 0) < key (ds.getD q 0)) : Srt key ds a (i + 1) := by
  intro p q hp hpq hq
  by_cases e1 : p = j
  · subst e1; exact Nat.le_of_lt (h.2 q hpq (by omega))
  · by_cases e2 : q = j
    · subst e2
      rcases hs with hs | ⟨t, ht, hs⟩
      · omega
      · by_cases e3 : p = t
        · subst e3; omega
        · have := h.1 p t hp (by omega) (by omega) e1 (by omega)
          omega
    · exact h.1 p q hp hpq (by omega) e1 e2
theorem ins_next {key : Nat → Nat} {ds : List Nat} {a i q : Nat} (h : InsAt key ds a i (q + 1)) (hq : a ≤ q) (hi : q + 1 ≤ i) (hl : i < ds.length) (hk : key (ds.getD (q + 1) 0) < key (ds.getD q 0)) : InsAt key (rot ds q (q + 1) (q + 2)) a i q := by
  have at1 : ∀ p, p ≠ q → p ≠ q + 1 → p < ds.length → (rot ds q (q + 1) (q + 2)).getD p 0 = ds.getD p 0 := fun p h1 h2 h3 => by
    rw [rot_at _ _ _ _ _ h3]; congr 1; (repeat' split) <;> omega
  have at2 : (rot ds q (q + 1) (q + 2)).getD q 0 = ds.getD (q + 1) 0 := by rw [rot_at _ _ _ _ _ (by omega)]; congr 1; (repeat' split) <;> omega
  have at3 : (rot ds q (q + 1) (q + 2)).getD (q + 1) 0 = ds.getD q 0 := by rw [rot_at _ _ _ _ _ (by omega)]; congr 1; (repeat' split) <;> omega
  constructor
  · intro p r hp hpr hr h1 h2
    by_cases e1 : p = q + 1
    · rw [e1, at3, at1 r h2 (by omega) (by omega)]; exact h.1 q r hq (by omega) hr (by omega) (by omega)
    · by_cases e2 : r = q + 1
      · rw [e2, at3, at1 p h1 e1 (by omega)]; exact h.1 p q hp (by omega) (by omega) e1 (by omega)
      · rw [at1 p h1 e1 (by omega), at1 r h2 e2 (by omega)]; exact h.1 p r hp hpr hr e1 e2
  · intro r h1 h2
    rw [at2]
    by_cases e2 : r = q + 1
    · rw [e2, at3]; exact hk
    · rw [at1 r (by omega) e2 (by omega)]; exact h.2 r (by omega) h2
set_option maxHeartbeats 6400000 in
theorem ins_any (B g n c a b N : Nat) (ds : List Nat) (key : Nat → Nat) (cf : Nat → Nat → Int) (f : FuncId) (lb : Array Value) (w0 w : World) (h : Own 2 w B (some ⟨g, 0, none⟩) n c (ints ds)) (hw : w0.grownBy w (some g)) (hn : n ≤ 1048576) (hb : b ≤ n) (hab : a ≤ b)
    (eg : ∀ args w, (callFunc f args).run Tryd.prog w = .ok (.enter f args) w) (hcmp : CmpOk w0 g N key cf f lb) (hds : ∀ x, x ∈ ds → x < N) (hst : St key ds) :
    Calls Tryd.prog 174 #[.slice (some ⟨g, 0, none⟩) n c, .int .i64 (a : Int), .int .i64 (b : Int), .func (.func f) #[] lb] w (SymPost key w B g n c a b ds) := by
  have hlen : ds.length = n := by have := h.len; rw [ints_len] at this; exact this
  have HL := Lib.hid hlen
  have HC := Lib.hid hcmp
  have HD := Lib.hid hds
  have HST := Lib.hid hst
  have mixed : Tryd.prog.follows .mixedOrders = true := by kernel_rfl
  clear hlen hcmp hds hst
  go_enter Tryd.func174, Tryd.ntmps174
  go_wp2_with fail
  go_loopw [8] (fun q wr => ∃ (i : Nat) (es : List Nat), a + 1 ≤ i ∧ (i ≤ b ∨ i = a + 1) ∧ q = .int .i64 i ∧ Own 2 wr B (some ⟨g, 0, none⟩) n c (ints es) ∧ w.grownBy wr (some g) ∧ es.Perm ds ∧ St key es ∧ Same ds es a b ∧ Srt key es a i) (fun q _ => b - (intOf q).toNat)
  case atStart => exact ⟨a + 1, ds, Nat.le_refl _, .inr rfl, by go_num, h, World.grownBy.refl _ _, List.Perm.refl _, HST.out, Same.refl _ _ _, Srt.one _ _ _ _ (Nat.le_refl _)⟩
  case round =>
    obtain ⟨i, es, hi, hib, rfl, ho, hg, hp, hs, hsm, hsr⟩ := hrel
    have HIB := Lib.hid hib
    clear h hib
    by_cases hlt : i < b
    · have hin := ins_start hsr
      obtain ⟨wo, rfl⟩ : ∃ wo : World, wo = wr := ⟨_, rfl⟩
      have HSTART := Lib.hid (show es.Perm ds ∧ St key es ∧ Same ds es a b ∧ InsAt key es a i i from ⟨hp, hs, hsm, hin⟩)
      clear hp hs hsm hsr hin
      go_wp2_with fail
      go_loopw [9] (fun q wr => ∃ (j : Nat) (fs : List Nat), a ≤ j ∧ j ≤ i ∧ q = .int .i64 j ∧ Own 2 wr B (some ⟨g, 0, none⟩) n c (ints fs) ∧ w.grownBy wr (some g) ∧ fs.Perm ds ∧ St key fs ∧ Same ds fs a b ∧ InsAt key fs a i j) (fun q _ => (intOf q).toNat)
      case atStart => exact ⟨i, es, by omega, Nat.le_refl _, rfl, ho, hg, HSTART.out⟩
      case round =>
        clear ho hg
        obtain ⟨j, fs, hj, hji, rfl, ho, hg, hp, hs, hsm, hin⟩ := hrel
        have HP := Lib.hid hp
        have HS := Lib.hid hs
        have HSM := Lib.hid hsm
        have HIN := Lib.hid hin
        have hfl : fs.length = n := by rw [← hsm.1, HL.out]
        have HFL := Lib.hid hfl
        clear hp hs hsm hin hfl
        by_cases hja : a < j
        · obtain ⟨q, hq⟩ : ∃ q, j = q + 1 := ⟨j - 1, by omega⟩
          have HQ := Lib.hid hq
          obtain ⟨g1, e1, _, hcj, hfj, _⟩ := own_stored ho (k := j) (by omega)
          cases e1
          obtain ⟨g2, e2, _, hcq, hfq, _⟩ := own_stored ho (k := q) (by omega)
          cases e2
          have hxj : fs.getD j 0 < N := HD.out _ (HP.out.mem_iff.1 (getD_mem' fs j (by rw [HFL.out]; omega)))
          have hxq : fs.getD q 0 < N := HD.out _ (HP.out.mem_iff.1 (getD_mem' fs q (by rw [HFL.out]; omega)))
          have hc := fun k => HC.out.2 (fs.getD j 0) (fs.getD q 0) (wr.drewN k) hxj hxq (grown_drewN' (hw.trans hg) k)
          have hz := HC.out.1 (fs.getD j 0) (fs.getD q 0)
          obtain ⟨Z, hZ⟩ : ∃ Z, Z = cf (fs.getD j 0) (fs.getD q 0) := ⟨_, rfl⟩
          rw [← hZ] at hc hz
          have HZ := Lib.hid hz
          obtain ⟨X, hX⟩ : ∃ X, X = fs.getD j 0 := ⟨_, rfl⟩
          obtain ⟨Y, hY⟩ : ∃ Y, Y = fs.getD q 0 := ⟨_, rfl⟩
          rw [← hX] at hcj hc
          rw [← hY] at hcq hc
          have HX := Lib.hid hX
          have HY := Lib.hid hY
          have hqn : q < n := by omega
          have hjn : j < n := by omega
          have hne1 : ¬ j = q := by omega
          have hne2 : ¬ q = j := by omega
          have hq1 : q + 1 ≤ j := by omega
          have hq2 : j ≤ q + 1 := by omega
          have hz1 : (0 : Int) ≤ (j : Int) := Int.natCast_nonneg _
          have hz2 : (0 : Int) ≤ (q : Int) := Int.natCast_nonneg _
          have hz3 : (j : Int) < (n : Int) := Int.ofNat_lt.2 hjn
          have hz4 : (q : Int) < (n : Int) := Int.ofNat_lt.2 hqn
          have ht1 : ((j : Int)).toNat = j := by simp
          have ht2 : ((q : Int)).toNat = q := by simp
          clear hq hxj hxq hz hZ hX hY
          by_cases hzz : Z < 0
          · have hd : decide (Z < 0) = true := decide_eq_true hzz
            have hw2 : IntKind.i64.wrap ((j : Int) - 1) = (q : Int) := by rw [IntKind.wrap_i64]; omega
            go_wp2_with fail
            go_quiet_o (first | (go_at_fn f; refine Calls.quiet_of (hc _)))
            have hoD : Own 2 (wr.drewN nq) B (some ⟨g, 0, none⟩) n c (ints fs) := ho
            have HG2 : Hid (w.grownBy (wr.drewN nq) (some g)) := Lib.hid (grown_drewN' hg nq)
            clear hcj hcq hfj hfq hc hd ho hg hw2
            generalize wr.drewN nq = wq at hoD HG2 ⊢
            obtain ⟨g3, e3, _, cj2, fj2, hset⟩ := own_stored hoD (k := j) (by omega)
            cases e3
            obtain ⟨g4, e4, _, cq2, fq2, _⟩ := own_stored hoD (k := q) (by omega)
            cases e4
            have k1 := hset (fs.getD q 0)
            obtain ⟨g5, e5, _, _, _, hset2⟩ := own_stored k1 (k := q) (by omega)
            cases e5
            have k2 := hset2 (fs.getD j 0)
            have hrs : (fs.set j (fs.getD q 0)).set q (fs.getD j 0) = rot fs q (q + 1) (q + 2) := by rw [HQ.out]; exact rot_swap fs q (by rw [HFL.out]; omega)
            rw [hrs, ← HX.out, ← HY.out] at k2
            rw [← HX.out] at cj2
            rw [← HY.out] at cq2
            have HO2 := Lib.hid k2
            have hw2 : IntKind.i64.wrap ((j : Int) - 1) = (q : Int) := by rw [IntKind.wrap_i64]; omega
            clear k1 k2 hset hset2 hrs hoD
            go_wp2_with fail
            go_big_region_o
            clear hw2 hz1 hz2 hz3 hz4 ht1 ht2 cj2 cq2 fj2 fq2
            have hkey : key (fs.getD (q + 1) 0) < key (fs.getD q 0) := by
              have := HZ.out.1 hzz
              rw [HQ.out] at this; exact this
            have HFIN := Lib.hid (show (rot fs q (q + 1) (q + 2)).Perm ds ∧ St key (rot fs q (q + 1) (q + 2)) ∧ Same ds (rot fs q (q + 1) (q + 2)) a b ∧ InsAt key (rot fs q (q + 1) (q + 2)) a i q from
              ⟨(rot_perm _ _ _ _ (by rw [HFL.out]; omega) (by omega) (by omega)).trans HP.out,
               rot_st HS.out (fun p r h1 h2 h3 h4 => by
                 have e1 : p = q := by omega
                 have e2 : r = q + 1 := by omega
                 rw [e1, e2]; exact hkey) (by rw [HFL.out]; omega) (by omega) (by omega),
               HSM.out.trans ((rot_same _ _ _ _ (by rw [HFL.out]; omega) (by omega) (by omega)).wide (by omega) (by omega)),
               ins_next (by have := HIN.out; rw [HQ.out] at this; exact this) (by omega) (by omega) (by rw [HFL.out]; omega) hkey⟩)
            clear hkey
            go_wp2_with fail
            go_roundw
            case rel => exact ⟨q, rot fs q (q + 1) (q + 2), by omega, by omega, by congr 1; omega, HO2.out, grown_drew (grown_set (grown_set HG2.out j _) q _), HFIN.out⟩
            case measure => simp [intOf]; omega
          · have hd : decide (Z < 0) = false := decide_eq_false hzz
            have HSTOP := Lib.hid (ins_stop HIN.out hj (.inr ⟨q, HQ.out, fun h => by have := HZ.out.2 h; omega⟩))
            have hw2 : IntKind.i64.wrap ((j : Int) - 1) = (q : Int) := by rw [IntKind.wrap_i64]; omega
            go_wp2_with fail
            go_quiet_o (first | (go_at_fn f; refine Calls.quiet_of (hc _)))
            have HG2 : Hid (w.grownBy (wr.drewN nq) (some g)) := Lib.hid (grown_drewN' hg nq)
            clear hw2 hz1 hz2 hz3 hz4 ht1 ht2 hcj hcq hfj hfq hc hd hg
            go_wp2_with fail
            go_roundw
            case rel => exact ⟨i + 1, fs, by omega, .inl (by omega), by go_num, ho, HG2.out, HP.out, HS.out, HSM.out, HSTOP.out⟩
            case measure => simp [intOf]; omega
        · obtain rfl : j = a := by omega
          have HSTOP := Lib.hid (ins_stop HIN.out hj (.inl rfl))
          go_wp2_with fail
          refine wp_region_held_drew (S := (fun ww => Below wr.heap.size wr ww)) (by kernel_rfl) ((Below.refl _ _).drew) (fun hHeld => ?_)
          refine wpAnyH_take (i := 0) (oi := ⟨some 18, _, _, _, _, _⟩) (v := ?_) rfl (by kernel_rfl) (by kernel_rfl) (by kernel_rfl) (fun _ _ _ h => h) (Or.inl ⟨by kernel_rfl, ?_⟩) (by assumption) ?_
          rotate_left
          · (intro w9 hS9; (try dsimp only at hS9); go_simp; try with_reducible rfl)
          try simp only [Act.put, List.setIfInBounds_toArray, List.set_cons_zero, List.set_cons_succ]
          refine wpAnyH_take (i := 1) (oi := ⟨some 19, _, _, _, _, _⟩) (v := ?_) rfl (by kernel_rfl) (by kernel_rfl) (by kernel_rfl) (fun _ _ _ h => h) (Or.inl ⟨by kernel_rfl, ?_⟩) (by assumption) ?_
          rotate_left
          · (intro w9 hS9; (try dsimp only at hS9); go_simp; try with_reducible rfl)
          try simp only [Act.put, List.setIfInBounds_toArray, List.set_cons_zero, List.set_cons_succ]
          refine wpAnyH_take (i := 2) (oi := ⟨some 20, _, _, _, _, _⟩) (v := ?_) rfl (by kernel_rfl) (by kernel_rfl) (by kernel_rfl) (fun _ _ _ h => h) (Or.inl ⟨by kernel_rfl, ?_⟩) (by assumption) ?_
          rotate_left
          · (intro w9 hS9; (try dsimp only at hS9); go_simp; try with_reducible rfl)
          try simp only [Act.put, List.setIfInBounds_toArray, List.set_cons_zero, List.set_cons_succ]
          refine wpAnyH_take (i := 3) (oi := ⟨some 21, _, _, _, _, _⟩) (v := ?_) rfl (by kernel_rfl) (by kernel_rfl) (by kernel_rfl) (fun _ _ _ h => h) (Or.inl ⟨by kernel_rfl, ?_⟩) (by assumption) ?_
          rotate_left
          · (intro w9 hS9; (try dsimp only at hS9); go_simp; try with_reducible rfl)
          try simp only [Act.put, List.setIfInBounds_toArray, List.set_cons_zero, List.set_cons_succ]
          refine wpAnyH_take (i := 4) (oi := ⟨some 22, _, _, _, _, _⟩) (v := undef) rfl (by kernel_rfl) (by kernel_rfl) (by kernel_rfl) (fun _ _ _ h => h) (Or.inr ⟨by kernel_rfl, rfl⟩) (by assumption) ?_
          try simp only [Act.put, List.setIfInBounds_toArray, List.set_cons_zero, List.set_cons_succ]
          refine wpAnyH_take (i := 5) (oi := ⟨some 23, _, _, _, _, _⟩) (v := undef) rfl (by kernel_rfl) (by kernel_rfl) (by kernel_rfl) (fun _ _ _ h => h) (Or.inr ⟨by kernel_rfl, rfl⟩) (by assumption) ?_
          try simp only [Act.put, List.setIfInBounds_toArray, List.set_cons_zero, List.set_cons_succ]
          refine wpAnyH_take (i := 6) (oi := ⟨some 24, _, _, _, _, _⟩) (v := undef) rfl (by kernel_rfl) (by kernel_rfl) (by kernel_rfl) (fun _ _ _ h => h) (Or.inr ⟨by kernel_rfl, rfl⟩) (by assumption) ?_
          try simp only [Act.put, List.setIfInBounds_toArray, List.set_cons_zero, List.set_cons_succ]
          refine wpAnyH_take (i := 7) (oi := ⟨some 25, _, _, _, _, _⟩) (v := undef) rfl (by kernel_rfl) (by kernel_rfl) (by kernel_rfl) (fun _ _ _ h => h) (Or.inr ⟨by kernel_rfl, rfl⟩) (by assumption) ?_
          try simp only [Act.put, List.setIfInBounds_toArray, List.set_cons_zero, List.set_cons_succ]
          refine wpAnyH_take (i := 8) (oi := ⟨some 26, _, _, _, _, _⟩) (v := undef) rfl (by kernel_rfl) (by kernel_rfl) (by kernel_rfl) (fun _ _ _ h => h) (Or.inr ⟨by kernel_rfl, rfl⟩) (by assumption) ?_
          try simp only [Act.put, List.setIfInBounds_toArray, List.set_cons_zero, List.set_cons_succ]
          refine wpAnyH_take (i := 9) (oi := ⟨some 27, _, _, _, _, _⟩) (v := undef) rfl (by kernel_rfl) (by kernel_rfl) (by kernel_rfl) (fun _ _ _ h => h) (Or.inr ⟨by kernel_rfl, rfl⟩) (by assumption) ?_
          try simp only [Act.put, List.setIfInBounds_toArray, List.set_cons_zero, List.set_cons_succ]
          refine wpAnyH_take (i := 10) (oi := ⟨some 28, _, _, _, _, _⟩) (v := undef) rfl (by kernel_rfl) (by kernel_rfl) (by kernel_rfl) (fun _ _ _ h => h) (Or.inr ⟨by kernel_rfl, rfl⟩) (by assumption) ?_
          try simp only [Act.put, List.setIfInBounds_toArray, List.set_cons_zero, List.set_cons_succ]
          refine wpAnyH_take (i := 11) (oi := ⟨some 29, _, _, _, _, _⟩) (v := undef) rfl (by kernel_rfl) (by kernel_rfl) (by kernel_rfl) (fun _ _ _ h => h) (Or.inr ⟨by kernel_rfl, rfl⟩) (by assumption) ?_
          try simp only [Act.put, List.setIfInBounds_toArray, List.set_cons_zero, List.set_cons_succ]
          refine wpAnyH_take (i := 12) (oi := ⟨some 30, _, _, _, _, _⟩) (v := undef) rfl (by kernel_rfl) (by kernel_rfl) (by kernel_rfl) (fun _ _ _ h => h) (Or.inr ⟨by kernel_rfl, rfl⟩) (by assumption) ?_
          try simp only [Act.put, List.setIfInBounds_toArray, List.set_cons_zero, List.set_cons_succ]
          refine wpAnyH_take (i := 13) (oi := ⟨some 31, _, _, _, _, _⟩) (v := undef) rfl (by kernel_rfl) (by kernel_rfl) (by kernel_rfl) (fun _ _ _ h => h) (Or.inr ⟨by kernel_rfl, rfl⟩) (by assumption) ?_
          try simp only [Act.put, List.setIfInBounds_toArray, List.set_cons_zero, List.set_cons_succ]
          refine wpAnyH_take (i := 14) (oi := ⟨some 32, _, _, _, _, _⟩) (v := undef) rfl (by kernel_rfl) (by kernel_rfl) (by kernel_rfl) (fun _ _ _ h => h) (Or.inr ⟨by kernel_rfl, rfl⟩) (by assumption) ?_
          try simp only [Act.put, List.setIfInBounds_toArray, List.set_cons_zero, List.set_cons_succ]
          refine wpAnyH_take (i := 15) (oi := ⟨some 33, _, _, _, _, _⟩) (v := undef) rfl (by kernel_rfl) (by kernel_rfl) (by kernel_rfl) (fun _ _ _ h => h) (Or.inr ⟨by kernel_rfl, rfl⟩) (by assumption) ?_
          try simp only [Act.put, List.setIfInBounds_toArray, List.set_cons_zero, List.set_cons_succ]
          refine wpAnyH_take (i := 16) (oi := ⟨some 34, _, _, _, _, _⟩) (v := ?_) rfl (by kernel_rfl) (by kernel_rfl) (by kernel_rfl) (fun _ _ _ h => h) (Or.inl ⟨by kernel_rfl, ?_⟩) (by assumption) ?_
          rotate_left
          · (intro w9 hS9; (try dsimp only at hS9); go_simp; try with_reducible rfl)
          try simp only [Act.put, List.setIfInBounds_toArray, List.set_cons_zero, List.set_cons_succ]
          refine wpAnyH_done (by kernel_rfl) ?_ _
          have HG2 : Hid (w.grownBy wr.drew (some g)) := Lib.hid (grown_drew hg)
          clear hg
          go_wp2_with fail
          go_roundw
          case rel => exact ⟨i + 1, fs, by omega, .inl (by omega), by go_num, ho, HG2.out, HP.out, HS.out, HSM.out, HSTOP.out⟩
          case measure => simp [intOf]; omega
    · have hfin : Srt key es a b := hsr.sub (Nat.le_refl _) (by omega)
      have HFIN := Lib.hid (show es.Perm ds ∧ St key es ∧ Same ds es a b ∧ Srt key es a b from ⟨hp, hs, hsm, hfin⟩)
      clear hp hs hsm hsr hfin
      go_wp2_with fail
      exact bodyPost_end (results_none Tryd.results174 _ _ _) rfl ⟨rfl, es, ho, hg, HFIN.out⟩
end Go.Proofs.YtdafdffmkjhhcaaDoor
namespace Go.Proofs.YtdafdffmkjhhcaaDoor
open Go.RowKit
set_option linter.unusedVariables false
set_option maxRecDepth 100000

/-- The bounds between which the cut is sought. -/
def CutOk (a m b mid s0 r0 : Nat) : Prop := a < m ∧ m < b ∧ 2 * mid ≤ a + b ∧ a + b < 2 * mid + 2 ∧ ((mid < m ∧ s0 + b = mid + m ∧ r0 = mid) ∨ (m ≤ mid ∧ s0 = a ∧ r0 = m))
theorem CutOk.le {a m b mid s0 r0 : Nat} (h : CutOk a m b mid s0 r0) : a ≤ s0 ∧ s0 ≤ r0 ∧ r0 ≤ m ∧ r0 ≤ mid ∧ a ≤ mid ∧ mid ≤ b ∧ mid + m - s0 ≤ b := by
  obtain ⟨h1, h2, h3, h4, h5⟩ := h
  rcases h5 with ⟨h5, h6, h7⟩ | ⟨h5, h6, h7⟩ <;> omega
theorem CutOk.at_ {a m b mid s0 r0 t : Nat} (h : CutOk a m b mid s0 r0) (h1 : s0 ≤ t) (h2 : t < r0) : t < m ∧ a ≤ t ∧ m ≤ mid + m - 1 - t ∧ mid + m - 1 - t < b := by
  obtain ⟨g1, g2, g3, g4, h5⟩ := h
  rcases h5 with ⟨h5, h6, h7⟩ | ⟨h5, h6, h7⟩ <;> omega
/-- Where the test holds, it holds further on. -/
theorem cut_next {key : Nat → Nat} {ds : List Nat} {a m b mid s0 r0 c t : Nat} (h : CutOk a m b mid s0 r0) (hA : Srt key ds a m) (hB : Srt key ds m b) (h1 : s0 ≤ c) (h2 : c ≤ t) (h3 : t < r0) (hc : key (ds.getD (mid + m - 1 - c) 0) < key (ds.getD c 0)) : key (ds.getD (mid + m - 1 - t) 0) < key (ds.getD t 0) := by
  by_cases e : c = t
  · subst e; exact hc
  · have a1 := h.at_ h1 (by omega)
    have a2 := h.at_ (t := t) (by omega) h3
    have b1 := hA c t (by omega) (by omega) (by omega)
    have b2 := hB (mid + m - 1 - t) (mid + m - 1 - c) (by omega) (by omega) (by omega)
    omega
theorem cut_prev {key : Nat → Nat} {ds : List Nat} {a m b mid s0 r0 c t : Nat} (h : CutOk a m b mid s0 r0) (hA : Srt key ds a m) (hB : Srt key ds m b) (h1 : s0 ≤ t) (h2 : t ≤ c) (h3 : c < r0) (hc : ¬ key (ds.getD (mid + m - 1 - c) 0) < key (ds.getD c 0)) : ¬ key (ds.getD (mid + m - 1 - t) 0) < key (ds.getD t 0) := fun h9 => hc (cut_next h hA hB h1 h2 h3 h9)
structure CutPost (key : Nat → Nat) (ds : List Nat) (a m b mid S : Nat) : Prop where
  le1 : a ≤ S
  le2 : S ≤ m
  le3 : S ≤ mid
  le4 : m ≤ mid + m - S
  le5 : mid + m - S ≤ b
  le6 : mid ≤ mid + m - S
  cross : Cross key ds S m (mid + m - S)
  s1 : Srt key (rot ds S m (mid + m - S)) a S
  s2 : Srt key (rot ds S m (mid + m - S)) S mid
  s3 : Srt key (rot ds S m (mid + m - S)) mid (mid + m - S)
  s4 : Srt key (rot ds S m (mid + m - S)) (mid + m - S) b
  over : ∀ p q, a ≤ p → p < mid → mid ≤ q → q < b → key ((rot ds S m (mid + m - S)).getD p 0) ≤ key ((rot ds S m (mid + m - S)).getD q 0)
theorem cut_post {key : Nat → Nat} {ds : List Nat} {a m b mid s0 r0 S : Nat} (h : CutOk a m b mid s0 r0) (hA : Srt key ds a m) (hB : Srt key ds m b) (hb : b ≤ ds.length) (h1 : s0 ≤ S) (h2 : S ≤ r0)
    (hlo : ∀ t, s0 ≤ t → t < S → ¬ key (ds.getD (mid + m - 1 - t) 0) < key (ds.getD t 0)) (hhi : ∀ t, S ≤ t → t < r0 → key (ds.getD (mid + m - 1 - t) 0) < key (ds.getD t 0)) : CutPost key ds a m b mid S := by
  have hle := h.le
  obtain ⟨E, hE⟩ : ∃ E, E = mid + m - S := ⟨_, rfl⟩
  have hcross : Cross key ds S m E := by
    intro p q hp1 hp2 hq1 hq2
    have hS : S < r0 := by
      obtain ⟨g1, g2, g3, g4, h5⟩ := h
      rcases h5 with ⟨h5, h6, h7⟩ | ⟨h5, h6, h7⟩ <;> omega
    have c1 := hhi S (Nat.le_refl _) hS
    have e1 : mid + m - 1 - S = E - 1 := by omega
    rw [e1] at c1
    have c2 : key (ds.getD q 0) ≤ key (ds.getD (E - 1) 0) := by
      by_cases e : q = E - 1
      · rw [e]; exact Nat.le_refl _
      · exact hB q (E - 1) hq1 (by omega) (by omega)
    have c3 : key (ds.getD S 0) ≤ key (ds.getD p 0) := by
      by_cases e : p = S
      · rw [e]; exact Nat.le_refl _
      · exact hA S p (by omega) (by omega) hp2
    omega
  have gap : S + (E - m) = mid := by omega
  have at1 : ∀ p, p < S → (rot ds S m E).getD p 0 = ds.getD p 0 := fun p hp => rot_low _ _ _ _ _ (by omega) (by omega) (by omega) hp
  have at2 : ∀ p, S ≤ p → p < mid → (rot ds S m E).getD p 0 = ds.getD (p - S + m) 0 := fun p h3 h4 => rot_left _ _ _ _ _ (by omega) (by omega) (by omega) h3 (by omega)
  have at3 : ∀ p, mid ≤ p → p < E → (rot ds S m E).getD p 0 = ds.getD (p - (E - m)) 0 := fun p h3 h4 => rot_right _ _ _ _ _ (by omega) (by omega) (by omega) (by omega) h4
  have at4 : ∀ p, E ≤ p → p < b → (rot ds S m E).getD p 0 = ds.getD p 0 := fun p h3 h4 => rot_high _ _ _ _ _ (by omega) (by omega) (by omega) h3
  subst hE
  refine ⟨by omega, by omega, by omega, by omega, by omega, by omega, hcross, ?_, ?_, ?_, ?_, ?_⟩
  · intro p q hp hpq hq
    rw [at1 p (by omega), at1 q hq]; exact hA p q hp hpq (by omega)
  · intro p q hp hpq hq
    rw [at2 p hp (by omega), at2 q (by omega) hq]; exact hB _ _ (by omega) (by omega) (by omega)
  · intro p q hp hpq hq
    rw [at3 p hp (by omega), at3 q (by omega) hq]; exact hA _ _ (by omega) (by omega) (by omega)
  · intro p q hp hpq hq
    rw [at4 p hp (by omega), at4 q (by omega) hq]; exact hB _ _ (by omega) (by omega) hq
  · intro p q hp1 hp2 hq1 hq2
    by_cases p1 : p < S
    · rw [at1 p p1]
      by_cases q1 : q < mid + m - S
      · rw [at3 q hq1 q1]; exact hA _ _ hp1 (by omega) (by omega)
      · rw [at4 q (by omega) hq2]
        have hS : s0 < S := by
          obtain ⟨g1, g2, g3, g4, h5⟩ := h
          rcases h5 with ⟨h5, h6, h7⟩ | ⟨h5, h6, h7⟩ <;> omega
        have c1 := hlo (S - 1) (by omega) (by omega)
        have e1 : mid + m - 1 - (S - 1) = mid + m - S := by omega
        rw [e1] at c1
        have c2 : key (ds.getD p 0) ≤ key (ds.getD (S - 1) 0) := by
          by_cases e : p = S - 1
          · rw [e]; exact Nat.le_refl _
          · exact hA p (S - 1) hp1 (by omega) (by omega)
        have c3 : key (ds.getD (mid + m - S) 0) ≤ key (ds.getD q 0) := by
          by_cases e : q = mid + m - S
          · rw [e]; exact Nat.le_refl _
          · exact hB _ q (by omega) (by omega) hq2
        omega
    · rw [at2 p (by omega) hp2]
      by_cases q1 : q < mid + m - S
      · rw [at3 q hq1 q1]
        exact Nat.le_of_lt (hcross (q - (mid + m - S - m)) (p - S + m) (by omega) (by omega) (by omega) (by omega))
      · rw [at4 q (by omega) hq2]; exact hB _ _ (by omega) (by omega) hq2
theorem rot_id (ds : List Nat) (s m e : Nat) (h : ¬ (s < m ∧ m < e)) (h1 : s ≤ m) (h2 : m ≤ e) : rot ds s m e = ds := by
  refine list_eq_getD _ _ ds.length (rot_len _ _ _ _) rfl fun p hp => ?_
  rw [rot_at _ _ _ _ _ hp]
  congr 1; (repeat' split) <;> omega
/-- Behind both calls. -/
theorem cut_end {key : Nat → Nat} {d1 d2 d3 : List Nat} {a mid b : Nat} (hover : ∀ p q, a ≤ p → p < mid → mid ≤ q → q < b → key (d1.getD p 0) ≤ key (d1.getD q 0)) (h1 : d2.Perm d1) (s1 : Same d1 d2 a mid) (h2 : d3.Perm d2) (s2 : Same d2 d3 mid b) (ha : a ≤ mid) (hm : mid ≤ b) (hb : b ≤ d1.length) (k1 : Srt key d2 a mid) (k2 : Srt key d3 mid b) : Srt key d3 a b := by
  have hl : d2.length = d1.length := s1.1.symm
  refine (k1.same s2 (.inl (Nat.le_refl _))).join k2 fun p q hp1 hp2 hq1 hq2 => ?_
  have c1 : All (fun x => ∀ q, mid ≤ q → q < b → key x ≤ key (d1.getD q 0)) d2 a mid := All.perm (fun p h3 h4 q h5 h6 => hover p q h3 h4 h5 h6) s1 h1 ha (by omega)
  have c2 : All (fun y => key (d2.getD p 0) ≤ key y) d3 mid b := All.perm (fun q h3 h4 => by
    have := c1 p hp1 hp2 q h3 h4
    rw [s1.2 q (.inr h3)]; exact this) s2 h2 hm (by omega)
  rw [s2.2 p (.inl hp2)]
  exact c2 q hq1 hq2
end Go.Proofs.YtdafdffmkjhhcaaDoor
namespace Go.Proofs.YtdafdffmkjhhcaaDoor
open Go.RowKit
set_option linter.unusedVariables false
set_option linter.unusedSimpArgs false
set_option maxRecDepth 100000

theorem sym_fin {key : Nat → Nat} {ds e1 e2 e3 : List Nat} {a m b mid S E : Nat} (he : e1 = rot ds S m E) (hp1 : e1.Perm ds) (hs1 : Same ds e1 S E) (hp2 : e2.Perm e1) (hs2 : Same e1 e2 a mid) (hp3 : e3.Perm e2) (hs3 : Same e2 e3 mid b) (hE : E = mid + m - S) (hcp : CutPost key ds a m b mid S) (hb : b ≤ ds.length) (k1 : Srt key e2 a mid) (k2 : Srt key e3 mid b) (hmb : a < m ∧ m < b) : e3.Perm ds ∧ Same ds e3 a b ∧ Srt key e3 a b := by
  have q1 := hcp.le1
  have q2 := hcp.le2
  have q3 := hcp.le3
  have q5 := hcp.le5
  have q6 := hcp.le6
  have w1 := hs1.wide q1 (by omega : E ≤ b)
  have w2 := hs2.wide (Nat.le_refl a) (by omega : mid ≤ b)
  have w3 := hs3.wide (by omega : a ≤ mid) (Nat.le_refl b)
  refine ⟨(hp3.trans hp2).trans hp1, (w1.trans w2).trans w3, ?_⟩
  refine cut_end (d1 := e1) ?_ hp2 hs2 hp3 hs3 (by omega) (by omega) (by rw [← hs1.1]; exact hb) k1 k2
  rw [he, hE]
  exact hcp.over
set_option maxHeartbeats 25600000 in
theorem sym_genL (B g n c a m b N : Nat) (ds : List Nat) (key : Nat → Nat) (cf : Nat → Nat → Int) (f : FuncId) (lb : Array Value) (w0 w : World) (h : Own 2 w B (some ⟨g, 0, none⟩) n c (ints ds)) (hw : w0.grownBy w (some g)) (hn : n ≤ 1048576) (hb : b ≤ n) (hab : a + 1 < m) (hmb : m + 1 < b)
    (eg : ∀ args w, (callFunc f args).run Tryd.prog w = .ok (.enter f args) w) (hcmp : CmpOk w0 g N key cf f lb) (hds : ∀ x, x ∈ ds → x < N) (hst : St key ds) (hA : Srt key ds a m) (hB : Srt key ds m b) (hbr : (a + b) / 2 < m)
    (ih : ∀ (a' m' b' : Nat) (es : List Nat) (w' : World), b' - a' < b - a → a ≤ a' → b' ≤ b → a' < m' → m' < b' → Own 2 w' B (some ⟨g, 0, none⟩) n c (ints es) → w0.grownBy w' (some g) → (∀ x, x ∈ es → x < N) → St key es → Srt key es a' m' → Srt key es m' b' → Calls Tryd.prog 175 #[.slice (some ⟨g, 0, none⟩) n c, .int .i64 (a' : Int), .int .i64 (m' : Int), .int .i64 (b' : Int), .func (.func f) #[] lb] w' (SymPost key w' B g n c a' b' es)) :
    Calls Tryd.prog 175 #[.slice (some ⟨g, 0, none⟩) n c, .int .i64 (a : Int), .int .i64 (m : Int), .int .i64 (b : Int), .func (.func f) #[] lb] w (SymPost key w B g n c a b ds) := by
  have hlen : ds.length = n := by have := h.len; rw [ints_len] at this; exact this
  have HL := Lib.hid hlen
  have HC := Lib.hid hcmp
  have HD := Lib.hid hds
  have HST := Lib.hid hst
  have HA := Lib.hid hA
  have HBB := Lib.hid hB
  have HIH := Lib.hid ih
  have HB : Hid (b ≤ ds.length) := Lib.hid (by omega)
  have HMB : Hid (a < m ∧ m < b) := Lib.hid ⟨by omega, by omega⟩
  obtain ⟨d1, hd1⟩ : ∃ d1, d1 = m - a := ⟨_, rfl⟩
  have hx1 : (m : Int) - (a : Int) = (d1 : Int) := by omega
  have hx2 : ((d1 : Int) == 1) = false := by simp; omega
  obtain ⟨d2, hd2⟩ : ∃ d2, d2 = b - m := ⟨_, rfl⟩
  have hx3 : (b : Int) - (m : Int) = (d2 : Int) := by omega
  have hx4 : ((d2 : Int) == 1) = false := by simp; omega
  obtain ⟨mid, hmid⟩ : ∃ mid, mid = (a + b) / 2 := ⟨_, rfl⟩
  rw [← hmid] at hbr
  have hx5 : ((a : Int) + (b : Int)) / 2 = (mid : Int) := by omega
  obtain ⟨nn, hnn⟩ : ∃ nn, nn = mid + m := ⟨_, rfl⟩
  have hx6 : (mid : Int) + (m : Int) = (nn : Int) := by omega
  obtain ⟨s0, hs0⟩ : ∃ s0, s0 = nn - b := ⟨_, rfl⟩
  have hcut : CutOk a m b mid s0 mid := ⟨by omega, by omega, by omega, by omega, by omega⟩
  obtain ⟨c1, c2, c3, c4, c5, c6, c7⟩ := hcut.le
  have HCUT := Lib.hid hcut
  have hx7 : (nn : Int) - (b : Int) = (s0 : Int) := by omega
  obtain ⟨pp, hpp⟩ : ∃ pp, pp = nn - 1 := ⟨_, rfl⟩
  have hx8 : (nn : Int) - 1 = (pp : Int) := by omega
  have HPP : Hid (pp = mid + m - 1) := Lib.hid (by omega)
  have HNN : Hid (nn = mid + m) := Lib.hid hnn
  have hppn : pp + 1 = nn := by omega
  have hnnb : nn ≤ 2 * n := by omega
  have HS0 := Lib.hid hs0

  have mixed : Tryd.prog.follows .mixedOrders = true := by kernel_rfl
  clear hlen hcmp hds hst hA hB ih hcut hd1 hd2 hmid hnn hpp hs0
  go_enter Tryd.func175, Tryd.ntmps175
  go_wp2_with fail
  go_loopw [20, 21] (fun p q wr => ∃ (i j : Nat), s0 ≤ i ∧ i ≤ j ∧ j ≤ mid ∧ p = .int .i64 i ∧ q = .int .i64 j ∧ Own 2 wr B (some ⟨g, 0, none⟩) n c (ints ds) ∧ w.grownBy wr (some g) ∧ (∀ t, s0 ≤ t → t < i → ¬ key (ds.getD (mid + m - 1 - t) 0) < key (ds.getD t 0)) ∧ (∀ t, j ≤ t → t < mid → key (ds.getD (mid + m - 1 - t) 0) < key (ds.getD t 0))) (fun p q _ => (intOf q).toNat - (intOf p).toNat)
  case atStart => exact ⟨s0, mid, Nat.le_refl _, by omega, Nat.le_refl _, rfl, rfl, h, World.grownBy.refl _ _, fun t h1 h2 => by omega, fun t h1 h2 => by omega⟩
  case round =>
    obtain ⟨i, j, hi, hij, hj, rfl, rfl, ho, hg, hlo, hhi⟩ := hrel
    have HLO := Lib.hid hlo
    have HHI := Lib.hid hhi
    clear hlo hhi h
    by_cases hlt : i < j
    · obtain ⟨mm, hmm⟩ : ∃ mm, mm = (i + j) / 2 := ⟨_, rfl⟩
      have hdiv : ((i : Int) + (j : Int)) / 2 = (mm : Int) := by omega
      have hm1 : i ≤ mm := by omega
      have hm2 : mm < j := by omega
      obtain ⟨t1, t2, t3, t4⟩ := HCUT.out.at_ (t := mm) (by omega) (by omega)
      obtain ⟨q, hq⟩ : ∃ q, q = mid + m - 1 - mm := ⟨_, rfl⟩
      rw [← hq] at t3 t4
      have hpq : (pp : Int) - (mm : Int) = (q : Int) := by have := HPP.out; omega
      obtain ⟨g1, e1, _, hcm, _, _⟩ := own_stored ho (k := mm) (by omega)
      cases e1
      obtain ⟨g2, e2, _, hcq, _, _⟩ := own_stored ho (k := q) (by omega)
      cases e2
      have hxq : ds.getD q 0 < N := HD.out _ (getD_mem' ds q (by rw [HL.out]; omega))
      have hxm : ds.getD mm 0 < N := HD.out _ (getD_mem' ds mm (by rw [HL.out]; omega))
      have hc := fun k => HC.out.2 (ds.getD q 0) (ds.getD mm 0) (wr.drewN k) hxq hxm (grown_drewN' (hw.trans hg) k)
      have hz := HC.out.1 (ds.getD q 0) (ds.getD mm 0)
      rw [hq] at hz
      have HZ0 := Lib.hid hz
      obtain ⟨Z, hZ⟩ : ∃ Z, Z = cf (ds.getD q 0) (ds.getD mm 0) := ⟨_, rfl⟩
      have HZ : Hid (Z < 0 ↔ key (ds.getD (mid + m - 1 - mm) 0) < key (ds.getD mm 0)) := Lib.hid (by rw [hZ, hq]; exact hz)
      rw [← hZ] at hc
      obtain ⟨X, hX⟩ : ∃ X, X = ds.getD q 0 := ⟨_, rfl⟩
      obtain ⟨Y, hY⟩ : ∃ Y, Y = ds.getD mm 0 := ⟨_, rfl⟩
      rw [← hX] at hcq hc
      rw [← hY] at hcm hc
      have hqn : q < n := by omega
      have hmn : mm < n := by omega
      have hwq : IntKind.i64.wrap ((pp : Int) - (mm : Int)) = (q : Int) := by rw [hpq, IntKind.wrap_i64]; omega
      have hz1 : (0 : Int) ≤ (q : Int) := Int.natCast_nonneg _
      have hz2 : (q : Int) < (n : Int) := Int.ofNat_lt.2 hqn
      have hz3 : ((q : Int)).toNat = q := by simp
      clear hmm hxq hxm hX hY hZ hz hq HZ0 hpq
      by_cases hzz : Z < 0
      · have hd : decide (Z < 0) = true := decide_eq_true hzz
        go_wp2_with fail
        go_quiet_o (first | (go_at_fn f; refine Calls.quiet_of (hc _)))
        clear hdiv hc hcm hcq hd hwq hz1 hz2 hz3
        go_wp2_with fail
        go_roundw
        case rel => exact ⟨i, mm, hi, by omega, by omega, rfl, rfl, ho, grown_drewN' hg _, HLO.out, fun t h1 h2 => cut_next HCUT.out HA.out HBB.out (by omega) h1 h2 (HZ.out.1 hzz)⟩
        case measure => simp [intOf]; omega
      · have hd : decide (Z < 0) = false := decide_eq_false hzz
        go_wp2_with fail
        go_quiet_o (first | (go_at_fn f; refine Calls.quiet_of (hc _)))
        clear hdiv hc hcm hcq hd hwq hz1 hz2 hz3
        go_wp2_with fail
        go_roundw
        case rel => exact ⟨mm + 1, j, by omega, by omega, hj, by go_num, rfl, ho, grown_drewN' hg _, fun t h1 h2 => cut_prev (c := mm) HCUT.out HA.out HBB.out h1 (by omega) (by omega) (fun h => by have := HZ.out.2 h; omega), HHI.out⟩
        case measure => simp [intOf]; omega
    · obtain ⟨S, hS⟩ : ∃ S, S = i := ⟨_, rfl⟩
      obtain rfl : i = j := by omega
      subst hS
      have hcp := cut_post HCUT.out HA.out HBB.out HB.out hi hj HLO.out HHI.out
      obtain ⟨l1, l2, l3, l4, l5, l6⟩ : a ≤ S ∧ S ≤ m ∧ S ≤ mid ∧ m ≤ mid + m - S ∧ mid + m - S ≤ b ∧ mid ≤ mid + m - S := ⟨hcp.le1, hcp.le2, hcp.le3, hcp.le4, hcp.le5, hcp.le6⟩
      obtain ⟨E, hE⟩ : ∃ E, E = mid + m - S := ⟨_, rfl⟩
      have hx9 : (nn : Int) - (S : Int) = (E : Int) := by have := HNN.out; omega
      have HE : Hid (E = mid + m - S) := Lib.hid hE
      have hse1 : S + E ≤ mid + m := by omega
      have hse2 : mid + m ≤ S + E := by omega
      rw [← hE] at l4 l5 l6
      obtain ⟨e1, he1⟩ : ∃ e1, e1 = rot ds S m E := ⟨_, rfl⟩
      have hEn : E ≤ ds.length := by rw [HL.out]; omega
      have hpe1 : e1.Perm ds := by rw [he1]; exact rot_perm _ _ _ _ hEn l2 l4
      have HE1 := Lib.hid he1
      have HP1 := Lib.hid hpe1
      have HSM1 : Hid (Same ds e1 S E) := Lib.hid (by rw [he1]; exact rot_same _ _ _ _ hEn l2 l4)
      have HD1 : Hid (∀ x, x ∈ e1 → x < N) := Lib.hid (fun x hx => HD.out x (hpe1.mem_iff.1 hx))
      have HST1 : Hid (St key e1) := Lib.hid (by rw [he1]; exact rot_st HST.out (by rw [hE]; exact hcp.cross) hEn l2 l4)
      have H1 : Hid (Srt key e1 a S) := Lib.hid (by rw [he1, hE]; exact hcp.s1)
      have H2 : Hid (Srt key e1 S mid) := Lib.hid (by rw [he1, hE]; exact hcp.s2)
      have H3 : Hid (Srt key e1 mid E) := Lib.hid (by rw [he1, hE]; exact hcp.s3)
      have H4 : Hid (Srt key e1 E b) := Lib.hid (by rw [he1, hE]; exact hcp.s4)
      have HCP := Lib.hid hcp
      have HROT := Lib.hid (fun (h1 : S < m) (h2 : m < E) => rotate_any B g n c S m E ds (.func (.func f) #[] lb) wr ho h1 h2 (by omega) hn)
      clear he1 hE hcp hpe1 hEn hi hij hj hlt
      by_cases hal : S < m
      · have hal2 : mid < E := by omega
        by_cases hbe : m < E
        · have hbe2 : S < mid := by omega
          by_cases hga : a < S
          · by_cases hde : E < b
            · go_wp2_with fail
              refine (HROT.out hal hbe).mono ?_
              rintro e w2 ⟨rfl, ho1, hg1'⟩
              have hg1 := hg.trans hg1'
              rw [← HE1.out] at ho1
              clear ho hg hg1'
              go_wp2_with fail
              refine (HIH.out a S mid e1 w2 (by omega) (by omega) (by omega) hga hbe2 ho1 (hw.trans hg1) HD1.out HST1.out H1.out H2.out).mono ?_
              rintro e w3 ⟨rfl, e2, ho2, hg2', hp2, hst2, hsm2, hsr2⟩
              have hg2 := hg1.trans hg2'
              clear ho1 hg1 hg2'
              have HD2 := Lib.hid (fun x hx => HD1.out x (hp2.mem_iff.1 hx))
              have HSR2 := Lib.hid hsr2
              have HP2 := Lib.hid hp2
              have HST2 := Lib.hid hst2
              have HSM2 := Lib.hid hsm2
              have H3a := Lib.hid (H3.out.same hsm2 (.inr (Nat.le_refl _)))
              have H4a := Lib.hid (H4.out.same hsm2 (.inr (by omega)))
              clear hsr2 hp2 hst2 hsm2
              go_wp2_with fail
              refine (HIH.out mid E b e2 w3 (by omega) (by omega) (by omega) hal2 hde ho2 (hw.trans hg2) HD2.out HST2.out H3a.out H4a.out).mono ?_
              rintro e w4 ⟨rfl, e3, ho3, hg3', hp3, hst3, hsm3, hsr3⟩
              have hg3 := hg2.trans hg3'
              have HFIN := Lib.hid (sym_fin HE1.out HP1.out HSM1.out HP2.out HSM2.out hp3 hsm3 HE.out HCP.out HB.out HSR2.out hsr3 HMB.out)
              clear hp3 hsm3 hsr3 hg3'
              go_wp2_with fail
              exact bodyPost_end (results_none Tryd.results175 _ _ _) rfl ⟨rfl, e3, ho3, hg3, HFIN.out.1, hst3, HFIN.out.2.1, HFIN.out.2.2⟩
            · go_wp2_with fail
              refine (HROT.out hal hbe).mono ?_
              rintro e w2 ⟨rfl, ho1, hg1'⟩
              have hg1 := hg.trans hg1'
              rw [← HE1.out] at ho1
              clear ho hg hg1'
              go_wp2_with fail
              refine (HIH.out a S mid e1 w2 (by omega) (by omega) (by omega) hga hbe2 ho1 (hw.trans hg1) HD1.out HST1.out H1.out H2.out).mono ?_
              rintro e w3 ⟨rfl, e2, ho2, hg2', hp2, hst2, hsm2, hsr2⟩
              have hg2 := hg1.trans hg2'
              clear ho1 hg1 hg2'
              have HD2 := Lib.hid (fun x hx => HD1.out x (hp2.mem_iff.1 hx))
              have HSR2 := Lib.hid hsr2
              have HP2 := Lib.hid hp2
              have HST2 := Lib.hid hst2
              have HSM2 := Lib.hid hsm2
              have H3a := Lib.hid (H3.out.same hsm2 (.inr (Nat.le_refl _)))
              have H4a := Lib.hid (H4.out.same hsm2 (.inr (by omega)))
              clear hsr2 hp2 hst2 hsm2
              go_wp2_with fail
              have hsr3 : Srt key e2 mid b := by rw [show b = E by omega]; exact H3a.out
              have HFIN := Lib.hid (sym_fin HE1.out HP1.out HSM1.out HP2.out HSM2.out (List.Perm.refl e2) (Same.refl _ _ _) HE.out HCP.out HB.out HSR2.out hsr3 HMB.out)
              clear hsr3
              exact bodyPost_end (results_none Tryd.results175 _ _ _) rfl ⟨rfl, e2, ho2, hg2, HFIN.out.1, HST2.out, HFIN.out.2.1, HFIN.out.2.2⟩
          · by_cases hde : E < b
            · go_wp2_with fail
              refine (HROT.out hal hbe).mono ?_
              rintro e w2 ⟨rfl, ho1, hg1'⟩
              have hg1 := hg.trans hg1'
              rw [← HE1.out] at ho1
              clear ho hg hg1'
              go_wp2_with fail
              obtain ⟨e2, he2⟩ : ∃ e2, e2 = e1 := ⟨_, rfl⟩
              have hp2 : e2.Perm e1 := by rw [he2]
              have hst2 : St key e2 := by rw [he2]; exact HST1.out
              have hsm2 : Same e1 e2 a mid := by rw [he2]; exact Same.refl _ _ _
              have hsr2 : Srt key e2 a mid := by
                rw [he2, show a = S by omega]; exact H2.out
              have ho2 : Own 2 w2 B (some ⟨g, 0, none⟩) n c (ints e2) := by rw [he2]; exact ho1
              have hg2 := hg1
              clear ho1 hg1 he2
              have HD2 := Lib.hid (fun x hx => HD1.out x (hp2.mem_iff.1 hx))
              have HSR2 := Lib.hid hsr2
              have HP2 := Lib.hid hp2
              have HST2 := Lib.hid hst2
              have HSM2 := Lib.hid hsm2
              have H3a := Lib.hid (H3.out.same hsm2 (.inr (Nat.le_refl _)))
              have H4a := Lib.hid (H4.out.same hsm2 (.inr (by omega)))
              clear hsr2 hp2 hst2 hsm2
              refine (HIH.out mid E b e2 w2 (by omega) (by omega) (by omega) hal2 hde ho2 (hw.trans hg2) HD2.out HST2.out H3a.out H4a.out).mono ?_
              rintro e w4 ⟨rfl, e3, ho3, hg3', hp3, hst3, hsm3, hsr3⟩
              have hg3 := hg2.trans hg3'
              have HFIN := Lib.hid (sym_fin HE1.out HP1.out HSM1.out HP2.out HSM2.out hp3 hsm3 HE.out HCP.out HB.out HSR2.out hsr3 HMB.out)
              clear hp3 hsm3 hsr3 hg3'
              go_wp2_with fail
              exact bodyPost_end (results_none Tryd.results175 _ _ _) rfl ⟨rfl, e3, ho3, hg3, HFIN.out.1, hst3, HFIN.out.2.1, HFIN.out.2.2⟩
            · go_wp2_with fail
              refine (HROT.out hal hbe).mono ?_
              rintro e w2 ⟨rfl, ho1, hg1'⟩
              have hg1 := hg.trans hg1'
              rw [← HE1.out] at ho1
              clear ho hg hg1'
              go_wp2_with fail
              obtain ⟨e2, he2⟩ : ∃ e2, e2 = e1 := ⟨_, rfl⟩
              have hp2 : e2.Perm e1 := by rw [he2]
              have hst2 : St key e2 := by rw [he2]; exact HST1.out
              have hsm2 : Same e1 e2 a mid := by rw [he2]; exact Same.refl _ _ _
              have hsr2 : Srt key e2 a mid := by
                rw [he2, show a = S by omega]; exact H2.out
              have ho2 : Own 2 w2 B (some ⟨g, 0, none⟩) n c (ints e2) := by rw [he2]; exact ho1
              have hg2 := hg1
              clear ho1 hg1 he2
              have HD2 := Lib.hid (fun x hx => HD1.out x (hp2.mem_iff.1 hx))
              have HSR2 := Lib.hid hsr2
              have HP2 := Lib.hid hp2
              have HST2 := Lib.hid hst2
              have HSM2 := Lib.hid hsm2
              have H3a := Lib.hid (H3.out.same hsm2 (.inr (Nat.le_refl _)))
              have H4a := Lib.hid (H4.out.same hsm2 (.inr (by omega)))
              clear hsr2 hp2 hst2 hsm2
              have hsr3 : Srt key e2 mid b := by rw [show b = E by omega]; exact H3a.out
              have HFIN := Lib.hid (sym_fin HE1.out HP1.out HSM1.out HP2.out HSM2.out (List.Perm.refl e2) (Same.refl _ _ _) HE.out HCP.out HB.out HSR2.out hsr3 HMB.out)
              clear hsr3
              exact bodyPost_end (results_none Tryd.results175 _ _ _) rfl ⟨rfl, e2, ho2, hg2, HFIN.out.1, HST2.out, HFIN.out.2.1, HFIN.out.2.2⟩
        · have hbe2 : ¬ S < mid := by omega
          by_cases hga : a < S
          · by_cases hde : E < b
            · go_wp2_with fail
              have ho1 : Own 2 wr B (some ⟨g, 0, none⟩) n c (ints e1) := by
                rw [HE1.out, rot_id ds S m E (by omega) (by omega) (by omega)]; exact ho
              have hg1 := hg
              clear ho hg
              obtain ⟨e2, he2⟩ : ∃ e2, e2 = e1 := ⟨_, rfl⟩
              have hp2 : e2.Perm e1 := by rw [he2]
              have hst2 : St key e2 := by rw [he2]; exact HST1.out
              have hsm2 : Same e1 e2 a mid := by rw [he2]; exact Same.refl _ _ _
              have hsr2 : Srt key e2 a mid := by
                rw [he2, show mid = S by omega]; exact H1.out
              have ho2 : Own 2 wr B (some ⟨g, 0, none⟩) n c (ints e2) := by rw [he2]; exact ho1
              have hg2 := hg1
              clear ho1 hg1 he2
              have HD2 := Lib.hid (fun x hx => HD1.out x (hp2.mem_iff.1 hx))
              have HSR2 := Lib.hid hsr2
              have HP2 := Lib.hid hp2
              have HST2 := Lib.hid hst2
              have HSM2 := Lib.hid hsm2
              have H3a := Lib.hid (H3.out.same hsm2 (.inr (Nat.le_refl _)))
              have H4a := Lib.hid (H4.out.same hsm2 (.inr (by omega)))
              clear hsr2 hp2 hst2 hsm2
              refine (HIH.out mid E b e2 wr (by omega) (by omega) (by omega) hal2 hde ho2 (hw.trans hg2) HD2.out HST2.out H3a.out H4a.out).mono ?_
              rintro e w4 ⟨rfl, e3, ho3, hg3', hp3, hst3, hsm3, hsr3⟩
              have hg3 := hg2.trans hg3'
              have HFIN := Lib.hid (sym_fin HE1.out HP1.out HSM1.out HP2.out HSM2.out hp3 hsm3 HE.out HCP.out HB.out HSR2.out hsr3 HMB.out)
              clear hp3 hsm3 hsr3 hg3'
              go_wp2_with fail
              exact bodyPost_end (results_none Tryd.results175 _ _ _) rfl ⟨rfl, e3, ho3, hg3, HFIN.out.1, hst3, HFIN.out.2.1, HFIN.out.2.2⟩
            · go_wp2_with fail
              have ho1 : Own 2 wr B (some ⟨g, 0, none⟩) n c (ints e1) := by
                rw [HE1.out, rot_id ds S m E (by omega) (by omega) (by omega)]; exact ho
              have hg1 := hg
              clear ho hg
              obtain ⟨e2, he2⟩ : ∃ e2, e2 = e1 := ⟨_, rfl⟩
              have hp2 : e2.Perm e1 := by rw [he2]
              have hst2 : St key e2 := by rw [he2]; exact HST1.out
              have hsm2 : Same e1 e2 a mid := by rw [he2]; exact Same.refl _ _ _
              have hsr2 : Srt key e2 a mid := by
                rw [he2, show mid = S by omega]; exact H1.out
              have ho2 : Own 2 wr B (some ⟨g, 0, none⟩) n c (ints e2) := by rw [he2]; exact ho1
              have hg2 := hg1
              clear ho1 hg1 he2
              have HD2 := Lib.hid (fun x hx => HD1.out x (hp2.mem_iff.1 hx))
              have HSR2 := Lib.hid hsr2
              have HP2 := Lib.hid hp2
              have HST2 := Lib.hid hst2
              have HSM2 := Lib.hid hsm2
              have H3a := Lib.hid (H3.out.same hsm2 (.inr (Nat.le_refl _)))
              have H4a := Lib.hid (H4.out.same hsm2 (.inr (by omega)))
              clear hsr2 hp2 hst2 hsm2
              have hsr3 : Srt key e2 mid b := by rw [show b = E by omega]; exact H3a.out
              have HFIN := Lib.hid (sym_fin HE1.out HP1.out HSM1.out HP2.out HSM2.out (List.Perm.refl e2) (Same.refl _ _ _) HE.out HCP.out HB.out HSR2.out hsr3 HMB.out)
              clear hsr3
              exact bodyPost_end (results_none Tryd.results175 _ _ _) rfl ⟨rfl, e2, ho2, hg2, HFIN.out.1, HST2.out, HFIN.out.2.1, HFIN.out.2.2⟩
          · by_cases hde : E < b
            · go_wp2_with fail
              have ho1 : Own 2 wr B (some ⟨g, 0, none⟩) n c (ints e1) := by
                rw [HE1.out, rot_id ds S m E (by omega) (by omega) (by omega)]; exact ho
              have hg1 := hg
              clear ho hg
              obtain ⟨e2, he2⟩ : ∃ e2, e2 = e1 := ⟨_, rfl⟩
              have hp2 : e2.Perm e1 := by rw [he2]
              have hst2 : St key e2 := by rw [he2]; exact HST1.out
              have hsm2 : Same e1 e2 a mid := by rw [he2]; exact Same.refl _ _ _
              have hsr2 : Srt key e2 a mid := by
                rw [he2, show a = S by omega]; exact H2.out
              have ho2 : Own 2 wr B (some ⟨g, 0, none⟩) n c (ints e2) := by rw [he2]; exact ho1
              have hg2 := hg1
              clear ho1 hg1 he2
              have HD2 := Lib.hid (fun x hx => HD1.out x (hp2.mem_iff.1 hx))
              have HSR2 := Lib.hid hsr2
              have HP2 := Lib.hid hp2
              have HST2 := Lib.hid hst2
              have HSM2 := Lib.hid hsm2
              have H3a := Lib.hid (H3.out.same hsm2 (.inr (Nat.le_refl _)))
              have H4a := Lib.hid (H4.out.same hsm2 (.inr (by omega)))
              clear hsr2 hp2 hst2 hsm2
              refine (HIH.out mid E b e2 wr (by omega) (by omega) (by omega) hal2 hde ho2 (hw.trans hg2) HD2.out HST2.out H3a.out H4a.out).mono ?_
              rintro e w4 ⟨rfl, e3, ho3, hg3', hp3, hst3, hsm3, hsr3⟩
              have hg3 := hg2.trans hg3'
              have HFIN := Lib.hid (sym_fin HE1.out HP1.out HSM1.out HP2.out HSM2.out hp3 hsm3 HE.out HCP.out HB.out HSR2.out hsr3 HMB.out)
              clear hp3 hsm3 hsr3 hg3'
              go_wp2_with fail
              exact bodyPost_end (results_none Tryd.results175 _ _ _) rfl ⟨rfl, e3, ho3, hg3, HFIN.out.1, hst3, HFIN.out.2.1, HFIN.out.2.2⟩
            · go_wp2_with fail
              have ho1 : Own 2 wr B (some ⟨g, 0, none⟩) n c (ints e1) := by
                rw [HE1.out, rot_id ds S m E (by omega) (by omega) (by omega)]; exact ho
              have hg1 := hg
              clear ho hg
              obtain ⟨e2, he2⟩ : ∃ e2, e2 = e1 := ⟨_, rfl⟩
              have hp2 : e2.Perm e1 := by rw [he2]
              have hst2 : St key e2 := by rw [he2]; exact HST1.out
              have hsm2 : Same e1 e2 a mid := by rw [he2]; exact Same.refl _ _ _
              have hsr2 : Srt key e2 a mid := by
                rw [he2, show a = S by omega]; exact H2.out
              have ho2 : Own 2 wr B (some ⟨g, 0, none⟩) n c (ints e2) := by rw [he2]; exact ho1
              have hg2 := hg1
              clear ho1 hg1 he2
              have HD2 := Lib.hid (fun x hx => HD1.out x (hp2.mem_iff.1 hx))
              have HSR2 := Lib.hid hsr2
              have HP2 := Lib.hid hp2
              have HST2 := Lib.hid hst2
              have HSM2 := Lib.hid hsm2
              have H3a := Lib.hid (H3.out.same hsm2 (.inr (Nat.le_refl _)))
              have H4a := Lib.hid (H4.out.same hsm2 (.inr (by omega)))
              clear hsr2 hp2 hst2 hsm2
              have hsr3 : Srt key e2 mid b := by rw [show b = E by omega]; exact H3a.out
              have HFIN := Lib.hid (sym_fin HE1.out HP1.out HSM1.out HP2.out HSM2.out (List.Perm.refl e2) (Same.refl _ _ _) HE.out HCP.out HB.out HSR2.out hsr3 HMB.out)
              clear hsr3
              exact bodyPost_end (results_none Tryd.results175 _ _ _) rfl ⟨rfl, e2, ho2, hg2, HFIN.out.1, HST2.out, HFIN.out.2.1, HFIN.out.2.2⟩
      · have hal2 : ¬ mid < E := by omega
        by_cases hbe : m < E
        · have hbe2 : S < mid := by omega
          by_cases hga : a < S
          · by_cases hde : E < b
            · go_wp2_with fail
              have ho1 : Own 2 wr B (some ⟨g, 0, none⟩) n c (ints e1) := by
                rw [HE1.out, rot_id ds S m E (by omega) (by omega) (by omega)]; exact ho
              have hg1 := hg
              clear ho hg
              refine (HIH.out a S mid e1 wr (by omega) (by omega) (by omega) hga hbe2 ho1 (hw.trans hg1) HD1.out HST1.out H1.out H2.out).mono ?_
              rintro e w3 ⟨rfl, e2, ho2, hg2', hp2, hst2, hsm2, hsr2⟩
              have hg2 := hg1.trans hg2'
              clear ho1 hg1 hg2'
              have HD2 := Lib.hid (fun x hx => HD1.out x (hp2.mem_iff.1 hx))
              have HSR2 := Lib.hid hsr2
              have HP2 := Lib.hid hp2
              have HST2 := Lib.hid hst2
              have HSM2 := Lib.hid hsm2
              have H3a := Lib.hid (H3.out.same hsm2 (.inr (Nat.le_refl _)))
              have H4a := Lib.hid (H4.out.same hsm2 (.inr (by omega)))
              clear hsr2 hp2 hst2 hsm2
              go_wp2_with fail
              have hsr3 : Srt key e2 mid b := by rw [show mid = E by omega]; exact H4a.out
              have HFIN := Lib.hid (sym_fin HE1.out HP1.out HSM1.out HP2.out HSM2.out (List.Perm.refl e2) (Same.refl _ _ _) HE.out HCP.out HB.out HSR2.out hsr3 HMB.out)
              clear hsr3
              exact bodyPost_end (results_none Tryd.results175 _ _ _) rfl ⟨rfl, e2, ho2, hg2, HFIN.out.1, HST2.out, HFIN.out.2.1, HFIN.out.2.2⟩
            · go_wp2_with fail
              have ho1 : Own 2 wr B (some ⟨g, 0, none⟩) n c (ints e1) := by
                rw [HE1.out, rot_id ds S m E (by omega) (by omega) (by omega)]; exact ho
              have hg1 := hg
              clear ho hg
              refine (HIH.out a S mid e1 wr (by omega) (by omega) (by omega) hga hbe2 ho1 (hw.trans hg1) HD1.out HST1.out H1.out H2.out).mono ?_
              rintro e w3 ⟨rfl, e2, ho2, hg2', hp2, hst2, hsm2, hsr2⟩
              have hg2 := hg1.trans hg2'
              clear ho1 hg1 hg2'
              have HD2 := Lib.hid (fun x hx => HD1.out x (hp2.mem_iff.1 hx))
              have HSR2 := Lib.hid hsr2
              have HP2 := Lib.hid hp2
              have HST2 := Lib.hid hst2
              have HSM2 := Lib.hid hsm2
              have H3a := Lib.hid (H3.out.same hsm2 (.inr (Nat.le_refl _)))
              have H4a := Lib.hid (H4.out.same hsm2 (.inr (by omega)))
              clear hsr2 hp2 hst2 hsm2
              go_wp2_with fail
              have hsr3 : Srt key e2 mid b := by rw [show mid = E by omega]; exact H4a.out
              have HFIN := Lib.hid (sym_fin HE1.out HP1.out HSM1.out HP2.out HSM2.out (List.Perm.refl e2) (Same.refl _ _ _) HE.out HCP.out HB.out HSR2.out hsr3 HMB.out)
              clear hsr3
              exact bodyPost_end (results_none Tryd.results175 _ _ _) rfl ⟨rfl, e2, ho2, hg2, HFIN.out.1, HST2.out, HFIN.out.2.1, HFIN.out.2.2⟩
          · by_cases hde : E < b
            · go_wp2_with fail
              have ho1 : Own 2 wr B (some ⟨g, 0, none⟩) n c (ints e1) := by
                rw [HE1.out, rot_id ds S m E (by omega) (by omega) (by omega)]; exact ho
              have hg1 := hg
              clear ho hg
              obtain ⟨e2, he2⟩ : ∃ e2, e2 = e1 := ⟨_, rfl⟩
              have hp2 : e2.Perm e1 := by rw [he2]
              have hst2 : St key e2 := by rw [he2]; exact HST1.out
              have hsm2 : Same e1 e2 a mid := by rw [he2]; exact Same.refl _ _ _
              have hsr2 : Srt key e2 a mid := by
                rw [he2, show a = S by omega]; exact H2.out
              have ho2 : Own 2 wr B (some ⟨g, 0, none⟩) n c (ints e2) := by rw [he2]; exact ho1
              have hg2 := hg1
              clear ho1 hg1 he2
              have HD2 := Lib.hid (fun x hx => HD1.out x (hp2.mem_iff.1 hx))
              have HSR2 := Lib.hid hsr2
              have HP2 := Lib.hid hp2
              have HST2 := Lib.hid hst2
              have HSM2 := Lib.hid hsm2
              have H3a := Lib.hid (H3.out.same hsm2 (.inr (Nat.le_refl _)))
              have H4a := Lib.hid (H4.out.same hsm2 (.inr (by omega)))
              clear hsr2 hp2 hst2 hsm2
              have hsr3 : Srt key e2 mid b := by rw [show mid = E by omega]; exact H4a.out
              have HFIN := Lib.hid (sym_fin HE1.out HP1.out HSM1.out HP2.out HSM2.out (List.Perm.refl e2) (Same.refl _ _ _) HE.out HCP.out HB.out HSR2.out hsr3 HMB.out)
              clear hsr3
              exact bodyPost_end (results_none Tryd.results175 _ _ _) rfl ⟨rfl, e2, ho2, hg2, HFIN.out.1, HST2.out, HFIN.out.2.1, HFIN.out.2.2⟩
            · go_wp2_with fail
              have ho1 : Own 2 wr B (some ⟨g, 0, none⟩) n c (ints e1) := by
                rw [HE1.out, rot_id ds S m E (by omega) (by omega) (by omega)]; exact ho
              have hg1 := hg
              clear ho hg
              obtain ⟨e2, he2⟩ : ∃ e2, e2 = e1 := ⟨_, rfl⟩
              have hp2 : e2.Perm e1 := by rw [he2]
              have hst2 : St key e2 := by rw [he2]; exact HST1.out
              have hsm2 : Same e1 e2 a mid := by rw [he2]; exact Same.refl _ _ _
              have hsr2 : Srt key e2 a mid := by
                rw [he2, show a = S by omega]; exact H2.out
              have ho2 : Own 2 wr B (some ⟨g, 0, none⟩) n c (ints e2) := by rw [he2]; exact ho1
              have hg2 := hg1
              clear ho1 hg1 he2
              have HD2 := Lib.hid (fun x hx => HD1.out x (hp2.mem_iff.1 hx))
              have HSR2 := Lib.hid hsr2
              have HP2 := Lib.hid hp2
              have HST2 := Lib.hid hst2
              have HSM2 := Lib.hid hsm2
              have H3a := Lib.hid (H3.out.same hsm2 (.inr (Nat.le_refl _)))
              have H4a := Lib.hid (H4.out.same hsm2 (.inr (by omega)))
              clear hsr2 hp2 hst2 hsm2
              have hsr3 : Srt key e2 mid b := by rw [show mid = E by omega]; exact H4a.out
              have HFIN := Lib.hid (sym_fin HE1.out HP1.out HSM1.out HP2.out HSM2.out (List.Perm.refl e2) (Same.refl _ _ _) HE.out HCP.out HB.out HSR2.out hsr3 HMB.out)
              clear hsr3
              exact bodyPost_end (results_none Tryd.results175 _ _ _) rfl ⟨rfl, e2, ho2, hg2, HFIN.out.1, HST2.out, HFIN.out.2.1, HFIN.out.2.2⟩
        · have hbe2 : ¬ S < mid := by omega
          by_cases hga : a < S
          · by_cases hde : E < b
            · go_wp2_with fail
              have ho1 : Own 2 wr B (some ⟨g, 0, none⟩) n c (ints e1) := by
                rw [HE1.out, rot_id ds S m E (by omega) (by omega) (by omega)]; exact ho
              have hg1 := hg
              clear ho hg
              obtain ⟨e2, he2⟩ : ∃ e2, e2 = e1 := ⟨_, rfl⟩
              have hp2 : e2.Perm e1 := by rw [he2]
              have hst2 : St key e2 := by rw [he2]; exact HST1.out
              have hsm2 : Same e1 e2 a mid := by rw [he2]; exact Same.refl _ _ _
              have hsr2 : Srt key e2 a mid := by
                rw [he2, show mid = S by omega]; exact H1.out
              have ho2 : Own 2 wr B (some ⟨g, 0, none⟩) n c (ints e2) := by rw [he2]; exact ho1
              have hg2 := hg1
              clear ho1 hg1 he2
              have HD2 := Lib.hid (fun x hx => HD1.out x (hp2.mem_iff.1 hx))
              have HSR2 := Lib.hid hsr2
              have HP2 := Lib.hid hp2
              have HST2 := Lib.hid hst2
              have HSM2 := Lib.hid hsm2
              have H3a := Lib.hid (H3.out.same hsm2 (.inr (Nat.le_refl _)))
              have H4a := Lib.hid (H4.out.same hsm2 (.inr (by omega)))
              clear hsr2 hp2 hst2 hsm2
              have hsr3 : Srt key e2 mid b := by rw [show mid = E by omega]; exact H4a.out
              have HFIN := Lib.hid (sym_fin HE1.out HP1.out HSM1.out HP2.out HSM2.out (List.Perm.refl e2) (Same.refl _ _ _) HE.out HCP.out HB.out HSR2.out hsr3 HMB.out)
              clear hsr3
              exact bodyPost_end (results_none Tryd.results175 _ _ _) rfl ⟨rfl, e2, ho2, hg2, HFIN.out.1, HST2.out, HFIN.out.2.1, HFIN.out.2.2⟩
            · go_wp2_with fail
              have ho1 : Own 2 wr B (some ⟨g, 0, none⟩) n c (ints e1) := by
                rw [HE1.out, rot_id ds S m E (by omega) (by omega) (by omega)]; exact ho
              have hg1 := hg
              clear ho hg
              obtain ⟨e2, he2⟩ : ∃ e2, e2 = e1 := ⟨_, rfl⟩
              have hp2 : e2.Perm e1 := by rw [he2]
              have hst2 : St key e2 := by rw [he2]; exact HST1.out
              have hsm2 : Same e1 e2 a mid := by rw [he2]; exact Same.refl _ _ _
              have hsr2 : Srt key e2 a mid := by
                rw [he2, show mid = S by omega]; exact H1.out
              have ho2 : Own 2 wr B (some ⟨g, 0, none⟩) n c (ints e2) := by rw [he2]; exact ho1
              have hg2 := hg1
              clear ho1 hg1 he2
              have HD2 := Lib.hid (fun x hx => HD1.out x (hp2.mem_iff.1 hx))
              have HSR2 := Lib.hid hsr2
              have HP2 := Lib.hid hp2
              have HST2 := Lib.hid hst2
              have HSM2 := Lib.hid hsm2
              have H3a := Lib.hid (H3.out.same hsm2 (.inr (Nat.le_refl _)))
              have H4a := Lib.hid (H4.out.same hsm2 (.inr (by omega)))
              clear hsr2 hp2 hst2 hsm2
              have hsr3 : Srt key e2 mid b := by rw [show mid = E by omega]; exact H4a.out
              have HFIN := Lib.hid (sym_fin HE1.out HP1.out HSM1.out HP2.out HSM2.out (List.Perm.refl e2) (Same.refl _ _ _) HE.out HCP.out HB.out HSR2.out hsr3 HMB.out)
              clear hsr3
              exact bodyPost_end (results_none Tryd.results175 _ _ _) rfl ⟨rfl, e2, ho2, hg2, HFIN.out.1, HST2.out, HFIN.out.2.1, HFIN.out.2.2⟩
          · by_cases hde : E < b
            · go_wp2_with fail
              have ho1 : Own 2 wr B (some ⟨g, 0, none⟩) n c (ints e1) := by
                rw [HE1.out, rot_id ds S m E (by omega) (by omega) (by omega)]; exact ho
              have hg1 := hg
              clear ho hg
              obtain ⟨e2, he2⟩ : ∃ e2, e2 = e1 := ⟨_, rfl⟩
              have hp2 : e2.Perm e1 := by rw [he2]
              have hst2 : St key e2 := by rw [he2]; exact HST1.out
              have hsm2 : Same e1 e2 a mid := by rw [he2]; exact Same.refl _ _ _
              have hsr2 : Srt key e2 a mid := by
                rw [he2, show a = S by omega]; exact H2.out
              have ho2 : Own 2 wr B (some ⟨g, 0, none⟩) n c (ints e2) := by rw [he2]; exact ho1
              have hg2 := hg1
              clear ho1 hg1 he2
              have HD2 := Lib.hid (fun x hx => HD1.out x (hp2.mem_iff.1 hx))
              have HSR2 := Lib.hid hsr2
              have HP2 := Lib.hid hp2
              have HST2 := Lib.hid hst2
              have HSM2 := Lib.hid hsm2
              have H3a := Lib.hid (H3.out.same hsm2 (.inr (Nat.le_refl _)))
              have H4a := Lib.hid (H4.out.same hsm2 (.inr (by omega)))
              clear hsr2 hp2 hst2 hsm2
              have hsr3 : Srt key e2 mid b := by rw [show mid = E by omega]; exact H4a.out
              have HFIN := Lib.hid (sym_fin HE1.out HP1.out HSM1.out HP2.out HSM2.out (List.Perm.refl e2) (Same.refl _ _ _) HE.out HCP.out HB.out HSR2.out hsr3 HMB.out)
              clear hsr3
              exact bodyPost_end (results_none Tryd.results175 _ _ _) rfl ⟨rfl, e2, ho2, hg2, HFIN.out.1, HST2.out, HFIN.out.2.1, HFIN.out.2.2⟩
            · go_wp2_with fail
              have ho1 : Own 2 wr B (some ⟨g, 0, none⟩) n c (ints e1) := by
                rw [HE1.out, rot_id ds S m E (by omega) (by omega) (by omega)]; exact ho
              have hg1 := hg
              clear ho hg
              obtain ⟨e2, he2⟩ : ∃ e2, e2 = e1 := ⟨_, rfl⟩
              have hp2 : e2.Perm e1 := by rw [he2]
              have hst2 : St key e2 := by rw [he2]; exact HST1.out
              have hsm2 : Same e1 e2 a mid := by rw [he2]; exact Same.refl _ _ _
              have hsr2 : Srt key e2 a mid := by
                rw [he2, show a = S by omega]; exact H2.out
              have ho2 : Own 2 wr B (some ⟨g, 0, none⟩) n c (ints e2) := by rw [he2]; exact ho1
              have hg2 := hg1
              clear ho1 hg1 he2
              have HD2 := Lib.hid (fun x hx => HD1.out x (hp2.mem_iff.1 hx))
              have HSR2 := Lib.hid hsr2
              have HP2 := Lib.hid hp2
              have HST2 := Lib.hid hst2
              have HSM2 := Lib.hid hsm2
              have H3a := Lib.hid (H3.out.same hsm2 (.inr (Nat.le_refl _)))
              have H4a := Lib.hid (H4.out.same hsm2 (.inr (by omega)))
              clear hsr2 hp2 hst2 hsm2
              have hsr3 : Srt key e2 mid b := by rw [show mid = E by omega]; exact H4a.out
              have HFIN := Lib.hid (sym_fin HE1.out HP1.out HSM1.out HP2.out HSM2.out (List.Perm.refl e2) (Same.refl _ _ _) HE.out HCP.out HB.out HSR2.out hsr3 HMB.out)
              clear hsr3
              exact bodyPost_end (results_none Tryd.results175 _ _ _) rfl ⟨rfl, e2, ho2, hg2, HFIN.out.1, HST2.out, HFIN.out.2.1, HFIN.out.2.2⟩
end Go.Proofs.YtdafdffmkjhhcaaDoor
namespace Go.Proofs.YtdafdffmkjhhcaaDoor
open Go.RowKit
set_option linter.unusedVariables false
set_option linter.unusedSimpArgs false
set_option maxRecDepth 100000

set_option maxHeartbeats 25600000 in
theorem sym_genR (B g n c a m b N : Nat) (ds : List Nat) (key : Nat → Nat) (cf : Nat → Nat → Int) (f : FuncId) (lb : Array Value) (w0 w : World) (h : Own 2 w B (some ⟨g, 0, none⟩) n c (ints ds)) (hw : w0.grownBy w (some g)) (hn : n ≤ 1048576) (hb : b ≤ n) (hab : a + 1 < m) (hmb : m + 1 < b)
    (eg : ∀ args w, (callFunc f args).run Tryd.prog w = .ok (.enter f args) w) (hcmp : CmpOk w0 g N key cf f lb) (hds : ∀ x, x ∈ ds → x < N) (hst : St key ds) (hA : Srt key ds a m) (hB : Srt key ds m b) (hbr : m ≤ (a + b) / 2)
    (ih : ∀ (a' m' b' : Nat) (es : List Nat) (w' : World), b' - a' < b - a → a ≤ a' → b' ≤ b → a' < m' → m' < b' → Own 2 w' B (some ⟨g, 0, none⟩) n c (ints es) → w0.grownBy w' (some g) → (∀ x, x ∈ es → x < N) → St key es → Srt key es a' m' → Srt key es m' b' → Calls Tryd.prog 175 #[.slice (some ⟨g, 0, none⟩) n c, .int .i64 (a' : Int), .int .i64 (m' : Int), .int .i64 (b' : Int), .func (.func f) #[] lb] w' (SymPost key w' B g n c a' b' es)) :
    Calls Tryd.prog 175 #[.slice (some ⟨g, 0, none⟩) n c, .int .i64 (a : Int), .int .i64 (m : Int), .int .i64 (b : Int), .func (.func f) #[] lb] w (SymPost key w B g n c a b ds) := by
  have hlen : ds.length = n := by have := h.len; rw [ints_len] at this; exact this
  have HL := Lib.hid hlen
  have HC := Lib.hid hcmp
  have HD := Lib.hid hds
  have HST := Lib.hid hst
  have HA := Lib.hid hA
  have HBB := Lib.hid hB
  have HIH := Lib.hid ih
  have HB : Hid (b ≤ ds.length) := Lib.hid (by omega)
  have HMB : Hid (a < m ∧ m < b) := Lib.hid ⟨by omega, by omega⟩
  obtain ⟨d1, hd1⟩ : ∃ d1, d1 = m - a := ⟨_, rfl⟩
  have hx1 : (m : Int) - (a : Int) = (d1 : Int) := by omega
  have hx2 : ((d1 : Int) == 1) = false := by simp; omega
  obtain ⟨d2, hd2⟩ : ∃ d2, d2 = b - m := ⟨_, rfl⟩
  have hx3 : (b : Int) - (m : Int) = (d2 : Int) := by omega
  have hx4 : ((d2 : Int) == 1) = false := by simp; omega
  obtain ⟨mid, hmid⟩ : ∃ mid, mid = (a + b) / 2 := ⟨_, rfl⟩
  rw [← hmid] at hbr
  have hx5 : ((a : Int) + (b : Int)) / 2 = (mid : Int) := by omega
  obtain ⟨nn, hnn⟩ : ∃ nn, nn = mid + m := ⟨_, rfl⟩
  have hx6 : (mid : Int) + (m : Int) = (nn : Int) := by omega

  have hcut : CutOk a m b mid a m := ⟨by omega, by omega, by omega, by omega, by omega⟩
  obtain ⟨c1, c2, c3, c4, c5, c6, c7⟩ := hcut.le
  have HCUT := Lib.hid hcut
  obtain ⟨pp, hpp⟩ : ∃ pp, pp = nn - 1 := ⟨_, rfl⟩
  have hx8 : (nn : Int) - 1 = (pp : Int) := by omega
  have HPP : Hid (pp = mid + m - 1) := Lib.hid (by omega)
  have HNN : Hid (nn = mid + m) := Lib.hid hnn
  have hppn : pp + 1 = nn := by omega
  have hnnb : nn ≤ 2 * n := by omega

  have hgt9 : decide (mid < m) = false := decide_eq_false (by omega)
  have hgt10 : decide ((mid : Int) < (m : Int)) = false := decide_eq_false (by omega)
  have mixed : Tryd.prog.follows .mixedOrders = true := by kernel_rfl
  clear hlen hcmp hds hst hA hB ih hcut hd1 hd2 hmid hnn hpp
  go_enter Tryd.func175, Tryd.ntmps175
  go_wp2_with fail
  go_loopw [20, 21] (fun p q wr => ∃ (i j : Nat), a ≤ i ∧ i ≤ j ∧ j ≤ m ∧ p = .int .i64 i ∧ q = .int .i64 j ∧ Own 2 wr B (some ⟨g, 0, none⟩) n c (ints ds) ∧ w.grownBy wr (some g) ∧ (∀ t, a ≤ t → t < i → ¬ key (ds.getD (mid + m - 1 - t) 0) < key (ds.getD t 0)) ∧ (∀ t, j ≤ t → t < m → key (ds.getD (mid + m - 1 - t) 0) < key (ds.getD t 0))) (fun p q _ => (intOf q).toNat - (intOf p).toNat)
  case atStart => exact ⟨a, m, Nat.le_refl _, by omega, Nat.le_refl _, rfl, rfl, h, World.grownBy.refl _ _, fun t h1 h2 => by omega, fun t h1 h2 => by omega⟩
  case round =>
    obtain ⟨i, j, hi, hij, hj, rfl, rfl, ho, hg, hlo, hhi⟩ := hrel
    have HLO := Lib.hid hlo
    have HHI := Lib.hid hhi
    clear hlo hhi h
    by_cases hlt : i < j
    · obtain ⟨mm, hmm⟩ : ∃ mm, mm = (i + j) / 2 := ⟨_, rfl⟩
      have hdiv : ((i : Int) + (j : Int)) / 2 = (mm : Int) := by omega
      have hm1 : i ≤ mm := by omega
      have hm2 : mm < j := by omega
      obtain ⟨t1, t2, t3, t4⟩ := HCUT.out.at_ (t := mm) (by omega) (by omega)
      obtain ⟨q, hq⟩ : ∃ q, q = mid + m - 1 - mm := ⟨_, rfl⟩
      rw [← hq] at t3 t4
      have hpq : (pp : Int) - (mm : Int) = (q : Int) := by have := HPP.out; omega
      obtain ⟨g1, e1, _, hcm, _, _⟩ := own_stored ho (k := mm) (by omega)
      cases e1
      obtain ⟨g2, e2, _, hcq, _, _⟩ := own_stored ho (k := q) (by omega)
      cases e2
      have hxq : ds.getD q 0 < N := HD.out _ (getD_mem' ds q (by rw [HL.out]; omega))
      have hxm : ds.getD mm 0 < N := HD.out _ (getD_mem' ds mm (by rw [HL.out]; omega))
      have hc := fun k => HC.out.2 (ds.getD q 0) (ds.getD mm 0) (wr.drewN k) hxq hxm (grown_drewN' (hw.trans hg) k)
      have hz := HC.out.1 (ds.getD q 0) (ds.getD mm 0)
      rw [hq] at hz
      have HZ0 := Lib.hid hz
      obtain ⟨Z, hZ⟩ : ∃ Z, Z = cf (ds.getD q 0) (ds.getD mm 0) := ⟨_, rfl⟩
      have HZ : Hid (Z < 0 ↔ key (ds.getD (mid + m - 1 - mm) 0) < key (ds.getD mm 0)) := Lib.hid (by rw [hZ, hq]; exact hz)
      rw [← hZ] at hc
      obtain ⟨X, hX⟩ : ∃ X, X = ds.getD q 0 := ⟨_, rfl⟩
      obtain ⟨Y, hY⟩ : ∃ Y, Y = ds.getD mm 0 := ⟨_, rfl⟩
      rw [← hX] at hcq hc
      rw [← hY] at hcm hc
      have hqn : q < n := by omega
      have hmn : mm < n := by omega
      have hwq : IntKind.i64.wrap ((pp : Int) - (mm : Int)) = (q : Int) := by rw [hpq, IntKind.wrap_i64]; omega
      have hz1 : (0 : Int) ≤ (q : Int) := Int.natCast_nonneg _
      have hz2 : (q : Int) < (n : Int) := Int.ofNat_lt.2 hqn
      have hz3 : ((q : Int)).toNat = q := by simp
      clear hmm hxq hxm hX hY hZ hz hq HZ0 hpq
      by_cases hzz : Z < 0
      · have hd : decide (Z < 0) = true := decide_eq_true hzz
        go_wp2_with fail
        go_quiet_o (first | (go_at_fn f; refine Calls.quiet_of (hc _)))
        clear hdiv hc hcm hcq hd hwq hz1 hz2 hz3
        go_wp2_with fail
        go_roundw
        case rel => exact ⟨i, mm, hi, by omega, by omega, rfl, rfl, ho, grown_drewN' hg _, HLO.out, fun t h1 h2 => cut_next HCUT.out HA.out HBB.out (by omega) h1 h2 (HZ.out.1 hzz)⟩
        case measure => simp [intOf]; omega
      · have hd : decide (Z < 0) = false := decide_eq_false hzz
        go_wp2_with fail
        go_quiet_o (first | (go_at_fn f; refine Calls.quiet_of (hc _)))
        clear hdiv hc hcm hcq hd hwq hz1 hz2 hz3
        go_wp2_with fail
        go_roundw
        case rel => exact ⟨mm + 1, j, by omega, by omega, hj, by go_num, rfl, ho, grown_drewN' hg _, fun t h1 h2 => cut_prev (c := mm) HCUT.out HA.out HBB.out h1 (by omega) (by omega) (fun h => by have := HZ.out.2 h; omega), HHI.out⟩
        case measure => simp [intOf]; omega
    · obtain ⟨S, hS⟩ : ∃ S, S = i := ⟨_, rfl⟩
      obtain rfl : i = j := by omega
      subst hS
      have hcp := cut_post HCUT.out HA.out HBB.out HB.out hi hj HLO.out HHI.out
      obtain ⟨l1, l2, l3, l4, l5, l6⟩ : a ≤ S ∧ S ≤ m ∧ S ≤ mid ∧ m ≤ mid + m - S ∧ mid + m - S ≤ b ∧ mid ≤ mid + m - S := ⟨hcp.le1, hcp.le2, hcp.le3, hcp.le4, hcp.le5, hcp.le6⟩
      obtain ⟨E, hE⟩ : ∃ E, E = mid + m - S := ⟨_, rfl⟩
      have hx9 : (nn : Int) - (S : Int) = (E : Int) := by have := HNN.out; omega
      have HE : Hid (E = mid + m - S) := Lib.hid hE
      have hse1 : S + E ≤ mid + m := by omega
      have hse2 : mid + m ≤ S + E := by omega
      rw [← hE] at l4 l5 l6
      obtain ⟨e1, he1⟩ : ∃ e1, e1 = rot ds S m E := ⟨_, rfl⟩
      have hEn : E ≤ ds.length := by rw [HL.out]; omega
      have hpe1 : e1.Perm ds := by rw [he1]; exact rot_perm _ _ _ _ hEn l2 l4
      have HE1 := Lib.hid he1
      have HP1 := Lib.hid hpe1
      have HSM1 : Hid (Same ds e1 S E) := Lib.hid (by rw [he1]; exact rot_same _ _ _ _ hEn l2 l4)
      have HD1 : Hid (∀ x, x ∈ e1 → x < N) := Lib.hid (fun x hx => HD.out x (hpe1.mem_iff.1 hx))
      have HST1 : Hid (St key e1) := Lib.hid (by rw [he1]; exact rot_st HST.out (by rw [hE]; exact hcp.cross) hEn l2 l4)
      have H1 : Hid (Srt key e1 a S) := Lib.hid (by rw [he1, hE]; exact hcp.s1)
      have H2 : Hid (Srt key e1 S mid) := Lib.hid (by rw [he1, hE]; exact hcp.s2)
      have H3 : Hid (Srt key e1 mid E) := Lib.hid (by rw [he1, hE]; exact hcp.s3)
      have H4 : Hid (Srt key e1 E b) := Lib.hid (by rw [he1, hE]; exact hcp.s4)
      have HCP := Lib.hid hcp
      have HROT := Lib.hid (fun (h1 : S < m) (h2 : m < E) => rotate_any B g n c S m E ds (.func (.func f) #[] lb) wr ho h1 h2 (by omega) hn)
      clear he1 hE hcp hpe1 hEn hi hij hj hlt
      by_cases hal : S < m
      · have hal2 : mid < E := by omega
        by_cases hbe : m < E
        · have hbe2 : S < mid := by omega
          by_cases hga : a < S
          · by_cases hde : E < b
            · go_wp2_with fail
              refine (HROT.out hal hbe).mono ?_
              rintro e w2 ⟨rfl, ho1, hg1'⟩
              have hg1 := hg.trans hg1'
              rw [← HE1.out] at ho1
              clear ho hg hg1'
              go_wp2_with fail
              refine (HIH.out a S mid e1 w2 (by omega) (by omega) (by omega) hga hbe2 ho1 (hw.trans hg1) HD1.out HST1.out H1.out H2.out).mono ?_
              rintro e w3 ⟨rfl, e2, ho2, hg2', hp2, hst2, hsm2, hsr2⟩
              have hg2 := hg1.trans hg2'
              clear ho1 hg1 hg2'
              have HD2 := Lib.hid (fun x hx => HD1.out x (hp2.mem_iff.1 hx))
              have HSR2 := Lib.hid hsr2
              have HP2 := Lib.hid hp2
              have HST2 := Lib.hid hst2
              have HSM2 := Lib.hid hsm2
              have H3a := Lib.hid (H3.out.same hsm2 (.inr (Nat.le_refl _)))
              have H4a := Lib.hid (H4.out.same hsm2 (.inr (by omega)))
              clear hsr2 hp2 hst2 hsm2
              go_wp2_with fail
              refine (HIH.out mid E b e2 w3 (by omega) (by omega) (by omega) hal2 hde ho2 (hw.trans hg2) HD2.out HST2.out H3a.out H4a.out).mono ?_
              rintro e w4 ⟨rfl, e3, ho3, hg3', hp3, hst3, hsm3, hsr3⟩
              have hg3 := hg2.trans hg3'
              have HFIN := Lib.hid (sym_fin HE1.out HP1.out HSM1.out HP2.out HSM2.out hp3 hsm3 HE.out HCP.out HB.out HSR2.out hsr3 HMB.out)
              clear hp3 hsm3 hsr3 hg3'
              go_wp2_with fail
              exact bodyPost_end (results_none Tryd.results175 _ _ _) rfl ⟨rfl, e3, ho3, hg3, HFIN.out.1, hst3, HFIN.out.2.1, HFIN.out.2.2⟩
            · go_wp2_with fail
              refine (HROT.out hal hbe).mono ?_
              rintro e w2 ⟨rfl, ho1, hg1'⟩
              have hg1 := hg.trans hg1'
              rw [← HE1.out] at ho1
              clear ho hg hg1'
              go_wp2_with fail
              refine (HIH.out a S mid e1 w2 (by omega) (by omega) (by omega) hga hbe2 ho1 (hw.trans hg1) HD1.out HST1.out H1.out H2.out).mono ?_
              rintro e w3 ⟨rfl, e2, ho2, hg2', hp2, hst2, hsm2, hsr2⟩
              have hg2 := hg1.trans hg2'
              clear ho1 hg1 hg2'
              have HD2 := Lib.hid (fun x hx => HD1.out x (hp2.mem_iff.1 hx))
              have HSR2 := Lib.hid hsr2
              have HP2 := Lib.hid hp2
              have HST2 := Lib.hid hst2
              have HSM2 := Lib.hid hsm2
              have H3a := Lib.hid (H3.out.same hsm2 (.inr (Nat.le_refl _)))
              have H4a := Lib.hid (H4.out.same hsm2 (.inr (by omega)))
              clear hsr2 hp2 hst2 hsm2
              go_wp2_with fail
              have hsr3 : Srt key e2 mid b := by rw [show b = E by omega]; exact H3a.out
              have HFIN := Lib.hid (sym_fin HE1.out HP1.out HSM1.out HP2.out HSM2.out (List.Perm.refl e2) (Same.refl _ _ _) HE.out HCP.out HB.out HSR2.out hsr3 HMB.out)
              clear hsr3
              exact bodyPost_end (results_none Tryd.results175 _ _ _) rfl ⟨rfl, e2, ho2, hg2, HFIN.out.1, HST2.out, HFIN.out.2.1, HFIN.out.2.2⟩
          · by_cases hde : E < b
            · go_wp2_with fail
              refine (HROT.out hal hbe).mono ?_
              rintro e w2 ⟨rfl, ho1, hg1'⟩
              have hg1 := hg.trans hg1'
              rw [← HE1.out] at ho1
              clear ho hg hg1'
              go_wp2_with fail
              obtain ⟨e2, he2⟩ : ∃ e2, e2 = e1 := ⟨_, rfl⟩
              have hp2 : e2.Perm e1 := by rw [he2]
              have hst2 : St key e2 := by rw [he2]; exact HST1.out
              have hsm2 : Same e1 e2 a mid := by rw [he2]; exact Same.refl _ _ _
              have hsr2 : Srt key e2 a mid := by
                rw [he2, show a = S by omega]; exact H2.out
              have ho2 : Own 2 w2 B (some ⟨g, 0, none⟩) n c (ints e2) := by rw [he2]; exact ho1
              have hg2 := hg1
              clear ho1 hg1 he2
              have HD2 := Lib.hid (fun x hx => HD1.out x (hp2.mem_iff.1 hx))
              have HSR2 := Lib.hid hsr2
              have HP2 := Lib.hid hp2
              have HST2 := Lib.hid hst2
              have HSM2 := Lib.hid hsm2
              have H3a := Lib.hid (H3.out.same hsm2 (.inr (Nat.le_refl _)))
              have H4a := Lib.hid (H4.out.same hsm2 (.inr (by omega)))
              clear hsr2 hp2 hst2 hsm2
              refine (HIH.out mid E b e2 w2 (by omega) (by omega) (by omega) hal2 hde ho2 (hw.trans hg2) HD2.out HST2.out H3a.out H4a.out).mono ?_
              rintro e w4 ⟨rfl, e3, ho3, hg3', hp3, hst3, hsm3, hsr3⟩
              have hg3 := hg2.trans hg3'
              have HFIN := Lib.hid (sym_fin HE1.out HP1.out HSM1.out HP2.out HSM2.out hp3 hsm3 HE.out HCP.out HB.out HSR2.out hsr3 HMB.out)
              clear hp3 hsm3 hsr3 hg3'
              go_wp2_with fail
              exact bodyPost_end (results_none Tryd.results175 _ _ _) rfl ⟨rfl, e3, ho3, hg3, HFIN.out.1, hst3, HFIN.out.2.1, HFIN.out.2.2⟩
            · go_wp2_with fail
              refine (HROT.out hal hbe).mono ?_
              rintro e w2 ⟨rfl, ho1, hg1'⟩
              have hg1 := hg.trans hg1'
              rw [← HE1.out] at ho1
              clear ho hg hg1'
              go_wp2_with fail
              obtain ⟨e2, he2⟩ : ∃ e2, e2 = e1 := ⟨_, rfl⟩
              have hp2 : e2.Perm e1 := by rw [he2]
              have hst2 : St key e2 := by rw [he2]; exact HST1.out
              have hsm2 : Same e1 e2 a mid := by rw [he2]; exact Same.refl _ _ _
              have hsr2 : Srt key e2 a mid := by
                rw [he2, show a = S by omega]; exact H2.out
              have ho2 : Own 2 w2 B (some ⟨g, 0, none⟩) n c (ints e2) := by rw [he2]; exact ho1
              have hg2 := hg1
              clear ho1 hg1 he2
              have HD2 := Lib.hid (fun x hx => HD1.out x (hp2.mem_iff.1 hx))
              have HSR2 := Lib.hid hsr2
              have HP2 := Lib.hid hp2
              have HST2 := Lib.hid hst2
              have HSM2 := Lib.hid hsm2
              have H3a := Lib.hid (H3.out.same hsm2 (.inr (Nat.le_refl _)))
              have H4a := Lib.hid (H4.out.same hsm2 (.inr (by omega)))
              clear hsr2 hp2 hst2 hsm2
              have hsr3 : Srt key e2 mid b := by rw [show b = E by omega]; exact H3a.out
              have HFIN := Lib.hid (sym_fin HE1.out HP1.out HSM1.out HP2.out HSM2.out (List.Perm.refl e2) (Same.refl _ _ _) HE.out HCP.out HB.out HSR2.out hsr3 HMB.out)
              clear hsr3
              exact bodyPost_end (results_none Tryd.results175 _ _ _) rfl ⟨rfl, e2, ho2, hg2, HFIN.out.1, HST2.out, HFIN.out.2.1, HFIN.out.2.2⟩
        · have hbe2 : ¬ S < mid := by omega
          by_cases hga : a < S
          · by_cases hde : E < b
            · go_wp2_with fail
              have ho1 : Own 2 wr B (some ⟨g, 0, none⟩) n c (ints e1) := by
                rw [HE1.out, rot_id ds S m E (by omega) (by omega) (by omega)]; exact ho
              have hg1 := hg
              clear ho hg
              obtain ⟨e2, he2⟩ : ∃ e2, e2 = e1 := ⟨_, rfl⟩
              have hp2 : e2.Perm e1 := by rw [he2]
              have hst2 : St key e2 := by rw [he2]; exact HST1.out
              have hsm2 : Same e1 e2 a mid := by rw [he2]; exact Same.refl _ _ _
              have hsr2 : Srt key e2 a mid := by
                rw [he2, show mid = S by omega]; exact H1.out
              have ho2 : Own 2 wr B (some ⟨g, 0, none⟩) n c (ints e2) := by rw [he2]; exact ho1
              have hg2 := hg1
              clear ho1 hg1 he2
              have HD2 := Lib.hid (fun x hx => HD1.out x (hp2.mem_iff.1 hx))
              have HSR2 := Lib.hid hsr2
              have HP2 := Lib.hid hp2
              have HST2 := Lib.hid hst2
              have HSM2 := Lib.hid hsm2
              have H3a := Lib.hid (H3.out.same hsm2 (.inr (Nat.le_refl _)))
              have H4a := Lib.hid (H4.out.same hsm2 (.inr (by omega)))
              clear hsr2 hp2 hst2 hsm2
              refine (HIH.out mid E b e2 wr (by omega) (by omega) (by omega) hal2 hde ho2 (hw.trans hg2) HD2.out HST2.out H3a.out H4a.out).mono ?_
              rintro e w4 ⟨rfl, e3, ho3, hg3', hp3, hst3, hsm3, hsr3⟩
              have hg3 := hg2.trans hg3'
              have HFIN := Lib.hid (sym_fin HE1.out HP1.out HSM1.out HP2.out HSM2.out hp3 hsm3 HE.out HCP.out HB.out HSR2.out hsr3 HMB.out)
              clear hp3 hsm3 hsr3 hg3'
              go_wp2_with fail
              exact bodyPost_end (results_none Tryd.results175 _ _ _) rfl ⟨rfl, e3, ho3, hg3, HFIN.out.1, hst3, HFIN.out.2.1, HFIN.out.2.2⟩
            · go_wp2_with fail
              have ho1 : Own 2 wr B (some ⟨g, 0, none⟩) n c (ints e1) := by
                rw [HE1.out, rot_id ds S m E (by omega) (by omega) (by omega)]; exact ho
              have hg1 := hg
              clear ho hg
              obtain ⟨e2, he2⟩ : ∃ e2, e2 = e1 := ⟨_, rfl⟩
              have hp2 : e2.Perm e1 := by rw [he2]
              have hst2 : St key e2 := by rw [he2]; exact HST1.out
              have hsm2 : Same e1 e2 a mid := by rw [he2]; exact Same.refl _ _ _
              have hsr2 : Srt key e2 a mid := by
                rw [he2, show mid = S by omega]; exact H1.out
              have ho2 : Own 2 wr B (some ⟨g, 0, none⟩) n c (ints e2) := by rw [he2]; exact ho1
              have hg2 := hg1
              clear ho1 hg1 he2
              have HD2 := Lib.hid (fun x hx => HD1.out x (hp2.mem_iff.1 hx))
              have HSR2 := Lib.hid hsr2
              have HP2 := Lib.hid hp2
              have HST2 := Lib.hid hst2
              have HSM2 := Lib.hid hsm2
              have H3a := Lib.hid (H3.out.same hsm2 (.inr (Nat.le_refl _)))
              have H4a := Lib.hid (H4.out.same hsm2 (.inr (by omega)))
              clear hsr2 hp2 hst2 hsm2
              have hsr3 : Srt key e2 mid b := by rw [show b = E by omega]; exact H3a.out
              have HFIN := Lib.hid (sym_fin HE1.out HP1.out HSM1.out HP2.out HSM2.out (List.Perm.refl e2) (Same.refl _ _ _) HE.out HCP.out HB.out HSR2.out hsr3 HMB.out)
              clear hsr3
              exact bodyPost_end (results_none Tryd.results175 _ _ _) rfl ⟨rfl, e2, ho2, hg2, HFIN.out.1, HST2.out, HFIN.out.2.1, HFIN.out.2.2⟩
          · by_cases hde : E < b
            · go_wp2_with fail
              have ho1 : Own 2 wr B (some ⟨g, 0, none⟩) n c (ints e1) := by
                rw [HE1.out, rot_id ds S m E (by omega) (by omega) (by omega)]; exact ho
              have hg1 := hg
              clear ho hg
              obtain ⟨e2, he2⟩ : ∃ e2, e2 = e1 := ⟨_, rfl⟩
              have hp2 : e2.Perm e1 := by rw [he2]
              have hst2 : St key e2 := by rw [he2]; exact HST1.out
              have hsm2 : Same e1 e2 a mid := by rw [he2]; exact Same.refl _ _ _
              have hsr2 : Srt key e2 a mid := by
                rw [he2, show a = S by omega]; exact H2.out
              have ho2 : Own 2 wr B (some ⟨g, 0, none⟩) n c (ints e2) := by rw [he2]; exact ho1
              have hg2 := hg1
              clear ho1 hg1 he2
              have HD2 := Lib.hid (fun x hx => HD1.out x (hp2.mem_iff.1 hx))
              have HSR2 := Lib.hid hsr2
              have HP2 := Lib.hid hp2
              have HST2 := Lib.hid hst2
              have HSM2 := Lib.hid hsm2
              have H3a := Lib.hid (H3.out.same hsm2 (.inr (Nat.le_refl _)))
              have H4a := Lib.hid (H4.out.same hsm2 (.inr (by omega)))
              clear hsr2 hp2 hst2 hsm2
              refine (HIH.out mid E b e2 wr (by omega) (by omega) (by omega) hal2 hde ho2 (hw.trans hg2) HD2.out HST2.out H3a.out H4a.out).mono ?_
              rintro e w4 ⟨rfl, e3, ho3, hg3', hp3, hst3, hsm3, hsr3⟩
              have hg3 := hg2.trans hg3'
              have HFIN := Lib.hid (sym_fin HE1.out HP1.out HSM1.out HP2.out HSM2.out hp3 hsm3 HE.out HCP.out HB.out HSR2.out hsr3 HMB.out)
              clear hp3 hsm3 hsr3 hg3'
              go_wp2_with fail
              exact bodyPost_end (results_none Tryd.results175 _ _ _) rfl ⟨rfl, e3, ho3, hg3, HFIN.out.1, hst3, HFIN.out.2.1, HFIN.out.2.2⟩
            · go_wp2_with fail
              have ho1 : Own 2 wr B (some ⟨g, 0, none⟩) n c (ints e1) := by
                rw [HE1.out, rot_id ds S m E (by omega) (by omega) (by omega)]; exact ho
              have hg1 := hg
              clear ho hg
              obtain ⟨e2, he2⟩ : ∃ e2, e2 = e1 := ⟨_, rfl⟩
              have hp2 : e2.Perm e1 := by rw [he2]
              have hst2 : St key e2 := by rw [he2]; exact HST1.out
              have hsm2 : Same e1 e2 a mid := by rw [he2]; exact Same.refl _ _ _
              have hsr2 : Srt key e2 a mid := by
                rw [he2, show a = S by omega]; exact H2.out
              have ho2 : Own 2 wr B (some ⟨g, 0, none⟩) n c (ints e2) := by rw [he2]; exact ho1
              have hg2 := hg1
              clear ho1 hg1 he2
              have HD2 := Lib.hid (fun x hx => HD1.out x (hp2.mem_iff.1 hx))
              have HSR2 := Lib.hid hsr2
              have HP2 := Lib.hid hp2
              have HST2 := Lib.hid hst2
              have HSM2 := Lib.hid hsm2
              have H3a := Lib.hid (H3.out.same hsm2 (.inr (Nat.le_refl _)))
              have H4a := Lib.hid (H4.out.same hsm2 (.inr (by omega)))
              clear hsr2 hp2 hst2 hsm2
              have hsr3 : Srt key e2 mid b := by rw [show b = E by omega]; exact H3a.out
              have HFIN := Lib.hid (sym_fin HE1.out HP1.out HSM1.out HP2.out HSM2.out (List.Perm.refl e2) (Same.refl _ _ _) HE.out HCP.out HB.out HSR2.out hsr3 HMB.out)
              clear hsr3
              exact bodyPost_end (results_none Tryd.results175 _ _ _) rfl ⟨rfl, e2, ho2, hg2, HFIN.out.1, HST2.out, HFIN.out.2.1, HFIN.out.2.2⟩
      · have hal2 : ¬ mid < E := by omega
        by_cases hbe : m < E
        · have hbe2 : S < mid := by omega
          by_cases hga : a < S
          · by_cases hde : E < b
            · go_wp2_with fail
              have ho1 : Own 2 wr B (some ⟨g, 0, none⟩) n c (ints e1) := by
                rw [HE1.out, rot_id ds S m E (by omega) (by omega) (by omega)]; exact ho
              have hg1 := hg
              clear ho hg
              refine (HIH.out a S mid e1 wr (by omega) (by omega) (by omega) hga hbe2 ho1 (hw.trans hg1) HD1.out HST1.out H1.out H2.out).mono ?_
              rintro e w3 ⟨rfl, e2, ho2, hg2', hp2, hst2, hsm2, hsr2⟩
              have hg2 := hg1.trans hg2'
              clear ho1 hg1 hg2'
              have HD2 := Lib.hid (fun x hx => HD1.out x (hp2.mem_iff.1 hx))
              have HSR2 := Lib.hid hsr2
              have HP2 := Lib.hid hp2
              have HST2 := Lib.hid hst2
              have HSM2 := Lib.hid hsm2
              have H3a := Lib.hid (H3.out.same hsm2 (.inr (Nat.le_refl _)))
              have H4a := Lib.hid (H4.out.same hsm2 (.inr (by omega)))
              clear hsr2 hp2 hst2 hsm2
              go_wp2_with fail
              have hsr3 : Srt key e2 mid b := by rw [show mid = E by omega]; exact H4a.out
              have HFIN := Lib.hid (sym_fin HE1.out HP1.out HSM1.out HP2.out HSM2.out (List.Perm.refl e2) (Same.refl _ _ _) HE.out HCP.out HB.out HSR2.out hsr3 HMB.out)
              clear hsr3
              exact bodyPost_end (results_none Tryd.results175 _ _ _) rfl ⟨rfl, e2, ho2, hg2, HFIN.out.1, HST2.out, HFIN.out.2.1, HFIN.out.2.2⟩
            · go_wp2_with fail
              have ho1 : Own 2 wr B (some ⟨g, 0, none⟩) n c (ints e1) := by
                rw [HE1.out, rot_id ds S m E (by omega) (by omega) (by omega)]; exact ho
              have hg1 := hg
              clear ho hg
              refine (HIH.out a S mid e1 wr (by omega) (by omega) (by omega) hga hbe2 ho1 (hw.trans hg1) HD1.out HST1.out H1.out H2.out).mono ?_
              rintro e w3 ⟨rfl, e2, ho2, hg2', hp2, hst2, hsm2, hsr2⟩
              have hg2 := hg1.trans hg2'
              clear ho1 hg1 hg2'
              have HD2 := Lib.hid (fun x hx => HD1.out x (hp2.mem_iff.1 hx))
              have HSR2 := Lib.hid hsr2
              have HP2 := Lib.hid hp2
              have HST2 := Lib.hid hst2
              have HSM2 := Lib.hid hsm2
              have H3a := Lib.hid (H3.out.same hsm2 (.inr (Nat.le_refl _)))
              have H4a := Lib.hid (H4.out.same hsm2 (.inr (by omega)))
              clear hsr2 hp2 hst2 hsm2
              go_wp2_with fail
              have hsr3 : Srt key e2 mid b := by rw [show mid = E by omega]; exact H4a.out
              have HFIN := Lib.hid (sym_fin HE1.out HP1.out HSM1.out HP2.out HSM2.out (List.Perm.refl e2) (Same.refl _ _ _) HE.out HCP.out HB.out HSR2.out hsr3 HMB.out)
              clear hsr3
              exact bodyPost_end (results_none Tryd.results175 _ _ _) rfl ⟨rfl, e2, ho2, hg2, HFIN.out.1, HST2.out, HFIN.out.2.1, HFIN.out.2.2⟩
          · by_cases hde : E < b
            · go_wp2_with fail
              have ho1 : Own 2 wr B (some ⟨g, 0, none⟩) n c (ints e1) := by
                rw [HE1.out, rot_id ds S m E (by omega) (by omega) (by omega)]; exact ho
              have hg1 := hg
              clear ho hg
              obtain ⟨e2, he2⟩ : ∃ e2, e2 = e1 := ⟨_, rfl⟩
              have hp2 : e2.Perm e1 := by rw [he2]
              have hst2 : St key e2 := by rw [he2]; exact HST1.out
              have hsm2 : Same e1 e2 a mid := by rw [he2]; exact Same.refl _ _ _
              have hsr2 : Srt key e2 a mid := by
                rw [he2, show a = S by omega]; exact H2.out
              have ho2 : Own 2 wr B (some ⟨g, 0, none⟩) n c (ints e2) := by rw [he2]; exact ho1
              have hg2 := hg1
              clear ho1 hg1 he2
              have HD2 := Lib.hid (fun x hx => HD1.out x (hp2.mem_iff.1 hx))
              have HSR2 := Lib.hid hsr2
              have HP2 := Lib.hid hp2
              have HST2 := Lib.hid hst2
              have HSM2 := Lib.hid hsm2
              have H3a := Lib.hid (H3.out.same hsm2 (.inr (Nat.le_refl _)))
              have H4a := Lib.hid (H4.out.same hsm2 (.inr (by omega)))
              clear hsr2 hp2 hst2 hsm2
              have hsr3 : Srt key e2 mid b := by rw [show mid = E by omega]; exact H4a.out
              have HFIN := Lib.hid (sym_fin HE1.out HP1.out HSM1.out HP2.out HSM2.out (List.Perm.refl e2) (Same.refl _ _ _) HE.out HCP.out HB.out HSR2.out hsr3 HMB.out)
              clear hsr3
              exact bodyPost_end (results_none Tryd.results175 _ _ _) rfl ⟨rfl, e2, ho2, hg2, HFIN.out.1, HST2.out, HFIN.out.2.1, HFIN.out.2.2⟩
            · go_wp2_with fail
              have ho1 : Own 2 wr B (some ⟨g, 0, none⟩) n c (ints e1) := by
                rw [HE1.out, rot_id ds S m E (by omega) (by omega) (by omega)]; exact ho
              have hg1 := hg
              clear ho hg
              obtain ⟨e2, he2⟩ : ∃ e2, e2 = e1 := ⟨_, rfl⟩
              have hp2 : e2.Perm e1 := by rw [he2]
              have hst2 : St key e2 := by rw [he2]; exact HST1.out
              have hsm2 : Same e1 e2 a mid := by rw [he2]; exact Same.refl _ _ _
              have hsr2 : Srt key e2 a mid := by
                rw [he2, show a = S by omega]; exact H2.out
              have ho2 : Own 2 wr B (some ⟨g, 0, none⟩) n c (ints e2) := by rw [he2]; exact ho1
              have hg2 := hg1
              clear ho1 hg1 he2
              have HD2 := Lib.hid (fun x hx => HD1.out x (hp2.mem_iff.1 hx))
              have HSR2 := Lib.hid hsr2
              have HP2 := Lib.hid hp2
              have HST2 := Lib.hid hst2
              have HSM2 := Lib.hid hsm2
              have H3a := Lib.hid (H3.out.same hsm2 (.inr (Nat.le_refl _)))
              have H4a := Lib.hid (H4.out.same hsm2 (.inr (by omega)))
              clear hsr2 hp2 hst2 hsm2
              have hsr3 : Srt key e2 mid b := by rw [show mid = E by omega]; exact H4a.out
              have HFIN := Lib.hid (sym_fin HE1.out HP1.out HSM1.out HP2.out HSM2.out (List.Perm.refl e2) (Same.refl _ _ _) HE.out HCP.out HB.out HSR2.out hsr3 HMB.out)
              clear hsr3
              exact bodyPost_end (results_none Tryd.results175 _ _ _) rfl ⟨rfl, e2, ho2, hg2, HFIN.out.1, HST2.out, HFIN.out.2.1, HFIN.out.2.2⟩
        · have hbe2 : ¬ S < mid := by omega
          by_cases hga : a < S
          · by_cases hde : E < b
            · go_wp2_with fail
              have ho1 : Own 2 wr B (some ⟨g, 0, none⟩) n c (ints e1) := by
                rw [HE1.out, rot_id ds S m E (by omega) (by omega) (by omega)]; exact ho
              have hg1 := hg
              clear ho hg
              obtain ⟨e2, he2⟩ : ∃ e2, e2 = e1 := ⟨_, rfl⟩
              have hp2 : e2.Perm e1 := by rw [he2]
              have hst2 : St key e2 := by rw [he2]; exact HST1.out
              have hsm2 : Same e1 e2 a mid := by rw [he2]; exact Same.refl _ _ _
              have hsr2 : Srt key e2 a mid := by
                rw [he2, show mid = S by omega]; exact H1.out
              have ho2 : Own 2 wr B (some ⟨g, 0, none⟩) n c (ints e2) := by rw [he2]; exact ho1
              have hg2 := hg1
              clear ho1 hg1 he2
              have HD2 := Lib.hid (fun x hx => HD1.out x (hp2.mem_iff.1 hx))
              have HSR2 := Lib.hid hsr2
              have HP2 := Lib.hid hp2
              have HST2 := Lib.hid hst2
              have HSM2 := Lib.hid hsm2
              have H3a := Lib.hid (H3.out.same hsm2 (.inr (Nat.le_refl _)))
              have H4a := Lib.hid (H4.out.same hsm2 (.inr (by omega)))
              clear hsr2 hp2 hst2 hsm2
              have hsr3 : Srt key e2 mid b := by rw [show mid = E by omega]; exact H4a.out
              have HFIN := Lib.hid (sym_fin HE1.out HP1.out HSM1.out HP2.out HSM2.out (List.Perm.refl e2) (Same.refl _ _ _) HE.out HCP.out HB.out HSR2.out hsr3 HMB.out)
              clear hsr3
              exact bodyPost_end (results_none Tryd.results175 _ _ _) rfl ⟨rfl, e2, ho2, hg2, HFIN.out.1, HST2.out, HFIN.out.2.1, HFIN.out.2.2⟩
            · go_wp2_with fail
              have ho1 : Own 2 wr B (some ⟨g, 0, none⟩) n c (ints e1) := by
                rw [HE1.out, rot_id ds S m E (by omega) (by omega) (by omega)]; exact ho
              have hg1 := hg
              clear ho hg
              obtain ⟨e2, he2⟩ : ∃ e2, e2 = e1 := ⟨_, rfl⟩
              have hp2 : e2.Perm e1 := by rw [he2]
              have hst2 : St key e2 := by rw [he2]; exact HST1.out
              have hsm2 : Same e1 e2 a mid := by rw [he2]; exact Same.refl _ _ _
              have hsr2 : Srt key e2 a mid := by
                rw [he2, show mid = S by omega]; exact H1.out
              have ho2 : Own 2 wr B (some ⟨g, 0, none⟩) n c (ints e2) := by rw [he2]; exact ho1
              have hg2 := hg1
              clear ho1 hg1 he2
              have HD2 := Lib.hid (fun x hx => HD1.out x (hp2.mem_iff.1 hx))
              have HSR2 := Lib.hid hsr2
              have HP2 := Lib.hid hp2
              have HST2 := Lib.hid hst2
              have HSM2 := Lib.hid hsm2
              have H3a := Lib.hid (H3.out.same hsm2 (.inr (Nat.le_refl _)))
              have H4a := Lib.hid (H4.out.same hsm2 (.inr (by omega)))
              clear hsr2 hp2 hst2 hsm2
              have hsr3 : Srt key e2 mid b := by rw [show mid = E by omega]; exact H4a.out
              have HFIN := Lib.hid (sym_fin HE1.out HP1.out HSM1.out HP2.out HSM2.out (List.Perm.refl e2) (Same.refl _ _ _) HE.out HCP.out HB.out HSR2.out hsr3 HMB.out)
              clear hsr3
              exact bodyPost_end (results_none Tryd.results175 _ _ _) rfl ⟨rfl, e2, ho2, hg2, HFIN.out.1, HST2.out, HFIN.out.2.1, HFIN.out.2.2⟩
          · by_cases hde : E < b
            · go_wp2_with fail
              have ho1 : Own 2 wr B (some ⟨g, 0, none⟩) n c (ints e1) := by
                rw [HE1.out, rot_id ds S m E (by omega) (by omega) (by omega)]; exact ho
              have hg1 := hg
              clear ho hg
              obtain ⟨e2, he2⟩ : ∃ e2, e2 = e1 := ⟨_, rfl⟩
              have hp2 : e2.Perm e1 := by rw [he2]
              have hst2 : St key e2 := by rw [he2]; exact HST1.out
              have hsm2 : Same e1 e2 a mid := by rw [he2]; exact Same.refl _ _ _
              have hsr2 : Srt key e2 a mid := by
                rw [he2, show a = S by omega]; exact H2.out
              have ho2 : Own 2 wr B (some ⟨g, 0, none⟩) n c (ints e2) := by rw [he2]; exact ho1
              have hg2 := hg1
              clear ho1 hg1 he2
              have HD2 := Lib.hid (fun x hx => HD1.out x (hp2.mem_iff.1 hx))
              have HSR2 := Lib.hid hsr2
              have HP2 := Lib.hid hp2
              have HST2 := Lib.hid hst2
              have HSM2 := Lib.hid hsm2
              have H3a := Lib.hid (H3.out.same hsm2 (.inr (Nat.le_refl _)))
              have H4a := Lib.hid (H4.out.same hsm2 (.inr (by omega)))
              clear hsr2 hp2 hst2 hsm2
              have hsr3 : Srt key e2 mid b := by rw [show mid = E by omega]; exact H4a.out
              have HFIN := Lib.hid (sym_fin HE1.out HP1.out HSM1.out HP2.out HSM2.out (List.Perm.refl e2) (Same.refl _ _ _) HE.out HCP.out HB.out HSR2.out hsr3 HMB.out)
              clear hsr3
              exact bodyPost_end (results_none Tryd.results175 _ _ _) rfl ⟨rfl, e2, ho2, hg2, HFIN.out.1, HST2.out, HFIN.out.2.1, HFIN.out.2.2⟩
            · go_wp2_with fail
              have ho1 : Own 2 wr B (some ⟨g, 0, none⟩) n c (ints e1) := by
                rw [HE1.out, rot_id ds S m E (by omega) (by omega) (by omega)]; exact ho
              have hg1 := hg
              clear ho hg
              obtain ⟨e2, he2⟩ : ∃ e2, e2 = e1 := ⟨_, rfl⟩
              have hp2 : e2.Perm e1 := by rw [he2]
              have hst2 : St key e2 := by rw [he2]; exact HST1.out
              have hsm2 : Same e1 e2 a mid := by rw [he2]; exact Same.refl _ _ _
              have hsr2 : Srt key e2 a mid := by
                rw [he2, show a = S by omega]; exact H2.out
              have ho2 : Own 2 wr B (some ⟨g, 0, none⟩) n c (ints e2) := by rw [he2]; exact ho1
              have hg2 := hg1
              clear ho1 hg1 he2
              have HD2 := Lib.hid (fun x hx => HD1.out x (hp2.mem_iff.1 hx))
              have HSR2 := Lib.hid hsr2
              have HP2 := Lib.hid hp2
              have HST2 := Lib.hid hst2
              have HSM2 := Lib.hid hsm2
              have H3a := Lib.hid (H3.out.same hsm2 (.inr (Nat.le_refl _)))
              have H4a := Lib.hid (H4.out.same hsm2 (.inr (by omega)))
              clear hsr2 hp2 hst2 hsm2
              have hsr3 : Srt key e2 mid b := by rw [show mid = E by omega]; exact H4a.out
              have HFIN := Lib.hid (sym_fin HE1.out HP1.out HSM1.out HP2.out HSM2.out (List.Perm.refl e2) (Same.refl _ _ _) HE.out HCP.out HB.out HSR2.out hsr3 HMB.out)
              clear hsr3
              exact bodyPost_end (results_none Tryd.results175 _ _ _) rfl ⟨rfl, e2, ho2, hg2, HFIN.out.1, HST2.out, HFIN.out.2.1, HFIN.out.2.2⟩
end Go.Proofs.YtdafdffmkjhhcaaDoor
namespace Go.Proofs.YtdafdffmkjhhcaaDoor
open Go.RowKit
set_option linter.unusedVariables false
set_option maxRecDepth 100000
theorem sym_any (B g n c N : Nat) (key : Nat → Nat) (cf : Nat → Nat → Int) (f : FuncId) (lb : Array Value) (w0 : World) (hn : n ≤ 1048576)
    (eg : ∀ args w, (callFunc f args).run Tryd.prog w = .ok (.enter f args) w) (hcmp : CmpOk w0 g N key cf f lb) :
    ∀ (L a m b : Nat) (ds : List Nat) (w : World), b - a ≤ L → b ≤ n → a < m → m < b → Own 2 w B (some ⟨g, 0, none⟩) n c (ints ds) → w0.grownBy w (some g) → (∀ x, x ∈ ds → x < N) → St key ds → Srt key ds a m → Srt key ds m b →
      Calls Tryd.prog 175 #[.slice (some ⟨g, 0, none⟩) n c, .int .i64 (a : Int), .int .i64 (m : Int), .int .i64 (b : Int), .func (.func f) #[] lb] w (SymPost key w B g n c a b ds) := by
  intro L
  induction L with
  | zero => intro a m b ds w h1 h2 h3 h4; omega
  | succ L ih =>
    intro a m b ds w h1 h2 h3 h4 ho hw hds hst hA hB
    by_cases e1 : m = a + 1
    · subst e1
      rw [show ((a + 1 : Nat) : Int) = (a : Int) + 1 by omega]
      exact sym_left B g n c a b N ds key cf f lb w0 w ho hw hn h2 h4 eg hcmp hds hst hB
    · by_cases e2 : b = m + 1
      · subst e2
        rw [show ((m + 1 : Nat) : Int) = (m : Int) + 1 by omega]
        exact sym_right B g n c a m N ds key cf f lb w0 w ho hw hn h2 (by omega) eg hcmp hds hst hA
      · have hih : ∀ (a' m' b' : Nat) (es : List Nat) (w' : World), b' - a' < b - a → a ≤ a' → b' ≤ b → a' < m' → m' < b' → Own 2 w' B (some ⟨g, 0, none⟩) n c (ints es) → w0.grownBy w' (some g) → (∀ x, x ∈ es → x < N) → St key es → Srt key es a' m' → Srt key es m' b' → Calls Tryd.prog 175 #[.slice (some ⟨g, 0, none⟩) n c, .int .i64 (a' : Int), .int .i64 (m' : Int), .int .i64 (b' : Int), .func (.func f) #[] lb] w' (SymPost key w' B g n c a' b' es) :=
          fun a' m' b' es w' k1 k2 k3 k4 k5 k6 k7 k8 k9 k10 k11 => ih a' m' b' es w' (by omega) (by omega) k4 k5 k6 k7 k8 k9 k10 k11
        by_cases hbr : (a + b) / 2 < m
        · exact sym_genL B g n c a m b N ds key cf f lb w0 w ho hw hn h2 (by omega) (by omega) eg hcmp hds hst hA hB hbr hih
        · exact sym_genR B g n c a m b N ds key cf f lb w0 w ho hw hn h2 (by omega) (by omega) eg hcmp hds hst hA hB (by omega) hih
end Go.Proofs.YtdafdffmkjhhcaaDoor
namespace Go.Proofs.YtdafdffmkjhhcaaDoor
open Go.RowKit
set_option linter.unusedVariables false
set_option linter.unusedSimpArgs false
set_option maxRecDepth 100000
/-- What the stable sort leaves. -/
def StablePost (key : Nat → Nat) (w : World) (B g n c : Nat) (ds : List Nat) (e : Ending) (w' : World) : Prop :=
  e = .returned (.tuple #[]) ∧ ∃ es : List Nat, Own 2 w' B (some ⟨g, 0, none⟩) n c (ints es) ∧ w.grownBy w' (some g) ∧ es.Perm ds ∧ St key es ∧ Srt key es 0 n
set_option maxHeartbeats 3200000 in
theorem stable_small (B g n c N : Nat) (ds : List Nat) (key : Nat → Nat) (cf : Nat → Nat → Int) (f : FuncId) (lb : Array Value) (w : World) (h : Own 2 w B (some ⟨g, 0, none⟩) n c (ints ds)) (hn : n < 20)
    (eg : ∀ args w, (callFunc f args).run Tryd.prog w = .ok (.enter f args) w) (hcmp : CmpOk w g N key cf f lb) (hds : ∀ x, x ∈ ds → x < N) (hst : St key ds) :
    Calls Tryd.prog 151 #[.slice (some ⟨g, 0, none⟩) n c, .int .i64 (n : Int), .func (.func f) #[] lb] w (StablePost key w B g n c ds) := by
  have HI := Lib.hid (ins_any B g n c 0 n N ds key cf f lb w w h (World.grownBy.refl _ _) (by omega) (Nat.le_refl _) (Nat.zero_le _) eg hcmp hds hst)
  have h1 : decide ((20 : Int) ≤ (n : Int)) = false := decide_eq_false (by omega)
  have h2 : decide ((20 : Int) < (n : Int)) = false := decide_eq_false (by omega)
  have h3 : decide (20 ≤ n) = false := decide_eq_false (by omega)
  have h4 : decide (20 < n) = false := decide_eq_false (by omega)
  clear hcmp hds hst h
  go_enter Tryd.func151, Tryd.ntmps151
  go_wp2_with fail
  go_loop [7, 8] (fun p q => p = .int .i64 0 ∧ q = .int .i64 20) (fun _ _ => 0)
  case atStart => exact ⟨rfl, rfl⟩
  case round =>
    obtain ⟨rfl, rfl⟩ := hrel
    go_wp2_with fail
    refine HI.out.mono ?_
    rintro e w2 ⟨rfl, es, ho, hg, hp, hs, hsm, hsr⟩
    go_wp2_with fail
    go_loop [6] (fun p => p = .int .i64 20) (fun _ => 0)
    case atStart => rfl
    case round =>
      subst hrel
      go_wp2_with fail
      exact bodyPost_end (results_none Tryd.results151 _ _ _) rfl ⟨rfl, es, ho, hg, hp, hs, hsr⟩
set_option maxHeartbeats 6400000 in
theorem stable_big (B g n c N : Nat) (ds : List Nat) (key : Nat → Nat) (cf : Nat → Nat → Int) (f : FuncId) (lb : Array Value) (w : World) (h : Own 2 w B (some ⟨g, 0, none⟩) n c (ints ds)) (hn : 20 ≤ n) (hn2 : n ≤ 24)
    (eg : ∀ args w, (callFunc f args).run Tryd.prog w = .ok (.enter f args) w) (hcmp : CmpOk w g N key cf f lb) (hds : ∀ x, x ∈ ds → x < N) (hst : St key ds) :
    Calls Tryd.prog 151 #[.slice (some ⟨g, 0, none⟩) n c, .int .i64 (n : Int), .func (.func f) #[] lb] w (StablePost key w B g n c ds) := by
  have hlen : ds.length = n := by have := h.len; rw [ints_len] at this; exact this
  have HL := Lib.hid hlen
  have HINS := Lib.hid (fun (a b : Nat) (es : List Nat) (wx : World) (ho : Own 2 wx B (some ⟨g, 0, none⟩) n c (ints es)) (hg : w.grownBy wx (some g)) (hb : b ≤ n) (hab : a ≤ b) (hd : ∀ x, x ∈ es → x < N) (hs : St key es) => ins_any B g n c a b N es key cf f lb w wx ho hg (by omega) hb hab eg hcmp hd hs)
  have HSYM := Lib.hid (sym_any B g n c N key cf f lb w (by omega) eg hcmp)
  have HD := Lib.hid hds
  have h1 : decide ((20 : Int) ≤ (n : Int)) = true := decide_eq_true (by omega)
  have h2 : decide ((40 : Int) ≤ (n : Int)) = false := decide_eq_false (by omega)
  have h3 : decide (20 ≤ n) = true := decide_eq_true (by omega)
  have h4 : decide (40 ≤ n) = false := decide_eq_false (by omega)
  have h5 : decide ((40 : Int) < (n : Int)) = false := decide_eq_false (by omega)
  have h6 : decide (40 < n) = false := decide_eq_false (by omega)
  clear hcmp hds hlen
  go_enter Tryd.func151, Tryd.ntmps151
  go_wp2_with fail
  go_loopw [7, 8] (fun p q wr => (p = .int .i64 0 ∧ q = .int .i64 20 ∧ wr = w) ∨ (p = .int .i64 20 ∧ q = .int .i64 40 ∧ ∃ es : List Nat, Own 2 wr B (some ⟨g, 0, none⟩) n c (ints es) ∧ w.grownBy wr (some g) ∧ es.Perm ds ∧ St key es ∧ Srt key es 0 20)) (fun p _ _ => 20 - (intOf p).toNat)
  case atStart => exact .inl ⟨rfl, rfl, rfl⟩
  case round =>
    rcases hrel with ⟨rfl, rfl, rfl⟩ | ⟨rfl, rfl, es, ho, hg, hp, hs, hsr⟩
    · go_wp2_with fail
      refine (HINS.out 0 20 ds _ h (World.grownBy.refl _ _) hn (by omega) HD.out hst).mono ?_
      rintro e w2 ⟨rfl, es, ho, hg, hp, hs, hsm, hsr⟩
      go_wp2_with fail
      go_roundw
      case rel => exact .inr ⟨rfl, rfl, es, ho, hg, hp, hs, hsr⟩
      case measure => simp [intOf]
    · have HP := Lib.hid hp
      have HSR := Lib.hid hsr
      clear hp hsr h
      go_wp2_with fail
      refine (HINS.out 20 n es _ ho hg (Nat.le_refl _) hn (fun x hx => HD.out x (HP.out.mem_iff.1 hx)) hs).mono ?_
      rintro e w2 ⟨rfl, fs, ho2, hg2', hp2, hs2, hsm2, hsr2⟩
      have hg2 := hg.trans hg2'
      have HP2 := Lib.hid (hp2.trans HP.out)
      have HA := Lib.hid (HSR.out.same hsm2 (.inl (Nat.le_refl _)))
      have HB := Lib.hid hsr2
      have HS2 := Lib.hid hs2
      clear ho hg hs hg2' hp2 hsm2 hsr2 hs2
      go_wp2_with fail
      go_loopw [6] (fun p wr => (p = .int .i64 20 ∧ ∃ gs : List Nat, Own 2 wr B (some ⟨g, 0, none⟩) n c (ints gs) ∧ w.grownBy wr (some g) ∧ gs.Perm ds ∧ St key gs ∧ Srt key gs 0 20 ∧ Srt key gs 20 n) ∨ (p = .int .i64 40 ∧ ∃ gs : List Nat, Own 2 wr B (some ⟨g, 0, none⟩) n c (ints gs) ∧ w.grownBy wr (some g) ∧ gs.Perm ds ∧ St key gs ∧ Srt key gs 0 n)) (fun p _ => 40 - (intOf p).toNat)
      case atStart => exact .inl ⟨rfl, fs, ho2, hg2, HP2.out, HS2.out, HA.out, HB.out⟩
      case round =>
        clear ho2 hg2
        rcases hrel with ⟨rfl, gs, ho, hg, hp, hs, hsa, hsb⟩ | ⟨rfl, gs, ho, hg, hp, hs, hsr⟩
        · have HSA := Lib.hid hsa
          have HSB := Lib.hid hsb
          have HP3 := Lib.hid hp
          clear hsa hsb hp
          by_cases h20 : n = 20
          · have h7 : decide ((20 : Int) < (n : Int)) = false := decide_eq_false (by omega)
            have h8 : decide (20 < n) = false := decide_eq_false (by omega)
            have HF : Hid (Srt key gs 0 n) := Lib.hid (by rw [h20]; exact HSA.out)
            clear h20
            go_wp2_with fail
            exact bodyPost_end (results_none Tryd.results151 _ _ _) rfl ⟨rfl, gs, ho, hg, HP3.out, hs, HF.out⟩
          · have h9 : 20 < n := by omega
            have h7 : decide ((20 : Int) < (n : Int)) = true := decide_eq_true (by omega)
            have h8 : decide (20 < n) = true := decide_eq_true h9
            clear h20
            go_wp2_with fail
            go_loop [7, 8] (fun p q => p = .int .i64 0 ∧ q = .int .i64 40) (fun _ _ => 0)
            case atStart => exact ⟨rfl, rfl⟩
            case round =>
              obtain ⟨rfl, rfl⟩ := hrel
              go_wp2_with fail
              refine (HSYM.out n 0 20 n gs _ (by omega) (Nat.le_refl _) (by omega) h9 ho hg (fun x hx => HD.out x (HP3.out.mem_iff.1 hx)) hs HSA.out HSB.out).mono ?_
              rintro e w3 ⟨rfl, fs3, ho3, hg3', hp3, hs3, hsm3, hsr3⟩
              have hg3 := hg.trans hg3'
              have HP4 := Lib.hid (hp3.trans HP3.out)
              have HF := Lib.hid hsr3
              clear ho hg hs hg3' hp3 hsm3 hsr3
              go_wp2_with fail
              go_roundw
              case rel => exact .inr ⟨rfl, fs3, ho3, hg3, HP4.out, hs3, HF.out⟩
              case measure => simp [intOf]
        · have HF := Lib.hid hsr
          have HP3 := Lib.hid hp
          clear hsr hp
          go_wp2_with fail
          exact bodyPost_end (results_none Tryd.results151 _ _ _) rfl ⟨rfl, gs, ho, hg, HP3.out, hs, HF.out⟩
theorem sortStable_any (B g n c N : Nat) (ds : List Nat) (key : Nat → Nat) (cf : Nat → Nat → Int) (f : FuncId) (lb : Array Value) (w : World) (h : Own 2 w B (some ⟨g, 0, none⟩) n c (ints ds)) (hn : n ≤ 24)
    (eg : ∀ args w, (callFunc f args).run Tryd.prog w = .ok (.enter f args) w) (hcmp : CmpOk w g N key cf f lb) (hds : ∀ x, x ∈ ds → x < N) (hst : St key ds) :
    Calls Tryd.prog 113 #[.slice (some ⟨g, 0, none⟩) n c, .func (.func f) #[] lb] w (StablePost key w B g n c ds) := by
  have HI : Hid (Calls Tryd.prog 151 #[.slice (some ⟨g, 0, none⟩) n c, .int .i64 (n : Int), .func (.func f) #[] lb] w (StablePost key w B g n c ds)) := Lib.hid (by
    by_cases h20 : n < 20
    · exact stable_small B g n c N ds key cf f lb w h h20 eg hcmp hds hst
    · exact stable_big B g n c N ds key cf f lb w h (by omega) hn eg hcmp hds hst)
  clear hcmp hds hst h
  go_enter Tryd.func113, Tryd.ntmps113
  go_wp2_with fail
  refine HI.out.mono ?_
  rintro e w2 ⟨rfl, es, ho, hg, hp, hs, hsr⟩
  go_wp2_with fail
  exact bodyPost_end (results_none Tryd.results113 _ _ _) rfl ⟨rfl, es, ho, hg, hp, hs, hsr⟩
end Go.Proofs.YtdafdffmkjhhcaaDoor
