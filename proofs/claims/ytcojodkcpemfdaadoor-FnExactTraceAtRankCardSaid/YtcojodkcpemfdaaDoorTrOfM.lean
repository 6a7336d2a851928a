/-
  The events of a word: plain mathematics; sorting no places.
-/
import Derived.Test.YtcojodkcpemfdaaDoorNf
import Derived.Test.YtcojodkcpemfdaaDoorAlJoin
namespace Go.Proofs.YtcojodkcpemfdaaDoor
open Go Go.RowKit
set_option linter.unusedVariables false
set_option maxRecDepth 100000

/-- What depends: by the rows of a relation. -/
def RDep (rows : List Nat) (a b : Nat) : Bool := (rows.getD a 0).testBit b
/-- Whether the event at place f comes before that at place e, and e's letter depends on it. -/
def befP (rows us es : List Nat) (e f : Nat) : Bool := decide (es.getD f 0 < es.getD e 0) && RDep rows (us.getD (es.getD e 0) 0) (us.getD (es.getD f 0) 0)
def letM (us es : List Nat) (m k : Nat) : List Nat := (List.range k).map fun e => us.getD (es.getD e 0) 0
/-- The events before each one, where those of e events are whole and that of one more is whole up to f. -/
def befM (rows us es : List Nat) (m e f : Nat) : List Nat := (List.range m).map fun j => if j < e then mkM (befP rows us es j) m else if j = e then mkM (befP rows us es e) f else 0
theorem letM_len (us es : List Nat) (m k : Nat) : (letM us es m k).length = k := by simp [letM]
theorem letM_at (us es : List Nat) (m k e : Nat) (h : e < k) : (letM us es m k).getD e 0 = us.getD (es.getD e 0) 0 := getD_range_map _ _ _ h
theorem letM_snoc (us es : List Nat) (m k : Nat) : letM us es m (k + 1) = letM us es m k ++ [us.getD (es.getD k 0) 0] := by
  unfold letM; rw [List.range_succ, List.map_append]; rfl
theorem befM_len (rows us es : List Nat) (m e f : Nat) : (befM rows us es m e f).length = m := by simp [befM]
theorem befM_at (rows us es : List Nat) (m e f j : Nat) (h : j < m) : (befM rows us es m e f).getD j 0 = if j < e then mkM (befP rows us es j) m else if j = e then mkM (befP rows us es e) f else 0 := getD_range_map _ _ _ h
theorem befM_zero (rows us es : List Nat) (m : Nat) : befM rows us es m 0 0 = List.replicate m 0 := by
  refine list_eq_getD _ _ m (befM_len _ _ _ _ _ _) List.length_replicate fun j hj => ?_
  rw [befM_at _ _ _ _ _ _ _ hj, if_neg (by omega)]
  have : (List.replicate m 0).getD j 0 = 0 := by rw [List.getD_eq_getElem?_getD, List.getElem?_replicate, if_pos hj]; rfl
  rw [this]
  split <;> rfl
theorem befM_round (rows us es : List Nat) (m e : Nat) : befM rows us es m e m = befM rows us es m (e + 1) 0 := by
  refine list_eq_getD _ _ m (befM_len _ _ _ _ _ _) (befM_len _ _ _ _ _ _) fun j hj => ?_
  rw [befM_at _ _ _ _ _ _ _ hj, befM_at _ _ _ _ _ _ _ hj]
  by_cases h1 : j < e
  · rw [if_pos h1, if_pos (by omega)]
  · rw [if_neg h1]
    by_cases h2 : j = e
    · subst h2; rw [if_pos rfl, if_pos (by omega)]
    · rw [if_neg h2, if_neg (by omega)]
      split <;> rfl
theorem befM_cur (rows us es : List Nat) (m e f : Nat) (h : e < m) : (befM rows us es m e f).getD e 0 = mkM (befP rows us es e) f := by
  rw [befM_at _ _ _ _ _ _ _ h, if_neg (by omega), if_pos rfl]
theorem befM_set (rows us es : List Nat) (m e f : Nat) (h : e < m) (hp : befP rows us es e f = true) : (befM rows us es m e f).set e ((befM rows us es m e f).getD e 0 ||| 2 ^ f) = befM rows us es m e (f + 1) := by
  refine list_eq_getD _ _ m (by rw [List.length_set, befM_len]) (befM_len _ _ _ _ _ _) fun j hj => ?_
  rw [getD_set _ _ _ _ (by rw [befM_len]; exact h), befM_cur _ _ _ _ _ _ h, befM_at _ _ _ _ _ (f + 1) _ hj]
  by_cases e9 : j = e
  · subst e9; rw [if_pos rfl, if_neg (by omega), if_pos rfl]
    show _ = (if befP rows us es j f = true then mkM (befP rows us es j) f ||| 2 ^ f else mkM (befP rows us es j) f)
    rw [if_pos hp]
  · rw [if_neg e9, befM_at _ _ _ _ _ _ _ hj, if_neg e9, if_neg e9]
theorem befM_skip (rows us es : List Nat) (m e f : Nat) (hp : befP rows us es e f = false) : befM rows us es m e f = befM rows us es m e (f + 1) := by
  refine list_eq_getD _ _ m (befM_len _ _ _ _ _ _) (befM_len _ _ _ _ _ _) fun j hj => ?_
  rw [befM_at _ _ _ _ _ _ _ hj, befM_at _ _ _ _ _ _ _ hj]
  have : mkM (befP rows us es e) (f + 1) = mkM (befP rows us es e) f := by
    show (if befP rows us es e f = true then _ else _) = _
    rw [hp]; rfl
  rw [this]
theorem befM_lt (rows us es : List Nat) (m e f : Nat) (hf : f ≤ m) (j : Nat) : (befM rows us es m e f).getD j 0 < 2 ^ m := by
  rcases Nat.lt_or_ge j m with h | h
  · rw [befM_at _ _ _ _ _ _ _ h]
    split
    · exact mkM_lt _ _ _ (Nat.le_refl _)
    · split
      · exact mkM_lt _ _ _ hf
      · exact p2_pos m
  · rw [getD_past _ m j (befM_len _ _ _ _ _ _) h]; exact p2_pos m
/-- The sorted places are the events. -/
theorem evs_of (rows us es : List Nat) (m : Nat) (hu : us.length = m) (hp : es.Perm (List.range m)) (hs : Srt (fun p => us.getD p 0) es 0 m) :
    Evs (RDep rows) us m (fun e => es.getD e 0) (fun e => (letM us es m m).getD e 0) (fun e => (befM rows us es m m 0).getD e 0) := by
  have hl : es.length = m := by rw [hp.length_eq, List.length_range]
  have hnd : es.Nodup := hp.nodup_iff.2 List.nodup_range
  have hin : ∀ e, e < m → es.getD e 0 ∈ es := fun e he => by
    rw [List.getD_eq_getElem?_getD, List.getElem?_eq_getElem (by omega)]; exact List.getElem_mem _
  refine ⟨hu, fun e he => ?_, fun e f he hf h => ?_, fun p hp' => ?_, fun e he => letM_at _ _ _ _ _ he, fun e f hef hf => ?_, fun e f he => ?_⟩
  · have := hp.mem_iff.1 (hin e he)
    rwa [List.mem_range] at this
  · have h1 : es[e]? = es[f]? := by
      have h' : es.getD e 0 = es.getD f 0 := h
      rw [List.getD_eq_getElem?_getD, List.getD_eq_getElem?_getD, List.getElem?_eq_getElem (by omega), List.getElem?_eq_getElem (by omega)] at h'
      rw [List.getElem?_eq_getElem (by omega), List.getElem?_eq_getElem (by omega)]
      exact congrArg some h'
    exact (List.getElem?_inj (by omega) hnd).1 h1
  · have : p ∈ es := hp.mem_iff.2 (List.mem_range.2 hp')
    obtain ⟨j, hj, e⟩ := List.getElem_of_mem this
    exact ⟨j, by omega, by show es.getD j 0 = p; rw [List.getD_eq_getElem?_getD, List.getElem?_eq_getElem hj]; exact e⟩
  · show (letM us es m m).getD e 0 ≤ (letM us es m m).getD f 0
    rw [letM_at _ _ _ _ _ (by omega), letM_at _ _ _ _ _ hf]
    exact hs e f (Nat.zero_le _) hef hf
  · show ((befM rows us es m m 0).getD e 0).testBit f = true ↔ _
    rw [befM_at _ _ _ _ _ _ _ he, if_pos he, mkM_bit]
    show (f < m ∧ (decide (es.getD f 0 < es.getD e 0) && _) = true) ↔ _
    rw [Bool.and_eq_true, decide_eq_true_eq]
/-- Picking goes on to the end. -/
theorem goes_of {D : Nat → Nat → Bool} {us : List Nat} {m n : Nat} {es ls bf : Nat → Nat} (h : Evs D us m es ls bf) (hm : m ≤ 24) (hsym : ∀ a b, D a b = D b a) (href : ∀ a, a < n → D a a = true) (hn : ∀ p, p < m → us.getD p 0 < n) :
    ∀ (k left : Nat) (ps : List Nat), left < 2 ^ m → Left m es left ps → ps.length = k → Goes bf k left
  | 0, left, ps, hlt, hl, hk => by
    have hps : ps = [] := List.eq_nil_of_length_eq_zero hk
    subst hps
    show left = 0
    apply Nat.eq_of_testBit_eq
    intro i
    rw [Nat.zero_testBit]
    cases hb : left.testBit i
    · rfl
    · have := (hl.2 (es i)).2 ⟨i, bit_lt hlt hb, hb, rfl⟩
      cases this
  | k + 1, left, ps, hlt, hl, hk => by
    obtain ⟨e, he⟩ := pick_none h hm hl (fun e => by rw [e] at hk; simp at hk)
    obtain ⟨h1, h2, h3, h4, h5⟩ := pick_some h hm hsym href hn hlt hl he
    refine ⟨fun h0 => ?_, e, he, goes_of h hm hsym href hn k _ _ (Nat.lt_of_le_of_lt (dif_le _ _) hlt) h4 (by rw [List.length_erase_of_mem h5]; omega)⟩
    have := ((pickB_iff bf left e).1 he).1.2.1
    rw [h0, Nat.zero_testBit] at this; cases this
theorem goes_full {D : Nat → Nat → Bool} {us : List Nat} {m n : Nat} {es ls bf : Nat → Nat} (h : Evs D us m es ls bf) (hm : m ≤ 24) (hsym : ∀ a b, D a b = D b a) (href : ∀ a, a < n → D a a = true) (hn : ∀ p, p < m → us.getD p 0 < n) : Goes bf m (2 ^ m - 1) :=
  goes_of h hm hsym href hn m (2 ^ m - 1) (List.range m) (by have := Nat.two_pow_pos m; omega) (left_full m hm es h) (by simp)
theorem bits_full (m : Nat) (hm : m ≤ 24) : bitsOf (2 ^ m - 1) = List.range m := by
  unfold bitsOf
  rw [upTo_skip (2 ^ m - 1) m 24 hm (fun b h1 _ => by rw [Nat.testBit_two_pow_sub_one]; simp; omega)]
  unfold upTo
  rw [List.filter_eq_self]
  intro b hb
  rw [Nat.testBit_two_pow_sub_one]
  simpa using hb
theorem range_st (key : Nat → Nat) (m : Nat) : St key (List.range m) := fun p q h1 h2 _ => by
  rw [List.length_range] at h2
  have e : ∀ k, k < m → (List.range m).getD k 0 = k := fun k hk => by rw [List.getD_eq_getElem?_getD, List.getElem?_range hk]; rfl
  rw [e p (by omega), e q h2]; exact h1
theorem members_zero (w : World) :
    Calls Tryd.prog 157 #[.int .i64 0] w fun e w' => ∃ g c, e = .returned (.slice (some ⟨g, 0, none⟩) 0 c) ∧ Own 2 w' w.heap.size (some ⟨g, 0, none⟩) 0 c (ints []) ∧ Below w.heap.size w w' := by
  obtain ⟨i0, hi, hz0, hz1, hz2⟩ := info_parts info_int
  go_enter Tryd.func157, Tryd.ntmps157
  go_wp2_with fail
  refine (size_any 0 (by omega) _).mono ?_
  rintro e w' ⟨N, hN, rfl, rfl⟩
  have hml : N ≤ maxLen := by unfold maxLen; omega
  have hby : i0.bytes * N ≤ 281474976710656 := by rw [hz2]; omega
  go_wp2_with (at_make; refine wpList_make_own _ rfl _ _ _ rfl w.heap.size 2 i0 (.int .i64 0) 1 Tryd.underlying22 hi hz0 hz1 _ _ (N : Int) N rfl rfl rfl hby hml (Nat.le_refl _) ?_; intro w1 hown0 hg1)
  have hb1 : Below w.heap.size w w1 := (Below.refl _ _).grown hg1 (Nat.le_refl _) (by simp)
  clear hg1 hml hby
  go_loopw [3, 4] (fun v q wr => v = .slice (some ⟨w.heap.size, 0, none⟩) 0 N ∧ q = .int .i64 0 ∧ wr = w1) (fun _ q _ => (intOf q).toNat)
  case atStart => exact ⟨rfl, rfl, rfl⟩
  case round =>
    obtain ⟨rfl, rfl, rfl⟩ := hrel
    go_wp2
    go_ret
    exact ⟨_, _, rfl, hown0, hb1⟩
theorem members_some (x : Nat) (hx : x < 16777216) (w : World) (hT : Tab w) :
    Calls Tryd.prog 157 #[.int .i64 (x : Int)] w fun e w' => ∃ g c, e = .returned (.slice (some ⟨g, 0, none⟩) (bitsOf x).length c) ∧ Own 2 w' w.heap.size (some ⟨g, 0, none⟩) (bitsOf x).length c (ints (bitsOf x)) ∧ Below w.heap.size w w' := by
  by_cases h : 0 < (bitsOf x).length
  · refine (members_any x hx w hT).mono ?_
    rintro e w' ⟨A, c, rfl, ho, hb⟩
    obtain ⟨g, rfl, _⟩ := ho.form h
    exact ⟨g, c, rfl, ho, hb⟩
  · have hl : (bitsOf x).length = 0 := by omega
    have hnil : bitsOf x = [] := List.eq_nil_of_length_eq_zero hl
    have hx0 : x = 0 := by
      apply Nat.eq_of_testBit_eq
      intro i
      rw [Nat.zero_testBit]
      cases hb : x.testBit i
      · rfl
      · have hi : i < 24 := bit_lt (show x < 2 ^ 24 by omega) hb
        have := (bitsOf_mem x i).2 ⟨hi, hb⟩
        rw [hnil] at this; cases this
    subst hx0
    rw [hnil]
    exact members_zero w
end Go.Proofs.YtcojodkcpemfdaaDoor
