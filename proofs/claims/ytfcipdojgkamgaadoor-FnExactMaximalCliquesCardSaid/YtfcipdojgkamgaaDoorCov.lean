/-
  The covers of an order: the model's way and the program's, by contracts.
-/
import Derived.Test.YtfcipdojgkamgaaDoorOrd2
import Derived.Deep.RegionWith
namespace Go.Proofs.YtfcipdojgkamgaaDoor
open Go.RowKit
set_option linter.unusedVariables false
set_option maxRecDepth 100000

/-! ### counting -/
def cntP (p : Nat → Bool) : Nat → Nat
  | 0 => 0
  | k + 1 => cntP p k + if p k = true then 1 else 0
theorem cntP_le (p : Nat → Bool) (n : Nat) : cntP p n ≤ n := by
  induction n with
  | zero => exact Nat.le_refl _
  | succ n ih => unfold cntP; split <;> omega
theorem cntP_congr (p q : Nat → Bool) (n : Nat) (h : ∀ j, j < n → p j = q j) : cntP p n = cntP q n := by
  induction n with
  | zero => rfl
  | succ n ih => unfold cntP; rw [ih fun j hj => h j (by omega), h n (by omega)]
theorem cntP_zero (p : Nat → Bool) (n : Nat) : cntP p n = 0 ↔ ∀ j, j < n → p j = false := by
  induction n with
  | zero => simp [cntP]
  | succ n ih =>
    unfold cntP
    constructor
    · intro h j hj
      by_cases e : p n = true
      · rw [if_pos e] at h; omega
      · rw [if_neg e] at h
        by_cases e2 : j = n
        · subst e2; simpa using e
        · exact ih.1 (by omega) j (by omega)
    · intro h
      rw [if_neg (by rw [h n (by omega)]; decide), ih.2 fun j hj => h j (by omega)]
theorem cntP_remove (p : Nat → Bool) (n i : Nat) (hi : i < n) (hp : p i = true) : cntP p n = cntP (fun j => p j && !decide (j = i)) n + 1 := by
  induction n with
  | zero => omega
  | succ n ih =>
    unfold cntP
    by_cases e : i = n
    · subst e
      rw [if_pos hp, if_neg (by simp)]
      congr 1
      exact cntP_congr _ _ _ fun j hj => by rw [decide_eq_false (by omega)]; simp
    · rw [ih (by omega)]
      have : (p n && !decide (n = i)) = p n := by rw [decide_eq_false (by omega)]; simp
      rw [this]; omega
theorem cntP_two (p : Nat → Bool) (n i k : Nat) (hi : i < n) (hk : k < n) (hik : i ≠ k) (hpi : p i = true) (hpk : p k = true) : cntP p n = 2 ↔ ∀ j, j < n → p j = true → j = i ∨ j = k := by
  rw [cntP_remove p n i hi hpi, cntP_remove _ n k hk (by rw [hpk, decide_eq_false (by omega)]; rfl)]
  constructor
  · intro h j hj hpj
    have := (cntP_zero (fun j => (p j && !decide (j = i)) && !decide (j = k)) n).1 (by omega) j hj
    rw [hpj] at this
    simp at this
    by_cases e : j = i
    · exact .inl e
    · exact .inr (this e)
  · intro h
    have := (cntP_zero (fun j => (p j && !decide (j = i)) && !decide (j = k)) n).2 fun j hj => by
      cases e : p j
      · rfl
      · rcases h j hj e with rfl | rfl <;> simp
    omega

/-- j stands between i and k, these among them. -/
def btw (rs : List Nat) (i k j : Nat) : Bool := (rs.getD i 0).testBit j && (rs.getD j 0).testBit k
def covRow (rs : List Nat) (i n : Nat) : Nat → Nat
  | 0 => 0
  | k + 1 => if i ≠ k ∧ cntP (btw rs i k) n = 2 then covRow rs i n k ||| 2 ^ k else covRow rs i n k
theorem covRow_bit (rs : List Nat) (i n t b : Nat) : (covRow rs i n t).testBit b = true ↔ b < t ∧ i ≠ b ∧ cntP (btw rs i b) n = 2 := by
  induction t with
  | zero => simp [covRow]
  | succ t ih =>
    unfold covRow
    by_cases h : i ≠ t ∧ cntP (btw rs i t) n = 2
    · rw [if_pos h, Nat.testBit_or, Bool.or_eq_true, ih, p2_bit]
      constructor
      · rintro (⟨h1, h2⟩ | rfl)
        · exact ⟨by omega, h2⟩
        · exact ⟨by omega, h⟩
      · rintro ⟨h1, h2⟩
        by_cases e : t = b
        · exact .inr e
        · exact .inl ⟨by omega, h2⟩
    · rw [if_neg h, ih]
      constructor
      · rintro ⟨h1, h2⟩; exact ⟨by omega, h2⟩
      · rintro ⟨h1, h2⟩
        by_cases e : t = b
        · subst e; exact absurd h2 h
        · exact ⟨by omega, h2⟩
theorem covRow_lt (rs : List Nat) (i n t m : Nat) (h : t ≤ m) : covRow rs i n t < 2 ^ m := by
  induction t with
  | zero => exact p2_pos m
  | succ t ih =>
    unfold covRow
    split
    · exact Nat.or_lt_two_pow (ih (by omega)) (Nat.pow_lt_pow_right (by decide) (by omega))
    · exact ih (by omega)
def covM (rs : List Nat) : List Nat := (List.range rs.length).map fun i => covRow rs i rs.length rs.length
theorem covM_len (rs : List Nat) : (covM rs).length = rs.length := by simp [covM]
theorem covM_at (rs : List Nat) (i : Nat) (h : i < rs.length) : (covM rs).getD i 0 = covRow rs i rs.length rs.length := getD_range_map _ _ _ h
theorem covM_lt (rs : List Nat) (n : Nat) (hn : rs.length = n) (i : Nat) : (covM rs).getD i 0 < 2 ^ n := by
  rcases Nat.lt_or_ge i n with h | h
  · rw [covM_at rs i (by omega), hn]; exact covRow_lt rs i n n n (Nat.le_refl _)
  · rw [getD_past _ n i (by rw [covM_len, hn]) h]; exact p2_pos n
/-- Of an order: covers are what is strictly above with nothing strictly between. -/
theorem cov_iff (rs : List Nat) (n i b : Nat) (hn : rs.length = n) (hr : ∀ i, rs.getD i 0 < 2 ^ n) (ho : IsOrd rs) (hi : i < n) (hb : b < n) :
    (i ≠ b ∧ cntP (btw rs i b) n = 2) ↔ (R rs i b ∧ b ≠ i ∧ ∀ j, R rs i j → j ≠ i → ¬ (R rs j b ∧ b ≠ j)) := by
  have hbt : ∀ j, btw rs i b j = true ↔ R rs i j ∧ R rs j b := fun j => by unfold btw R; rw [Bool.and_eq_true]
  have hlt : ∀ {x y}, R rs x y → y < n := fun h => bit_lt (hr _) h
  have hrefl : ∀ x, x < n → R rs x x := fun x hx => (ho x (by omega)).1
  constructor
  · rintro ⟨hne, hc⟩
    have hR : R rs i b := by
      apply Classical.byContradiction
      intro hno
      have : cntP (btw rs i b) n = 0 := (cntP_zero _ n).2 fun j hj => by
        cases e : btw rs i b j
        · rfl
        · obtain ⟨h1, h2⟩ := (hbt j).1 e
          exact absurd (((ho i (by omega)).2 j h1).2 b h2) hno
      omega
    refine ⟨hR, fun e => hne e.symm, fun j hj hji ⟨hjb, hbj⟩ => ?_⟩
    have := (cntP_two (btw rs i b) n i b hi hb hne ((hbt i).2 ⟨hrefl i hi, hR⟩) ((hbt b).2 ⟨hR, hrefl b hb⟩)).1 hc j (hlt hj) ((hbt j).2 ⟨hj, hjb⟩)
    rcases this with h | h
    · exact hji h
    · exact hbj h.symm
  · rintro ⟨hR, hne, hno⟩
    refine ⟨fun e => hne e.symm, ?_⟩
    refine (cntP_two (btw rs i b) n i b hi hb (fun e => hne e.symm) ((hbt i).2 ⟨hrefl i hi, hR⟩) ((hbt b).2 ⟨hR, hrefl b hb⟩)).2 fun j hj hp => ?_
    obtain ⟨h1, h2⟩ := (hbt j).1 hp
    by_cases e : j = i
    · exact .inl e
    · right
      apply Classical.byContradiction
      intro e2
      exact hno j h1 e ⟨h2, fun e3 => e2 e3.symm⟩

def strM (rs : List Nat) : List Nat := (List.range rs.length).map fun i => dif (rs.getD i 0) (2 ^ i)
theorem strM_len (rs : List Nat) : (strM rs).length = rs.length := by simp [strM]
theorem strM_at (rs : List Nat) (i : Nat) (h : i < rs.length) : (strM rs).getD i 0 = dif (rs.getD i 0) (2 ^ i) := getD_range_map _ _ _ h
theorem strM_lt (rs : List Nat) (n : Nat) (hn : rs.length = n) (hr : ∀ i, rs.getD i 0 < 2 ^ n) (i : Nat) : (strM rs).getD i 0 < 2 ^ n := by
  rcases Nat.lt_or_ge i n with h | h
  · rw [strM_at rs i (by omega)]; exact Nat.lt_of_le_of_lt (dif_le _ _) (hr i)
  · rw [getD_past _ n i (by rw [strM_len, hn]) h]; exact p2_pos n
theorem strM_bit (rs : List Nat) (n : Nat) (hn : rs.length = n) (h24 : n ≤ 24) (hr : ∀ i, rs.getD i 0 < 2 ^ n) (i b : Nat) (hi : i < n) : R (strM rs) i b ↔ R rs i b ∧ b ≠ i := by
  unfold R
  rw [strM_at rs i (by omega), dif_bit _ _ _ (lt63 h24 (hr i)) (p2_lt i (by omega)), Bool.and_eq_true, Nat.testBit_two_pow]
  simp
  intro _
  exact ⟨fun h e => h e.symm, fun h e => h e.symm⟩
theorem set_step (f : Nat → Nat) (rs ds : List Nat) (n k : Nat) (hd : ds.length = n) (hk : k < n)
    (hb : ∀ i, i < n → ds.getD i 0 = if i < k then f i else rs.getD i 0) :
    ∀ i, i < n → (ds.set k (f k)).getD i 0 = if i < k + 1 then f i else rs.getD i 0 := by
  intro i hi
  rw [getD_set ds k _ i (by omega)]
  by_cases e : i = k
  · subst e; rw [if_pos rfl, if_pos (by omega)]
  · rw [if_neg e, hb i hi]
    by_cases h : i < k
    · rw [if_pos h, if_pos (by omega)]
    · rw [if_neg h, if_neg (by omega)]
theorem list_eq_getD (cs ds : List Nat) (n : Nat) (hc : cs.length = n) (hd : ds.length = n) (h : ∀ i, i < n → cs.getD i 0 = ds.getD i 0) : cs = ds := by
  apply List.ext_getElem?
  intro i
  by_cases hi : i < n
  · have e1 : cs[i]? = some (cs.getD i 0) := by rw [List.getD_eq_getElem?_getD, List.getElem?_eq_getElem (by omega)]; rfl
    have e2 : ds[i]? = some (ds.getD i 0) := by rw [List.getD_eq_getElem?_getD, List.getElem?_eq_getElem (by omega)]; rfl
    rw [e1, e2, h i hi]
  · rw [List.getElem?_eq_none (by omega), List.getElem?_eq_none (by omega)]
theorem minus_nat (a b : Nat) (ha : a < 9223372036854775808) (hb : b < 9223372036854775808) (w : World) :
    Calls Tryd.prog 84 #[.int .i64 (a : Int), .int .i64 (b : Int)] w fun e w' => e = .returned (.int .i64 ((dif a b : Nat) : Int)) ∧ w = w' := by
  have := minus_int (a : Int) (b : Int) w
  rw [i64_andNot_nat a b ha hb] at this
  exact this
set_option maxHeartbeats 1600000 in
theorem strict_any (A : Option Addr) (n c : Nat) (rs : List Nat) (w : World) (h : Rd w A n (ints rs)) (hn : n ≤ 24) (hr : ∀ i, rs.getD i 0 < 2 ^ n) :
    Calls Tryd.prog 82 #[.slice A n c] w (MakesE 43 w n (ints (strM rs))) := by
  have hlen : rs.length = n := by have := h.1; rw [ints_len] at this; exact this
  have HL := Lib.hid hlen
  clear hlen
  go_enter Tryd.func82, Tryd.ntmps82
  go_wp2_with fail
  refine (clone_any A n c _ _ h hn).mono ?_
  rintro e w1 ⟨A1, c1, rfl, ho1, hb1⟩
  go_wp2_with fail
  go_loopw [9] (fun i wr => ∃ (k : Nat) (ds : List Nat), k ≤ n ∧ i = .int .i64 k ∧ ds.length = n ∧ Own 43 wr w.heap.size A1 n c1 (ints ds) ∧ Below w.heap.size w wr ∧ (∀ i, i < n → ds.getD i 0 = if i < k then dif (rs.getD i 0) (2 ^ i) else rs.getD i 0)) (fun i _ => n - (intOf i).toNat)
  case atStart => exact ⟨0, rs, Nat.zero_le _, rfl, HL.out, ho1, hb1, fun i hi => by rw [if_neg (by omega)]⟩
  case round =>
    clear ho1 hb1
    obtain ⟨k, ds, hk, rfl, hdl, ho, hb, hdw⟩ := hrel
    have HC := Lib.hid hdl
    have HW := Lib.hid hdw
    clear hdl hdw
    by_cases hlt : k < n
    · obtain ⟨g, rfl, hgB, hcell, hfr, hset⟩ := own_stored ho hlt
      have hst := Lib.hid (set_step (fun i => dif (rs.getD i 0) (2 ^ i)) rs ds n k HC.out hlt HW.out)
      have hdk : ds.getD k 0 = rs.getD k 0 := by rw [HW.out k hlt, if_neg (by omega)]
      have hm1 := lt63 hn (hr k)
      have hk62 : k ≤ 62 := by omega
      have hp2 := p2_lt k hk62
      have hw64 : IntKind.i64.wrap (2 ^ k : Int) = ((2 ^ k : Nat) : Int) := (IntWalk.i64_left _).trans (w64_p2 k hk62)
      rw [hdk] at hcell
      have ho4 := hset (dif (rs.getD k 0) (2 ^ k))
      have hb4 := hb.setCell (p := ⟨g, k, none⟩) hgB (.int .i64 ((dif (rs.getD k 0) (2 ^ k) : Nat) : Int))
      obtain ⟨D, hD⟩ : ∃ D, D = rs.getD k 0 := ⟨_, rfl⟩
      obtain ⟨Q, hQ⟩ : ∃ Q, Q = 2 ^ k := ⟨_, rfl⟩
      rw [← hD] at hcell hm1
      rw [← hD, ← hQ] at ho4 hb4
      rw [← hQ] at hp2 hw64
      have HST : Hid (∀ i, i < n → (ds.set k (dif D Q)).getD i 0 = if i < k + 1 then dif (rs.getD i 0) (2 ^ i) else rs.getD i 0) := by rw [hD, hQ]; exact hst
      clear hD hQ hset hdk hst
      go_wp2
      go_region_with (go_at_call 84; refine (minus_nat D Q hm1 hp2 _).mono ?_; rintro e w' ⟨rfl, rfl⟩)
      all_goals go_wp2
      go_roundw
      case rel => exact ⟨k + 1, ds.set k (dif D Q), by omega, by go_num, by rw [List.length_set]; exact HC.out, ho4, hb4.drew, HST.out⟩
      case measure => simp [intOf]; omega
    · obtain rfl : k = n := by omega
      go_wp2
      go_ret
      refine ⟨A1, c1, rfl, ?_, hb⟩
      rw [← list_eq_getD ds (strM rs) k HC.out (by rw [strM_len, HL.out]) (fun i hi => by rw [HW.out i hi, if_pos hi, strM_at rs i (by have := HL.out; omega)])]
      exact ho

/-- m without all that is above the elements of l. -/
def subM (us : List Nat) (m : Nat) (l : List Nat) : Nat := l.foldl (fun m j => dif m (us.getD j 0)) m
theorem subM_snoc (us : List Nat) (m : Nat) (l : List Nat) (j : Nat) : subM us m (l ++ [j]) = dif (subM us m l) (us.getD j 0) := by unfold subM; rw [List.foldl_append]; rfl
theorem subM_lt (us : List Nat) (m n : Nat) (l : List Nat) (hm : m < 2 ^ n) : subM us m l < 2 ^ n := by
  unfold subM
  induction l generalizing m with
  | nil => exact hm
  | cons j l ih => rw [List.foldl_cons]; exact ih _ (Nat.lt_of_le_of_lt (dif_le _ _) hm)
theorem subM_bit (us : List Nat) (n : Nat) (h24 : n ≤ 24) (ha : ∀ i, us.getD i 0 < 2 ^ n) (l : List Nat) (m b : Nat) (hm : m < 2 ^ n) :
    (subM us m l).testBit b = true ↔ m.testBit b = true ∧ ∀ j, j ∈ l → ¬ R us j b := by
  unfold subM
  induction l generalizing m with
  | nil => simp
  | cons j l ih =>
    rw [List.foldl_cons, ih _ (Nat.lt_of_le_of_lt (dif_le _ _) hm), dif_bit _ _ _ (lt63 h24 hm) (lt63 h24 (ha j)), Bool.and_eq_true]
    constructor
    · rintro ⟨⟨h1, h2⟩, h3⟩
      refine ⟨h1, fun q hq => ?_⟩
      rcases List.mem_cons.1 hq with rfl | hq
      · intro h; unfold R at h; rw [h] at h2; cases h2
      · exact h3 q hq
    · rintro ⟨h1, h2⟩
      refine ⟨⟨h1, ?_⟩, fun q hq => h2 q (List.mem_cons_of_mem _ hq)⟩
      have := h2 j List.mem_cons_self
      unfold R at this
      simpa using this
/-- What the program makes of an order. -/
def covI (rs : List Nat) : List Nat := (List.range rs.length).map fun i => subM (strM rs) ((strM rs).getD i 0) (bitsOf ((strM rs).getD i 0))
theorem covI_len (rs : List Nat) : (covI rs).length = rs.length := by simp [covI]
theorem covI_at (rs : List Nat) (i : Nat) (h : i < rs.length) : (covI rs).getD i 0 = subM (strM rs) ((strM rs).getD i 0) (bitsOf ((strM rs).getD i 0)) := getD_range_map _ _ _ h
theorem covI_eq (rs : List Nat) (n : Nat) (hn : rs.length = n) (h24 : n ≤ 24) (hr : ∀ i, rs.getD i 0 < 2 ^ n) (ho : IsOrd rs) : covI rs = covM rs := by
  have hs := strM_lt rs n hn hr
  refine masks_eq (covI rs) (covM rs) n (by rw [covI_len, hn]) (by rw [covM_len, hn]) (fun i => ?_) (covM_lt rs n hn) fun i b hi hb => ?_
  · rcases Nat.lt_or_ge i n with h | h
    · rw [covI_at rs i (by omega)]; exact subM_lt _ _ _ _ (hs i)
    · rw [getD_past _ n i (by rw [covI_len, hn]) h]; exact p2_pos n
  · rw [covI_at rs i (by omega), covM_at rs i (by omega), hn, covRow_bit, subM_bit (strM rs) n h24 hs _ _ _ (hs i)]
    have hc := cov_iff rs n i b hn hr ho hi hb
    have hsb : ∀ x y, x < n → (R (strM rs) x y ↔ R rs x y ∧ y ≠ x) := fun x y hx => strM_bit rs n hn h24 hr x y hx
    constructor
    · rintro ⟨h1, h2⟩
      have h1' := (hsb i b hi).1 h1
      refine ⟨hb, hc.2 ⟨h1'.1, h1'.2, fun j hj hji hjb => ?_⟩⟩
      have hjn : j < n := bit_lt (hr i) hj
      exact h2 j ((bitsOf_mem _ j).2 ⟨by omega, (hsb i j hi).2 ⟨hj, hji⟩⟩) ((hsb j b hjn).2 hjb)
    · rintro ⟨_, h2⟩
      obtain ⟨h3, h4, h5⟩ := hc.1 h2
      refine ⟨(hsb i b hi).2 ⟨h3, h4⟩, fun j hj hjb => ?_⟩
      have hj2 := (hsb i j hi).1 ((bitsOf_mem _ j).1 hj).2
      have hjn : j < n := bit_lt (hr i) hj2.1
      exact h5 j hj2.1 hj2.2 ((hsb j b hjn).1 hjb)
theorem set_same (ds : List Nat) (k m : Nat) (h : ds.getD k 0 = m) (hk : k < ds.length) : ds.set k m = ds := by
  apply List.ext_getElem?
  intro i
  rw [List.getElem?_set]
  by_cases e : k = i
  · subst e
    rw [if_pos rfl, if_pos hk, ← h, List.getD_eq_getElem?_getD, List.getElem?_eq_getElem hk]; rfl
  · rw [if_neg e]
set_option maxHeartbeats 3200000 in
theorem covers_any (A : Option Addr) (n c : Nat) (rs : List Nat) (w : World) (h : Rd w A n (ints rs)) (hn : n ≤ 24) (hr : ∀ i, rs.getD i 0 < 2 ^ n) (hT : Tab w) :
    Calls Tryd.prog 56 #[.slice A n c] w (MakesE 43 w n (ints (covI rs))) := by
  have hlen : rs.length = n := by have := h.1; rw [ints_len] at this; exact this
  have HL := Lib.hid hlen
  have hslt := strM_lt rs n hlen hr
  have HSL : Hid ((strM rs).length = n) := Lib.hid (by rw [strM_len, hlen])
  have HCI : Hid (∀ i, i < n → (covI rs).getD i 0 = subM (strM rs) ((strM rs).getD i 0) (bitsOf ((strM rs).getD i 0))) := Lib.hid (fun i hi => covI_at rs i (by omega))
  clear hlen
  go_enter Tryd.func56, Tryd.ntmps56
  go_wp2_with fail
  refine (strict_any A n c _ _ h hn hr).mono ?_
  rintro e w1 ⟨A1, c1, rfl, ho1, hb1⟩
  go_wp2_with fail
  refine (clone_any A1 n c1 _ _ ho1.rd hn).mono ?_
  rintro e w2 ⟨A2, c2, rfl, ho2, hb2⟩
  have hb12 := hb1.trans (hb2.mono hb1.size)
  have hoa := ho1.below hb2
  have HA1 := Lib.hid (fun k hk => (ho1.lt k hk).2)
  obtain ⟨us, has⟩ : ∃ us, us = strM rs := ⟨_, rfl⟩
  rw [← has] at hslt hoa ho2 HSL HCI
  have HAS := Lib.hid has
  clear has ho1 h
  go_wp2_with fail
  go_loopw [15] (fun i wr => ∃ (k : Nat) (ds : List Nat), k ≤ n ∧ i = .int .i64 k ∧ ds.length = n ∧ Own 43 wr w1.heap.size A2 n c2 (ints ds) ∧ Own 43 wr w.heap.size A1 n c1 (ints us) ∧ Below w.heap.size w wr ∧ (∀ i, i < n → ds.getD i 0 = if i < k then subM us (us.getD i 0) (bitsOf (us.getD i 0)) else us.getD i 0)) (fun i _ => n - (intOf i).toNat)
  case atStart => exact ⟨0, us, Nat.zero_le _, rfl, HSL.out, ho2, hoa, hb12, fun i hi => by rw [if_neg (by omega)]⟩
  case round =>
    clear ho2 hoa hb12
    obtain ⟨k, ds, hk, rfl, hdl, ho, hoa, hb, hdw⟩ := hrel
    have HC := Lib.hid hdl
    have HW := Lib.hid hdw
    clear hdl hdw
    by_cases hlt : k < n
    · obtain ⟨b, off, x, rfl, hbs, hx, hcx⟩ := hoa.rd.at_ hlt
      have hx2 := ints_getD us k (by rw [HSL.out]; exact hlt)
      rw [hx2] at hx
      injection hx with hx
      subst hx
      have hm := hslt k
      have hm24 : us.getD k 0 < 16777216 := by have := p24 n hn; omega
      have hdk : ds.getD k 0 = us.getD k 0 := by rw [HW.out k hlt, if_neg (by omega)]
      have HST := Lib.hid (set_step (fun i => subM us (us.getD i 0) (bitsOf (us.getD i 0))) us ds n k HC.out hlt HW.out)
      have HSAME := Lib.hid (set_same ds k (us.getD k 0) hdk (by rw [HC.out]; exact hlt))
      obtain ⟨D, hD⟩ : ∃ D, D = us.getD k 0 := ⟨_, rfl⟩
      rw [← hD] at hcx hm hm24 HSAME
      have HST2 : Hid (∀ i, i < n → (ds.set k (subM us D (bitsOf D))).getD i 0 = if i < k + 1 then subM us (us.getD i 0) (bitsOf (us.getD i 0)) else us.getD i 0) := by rw [hD]; exact HST
      have hT1 := hT.below hb
      have hblen := bitsOf_len D
      obtain ⟨g2, hg2, hg2B, _, _, _⟩ := own_stored ho hlt
      have hgs := (ho.lt g2 (by rw [hg2]; rfl)).2
      subst hg2
      clear hD hx2 hdk HST
      obtain ⟨wo, rfl⟩ : ∃ wo : World, wo = wr := ⟨_, rfl⟩
      go_wp2_with fail
      refine (members_any D hm24 _ hT1).mono ?_
      rintro e w3 ⟨A3, c3, rfl, ho3, hb3⟩
      have hbb := hb.trans (hb3.mono hb.size)
      have hoo := ho.below hb3
      have hoaa := hoa.below hb3
      obtain ⟨ms, hms⟩ : ∃ ms, ms = bitsOf D := ⟨_, rfl⟩
      rw [← hms] at ho3 hblen HST2 ⊢
      have HMS := Lib.hid hms
      have hoo2 : Own 43 w3 w1.heap.size (some ⟨g2, 0, none⟩) n c2 (ints (ds.set k (subM us D (ms.take 0)))) := by
        rw [show ds.set k (subM us D (ms.take 0)) = ds from HSAME.out]; exact hoo
      clear hms hoa hb ho hoo hcx hT1
      go_wp2
      go_loopw [23] (fun i wr => ∃ t : Nat, t ≤ ms.length ∧ i = .int .i64 t ∧ Own 43 wr w1.heap.size (some ⟨g2, 0, none⟩) n c2 (ints (ds.set k (subM us D (ms.take t)))) ∧ Own 43 wr w.heap.size (some ⟨b, off, none⟩) n c1 (ints us) ∧ Own 2 wr wo.heap.size A3 ms.length c3 (ints ms) ∧ Below w.heap.size w wr) (fun i _ => ms.length - (intOf i).toNat)
      case atStart => exact ⟨0, Nat.zero_le _, rfl, hoo2, hoaa, ho3, hbb⟩
      case round =>
        clear hoo2 hoaa ho3 hbb
        obtain ⟨t, ht, rfl, ho, hoa, ho3, hb⟩ := hrel
        by_cases hlt2 : t < ms.length
        · obtain ⟨b3, off3, x3, rfl, hbs3, hx3, hcx3⟩ := ho3.rd.at_ hlt2
          have hma : ms[t]? = some (ms.getD t 0) := by rw [List.getD_eq_getElem?_getD, List.getElem?_eq_getElem hlt2]; rfl
          have hx4 := ints_at hma
          rw [hx4] at hx3
          injection hx3 with hx3
          subst hx3
          obtain ⟨a, haa⟩ : ∃ a, a = ms.getD t 0 := ⟨_, rfl⟩
          rw [← haa] at hma hcx3
          have hmem : a ∈ bitsOf D := by rw [← HMS.out]; exact List.mem_of_getElem? hma
          have han : a < n := bit_lt hm ((bitsOf_mem D a).1 hmem).2
          have hnext : subM us D (ms.take (t + 1)) = dif (subM us D (ms.take t)) (us.getD a 0) := by
            rw [List.take_add_one, hma]; exact subM_snoc _ _ _ _
          obtain ⟨b4, off4, x4, hadr, hbs4, hx5, hcx4⟩ := hoa.rd.at_ han
          injection hadr with hadr
          injection hadr with hadr1 hadr2
          subst hadr1 hadr2
          have hx6 := ints_getD us a (by rw [HSL.out]; exact han)
          rw [hx6] at hx5
          injection hx5 with hx5
          subst hx5
          obtain ⟨g, hgg, hgB, hcell, hfr, hset⟩ := own_stored ho hlt
          injection hgg with hgg
          injection hgg with hgg _ _
          subst hgg
          rw [getD_set ds k _ k (by rw [HC.out]; exact hlt), if_pos rfl] at hcell
          have hmS := lt63 hn (subM_lt us D n (ms.take t) hm)
          have hmV := lt63 hn (hslt a)
          have ho4 := hset (dif (subM us D (ms.take t)) (us.getD a 0))
          rw [List.set_set, ← hnext] at ho4
          rw [hnext] at ho4
          have hgrow := grown_set (World.grownBy.refl wr (some g2)) k (.int .i64 ((dif (subM us D (ms.take t)) (us.getD a 0) : Nat) : Int))
          have hoa4 := hoa.apart hgrow (fun q hq e => by have h7 := HA1.out q hq; injection e with e; omega)
          have ho34 := ho3.apart hgrow (fun q hq e => by have h7 := (ho3.lt q hq).1; injection e with e; omega)
          have hb4 := hb.setCell (p := ⟨g2, k, none⟩) (by have := hb1.size; show w.heap.size ≤ g2; omega) (.int .i64 ((dif (subM us D (ms.take t)) (us.getD a 0) : Nat) : Int))
          obtain ⟨S, hS⟩ : ∃ S, S = subM us D (ms.take t) := ⟨_, rfl⟩
          obtain ⟨V, hV⟩ : ∃ V, V = us.getD a 0 := ⟨_, rfl⟩
          rw [← hS] at hcell hmS
          rw [← hV] at hcx4 hmV
          rw [← hS, ← hV] at ho4 hoa4 ho34 hb4 hnext
          have HN := Lib.hid hnext
          clear hS hV haa hma hx4 hx6 hset hnext hgrow
          go_wp2
          go_region_with (go_at_call 84; refine (minus_nat S V hmS hmV _).mono ?_; rintro e w' ⟨rfl, rfl⟩)
          all_goals go_wp2
          all_goals
            go_roundw
            case rel => exact ⟨t + 1, by omega, by go_num, by rw [HN.out]; exact ho4, hoa4, ho34, hb4.drew⟩
            case measure => simp [intOf]; omega
        · obtain rfl : t = ms.length := by omega
          have e : ms.take ms.length = ms := List.take_of_length_le (Nat.le_refl _)
          rw [e] at ho
          clear e
          go_wp2
          go_roundw
          case rel => exact ⟨k + 1, ds.set k (subM us D ms), by omega, by go_num, by rw [List.length_set]; exact HC.out, ho, hoa, hb, HST2.out⟩
          case measure => simp [intOf]; omega
    · obtain rfl : k = n := by omega
      go_wp2
      go_ret
      refine ⟨A2, c2, rfl, ?_, hb⟩
      rw [← list_eq_getD ds (covI rs) k HC.out (by rw [covI_len, HL.out]) (fun i hi => by rw [HW.out i hi, if_pos hi, HCI.out i hi])]
      exact ho.mono hb1.size

set_option maxHeartbeats 3200000 in
theorem specCovers_yes (A : Option Addr) (n c : Nat) (rs : List Nat) (w : World) (h : Rd w A n (ints rs)) (hn : n ≤ 24) (hr : ∀ i, rs.getD i 0 < 2 ^ n) (hord : orderB (ints rs) = true) :
    Calls Tryd.prog 24 #[.slice A n c] w (AnsPost w (ints (covM rs)) 0) := by
  have hlen : rs.length = n := by have := h.1; rw [ints_len] at this; exact this
  have HL := Lib.hid hlen
  have HR := Lib.hid hord
  clear hlen hord
  have hn2 : n ≤ 9223372036854775807 := by omega
  obtain ⟨i0, hi, hz0, hz1, hz2⟩ := info_parts info_int
  go_enter Tryd.func24, Tryd.ntmps24
  go_wp2_with fail
  refine (specIsOrder _ _ _ _ _ h hn2).mono ?_
  rintro e w1 ⟨rfl, hb1⟩
  rw [HR.out]
  go_wp2_with fail
  go_loopw [4, 5] (fun v i wr => ∃ (k : Nat) (A1 : Option Addr) (c1 : Nat), k ≤ n ∧ i = .int .i64 k ∧ v = .slice A1 k c1 ∧ Own 2 wr w.heap.size A1 k c1 (ints ((covM rs).take k)) ∧ Below w.heap.size w wr) (fun _ i _ => n - (intOf i).toNat)
  case atStart => exact ⟨0, _, 0, Nat.zero_le _, rfl, rfl, (World.ownsRow_lit w1 #[] 0 hb1.size (by unfold maxLen; omega) rfl), hb1.alloc hb1.size _⟩
  case round =>
    clear hb1
    obtain ⟨i, A1, c1, hk, rfl, rfl, ho, hb⟩ := hrel
    by_cases hlt : i < n
    · have hrd := h.below hb
      have hi62 : i ≤ 62 := by omega
      obtain ⟨wo, rfl⟩ : ∃ wo : World, wo = wr := ⟨_, rfl⟩
      go_wp2
      go_loop [6, 7] (fun q j => ∃ k : Nat, k ≤ n ∧ j = .int .i64 k ∧ q = .int .i64 (covRow rs i n k : Nat)) (fun _ j => n - (intOf j).toNat)
      case atStart => exact ⟨0, Nat.zero_le _, rfl, rfl⟩
      case round =>
        obtain ⟨k, hk2, rfl, rfl⟩ := hrel
        have hq := lt63 hn (covRow_lt rs i n k n hk2)
        by_cases hlt2 : k < n
        · have hk62 : k ≤ 62 := by omega
          have e1 : covRow rs i n (k + 1) = if i ≠ k ∧ cntP (btw rs i k) n = 2 then covRow rs i n k ||| 2 ^ k else covRow rs i n k := rfl
          obtain ⟨S, hS⟩ : ∃ S, S = covRow rs i n k := ⟨_, rfl⟩
          rw [← hS] at hq e1 ⊢
          have HE := Lib.hid e1
          clear hS e1
          go_wp2
          go_loop [8, 9] (fun q j => ∃ t : Nat, t ≤ n ∧ j = .int .i64 t ∧ q = .int .i64 (cntP (btw rs i k) t : Nat)) (fun _ j => n - (intOf j).toNat)
          case atStart => exact ⟨0, Nat.zero_le _, rfl, rfl⟩
          case round =>
            obtain ⟨t, ht, rfl, rfl⟩ := hrel
            have hcl := cntP_le (btw rs i k) t
            by_cases hlt3 : t < n
            · obtain ⟨b, off, x, rfl, hbs, hx, hcx⟩ := hrd.at_ hlt
              have hx2 := ints_getD rs i (by rw [HL.out]; exact hlt)
              rw [hx2] at hx
              injection hx with hx
              subst hx
              obtain ⟨b1, off1, x1, hadr, hbs2, hx1, hcx2⟩ := hrd.at_ hlt3
              injection hadr with hadr
              injection hadr with hadr1 hadr2
              subst hadr1 hadr2
              have hx3 := ints_getD rs t (by rw [HL.out]; exact hlt3)
              rw [hx3] at hx1
              injection hx1 with hx1
              subst hx1
              have hmi := lt63 hn (hr i)
              have hmt := lt63 hn (hr t)
              have ht62 : t ≤ 62 := by omega
              have e2 : cntP (btw rs i k) (t + 1) = cntP (btw rs i k) t + if ((rs.getD i 0).testBit t && (rs.getD t 0).testBit k) = true then 1 else 0 := rfl
              clear hx2 hx3
              obtain ⟨X, hX⟩ : ∃ X, X = rs.getD i 0 := ⟨_, rfl⟩
              obtain ⟨Y, hY⟩ : ∃ Y, Y = rs.getD t 0 := ⟨_, rfl⟩
              rw [← hX] at hcx hmi
              rw [← hY] at hcx2 hmt
              rw [← hX, ← hY] at e2
              have HXY : Hid (i = t → Y = X) := Lib.hid (fun e => by rw [hX, hY, e])
              obtain ⟨C, hC⟩ : ∃ C, C = cntP (btw rs i k) t := ⟨_, rfl⟩
              rw [← hC] at hcl e2 ⊢
              have HE2 := Lib.hid e2
              clear hX hY hC e2
              have hcx2' : wo.cell? ⟨b, off + t, none⟩ = some (.int .i64 (Y : Int)) := hcx2
              have HC2 := Lib.hid hcx2
              clear hcx2 hcx2'
              cases hxt : X.testBit t
              · have HB := Lib.hid hxt
                clear hxt
                go_wp2_with (go_at_call 53; refine (bit_any X t hmi ht62 _).mono ?_; rintro e w' ⟨rfl, rfl⟩; rw [HB.out])
                go_round
                case rel => exact ⟨t + 1, by omega, by go_num, by rw [HE2.out, HB.out]; rfl⟩
                case measure => simp [intOf]; omega
              · have HB := Lib.hid hxt
                clear hxt
                have hcx3 := HC2.out
                cases hyk : Y.testBit k
                · have HB2 := Lib.hid hyk
                  clear hyk
                  go_wp2_with fail
                  refine (bit_any X t hmi ht62 _).mono ?_
                  rintro e w' ⟨rfl, rfl⟩
                  rw [HB.out]
                  go_wp2_with fail
                  refine (bit_any Y k hmt hk62 _).mono ?_
                  rintro e w' ⟨rfl, rfl⟩
                  rw [HB2.out]
                  go_wp2_with fail
                  go_round
                  case rel => exact ⟨t + 1, by omega, by go_num, by rw [HE2.out, HB.out, HB2.out]; rfl⟩
                  case measure => simp [intOf]; omega
                · have HB2 := Lib.hid hyk
                  clear hyk
                  go_wp2_with fail
                  refine (bit_any X t hmi ht62 _).mono ?_
                  rintro e w' ⟨rfl, rfl⟩
                  rw [HB.out]
                  go_wp2_with fail
                  refine (bit_any Y k hmt hk62 _).mono ?_
                  rintro e w' ⟨rfl, rfl⟩
                  rw [HB2.out]
                  go_wp2_with fail
                  go_round
                  case rel => exact ⟨t + 1, by omega, by go_num, by rw [HE2.out, HB.out, HB2.out]; go_num⟩
                  case measure => simp [intOf]; omega
            · obtain rfl : t = n := by omega
              by_cases hik : i = k
              · have HNO := Lib.hid (show ¬ (i ≠ k ∧ cntP (btw rs i k) t = 2) from fun h => h.1 hik)
                have hne1 : ((i : Int) != (k : Int)) = false := by simp; omega
                have hne2 : ((i : Int) == (k : Int)) = true := by simp; omega
                have HIK := Lib.hid hik
                clear hik
                go_wp2
                go_round
                case rel => exact ⟨k + 1, by omega, by go_num, by rw [HE.out, if_neg HNO.out]⟩
                case measure => simp [intOf]; omega
              · have hne1 : ((i : Int) != (k : Int)) = true := by simp; omega
                have hne2 : ((i : Int) == (k : Int)) = false := by simp; omega
                by_cases hc2 : cntP (btw rs i k) t = 2
                · have HYES := Lib.hid (show i ≠ k ∧ cntP (btw rs i k) t = 2 from ⟨hik, hc2⟩)
                  have hq1 : (((cntP (btw rs i k) t : Nat) : Int) == 2) = true := by simp; omega
                  clear hik hc2
                  go_wp2_with (go_at_call 55; refine (one_any k hk62 _).mono ?_; rintro e w' ⟨rfl, rfl⟩)
                  go_round
                  case rel => exact ⟨k + 1, by omega, by go_num, by rw [HE.out, if_pos HYES.out, or_p2 _ _ hq hk62]⟩
                  case measure => simp [intOf]; omega
                · have HNO := Lib.hid (show ¬ (i ≠ k ∧ cntP (btw rs i k) t = 2) from fun h => hc2 h.2)
                  have hq1 : (((cntP (btw rs i k) t : Nat) : Int) == 2) = false := by simp; omega
                  clear hik hc2
                  go_wp2
                  go_round
                  case rel => exact ⟨k + 1, by omega, by go_num, by rw [HE.out, if_neg HNO.out]⟩
                  case measure => simp [intOf]; omega
        · obtain rfl : k = n := by omega
          have hml : i + 1 ≤ maxLen := by unfold maxLen; omega
          have hby2 : (i + 1) * 8 ≤ 140737488355328 := by omega
          go_wp2_with (at_builtin; refine wpList_append_own _ rfl _ _ 22 rfl w.heap.size 2 i0 (.int .i64 0) 1 8 Tryd.underlying22 hi hz0 hz1 hz2 rfl (by decide) (.slice A1 i c1) i ((ints ((covM rs).take i)).map (Value.int .i64)) rfl (World.ownsRow.alloc ho _) ⟨wo.heap.size, 0, none⟩ 1 1 [.int .i64 ((covRow rs i k k : Nat) : Int)] rfl rfl ?s1 ?s2 hml hby2 ?s5 ?_)
          case s2 => rfl
          case s5 => have := hb.size; simp; omega
          intro v' w2 hown hg _
          rw [ints_snoc_map, show covRow rs i k k = (covM rs).getD i 0 by rw [covM_at rs i (by rw [HL.out]; exact hlt), HL.out], take_next_nat _ i (by rw [covM_len, HL.out]; exact hlt)] at hown
          have hb2 : Below w.heap.size w w2 := (hb.alloc hb.size _).grown hg (by have := hb.size; simp; omega) (fun g hgr => (World.ownsRow.lt ho g hgr).1)
          obtain ⟨A2, c2, hv, ho2⟩ := own_shape hown
          rw [hv]
          clear hg hown hv
          go_wp2
          go_roundw
          case rel => exact ⟨i + 1, A2, c2, by omega, by go_num, rfl, ho2, hb2⟩
          case measure => simp [intOf]; omega
    · obtain rfl : i = n := by omega
      have e : (covM rs).take i = covM rs := List.take_of_length_le (by rw [covM_len, HL.out]; exact Nat.le_refl _)
      rw [e] at ho
      clear e
      go_wp2
      go_ret2
      exact ans_yes (by rw [ints_len, covM_len, HL.out]) ho hb

/-- A list for an order, else ErrInvalid. -/
def ansO (f : List Nat → List Nat) (xs : List Int) : List Int × Int := if orderB xs = true then (ints (f (xs.map Int.toNat)), 0) else ([], 1)
theorem ansO_no (f : List Nat → List Nat) (xs : List Int) (h : orderB xs = false) : ansO f xs = ([], 1) := by unfold ansO; rw [if_neg (by rw [h]; decide)]
theorem orderB_rel (xs : List Int) (h : orderB xs = true) : relB xs = true := by unfold orderB at h; rw [Bool.and_eq_true] at h; exact h.1
theorem ansO_yes (f : List Nat → List Nat) (xs : List Int) (n : Nat) (hl : xs.length = n) (h : orderB xs = true) :
    ∃ rs, xs = ints rs ∧ rs.length = n ∧ n ≤ 24 ∧ (∀ i, rs.getD i 0 < 2 ^ n) ∧ IsOrd rs ∧ orderB (ints rs) = true ∧ ansO f xs = (ints (f rs), 0) := by
  obtain ⟨rs, rfl, h2, h3, h4⟩ := rel_nats xs n hl (orderB_rel xs h)
  refine ⟨rs, rfl, h2, h3, h4, ?_, h, ?_⟩
  · rw [orderB_ints rs (orderB_rel _ h)] at h
    exact (ord_iff rs n h2 h4).1 h
  · unfold ansO; rw [if_pos h, nats_ints]
theorem ansO_small (f : List Nat → List Nat) (b : Nat) (hf : ∀ rs, rs.length ≤ 24 → (f rs).length ≤ b) (xs : List Int) : (ansO f xs).1.length ≤ b := by
  unfold ansO
  split
  · rename_i h
    show (ints _).length ≤ b
    rw [ints_len]; exact hf _ (by rw [List.length_map]; exact relB_len xs (orderB_rel xs h))
  · exact Nat.zero_le _
def covAns (xs : List Int) : List Int × Int := ansO covM xs
theorem covAns_small (xs : List Int) : (covAns xs).1.length ≤ 24 := ansO_small covM 24 (fun rs h => by rw [covM_len]; exact h) xs
theorem implCoversOf (A : Option Addr) (n c : Nat) (xs : List Int) (w : World) (h : Rd w A n xs) (hwf : Wf xs) (hn : n ≤ 9223372036854775807) (hT : Tab w) :
    Calls Tryd.prog 25 #[.slice A n c] w (AnsPost w (covAns xs).1 (covAns xs).2) := by
  cases hr : orderB xs
  · rw [show covAns xs = _ from ansO_no covM xs hr]
    have HR := Lib.hid hr
    clear hr
    go_enter Tryd.func25, Tryd.ntmps25
    go_wp2_with fail
    refine (orderOf_no _ _ _ _ _ h hwf hn hT HR.out).mono ?_
    rintro e w1 ⟨rfl, hb1⟩
    go_wp2_with fail
    go_ret2
    exact ans_no 1 hb1
  · obtain ⟨rs, rfl, hlen, h24, hrs, hio, hr2, e⟩ := ansO_yes covM xs n h.1 hr
    rw [show covAns _ = _ from e, ← covI_eq rs n hlen h24 hrs hio]
    have HL := Lib.hid hlen
    have HR := Lib.hid hr
    have hn3 : n ≤ 1048576 := by omega
    clear hlen hr hr2 e
    go_enter Tryd.func25, Tryd.ntmps25
    go_wp2_with fail
    refine (orderOf_yes _ _ _ _ _ h hwf hn hT HR.out).mono ?_
    rintro e w1 ⟨A1, c1, rfl, ho1, hb1⟩
    have hT1 := hT.below hb1
    go_wp2_with fail
    refine (covers_any _ _ _ rs _ ho1.rd h24 hrs hT1).mono ?_
    rintro e w2 ⟨A2, c2, rfl, ho2, hb2⟩
    have hb12 := hb1.trans (hb2.mono hb1.size)
    go_wp2_with fail
    refine (masksOf_any _ _ _ _ _ ho2.rd hn3).mono ?_
    rintro e w3 ⟨A3, c3, rfl, ho3, hb3⟩
    have hb13 := hb12.trans (hb3.mono hb12.size)
    have ho3' := ho3.mono hb12.size
    go_wp2_with fail
    go_ret2
    exact ans_yes (by rw [ints_len, covI_len, HL.out]) ho3' hb13
theorem specCoversOf (A : Option Addr) (n c : Nat) (xs : List Int) (w : World) (h : Rd w A n xs) (hn : n ≤ 9223372036854775807) :
    Calls Tryd.prog 24 #[.slice A n c] w (AnsPost w (covAns xs).1 (covAns xs).2) := by
  cases hr : orderB xs
  · rw [show covAns xs = _ from ansO_no covM xs hr]
    have HR := Lib.hid hr
    clear hr
    go_enter Tryd.func24, Tryd.ntmps24
    go_wp2_with fail
    refine (specIsOrder _ _ _ _ _ h hn).mono ?_
    rintro e w1 ⟨rfl, hb1⟩
    rw [HR.out]
    go_wp2_with fail
    go_ret2
    exact ans_no 1 hb1
  · obtain ⟨rs, rfl, hlen, h24, hrs, hio, hr2, e⟩ := ansO_yes covM xs n h.1 hr
    rw [show covAns _ = _ from e]
    exact specCovers_yes A n c rs w h h24 hrs hr2
end Go.Proofs.YtfcipdojgkamgaaDoor
