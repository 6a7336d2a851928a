/-
  The components of a relation: the model's way and the program's, by contracts.
-/
import Derived.Test.YtbjkpkgnjeaimaaDoorCov
namespace Go.Proofs.YtbjkpkgnjeaimaaDoor
open Go.RowKit
set_option linter.unusedVariables false
set_option maxRecDepth 100000

def orM (rs qs : List Nat) : List Nat := (List.range rs.length).map fun i => rs.getD i 0 ||| qs.getD i 0
theorem orM_len (rs qs : List Nat) : (orM rs qs).length = rs.length := by simp [orM]
theorem orM_at (rs qs : List Nat) (i : Nat) (h : i < rs.length) : (orM rs qs).getD i 0 = rs.getD i 0 ||| qs.getD i 0 := getD_range_map _ _ _ h
theorem orM_lt (rs qs : List Nat) (n : Nat) (hn : rs.length = n) (hr : ∀ i, rs.getD i 0 < 2 ^ n) (hq : ∀ i, qs.getD i 0 < 2 ^ n) (i : Nat) : (orM rs qs).getD i 0 < 2 ^ n := by
  rcases Nat.lt_or_ge i n with h | h
  · rw [orM_at rs qs i (by omega)]; exact Nat.or_lt_two_pow (hr i) (hq i)
  · rw [getD_past _ n i (by rw [orM_len, hn]) h]; exact p2_pos n
/-- The relation in both directions. -/
def symM (rs : List Nat) : List Nat := orM rs (convM rs)
theorem symM_len (rs : List Nat) : (symM rs).length = rs.length := orM_len _ _
theorem symM_lt (rs : List Nat) (n : Nat) (hn : rs.length = n) (hr : ∀ i, rs.getD i 0 < 2 ^ n) (i : Nat) : (symM rs).getD i 0 < 2 ^ n := orM_lt rs _ n hn hr (convM_lt rs n hn) i
theorem symM_R (rs : List Nat) (n : Nat) (hn : rs.length = n) (hr : ∀ i, rs.getD i 0 < 2 ^ n) (i k : Nat) (hi : i < n) (hk : k < n) : R (symM rs) i k ↔ R rs i k ∨ R rs k i := by
  unfold R
  rw [symM, orM_at rs _ i (by omega), convM_at rs i (by omega), Nat.testBit_or, Bool.or_eq_true, colM_bit, hn]
  constructor
  · rintro (h | ⟨_, h⟩)
    · exact .inl h
    · exact .inr h
  · rintro (h | h)
    · exact .inl h
    · exact .inr ⟨hk, h⟩
theorem sym_RT (us : List Nat) (n : Nat) (hu : ∀ i, us.getD i 0 < 2 ^ n) (hs : ∀ i k, i < n → k < n → R us i k → R us k i) (i k : Nat) (hi : i < n) (h : RT us i k) : RT us k i := by
  induction h with
  | refl => exact .refl _
  | step h1 h2 ih =>
    have hj := RT.lt hu hi h1
    exact ((RT.refl _).step (hs _ _ hj (bit_lt (hu _) h2) h2)).trans ih
/-- The components that begin below t. -/
def compL (us : List Nat) (n : Nat) : Nat → List Nat
  | 0 => []
  | t + 1 => if low (reachM us t n) = t then compL us n t ++ [reachM us t n] else compL us n t
theorem compL_len (us : List Nat) (n t : Nat) : (compL us n t).length ≤ t := by
  induction t with
  | zero => exact Nat.le_refl _
  | succ t ih =>
    unfold compL
    split
    · rw [List.length_append]; simp; exact ih
    · omega
theorem reach_self (us : List Nat) (n t : Nat) (hn : us.length = n) (hu : ∀ i, us.getD i 0 < 2 ^ n) (ht : t < n) : (reachM us t n).testBit t = true := (reachM_bit us n t hn hu ht t).2 (.refl _)
theorem nonzero_of_bit {m b : Nat} (h : m.testBit b = true) : m ≠ 0 := by rintro rfl; simp at h
/-- A component begins with t exactly if no lesser one leads to t. -/
theorem comp_new (us : List Nat) (n t : Nat) (hn : us.length = n) (h24 : n ≤ 24) (hu : ∀ i, us.getD i 0 < 2 ^ n) (hs : ∀ i k, i < n → k < n → R us i k → R us k i) (ht : t < n) :
    low (reachM us t n) = t ↔ ¬ ∃ a, a < t ∧ RT us a t := by
  have hself := reach_self us n t hn hu ht
  have hlt := reachM_lt us n t n hu ht
  obtain ⟨h1, h2, _⟩ := low_bit (reachM us t n) (nonzero_of_bit hself) (lt63 h24 hlt)
  constructor
  · rintro e ⟨a, ha, hat⟩
    have := sym_RT us n hu hs a t (by omega) hat
    have hb := (reachM_bit us n t hn hu ht a).2 this
    rw [h2 a (by omega)] at hb; cases hb
  · intro hno
    apply Classical.byContradiction
    intro hne
    have hle : low (reachM us t n) ≤ t := by
      apply Classical.byContradiction
      intro hgt
      rw [h2 t (by omega)] at hself; cases hself
    have hb := (reachM_bit us n t hn hu ht _).1 h1
    exact hno ⟨low (reachM us t n), by omega, sym_RT us n hu hs t _ ht hb⟩
def compM (rs : List Nat) : List Nat := compL (symM rs) rs.length rs.length
theorem compM_len (rs : List Nat) : (compM rs).length ≤ rs.length := compL_len _ _ _

set_option maxHeartbeats 1600000 in
theorem union_any (A B : Option Addr) (n c d : Nat) (rs qs : List Nat) (w : World) (h : Rd w A n (ints rs)) (h2 : Rd w B n (ints qs)) (hn : n ≤ 24) (hr : ∀ i, rs.getD i 0 < 2 ^ n) (hq : ∀ i, qs.getD i 0 < 2 ^ n) :
    Calls Tryd.prog 103 #[.slice A n c, .slice B n d] w (MakesE 57 w n (ints (orM rs qs))) := by
  have hlen : rs.length = n := by have := h.1; rw [ints_len] at this; exact this
  have hlen2 : qs.length = n := by have := h2.1; rw [ints_len] at this; exact this
  have HL := Lib.hid hlen
  have HL2 := Lib.hid hlen2
  clear hlen hlen2
  go_enter Tryd.func103, Tryd.ntmps103
  go_wp2_with fail
  refine (clone_any A n c _ _ h hn).mono ?_
  rintro e w1 ⟨A1, c1, rfl, ho1, hb1⟩
  go_wp2_with fail
  go_loopw [11] (fun i wr => ∃ (k : Nat) (ds : List Nat), k ≤ n ∧ i = .int .i64 k ∧ ds.length = n ∧ Own 57 wr w.heap.size A1 n c1 (ints ds) ∧ Below w.heap.size w wr ∧ (∀ i, i < n → ds.getD i 0 = if i < k then rs.getD i 0 ||| qs.getD i 0 else rs.getD i 0)) (fun i _ => n - (intOf i).toNat)
  case atStart => exact ⟨0, rs, Nat.zero_le _, rfl, HL.out, ho1, hb1, fun i hi => by rw [if_neg (by omega)]⟩
  case round =>
    clear ho1 hb1
    obtain ⟨k, ds, hk, rfl, hdl, ho, hb, hdw⟩ := hrel
    have HC := Lib.hid hdl
    have HW := Lib.hid hdw
    clear hdl hdw
    by_cases hlt : k < n
    · obtain ⟨b, off, x, rfl, hbs, hx, hcx⟩ := (h2.below hb).at_ hlt
      have hx2 := ints_getD qs k (by rw [HL2.out]; exact hlt)
      rw [hx2] at hx
      injection hx with hx
      subst hx
      obtain ⟨g, rfl, hgB, hcell, hfr, hset⟩ := own_stored ho hlt
      have hst := Lib.hid (set_step (fun i => rs.getD i 0 ||| qs.getD i 0) rs ds n k HC.out hlt HW.out)
      have hdk : ds.getD k 0 = rs.getD k 0 := by rw [HW.out k hlt, if_neg (by omega)]
      rw [hdk] at hcell
      have hm1 := lt63 hn (hr k)
      have hm2 := lt63 hn (hq k)
      have ho4 := hset (rs.getD k 0 ||| qs.getD k 0)
      have hb4 := hb.setCell (p := ⟨g, k, none⟩) hgB (.int .i64 ((rs.getD k 0 ||| qs.getD k 0 : Nat) : Int))
      have hor := or63 _ _ hm1 hm2
      obtain ⟨S, hS⟩ : ∃ S, S = rs.getD k 0 := ⟨_, rfl⟩
      obtain ⟨D, hD⟩ : ∃ D, D = qs.getD k 0 := ⟨_, rfl⟩
      have hst2 : Hid (∀ i, i < n → (ds.set k (S ||| D)).getD i 0 = if i < k + 1 then rs.getD i 0 ||| qs.getD i 0 else rs.getD i 0) := by rw [hS, hD]; exact hst
      rw [← hS, ← hD] at ho4 hb4 hor
      rw [← hS] at hcell
      rw [← hD] at hcx
      clear hS hD hset hm1 hm2 hx2 hdk hst
      go_wp2
      go_region
      all_goals go_wp2
      go_roundw
      case rel => exact ⟨k + 1, ds.set k (S ||| D), by omega, by go_num, by rw [List.length_set]; exact HC.out, by first | exact ho4 | (have h9 := ho4; rw [← hor] at h9; exact h9), by first | exact hb4.drew | (have h9 := hb4.drew; rw [← hor] at h9; exact h9), hst2.out⟩
      case measure => simp [intOf]; omega
    · obtain rfl : k = n := by omega
      go_wp2
      go_ret
      refine ⟨A1, c1, rfl, ?_, hb⟩
      rw [← list_eq_getD ds (orM rs qs) k HC.out (by rw [orM_len, HL.out]) (fun i hi => by rw [HW.out i hi, if_pos hi, orM_at rs qs i (by have := HL.out; omega)])]
      exact ho
set_option maxHeartbeats 1600000 in
theorem classes_any (A : Option Addr) (n c : Nat) (rs : List Nat) (w : World) (h : Rd w A n (ints rs)) (hn : n ≤ 24) (hr : ∀ i, rs.getD i 0 < 2 ^ n) (hT : Tab w) :
    Calls Tryd.prog 78 #[.slice A n c] w (MakesE 57 w (compM rs).length (ints (compM rs))) := by
  have hlen : rs.length = n := by have := h.1; rw [ints_len] at this; exact this
  have HL := Lib.hid hlen
  have hus := symM_lt rs n hlen hr
  have HUL : Hid ((symM rs).length = n) := Lib.hid (by rw [symM_len, hlen])
  have HCM : Hid (compM rs = compL (symM rs) n n) := Lib.hid (by unfold compM; rw [hlen])
  have hcv := convM_lt rs n hlen
  clear hlen
  obtain ⟨i0, hi, hz0, hz1, hz2⟩ := info_parts info_set
  go_enter Tryd.func78, Tryd.ntmps78
  go_wp2_with fail
  refine (converse_any A n c rs _ h hn hr hT).mono ?_
  rintro e w1 ⟨A1, c1, rfl, ho1, hb1⟩
  have h1 := h.below hb1
  go_wp2_with fail
  refine (union_any A A1 n c c1 rs (convM rs) _ h1 ho1.rd hn hr hcv).mono ?_
  rintro e w2 ⟨A2, c2, rfl, ho2, hb2⟩
  have hb12 := hb1.trans (hb2.mono hb1.size)
  have ho2' : Own 57 w2 w1.heap.size A2 n c2 (ints (symM rs)) := ho2
  obtain ⟨us, hU⟩ : ∃ us, us = symM rs := ⟨_, rfl⟩
  rw [← hU] at ho2' hus HUL HCM
  have HU := Lib.hid hU
  clear hU ho2 ho1 h1 hb1 hcv
  go_wp2_with fail
  refine (closure_any A2 n c2 us _ ho2'.rd hn hus).mono ?_
  rintro e w3 ⟨A3, c3, rfl, ho3, hb3⟩
  have hb13 := hb12.trans (hb3.mono hb12.size)
  have hrd := ho3.rd
  clear ho2' hb12
  go_wp2_with fail
  go_loopw [3, 12] (fun v i wr => ∃ (k : Nat) (A4 : Option Addr) (c4 : Nat), k ≤ n ∧ i = .int .i64 k ∧ v = .slice A4 (compL us n k).length c4 ∧ Own 57 wr w3.heap.size A4 (compL us n k).length c4 (ints (compL us n k)) ∧ Below w3.heap.size w3 wr) (fun _ i _ => n - (intOf i).toNat)
  case atStart => exact ⟨0, none, 0, Nat.zero_le _, rfl, rfl, Own.nil _ _ _, Below.refl _ _⟩
  case round =>
    obtain ⟨k, A4, c4, hk, rfl, rfl, ho, hb⟩ := hrel
    by_cases hlt : k < n
    · obtain ⟨b, off, x, rfl, hbs, hx, hcx⟩ := (hrd.below hb).at_ hlt
      have hx2 := ints_getD (closM us) k (by rw [closM_len, HUL.out]; exact hlt)
      rw [hx2] at hx
      injection hx with hx
      subst hx
      have hclos := closM_at us k (by rw [HUL.out]; exact hlt)
      rw [HUL.out] at hclos
      rw [hclos] at hcx
      have hself := reach_self us n k HUL.out hus hlt
      have hnz := nonzero_of_bit hself
      have hm := lt63 hn (reachM_lt us n k n hus hlt)
      have hT1 := hT.below (hb13.trans (hb.mono hb13.size))
      have hll := compL_len us n k
      have hstep : compL us n (k + 1) = if low (reachM us k n) = k then compL us n k ++ [reachM us k n] else compL us n k := rfl
      have hlow : low (reachM us k n) < 64 := (low_spec _ hnz hm).choose_spec.2
      obtain ⟨M, hM⟩ : ∃ M, M = reachM us k n := ⟨_, rfl⟩
      rw [← hM] at hcx hnz hm hstep hlow
      have HST := Lib.hid hstep
      clear hM hx2 hclos hself hstep
      by_cases hl : low M = k
      · have HLW := Lib.hid hl
        have hq1 : (((low M : Nat) : Int) == (k : Int)) = true := by simp; omega
        have hml : (compL us n k).length + 1 ≤ maxLen := by unfold maxLen; omega
        have hby2 : ((compL us n k).length + 1) * 8 ≤ 140737488355328 := by omega
        clear hl
        go_wp2_with fail
        refine (least_any M hm hnz _ hT1).mono ?_
        rintro e w' ⟨rfl, rfl⟩
        go_wp2_with (at_builtin; refine wpList_append_own _ rfl _ _ 50 rfl w3.heap.size 57 i0 (.int .i64 0) 1 8 Tryd.underlying50 hi hz0 hz1 hz2 rfl (by decide) (.slice A4 (compL us n k).length c4) (compL us n k).length ((ints (compL us n k)).map (Value.int .i64)) rfl (World.ownsRow.alloc ho _) ⟨wr.heap.size, 0, none⟩ 1 1 [.int .i64 (M : Int)] rfl rfl ?s1 ?s2 hml hby2 ?s5 ?_)
        case s1 => exact cell_one_new _ _ _
        case s2 => intro u hu; simp at hu; subst hu; rfl
        case s5 => have := hb.size; simp; omega
        intro v' w4 hown hg _
        have hcl2 : compL us n k ++ [M] = compL us n (k + 1) := by rw [HST.out, if_pos HLW.out]
        rw [ints_snoc_map, hcl2] at hown
        have hb4 : Below w3.heap.size w3 w4 := (hb.alloc hb.size _).grown hg (by have := hb.size; simp; omega) (fun g hgr => (World.ownsRow.lt ho g hgr).1)
        obtain ⟨A5, c5, hv, ho5⟩ := own_shape hown
        have hl2 : (compL us n k).length + 1 = (compL us n (k + 1)).length := by rw [← hcl2, List.length_append]; rfl
        rw [hl2] at hv ho5
        rw [hv]
        have HL2 := Lib.hid hl2
        clear hg hown hv hl2 hcl2 hT1
        go_wp2
        go_roundw
        case rel => exact ⟨k + 1, A5, c5, by omega, by go_num, rfl, ho5, hb4⟩
        case measure => simp [intOf]; omega
      · have HLW := Lib.hid hl
        have hq1 : (((low M : Nat) : Int) == (k : Int)) = false := by simp; omega
        have hcl2 : Hid (compL us n k = compL us n (k + 1)) := Lib.hid (by rw [HST.out, if_neg HLW.out])
        clear hl
        go_wp2_with fail
        refine (least_any M hm hnz _ hT1).mono ?_
        rintro e w' ⟨rfl, rfl⟩
        go_wp2_with fail
        go_roundw
        case rel => exact ⟨k + 1, A4, c4, by omega, by go_num, by rw [← hcl2.out], by rw [← hcl2.out]; exact ho, hb⟩
        case measure => simp [intOf]; omega
    · obtain rfl : k = n := by omega
      go_wp2
      go_ret
      refine ⟨A4, c4, ?_, ?_, hb13.trans (hb.mono hb13.size)⟩
      · rw [HCM.out]; rfl
      · rw [HCM.out]; exact ho.mono hb13.size

theorem rd_news2 {w wx : World} {ad : Addr} {n : Nat} {xs : List Int} (h : Rd w (some ad) n xs) (hwx : ∀ p : Addr, p.block < w.heap.size → wx.cell? p = w.cell? p) (hsz : w.heap.size ≤ wx.heap.size) :
    ∀ j u, (xs.map (Value.int .i64))[j]? = some u → wx.cell? (ad.add j) = some u := by
  intro j u hu
  have hj : 0 < n := by
    rcases Nat.eq_zero_or_pos n with h0 | h0
    · have : xs = [] := List.eq_nil_of_length_eq_zero (by have := h.1; omega)
      subst this; simp at hu
    · exact h0
  obtain ⟨b, off, e, _⟩ := h.2 hj
  injection e with e
  subst e
  exact rd_news (h.keep hsz hwx) hj j u hu
set_option maxHeartbeats 800000 in
theorem own_any (A : Option Addr) (n c : Nat) (xs : List Int) (w : World) (h : Rd w A n xs) (hn : n ≤ 1048576) :
    Calls Tryd.prog 100 #[.slice A n c] w (MakesE 2 w n xs) := by
  obtain ⟨i0, hi, hz0, hz1, hz2⟩ := info_parts info_int
  cases A with
  | none =>
    have hn0 : n = 0 := by
      rcases Nat.eq_zero_or_pos n with h0 | h0
      · exact h0
      · obtain ⟨b, off, e, _⟩ := h.2 h0; cases e
    have hx : xs = [] := List.eq_nil_of_length_eq_zero (by have := h.1; omega)
    subst hn0 hx
    go_enter Tryd.func100, Tryd.ntmps100
    go_wp2
    go_ret
    exact ⟨_, 0, rfl, World.ownsRow_lit w #[] 0 (Nat.le_refl _) (by unfold maxLen; omega) rfl, (Below.refl _ _).alloc (Nat.le_refl _) _⟩
  | some ad =>
    have hml : 0 + n ≤ maxLen := by unfold maxLen; omega
    have hby2 : (0 + n) * 8 ≤ 140737488355328 := by omega
    have hlen : (xs.map (Value.int .i64)).length = n * 1 := by rw [List.length_map, h.1, Nat.mul_one]
    have hone := ints_oneCell .i64 xs
    have hnews := fun wx => rd_news2 (wx := wx) h
    clear h
    go_enter Tryd.func100, Tryd.ntmps100
    go_wp2_with (first | (at_builtin; refine wpList_append_own _ rfl _ _ 22 rfl w.heap.size 2 i0 (.int .i64 0) 1 8 Tryd.underlying22 hi hz0 hz1 hz2 rfl (by decide) (.slice (some ⟨w.heap.size, 0, none⟩) 0 0) 0 [] rfl ?s0 ad n c (xs.map (Value.int .i64)) rfl hlen ?s1 hone hml hby2 ?s5 ?_))
    case s0 => exact World.ownsRow_lit _ #[] 0 (Nat.le_refl _) (by unfold maxLen; omega) rfl
    case s1 => exact hnews _ (fun p hp => World.cell?_alloc_lt w _ p hp) (by simp)
    case s5 => simp
    intro v1 w1 hown hg _
    have hb : Below w.heap.size w w1 := ((Below.refl _ _).alloc (Nat.le_refl _) _).grown hg (by simp) (by simp [Value.ownBlock])
    obtain ⟨A1, c1, hv, ho⟩ := own_shape hown
    rw [hv]
    clear hg hown hv
    go_wp2
    go_ret
    exact ⟨A1, c1, rfl, ho, hb⟩

theorem seen_step (us : List Nat) (n t S : Nat) (hn : us.length = n) (hu : ∀ i, us.getD i 0 < 2 ^ n) (ht : t < n) (hS : ∀ b, S.testBit b = true ↔ ∃ a, a < t ∧ RT us a b) :
    (S.testBit t = false → ∀ b, (S ||| reachM us t n).testBit b = true ↔ ∃ a, a < t + 1 ∧ RT us a b) ∧ (S.testBit t = true → ∀ b, S.testBit b = true ↔ ∃ a, a < t + 1 ∧ RT us a b) := by
  constructor
  · intro _ b
    rw [Nat.testBit_or, Bool.or_eq_true, hS, reachM_bit us n t hn hu ht]
    constructor
    · rintro (⟨a, ha, h⟩ | h)
      · exact ⟨a, by omega, h⟩
      · exact ⟨t, by omega, h⟩
    · rintro ⟨a, ha, h⟩
      by_cases e : a = t
      · subst e; exact .inr h
      · exact .inl ⟨a, by omega, h⟩
  · intro h1 b
    rw [hS]
    constructor
    · rintro ⟨a, ha, h⟩; exact ⟨a, by omega, h⟩
    · rintro ⟨a, ha, h⟩
      by_cases e : a = t
      · subst e
        obtain ⟨q, hq, hqt⟩ := (hS a).1 h1
        exact ⟨q, hq, hqt.trans h⟩
      · exact ⟨a, by omega, h⟩
set_option maxHeartbeats 3200000 in
theorem specComponents_yes (A : Option Addr) (n c : Nat) (rs : List Nat) (w : World) (h : Rd w A n (ints rs)) (hn : n ≤ 24) (hr : ∀ i, rs.getD i 0 < 2 ^ n) (hrel : relB (ints rs) = true) :
    Calls Tryd.prog 77 #[.slice A n c] w (AnsPost w (ints (compM rs)) 0) := by
  have hlen : rs.length = n := by have := h.1; rw [ints_len] at this; exact this
  have HL := Lib.hid hlen
  have HR := Lib.hid hrel
  have hus := symM_lt rs n hlen hr
  have HUL : Hid ((symM rs).length = n) := Lib.hid (by rw [symM_len, hlen])
  have HCM : Hid (compM rs = compL (symM rs) n n) := Lib.hid (by unfold compM; rw [hlen])
  have hcv := convM_lt rs n hlen
  have HSY := Lib.hid (fun i k hi hk (h : R (symM rs) i k) => (symM_R rs n hlen hr k i hk hi).2 (((symM_R rs n hlen hr i k hi hk).1 h).symm))
  have HSM : Hid (∀ i, i < n → (symM rs).getD i 0 = rs.getD i 0 ||| (convM rs).getD i 0) := Lib.hid (fun i hi => orM_at rs (convM rs) i (by omega))
  clear hlen hrel
  have hn2 : n ≤ 9223372036854775807 := by omega
  have hn3 : n ≤ 1048576 := by omega
  obtain ⟨i0, hi, hz0, hz1, hz2⟩ := info_parts info_int
  go_enter Tryd.func77, Tryd.ntmps77
  go_wp2_with fail
  refine (specIsRelation_any _ _ _ _ _ h hn2).mono ?_
  rintro e w1 ⟨rfl, hb1⟩
  rw [HR.out]
  have h1 := h.below hb1
  go_wp2_with fail
  refine (own_any A n c _ _ h1 hn3).mono ?_
  rintro e w2 ⟨A2, c2, rfl, ho2, hb2⟩
  have hb12 := hb1.trans (hb2.mono hb1.size)
  have h2 := h.below hb12
  go_wp2_with fail
  refine (specConverse_any A n c rs _ h2 hn hr).mono ?_
  rintro e w3 ⟨A3, c3, rfl, ho3, hb3⟩
  have hb13 := hb12.trans (hb3.mono hb12.size)
  have ho23 := ho2.below hb3
  have HB2 := Lib.hid (fun k hk => (ho2.lt k hk).2)
  have HB3 := Lib.hid (fun k hk => (ho3.lt k hk).1)
  have HB1 := Lib.hid (fun k hk => (ho2.lt k hk).1)
  clear h h1 h2 ho2 hb2 hb3 hb12
  go_wp2_with fail
  go_loopw [6] (fun i wr => ∃ (k : Nat) (ds : List Nat), k ≤ n ∧ i = .int .i64 k ∧ ds.length = n ∧ Own 2 wr w1.heap.size A2 n c2 (ints ds) ∧ Own 2 wr w2.heap.size A3 n c3 (ints (convM rs)) ∧ Below w.heap.size w wr ∧ (∀ i, i < n → ds.getD i 0 = if i < k then rs.getD i 0 ||| (convM rs).getD i 0 else rs.getD i 0)) (fun i _ => n - (intOf i).toNat)
  case atStart => exact ⟨0, rs, Nat.zero_le _, rfl, HL.out, ho23, ho3, hb13, fun i hi => by rw [if_neg (by omega)]⟩
  case round =>
    clear ho23 ho3 hb13
    obtain ⟨k, ds, hk, rfl, hdl, ho, hoq, hb, hdw⟩ := hrel
    have HC := Lib.hid hdl
    have HW := Lib.hid hdw
    clear hdl hdw
    by_cases hlt : k < n
    · obtain ⟨b, off, x, rfl, hbs, hx, hcx⟩ := hoq.rd.at_ hlt
      have hx2 := ints_getD (convM rs) k (by rw [convM_len, HL.out]; exact hlt)
      rw [hx2] at hx
      injection hx with hx
      subst hx
      obtain ⟨g, rfl, hgB, hcell, hfr, hset⟩ := own_stored ho hlt
      have hst := Lib.hid (set_step (fun i => rs.getD i 0 ||| (convM rs).getD i 0) rs ds n k HC.out hlt HW.out)
      have hdk : ds.getD k 0 = rs.getD k 0 := by rw [HW.out k hlt, if_neg (by omega)]
      rw [hdk] at hcell
      have hm1 := lt63 hn (hr k)
      have hm2 := lt63 hn (hcv k)
      have ho4 := hset (rs.getD k 0 ||| (convM rs).getD k 0)
      have hgrow := grown_set (World.grownBy.refl wr (some g)) k (.int .i64 ((rs.getD k 0 ||| (convM rs).getD k 0 : Nat) : Int))
      have hoq4 := hoq.apart hgrow (fun q hq e => by have h7 := HB3.out q hq; have h8 := HB2.out g rfl; injection e with e; omega)
      have hb4 := hb.setCell (p := ⟨g, k, none⟩) (by have := hb1.size; have h9 := HB1.out g rfl; show w.heap.size ≤ g; omega) (.int .i64 ((rs.getD k 0 ||| (convM rs).getD k 0 : Nat) : Int))
      have hor := or63 _ _ hm1 hm2
      obtain ⟨S, hS⟩ : ∃ S, S = rs.getD k 0 := ⟨_, rfl⟩
      obtain ⟨D, hD⟩ : ∃ D, D = (convM rs).getD k 0 := ⟨_, rfl⟩
      have hst2 : Hid (∀ i, i < n → (ds.set k (S ||| D)).getD i 0 = if i < k + 1 then rs.getD i 0 ||| (convM rs).getD i 0 else rs.getD i 0) := by rw [hS, hD]; exact hst
      rw [← hS, ← hD] at ho4 hb4 hor hoq4
      rw [← hS] at hcell
      rw [← hD] at hcx
      clear hS hD hset hm1 hm2 hx2 hdk hst hgrow
      go_wp2
      go_region
      all_goals go_wp2
      go_roundw
      case rel => exact ⟨k + 1, ds.set k (S ||| D), by omega, by go_num, by rw [List.length_set]; exact HC.out, by first | exact ho4 | (have h9 := ho4; rw [← hor] at h9; exact h9), by first | exact hoq4 | (have h9 := hoq4; rw [← hor] at h9; exact h9), by first | exact hb4.drew | (have h9 := hb4.drew; rw [← hor] at h9; exact h9), hst2.out⟩
      case measure => simp [intOf]; omega
    · obtain rfl : k = n := by omega
      have eds : ds = symM rs := list_eq_getD ds (symM rs) k HC.out HUL.out (fun i hi => by rw [HW.out i hi, if_pos hi, HSM.out i hi])
      rw [eds] at ho
      obtain ⟨us, hU⟩ : ∃ us, us = symM rs := ⟨_, rfl⟩
      rw [← hU] at ho hus HUL HCM HSY
      have HU := Lib.hid hU
      clear hU eds hoq HW HC HSM
      obtain ⟨wo, rfl⟩ : ∃ wo : World, wo = wr := ⟨_, rfl⟩
      have HA2 := Lib.hid (fun q hq => (ho.lt q hq).2)
      have HWO := Lib.hid hb.size
      go_wp2
      go_loopw [7, 8, 9] (fun v q i wr => ∃ (t S : Nat) (A4 : Option Addr) (c4 : Nat), t ≤ k ∧ i = .int .i64 t ∧ q = .int .i64 (S : Int) ∧ S < 2 ^ k ∧ v = .slice A4 (compL us k t).length c4 ∧ Own 2 wr wo.heap.size A4 (compL us k t).length c4 (ints (compL us k t)) ∧ Own 2 wr w1.heap.size A2 k c2 (ints us) ∧ Below w.heap.size w wr ∧ wo.heap.size ≤ wr.heap.size ∧ (∀ b, S.testBit b = true ↔ ∃ a, a < t ∧ RT us a b)) (fun _ _ i _ => k - (intOf i).toNat)
      case atStart => exact ⟨0, 0, _, 0, Nat.zero_le _, rfl, rfl, p2_pos k, rfl, World.ownsRow_lit wo #[] 0 (Nat.le_refl _) (by unfold maxLen; omega) rfl, World.ownsRow.alloc ho _, hb.alloc hb.size _, by simp, fun b => by simp⟩
      case round =>
        clear ho hb
        obtain ⟨t, S, A4, c4, ht, rfl, rfl, hSl, rfl, ho, hu, hb, hwo, hS⟩ := hrel
        have HS := Lib.hid hS
        have hS63 := lt63 hn hSl
        clear hS
        by_cases hlt2 : t < k
        · have hst := seen_step us k t S HUL.out hus hlt2 HS.out
          have ht62 : t ≤ 62 := by omega
          have hcn := comp_new us k t HUL.out hn hus HSY.out hlt2
          have hml63 := lt63 hn (reachM_lt us k t k hus hlt2)
          have hml := reachM_lt us k t k hus hlt2
          have hstep : compL us k (t + 1) = if low (reachM us t k) = t then compL us k t ++ [reachM us t k] else compL us k t := rfl
          have hll := compL_len us k t
          obtain ⟨M, hM⟩ : ∃ M, M = reachM us t k := ⟨_, rfl⟩
          rw [← hM] at hst hcn hml63 hml hstep
          cases hbit : S.testBit t
          · have HB := Lib.hid hbit
            have HNX := Lib.hid (hst.1 hbit)
            have hcl2 : compL us k (t + 1) = compL us k t ++ [M] := by
              rw [hstep, if_pos (hcn.2 (fun he => by have := (HS.out t).2 he; rw [hbit] at this; cases this))]
            have hl2 : (compL us k (t + 1)).length = (compL us k t).length + 1 := by rw [hcl2, List.length_append]; rfl
            have HCL := Lib.hid hcl2
            have HL2 := Lib.hid hl2
            have hor := or63 _ _ hS63 hml63
            have hnl := Nat.or_lt_two_pow hSl hml
            have hrow : Calls Tryd.prog 102 #[.slice A2 k c2, .int .i64 (t : Int)] wr fun e w' => e = .returned (.int .i64 (M : Int)) ∧ wr = w' := by
              rw [hM]; exact reach_any A2 k c2 t us wr hu.rd hn hlt2 hus
            have HROW := Lib.hid hrow
            obtain ⟨L, hL⟩ : ∃ L, L = (compL us k t).length := ⟨_, rfl⟩
            rw [← hL] at hll ho HL2 ⊢
            have hlx : (ints (compL us k (t + 1)))[L]? = some (M : Int) := by
              apply ints_at
              rw [hcl2, List.getElem?_append_right (by omega), hL, Nat.sub_self]; rfl
            have HLX := Lib.hid hlx
            have hmlx : L + 1 ≤ maxLen := by unfold maxLen; omega
            have hby2 : (L + 1) * 8 ≤ 140737488355328 := by omega
            clear hbit hst hcn hstep hM hcl2 hl2 hL hlx hrow
            go_wp2_with fail
            refine (bit_any S t hS63 ht62 _).mono ?_
            rintro e w' ⟨rfl, rfl⟩
            rw [HB.out]
            go_wp2_with fail
            refine HROW.out.mono ?_
            rintro e w' ⟨rfl, rfl⟩
            go_wp2_with (at_builtin; refine wpList_append_own _ rfl _ _ 22 rfl wo.heap.size 2 i0 (.int .i64 0) 1 8 Tryd.underlying22 hi hz0 hz1 hz2 rfl (by decide) (.slice A4 L c4) L ((ints (compL us k t)).map (Value.int .i64)) rfl (World.ownsRow.alloc ho _) ⟨wr.heap.size, 0, none⟩ 1 1 [.int .i64 (M : Int)] rfl rfl ?s1 ?s2 hmlx hby2 ?s5 ?_)
            case s1 => exact cell_one_new _ _ _
            case s2 => intro u hu; simp at hu; subst hu; rfl
            case s5 => simp; omega
            intro v' w4 hown hg _
            rw [ints_snoc_map, ← HCL.out] at hown
            have hb4 : Below w.heap.size w w4 := (hb.alloc hb.size _).grown hg (by have := hb.size; simp; omega) (fun g hgr => by have h9 := (World.ownsRow.lt ho g hgr).1; have := HWO.out; omega)
            have hu4 : Own 2 w4 w1.heap.size A2 k c2 (ints us) := by
              refine Own.apart (World.ownsRow.alloc hu _) hg (fun q hq e => ?_)
              have h9 := (World.ownsRow.lt ho q e).1
              have h8 := HA2.out q hq
              omega
            have hsz4 : wo.heap.size ≤ w4.heap.size := by have := hg.size; simp at this; omega
            obtain ⟨A5, c5, hv, ho5⟩ := own_shape hown
            obtain ⟨g5, hA5, _, _⟩ := ho5.form (by omega)
            subst hA5
            have hcell5 := ho5.cell HLX.out
            rw [hv]
            clear hg hown hv hu ho hb
            go_wp2
            go_roundw
            case rel => exact ⟨t + 1, S ||| M, _, c5, by omega, by go_num, by first | rfl | rw [hor], hnl, by rw [HL2.out], by rw [HL2.out]; exact ho5, hu4, hb4, hsz4, HNX.out⟩
            case measure => simp [intOf]; omega
          · have HB := Lib.hid hbit
            have HNX := Lib.hid (hst.2 hbit)
            have hcl2 : compL us k t = compL us k (t + 1) := by
              rw [hstep, if_neg (fun he => hcn.1 he ((HS.out t).1 hbit))]
            have HCL := Lib.hid hcl2
            clear hbit hst hcn hstep hM hcl2
            go_wp2_with (go_at_call 57; refine (bit_any S t hS63 ht62 _).mono ?_; rintro e w' ⟨rfl, rfl⟩; rw [HB.out])
            go_roundw
            case rel => exact ⟨t + 1, S, A4, c4, by omega, by go_num, rfl, hSl, by rw [← HCL.out], by rw [← HCL.out]; exact ho, hu, hb, hwo, HNX.out⟩
            case measure => simp [intOf]; omega
        · obtain rfl : t = k := by omega
          go_wp2
          go_ret2
          refine ans_yes (by rw [ints_len, HCM.out]) ?_ hb
          rw [HCM.out]
          exact ho.mono HWO.out

def compAns (xs : List Int) : List Int × Int := ansR compM xs
theorem compAns_small (xs : List Int) : (compAns xs).1.length ≤ 24 := ansR_small compM 24 (fun rs h => Nat.le_trans (compM_len rs) h) xs
end Go.Proofs.YtbjkpkgnjeaimaaDoor
