/-
  ComplementOf: both sides.
-/
import Derived.Test.YtbjkpkgnjeaimaaDoorFree
import Derived.Test.YtbjkpkgnjeaimaaDoorCov
import Derived.StillTailTactics
namespace Go.Proofs.YtbjkpkgnjeaimaaDoor
open Go.RowKit
set_option linter.unusedVariables false
set_option maxRecDepth 100000

/-- What a function from an alphabet to an alphabet answers: the letters, the list, the code: for a dependence f of it, else ErrInvalid. -/
def alAns (f : List Nat → List Nat) (L : Int) (xs : List Int) : Int × List Int × Int :=
  if alphB L xs = true then ((((f (xs.map Int.toNat)).length : Nat) : Int), ints (f (xs.map Int.toNat)), 0) else (0, [], 1)
theorem alAns_no (f : List Nat → List Nat) (L : Int) (xs : List Int) (h : alphB L xs = false) : alAns f L xs = (0, [], 1) := by unfold alAns; rw [if_neg (by rw [h]; decide)]
theorem alAns_yes (f : List Nat → List Nat) (n : Nat) (rs : List Nat) (h : alphB (n : Int) (ints rs) = true) : alAns f (n : Int) (ints rs) = ((((f rs).length : Nat) : Int), ints (f rs), 0) := by unfold alAns; rw [if_pos h, ints_toNat]
theorem alAns_small (f : List Nat → List Nat) (b : Nat) (hf : ∀ rs, rs.length ≤ 8 → (f rs).length ≤ b) (L : Int) (xs : List Int) : (alAns f L xs).2.1.length ≤ b := by
  unfold alAns
  split
  · rename_i h
    obtain ⟨rs, rfl, rfl, h8, _, _, hl, _, e⟩ := alphB_nats L xs _ rfl h
    rw [e]
    show (ints _).length ≤ b
    rw [ints_len]; exact hf _ (by rw [hl]; exact h8)
  · exact Nat.zero_le _
theorem minus_n (a b : Nat) (ha : a < 9223372036854775808) (hb : b < 9223372036854775808) (w : World) :
    Calls Tryd.prog 92 #[.int .i64 (a : Int), .int .i64 (b : Int)] w fun e w' => e = .returned (.int .i64 ((dif a b : Nat) : Int)) ∧ w = w' := minus_nat a b ha hb w
set_option maxHeartbeats 1600000 in
theorem complement_any (A : Option Addr) (n c : Nat) (rs : List Nat) (w : World) (h : Rd w A n (ints rs)) (hn : n ≤ 24) (hr : ∀ i, rs.getD i 0 < 2 ^ n) :
    Calls Tryd.prog 66 #[.slice A n c] w (MakesE 57 w n (ints (cplM rs))) := by
  have hlen : rs.length = n := by have := h.1; rw [ints_len] at this; exact this
  have HL := Lib.hid hlen
  clear hlen
  obtain ⟨i0, hi, hz0, hz1, hz2⟩ := info_parts info_set
  have hml : n ≤ maxLen := by unfold maxLen; omega
  have hby : i0.bytes * n ≤ 281474976710656 := by rw [hz2]; omega
  have hn62 : n ≤ 62 := by omega
  have hf63 : 2 ^ n - 1 < 9223372036854775808 := by have := p24 n hn; omega
  go_enter Tryd.func66, Tryd.ntmps66
  go_wp2_with (first | (at_make; refine wpList_make_full _ rfl _ _ _ rfl w.heap.size 57 i0 (.int .i64 0) 1 Tryd.underlying51 hi hz0 hz1 _ _ (n : Int) (n : Int) n rfl rfl rfl rfl hby hml (Nat.le_refl _) ?_; intro w1 hown0 hg1))
  have hown := own_made hown0
  clear hown0
  have hb1 : Below w.heap.size w w1 := (Below.refl _ _).grown hg1 (Nat.le_refl _) (by simp)
  clear hg1
  go_loopw [11] (fun i wr => ∃ (k : Nat) (ds : List Nat), k ≤ n ∧ i = .int .i64 k ∧ ds.length = n ∧ Own 57 wr w.heap.size (some ⟨w.heap.size, 0, none⟩) n n (ints ds) ∧ Below w.heap.size w wr ∧ (∀ i, i < n → ds.getD i 0 = if i < k then cplRow n (rs.getD i 0) i else (List.replicate n 0).getD i 0)) (fun i _ => n - (intOf i).toNat)
  case atStart => exact ⟨0, List.replicate n 0, Nat.zero_le _, rfl, List.length_replicate, hown, hb1, fun i hi => by rw [if_neg (by omega)]⟩
  case round =>
    clear hown hb1
    obtain ⟨k, ds, hk, rfl, hdl, ho, hb, hdw⟩ := hrel
    have HC := Lib.hid hdl
    have HW := Lib.hid hdw
    clear hdl hdw
    by_cases hlt : k < n
    · obtain ⟨b, off, x, rfl, hbs, hx, hcx⟩ := (h.below hb).at_ hlt
      have hx2 := ints_getD rs k (by rw [HL.out]; exact hlt)
      rw [hx2] at hx
      injection hx with hx
      subst hx
      obtain ⟨g, e9, hgB, hcell, hfr, hset⟩ := own_stored ho hlt
      cases e9
      have hst := Lib.hid (set_step (fun i => cplRow n (rs.getD i 0) i) (List.replicate n 0) ds n k HC.out hlt HW.out)
      have hm1 := lt63 hn (hr k)
      have hk62 : k ≤ 62 := by omega
      have hd63 : dif (2 ^ n - 1) (rs.getD k 0) < 9223372036854775808 := Nat.lt_of_le_of_lt (dif_le _ _) hf63
      have ho4 := hset (cplRow n (rs.getD k 0) k)
      have hb4 := hb.setCell (p := ⟨w.heap.size, k, none⟩) (Nat.le_refl _) (.int .i64 ((cplRow n (rs.getD k 0) k : Nat) : Int))
      have hrow : cplRow n (rs.getD k 0) k = dif (2 ^ n - 1) (rs.getD k 0) ||| 2 ^ k := rfl
      obtain ⟨D, hD⟩ : ∃ D, D = rs.getD k 0 := ⟨_, rfl⟩
      rw [← hD] at hcx hm1 hd63 ho4 hb4 hrow
      obtain ⟨F, hF⟩ : ∃ F, F = 2 ^ n - 1 := ⟨_, rfl⟩
      obtain ⟨M, hM⟩ : ∃ M, M = dif F D := ⟨_, rfl⟩
      rw [← hF] at hd63 hrow hf63
      rw [← hM] at hd63 hrow
      have hfirst : ∀ ww : World, Calls Tryd.prog 91 #[.int .i64 (n : Int)] ww fun e w' => e = .returned (.int .i64 (F : Int)) ∧ ww = w' := by rw [hF]; exact fun ww => firstNumbers_any n hn62 ww
      have hminus : ∀ ww : World, Calls Tryd.prog 92 #[.int .i64 (F : Int), .int .i64 (D : Int)] ww fun e w' => e = .returned (.int .i64 (M : Int)) ∧ ww = w' := by rw [hM]; exact fun ww => minus_nat F D hf63 hm1 ww
      obtain ⟨Q, hQ⟩ : ∃ Q, Q = cplRow n D k := ⟨_, rfl⟩
      have hwith : ∀ ww : World, Calls Tryd.prog 63 #[.int .i64 (M : Int), .int .i64 (k : Int)] ww fun e w' => e = .returned (.int .i64 (Q : Int)) ∧ ww = w' := by rw [hQ, hrow]; exact fun ww => with_any M k hd63 hk62 ww
      have HST : Hid (∀ i, i < n → (ds.set k Q).getD i 0 = if i < k + 1 then cplRow n (rs.getD i 0) i else (List.replicate n 0).getD i 0) := by rw [hQ, hD]; exact hst
      rw [← hQ] at ho4 hb4
      clear hD hF hM hQ hset hst hrow
      go_wp2_with (first | (go_at_call 91; refine (hfirst _).mono ?_; rintro e w' ⟨rfl, rfl⟩) | (go_at_call 92; refine (hminus _).mono ?_; rintro e w' ⟨rfl, rfl⟩) | (go_at_call 63; refine (hwith _).mono ?_; rintro e w' ⟨rfl, rfl⟩))
      go_roundw
      case rel => exact ⟨k + 1, ds.set k Q, by omega, by go_num, by rw [List.length_set]; exact HC.out, ho4, hb4, HST.out⟩
      case measure => simp [intOf]; omega
    · obtain rfl : k = n := by omega
      go_wp2
      go_ret
      refine ⟨_, _, rfl, ?_, hb⟩
      rw [← list_eq_getD ds (cplM rs) k HC.out (by rw [cplM_len, HL.out]) (fun i hi => by rw [HW.out i hi, if_pos hi, cplM_at rs i (by have := HL.out; omega), HL.out])]
      exact ho
theorem AlPost.no {w w' : World} (code : Int) (hb : Below w.heap.size w w') : AlPost w 0 0 [] code (.returned (.tuple #[.agg #[.int .i64 0, .slice none 0 0], .int .i64 code])) w' := ⟨none, 0, rfl, Own.nil _ _ _, hb⟩
set_option maxHeartbeats 3200000 in
theorem specComplementOf (L : Int) (A : Option Addr) (n c : Nat) (xs : List Int) (w : World) (h : Rd w A n xs) (hwf : Wf xs) (hL1 : -9223372036854775808 ≤ L) (hL2 : L ≤ 9223372036854775807) (hn : n ≤ 9223372036854775807) :
    Calls Tryd.prog 34 #[.agg #[.int .i64 L, .slice A n c]] w (AlPost w (alAns cplM L xs).1 (alAns cplM L xs).2.1.length (alAns cplM L xs).2.1 (alAns cplM L xs).2.2) := by
  have HB := Lib.hid (below2 w (.cells #[.int .i64 L, .slice A n c] 27) (.cells #[.int .i64 0, .slice none 0 0] 27))
  have hh := h.below HB.out
  have x0 := (box_new 27 w L A n c).next (below1 _ (.cells #[.int .i64 0, .slice none 0 0] 27))
  have r0 := box_new 27 (w.alloc (.cells #[.int .i64 L, .slice A n c] 27)) 0 none 0 0
  rw [size1] at r0
  cases ha : alphB L xs
  · rw [alAns_no cplM L xs ha]
    have HA := Lib.hid ha
    clear ha
    go_enter Tryd.func34, Tryd.ntmps34
    go_wp2_with fail
    refine (l02Is_any L _ _ _ xs _ hh hn).mono ?_
    rintro e w1 ⟨rfl, hb⟩
    rw [HA.out]
    have r1 := r0.next hb
    have y0 := r1.c0
    have y1 := r1.c1
    have f0 := r1.fr 0
    have f1 := r1.fr 1
    have HB1 := Lib.hid (HB.out.trans (hb.mono HB.out.size))
    go_wp2
    refine ret_gen (fun W => Box 27 W (w.heap.size + 1) 0 none 0 0 ∧ Below w.heap.size w W) ⟨r1.set _ _ _ _, (HB1.out.setCell (p := ⟨w.heap.size + 1, 0, none⟩) (by show w.heap.size ≤ w.heap.size + 1; omega) _).setCell (p := ⟨w.heap.size + 1, 1, none⟩) (by show w.heap.size ≤ w.heap.size + 1; omega) _⟩ ?_
    rintro W ⟨x, b⟩
    have e0 := x.c0
    have e1 := x.c1
    exact bodyPost_ret (v := .tuple #[.agg #[.int .i64 0, .slice none 0 0], .int .i64 1]) (by simp [results, Tryd.results34, go_sem, e0, e1]) rfl (AlPost.no 1 b)
  · obtain ⟨rs, rfl, rfl, h8, hr, hrel, hl, hd, _⟩ := alphB_nats L xs n h.1 ha
    rw [alAns_yes cplM n rs ha]
    have HA := Lib.hid ha
    have h24 : n ≤ 24 := by omega
    have hn62 : n ≤ 62 := by omega
    have HL := Lib.hid hl
    have HD := Lib.hid ((depB_iff rs n hl hr).1 hd).1
    clear ha hl hd
    go_enter Tryd.func34, Tryd.ntmps34
    go_wp2_with fail
    refine (l02Is_any _ _ _ _ _ _ hh hn).mono ?_
    rintro e w1 ⟨rfl, hb⟩
    rw [HA.out]
    have x1 := x0.next hb
    have r1 := r0.next hb
    have y0 := x1.c0
    have hs1 : w.heap.size + 2 ≤ w1.heap.size := by have := hb.size; have := size1 (w.alloc (.cells #[.int .i64 (n : Int), .slice A n c] 27)) (.cells #[.int .i64 0, .slice none 0 0] 27); have := size1 w (.cells #[.int .i64 (n : Int), .slice A n c] 27); omega
    have HB1 := Lib.hid (HB.out.trans (hb.mono HB.out.size))
    go_wp2_with fail
    refine (free_any n _ hn62).mono ?_
    rintro e w2 ⟨A2, c2, rfl, ho2, hb2⟩
    have HLT := Lib.hid (fun q hq => ho2.lt q hq)
    have HB2 := Lib.hid (HB1.out.trans (hb2.mono HB1.out.size))
    have hs2 := hb2.size
    have x2 := x1.next hb2
    have r2 := r1.next hb2
    have k2 := below1 w2 (.cells #[.int .i64 (n : Int), .slice A2 n c2] 27)
    go_wp2_with fail
    go_loopw [5] (fun i wr => ∃ (k : Nat) (ds : List Nat), k ≤ n ∧ i = .int .i64 k ∧ ds.length = n ∧ Own 2 wr w1.heap.size A2 n c2 (ints ds) ∧ Box 27 wr w2.heap.size (n : Int) A2 n c2 ∧ Box 27 wr w.heap.size (n : Int) A n c ∧ Box 27 wr (w.heap.size + 1) 0 none 0 0 ∧ Below w1.heap.size w1 wr ∧ (∀ i, i < n → ds.getD i 0 = if i < k then cplRow n (rs.getD i 0) i else (freeM n).getD i 0)) (fun i _ => n - (intOf i).toNat)
    case atStart => exact ⟨0, freeM n, Nat.zero_le _, rfl, freeM_len n, ho2.below k2, box_new _ _ _ _ _ _, x2.next k2, r2.next k2, hb2.trans (k2.mono hs2), fun i hi => by rw [if_neg (by omega)]⟩
    case round =>
      clear ho2 x2 r2 k2 x1 r1
      obtain ⟨k, ds, hk, rfl, hdl, ho, y, x, r, hb9, hdw⟩ := hrel
      have HC := Lib.hid hdl
      have HW := Lib.hid hdw
      clear hdl hdw
      have y0 := y.c0
      have y1 := y.c1
      have x0' := x.c0
      have x1' := x.c1
      by_cases hlt : k < n
      · obtain ⟨b, off, v, rfl, hbs, hx, hcx⟩ := ((hh.below hb).below hb9).at_ hlt
        have hx2 := ints_getD rs k (by rw [HL.out]; exact hlt)
        rw [hx2] at hx
        injection hx with hx
        subst hx
        obtain ⟨g, rfl, hgB, hcell, hfr, hset⟩ := own_stored ho hlt
        have hst := Lib.hid (set_step (fun i => cplRow n (rs.getD i 0) i) (freeM n) ds n k HC.out hlt HW.out)
        have hk62 : k ≤ 62 := by omega
        have hrk := hr k
        have hsub := cplRow_sub n (rs.getD k 0) k h8 (hr k) hlt (HD.out k (by rw [HL.out]; exact hlt))
        have hp8 := p8 n h8
        have hp0 := p2_pos n
        have hpk : 2 ^ k ≤ 256 := p8 k (by omega)
        have ho4 := hset (cplRow n (rs.getD k 0) k)
        obtain ⟨D, hD⟩ : ∃ D, D = rs.getD k 0 := ⟨_, rfl⟩
        rw [← hD] at hcx hrk hsub ho4
        obtain ⟨Q, hQ⟩ : ∃ Q, Q = cplRow n D k := ⟨_, rfl⟩
        rw [← hQ] at hsub ho4
        obtain ⟨F, hF⟩ : ∃ F, F = 2 ^ n - 1 := ⟨_, rfl⟩
        obtain ⟨P, hP⟩ : ∃ P, P = 2 ^ k := ⟨_, rfl⟩
        have hfull : ∀ ww : World, Calls Tryd.prog 68 #[.int .i64 (n : Int)] ww fun e w' => e = .returned (.int .i64 (F : Int)) ∧ ww = w' := by rw [hF]; exact fun ww => full_any n hn62 ww
        have hone : ∀ ww : World, Calls Tryd.prog 62 #[.int .i64 (k : Int)] ww fun e w' => e = .returned (.int .i64 (P : Int)) ∧ ww = w' := by rw [hP]; exact fun ww => one_any k hk62 ww
        have hw1 : wrap64 ((F : Int) - (D : Int)) = (F : Int) - (D : Int) := by unfold wrap64; omega
        have hw2 : wrap64 ((F : Int) - (D : Int) + (P : Int)) = (Q : Int) := by unfold wrap64; omega
        have HST : Hid (∀ i, i < n → (ds.set k Q).getD i 0 = if i < k + 1 then cplRow n (rs.getD i 0) i else (freeM n).getD i 0) := by rw [hQ, hD]; exact hst
        clear hD hQ hF hP hset hst hsub hp8 hp0 hpk hrk
        go_wp2_with fail
        go_still_tail 16, (by kernel_rfl)
        still_call ((hfull _).mono fun _ _ ⟨he, hw⟩ => ⟨he, hw.symm⟩)
        repeat still_step
        still_call ((hone _).mono fun _ _ ⟨he, hw⟩ => ⟨he, hw.symm⟩)
        repeat still_step
        refine wpStill_nil ?_
        change wpList _ _ _ _ _ wr.drew
        have hq := HLT.out g rfl
        have hdw : Below wr.heap.size wr wr.drew := (Below.refl _ _).drew
        have hfr2 : wr.drew.frozen? ⟨g, k, none⟩ = false := hfr
        have hcell2 : wr.drew.cell? ⟨g, k, none⟩ = some (.int .i64 ((ds.getD k 0 : Nat) : Int)) := hcell
        have ho5 : Own 2 (wr.drew.setCell ⟨g, k, none⟩ (.int .i64 (Q : Int))) w1.heap.size (some ⟨g, 0, none⟩) n c2 (ints (ds.set k Q)) := ho4
        have x5 := (x.next hdw).other g k (.int .i64 (Q : Int)) (by omega)
        have y5 := (y.next hdw).other g k (.int .i64 (Q : Int)) (by omega)
        have r5 := (r.next hdw).other g k (.int .i64 (Q : Int)) (by omega)
        have hb5 := (hb9.drew).setCell (p := ⟨g, k, none⟩) hgB (.int .i64 (Q : Int))
        go_wp2_with fail
        go_roundw
        case rel => exact ⟨k + 1, ds.set k Q, by omega, by go_num, by rw [List.length_set]; exact HC.out, ho5, y5, x5, r5, hb5, HST.out⟩
        case measure => simp [intOf]; omega
      · obtain rfl : k = n := by omega
        have f0 := r.fr 0
        have f1 := r.fr 1
        have z0 := r.c0
        have z1 := r.c1
        go_wp2
        refine ret_gen (fun W => Box 27 W (w.heap.size + 1) (k : Int) A2 k c2 ∧ Own 2 W w.heap.size A2 k c2 (ints (cplM rs)) ∧ Below w.heap.size w W) ⟨r.set _ _ _ _, ?_, ?_⟩ ?_
        · have hnn : ∀ q, A2.map (·.block) = some q → q ≠ w.heap.size + 1 := fun q hq => by have := (HLT.out q hq).1; omega
          have e9 : ds = cplM rs := list_eq_getD ds (cplM rs) k HC.out (by rw [cplM_len, HL.out]) (fun i hi => by rw [HW.out i hi, if_pos hi, cplM_at rs i (by have := HL.out; omega), HL.out])
          rw [e9] at ho
          exact own_other (own_other (ho.mono (by omega)) _ _ _ hnn) _ _ _ hnn
        · exact ((HB1.out.trans (hb9.mono HB1.out.size)).setCell (p := ⟨w.heap.size + 1, 0, none⟩) (by show w.heap.size ≤ w.heap.size + 1; omega) _).setCell (p := ⟨w.heap.size + 1, 1, none⟩) (by show w.heap.size ≤ w.heap.size + 1; omega) _
        · rintro W ⟨x, o, b⟩
          have e0 := x.c0
          have e1 := x.c1
          rw [ints_len, cplM_len, HL.out]
          exact bodyPost_ret (v := .tuple #[.agg #[.int .i64 (k : Int), .slice A2 k c2], .int .i64 0]) (by simp [results, Tryd.results34, go_sem, e0, e1]) rfl ⟨_, _, rfl, o, b⟩
set_option maxHeartbeats 1600000 in
theorem implComplementOf (L : Int) (A : Option Addr) (n c : Nat) (xs : List Int) (w : World) (h : Rd w A n xs) (hwf : Wf xs) (hL1 : -9223372036854775808 ≤ L) (hL2 : L ≤ 9223372036854775807) (hn : n ≤ 9223372036854775807) (hT : Tab w) :
    Calls Tryd.prog 35 #[.agg #[.int .i64 L, .slice A n c]] w (AlPost w (alAns cplM L xs).1 (alAns cplM L xs).2.1.length (alAns cplM L xs).2.1 (alAns cplM L xs).2.2) := by
  have HB := Lib.hid (below2 w (.cells #[.int .i64 L, .slice A n c] 27) (.cells #[.int .i64 0, .slice none 0 0] 27))
  have hh := h.below HB.out
  have hT1 := hT.below HB.out
  have r0 := box_new 27 (w.alloc (.cells #[.int .i64 L, .slice A n c] 27)) 0 none 0 0
  rw [size1] at r0
  cases ha : alphB L xs
  · rw [alAns_no cplM L xs ha]
    have HA := Lib.hid ha
    clear ha
    go_enter Tryd.func35, Tryd.ntmps35
    go_wp2_with fail
    refine (dependenceOf_no L _ _ _ xs _ hh hwf hL1 hL2 hn HA.out hT1).mono ?_
    rintro e w1 ⟨rfl, hb⟩
    have r1 := r0.next hb
    have y0 := r1.c0
    have y1 := r1.c1
    have f0 := r1.fr 0
    have f1 := r1.fr 1
    have HB1 := Lib.hid (HB.out.trans (hb.mono HB.out.size))
    go_wp2
    refine ret_gen (fun W => Box 27 W (w.heap.size + 1) 0 none 0 0 ∧ Below w.heap.size w W) ⟨r1.set _ _ _ _, (HB1.out.setCell (p := ⟨w.heap.size + 1, 0, none⟩) (by show w.heap.size ≤ w.heap.size + 1; omega) _).setCell (p := ⟨w.heap.size + 1, 1, none⟩) (by show w.heap.size ≤ w.heap.size + 1; omega) _⟩ ?_
    rintro W ⟨x, b⟩
    have e0 := x.c0
    have e1 := x.c1
    exact bodyPost_ret (v := .tuple #[.agg #[.int .i64 0, .slice none 0 0], .int .i64 1]) (by simp [results, Tryd.results35, go_sem, e0, e1]) rfl (AlPost.no 1 b)
  · obtain ⟨rs, rfl, rfl, h8, hr, hrel, hl, hd, _⟩ := alphB_nats L xs n h.1 ha
    rw [alAns_yes cplM n rs ha]
    have h24 : n ≤ 24 := by omega
    have hn3 : n ≤ 1048576 := by omega
    have HL := Lib.hid hl
    clear ha hl
    go_enter Tryd.func35, Tryd.ntmps35
    go_wp2_with fail
    refine (dependenceOf_yes _ _ _ _ rs _ hh hwf h8 rfl hr hrel hd hT1).mono ?_
    rintro e w1 ⟨A1, c1, rfl, ho1, hb1⟩
    have HB1 := Lib.hid (HB.out.trans (hb1.mono HB.out.size))
    have r1 := r0.next hb1
    have hs1 : w.heap.size + 2 ≤ w1.heap.size := by have := hb1.size; have := size1 (w.alloc (.cells #[.int .i64 (n : Int), .slice A n c] 27)) (.cells #[.int .i64 0, .slice none 0 0] 27); have := size1 w (.cells #[.int .i64 (n : Int), .slice A n c] 27); omega
    go_wp2_with fail
    refine (complement_any _ _ _ rs _ ho1.rd h24 hr).mono ?_
    rintro e w2 ⟨A2, c2, rfl, ho2, hb2⟩
    have HB2 := Lib.hid (HB1.out.trans (hb2.mono HB1.out.size))
    have hs2 := hb2.size
    have r2 := r1.next hb2
    go_wp2_with fail
    refine (alphabetOf_any _ _ _ _ _ ho2.rd hn3).mono ?_
    rintro e w3 ⟨A3, c3, rfl, ho3, hb3⟩
    have HB3 := Lib.hid (HB2.out.trans (hb3.mono HB2.out.size))
    have r3 := r2.next hb3
    have y0 := r3.c0
    have y1 := r3.c1
    have f0 := r3.fr 0
    have f1 := r3.fr 1
    go_wp2
    refine ret_gen (fun W => Box 27 W (w.heap.size + 1) (n : Int) A3 n c3 ∧ Own 2 W w.heap.size A3 n c3 (ints (cplM rs)) ∧ Below w.heap.size w W) ⟨r3.set _ _ _ _, ?_, ?_⟩ ?_
    · have hnn : ∀ q, A3.map (·.block) = some q → q ≠ w.heap.size + 1 := fun q hq => by have := (ho3.lt q hq).1; omega
      exact own_other (own_other (ho3.mono (by omega)) _ _ _ hnn) _ _ _ hnn
    · exact (HB3.out.setCell (p := ⟨w.heap.size + 1, 0, none⟩) (by show w.heap.size ≤ w.heap.size + 1; omega) _).setCell (p := ⟨w.heap.size + 1, 1, none⟩) (by show w.heap.size ≤ w.heap.size + 1; omega) _
    · rintro W ⟨x, o, b⟩
      have e0 := x.c0
      have e1 := x.c1
      rw [ints_len, cplM_len, HL.out]
      exact bodyPost_ret (v := .tuple #[.agg #[.int .i64 (n : Int), .slice A3 n c3], .int .i64 0]) (by simp [results, Tryd.results35, go_sem, e0, e1]) rfl ⟨_, _, rfl, o, b⟩
end Go.Proofs.YtbjkpkgnjeaimaaDoor
