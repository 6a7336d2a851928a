/-
  ProjectionOf: both sides.
-/
import Derived.Test.YtpcgjldcdjlenaaDoorPrj
import Derived.Deep.RegionWith
namespace Go.Proofs.YtpcgjldcdjlenaaDoor
open Go Go.RowKit
set_option linter.unusedVariables false
set_option maxRecDepth 100000

def prAns (L : Int) (xs us : List Int) (a : Int) : List Int × Int := if wCode L xs us = 0 then (if isMaskB a L = true then (ints (nfR (xs.map Int.toNat) (prjS (us.map Int.toNat) a.toNat)), 0) else ([], 2)) else ([], wCode L xs us)
theorem prAns_no (L : Int) (xs us : List Int) (a : Int) (h : alphB L xs = false) : prAns L xs us a = ([], 1) := by
  have e : wCode L xs us = 1 := by unfold wCode; rw [if_neg (by rw [h]; decide)]
  unfold prAns; rw [e]; rfl
theorem prAns_bad (L : Int) (xs us : List Int) (a : Int) (h : alphB L xs = true) (h2 : wordB L us = false) : prAns L xs us a = ([], 2) := by
  have e : wCode L xs us = 2 := by unfold wCode; rw [if_pos h, if_neg (by rw [h2]; decide)]
  unfold prAns; rw [e]; rfl
theorem prAns_out (L : Int) (xs us : List Int) (a : Int) (h : alphB L xs = true) (h2 : wordB L us = true) (h3 : isMaskB a L = false) : prAns L xs us a = ([], 2) := by
  have e : wCode L xs us = 0 := by unfold wCode; rw [if_pos h, if_pos h2]
  unfold prAns; rw [if_pos e, if_neg (by rw [h3]; decide)]
theorem prAns_yes (L : Int) (rs us : List Nat) (a : Nat) (h : alphB L (ints rs) = true) (h2 : wordB L (ints us) = true) (h3 : isMaskB (a : Int) L = true) : prAns L (ints rs) (ints us) (a : Int) = (ints (nfR rs (prjS us a)), 0) := by
  have e : wCode L (ints rs) (ints us) = 0 := by unfold wCode; rw [if_pos h, if_pos h2]
  unfold prAns; rw [if_pos e, if_pos h3, ints_toNat, ints_toNat]; rfl
theorem prAns_small (L : Int) (xs us : List Int) (a : Int) : (prAns L xs us a).1.length ≤ 24 := by
  unfold prAns
  split
  · rename_i h
    split
    · show (ints _).length ≤ 24
      rw [ints_len]
      refine Nat.le_trans (nfR_len _ _) (Nat.le_trans (prjS_len _ _) ?_)
      rw [List.length_map]
      unfold wCode at h
      split at h
      · split at h
        · rename_i hw
          unfold wordB at hw
          rw [Bool.and_eq_true, decide_eq_true_eq] at hw
          exact hw.1
        · cases h
      · cases h
    · show 0 ≤ 24; omega
  · show 0 ≤ 24; omega
set_option maxHeartbeats 3200000 in
theorem implProjectionOf (L : Int) (A : Option Addr) (n c : Nat) (xs : List Int) (A1 : Option Addr) (m d : Nat) (us : List Int) (a : Int) (w : World) (h : Rd w A n xs) (hwf : Wf xs) (hL1 : -9223372036854775808 ≤ L) (hL2 : L ≤ 9223372036854775807) (hn : n ≤ maxLen) (h2 : Rd w A1 m us) (hwf2 : Wf us) (hm : m ≤ maxLen) (ha1 : -9223372036854775808 ≤ a) (ha2 : a ≤ 9223372036854775807) (hT : Tab w) :
    Calls Tryd.prog 28 #[.agg #[.int .i64 L, .slice A n c], .slice A1 m d, .int .i64 a] w (LsPost w (prAns L xs us a).1.length (prAns L xs us a).1 (prAns L xs us a).2) := by
  have hn2 : n ≤ 9223372036854775807 := by unfold maxLen at hn; omega
  have hn1 := h.1
  have hm1 := h2.1
  have x0 := box_new 28 w L A n c
  have HB := Lib.hid (below2 w (.cells #[.int .i64 L, .slice A n c] 28) (.cells #[.slice A1 m d] 22))
  have hh := h.below HB.out
  have ht := rdT_box w (.cells #[.int .i64 L, .slice A n c] 28) A1 m d us 22 h2 hm
  have hh2 := h2.below HB.out
  have hT1 := hT.below HB.out
  have x1 := x0.next (below1 (w.alloc (.cells #[.int .i64 L, .slice A n c] 28)) (.cells #[.slice A1 m d] 22))
  cases ha : alphB L xs
  · rw [show prAns L xs us a = _ from prAns_no L xs us a ha]
    have HA := Lib.hid ha
    clear ha ht hn1
    go_enter Tryd.func28, Tryd.ntmps28
    go_wp2_with fail
    refine (dependenceWith_no L _ _ _ _ _ _ xs [] _ hh hwf hL1 hL2 hn2 HA.out hT1).mono ?_
    rintro e w1 ⟨rfl, hb⟩
    go_wp2_with fail
    go_ret2
    exact LsPost.of_ans (ans_no 1 (HB.out.trans (hb.mono HB.out.size)))
  · cases hu : wordB L us
    · rw [show prAns L xs us a = _ from prAns_bad L xs us a ha hu]
      obtain ⟨rs, rfl, rfl, h8, hr, hrel, hl, hd, _⟩ := alphB_nats L xs n hn1 ha
      have HU := Lib.hid hu
      clear ha hu
      go_enter Tryd.func28, Tryd.ntmps28
      go_wp2_with fail
      refine (dependenceWith_any _ _ _ _ _ _ rs _ _ hh hwf h8 hr hrel hd ht (by omega) hT1).mono ?_
      rw [okT_one, HU.out]
      rintro e w1 (⟨hok, _⟩ | ⟨hok, rfl, hb⟩)
      · cases hok
      go_wp2_with fail
      go_ret2
      exact LsPost.of_ans (ans_no 2 (HB.out.trans (hb.mono HB.out.size)))
    · obtain ⟨rs, rfl, rfl, h8, hr, hrel, hl, hd, _⟩ := alphB_nats L xs n hn1 ha
      obtain ⟨vs, rfl, hv24, hvn⟩ := wordB_nats n us hu
      have HU := Lib.hid hu
      have HDEP := Lib.hid ((depB_iff rs n hl hr).1 hd)
      rw [ints_len] at hm1
      have hm24 : m ≤ 24 := by omega
      cases hmk : isMaskB a (n : Int)
      · rw [show prAns (n : Int) (ints rs) (ints vs) a = _ from prAns_out (n : Int) (ints rs) (ints vs) a ha hu hmk]
        have HMK := Lib.hid hmk
        clear ha hu hmk
        go_enter Tryd.func28, Tryd.ntmps28
        go_wp2_with fail
        refine (dependenceWith_any _ _ _ _ _ _ rs _ _ hh hwf h8 hr hrel hd ht (by omega) hT1).mono ?_
        rw [okT_one, HU.out]
        rintro e w1 (⟨hok, A2, c2, rfl, ho, hb⟩ | ⟨hok, _⟩)
        rotate_left
        · cases hok
        have y0 := (x1.next hb).c0
        go_wp2_with fail
        refine (isMask_any a (n : Int) ha1 ha2 _).mono ?_
        rintro e w' ⟨rfl, rfl⟩
        rw [HMK.out]
        go_wp2_with fail
        go_ret2
        exact LsPost.of_ans (ans_no 2 (HB.out.trans (hb.mono HB.out.size)))
      · have HMK := Lib.hid hmk
        rw [isMaskB_in a n (by omega), decide_eq_true_eq] at hmk
        obtain ⟨k, rfl⟩ := Int.eq_ofNat_of_zero_le hmk.1
        have hk63 : k < 9223372036854775808 := by have := p8 n h8; omega
        rw [show prAns (n : Int) (ints rs) (ints vs) (k : Int) = _ from prAns_yes (n : Int) rs vs k ha hu HMK.out]
        have HVP : Hid (∀ p, p < m → vs.getD p 0 < 8) := Lib.hid fun p hp => Nat.lt_of_lt_of_le (in_getD hvn p (by omega)) h8
        have hqn : ∀ x, x ∈ prjS vs k → x < n := fun x hx => hvn x (List.mem_filter.1 hx).1
        have hql : (prjS vs k).length ≤ 24 := Nat.le_trans (prjS_len vs k) (by omega)
        obtain ⟨ps, hps⟩ : ∃ ps, ps = prjS vs k := ⟨_, rfl⟩
        rw [← hps] at hqn hql ⊢
        obtain ⟨q, hq⟩ : ∃ q, q = ps.length := ⟨_, rfl⟩
        have HPS := Lib.hid hps
        have HQ := Lib.hid hq
        have HLR : Hid (rs.length = n) := Lib.hid hl
        have HLU : Hid (ps.length = q) := Lib.hid hq.symm
        have hm24' : q ≤ 24 := by omega
        have HVR : Hid (∀ p, p < q → ps.getD p 0 < n) := Lib.hid fun p hp => in_getD hqn p (by omega)
        have HR63 : Hid (∀ i, rs.getD i 0 < 9223372036854775808) := Lib.hid fun i => lt63 (by omega) (hr i)
        clear ha hu hmk hl hps hq hql hm1
        go_enter Tryd.func28, Tryd.ntmps28
        go_wp2_with fail
        refine (dependenceWith_any _ _ _ _ _ _ rs _ _ hh hwf h8 hr hrel hd ht (by omega) hT1).mono ?_
        rw [okT_one, HU.out]
        rintro e w1 (⟨hok, A2, c2, rfl, ho, hb⟩ | ⟨hok, _⟩)
        rotate_left
        · cases hok
        have y0 := (x1.next hb).c0
        have HB1 := Lib.hid (HB.out.trans (hb.mono HB.out.size))
        have HPJ := Lib.hid (projection_any A1 m d k vs w1 (hh2.below hb) hm24 hk63 HVP.out)
        have hrd := ho.rd
        have hT2 := hT1.below hb
        clear ho hb hok ht hh hh2 hT1 hT h h2 x0 x1
        go_wp2_with fail
        refine (isMask_any (k : Int) (n : Int) ha1 ha2 _).mono ?_
        rintro e w' ⟨rfl, rfl⟩
        rw [HMK.out]
        go_wp2_with fail
        refine HPJ.out.mono ?_
        rintro e w2 ⟨A3, c3, rfl, ho3, hb3⟩
        rw [← HPS.out, ← HQ.out] at ho3
        rw [← HPS.out, ← HQ.out]
        have HRD := Lib.hid (hrd.below hb3)
        have HRW := Lib.hid ho3.rd
        have HTT := Lib.hid (hT2.below hb3)
        have HBW := Lib.hid (HB1.out.trans (hb3.mono HB1.out.size))
        clear hb3 ho3 hrd hT2 HPJ
        go_wp2_with fail
        refine (traceOf_any A2 A3 n q c2 c3 rs ps _ HRD.out HRW.out hm24' (by omega) HVR.out HR63.out HTT.out).mono ?_
        rintro e w5 ⟨A5, c5, B5, d5, es, rfl, hp, hs, h1, h2, -, -, hb5⟩
        have HNF := Lib.hid (nf_from A5 B5 c5 d5 q n rs ps es w5 HLR.out hr HDEP.out HLU.out HVR.out hm24' hp hs h1 h2 (HTT.out.below hb5))
        have HB5 := Lib.hid (HBW.out.trans (hb5.mono HBW.out.size))
        clear hp hs h1 h2 hb5
        go_wp2_with fail
        refine HNF.out.mono ?_
        rintro e w6 ⟨A6, c6, rfl, ho6, hb6⟩
        go_wp2_with fail
        go_ret2
        exact LsPost.of_ans (ans_yes ho6.len (ho6.mono HB5.out.size) (HB5.out.trans (hb6.mono HB5.out.size)))
set_option maxHeartbeats 3200000 in
theorem specProjectionOf (L : Int) (A : Option Addr) (n c : Nat) (xs : List Int) (A1 : Option Addr) (m d : Nat) (us : List Int) (a : Int) (w : World) (h : Rd w A n xs) (hwf : Wf xs) (hL1 : -9223372036854775808 ≤ L) (hL2 : L ≤ 9223372036854775807) (hn : n ≤ maxLen) (h2 : Rd w A1 m us) (hwf2 : Wf us) (hm : m ≤ maxLen) (ha1 : -9223372036854775808 ≤ a) (ha2 : a ≤ 9223372036854775807) :
    Calls Tryd.prog 27 #[.agg #[.int .i64 L, .slice A n c], .slice A1 m d, .int .i64 a] w (LsPost w (prAns L xs us a).1.length (prAns L xs us a).1 (prAns L xs us a).2) := by
  have hn2 : n ≤ 9223372036854775807 := by unfold maxLen at hn; omega
  have hm2 : m ≤ 9223372036854775807 := by unfold maxLen at hm; omega
  have hn1 := h.1
  have hm1 := h2.1
  have HB := Lib.hid (below1 w (.cells #[.int .i64 L, .slice A n c] 28))
  have x0 := box_new 28 w L A n c
  have hh := h.below HB.out
  have hh2 := h2.below HB.out
  have HC := Lib.hid (wCode_two L xs us)
  cases ha : alphB L xs
  · rw [show prAns L xs us a = _ from prAns_no L xs us a ha]
    have HD := Lib.hid (wCode_no L xs us ha)
    clear ha hn1
    go_enter Tryd.func27, Tryd.ntmps27
    go_wp2_with fail
    refine (l03Code_any L _ _ _ _ _ _ _ _ _ xs us us _ hh hn2 hh2 hm2 hh2 hm2).mono ?_
    rintro e w1 ⟨rfl, hb⟩
    rw [HC.out, HD.out]
    go_wp2_with fail
    go_ret2
    exact LsPost.of_ans (ans_no 1 (HB.out.trans (hb.mono HB.out.size)))
  · cases hu : wordB L us
    · rw [show prAns L xs us a = _ from prAns_bad L xs us a ha hu]
      have HD := Lib.hid (wCode_bad L xs us ha hu)
      clear ha hu hn1
      go_enter Tryd.func27, Tryd.ntmps27
      go_wp2_with fail
      refine (l03Code_any L _ _ _ _ _ _ _ _ _ xs us us _ hh hn2 hh2 hm2 hh2 hm2).mono ?_
      rintro e w1 ⟨rfl, hb⟩
      rw [HC.out, HD.out]
      go_wp2_with fail
      go_ret2
      exact LsPost.of_ans (ans_no 2 (HB.out.trans (hb.mono HB.out.size)))
    · have HD := Lib.hid (wCode_yes L xs us ha hu)
      obtain ⟨rs, rfl, rfl, h8, hr, hrel, hl, hd, _⟩ := alphB_nats L xs n hn1 ha
      obtain ⟨vs, rfl, hv24, hvn⟩ := wordB_nats n us hu
      rw [ints_len] at hm1
      have hm24 : m ≤ 24 := by omega
      have hn62 : n ≤ 62 := by omega
      obtain ⟨P, hP⟩ : ∃ P, P = 2 ^ n - 1 := ⟨_, rfl⟩
      have HFU : Hid (∀ ww : World, Calls Tryd.prog 58 #[.int .i64 (n : Int)] ww fun e w' => e = .returned (.int .i64 (P : Int)) ∧ ww = w') := Lib.hid (by rw [hP]; exact fun ww => full_any n hn62 ww)
      have HIM : Hid (decide ((0 : Int) ≤ a ∧ a ≤ (P : Int)) = isMaskB a (n : Int)) := Lib.hid (by rw [isMaskB_in a n (by omega), decide_eq_decide, hP]; have := p2_pos n; omega)
      clear hP
      cases hmk : isMaskB a (n : Int)
      · rw [show prAns (n : Int) (ints rs) (ints vs) a = _ from prAns_out (n : Int) (ints rs) (ints vs) a ha hu hmk]
        have HMK := Lib.hid hmk
        clear ha hu hmk
        go_enter Tryd.func27, Tryd.ntmps27
        go_wp2_with fail
        refine (l03Code_any (n : Int) _ _ _ _ _ _ _ _ _ (ints rs) (ints vs) (ints vs) _ hh hn2 hh2 hm2 hh2 hm2).mono ?_
        rintro e w1 ⟨rfl, hb⟩
        rw [HC.out, HD.out]
        have y0 := (x0.next hb).c0
        have y1 := (x0.next hb).c1
        go_wp2_with fail
        refine (HFU.out _).mono ?_
        rintro e w' ⟨rfl, rfl⟩
        go_wp2_with fail
        refine (in_any a 0 (P : Int) _).mono ?_
        rintro e w' ⟨rfl, rfl⟩
        rw [HIM.out, HMK.out]
        go_wp2_with fail
        go_ret2
        exact LsPost.of_ans (ans_no 2 (HB.out.trans (hb.mono HB.out.size)))
      · have HMK := Lib.hid hmk
        rw [isMaskB_in a n (by omega), decide_eq_true_eq] at hmk
        obtain ⟨k, rfl⟩ := Int.eq_ofNat_of_zero_le hmk.1
        have hk63 : k < 9223372036854775808 := by have := p8 n h8; omega
        rw [show prAns (n : Int) (ints rs) (ints vs) (k : Int) = _ from prAns_yes (n : Int) rs vs k ha hu HMK.out]
        have HVP : Hid (∀ p, p < m → vs.getD p 0 < 8) := Lib.hid fun p hp => Nat.lt_of_lt_of_le (in_getD hvn p (by omega)) h8
        have hqn : ∀ x, x ∈ prjS vs k → x < n := fun x hx => hvn x (List.mem_filter.1 hx).1
        have hql : (prjS vs k).length ≤ 24 := Nat.le_trans (prjS_len vs k) (by omega)
        have HNR : Hid (∀ ps, nfM (RDep rs) n ps = nfR rs ps) := Lib.hid fun ps => by unfold nfR; rw [hl]
        obtain ⟨ps, hps⟩ : ∃ ps, ps = prjS vs k := ⟨_, rfl⟩
        rw [← hps] at hqn hql ⊢
        have HPS := Lib.hid hps
        obtain ⟨q, hq⟩ : ∃ q, q = ps.length := ⟨_, rfl⟩
        have HQ := Lib.hid hq
        rw [← hq] at hql
        clear ha hu hmk hl hps hq hm1
        go_enter Tryd.func27, Tryd.ntmps27
        go_wp2_with fail
        refine (l03Code_any (n : Int) _ _ _ _ _ _ _ _ _ (ints rs) (ints vs) (ints vs) _ hh hn2 hh2 hm2 hh2 hm2).mono ?_
        rintro e w1 ⟨rfl, hb⟩
        rw [HC.out, HD.out]
        have hx1 := x0.next hb
        have y0 := hx1.c0
        have y1 := hx1.c1
        have HB1 := Lib.hid (HB.out.trans (hb.mono HB.out.size))
        have hh1 := hh.below hb
        have hu1 := hh2.below hb
        have hdr : Below w1.heap.size w1 w1.drew := (Below.refl _ _).drew
        have HPJ : Hid (∀ ww, Below w1.heap.size w1 ww → Calls Tryd.prog 59 #[.slice A1 m d, .int .i64 (k : Int)] ww (MakesE 2 ww q (ints ps))) := Lib.hid fun ww hw => by rw [HQ.out, HPS.out]; exact project_any A1 m d k vs ww (hu1.below hw) hm24 hk63 HVP.out
        have HNO : Hid (∀ ww A2 c2, Below w1.heap.size w1 ww → Rd ww A2 q (ints ps) → Calls Tryd.prog 49 #[.agg #[.int .i64 (n : Int), .slice A n c], .slice A2 q c2] ww (MakesE 2 ww q (ints (nfR rs ps)))) := Lib.hid fun ww A2 c2 hw h2 => by
          rw [← HNR.out]; exact l03Normal_any A A2 n c q c2 rs ps ww (hh1.below hw) (by omega) hr h2 hql (fun p hp => in_getD hqn p (by rw [← HQ.out]; exact hp))
        clear hh hh2 hh1 hu1
        go_wp2_with fail
        refine (HFU.out _).mono ?_
        rintro e w' ⟨rfl, rfl⟩
        go_wp2_with fail
        refine (in_any (k : Int) 0 (P : Int) _).mono ?_
        rintro e w' ⟨rfl, rfl⟩
        rw [HIM.out, HMK.out]
        go_wp2_with fail
        go_region_with (first
          | (go_at_call 59; refine (HPJ.out _ hdr).mono ?_; rintro e w2 ⟨A2, c2, rfl, ho2, hb2⟩; have hb12 := hdr.trans (hb2.mono hdr.size); have z0 := (hx1.next hb12).c0; have z1 := (hx1.next hb12).c1)
          | (go_at_call 49; refine (HNO.out _ _ _ hb12 ho2.rd).mono ?_; rintro e w3 ⟨A3, c3, rfl, ho3, hb3⟩))
        all_goals (
          go_wp2_with fail
          go_ret2
          have hb13 := hb12.trans (hb3.mono hb12.size)
          exact LsPost.of_ans (ans_yes ho3.len (ho3.mono (by have := HB1.out.size; have := hb12.size; omega)) (HB1.out.trans (hb13.mono HB1.out.size))))
end Go.Proofs.YtpcgjldcdjlenaaDoor
