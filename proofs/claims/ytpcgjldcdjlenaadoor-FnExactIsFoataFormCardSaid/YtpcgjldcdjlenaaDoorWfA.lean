/-
  WordOfFoata and IsFoataForm: both sides.
-/
import Derived.Test.YtpcgjldcdjlenaaDoorStp
import Derived.Deep.RegionWith
namespace Go.Proofs.YtpcgjldcdjlenaaDoor
open Go Go.RowKit
set_option linter.unusedVariables false
set_option maxRecDepth 100000

def wfAns (L : Int) (xs us : List Int) : List Int × Int := if alphB L xs = true then (if ffB xs.length (xs.map Int.toNat) us = true then (ints (nfR (xs.map Int.toNat) (stW (us.map Int.toNat))), 0) else ([], 5)) else ([], 1)
def ifAns (L : Int) (xs us : List Int) : Bool := decide ((wfAns L xs us).2 = 0)
theorem wfAns_no (L : Int) (xs us : List Int) (h : alphB L xs = false) : wfAns L xs us = ([], 1) := by unfold wfAns; rw [if_neg (by rw [h]; decide)]
theorem wfAns_bad (L : Int) (rs : List Nat) (us : List Int) (h : alphB L (ints rs) = true) (h2 : ffB rs.length rs us = false) : wfAns L (ints rs) us = ([], 5) := by
  unfold wfAns; rw [if_pos h, ints_toNat, ints_len, if_neg (by rw [h2]; decide)]
theorem wfAns_yes (L : Int) (rs us : List Nat) (h : alphB L (ints rs) = true) (h2 : ffB rs.length rs (ints us) = true) : wfAns L (ints rs) (ints us) = (ints (nfR rs (stW us)), 0) := by
  unfold wfAns; rw [if_pos h, ints_toNat, ints_len, if_pos h2, ints_toNat]
theorem ff_parts (n : Nat) (hn : n ≤ 24) (rs : List Nat) (xs : List Int) (h : ffB n rs xs = true) : ∃ us, xs = ints us ∧ us.length ≤ 24 ∧ (∀ a, a ∈ us → a < 2 ^ n) ∧ (stW us).length ≤ 24 := by
  unfold ffB at h
  rw [Bool.and_eq_true, Bool.and_eq_true, Bool.and_eq_true, decide_eq_true_eq, decide_eq_true_eq] at h
  obtain ⟨us, rfl, hu⟩ := masks_nats n hn xs h.1.2
  have h1 := h.2.1
  rw [ints_toNat] at h1
  exact ⟨us, rfl, by rw [← ints_len]; exact h.1.1, hu, h1⟩
theorem wfAns_small (L : Int) (xs us : List Int) : (wfAns L xs us).1.length ≤ 24 := by
  unfold wfAns
  split
  · split
    · rename_i h
      show (ints _).length ≤ 24
      rw [ints_len]
      refine Nat.le_trans (nfR_len _ _) ?_
      unfold ffB at h
      rw [Bool.and_eq_true, Bool.and_eq_true, Bool.and_eq_true, decide_eq_true_eq, decide_eq_true_eq] at h
      exact h.2.1
    · show 0 ≤ 24; omega
  · show 0 ≤ 24; omega
set_option maxHeartbeats 3200000 in
theorem implWordOfFoata (L : Int) (A : Option Addr) (n c : Nat) (xs : List Int) (A1 : Option Addr) (m d : Nat) (us : List Int) (w : World) (h : Rd w A n xs) (hwf : Wf xs) (hL1 : -9223372036854775808 ≤ L) (hL2 : L ≤ 9223372036854775807) (hn : n ≤ maxLen) (h2 : Rd w A1 m us) (hwf2 : Wf us) (hm : m ≤ maxLen) (hT : Tab w) :
    Calls Tryd.prog 32 #[.agg #[.int .i64 L, .slice A n c], .slice A1 m d] w (LsPost w (wfAns L xs us).1.length (wfAns L xs us).1 (wfAns L xs us).2) := by
  have hn2 : n ≤ 9223372036854775807 := by unfold maxLen at hn; omega
  have hm2 : m ≤ 9223372036854775807 := by unfold maxLen at hm; omega
  have hn1 := h.1
  have HB := Lib.hid (below1 w (.cells #[.int .i64 L, .slice A n c] 28))
  have hh := h.below HB.out
  have hh2 := h2.below HB.out
  have hT1 := hT.below HB.out
  cases ha : alphB L xs
  · rw [show wfAns L xs us = _ from wfAns_no L xs us ha]
    have HA := Lib.hid ha
    clear ha hn1
    go_enter Tryd.func32, Tryd.ntmps32
    go_wp2_with fail
    refine (dependenceOf_no L _ _ _ xs _ hh hwf hL1 hL2 hn2 HA.out hT1).mono ?_
    rintro e w1 ⟨rfl, hb⟩
    go_wp2_with fail
    go_ret2
    exact LsPost.of_ans (ans_no 1 (HB.out.trans (hb.mono HB.out.size)))
  · obtain ⟨rs, rfl, rfl, h8, hr, hrel, hl, hd, _⟩ := alphB_nats L xs n hn1 ha
    have HDEP := Lib.hid ((depB_iff rs n hl hr).1 hd)
    have HDO := Lib.hid (dependenceOf_yes (n : Int) _ n c rs _ hh hwf h8 rfl hr hrel hd hT1)
    cases hff : ffB n rs us
    · rw [show wfAns (n : Int) (ints rs) us = _ from wfAns_bad (n : Int) rs us ha (by rw [hl]; exact hff)]
      have HFF := Lib.hid hff
      clear ha hff hl
      go_enter Tryd.func32, Tryd.ntmps32
      go_wp2_with fail
      refine HDO.out.mono ?_
      rintro e w1 ⟨A2, c2, rfl, ho, hb⟩
      have HWS := Lib.hid (wordWithSteps_any A2 A1 n m c2 d rs us w1 ho.rd h8 hr HDEP.out (hh2.below hb) hwf2 hm2 (hT1.below hb))
      go_wp2_with fail
      refine HWS.out.mono ?_
      rintro e w2 ⟨A3, N, c3, rfl, _, hb2⟩
      rw [HFF.out]
      go_wp2_with fail
      go_ret2
      exact LsPost.of_ans (ans_no 5 (HB.out.trans ((hb.trans (hb2.mono hb.size)).mono HB.out.size)))
    · have HFF := Lib.hid hff
      obtain ⟨vs, rfl, hv24, hvm, hs24⟩ := ff_parts n (by omega) rs us hff
      rw [show wfAns (n : Int) (ints rs) (ints vs) = _ from wfAns_yes (n : Int) rs vs ha (by rw [hl]; exact hff)]
      have hqn := stW_lt vs n hvm
      obtain ⟨ps, hps⟩ : ∃ ps, ps = stW vs := ⟨_, rfl⟩
      rw [← hps] at hqn hs24 ⊢
      have HPS : Hid (stW ((ints vs).map Int.toNat) = ps) := Lib.hid (by rw [ints_toNat, hps])
      obtain ⟨q, hq⟩ : ∃ q, q = ps.length := ⟨_, rfl⟩
      have HQ := Lib.hid hq
      have HLR : Hid (rs.length = n) := Lib.hid hl
      have HLU : Hid (ps.length = q) := Lib.hid hq.symm
      have hm24' : q ≤ 24 := by omega
      have HVR : Hid (∀ p, p < q → ps.getD p 0 < n) := Lib.hid fun p hp => in_getD hqn p (by omega)
      have HR63 : Hid (∀ i, rs.getD i 0 < 9223372036854775808) := Lib.hid fun i => lt63 (by omega) (hr i)
      clear ha hff hl hps hq hs24
      go_enter Tryd.func32, Tryd.ntmps32
      go_wp2_with fail
      refine HDO.out.mono ?_
      rintro e w1 ⟨A2, c2, rfl, ho, hb⟩
      have HB1 := Lib.hid (HB.out.trans (hb.mono HB.out.size))
      have HWS := Lib.hid (wordWithSteps_any A2 A1 n m c2 d rs (ints vs) w1 ho.rd h8 hr HDEP.out (hh2.below hb) hwf2 hm2 (hT1.below hb))
      have hrd := ho.rd
      have hT2 := hT1.below hb
      clear ho hb hh hh2 hT1 hT h h2 HDO
      go_wp2_with fail
      refine HWS.out.mono ?_
      rintro e w2 ⟨A3, N, c3, rfl, hok, hb3⟩
      obtain ⟨hN, ho3⟩ := hok HFF.out
      rw [HPS.out, ← HQ.out] at hN
      subst hN
      rw [HPS.out] at ho3
      rw [HFF.out]
      have HRD := Lib.hid (hrd.below hb3)
      have HRW := Lib.hid ho3.rd
      have HTT := Lib.hid (hT2.below hb3)
      have HBW := Lib.hid (HB1.out.trans (hb3.mono HB1.out.size))
      clear hb3 ho3 hrd hT2 HWS hok
      go_wp2_with fail
      refine (traceOf_any A2 A3 n N c2 c3 rs ps _ HRD.out HRW.out hm24' (by omega) HVR.out HR63.out HTT.out).mono ?_
      rintro e w5 ⟨A5, c5, B5, d5, es, rfl, hp, hs, h1, h2, -, -, hb5⟩
      have HNF := Lib.hid (nf_from A5 B5 c5 d5 N n rs ps es w5 HLR.out hr HDEP.out HLU.out HVR.out hm24' hp hs h1 h2 (HTT.out.below hb5))
      have HB5 := Lib.hid (HBW.out.trans (hb5.mono HBW.out.size))
      clear hp hs h1 h2 hb5
      go_wp2_with fail
      refine HNF.out.mono ?_
      rintro e w6 ⟨A6, c6, rfl, ho6, hb6⟩
      go_wp2_with fail
      go_ret2
      exact LsPost.of_ans (ans_yes ho6.len (ho6.mono HB5.out.size) (HB5.out.trans (hb6.mono HB5.out.size)))
set_option maxHeartbeats 3200000 in
theorem l03IsFoata_any (A : Option Addr) (n c : Nat) (rs : List Nat) (A1 : Option Addr) (m d : Nat) (us : List Int) (w : World) (h : Rd w A n (ints rs)) (h8 : n ≤ 8) (hr : ∀ i, rs.getD i 0 < 2 ^ n) (h2 : Rd w A1 m us) (hm : m ≤ 9223372036854775807) :
    Calls Tryd.prog 65 #[.agg #[.int .i64 (n : Int), .slice A n c], .slice A1 m d] w fun e w' => e = .returned (.bool (ffB n rs us)) ∧ Below w.heap.size w w' := by
  have HB := Lib.hid (below1 w (.cells #[.int .i64 (n : Int), .slice A n c] 28))
  have x0 := box_new 28 w (n : Int) A n c
  have hh := h.below HB.out
  have hh2 := h2.below HB.out
  have HL : Hid (us.length = m) := Lib.hid h2.1
  by_cases hm24 : m ≤ 24
  · have HMA := Lib.hid (masks_any n (by omega) A1 m d us _ hh2 hm)
    cases hall : inFull n us
    · have HALL := Lib.hid hall
      have HF : Hid (ffB n rs us = false) := Lib.hid (ff_bad n rs us (by unfold inFull at hall; rw [all_mask us n (by omega)] at hall; exact hall))
      clear hall
      go_enter Tryd.func65, Tryd.ntmps65
      go_wp2_with fail
      refine HMA.out.mono ?_
      rintro e w1 ⟨rfl, hb⟩
      rw [HALL.out]
      go_wp2_with fail
      go_ret
      exact ⟨ret_b _ _ HF.out.symm, HB.out.trans (hb.mono HB.out.size)⟩
    · have HALL := Lib.hid hall
      have hall2 : (us.all fun x => isMaskB x (n : Int)) = true := by unfold inFull at hall; rw [all_mask us n (by omega)] at hall; exact hall
      obtain ⟨vs, rfl, hvm⟩ := masks_nats n (by omega) us hall2
      have hvl : vs.length ≤ 24 := by have := HL.out; rw [ints_len] at this; omega
      have HFF := Lib.hid (ff_ok n rs vs hvl hall2)
      have hqn := stW_lt vs n hvm
      have hsl := stW_len vs
      have hv24 : ∀ a, a ∈ vs → a < 16777216 := fun a ha => by have := hvm a ha; have := p8 n h8; omega
      obtain ⟨ps, hps⟩ : ∃ ps, ps = stW vs := ⟨_, rfl⟩
      rw [← hps] at hqn HFF hsl
      obtain ⟨q, hq⟩ : ∃ q, q = ps.length := ⟨_, rfl⟩
      have HQ := Lib.hid hq
      have HPS := Lib.hid hps
      have hqm : q ≤ 576 := by omega
      have HWB : Hid (wordB (n : Int) (ints ps) = decide (q ≤ 24)) := Lib.hid (by
        unfold wordB
        rw [ints_len, ← hq]
        have : (ints ps).all (letB (n : Int)) = true := List.all_eq_true.2 fun x hx => by
          unfold ints at hx
          obtain ⟨a, ha, rfl⟩ := List.mem_map.1 hx
          have := hqn a ha
          unfold letB
          rw [decide_eq_true_eq]; omega
        rw [this, Bool.and_true])
      clear hall hall2 hps hq hsl
      go_enter Tryd.func65, Tryd.ntmps65
      go_wp2_with fail
      refine HMA.out.mono ?_
      rintro e w1 ⟨rfl, hb⟩
      rw [HALL.out]
      have HST := Lib.hid (l03Steps_any A1 m d vs w1 (hh2.below hb) hm24 hv24)
      rw [← HPS.out, ← HQ.out] at HST
      go_wp2_with fail
      refine HST.out.mono ?_
      rintro e w2 ⟨A2, c2, rfl, ho2, hb2⟩
      have hb12 := hb.trans (hb2.mono hb.size)
      have hx2 := x0.next hb12
      have y0 := hx2.c0
      have y1 := hx2.c1
      have HWO := Lib.hid (l03Word_any (n : Int) A2 q c2 (ints ps) w2 ho2.rd (by omega) (by omega) (by omega))
      rw [HWB.out] at HWO
      clear HST HMA
      by_cases hq24 : q ≤ 24
      · rw [decide_eq_true hq24] at HWO
        have HFS := Lib.hid (foata_spec A A2 n c q c2 rs ps w2 (hh.below hb12) h8 hr ho2.rd hq24 hqn)
        have hfl : (foM rs ps).length ≤ 24 := Nat.le_trans (foM_len rs ps) (by have := HQ.out; omega)
        obtain ⟨fs, hfs⟩ : ∃ fs, fs = foM rs ps := ⟨_, rfl⟩
        rw [← hfs] at HFS hfl HFF
        obtain ⟨K, hK⟩ : ∃ K, K = fs.length := ⟨_, rfl⟩
        rw [← hK] at HFS hfl
        have hru := hh2.below hb12
        clear hfs hK
        go_wp2_with fail
        refine HWO.out.mono ?_
        rintro e w' ⟨rfl, rfl⟩
        go_wp2_with fail
        refine HFS.out.mono ?_
        rintro e w4 ⟨A4, c4, rfl, ho4, hb4⟩
        have HSA := Lib.hid (same01_two A4 A1 K m c4 d (ints fs) (ints vs) w4 ho4.rd (hru.below hb4) (by omega))
        clear HFS
        go_wp2_with fail
        refine HSA.out.mono ?_
        rintro e w5 ⟨rfl, hb5⟩
        have HE : Hid (decide (ints fs = ints vs) = ffB n rs (ints vs)) := Lib.hid (by
          rw [HFF.out, ← HQ.out, decide_eq_true hq24, Bool.true_and, decide_eq_decide]; exact ints_inj _ _)
        rw [HE.out]
        have hb15 := hb12.trans ((hb4.trans (hb5.mono hb4.size)).mono hb12.size)
        go_wp2_with fail
        go_ret
        exact ⟨rfl, HB.out.trans (hb15.mono HB.out.size)⟩
      · rw [decide_eq_false hq24] at HWO
        have HE : Hid (ffB n rs (ints vs) = false) := Lib.hid (by rw [HFF.out, ← HQ.out, decide_eq_false hq24]; rfl)
        go_wp2_with fail
        refine HWO.out.mono ?_
        rintro e w' ⟨rfl, rfl⟩
        go_wp2_with fail
        go_ret
        exact ⟨ret_b _ _ HE.out.symm, HB.out.trans (hb12.mono HB.out.size)⟩
  · have HF := Lib.hid (ff_long n rs us (by rw [HL.out]; omega))
    have hm25 : 24 < m := by omega
    go_enter Tryd.func65, Tryd.ntmps65
    go_wp2_with fail
    go_ret
    exact ⟨ret_b _ _ HF.out.symm, HB.out⟩
set_option maxHeartbeats 3200000 in
theorem specWordOfFoata (L : Int) (A : Option Addr) (n c : Nat) (xs : List Int) (A1 : Option Addr) (m d : Nat) (us : List Int) (w : World) (h : Rd w A n xs) (hwf : Wf xs) (hL1 : -9223372036854775808 ≤ L) (hL2 : L ≤ 9223372036854775807) (hn : n ≤ maxLen) (h2 : Rd w A1 m us) (hwf2 : Wf us) (hm : m ≤ maxLen) :
    Calls Tryd.prog 31 #[.agg #[.int .i64 L, .slice A n c], .slice A1 m d] w (LsPost w (wfAns L xs us).1.length (wfAns L xs us).1 (wfAns L xs us).2) := by
  have hn2 : n ≤ 9223372036854775807 := by unfold maxLen at hn; omega
  have hm2 : m ≤ 9223372036854775807 := by unfold maxLen at hm; omega
  have hn1 := h.1
  have HB := Lib.hid (below1 w (.cells #[.int .i64 L, .slice A n c] 28))
  have x0 := box_new 28 w L A n c
  have hh := h.below HB.out
  have hh2 := h2.below HB.out
  have HIS := Lib.hid (l02Is_any L A n c xs _ hh hn2)
  cases ha : alphB L xs
  · rw [show wfAns L xs us = _ from wfAns_no L xs us ha]
    rw [ha] at HIS
    clear ha hn1
    go_enter Tryd.func31, Tryd.ntmps31
    go_wp2_with fail
    refine HIS.out.mono ?_
    rintro e w1 ⟨rfl, hb⟩
    go_wp2_with fail
    go_ret2
    exact LsPost.of_ans (ans_no 1 (HB.out.trans (hb.mono HB.out.size)))
  · rw [ha] at HIS
    obtain ⟨rs, rfl, rfl, h8, hr, hrel, hl, hd, _⟩ := alphB_nats L xs n hn1 ha
    cases hff : ffB n rs us
    · rw [show wfAns (n : Int) (ints rs) us = _ from wfAns_bad (n : Int) rs us ha (by rw [hl]; exact hff)]
      have HFF := Lib.hid hff
      clear ha hff hl
      go_enter Tryd.func31, Tryd.ntmps31
      go_wp2_with fail
      refine HIS.out.mono ?_
      rintro e w1 ⟨rfl, hb⟩
      have hx1 := x0.next hb
      have y0 := hx1.c0
      have y1 := hx1.c1
      have HIF := Lib.hid (l03IsFoata_any A n c rs A1 m d us w1 (hh.below hb) h8 hr (hh2.below hb) hm2)
      rw [HFF.out] at HIF
      go_wp2_with fail
      refine HIF.out.mono ?_
      rintro e w2 ⟨rfl, hb2⟩
      go_wp2_with fail
      go_ret2
      exact LsPost.of_ans (ans_no 5 (HB.out.trans ((hb.trans (hb2.mono hb.size)).mono HB.out.size)))
    · have HFF := Lib.hid hff
      obtain ⟨vs, rfl, hv24, hvm, hs24⟩ := ff_parts n (by omega) rs us hff
      rw [show wfAns (n : Int) (ints rs) (ints vs) = _ from wfAns_yes (n : Int) rs vs ha (by rw [hl]; exact hff)]
      have hqn := stW_lt vs n hvm
      have hva : ∀ a, a ∈ vs → a < 16777216 := fun a ha => by have := hvm a ha; have := p8 n h8; omega
      have HNR : Hid (∀ ps, nfM (RDep rs) n ps = nfR rs ps) := Lib.hid fun ps => by unfold nfR; rw [hl]
      have hm24 : m ≤ 24 := by have := h2.1; rw [ints_len] at this; omega
      obtain ⟨ps, hps⟩ : ∃ ps, ps = stW vs := ⟨_, rfl⟩
      rw [← hps] at hqn hs24 ⊢
      have HPS := Lib.hid hps
      obtain ⟨q, hq⟩ : ∃ q, q = ps.length := ⟨_, rfl⟩
      have HQ := Lib.hid hq
      rw [← hq] at hs24
      clear ha hff hl hps hq
      go_enter Tryd.func31, Tryd.ntmps31
      go_wp2_with fail
      refine HIS.out.mono ?_
      rintro e w1 ⟨rfl, hb⟩
      have hx1 := x0.next hb
      have y0 := hx1.c0
      have y1 := hx1.c1
      have HIF := Lib.hid (l03IsFoata_any A n c rs A1 m d (ints vs) w1 (hh.below hb) h8 hr (hh2.below hb) hm2)
      rw [HFF.out] at HIF
      go_wp2_with fail
      refine HIF.out.mono ?_
      rintro e w2 ⟨rfl, hb2⟩
      have hb12 := hb.trans (hb2.mono hb.size)
      have hx2 := x0.next hb12
      have z0 := hx2.c0
      have z1 := hx2.c1
      have HB1 := Lib.hid (HB.out.trans (hb12.mono HB.out.size))
      have hh1 := hh.below hb12
      have hu1 := hh2.below hb12
      have hdr : Below w2.heap.size w2 w2.drew := (Below.refl _ _).drew
      have HST : Hid (∀ ww, Below w2.heap.size w2 ww → Calls Tryd.prog 66 #[.slice A1 m d] ww (MakesE 2 ww q (ints ps))) := Lib.hid fun ww hw => by rw [HQ.out, HPS.out]; exact l03Steps_any A1 m d vs ww (hu1.below hw) hm24 hva
      have HNO : Hid (∀ ww A2 c2, Below w2.heap.size w2 ww → Rd ww A2 q (ints ps) → Calls Tryd.prog 49 #[.agg #[.int .i64 (n : Int), .slice A n c], .slice A2 q c2] ww (MakesE 2 ww q (ints (nfR rs ps)))) := Lib.hid fun ww A2 c2 hw h2 => by
        rw [← HNR.out]; exact l03Normal_any A A2 n c q c2 rs ps ww (hh1.below hw) (by omega) hr h2 hs24 (fun p hp => in_getD hqn p (by rw [← HQ.out]; exact hp))
      clear hh hh2 hh1 hu1 hx1 y0 y1 HIF
      go_wp2_with fail
      go_region_with (first
        | (go_at_call 66; refine (HST.out _ hdr).mono ?_; rintro e w3 ⟨A2, c2, rfl, ho2, hb3⟩; have hb23 := hdr.trans (hb3.mono hdr.size); have t0 := (hx2.next hb23).c0; have t1 := (hx2.next hb23).c1)
        | (go_at_call 49; refine (HNO.out _ _ _ hb23 ho2.rd).mono ?_; rintro e w4 ⟨A3, c3, rfl, ho3, hb4⟩))
      all_goals (
        go_wp2_with fail
        go_ret2
        have hb24 := hb23.trans (hb4.mono hb23.size)
        exact LsPost.of_ans (ans_yes ho3.len (ho3.mono (by have := HB1.out.size; have := hb23.size; omega)) (HB1.out.trans (hb24.mono HB1.out.size))))
set_option maxHeartbeats 1600000 in
theorem implIsFoataForm (L : Int) (A : Option Addr) (n c : Nat) (xs : List Int) (A1 : Option Addr) (m d : Nat) (us : List Int) (w : World) (h : Rd w A n xs) (hwf : Wf xs) (hL1 : -9223372036854775808 ≤ L) (hL2 : L ≤ 9223372036854775807) (hn : n ≤ maxLen) (h2 : Rd w A1 m us) (hwf2 : Wf us) (hm : m ≤ maxLen) (hT : Tab w) :
    Calls Tryd.prog 34 #[.agg #[.int .i64 L, .slice A n c], .slice A1 m d] w (fun e w' => e = .returned (.bool (ifAns L xs us)) ∧ Below w.heap.size w w') := by
  have HB := Lib.hid (below1 w (.cells #[.int .i64 L, .slice A n c] 28))
  have HWF := Lib.hid (implWordOfFoata L A n c xs A1 m d us _ (h.below HB.out) hwf hL1 hL2 hn (h2.below HB.out) hwf2 hm (hT.below HB.out))
  have HI : Hid (ifAns L xs us = decide ((wfAns L xs us).2 = 0)) := Lib.hid rfl
  obtain ⟨C, hC⟩ : ∃ C, C = (wfAns L xs us).2 := ⟨_, rfl⟩
  obtain ⟨X, hX⟩ : ∃ X, X = (wfAns L xs us).1 := ⟨_, rfl⟩
  rw [← hC] at HI HWF
  rw [← hX] at HWF
  clear hC hX
  go_enter Tryd.func34, Tryd.ntmps34
  go_wp2_with fail
  refine HWF.out.mono ?_
  rintro e w1 ⟨A2, c2, rfl, _, hb⟩
  go_wp2_with fail
  go_ret
  exact ⟨ret_b _ _ (by rw [HI.out]; by_cases h0 : C = 0 <;> simp [h0]), HB.out.trans (hb.mono HB.out.size)⟩
set_option maxHeartbeats 1600000 in
theorem specIsFoataForm (L : Int) (A : Option Addr) (n c : Nat) (xs : List Int) (A1 : Option Addr) (m d : Nat) (us : List Int) (w : World) (h : Rd w A n xs) (hwf : Wf xs) (hL1 : -9223372036854775808 ≤ L) (hL2 : L ≤ 9223372036854775807) (hn : n ≤ maxLen) (h2 : Rd w A1 m us) (hwf2 : Wf us) (hm : m ≤ maxLen) :
    Calls Tryd.prog 33 #[.agg #[.int .i64 L, .slice A n c], .slice A1 m d] w (fun e w' => e = .returned (.bool (ifAns L xs us)) ∧ Below w.heap.size w w') := by
  have hn2 : n ≤ 9223372036854775807 := by unfold maxLen at hn; omega
  have hm2 : m ≤ 9223372036854775807 := by unfold maxLen at hm; omega
  have hn1 := h.1
  have HB := Lib.hid (below1 w (.cells #[.int .i64 L, .slice A n c] 28))
  have x0 := box_new 28 w L A n c
  have hh := h.below HB.out
  have hh2 := h2.below HB.out
  have HIS := Lib.hid (l02Is_any L A n c xs _ hh hn2)
  cases ha : alphB L xs
  · have HI : Hid (ifAns L xs us = false) := Lib.hid (by unfold ifAns; rw [wfAns_no L xs us ha]; rfl)
    rw [ha] at HIS
    clear ha hn1
    go_enter Tryd.func33, Tryd.ntmps33
    go_wp2_with fail
    refine HIS.out.mono ?_
    rintro e w1 ⟨rfl, hb⟩
    go_wp2_with fail
    go_ret
    exact ⟨ret_b _ _ HI.out.symm, HB.out.trans (hb.mono HB.out.size)⟩
  · rw [ha] at HIS
    obtain ⟨rs, rfl, rfl, h8, hr, hrel, hl, hd, _⟩ := alphB_nats L xs n hn1 ha
    have HI : Hid (ifAns (n : Int) (ints rs) us = ffB n rs us) := Lib.hid (by
      unfold ifAns
      cases hff : ffB n rs us
      · rw [wfAns_bad (n : Int) rs us ha (by rw [hl]; exact hff)]; rfl
      · obtain ⟨vs, rfl, _⟩ := ff_parts n (by omega) rs us hff
        rw [wfAns_yes (n : Int) rs vs ha (by rw [hl]; exact hff)]; rfl)
    clear ha hl
    go_enter Tryd.func33, Tryd.ntmps33
    go_wp2_with fail
    refine HIS.out.mono ?_
    rintro e w1 ⟨rfl, hb⟩
    have hx1 := x0.next hb
    have y0 := hx1.c0
    have y1 := hx1.c1
    have HIF := Lib.hid (l03IsFoata_any A n c rs A1 m d us w1 (hh.below hb) h8 hr (hh2.below hb) hm2)
    go_wp2_with fail
    refine HIF.out.mono ?_
    rintro e w2 ⟨rfl, hb2⟩
    go_wp2_with fail
    go_ret
    exact ⟨ret_b _ _ HI.out.symm, HB.out.trans ((hb.trans (hb2.mono hb.size)).mono HB.out.size)⟩
end Go.Proofs.YtpcgjldcdjlenaaDoor
