/-
  JoinOf, ResidualAfter: the model's side.
-/
import Derived.Test.YtmooanfcedgfnaaDoorDv2
namespace Go.Proofs.YtmooanfcedgfnaaDoor
open Go Go.RowKit
set_option linter.unusedVariables false
set_option maxRecDepth 100000

theorem nfGo_lt (D : Nat → Nat → Bool) (n : Nat) : ∀ (k : Nat) (us : List Nat) (x : Nat), x ∈ nfGo D n k us → x < n
  | 0, _, x, h => by cases h
  | k + 1, us, x, h => by
    have h' : x ∈ (match leastFree D n us with | none => [] | some a => a :: nfGo D n k (us.erase a)) := h
    cases hl : leastFree D n us with
    | none => rw [hl] at h'; cases h'
    | some a =>
      rw [hl] at h'
      rcases List.mem_cons.1 h' with e | e
      · rw [e]; exact ((leastFree_iff D n us a).1 hl).1
      · exact nfGo_lt D n k _ x e
theorem nfR_eqv (rs : List Nat) (n : Nat) (hl : rs.length = n) (hsym : ∀ a b, RDep rs a b = RDep rs b a) (href : ∀ a, a < n → RDep rs a a = true) (us : List Nat) (hu : ∀ x, x ∈ us → x < n) : Eqv (RDep rs) (nfR rs us) us := by
  unfold nfR nfM; rw [hl]; exact nfGo_eqv hsym href us.length us rfl hu
theorem nfR_lt (rs : List Nat) (n : Nat) (hl : rs.length = n) (us : List Nat) : ∀ x, x ∈ nfR rs us → x < n := by
  unfold nfR nfM; rw [hl]; exact fun x hx => nfGo_lt _ _ _ _ x hx
theorem nfR_same (rs : List Nat) (n : Nat) (hl : rs.length = n) (hsym : ∀ a b, RDep rs a b = RDep rs b a) (href : ∀ a, a < n → RDep rs a a = true) (us vs : List Nat) (hu : ∀ x, x ∈ us → x < n) (hv : ∀ x, x ∈ vs → x < n) (h : Eqv (RDep rs) us vs) : nfR rs us = nfR rs vs := by
  unfold nfR; rw [hl]; exact (eqv_iff_nf hsym href us vs hu hv).1 h
set_option maxHeartbeats 1600000 in
theorem specJoinOf (L : Int) (A : Option Addr) (n c : Nat) (xs : List Int) (A1 : Option Addr) (m d : Nat) (us : List Int) (B1 : Option Addr) (q f : Nat) (ts : List Int) (w : World) (h : Rd w A n xs) (hwf : Wf xs) (hL1 : -9223372036854775808 ≤ L) (hL2 : L ≤ 9223372036854775807) (hn : n ≤ maxLen) (h2 : Rd w A1 m us) (hwf2 : Wf us) (hm : m ≤ maxLen) (h3 : Rd w B1 q ts) (hwf3 : Wf ts) (hq : q ≤ maxLen) :
    Calls Tryd.prog 35 #[.agg #[.int .i64 L, .slice A n c], .slice A1 m d, .slice B1 q f] w (LsPost w (dL joF L xs us ts).1.length (dL joF L xs us ts).1 (dL joF L xs us ts).2) := by
  have hn2 : n ≤ 9223372036854775807 := by unfold maxLen at hn; omega
  have hm2 : m ≤ 9223372036854775807 := by unfold maxLen at hm; omega
  have hq2 : q ≤ 9223372036854775807 := by unfold maxLen at hq; omega
  have hn1 := h.1
  have hm1 := h2.1
  have hq1 := h3.1
  have HB := Lib.hid (below1 w (.cells #[.int .i64 L, .slice A n c] 28))
  have x0 := box_new 28 w L A n c
  have hh := h.below HB.out
  have hh2 := h2.below HB.out
  have hh3 := h3.below HB.out
  have HCD := Lib.hid (l03Code_any L A A1 B1 n c m d q f xs us ts _ hh hn2 hh2 hm2 hh3 hq2)
  cases ha : alphB L xs
  · rw [show dL joF L xs us ts = _ from dL_no joF L xs us ts ha]
    have HD := Lib.hid (wCode2_no L xs us ts ha)
    clear ha hn1
    go_enter Tryd.func35, Tryd.ntmps35
    go_wp2_with fail
    refine HCD.out.mono ?_
    rintro e w1 ⟨rfl, hb⟩
    rw [HD.out]
    go_wp2_with fail
    go_ret2
    exact LsPost.of_ans (ans_no 1 (HB.out.trans (hb.mono HB.out.size)))
  · cases hu : (wordB L us && wordB L ts)
    · rw [show dL joF L xs us ts = _ from dL_bad joF L xs us ts ha hu]
      have HD := Lib.hid (wCode2_bad L xs us ts ha hu)
      clear ha hu hn1
      go_enter Tryd.func35, Tryd.ntmps35
      go_wp2_with fail
      refine HCD.out.mono ?_
      rintro e w1 ⟨rfl, hb⟩
      rw [HD.out]
      go_wp2_with fail
      go_ret2
      exact LsPost.of_ans (ans_no 2 (HB.out.trans (hb.mono HB.out.size)))
    · have HD := Lib.hid (wCode2_yes L xs us ts ha hu)
      obtain ⟨rs, rfl, rfl, h8, hr, hrel, hl, hd, _⟩ := alphB_nats L xs n hn1 ha
      have hu' := hu
      rw [Bool.and_eq_true] at hu'
      obtain ⟨vs, rfl, hv24, hvn⟩ := wordB_nats n us hu'.1
      obtain ⟨ys, rfl, hy24, hyn⟩ := wordB_nats n ts hu'.2
      rw [show dL joF (n : Int) (ints rs) (ints vs) (ints ys) = _ from dL_yes joF (n : Int) rs vs ys ha hu]
      rw [ints_len] at hm1 hq1
      have HDEP := Lib.hid ((depB_iff rs n hl hr).1 hd)
      have HLU := Lib.hid hm1
      have HLQ := Lib.hid hq1
      have HLR := Lib.hid hl
      have HR := Lib.hid hr
      have HVM := Lib.hid hvn
      have HYM := Lib.hid hyn
      have HSY : Hid (∀ a b, RDep rs a b = RDep rs b a) := Lib.hid (rdep_sym rs n hl hr HDEP.out)
      have HRE : Hid (∀ a, a < n → RDep rs a a = true) := Lib.hid fun a ha9 => HDEP.out.1 a (by rw [HLR.out]; exact ha9)
      have HNR : Hid (∀ ws, nfM (RDep rs) n ws = nfR rs ws) := Lib.hid (fun ws => by unfold nfR; rw [HLR.out])
      have hm24 : m ≤ 24 := by omega
      have hq24 : q ≤ 24 := by omega
      have h24 : n ≤ 24 := by omega
      clear ha hu hu' hl hm1 hq1 hr hvn hyn hd hrel
      go_enter Tryd.func35, Tryd.ntmps35
      go_wp2_with fail
      refine HCD.out.mono ?_
      rintro e w1 ⟨rfl, hb⟩
      rw [HD.out]
      have y0 := (x0.next hb).c0
      have y1 := (x0.next hb).c1
      have x1 := x0.next hb
      have HB1 := Lib.hid (HB.out.trans (hb.mono HB.out.size))
      have hrd := hh.below hb
      have hr2 := hh2.below hb
      have hr3 := hh3.below hb
      clear hh hh2 hh3 h h2 h3 hb x0
      have HJO := Lib.hid (l05Join_any A A1 B1 n c m d q f rs vs ys w1 hrd h24 HLR.out HR.out HSY.out HRE.out hr2 hm24 hr3 hq24 HVM.out HYM.out)
      unfold JoinPost at HJO
      cases hj : jnM rs vs ys
      · have HA := Lib.hid (joF_err rs vs ys _ _ (ciF_no rs vs ys hj) (by decide))
        rw [hj] at HJO
        clear hj
        go_wp2_with fail
        refine HJO.out.mono ?_
        rintro e w2 ⟨A3, N3, c3, rfl, -, hb2⟩
        go_wp2_with fail
        go_ret2
        rw [HA.out]
        exact LsPost.of_ans (ans_no 4 (HB1.out.trans (hb2.mono HB1.out.size)))
      · rename_i l
        have HJ := Lib.hid (jnM_is rs vs ys l hj)
        have HLM : Hid (∀ x, x ∈ l → x < n) := Lib.hid (fun x hx => by
          rw [HJ.out] at hx
          rcases List.mem_append.1 hx with h1 | h1
          · exact HVM.out x h1
          · exact HYM.out x ((cmp_len _ _ _).2.2.2.2 x h1))
        by_cases hlen : 24 < l.length
        · have HA := Lib.hid (joF_err rs vs ys _ _ (ciF_long rs vs ys l hj hlen) (by decide))
          have HG := Lib.hid hlen
          rw [hj] at HJO
          clear hj hlen
          go_wp2_with fail
          refine HJO.out.mono ?_
          rintro e w2 ⟨A3, N3, c3, rfl, hl, hb2⟩
          obtain ⟨l', hlN, hr4, heq, hlm⟩ := hl l rfl
          have hN3 : (24 : Int) < (N3 : Int) := by have := HG.out; have := Eqv.len HSY.out HRE.out l' l hlm HLM.out heq; omega
          clear hl hlN hr4 heq hlm
          go_wp2_with fail
          go_ret2
          rw [HA.out]
          exact LsPost.of_ans (ans_no 3 (HB1.out.trans (hb2.mono HB1.out.size)))
        · have HA := Lib.hid (joF_yes rs vs ys _ (ciF_yes rs vs ys l hj (by omega)))
          have HG : Hid (l.length ≤ 24) := Lib.hid (by omega)
          rw [hj] at HJO
          clear hj hlen
          go_wp2_with fail
          refine HJO.out.mono ?_
          rintro e w2 ⟨A3, N3, c3, rfl, hl, hb2⟩
          obtain ⟨l', hlN, hr4, heq, hlm⟩ := hl l rfl
          have hle : l'.length ≤ 24 := by have := HG.out; have := Eqv.len HSY.out HRE.out l' l hlm HLM.out heq; omega
          have hN3 : (N3 : Int) ≤ 24 := by omega
          have HB2 := Lib.hid (HB1.out.trans (hb2.mono HB1.out.size))
          have HL3 := Lib.hid (l03Normal_any A A3 n c N3 c3 rs l' w2 (hrd.below hb2) h24 HR.out hr4 (by omega) (fun x hx => in_getD hlm x (by rw [hlN]; exact hx)))
          rw [HNR.out, nfR_same rs n HLR.out HSY.out HRE.out l' l hlm HLM.out heq] at HL3
          have z0 := (x1.next hb2).c0
          have z1 := (x1.next hb2).c1
          clear y0 y1 hl hlN heq hlm hle hr4
          go_wp2_with fail
          refine HL3.out.mono ?_
          rintro e w3 ⟨A4, c4, rfl, ho4, hb4⟩
          go_wp2_with fail
          go_ret2
          rw [HA.out]
          exact LsPost.of_ans (ans_yes ho4.len (ho4.mono HB2.out.size) (HB2.out.trans (hb4.mono HB2.out.size)))
set_option maxHeartbeats 3200000 in
theorem specResidualAfter (L : Int) (A : Option Addr) (n c : Nat) (xs : List Int) (A1 : Option Addr) (m d : Nat) (us : List Int) (B1 : Option Addr) (q f : Nat) (ts : List Int) (w : World) (h : Rd w A n xs) (hwf : Wf xs) (hL1 : -9223372036854775808 ≤ L) (hL2 : L ≤ 9223372036854775807) (hn : n ≤ maxLen) (h2 : Rd w A1 m us) (hwf2 : Wf us) (hm : m ≤ maxLen) (h3 : Rd w B1 q ts) (hwf3 : Wf ts) (hq : q ≤ maxLen) :
    Calls Tryd.prog 37 #[.agg #[.int .i64 L, .slice A n c], .slice A1 m d, .slice B1 q f] w (LsPost w (dL raF L xs us ts).1.length (dL raF L xs us ts).1 (dL raF L xs us ts).2) := by
  have hn1 := h.1
  have hm1 := h2.1
  have hq1 := h3.1
  have HB := Lib.hid (below1 w (.cells #[.int .i64 L, .slice A n c] 28))
  have x0 := box_new 28 w L A n c
  have hh := h.below HB.out
  have hh2 := h2.below HB.out
  have hh3 := h3.below HB.out
  have HJO := Lib.hid (specJoinOf L A n c xs A1 m d us B1 q f ts _ hh hwf hL1 hL2 hn hh2 hwf2 hm hh3 hwf3 hq)
  cases ha : alphB L xs
  · rw [show dL raF L xs us ts = _ from dL_no raF L xs us ts ha]
    rw [dL_no joF L xs us ts ha] at HJO
    clear ha hn1
    go_enter Tryd.func37, Tryd.ntmps37
    go_wp2_with fail
    refine HJO.out.mono ?_
    rintro e w1 ⟨A3, c3, rfl, o3, hb⟩
    go_wp2_with fail
    go_ret2
    exact LsPost.of_ans (ans_no 1 (HB.out.trans (hb.mono HB.out.size)))
  · cases hu : (wordB L us && wordB L ts)
    · rw [show dL raF L xs us ts = _ from dL_bad raF L xs us ts ha hu]
      rw [dL_bad joF L xs us ts ha hu] at HJO
      clear ha hu hn1
      go_enter Tryd.func37, Tryd.ntmps37
      go_wp2_with fail
      refine HJO.out.mono ?_
      rintro e w1 ⟨A3, c3, rfl, o3, hb⟩
      go_wp2_with fail
      go_ret2
      exact LsPost.of_ans (ans_no 2 (HB.out.trans (hb.mono HB.out.size)))
    · obtain ⟨rs, rfl, rfl, h8, hr, hrel, hl, hd, _⟩ := alphB_nats L xs n hn1 ha
      have hu' := hu
      rw [Bool.and_eq_true] at hu'
      obtain ⟨vs, rfl, hv24, hvn⟩ := wordB_nats n us hu'.1
      obtain ⟨ys, rfl, hy24, hyn⟩ := wordB_nats n ts hu'.2
      rw [show dL raF (n : Int) (ints rs) (ints vs) (ints ys) = _ from dL_yes raF (n : Int) rs vs ys ha hu]
      rw [dL_yes joF (n : Int) rs vs ys ha hu] at HJO
      rw [ints_len] at hm1 hq1
      have HDEP := Lib.hid ((depB_iff rs n hl hr).1 hd)
      have HLU := Lib.hid hm1
      have HLR := Lib.hid hl
      have HR := Lib.hid hr
      have HVM := Lib.hid hvn
      have HYM := Lib.hid hyn
      have HSY : Hid (∀ a b, RDep rs a b = RDep rs b a) := Lib.hid (rdep_sym rs n hl hr HDEP.out)
      have HRE : Hid (∀ a, a < n → RDep rs a a = true) := Lib.hid fun a ha9 => HDEP.out.1 a (by rw [HLR.out]; exact ha9)
      have HNR : Hid (∀ ws, nfM (RDep rs) n ws = nfR rs ws) := Lib.hid (fun ws => by unfold nfR; rw [HLR.out])
      have h24 : n ≤ 24 := by omega
      have hm24 : m ≤ 24 := by omega
      clear ha hu hu' hl hm1 hq1 hr hvn hyn hd hrel hh3 h h2 h3
      cases hj : jnM rs vs ys
      · have HA := Lib.hid (raF_err rs vs ys _ _ (ciF_no rs vs ys hj) (by decide))
        rw [joF_err rs vs ys _ _ (ciF_no rs vs ys hj) (by decide)] at HJO
        clear hj
        go_enter Tryd.func37, Tryd.ntmps37
        go_wp2_with fail
        refine HJO.out.mono ?_
        rintro e w1 ⟨A3, c3, rfl, o3, hb⟩
        go_wp2_with fail
        go_ret2
        rw [HA.out]
        exact LsPost.of_ans (ans_no 4 (HB.out.trans (hb.mono HB.out.size)))
      · rename_i l
        by_cases hlen : 24 < l.length
        · have HA := Lib.hid (raF_err rs vs ys _ _ (ciF_long rs vs ys l hj hlen) (by decide))
          rw [joF_err rs vs ys _ _ (ciF_long rs vs ys l hj hlen) (by decide)] at HJO
          clear hj hlen
          go_enter Tryd.func37, Tryd.ntmps37
          go_wp2_with fail
          refine HJO.out.mono ?_
          rintro e w1 ⟨A3, c3, rfl, o3, hb⟩
          go_wp2_with fail
          go_ret2
          rw [HA.out]
          exact LsPost.of_ans (ans_no 3 (HB.out.trans (hb.mono HB.out.size)))
        · have HA := Lib.hid (raF_yes rs vs ys _ (ciF_yes rs vs ys l hj (by omega)))
          have HJ := Lib.hid (jnM_is rs vs ys l hj)
          have hle : l.length ≤ 24 := by omega
          rw [joF_yes rs vs ys _ (ciF_yes rs vs ys l hj (by omega))] at HJO
          have HSM : Hid (∀ x, x ∈ (cmpM (RDep rs) vs ys).2.2 → x < n) := Lib.hid fun x hx => HYM.out x ((cmp_len _ _ _).2.2.2.2 x hx)
          have hlm : ∀ x, x ∈ l → x < n := fun x hx => by
            rw [HJ.out] at hx
            rcases List.mem_append.1 hx with h1 | h1
            · exact HVM.out x h1
            · exact HSM.out x h1
          have hev : Eqv (RDep rs) (vs ++ (cmpM (RDep rs) vs ys).2.2) (nfR rs l) := by rw [← HJ.out]; exact (nfR_eqv rs n HLR.out HSY.out HRE.out l hlm).symm
          obtain ⟨r, hcut, her⟩ := cut_some (RDep rs) n HSY.out HRE.out vs _ (nfR rs l) HVM.out hev
          have hcl := cut_len _ _ _ _ hcut
          have HWM := Lib.hid (nfR_lt rs n HLR.out l)
          have HRM : Hid (∀ x, x ∈ r → x < n) := Lib.hid fun x hx => HWM.out x (hcl.2 x hx)
          have hw24 : (nfR rs l).length ≤ 24 := Nat.le_trans (nfR_len rs l) hle
          have hr24 : r.length ≤ 24 := Nat.le_trans hcl.1 hw24
          have HRS : Hid (nfR rs r = nfR rs (cmpM (RDep rs) vs ys).2.2) := Lib.hid ((nfR_same rs n HLR.out HSY.out HRE.out _ r HSM.out HRM.out her).symm)
          have HCT := Lib.hid hcut
          obtain ⟨W, hW⟩ : ∃ W, W = nfR rs l := ⟨_, rfl⟩
          rw [← hW] at HWM hw24 HCT
          have HJO' : Hid (Calls Tryd.prog 35 #[.agg #[.int .i64 (n : Int), .slice A n c], .slice A1 m d, .slice B1 q f] (w.alloc (.cells #[.int .i64 (n : Int), .slice A n c] 28)) (LsPost (w.alloc (.cells #[.int .i64 (n : Int), .slice A n c] 28)) (ints W).length (ints W) 0)) := Lib.hid (by rw [hW]; exact HJO.out)
          rw [ints_len] at HJO'
          clear hj hlen hev hcut her hcl hlm HJO hW
          go_enter Tryd.func37, Tryd.ntmps37
          go_wp2_with fail
          refine HJO'.out.mono ?_
          rintro e w1 ⟨A3, c3, rfl, o3, hb⟩
          have HB1 := Lib.hid (HB.out.trans (hb.mono HB.out.size))
          have HCU := Lib.hid (l05Cut_any A A1 A3 n c m d W.length c3 rs vs W w1 (hh.below hb) h24 HR.out (hh2.below hb) (by omega) o3.rd hw24 HVM.out HWM.out)
          unfold DCutPost at HCU
          rw [HCT.out] at HCU
          have x1 := x0.next hb
          have y0 := x1.c0
          have y1 := x1.c1
          have hrd := hh.below hb
          clear o3 hb hh hh2
          go_wp2_with fail
          refine HCU.out.mono ?_
          rintro e w2 ⟨A4, N4, c4, rfl, hr4, hN4, hle4, hb2⟩
          have hr5 : Rd w2 A4 N4 (ints r) := hr4
          have hN5 : N4 = r.length := hN4
          have HB2 := Lib.hid (HB1.out.trans (hb2.mono HB1.out.size))
          have HL3 := Lib.hid (l03Normal_any A A4 n c N4 c4 rs r w2 (hrd.below hb2) h24 HR.out hr5 (by omega) (fun x hx => in_getD HRM.out x (by rw [← hN5]; exact hx)))
          rw [HNR.out, HRS.out] at HL3
          have z0 := (x1.next hb2).c0
          have z1 := (x1.next hb2).c1
          clear y0 y1 hr4 hN4 hr5 hN5
          go_wp2_with fail
          refine HL3.out.mono ?_
          rintro e w3 ⟨A5, c5, rfl, ho5, hb5⟩
          go_wp2_with fail
          go_ret2
          rw [HA.out]
          exact LsPost.of_ans (ans_yes ho5.len (ho5.mono HB2.out.size) (HB2.out.trans (hb5.mono HB2.out.size)))
end Go.Proofs.YtmooanfcedgfnaaDoor
