/-
  RightQuotient: both sides.
-/
import Derived.Test.YtmooanfcedgfnaaDoorDvA
import Derived.Test.YtmooanfcedgfnaaDoorRevA
namespace Go.Proofs.YtmooanfcedgfnaaDoor
open Go Go.RowKit
set_option linter.unusedVariables false
set_option maxRecDepth 100000

theorem cmp_left' (D : Nat → Nat → Bool) (us vs r : List Nat) (h : cutM D us vs = some r) : (cmpM D us vs).2.2 = r := by unfold cmpM; rw [cmp_cut D us [] vs r h]
def rqF (rs us ts : List Nat) : List Nat × Int := match cutM (RDep rs) us.reverse ts.reverse with | none => ([], 4) | some r => (nfR rs r.reverse, 0)
theorem rqF_no (rs us ts : List Nat) (h : cutM (RDep rs) us.reverse ts.reverse = none) : rqF rs us ts = ([], 4) := by unfold rqF; rw [h]
theorem rqF_yes (rs us ts r : List Nat) (h : cutM (RDep rs) us.reverse ts.reverse = some r) : rqF rs us ts = (nfR rs r.reverse, 0) := by unfold rqF; rw [h]
theorem rqF_small (L : Int) (xs us ts : List Int) : (dL rqF L xs us ts).1.length ≤ 24 := dL_small rqF 24 (fun rs us ts _ h => by
  cases hc : cutM (RDep rs) us.reverse ts.reverse with
  | none => rw [rqF_no _ _ _ hc]; exact Nat.zero_le _
  | some r => rw [rqF_yes _ _ _ _ hc]; exact Nat.le_trans (nfR_len rs _) (by rw [List.length_reverse]; exact Nat.le_trans (cut_len _ _ _ _ hc).1 (by rw [List.length_reverse]; exact h))) L xs us ts
theorem backwards_any (A : Option Addr) (n c : Nat) (us : List Nat) (w : World) (h : Rd w A n (ints us)) (hn : n ≤ 24) :
    Calls Tryd.prog 63 #[.slice A n c] w (MakesE 2 w n (ints us.reverse)) := by
  have HC := Lib.hid (clone64_any A n c (ints us) w h hn)
  go_enter Tryd.func63, Tryd.ntmps63
  go_wp2_with fail
  refine HC.out.mono ?_
  rintro e w2 ⟨A3, c3, rfl, ho3, hb3⟩
  have HREV := Lib.hid (rev_any w.heap.size n c3 A3 us w2 ho3 (by omega))
  go_wp2_with fail
  refine HREV.out.mono ?_
  rintro e w3 ⟨rfl, ho4, hg4⟩
  have hb4 : Below w.heap.size w w3 := hb3.grown hg4 hb3.size (fun r hr => (ho3.lt r hr).1)
  go_wp2_with fail
  go_ret
  exact ⟨A3, c3, rfl, ho4, hb4⟩
set_option maxHeartbeats 3200000 in
theorem implRightQuotient (L : Int) (A : Option Addr) (n c : Nat) (xs : List Int) (A1 : Option Addr) (m d : Nat) (us : List Int) (B1 : Option Addr) (q f : Nat) (ts : List Int) (w : World) (h : Rd w A n xs) (hwf : Wf xs) (hL1 : -9223372036854775808 ≤ L) (hL2 : L ≤ 9223372036854775807) (hn : n ≤ maxLen) (h2 : Rd w A1 m us) (hwf2 : Wf us) (hm : m ≤ maxLen) (h3 : Rd w B1 q ts) (hwf3 : Wf ts) (hq : q ≤ maxLen) (hcm : m ≤ d) (hcq : q ≤ f) (hT : Tab w) :
    Calls Tryd.prog 30 #[.agg #[.int .i64 L, .slice A n c], .slice A1 m d, .slice B1 q f] w (LsPost w (dL rqF L xs us ts).1.length (dL rqF L xs us ts).1 (dL rqF L xs us ts).2) := by
  have hn2 : n ≤ 9223372036854775807 := by unfold maxLen at hn; omega
  have hn1 := h.1
  have hm1 := h2.1
  have hq1 := h3.1
  have HB := Lib.hid (below2 w (.cells #[.int .i64 L, .slice A n c] 28) (.cells #[.slice A1 m d, .slice B1 q f] 22))
  have hh := h.below HB.out
  have ht := rdT_box2 w (.cells #[.int .i64 L, .slice A n c] 28) A1 B1 m d q f us ts 22 h2 hm h3 hq
  have hh2 := h2.below HB.out
  have hh3 := h3.below HB.out
  have hT1 := hT.below HB.out
  cases ha : alphB L xs
  · rw [show dL rqF L xs us ts = _ from dL_no rqF L xs us ts ha]
    have HA := Lib.hid ha
    clear ha ht hn1
    go_enter Tryd.func30, Tryd.ntmps30
    go_wp2_with fail
    refine (dependenceWith_no L _ _ _ _ _ _ xs [] _ hh hwf hL1 hL2 hn2 HA.out hT1).mono ?_
    rintro e w1 ⟨rfl, hb⟩
    go_wp2_with fail
    go_ret2
    exact LsPost.of_ans (ans_no 1 (HB.out.trans (hb.mono HB.out.size)))
  · cases hu : (wordB L us && wordB L ts)
    · rw [show dL rqF L xs us ts = _ from dL_bad rqF L xs us ts ha hu]
      obtain ⟨rs, rfl, rfl, h8, hr, hrel, hl, hd, _⟩ := alphB_nats L xs n hn1 ha
      have HU := Lib.hid hu
      clear ha hu
      go_enter Tryd.func30, Tryd.ntmps30
      go_wp2_with fail
      refine (dependenceWith_any _ _ _ _ _ _ rs _ _ hh hwf h8 hr hrel hd ht (by omega) hT1).mono ?_
      rw [okT_pair, HU.out]
      rintro e w1 (⟨hok, _⟩ | ⟨hok, rfl, hb⟩)
      · cases hok
      go_wp2_with fail
      go_ret2
      exact LsPost.of_ans (ans_no 2 (HB.out.trans (hb.mono HB.out.size)))
    · obtain ⟨rs, rfl, rfl, h8, hr, hrel, hl, hd, _⟩ := alphB_nats L xs n hn1 ha
      have hu' := hu
      rw [Bool.and_eq_true] at hu'
      obtain ⟨vs, rfl, hv24, hvn⟩ := wordB_nats n us hu'.1
      obtain ⟨ys, rfl, hy24, hyn⟩ := wordB_nats n ts hu'.2
      rw [show dL rqF (n : Int) (ints rs) (ints vs) (ints ys) = _ from dL_yes rqF (n : Int) rs vs ys ha hu]
      have HU := Lib.hid hu
      have HDEP := Lib.hid ((depB_iff rs n hl hr).1 hd)
      rw [ints_len] at hm1 hq1
      have hm24 : m ≤ 24 := by omega
      have hq24 : q ≤ 24 := by omega
      have HLU := Lib.hid hm1
      have HLQ := Lib.hid hq1
      have HLR := Lib.hid hl
      have HR := Lib.hid hr
      have HVM := Lib.hid hvn
      have HYM := Lib.hid hyn
      have HSY : Hid (∀ a b, RDep rs a b = RDep rs b a) := Lib.hid (rdep_sym rs n hl hr HDEP.out)
      have HRE : Hid (∀ a, a < n → RDep rs a a = true) := Lib.hid fun a ha9 => HDEP.out.1 a (by rw [HLR.out]; exact ha9)
      have HR63 : Hid (∀ i, rs.getD i 0 < 9223372036854775808) := Lib.hid fun i => lt63 (by omega) (hr i)
      clear ha hu hu' hl hm1 hq1
      go_enter Tryd.func30, Tryd.ntmps30
      go_wp2_with fail
      refine (dependenceWith_any _ _ _ _ _ _ rs _ _ hh hwf h8 hr hrel hd ht (by omega) hT1).mono ?_
      rw [okT_pair, HU.out]
      rintro e w1 (⟨hok, A2, c2, rfl, ho, hb⟩ | ⟨hok, _⟩)
      rotate_left
      · cases hok
      have HB1 := Lib.hid (HB.out.trans (hb.mono HB.out.size))
      have hr2 := hh2.below hb
      have hr3 := hh3.below hb
      have hrd := ho.rd
      have hT2 := hT1.below hb
      have h24 : n ≤ 24 := by omega
      clear ho hb hok ht hh hh2 hh3 hT1 hT h h2 h3 hr hvn hyn hd hrel
      have HK1 := Lib.hid (backwards_any A1 m d vs w1 hr2 hm24)
      go_wp2_with fail
      refine HK1.out.mono ?_
      rintro e w2 ⟨A3, c3, rfl, o3, hb2⟩
      have HK2 := Lib.hid (backwards_any B1 q f ys w2 (hr3.below hb2) hq24)
      go_wp2_with fail
      refine HK2.out.mono ?_
      rintro e w3 ⟨A4, c4, rfl, o4, hb3⟩
      have hb13 := hb2.trans (hb3.mono hb2.size)
      have HQU := Lib.hid (quotient_any A2 A3 A4 n c2 m c3 q c4 rs vs.reverse ys.reverse w3 (hrd.below hb13) h24 HR.out HSY.out HRE.out (o3.below hb3).rd (by omega) (fun x hx => HVM.out x (List.mem_reverse.1 hx)) o4.rd (by omega) (own_cap o4) (fun x hx => HYM.out x (List.mem_reverse.1 hx)))
      have HB3 := Lib.hid (HB1.out.trans (hb13.mono HB1.out.size))
      have hrd3 := hrd.below hb13
      have hT3 := hT2.below hb13
      clear hb2 hb3 hb13 o3 o4 hr2 hr3 hrd hT2
      cases hcut : cutM (RDep rs) vs.reverse ys.reverse
      · have HA := Lib.hid (rqF_no rs vs ys hcut)
        have HI : Hid ((cutM (RDep rs) vs.reverse ys.reverse).isSome = false) := Lib.hid (by rw [hcut]; rfl)
        clear hcut
        go_wp2_with fail
        refine HQU.out.mono ?_
        rintro e w4 ⟨A5, c5, rfl, hr4, hle4, hb4⟩
        rw [HI.out]
        go_wp2_with fail
        go_ret2
        rw [HA.out]
        exact LsPost.of_ans (ans_no 4 (HB3.out.trans (hb4.mono HB3.out.size)))
      · rename_i r
        have HA := Lib.hid (rqF_yes rs vs ys r hcut)
        have HI : Hid ((cutM (RDep rs) vs.reverse ys.reverse).isSome = true) := Lib.hid (by rw [hcut]; rfl)
        have HC := Lib.hid (cmp_left' (RDep rs) vs.reverse ys.reverse r hcut)
        have hcl := cut_len _ _ _ _ hcut
        rw [List.length_reverse] at hcl
        obtain ⟨k, hk⟩ : ∃ k, k = r.length := ⟨_, rfl⟩
        have HLK : Hid (r.length = k) := Lib.hid hk.symm
        have HLB : Hid (r.reverse.length = k) := Lib.hid (by rw [List.length_reverse]; exact hk.symm)
        have hk24 : k ≤ 24 := by have := HLQ.out; omega
        have HRK : Hid (∀ p, p < k → r.reverse.getD p 0 < n) := Lib.hid fun p hp => in_getD (vs := r.reverse) (fun x hx => HYM.out x (List.mem_reverse.1 (hcl.2 x (List.mem_reverse.1 hx)))) p (by rw [HLB.out]; exact hp)
        clear hcut hcl
        go_wp2_with fail
        refine HQU.out.mono ?_
        rintro e w4 ⟨A5, c5, rfl, hr4, hle4, hb4⟩
        rw [HC.out] at hr4
        rw [HI.out, HC.out, HLK.out]
        rw [HLK.out] at hr4
        have HB4 := Lib.hid (HB3.out.trans (hb4.mono HB3.out.size))
        have HK3 := Lib.hid (backwards_any A5 k c5 r w4 hr4 hk24)
        clear hk hr4
        go_wp2_with fail
        refine HK3.out.mono ?_
        rintro e w5 ⟨A6, c6, rfl, o6, hb5⟩
        have HB5 := Lib.hid (HB4.out.trans (hb5.mono HB4.out.size))
        have hrd5 := (hrd3.below hb4).below hb5
        have hT5 := (hT3.below hb4).below hb5
        have o6r := o6.rd
        clear hb4 hb5 o6 hrd3 hT3
        have HT1 := Lib.hid (traceOf_any A2 A6 n k c2 c6 rs r.reverse _ hrd5 o6r hk24 h24 HRK.out HR63.out hT5)
        go_wp2_with fail
        refine HT1.out.mono ?_
        rintro e v1 ⟨E1, g1, F1, k1, es1, rfl, hp, hs, h1, h2, -, -, ha1⟩
        have HN1 := Lib.hid (nf_from E1 F1 g1 k1 k n rs r.reverse es1 v1 HLR.out HR.out HDEP.out HLB.out HRK.out hk24 hp hs h1 h2 ((hT5).below ha1))
        clear hp hs h1 h2
        go_wp2_with fail
        refine HN1.out.mono ?_
        rintro e u1 ⟨G1, l1, rfl, ho1, hb1⟩
        go_wp2_with fail
        go_ret2
        rw [HA.out]
        have HZ := HB5.out.trans (ha1.mono HB5.out.size)
        exact LsPost.of_ans (ans_yes ho1.len (ho1.mono HZ.size) (HZ.trans (hb1.mono HZ.size)))
set_option maxHeartbeats 6400000 in
theorem specRightQuotient (L : Int) (A : Option Addr) (n c : Nat) (xs : List Int) (A1 : Option Addr) (m d : Nat) (us : List Int) (B1 : Option Addr) (q f : Nat) (ts : List Int) (w : World) (h : Rd w A n xs) (hwf : Wf xs) (hL1 : -9223372036854775808 ≤ L) (hL2 : L ≤ 9223372036854775807) (hn : n ≤ maxLen) (h2 : Rd w A1 m us) (hwf2 : Wf us) (hm : m ≤ maxLen) (h3 : Rd w B1 q ts) (hwf3 : Wf ts) (hq : q ≤ maxLen) :
    Calls Tryd.prog 29 #[.agg #[.int .i64 L, .slice A n c], .slice A1 m d, .slice B1 q f] w (LsPost w (dL rqF L xs us ts).1.length (dL rqF L xs us ts).1 (dL rqF L xs us ts).2) := by
  have hn2 : n ≤ 9223372036854775807 := by unfold maxLen at hn; omega
  have hm2 : m ≤ 9223372036854775807 := by unfold maxLen at hm; omega
  have hq2 : q ≤ 9223372036854775807 := by unfold maxLen at hq; omega
  have hn1 := h.1
  have hm1 := h2.1
  have hq1 := h3.1
  have HB := Lib.hid (below1 w (.cells #[.int .i64 L, .slice A n c] 28))
  have x0 := box_new 28 w L A n c
  have hh := h.below HB.out
  have hh2 := h2.below HB.out
  have hh3 := h3.below HB.out
  have HCD := Lib.hid (l03Code_any L A A1 B1 n c m d q f xs us ts _ hh hn2 hh2 hm2 hh3 hq2)
  cases ha : alphB L xs
  · rw [show dL rqF L xs us ts = _ from dL_no rqF L xs us ts ha]
    have HD := Lib.hid (wCode2_no L xs us ts ha)
    clear ha hn1
    go_enter Tryd.func29, Tryd.ntmps29
    go_wp2_with fail
    refine HCD.out.mono ?_
    rintro e w1 ⟨rfl, hb⟩
    rw [HD.out]
    go_wp2_with fail
    go_ret2
    exact LsPost.of_ans (ans_no 1 (HB.out.trans (hb.mono HB.out.size)))
  · cases hu : (wordB L us && wordB L ts)
    · rw [show dL rqF L xs us ts = _ from dL_bad rqF L xs us ts ha hu]
      have HD := Lib.hid (wCode2_bad L xs us ts ha hu)
      clear ha hu hn1
      go_enter Tryd.func29, Tryd.ntmps29
      go_wp2_with fail
      refine HCD.out.mono ?_
      rintro e w1 ⟨rfl, hb⟩
      rw [HD.out]
      go_wp2_with fail
      go_ret2
      exact LsPost.of_ans (ans_no 2 (HB.out.trans (hb.mono HB.out.size)))
    · have HD := Lib.hid (wCode2_yes L xs us ts ha hu)
      obtain ⟨rs, rfl, rfl, h8, hr, hrel, hl, hd, _⟩ := alphB_nats L xs n hn1 ha
      have hu' := hu
      rw [Bool.and_eq_true] at hu'
      obtain ⟨vs, rfl, hv24, hvn⟩ := wordB_nats n us hu'.1
      obtain ⟨ys, rfl, hy24, hyn⟩ := wordB_nats n ts hu'.2
      rw [show dL rqF (n : Int) (ints rs) (ints vs) (ints ys) = _ from dL_yes rqF (n : Int) rs vs ys ha hu]
      rw [ints_len] at hm1 hq1
      have HDEP := Lib.hid ((depB_iff rs n hl hr).1 hd)
      have HLU := Lib.hid hm1
      have HLQ := Lib.hid hq1
      have HLR := Lib.hid hl
      have HR := Lib.hid hr
      have HVM := Lib.hid hvn
      have HYM := Lib.hid hyn
      have HSY : Hid (∀ a b, RDep rs a b = RDep rs b a) := Lib.hid (rdep_sym rs n hl hr HDEP.out)
      have HRE : Hid (∀ a, a < n → RDep rs a a = true) := Lib.hid fun a ha9 => HDEP.out.1 a (by rw [HLR.out]; exact ha9)
      have HNR : Hid (∀ ws, nfM (RDep rs) n ws = nfR rs ws) := Lib.hid (fun ws => by unfold nfR; rw [HLR.out])
      have hm24 : m ≤ 24 := by omega
      have hq24 : q ≤ 24 := by omega
      have h24 : n ≤ 24 := by omega
      clear ha hu hu' hl hm1 hq1 hr hvn hyn hd hrel
      go_enter Tryd.func29, Tryd.ntmps29
      go_wp2_with fail
      refine HCD.out.mono ?_
      rintro e w1 ⟨rfl, hb⟩
      rw [HD.out]
      have y0 := (x0.next hb).c0
      have y1 := (x0.next hb).c1
      have x1 := x0.next hb
      have HB1 := Lib.hid (HB.out.trans (hb.mono HB.out.size))
      have hrd := hh.below hb
      have hr2 := hh2.below hb
      have hr3 := hh3.below hb
      clear hh hh2 hh3 h h2 h3 hb x0
      have hdr : Below w1.heap.size w1 w1.drew := (Below.refl _ _).drew
      have HK1 : Hid (∀ ww, Below w1.heap.size w1 ww → Calls Tryd.prog 62 #[.slice A1 m d] ww (MakesE 2 ww m (ints vs.reverse))) := Lib.hid fun ww hw => back_any A1 m d vs ww (hr2.below hw) (by omega)
      have HK2 : Hid (∀ ww, Below w1.heap.size w1 ww → Calls Tryd.prog 62 #[.slice B1 q f] ww (MakesE 2 ww q (ints ys.reverse))) := Lib.hid fun ww hw => back_any B1 q f ys ww (hr3.below hw) (by omega)
      have HCU : Hid (∀ ww A3 c3 A4 c4, Below w1.heap.size w1 ww → Rd ww A3 m (ints vs.reverse) → Rd ww A4 q (ints ys.reverse) → Calls Tryd.prog 58 #[.agg #[.int .i64 (n : Int), .slice A n c], .slice A3 m c3, .slice A4 q c4] ww (DCutPost (RDep rs) vs.reverse ys.reverse ww)) := Lib.hid fun ww A3 c3 A4 c4 hw h3 h4 => l05Cut_any A A3 A4 n c m c3 q c4 rs vs.reverse ys.reverse ww (hrd.below hw) h24 HR.out h3 (by omega) h4 (by omega) (fun x hx => HVM.out x (List.mem_reverse.1 hx)) (fun x hx => HYM.out x (List.mem_reverse.1 hx))
      obtain ⟨V, hV⟩ : ∃ V, V = cutM (RDep rs) vs.reverse ys.reverse := ⟨_, rfl⟩
      unfold DCutPost at HCU
      rw [← hV] at HCU
      have HV := Lib.hid hV
      clear hr2 hr3 hV
      go_upto_region 4 with fail
      go_cut [9, 10] from 18 to 27 (fun rv kv wx => ∃ (A5 : Option Addr) (N5 c5 : Nat), rv = .slice A5 N5 c5 ∧ kv = .bool V.isSome ∧ Rd wx A5 N5 (ints (V.getD [])) ∧ N5 = (V.getD []).length ∧ Below w1.heap.size w1 wx)
      case first =>
        go_region_with (first
          | (go_at_call 62; (with_reducible refine (HK1.out _ hdr).mono ?_); rintro e w2 ⟨A3, c3, rfl, o3, hb2⟩; have hb12 := hdr.trans (hb2.mono hdr.size); have s0 := (x1.next hb12).c0; have s1 := (x1.next hb12).c1)
          | (go_at_call 62; (with_reducible refine (HK2.out _ hb12).mono ?_); rintro e w3 ⟨A4, c4, rfl, o4, hb3⟩; have hb13 := hb12.trans (hb3.mono hb12.size); have p0 := (x1.next hb13).c0; have p1 := (x1.next hb13).c1)
          | (go_at_call 58; refine (HCU.out _ _ _ _ _ hb13 (o3.below hb3).rd o4.rd).mono ?_; rintro e w4 ⟨A5, N5, c5, rfl, hr5, hN5, hle5, hb4⟩; have HN5 := Lib.hid hN5; have hb14 := hb13.trans (hb4.mono hb13.size); clear hN5))
        all_goals (
          go_wp2_with fail
          go_meet
          exact ⟨A5, N5, c5, rfl, rfl, hr5, HN5.out, hb14⟩)
      case rest =>
        obtain ⟨A5, N5, c5, rfl, rfl, hr5, hN5, hb14⟩ := hcut
        clear HK1 HK2 HCU hdr
        have hx4 := x1.next hb14
        have z0 := hx4.c0
        have z1 := hx4.c1
        cases V
        · have HA := Lib.hid (rqF_no rs vs ys HV.out.symm)
          go_wp2_with fail
          go_ret2
          rw [HA.out]
          exact LsPost.of_ans (ans_no 4 (HB1.out.trans (hb14.mono HB1.out.size)))
        · rename_i r
          have HA := Lib.hid (rqF_yes rs vs ys r HV.out.symm)
          have hcl := cut_len _ _ _ _ HV.out.symm
          rw [List.length_reverse] at hcl
          have hr6 : Rd wc A5 N5 (ints r) := hr5
          have hN6 : N5 = r.length := hN5
          have hk24 : N5 ≤ 24 := by have := HLQ.out; omega
          have HRK : Hid (∀ p, p < N5 → r.reverse.getD p 0 < n) := Lib.hid fun p hp => in_getD (vs := r.reverse) (fun x hx => HYM.out x (List.mem_reverse.1 (hcl.2 x (List.mem_reverse.1 hx)))) p (by rw [List.length_reverse]; omega)
          have HBK : Hid (∀ ww, Below wc.heap.size wc ww → Calls Tryd.prog 62 #[.slice A5 N5 c5] ww (MakesE 2 ww N5 (ints r.reverse))) := Lib.hid fun ww hw => back_any A5 N5 c5 r ww (hr6.below hw) (by omega)
          have HNO : Hid (∀ ww A6 c6, Below wc.heap.size wc ww → Rd ww A6 N5 (ints r.reverse) → Calls Tryd.prog 54 #[.agg #[.int .i64 (n : Int), .slice A n c], .slice A6 N5 c6] ww (MakesE 2 ww N5 (ints (nfR rs r.reverse)))) := Lib.hid fun ww A6 c6 hw h6 => by
            rw [← HNR.out]; exact l03Normal_any A A6 n c N5 c6 rs r.reverse ww ((hrd.below hb14).below hw) h24 HR.out h6 hk24 HRK.out
          have hdr4 : Below wc.heap.size wc wc.drew := (Below.refl _ _).drew
          have HB14 := Lib.hid (HB1.out.trans (hb14.mono HB1.out.size))
          clear hr5 hN5 hr6 hN6 hcl hb14 hrd
          go_wp2_with fail
          go_region_with (first
            | (go_at_call 62; refine (HBK.out _ hdr4).mono ?_; rintro e w6 ⟨A6, c6, rfl, o6, hb6⟩; have hb46 := hdr4.trans (hb6.mono hdr4.size); have t0 := (hx4.next hb46).c0; have t1 := (hx4.next hb46).c1)
            | (go_at_call 54; refine (HNO.out _ _ _ hb46 o6.rd).mono ?_; rintro e w7 ⟨A7, c7, rfl, o7, hb7⟩))
          all_goals (
            go_wp2_with fail
            go_ret2
            rw [HA.out]
            have hb47 := hb46.trans (hb7.mono hb46.size)
            exact LsPost.of_ans (ans_yes o7.len (o7.mono (by have := HB14.out.size; have := hb46.size; omega)) (HB14.out.trans (hb47.mono HB14.out.size))))
end Go.Proofs.YtmooanfcedgfnaaDoor
