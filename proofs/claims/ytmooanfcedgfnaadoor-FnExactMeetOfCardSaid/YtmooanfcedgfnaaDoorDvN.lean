/-
  MeetOf: both sides.
-/
import Derived.Test.YtmooanfcedgfnaaDoorDvB
namespace Go.Proofs.YtmooanfcedgfnaaDoor
open Go Go.RowKit
set_option linter.unusedVariables false
set_option maxRecDepth 100000

def mtF (rs us ts : List Nat) : List Nat × Int := (nfR rs (cmpM (RDep rs) us ts).1, 0)
theorem mtF_small (L : Int) (xs us ts : List Int) : (dL mtF L xs us ts).1.length ≤ 24 := dL_small mtF 24 (fun rs us ts h _ => Nat.le_trans (nfR_len rs _) (Nat.le_trans (cmp_len _ _ _).1 h)) L xs us ts
set_option maxHeartbeats 3200000 in
theorem implMeetOf (L : Int) (A : Option Addr) (n c : Nat) (xs : List Int) (A1 : Option Addr) (m d : Nat) (us : List Int) (B1 : Option Addr) (q f : Nat) (ts : List Int) (w : World) (h : Rd w A n xs) (hwf : Wf xs) (hL1 : -9223372036854775808 ≤ L) (hL2 : L ≤ 9223372036854775807) (hn : n ≤ maxLen) (h2 : Rd w A1 m us) (hwf2 : Wf us) (hm : m ≤ maxLen) (h3 : Rd w B1 q ts) (hwf3 : Wf ts) (hq : q ≤ maxLen) (hcm : m ≤ d) (hcq : q ≤ f) (hT : Tab w) :
    Calls Tryd.prog 34 #[.agg #[.int .i64 L, .slice A n c], .slice A1 m d, .slice B1 q f] w (LsPost w (dL mtF L xs us ts).1.length (dL mtF L xs us ts).1 (dL mtF L xs us ts).2) := by
  have hn2 : n ≤ 9223372036854775807 := by unfold maxLen at hn; omega
  have hn1 := h.1
  have hm1 := h2.1
  have hq1 := h3.1
  have HB := Lib.hid (below2 w (.cells #[.int .i64 L, .slice A n c] 28) (.cells #[.slice A1 m d, .slice B1 q f] 22))
  have hh := h.below HB.out
  have ht := rdT_box2 w (.cells #[.int .i64 L, .slice A n c] 28) A1 B1 m d q f us ts 22 h2 hm h3 hq
  have hh2 := h2.below HB.out
  have hh3 := h3.below HB.out
  have hT1 := hT.below HB.out
  cases ha : alphB L xs
  · rw [show dL mtF L xs us ts = _ from dL_no mtF L xs us ts ha]
    have HA := Lib.hid ha
    clear ha ht hn1
    go_enter Tryd.func34, Tryd.ntmps34
    go_wp2_with fail
    refine (dependenceWith_no L _ _ _ _ _ _ xs [] _ hh hwf hL1 hL2 hn2 HA.out hT1).mono ?_
    rintro e w1 ⟨rfl, hb⟩
    go_wp2_with fail
    go_ret2
    exact LsPost.of_ans (ans_no 1 (HB.out.trans (hb.mono HB.out.size)))
  · cases hu : (wordB L us && wordB L ts)
    · rw [show dL mtF L xs us ts = _ from dL_bad mtF L xs us ts ha hu]
      obtain ⟨rs, rfl, rfl, h8, hr, hrel, hl, hd, _⟩ := alphB_nats L xs n hn1 ha
      have HU := Lib.hid hu
      clear ha hu
      go_enter Tryd.func34, Tryd.ntmps34
      go_wp2_with fail
      refine (dependenceWith_any _ _ _ _ _ _ rs _ _ hh hwf h8 hr hrel hd ht (by omega) hT1).mono ?_
      rw [okT_pair, HU.out]
      rintro e w1 (⟨hok, _⟩ | ⟨hok, rfl, hb⟩)
      · cases hok
      go_wp2_with fail
      go_ret2
      exact LsPost.of_ans (ans_no 2 (HB.out.trans (hb.mono HB.out.size)))
    · obtain ⟨rs, rfl, rfl, h8, hr, hrel, hl, hd, _⟩ := alphB_nats L xs n hn1 ha
      have hu' := hu
      rw [Bool.and_eq_true] at hu'
      obtain ⟨vs, rfl, hv24, hvn⟩ := wordB_nats n us hu'.1
      obtain ⟨ys, rfl, hy24, hyn⟩ := wordB_nats n ts hu'.2
      rw [show dL mtF (n : Int) (ints rs) (ints vs) (ints ys) = _ from dL_yes mtF (n : Int) rs vs ys ha hu]
      have HU := Lib.hid hu
      have HDEP := Lib.hid ((depB_iff rs n hl hr).1 hd)
      rw [ints_len] at hm1 hq1
      have hm24 : m ≤ 24 := by omega
      have hq24 : q ≤ 24 := by omega
      have HLU := Lib.hid hm1
      have HLQ := Lib.hid hq1
      have HLR := Lib.hid hl
      have HR := Lib.hid hr
      have HVM := Lib.hid hvn
      have HYM := Lib.hid hyn
      have HSY : Hid (∀ a b, RDep rs a b = RDep rs b a) := Lib.hid (rdep_sym rs n hl hr HDEP.out)
      have HRE : Hid (∀ a, a < n → RDep rs a a = true) := Lib.hid fun a ha9 => HDEP.out.1 a (by rw [HLR.out]; exact ha9)
      have HR63 : Hid (∀ i, rs.getD i 0 < 9223372036854775808) := Lib.hid fun i => lt63 (by omega) (hr i)
      clear ha hu hu' hl hm1 hq1
      go_enter Tryd.func34, Tryd.ntmps34
      go_wp2_with fail
      refine (dependenceWith_any _ _ _ _ _ _ rs _ _ hh hwf h8 hr hrel hd ht (by omega) hT1).mono ?_
      rw [okT_pair, HU.out]
      rintro e w1 (⟨hok, A2, c2, rfl, ho, hb⟩ | ⟨hok, _⟩)
      rotate_left
      · cases hok
      have HB1 := Lib.hid (HB.out.trans (hb.mono HB.out.size))
      have hr2 := hh2.below hb
      have hr3 := hh3.below hb
      have hrd := ho.rd
      have hT2 := hT1.below hb
      have h24 : n ≤ 24 := by omega
      clear ho hb hok ht hh hh2 hh3 hT1 hT h h2 h3 hr hvn hyn hd hrel
      have HQU := Lib.hid (cmpare_any A2 A1 B1 n c2 m d q f rs vs ys w1 hrd h24 HR.out HSY.out HRE.out hr2 (by omega) HVM.out hr3 (by omega) hcq HYM.out)
      unfold CmpPost at HQU
      have hcl := cmp_len (RDep rs) vs ys
      have HA : Hid (mtF rs vs ys = (nfR rs (cmpM (RDep rs) vs ys).1, 0)) := Lib.hid rfl
      obtain ⟨C, hC⟩ : ∃ C, C = cmpM (RDep rs) vs ys := ⟨_, rfl⟩
      rw [← hC] at HQU hcl HA
      obtain ⟨p, pf, ps⟩ := C
      have HQ2 : Hid (Calls Tryd.prog 67 #[.slice A2 n c2, .slice A1 m d, .slice B1 q f] w1 fun e w' => ∃ A0 c0 A1 c1 A2 c2, e = .returned (.agg #[.slice A0 p.length c0, .slice A1 pf.length c1, .slice A2 ps.length c2]) ∧ Rd w' A0 p.length (ints p) ∧ Rd w' A1 pf.length (ints pf) ∧ Rd w' A2 ps.length (ints ps) ∧ ps.length ≤ c2 ∧ Below w1.heap.size w1 w') := HQU
      have HA2 : Hid (mtF rs vs ys = (nfR rs p, 0)) := HA
      have hpl : p.length ≤ vs.length := hcl.1
      have hpm : ∀ x, x ∈ p → x ∈ vs := hcl.2.2.1
      obtain ⟨k, hk⟩ : ∃ k, k = p.length := ⟨_, rfl⟩
      have HLK : Hid (p.length = k) := Lib.hid hk.symm
      rw [← hk] at HQ2
      have hk24 : k ≤ 24 := by have := HLU.out; omega
      have HRK : Hid (∀ x, x < k → p.getD x 0 < n) := Lib.hid fun x hx => in_getD (fun z hz => HVM.out z (hpm z hz)) x (by rw [HLK.out]; exact hx)
      obtain ⟨lf, hlf⟩ : ∃ lf, lf = pf.length := ⟨_, rfl⟩
      obtain ⟨ls, hls⟩ : ∃ ls, ls = ps.length := ⟨_, rfl⟩
      rw [← hlf, ← hls] at HQ2
      clear hC hcl HQU HA hpl hpm hk hlf hls
      go_wp2_with fail
      refine HQ2.out.mono ?_
      rintro e w2 ⟨A3, c3, A4, c4, A5, c5, rfl, hr4, -, -, -, hb2⟩
      have hfd : ∀ ww : World, (Instr.field 66 (.agg #[.slice A3 k c3, .slice A4 lf c4, .slice A5 ls c5]) 0).run Tryd.prog ww = .ok (.slice A3 k c3) ww := fun _ => by kernel_rfl
      have HB2 := Lib.hid (HB1.out.trans (hb2.mono HB1.out.size))
      have hrd3 := hrd.below hb2
      have hT3 := hT2.below hb2
      clear hb2 hrd hT2 hr2 hr3
      have HT1 := Lib.hid (traceOf_any A2 A3 n k c2 c3 rs p _ hrd3 hr4 hk24 h24 HRK.out HR63.out hT3)
      go_wp2_with fail
      refine HT1.out.mono ?_
      rintro e v1 ⟨E1, g1, F1, k1, es1, rfl, hp, hs, h1, h2, -, -, ha1⟩
      have HN1 := Lib.hid (nf_from E1 F1 g1 k1 k n rs p es1 v1 HLR.out HR.out HDEP.out HLK.out HRK.out hk24 hp hs h1 h2 ((hT3).below ha1))
      clear hp hs h1 h2
      go_wp2_with fail
      refine HN1.out.mono ?_
      rintro e u1 ⟨G1, l1, rfl, ho1, hb1⟩
      go_wp2_with fail
      go_ret2
      rw [HA2.out]
      have HZ := HB2.out.trans (ha1.mono HB2.out.size)
      exact LsPost.of_ans (ans_yes ho1.len (ho1.mono HZ.size) (HZ.trans (hb1.mono HZ.size)))
set_option maxHeartbeats 1600000 in
theorem specMeetOf (L : Int) (A : Option Addr) (n c : Nat) (xs : List Int) (A1 : Option Addr) (m d : Nat) (us : List Int) (B1 : Option Addr) (q f : Nat) (ts : List Int) (w : World) (h : Rd w A n xs) (hwf : Wf xs) (hL1 : -9223372036854775808 ≤ L) (hL2 : L ≤ 9223372036854775807) (hn : n ≤ maxLen) (h2 : Rd w A1 m us) (hwf2 : Wf us) (hm : m ≤ maxLen) (h3 : Rd w B1 q ts) (hwf3 : Wf ts) (hq : q ≤ maxLen) :
    Calls Tryd.prog 33 #[.agg #[.int .i64 L, .slice A n c], .slice A1 m d, .slice B1 q f] w (LsPost w (dL mtF L xs us ts).1.length (dL mtF L xs us ts).1 (dL mtF L xs us ts).2) := by
  have hn2 : n ≤ 9223372036854775807 := by unfold maxLen at hn; omega
  have hm2 : m ≤ 9223372036854775807 := by unfold maxLen at hm; omega
  have hq2 : q ≤ 9223372036854775807 := by unfold maxLen at hq; omega
  have hn1 := h.1
  have hm1 := h2.1
  have hq1 := h3.1
  have HB := Lib.hid (below1 w (.cells #[.int .i64 L, .slice A n c] 28))
  have x0 := box_new 28 w L A n c
  have hh := h.below HB.out
  have hh2 := h2.below HB.out
  have hh3 := h3.below HB.out
  have HCD := Lib.hid (l03Code_any L A A1 B1 n c m d q f xs us ts _ hh hn2 hh2 hm2 hh3 hq2)
  cases ha : alphB L xs
  · rw [show dL mtF L xs us ts = _ from dL_no mtF L xs us ts ha]
    have HD := Lib.hid (wCode2_no L xs us ts ha)
    clear ha hn1
    go_enter Tryd.func33, Tryd.ntmps33
    go_wp2_with fail
    refine HCD.out.mono ?_
    rintro e w1 ⟨rfl, hb⟩
    rw [HD.out]
    go_wp2_with fail
    go_ret2
    exact LsPost.of_ans (ans_no 1 (HB.out.trans (hb.mono HB.out.size)))
  · cases hu : (wordB L us && wordB L ts)
    · rw [show dL mtF L xs us ts = _ from dL_bad mtF L xs us ts ha hu]
      have HD := Lib.hid (wCode2_bad L xs us ts ha hu)
      clear ha hu hn1
      go_enter Tryd.func33, Tryd.ntmps33
      go_wp2_with fail
      refine HCD.out.mono ?_
      rintro e w1 ⟨rfl, hb⟩
      rw [HD.out]
      go_wp2_with fail
      go_ret2
      exact LsPost.of_ans (ans_no 2 (HB.out.trans (hb.mono HB.out.size)))
    · have HD := Lib.hid (wCode2_yes L xs us ts ha hu)
      obtain ⟨rs, rfl, rfl, h8, hr, hrel, hl, hd, _⟩ := alphB_nats L xs n hn1 ha
      have hu' := hu
      rw [Bool.and_eq_true] at hu'
      obtain ⟨vs, rfl, hv24, hvn⟩ := wordB_nats n us hu'.1
      obtain ⟨ys, rfl, hy24, hyn⟩ := wordB_nats n ts hu'.2
      rw [show dL mtF (n : Int) (ints rs) (ints vs) (ints ys) = _ from dL_yes mtF (n : Int) rs vs ys ha hu]
      rw [ints_len] at hm1 hq1
      have HDEP := Lib.hid ((depB_iff rs n hl hr).1 hd)
      have HLU := Lib.hid hm1
      have HLQ := Lib.hid hq1
      have HLR := Lib.hid hl
      have HR := Lib.hid hr
      have HVM := Lib.hid hvn
      have HYM := Lib.hid hyn
      have HSY : Hid (∀ a b, RDep rs a b = RDep rs b a) := Lib.hid (rdep_sym rs n hl hr HDEP.out)
      have HRE : Hid (∀ a, a < n → RDep rs a a = true) := Lib.hid fun a ha9 => HDEP.out.1 a (by rw [HLR.out]; exact ha9)
      have HNR : Hid (∀ ws, nfM (RDep rs) n ws = nfR rs ws) := Lib.hid (fun ws => by unfold nfR; rw [HLR.out])
      have hm24 : m ≤ 24 := by omega
      have hq24 : q ≤ 24 := by omega
      have h24 : n ≤ 24 := by omega
      clear ha hu hu' hl hm1 hq1 hr hvn hyn hd hrel
      go_enter Tryd.func33, Tryd.ntmps33
      go_wp2_with fail
      refine HCD.out.mono ?_
      rintro e w1 ⟨rfl, hb⟩
      rw [HD.out]
      have y0 := (x0.next hb).c0
      have y1 := (x0.next hb).c1
      have x1 := x0.next hb
      have HB1 := Lib.hid (HB.out.trans (hb.mono HB.out.size))
      have hrd := hh.below hb
      have hr2 := hh2.below hb
      have hr3 := hh3.below hb
      clear hh hh2 hh3 h h2 h3 hb x0
      have hdr : Below w1.heap.size w1 w1.drew := (Below.refl _ _).drew
      have HME := Lib.hid (l05Meet_any A A1 B1 n c m d q f rs vs ys w1.drew (hrd.below hdr) h24 HR.out HSY.out (hr2.below hdr) hm24 (hr3.below hdr) hq24 HVM.out HYM.out)
      have HNO : Hid (∀ ww A3 N3 c3 p, Below w1.heap.size w1 ww → N3 ≤ m → p.length = N3 → (∀ x, x ∈ p → x < n) → Rd ww A3 N3 (ints p) → Calls Tryd.prog 54 #[.agg #[.int .i64 (n : Int), .slice A n c], .slice A3 N3 c3] ww (MakesE 2 ww N3 (ints (nfR rs p)))) := Lib.hid fun ww A3 N3 c3 p hw hN hl hp h3 => by
        rw [← HNR.out]; exact l03Normal_any A A3 n c N3 c3 rs p ww (hrd.below hw) h24 HR.out h3 (by omega) (fun x hx => in_getD hp x (by rw [hl]; exact hx))
      have HMN : Hid (∀ p a b, Meets (RDep rs) vs ys p a b → (∀ x, x ∈ p → x < n) → mtF rs vs ys = (nfR rs p, 0)) := Lib.hid fun p a b hm hp => by
        unfold mtF; rw [(meet_nf rs n HLR.out HSY.out HRE.out vs ys p a b HVM.out HYM.out hm hp).1]
      clear hr2 hr3
      go_wp2_with fail
      go_region_with (first
        | (go_at_call 66; refine HME.out.mono ?_; rintro e w2 ⟨p, pa, pb, A3, N3, c3, rfl, hpl, hN3, o3, hmt, hp, -, -, hb2⟩; have hb12 := hdr.trans (hb2.mono hdr.size); have HMT := Lib.hid hmt; have HPN := Lib.hid hp; have HPL := Lib.hid hpl; have s0 := (x1.next hb12).c0; have s1 := (x1.next hb12).c1; clear hmt hp hpl)
        | (go_at_call 54; refine (HNO.out _ _ _ _ _ hb12 hN3 HPL.out HPN.out o3.rd).mono ?_; rintro e w3 ⟨A4, c4, rfl, o4, hb3⟩))
      all_goals (
        go_wp2_with fail
        go_ret2
        rw [HMN.out p pa pb HMT.out HPN.out]
        have hb13 := hb12.trans (hb3.mono hb12.size)
        exact LsPost.of_ans (ans_yes o4.len (o4.mono (by have := HB1.out.size; have := hb12.size; omega)) (HB1.out.trans (hb13.mono HB1.out.size))))
end Go.Proofs.YtmooanfcedgfnaaDoor
