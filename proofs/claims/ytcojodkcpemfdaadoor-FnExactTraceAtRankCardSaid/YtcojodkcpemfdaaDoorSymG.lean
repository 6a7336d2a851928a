/-
  slices.symMergeCmpFunc at []int64: the general case.
-/
import Derived.Test.YtcojodkcpemfdaaDoorSymM
namespace Go.Proofs.YtcojodkcpemfdaaDoor
open Go.RowKit
set_option linter.unusedVariables false
set_option linter.unusedSimpArgs false
set_option maxRecDepth 100000

theorem sym_fin {key : Nat → Nat} {ds e1 e2 e3 : List Nat} {a m b mid S E : Nat} (he : e1 = rot ds S m E) (hp1 : e1.Perm ds) (hs1 : Same ds e1 S E) (hp2 : e2.Perm e1) (hs2 : Same e1 e2 a mid) (hp3 : e3.Perm e2) (hs3 : Same e2 e3 mid b) (hE : E = mid + m - S) (hcp : CutPost key ds a m b mid S) (hb : b ≤ ds.length) (k1 : Srt key e2 a mid) (k2 : Srt key e3 mid b) (hmb : a < m ∧ m < b) : e3.Perm ds ∧ Same ds e3 a b ∧ Srt key e3 a b := by
  have q1 := hcp.le1
  have q2 := hcp.le2
  have q3 := hcp.le3
  have q5 := hcp.le5
  have q6 := hcp.le6
  have w1 := hs1.wide q1 (by omega : E ≤ b)
  have w2 := hs2.wide (Nat.le_refl a) (by omega : mid ≤ b)
  have w3 := hs3.wide (by omega : a ≤ mid) (Nat.le_refl b)
  refine ⟨(hp3.trans hp2).trans hp1, (w1.trans w2).trans w3, ?_⟩
  refine cut_end (d1 := e1) ?_ hp2 hs2 hp3 hs3 (by omega) (by omega) (by rw [← hs1.1]; exact hb) k1 k2
  rw [he, hE]
  exact hcp.over
set_option maxHeartbeats 25600000 in
theorem sym_genL (B g n c a m b N : Nat) (ds : List Nat) (key : Nat → Nat) (cf : Nat → Nat → Int) (f : FuncId) (lb : Array Value) (w0 w : World) (h : Own 2 w B (some ⟨g, 0, none⟩) n c (ints ds)) (hw : w0.grownBy w (some g)) (hn : n ≤ 1048576) (hb : b ≤ n) (hab : a + 1 < m) (hmb : m + 1 < b)
    (eg : ∀ args w, (callFunc f args).run Tryd.prog w = .ok (.enter f args) w) (hcmp : CmpOk w0 g N key cf f lb) (hds : ∀ x, x ∈ ds → x < N) (hst : St key ds) (hA : Srt key ds a m) (hB : Srt key ds m b) (hbr : (a + b) / 2 < m)
    (ih : ∀ (a' m' b' : Nat) (es : List Nat) (w' : World), b' - a' < b - a → a ≤ a' → b' ≤ b → a' < m' → m' < b' → Own 2 w' B (some ⟨g, 0, none⟩) n c (ints es) → w0.grownBy w' (some g) → (∀ x, x ∈ es → x < N) → St key es → Srt key es a' m' → Srt key es m' b' → Calls Tryd.prog 219 #[.slice (some ⟨g, 0, none⟩) n c, .int .i64 (a' : Int), .int .i64 (m' : Int), .int .i64 (b' : Int), .func (.func f) #[] lb] w' (SymPost key w' B g n c a' b' es)) :
    Calls Tryd.prog 219 #[.slice (some ⟨g, 0, none⟩) n c, .int .i64 (a : Int), .int .i64 (m : Int), .int .i64 (b : Int), .func (.func f) #[] lb] w (SymPost key w B g n c a b ds) := by
  have hlen : ds.length = n := by have := h.len; rw [ints_len] at this; exact this
  have HL := Lib.hid hlen
  have HC := Lib.hid hcmp
  have HD := Lib.hid hds
  have HST := Lib.hid hst
  have HA := Lib.hid hA
  have HBB := Lib.hid hB
  have HIH := Lib.hid ih
  have HB : Hid (b ≤ ds.length) := Lib.hid (by omega)
  have HMB : Hid (a < m ∧ m < b) := Lib.hid ⟨by omega, by omega⟩
  obtain ⟨d1, hd1⟩ : ∃ d1, d1 = m - a := ⟨_, rfl⟩
  have hx1 : (m : Int) - (a : Int) = (d1 : Int) := by omega
  have hx2 : ((d1 : Int) == 1) = false := by simp; omega
  obtain ⟨d2, hd2⟩ : ∃ d2, d2 = b - m := ⟨_, rfl⟩
  have hx3 : (b : Int) - (m : Int) = (d2 : Int) := by omega
  have hx4 : ((d2 : Int) == 1) = false := by simp; omega
  obtain ⟨mid, hmid⟩ : ∃ mid, mid = (a + b) / 2 := ⟨_, rfl⟩
  rw [← hmid] at hbr
  have hx5 : ((a : Int) + (b : Int)) / 2 = (mid : Int) := by omega
  obtain ⟨nn, hnn⟩ : ∃ nn, nn = mid + m := ⟨_, rfl⟩
  have hx6 : (mid : Int) + (m : Int) = (nn : Int) := by omega
  obtain ⟨s0, hs0⟩ : ∃ s0, s0 = nn - b := ⟨_, rfl⟩
  have hcut : CutOk a m b mid s0 mid := ⟨by omega, by omega, by omega, by omega, by omega⟩
  obtain ⟨c1, c2, c3, c4, c5, c6, c7⟩ := hcut.le
  have HCUT := Lib.hid hcut
  have hx7 : (nn : Int) - (b : Int) = (s0 : Int) := by omega
  obtain ⟨pp, hpp⟩ : ∃ pp, pp = nn - 1 := ⟨_, rfl⟩
  have hx8 : (nn : Int) - 1 = (pp : Int) := by omega
  have HPP : Hid (pp = mid + m - 1) := Lib.hid (by omega)
  have HNN : Hid (nn = mid + m) := Lib.hid hnn
  have hppn : pp + 1 = nn := by omega
  have hnnb : nn ≤ 2 * n := by omega
  have HS0 := Lib.hid hs0

  have mixed : Tryd.prog.follows .mixedOrders = true := by kernel_rfl
  clear hlen hcmp hds hst hA hB ih hcut hd1 hd2 hmid hnn hpp hs0
  go_enter Tryd.func219, Tryd.ntmps219
  go_wp2_with fail
  go_loopw [20, 21] (fun p q wr => ∃ (i j : Nat), s0 ≤ i ∧ i ≤ j ∧ j ≤ mid ∧ p = .int .i64 i ∧ q = .int .i64 j ∧ Own 2 wr B (some ⟨g, 0, none⟩) n c (ints ds) ∧ w.grownBy wr (some g) ∧ (∀ t, s0 ≤ t → t < i → ¬ key (ds.getD (mid + m - 1 - t) 0) < key (ds.getD t 0)) ∧ (∀ t, j ≤ t → t < mid → key (ds.getD (mid + m - 1 - t) 0) < key (ds.getD t 0))) (fun p q _ => (intOf q).toNat - (intOf p).toNat)
  case atStart => exact ⟨s0, mid, Nat.le_refl _, by omega, Nat.le_refl _, rfl, rfl, h, World.grownBy.refl _ _, fun t h1 h2 => by omega, fun t h1 h2 => by omega⟩
  case round =>
    obtain ⟨i, j, hi, hij, hj, rfl, rfl, ho, hg, hlo, hhi⟩ := hrel
    have HLO := Lib.hid hlo
    have HHI := Lib.hid hhi
    clear hlo hhi h
    by_cases hlt : i < j
    · obtain ⟨mm, hmm⟩ : ∃ mm, mm = (i + j) / 2 := ⟨_, rfl⟩
      have hdiv : ((i : Int) + (j : Int)) / 2 = (mm : Int) := by omega
      have hm1 : i ≤ mm := by omega
      have hm2 : mm < j := by omega
      obtain ⟨t1, t2, t3, t4⟩ := HCUT.out.at_ (t := mm) (by omega) (by omega)
      obtain ⟨q, hq⟩ : ∃ q, q = mid + m - 1 - mm := ⟨_, rfl⟩
      rw [← hq] at t3 t4
      have hpq : (pp : Int) - (mm : Int) = (q : Int) := by have := HPP.out; omega
      obtain ⟨g1, e1, _, hcm, _, _⟩ := own_stored ho (k := mm) (by omega)
      cases e1
      obtain ⟨g2, e2, _, hcq, _, _⟩ := own_stored ho (k := q) (by omega)
      cases e2
      have hxq : ds.getD q 0 < N := HD.out _ (getD_mem' ds q (by rw [HL.out]; omega))
      have hxm : ds.getD mm 0 < N := HD.out _ (getD_mem' ds mm (by rw [HL.out]; omega))
      have hc := fun k => HC.out.2 (ds.getD q 0) (ds.getD mm 0) (wr.drewN k) hxq hxm (grown_drewN' (hw.trans hg) k)
      have hz := HC.out.1 (ds.getD q 0) (ds.getD mm 0)
      rw [hq] at hz
      have HZ0 := Lib.hid hz
      obtain ⟨Z, hZ⟩ : ∃ Z, Z = cf (ds.getD q 0) (ds.getD mm 0) := ⟨_, rfl⟩
      have HZ : Hid (Z < 0 ↔ key (ds.getD (mid + m - 1 - mm) 0) < key (ds.getD mm 0)) := Lib.hid (by rw [hZ, hq]; exact hz)
      rw [← hZ] at hc
      obtain ⟨X, hX⟩ : ∃ X, X = ds.getD q 0 := ⟨_, rfl⟩
      obtain ⟨Y, hY⟩ : ∃ Y, Y = ds.getD mm 0 := ⟨_, rfl⟩
      rw [← hX] at hcq hc
      rw [← hY] at hcm hc
      have hqn : q < n := by omega
      have hmn : mm < n := by omega
      have hwq : IntKind.i64.wrap ((pp : Int) - (mm : Int)) = (q : Int) := by rw [hpq, IntKind.wrap_i64]; omega
      have hz1 : (0 : Int) ≤ (q : Int) := Int.natCast_nonneg _
      have hz2 : (q : Int) < (n : Int) := Int.ofNat_lt.2 hqn
      have hz3 : ((q : Int)).toNat = q := by simp
      clear hmm hxq hxm hX hY hZ hz hq HZ0 hpq
      by_cases hzz : Z < 0
      · have hd : decide (Z < 0) = true := decide_eq_true hzz
        go_wp2_with fail
        go_quiet_o (first | (go_at_fn f; refine Calls.quiet_of (hc _)))
        clear hdiv hc hcm hcq hd hwq hz1 hz2 hz3
        go_wp2_with fail
        go_roundw
        case rel => exact ⟨i, mm, hi, by omega, by omega, rfl, rfl, ho, grown_drewN' hg _, HLO.out, fun t h1 h2 => cut_next HCUT.out HA.out HBB.out (by omega) h1 h2 (HZ.out.1 hzz)⟩
        case measure => simp [intOf]; omega
      · have hd : decide (Z < 0) = false := decide_eq_false hzz
        go_wp2_with fail
        go_quiet_o (first | (go_at_fn f; refine Calls.quiet_of (hc _)))
        clear hdiv hc hcm hcq hd hwq hz1 hz2 hz3
        go_wp2_with fail
        go_roundw
        case rel => exact ⟨mm + 1, j, by omega, by omega, hj, by go_num, rfl, ho, grown_drewN' hg _, fun t h1 h2 => cut_prev (c := mm) HCUT.out HA.out HBB.out h1 (by omega) (by omega) (fun h => by have := HZ.out.2 h; omega), HHI.out⟩
        case measure => simp [intOf]; omega
    · obtain ⟨S, hS⟩ : ∃ S, S = i := ⟨_, rfl⟩
      obtain rfl : i = j := by omega
      subst hS
      have hcp := cut_post HCUT.out HA.out HBB.out HB.out hi hj HLO.out HHI.out
      obtain ⟨l1, l2, l3, l4, l5, l6⟩ : a ≤ S ∧ S ≤ m ∧ S ≤ mid ∧ m ≤ mid + m - S ∧ mid + m - S ≤ b ∧ mid ≤ mid + m - S := ⟨hcp.le1, hcp.le2, hcp.le3, hcp.le4, hcp.le5, hcp.le6⟩
      obtain ⟨E, hE⟩ : ∃ E, E = mid + m - S := ⟨_, rfl⟩
      have hx9 : (nn : Int) - (S : Int) = (E : Int) := by have := HNN.out; omega
      have HE : Hid (E = mid + m - S) := Lib.hid hE
      have hse1 : S + E ≤ mid + m := by omega
      have hse2 : mid + m ≤ S + E := by omega
      rw [← hE] at l4 l5 l6
      obtain ⟨e1, he1⟩ : ∃ e1, e1 = rot ds S m E := ⟨_, rfl⟩
      have hEn : E ≤ ds.length := by rw [HL.out]; omega
      have hpe1 : e1.Perm ds := by rw [he1]; exact rot_perm _ _ _ _ hEn l2 l4
      have HE1 := Lib.hid he1
      have HP1 := Lib.hid hpe1
      have HSM1 : Hid (Same ds e1 S E) := Lib.hid (by rw [he1]; exact rot_same _ _ _ _ hEn l2 l4)
      have HD1 : Hid (∀ x, x ∈ e1 → x < N) := Lib.hid (fun x hx => HD.out x (hpe1.mem_iff.1 hx))
      have HST1 : Hid (St key e1) := Lib.hid (by rw [he1]; exact rot_st HST.out (by rw [hE]; exact hcp.cross) hEn l2 l4)
      have H1 : Hid (Srt key e1 a S) := Lib.hid (by rw [he1, hE]; exact hcp.s1)
      have H2 : Hid (Srt key e1 S mid) := Lib.hid (by rw [he1, hE]; exact hcp.s2)
      have H3 : Hid (Srt key e1 mid E) := Lib.hid (by rw [he1, hE]; exact hcp.s3)
      have H4 : Hid (Srt key e1 E b) := Lib.hid (by rw [he1, hE]; exact hcp.s4)
      have HCP := Lib.hid hcp
      have HROT := Lib.hid (fun (h1 : S < m) (h2 : m < E) => rotate_any B g n c S m E ds (.func (.func f) #[] lb) wr ho h1 h2 (by omega) hn)
      clear he1 hE hcp hpe1 hEn hi hij hj hlt
      by_cases hal : S < m
      · have hal2 : mid < E := by omega
        by_cases hbe : m < E
        · have hbe2 : S < mid := by omega
          by_cases hga : a < S
          · by_cases hde : E < b
            · go_wp2_with fail
              refine (HROT.out hal hbe).mono ?_
              rintro e w2 ⟨rfl, ho1, hg1'⟩
              have hg1 := hg.trans hg1'
              rw [← HE1.out] at ho1
              clear ho hg hg1'
              go_wp2_with fail
              refine (HIH.out a S mid e1 w2 (by omega) (by omega) (by omega) hga hbe2 ho1 (hw.trans hg1) HD1.out HST1.out H1.out H2.out).mono ?_
              rintro e w3 ⟨rfl, e2, ho2, hg2', hp2, hst2, hsm2, hsr2⟩
              have hg2 := hg1.trans hg2'
              clear ho1 hg1 hg2'
              have HD2 := Lib.hid (fun x hx => HD1.out x (hp2.mem_iff.1 hx))
              have HSR2 := Lib.hid hsr2
              have HP2 := Lib.hid hp2
              have HST2 := Lib.hid hst2
              have HSM2 := Lib.hid hsm2
              have H3a := Lib.hid (H3.out.same hsm2 (.inr (Nat.le_refl _)))
              have H4a := Lib.hid (H4.out.same hsm2 (.inr (by omega)))
              clear hsr2 hp2 hst2 hsm2
              go_wp2_with fail
              refine (HIH.out mid E b e2 w3 (by omega) (by omega) (by omega) hal2 hde ho2 (hw.trans hg2) HD2.out HST2.out H3a.out H4a.out).mono ?_
              rintro e w4 ⟨rfl, e3, ho3, hg3', hp3, hst3, hsm3, hsr3⟩
              have hg3 := hg2.trans hg3'
              have HFIN := Lib.hid (sym_fin HE1.out HP1.out HSM1.out HP2.out HSM2.out hp3 hsm3 HE.out HCP.out HB.out HSR2.out hsr3 HMB.out)
              clear hp3 hsm3 hsr3 hg3'
              go_wp2_with fail
              exact bodyPost_end (results_none Tryd.results219 _ _ _) rfl ⟨rfl, e3, ho3, hg3, HFIN.out.1, hst3, HFIN.out.2.1, HFIN.out.2.2⟩
            · go_wp2_with fail
              refine (HROT.out hal hbe).mono ?_
              rintro e w2 ⟨rfl, ho1, hg1'⟩
              have hg1 := hg.trans hg1'
              rw [← HE1.out] at ho1
              clear ho hg hg1'
              go_wp2_with fail
              refine (HIH.out a S mid e1 w2 (by omega) (by omega) (by omega) hga hbe2 ho1 (hw.trans hg1) HD1.out HST1.out H1.out H2.out).mono ?_
              rintro e w3 ⟨rfl, e2, ho2, hg2', hp2, hst2, hsm2, hsr2⟩
              have hg2 := hg1.trans hg2'
              clear ho1 hg1 hg2'
              have HD2 := Lib.hid (fun x hx => HD1.out x (hp2.mem_iff.1 hx))
              have HSR2 := Lib.hid hsr2
              have HP2 := Lib.hid hp2
              have HST2 := Lib.hid hst2
              have HSM2 := Lib.hid hsm2
              have H3a := Lib.hid (H3.out.same hsm2 (.inr (Nat.le_refl _)))
              have H4a := Lib.hid (H4.out.same hsm2 (.inr (by omega)))
              clear hsr2 hp2 hst2 hsm2
              go_wp2_with fail
              have hsr3 : Srt key e2 mid b := by rw [show b = E by omega]; exact H3a.out
              have HFIN := Lib.hid (sym_fin HE1.out HP1.out HSM1.out HP2.out HSM2.out (List.Perm.refl e2) (Same.refl _ _ _) HE.out HCP.out HB.out HSR2.out hsr3 HMB.out)
              clear hsr3
              exact bodyPost_end (results_none Tryd.results219 _ _ _) rfl ⟨rfl, e2, ho2, hg2, HFIN.out.1, HST2.out, HFIN.out.2.1, HFIN.out.2.2⟩
          · by_cases hde : E < b
            · go_wp2_with fail
              refine (HROT.out hal hbe).mono ?_
              rintro e w2 ⟨rfl, ho1, hg1'⟩
              have hg1 := hg.trans hg1'
              rw [← HE1.out] at ho1
              clear ho hg hg1'
              go_wp2_with fail
              obtain ⟨e2, he2⟩ : ∃ e2, e2 = e1 := ⟨_, rfl⟩
              have hp2 : e2.Perm e1 := by rw [he2]
              have hst2 : St key e2 := by rw [he2]; exact HST1.out
              have hsm2 : Same e1 e2 a mid := by rw [he2]; exact Same.refl _ _ _
              have hsr2 : Srt key e2 a mid := by
                rw [he2, show a = S by omega]; exact H2.out
              have ho2 : Own 2 w2 B (some ⟨g, 0, none⟩) n c (ints e2) := by rw [he2]; exact ho1
              have hg2 := hg1
              clear ho1 hg1 he2
              have HD2 := Lib.hid (fun x hx => HD1.out x (hp2.mem_iff.1 hx))
              have HSR2 := Lib.hid hsr2
              have HP2 := Lib.hid hp2
              have HST2 := Lib.hid hst2
              have HSM2 := Lib.hid hsm2
              have H3a := Lib.hid (H3.out.same hsm2 (.inr (Nat.le_refl _)))
              have H4a := Lib.hid (H4.out.same hsm2 (.inr (by omega)))
              clear hsr2 hp2 hst2 hsm2
              refine (HIH.out mid E b e2 w2 (by omega) (by omega) (by omega) hal2 hde ho2 (hw.trans hg2) HD2.out HST2.out H3a.out H4a.out).mono ?_
              rintro e w4 ⟨rfl, e3, ho3, hg3', hp3, hst3, hsm3, hsr3⟩
              have hg3 := hg2.trans hg3'
              have HFIN := Lib.hid (sym_fin HE1.out HP1.out HSM1.out HP2.out HSM2.out hp3 hsm3 HE.out HCP.out HB.out HSR2.out hsr3 HMB.out)
              clear hp3 hsm3 hsr3 hg3'
              go_wp2_with fail
              exact bodyPost_end (results_none Tryd.results219 _ _ _) rfl ⟨rfl, e3, ho3, hg3, HFIN.out.1, hst3, HFIN.out.2.1, HFIN.out.2.2⟩
            · go_wp2_with fail
              refine (HROT.out hal hbe).mono ?_
              rintro e w2 ⟨rfl, ho1, hg1'⟩
              have hg1 := hg.trans hg1'
              rw [← HE1.out] at ho1
              clear ho hg hg1'
              go_wp2_with fail
              obtain ⟨e2, he2⟩ : ∃ e2, e2 = e1 := ⟨_, rfl⟩
              have hp2 : e2.Perm e1 := by rw [he2]
              have hst2 : St key e2 := by rw [he2]; exact HST1.out
              have hsm2 : Same e1 e2 a mid := by rw [he2]; exact Same.refl _ _ _
              have hsr2 : Srt key e2 a mid := by
                rw [he2, show a = S by omega]; exact H2.out
              have ho2 : Own 2 w2 B (some ⟨g, 0, none⟩) n c (ints e2) := by rw [he2]; exact ho1
              have hg2 := hg1
              clear ho1 hg1 he2
              have HD2 := Lib.hid (fun x hx => HD1.out x (hp2.mem_iff.1 hx))
              have HSR2 := Lib.hid hsr2
              have HP2 := Lib.hid hp2
              have HST2 := Lib.hid hst2
              have HSM2 := Lib.hid hsm2
              have H3a := Lib.hid (H3.out.same hsm2 (.inr (Nat.le_refl _)))
              have H4a := Lib.hid (H4.out.same hsm2 (.inr (by omega)))
              clear hsr2 hp2 hst2 hsm2
              have hsr3 : Srt key e2 mid b := by rw [show b = E by omega]; exact H3a.out
              have HFIN := Lib.hid (sym_fin HE1.out HP1.out HSM1.out HP2.out HSM2.out (List.Perm.refl e2) (Same.refl _ _ _) HE.out HCP.out HB.out HSR2.out hsr3 HMB.out)
              clear hsr3
              exact bodyPost_end (results_none Tryd.results219 _ _ _) rfl ⟨rfl, e2, ho2, hg2, HFIN.out.1, HST2.out, HFIN.out.2.1, HFIN.out.2.2⟩
        · have hbe2 : ¬ S < mid := by omega
          by_cases hga : a < S
          · by_cases hde : E < b
            · go_wp2_with fail
              have ho1 : Own 2 wr B (some ⟨g, 0, none⟩) n c (ints e1) := by
                rw [HE1.out, rot_id ds S m E (by omega) (by omega) (by omega)]; exact ho
              have hg1 := hg
              clear ho hg
              obtain ⟨e2, he2⟩ : ∃ e2, e2 = e1 := ⟨_, rfl⟩
              have hp2 : e2.Perm e1 := by rw [he2]
              have hst2 : St key e2 := by rw [he2]; exact HST1.out
              have hsm2 : Same e1 e2 a mid := by rw [he2]; exact Same.refl _ _ _
              have hsr2 : Srt key e2 a mid := by
                rw [he2, show mid = S by omega]; exact H1.out
              have ho2 : Own 2 wr B (some ⟨g, 0, none⟩) n c (ints e2) := by rw [he2]; exact ho1
              have hg2 := hg1
              clear ho1 hg1 he2
              have HD2 := Lib.hid (fun x hx => HD1.out x (hp2.mem_iff.1 hx))
              have HSR2 := Lib.hid hsr2
              have HP2 := Lib.hid hp2
              have HST2 := Lib.hid hst2
              have HSM2 := Lib.hid hsm2
              have H3a := Lib.hid (H3.out.same hsm2 (.inr (Nat.le_refl _)))
              have H4a := Lib.hid (H4.out.same hsm2 (.inr (by omega)))
              clear hsr2 hp2 hst2 hsm2
              refine (HIH.out mid E b e2 wr (by omega) (by omega) (by omega) hal2 hde ho2 (hw.trans hg2) HD2.out HST2.out H3a.out H4a.out).mono ?_
              rintro e w4 ⟨rfl, e3, ho3, hg3', hp3, hst3, hsm3, hsr3⟩
              have hg3 := hg2.trans hg3'
              have HFIN := Lib.hid (sym_fin HE1.out HP1.out HSM1.out HP2.out HSM2.out hp3 hsm3 HE.out HCP.out HB.out HSR2.out hsr3 HMB.out)
              clear hp3 hsm3 hsr3 hg3'
              go_wp2_with fail
              exact bodyPost_end (results_none Tryd.results219 _ _ _) rfl ⟨rfl, e3, ho3, hg3, HFIN.out.1, hst3, HFIN.out.2.1, HFIN.out.2.2⟩
            · go_wp2_with fail
              have ho1 : Own 2 wr B (some ⟨g, 0, none⟩) n c (ints e1) := by
                rw [HE1.out, rot_id ds S m E (by omega) (by omega) (by omega)]; exact ho
              have hg1 := hg
              clear ho hg
              obtain ⟨e2, he2⟩ : ∃ e2, e2 = e1 := ⟨_, rfl⟩
              have hp2 : e2.Perm e1 := by rw [he2]
              have hst2 : St key e2 := by rw [he2]; exact HST1.out
              have hsm2 : Same e1 e2 a mid := by rw [he2]; exact Same.refl _ _ _
              have hsr2 : Srt key e2 a mid := by
                rw [he2, show mid = S by omega]; exact H1.out
              have ho2 : Own 2 wr B (some ⟨g, 0, none⟩) n c (ints e2) := by rw [he2]; exact ho1
              have hg2 := hg1
              clear ho1 hg1 he2
              have HD2 := Lib.hid (fun x hx => HD1.out x (hp2.mem_iff.1 hx))
              have HSR2 := Lib.hid hsr2
              have HP2 := Lib.hid hp2
              have HST2 := Lib.hid hst2
              have HSM2 := Lib.hid hsm2
              have H3a := Lib.hid (H3.out.same hsm2 (.inr (Nat.le_refl _)))
              have H4a := Lib.hid (H4.out.same hsm2 (.inr (by omega)))
              clear hsr2 hp2 hst2 hsm2
              have hsr3 : Srt key e2 mid b := by rw [show b = E by omega]; exact H3a.out
              have HFIN := Lib.hid (sym_fin HE1.out HP1.out HSM1.out HP2.out HSM2.out (List.Perm.refl e2) (Same.refl _ _ _) HE.out HCP.out HB.out HSR2.out hsr3 HMB.out)
              clear hsr3
              exact bodyPost_end (results_none Tryd.results219 _ _ _) rfl ⟨rfl, e2, ho2, hg2, HFIN.out.1, HST2.out, HFIN.out.2.1, HFIN.out.2.2⟩
          · by_cases hde : E < b
            · go_wp2_with fail
              have ho1 : Own 2 wr B (some ⟨g, 0, none⟩) n c (ints e1) := by
                rw [HE1.out, rot_id ds S m E (by omega) (by omega) (by omega)]; exact ho
              have hg1 := hg
              clear ho hg
              obtain ⟨e2, he2⟩ : ∃ e2, e2 = e1 := ⟨_, rfl⟩
              have hp2 : e2.Perm e1 := by rw [he2]
              have hst2 : St key e2 := by rw [he2]; exact HST1.out
              have hsm2 : Same e1 e2 a mid := by rw [he2]; exact Same.refl _ _ _
              have hsr2 : Srt key e2 a mid := by
                rw [he2, show a = S by omega]; exact H2.out
              have ho2 : Own 2 wr B (some ⟨g, 0, none⟩) n c (ints e2) := by rw [he2]; exact ho1
              have hg2 := hg1
              clear ho1 hg1 he2
              have HD2 := Lib.hid (fun x hx => HD1.out x (hp2.mem_iff.1 hx))
              have HSR2 := Lib.hid hsr2
              have HP2 := Lib.hid hp2
              have HST2 := Lib.hid hst2
              have HSM2 := Lib.hid hsm2
              have H3a := Lib.hid (H3.out.same hsm2 (.inr (Nat.le_refl _)))
              have H4a := Lib.hid (H4.out.same hsm2 (.inr (by omega)))
              clear hsr2 hp2 hst2 hsm2
              refine (HIH.out mid E b e2 wr (by omega) (by omega) (by omega) hal2 hde ho2 (hw.trans hg2) HD2.out HST2.out H3a.out H4a.out).mono ?_
              rintro e w4 ⟨rfl, e3, ho3, hg3', hp3, hst3, hsm3, hsr3⟩
              have hg3 := hg2.trans hg3'
              have HFIN := Lib.hid (sym_fin HE1.out HP1.out HSM1.out HP2.out HSM2.out hp3 hsm3 HE.out HCP.out HB.out HSR2.out hsr3 HMB.out)
              clear hp3 hsm3 hsr3 hg3'
              go_wp2_with fail
              exact bodyPost_end (results_none Tryd.results219 _ _ _) rfl ⟨rfl, e3, ho3, hg3, HFIN.out.1, hst3, HFIN.out.2.1, HFIN.out.2.2⟩
            · go_wp2_with fail
              have ho1 : Own 2 wr B (some ⟨g, 0, none⟩) n c (ints e1) := by
                rw [HE1.out, rot_id ds S m E (by omega) (by omega) (by omega)]; exact ho
              have hg1 := hg
              clear ho hg
              obtain ⟨e2, he2⟩ : ∃ e2, e2 = e1 := ⟨_, rfl⟩
              have hp2 : e2.Perm e1 := by rw [he2]
              have hst2 : St key e2 := by rw [he2]; exact HST1.out
              have hsm2 : Same e1 e2 a mid := by rw [he2]; exact Same.refl _ _ _
              have hsr2 : Srt key e2 a mid := by
                rw [he2, show a = S by omega]; exact H2.out
              have ho2 : Own 2 wr B (some ⟨g, 0, none⟩) n c (ints e2) := by rw [he2]; exact ho1
              have hg2 := hg1
              clear ho1 hg1 he2
              have HD2 := Lib.hid (fun x hx => HD1.out x (hp2.mem_iff.1 hx))
              have HSR2 := Lib.hid hsr2
              have HP2 := Lib.hid hp2
              have HST2 := Lib.hid hst2
              have HSM2 := Lib.hid hsm2
              have H3a := Lib.hid (H3.out.same hsm2 (.inr (Nat.le_refl _)))
              have H4a := Lib.hid (H4.out.same hsm2 (.inr (by omega)))
              clear hsr2 hp2 hst2 hsm2
              have hsr3 : Srt key e2 mid b := by rw [show b = E by omega]; exact H3a.out
              have HFIN := Lib.hid (sym_fin HE1.out HP1.out HSM1.out HP2.out HSM2.out (List.Perm.refl e2) (Same.refl _ _ _) HE.out HCP.out HB.out HSR2.out hsr3 HMB.out)
              clear hsr3
              exact bodyPost_end (results_none Tryd.results219 _ _ _) rfl ⟨rfl, e2, ho2, hg2, HFIN.out.1, HST2.out, HFIN.out.2.1, HFIN.out.2.2⟩
      · have hal2 : ¬ mid < E := by omega
        by_cases hbe : m < E
        · have hbe2 : S < mid := by omega
          by_cases hga : a < S
          · by_cases hde : E < b
            · go_wp2_with fail
              have ho1 : Own 2 wr B (some ⟨g, 0, none⟩) n c (ints e1) := by
                rw [HE1.out, rot_id ds S m E (by omega) (by omega) (by omega)]; exact ho
              have hg1 := hg
              clear ho hg
              refine (HIH.out a S mid e1 wr (by omega) (by omega) (by omega) hga hbe2 ho1 (hw.trans hg1) HD1.out HST1.out H1.out H2.out).mono ?_
              rintro e w3 ⟨rfl, e2, ho2, hg2', hp2, hst2, hsm2, hsr2⟩
              have hg2 := hg1.trans hg2'
              clear ho1 hg1 hg2'
              have HD2 := Lib.hid (fun x hx => HD1.out x (hp2.mem_iff.1 hx))
              have HSR2 := Lib.hid hsr2
              have HP2 := Lib.hid hp2
              have HST2 := Lib.hid hst2
              have HSM2 := Lib.hid hsm2
              have H3a := Lib.hid (H3.out.same hsm2 (.inr (Nat.le_refl _)))
              have H4a := Lib.hid (H4.out.same hsm2 (.inr (by omega)))
              clear hsr2 hp2 hst2 hsm2
              go_wp2_with fail
              have hsr3 : Srt key e2 mid b := by rw [show mid = E by omega]; exact H4a.out
              have HFIN := Lib.hid (sym_fin HE1.out HP1.out HSM1.out HP2.out HSM2.out (List.Perm.refl e2) (Same.refl _ _ _) HE.out HCP.out HB.out HSR2.out hsr3 HMB.out)
              clear hsr3
              exact bodyPost_end (results_none Tryd.results219 _ _ _) rfl ⟨rfl, e2, ho2, hg2, HFIN.out.1, HST2.out, HFIN.out.2.1, HFIN.out.2.2⟩
            · go_wp2_with fail
              have ho1 : Own 2 wr B (some ⟨g, 0, none⟩) n c (ints e1) := by
                rw [HE1.out, rot_id ds S m E (by omega) (by omega) (by omega)]; exact ho
              have hg1 := hg
              clear ho hg
              refine (HIH.out a S mid e1 wr (by omega) (by omega) (by omega) hga hbe2 ho1 (hw.trans hg1) HD1.out HST1.out H1.out H2.out).mono ?_
              rintro e w3 ⟨rfl, e2, ho2, hg2', hp2, hst2, hsm2, hsr2⟩
              have hg2 := hg1.trans hg2'
              clear ho1 hg1 hg2'
              have HD2 := Lib.hid (fun x hx => HD1.out x (hp2.mem_iff.1 hx))
              have HSR2 := Lib.hid hsr2
              have HP2 := Lib.hid hp2
              have HST2 := Lib.hid hst2
              have HSM2 := Lib.hid hsm2
              have H3a := Lib.hid (H3.out.same hsm2 (.inr (Nat.le_refl _)))
              have H4a := Lib.hid (H4.out.same hsm2 (.inr (by omega)))
              clear hsr2 hp2 hst2 hsm2
              go_wp2_with fail
              have hsr3 : Srt key e2 mid b := by rw [show mid = E by omega]; exact H4a.out
              have HFIN := Lib.hid (sym_fin HE1.out HP1.out HSM1.out HP2.out HSM2.out (List.Perm.refl e2) (Same.refl _ _ _) HE.out HCP.out HB.out HSR2.out hsr3 HMB.out)
              clear hsr3
              exact bodyPost_end (results_none Tryd.results219 _ _ _) rfl ⟨rfl, e2, ho2, hg2, HFIN.out.1, HST2.out, HFIN.out.2.1, HFIN.out.2.2⟩
          · by_cases hde : E < b
            · go_wp2_with fail
              have ho1 : Own 2 wr B (some ⟨g, 0, none⟩) n c (ints e1) := by
                rw [HE1.out, rot_id ds S m E (by omega) (by omega) (by omega)]; exact ho
              have hg1 := hg
              clear ho hg
              obtain ⟨e2, he2⟩ : ∃ e2, e2 = e1 := ⟨_, rfl⟩
              have hp2 : e2.Perm e1 := by rw [he2]
              have hst2 : St key e2 := by rw [he2]; exact HST1.out
              have hsm2 : Same e1 e2 a mid := by rw [he2]; exact Same.refl _ _ _
              have hsr2 : Srt key e2 a mid := by
                rw [he2, show a = S by omega]; exact H2.out
              have ho2 : Own 2 wr B (some ⟨g, 0, none⟩) n c (ints e2) := by rw [he2]; exact ho1
              have hg2 := hg1
              clear ho1 hg1 he2
              have HD2 := Lib.hid (fun x hx => HD1.out x (hp2.mem_iff.1 hx))
              have HSR2 := Lib.hid hsr2
              have HP2 := Lib.hid hp2
              have HST2 := Lib.hid hst2
              have HSM2 := Lib.hid hsm2
              have H3a := Lib.hid (H3.out.same hsm2 (.inr (Nat.le_refl _)))
              have H4a := Lib.hid (H4.out.same hsm2 (.inr (by omega)))
              clear hsr2 hp2 hst2 hsm2
              have hsr3 : Srt key e2 mid b := by rw [show mid = E by omega]; exact H4a.out
              have HFIN := Lib.hid (sym_fin HE1.out HP1.out HSM1.out HP2.out HSM2.out (List.Perm.refl e2) (Same.refl _ _ _) HE.out HCP.out HB.out HSR2.out hsr3 HMB.out)
              clear hsr3
              exact bodyPost_end (results_none Tryd.results219 _ _ _) rfl ⟨rfl, e2, ho2, hg2, HFIN.out.1, HST2.out, HFIN.out.2.1, HFIN.out.2.2⟩
            · go_wp2_with fail
              have ho1 : Own 2 wr B (some ⟨g, 0, none⟩) n c (ints e1) := by
                rw [HE1.out, rot_id ds S m E (by omega) (by omega) (by omega)]; exact ho
              have hg1 := hg
              clear ho hg
              obtain ⟨e2, he2⟩ : ∃ e2, e2 = e1 := ⟨_, rfl⟩
              have hp2 : e2.Perm e1 := by rw [he2]
              have hst2 : St key e2 := by rw [he2]; exact HST1.out
              have hsm2 : Same e1 e2 a mid := by rw [he2]; exact Same.refl _ _ _
              have hsr2 : Srt key e2 a mid := by
                rw [he2, show a = S by omega]; exact H2.out
              have ho2 : Own 2 wr B (some ⟨g, 0, none⟩) n c (ints e2) := by rw [he2]; exact ho1
              have hg2 := hg1
              clear ho1 hg1 he2
              have HD2 := Lib.hid (fun x hx => HD1.out x (hp2.mem_iff.1 hx))
              have HSR2 := Lib.hid hsr2
              have HP2 := Lib.hid hp2
              have HST2 := Lib.hid hst2
              have HSM2 := Lib.hid hsm2
              have H3a := Lib.hid (H3.out.same hsm2 (.inr (Nat.le_refl _)))
              have H4a := Lib.hid (H4.out.same hsm2 (.inr (by omega)))
              clear hsr2 hp2 hst2 hsm2
              have hsr3 : Srt key e2 mid b := by rw [show mid = E by omega]; exact H4a.out
              have HFIN := Lib.hid (sym_fin HE1.out HP1.out HSM1.out HP2.out HSM2.out (List.Perm.refl e2) (Same.refl _ _ _) HE.out HCP.out HB.out HSR2.out hsr3 HMB.out)
              clear hsr3
              exact bodyPost_end (results_none Tryd.results219 _ _ _) rfl ⟨rfl, e2, ho2, hg2, HFIN.out.1, HST2.out, HFIN.out.2.1, HFIN.out.2.2⟩
        · have hbe2 : ¬ S < mid := by omega
          by_cases hga : a < S
          · by_cases hde : E < b
            · go_wp2_with fail
              have ho1 : Own 2 wr B (some ⟨g, 0, none⟩) n c (ints e1) := by
                rw [HE1.out, rot_id ds S m E (by omega) (by omega) (by omega)]; exact ho
              have hg1 := hg
              clear ho hg
              obtain ⟨e2, he2⟩ : ∃ e2, e2 = e1 := ⟨_, rfl⟩
              have hp2 : e2.Perm e1 := by rw [he2]
              have hst2 : St key e2 := by rw [he2]; exact HST1.out
              have hsm2 : Same e1 e2 a mid := by rw [he2]; exact Same.refl _ _ _
              have hsr2 : Srt key e2 a mid := by
                rw [he2, show mid = S by omega]; exact H1.out
              have ho2 : Own 2 wr B (some ⟨g, 0, none⟩) n c (ints e2) := by rw [he2]; exact ho1
              have hg2 := hg1
              clear ho1 hg1 he2
              have HD2 := Lib.hid (fun x hx => HD1.out x (hp2.mem_iff.1 hx))
              have HSR2 := Lib.hid hsr2
              have HP2 := Lib.hid hp2
              have HST2 := Lib.hid hst2
              have HSM2 := Lib.hid hsm2
              have H3a := Lib.hid (H3.out.same hsm2 (.inr (Nat.le_refl _)))
              have H4a := Lib.hid (H4.out.same hsm2 (.inr (by omega)))
              clear hsr2 hp2 hst2 hsm2
              have hsr3 : Srt key e2 mid b := by rw [show mid = E by omega]; exact H4a.out
              have HFIN := Lib.hid (sym_fin HE1.out HP1.out HSM1.out HP2.out HSM2.out (List.Perm.refl e2) (Same.refl _ _ _) HE.out HCP.out HB.out HSR2.out hsr3 HMB.out)
              clear hsr3
              exact bodyPost_end (results_none Tryd.results219 _ _ _) rfl ⟨rfl, e2, ho2, hg2, HFIN.out.1, HST2.out, HFIN.out.2.1, HFIN.out.2.2⟩
            · go_wp2_with fail
              have ho1 : Own 2 wr B (some ⟨g, 0, none⟩) n c (ints e1) := by
                rw [HE1.out, rot_id ds S m E (by omega) (by omega) (by omega)]; exact ho
              have hg1 := hg
              clear ho hg
              obtain ⟨e2, he2⟩ : ∃ e2, e2 = e1 := ⟨_, rfl⟩
              have hp2 : e2.Perm e1 := by rw [he2]
              have hst2 : St key e2 := by rw [he2]; exact HST1.out
              have hsm2 : Same e1 e2 a mid := by rw [he2]; exact Same.refl _ _ _
              have hsr2 : Srt key e2 a mid := by
                rw [he2, show mid = S by omega]; exact H1.out
              have ho2 : Own 2 wr B (some ⟨g, 0, none⟩) n c (ints e2) := by rw [he2]; exact ho1
              have hg2 := hg1
              clear ho1 hg1 he2
              have HD2 := Lib.hid (fun x hx => HD1.out x (hp2.mem_iff.1 hx))
              have HSR2 := Lib.hid hsr2
              have HP2 := Lib.hid hp2
              have HST2 := Lib.hid hst2
              have HSM2 := Lib.hid hsm2
              have H3a := Lib.hid (H3.out.same hsm2 (.inr (Nat.le_refl _)))
              have H4a := Lib.hid (H4.out.same hsm2 (.inr (by omega)))
              clear hsr2 hp2 hst2 hsm2
              have hsr3 : Srt key e2 mid b := by rw [show mid = E by omega]; exact H4a.out
              have HFIN := Lib.hid (sym_fin HE1.out HP1.out HSM1.out HP2.out HSM2.out (List.Perm.refl e2) (Same.refl _ _ _) HE.out HCP.out HB.out HSR2.out hsr3 HMB.out)
              clear hsr3
              exact bodyPost_end (results_none Tryd.results219 _ _ _) rfl ⟨rfl, e2, ho2, hg2, HFIN.out.1, HST2.out, HFIN.out.2.1, HFIN.out.2.2⟩
          · by_cases hde : E < b
            · go_wp2_with fail
              have ho1 : Own 2 wr B (some ⟨g, 0, none⟩) n c (ints e1) := by
                rw [HE1.out, rot_id ds S m E (by omega) (by omega) (by omega)]; exact ho
              have hg1 := hg
              clear ho hg
              obtain ⟨e2, he2⟩ : ∃ e2, e2 = e1 := ⟨_, rfl⟩
              have hp2 : e2.Perm e1 := by rw [he2]
              have hst2 : St key e2 := by rw [he2]; exact HST1.out
              have hsm2 : Same e1 e2 a mid := by rw [he2]; exact Same.refl _ _ _
              have hsr2 : Srt key e2 a mid := by
                rw [he2, show a = S by omega]; exact H2.out
              have ho2 : Own 2 wr B (some ⟨g, 0, none⟩) n c (ints e2) := by rw [he2]; exact ho1
              have hg2 := hg1
              clear ho1 hg1 he2
              have HD2 := Lib.hid (fun x hx => HD1.out x (hp2.mem_iff.1 hx))
              have HSR2 := Lib.hid hsr2
              have HP2 := Lib.hid hp2
              have HST2 := Lib.hid hst2
              have HSM2 := Lib.hid hsm2
              have H3a := Lib.hid (H3.out.same hsm2 (.inr (Nat.le_refl _)))
              have H4a := Lib.hid (H4.out.same hsm2 (.inr (by omega)))
              clear hsr2 hp2 hst2 hsm2
              have hsr3 : Srt key e2 mid b := by rw [show mid = E by omega]; exact H4a.out
              have HFIN := Lib.hid (sym_fin HE1.out HP1.out HSM1.out HP2.out HSM2.out (List.Perm.refl e2) (Same.refl _ _ _) HE.out HCP.out HB.out HSR2.out hsr3 HMB.out)
              clear hsr3
              exact bodyPost_end (results_none Tryd.results219 _ _ _) rfl ⟨rfl, e2, ho2, hg2, HFIN.out.1, HST2.out, HFIN.out.2.1, HFIN.out.2.2⟩
            · go_wp2_with fail
              have ho1 : Own 2 wr B (some ⟨g, 0, none⟩) n c (ints e1) := by
                rw [HE1.out, rot_id ds S m E (by omega) (by omega) (by omega)]; exact ho
              have hg1 := hg
              clear ho hg
              obtain ⟨e2, he2⟩ : ∃ e2, e2 = e1 := ⟨_, rfl⟩
              have hp2 : e2.Perm e1 := by rw [he2]
              have hst2 : St key e2 := by rw [he2]; exact HST1.out
              have hsm2 : Same e1 e2 a mid := by rw [he2]; exact Same.refl _ _ _
              have hsr2 : Srt key e2 a mid := by
                rw [he2, show a = S by omega]; exact H2.out
              have ho2 : Own 2 wr B (some ⟨g, 0, none⟩) n c (ints e2) := by rw [he2]; exact ho1
              have hg2 := hg1
              clear ho1 hg1 he2
              have HD2 := Lib.hid (fun x hx => HD1.out x (hp2.mem_iff.1 hx))
              have HSR2 := Lib.hid hsr2
              have HP2 := Lib.hid hp2
              have HST2 := Lib.hid hst2
              have HSM2 := Lib.hid hsm2
              have H3a := Lib.hid (H3.out.same hsm2 (.inr (Nat.le_refl _)))
              have H4a := Lib.hid (H4.out.same hsm2 (.inr (by omega)))
              clear hsr2 hp2 hst2 hsm2
              have hsr3 : Srt key e2 mid b := by rw [show mid = E by omega]; exact H4a.out
              have HFIN := Lib.hid (sym_fin HE1.out HP1.out HSM1.out HP2.out HSM2.out (List.Perm.refl e2) (Same.refl _ _ _) HE.out HCP.out HB.out HSR2.out hsr3 HMB.out)
              clear hsr3
              exact bodyPost_end (results_none Tryd.results219 _ _ _) rfl ⟨rfl, e2, ho2, hg2, HFIN.out.1, HST2.out, HFIN.out.2.1, HFIN.out.2.2⟩
end Go.Proofs.YtcojodkcpemfdaaDoor
