/-
  Roots of traces: the model's side.
-/
import Derived.Test.YtdafdffmkjhhcaaDoorRtM
import Derived.Test.YtdafdffmkjhhcaaDoorPwA
import Derived.Test.YtdafdffmkjhhcaaDoorWord4
import Derived.Test.YtdafdffmkjhhcaaDoorM3
import Derived.Deep.RegionLaw
namespace Go.Proofs.YtdafdffmkjhhcaaDoor
open Go Go.RowKit
set_option linter.unusedVariables false
set_option maxRecDepth 100000

theorem fitRt_next (vs : List Nat) (k j : Nat) : fitRt vs k (j + 1) = (fitRt vs k j && (vs.count j % k == 0)) := by
  unfold fitRt
  rw [List.range_succ, List.all_append]
  simp
set_option maxHeartbeats 12800000 in
theorem l07Root_any (A A1 : Option Addr) (n c m d : Nat) (rs vs : List Nat) (w : World) (h : Rd w A n (ints rs)) (hl : rs.length = n) (hn : n ≤ 8) (hr : ∀ i, rs.getD i 0 < 2 ^ n) (hdep : Dep rs) (h2 : Rd w A1 m (ints vs)) (hm : m ≤ 24) (hvs : ∀ x, x ∈ vs → x < n) :
    Calls Tryd.prog 83 #[.agg #[.int .i64 (n : Int), .slice A n c], .slice A1 m d] w fun e w' => ∃ A' c', e = .returned (.tuple #[.slice A' (rtF rs vs).1.length c', .int .i64 ((rtF rs vs).2 : Int)]) ∧ Own 2 w' w.heap.size A' (rtF rs vs).1.length c' (ints (rtF rs vs).1) ∧ Below w.heap.size w w' := by
  obtain ⟨i0, hi, hz0, hz1, hz2⟩ := info_parts info_int
  have HLV : Hid (vs.length = m) := Lib.hid (by have := h2.1; rw [ints_len] at this; exact this)
  have HVN := Lib.hid hvs
  have HR := Lib.hid hr
  have HLR := Lib.hid hl
  have HDEP := Lib.hid hdep
  have hsym : ∀ a b, RDep rs a b = RDep rs b a := rdep_sym rs n hl hr hdep
  have href : ∀ a, a < n → RDep rs a a = true := fun a ha => hdep.1 a (by omega)
  have HNR : Hid (∀ ws, nfM (RDep rs) n ws = nfR rs ws) := Lib.hid (fun ws => by unfold nfR; rw [hl])
  have HSL : Hid (∀ k, (shF vs k).length * k ≤ m ∧ (shF vs k).length ≤ m) := Lib.hid fun k => ⟨by rw [← HLV.out]; exact sh_len vs k, by rw [← HLV.out]; exact shTo_len vs k vs.length⟩
  have HSN : Hid (∀ k x, x ∈ shF vs k → x < n) := Lib.hid fun k => sh_lt vs k n hvs
  have HFIT : Hid (∀ k, fitRt vs k n = false → ¬ nfR rs (repV k (shF vs k)) = nfR rs vs) := Lib.hid fun k h9 h8 => by
    rw [fit_of rs vs (shF vs k) n k hl hsym href hvs (sh_lt vs k n hvs) h8] at h9; cases h9
  have HSAME : Hid (∀ k, takeB (RDep rs) (repV k (shF vs k)) vs = decide (nfR rs (repV k (shF vs k)) = nfR rs vs)) := Lib.hid fun k => by
    have h9 := same_nf hsym href (repV k (shF vs k)) vs (fun x hx => sh_lt vs k n hvs x (repV_mem hx)) hvs
    rw [HNR.out, HNR.out] at h9
    exact h9
  have HNX : Hid (∀ k i, i < m → shTo vs k (i + 1) = if (shTo vs k i).count (vs.getD i 0) < vs.count (vs.getD i 0) / k then shTo vs k i ++ [vs.getD i 0] else shTo vs k i) := Lib.hid fun k i hi => rfl
  have HLE : Hid (∀ k i, (shTo vs k i).length ≤ i) := Lib.hid (shTo_len vs)
  have HCM : Hid (∀ a, vs.count a ≤ 24) := Lib.hid fun a => Nat.le_trans List.count_le_length (by have := HLV.out; omega)
  have HXN : Hid (∀ i, i < m → vs.getD i 0 < n) := Lib.hid fun i hi => hvs _ (by rw [List.getD_eq_getElem?_getD, List.getElem?_eq_getElem (by rw [HLV.out]; exact hi)]; exact List.getElem_mem _)
  have HNL : Hid (∀ ws, (∀ x, x ∈ ws → x < n) → (nfR rs ws).length = ws.length) := Lib.hid fun ws hw => by
    rw [← HNR.out]
    exact Eqv.len hsym href _ ws (fun x hx => by
      unfold nfM at hx
      exact nfGo_ltR _ _ _ _ x hx) hw (nfGo_eqv hsym href ws.length ws rfl hw)
  have hB0 := below1 w (.cells #[.int .i64 (n : Int), .slice A n c] 29)
  have x0 := box_new 29 w (n : Int) A n c
  obtain ⟨w1, hw1⟩ : ∃ w1, w.alloc (.cells #[.int .i64 (n : Int), .slice A n c] 29) = w1 := ⟨_, rfl⟩
  rw [hw1] at x0 hB0
  have hh := h.below hB0
  have hh2 := h2.below hB0
  have HB0 := Lib.hid hB0
  have HCT := Lib.hid (l03Content_any A n c rs A1 m d vs w1 hh hn hh2 (by have := HLV.out; omega) HVN.out)
  have HV0 : Hid (rtF rs vs = rtGo rs vs m) := Lib.hid (by unfold rtF; rw [HLV.out])
  obtain ⟨V, hV⟩ : ∃ V, V = rtF rs vs := ⟨_, rfl⟩
  rw [← hV] at HV0 ⊢
  have y0 := x0.c0
  have y1 := x0.c1
  clear hV hr hl hdep hvs hsym href h h2 hB0
  go_enter Tryd.func83, Tryd.ntmps83
  go_wp2_with fail
  refine HCT.out.mono ?_
  rintro e w2 ⟨AC, cC, rfl, oC, hb2⟩
  go_wp2_with fail
  go_loopw [7] (fun p wr => ∃ k : Nat, k ≤ m ∧ p = .int .i64 (k : Int) ∧ Hid (V = rtGo rs vs k) ∧ Own 2 wr w1.heap.size AC n cC (ints (contM n vs)) ∧ Below w1.heap.size w1 wr) (fun p _ => (intOf p).toNat)
  case atStart => exact ⟨m, Nat.le_refl _, rfl, HV0, oC, hb2⟩
  case round =>
    clear oC hb2 y0 y1
    obtain ⟨k, hk, rfl, HV, oC, hb⟩ := hrel
    have x1 := x0.next hb
    have y0 := x1.c0
    have y1 := x1.c1
    have HBW := Lib.hid (HB0.out.trans (hb.mono HB0.out.size))
    by_cases hk1 : 1 < k
    · have hI : (1 : Int) < (k : Int) := by omega
      have hk0 : ¬ ((k : Int) = 0) := by omega
      have hk24 : k ≤ 24 := by omega
      have HYE := Lib.hid (rtGo_yes rs vs k hk1)
      have HNE := Lib.hid (rtGo_no rs vs k hk1)
      have HFK := Lib.hid (HFIT.out k)
      have HSK := Lib.hid (HSAME.out k)
      have HNXK := Lib.hid (HNX.out k)
      have HLEK := Lib.hid (HLE.out k)
      have hs1 := (HSL.out k).1
      have hs2 := (HSL.out k).2
      have HPN := Lib.hid (HSN.out k)
      have HFN := Lib.hid (fitRt_next vs k)
      have hsb2 : (k : Int) - 1 = ((k - 1 : Nat) : Int) := by omega
      obtain ⟨wo, hwo⟩ : ∃ wo : World, wr = wo := ⟨_, rfl⟩
      rw [hwo] at oC hb x1 y0 y1 HBW ⊢
      clear hwo hk1
      go_wp2_with fail
      go_loopw [8, 9] (fun f a wz => ∃ j : Nat, j ≤ n ∧ a = .int .i64 (j : Int) ∧ f = .bool (fitRt vs k j) ∧ wz = wo) (fun _ a _ => n - (intOf a).toNat)
      case atStart => exact ⟨0, Nat.zero_le _, rfl, rfl, rfl⟩
      case round =>
        obtain ⟨j, hj, rfl, rfl, rfl⟩ := hrel
        by_cases hjn : j < n
        · obtain ⟨b, off, x, rfl, hbs, hx, hcx⟩ := oC.rd.at_ hjn
          rw [ints_getD (contM n vs) j (by rw [contM_len]; exact hjn), contM_at n vs j hjn] at hx
          injection hx with hx
          have HF1 := Lib.hid (HFN.out j)
          have hcm := HCM.out j
          obtain ⟨C, hC⟩ : ∃ C, C = vs.count j := ⟨_, rfl⟩
          rw [← hC] at hx HF1 hcm
          subst hx
          have hrem : (C : Int) % (k : Int) = ((C % k : Nat) : Int) := (Int.natCast_emod C k).symm
          have hrem2 : Int.tmod (C : Int) (k : Int) = ((C % k : Nat) : Int) := by rw [Int.tmod_eq_emod_of_nonneg (by omega)]; exact hrem
          obtain ⟨q, hq⟩ : ∃ q, q = C % k := ⟨_, rfl⟩
          rw [← hq] at hrem hrem2 HF1
          have hqe : (((q : Nat) : Int) == 0) = (q == 0) := by
            by_cases h0 : q = 0
            · rw [h0]; rfl
            · have h1 : ¬ ((q : Nat) : Int) = 0 := by omega
              rw [beq_false_of_ne h1, beq_false_of_ne h0]
          obtain ⟨fb, hfb⟩ : ∃ fb, fb = fitRt vs k j := ⟨_, rfl⟩
          rw [← hfb] at HF1 ⊢
          clear hC hq hfb
          cases fb
          · have HF2 : Hid (fitRt vs k (j + 1) = false) := Lib.hid (by rw [HF1.out]; rfl)
            go_wp2_with fail
            go_roundw
            case rel => exact ⟨j + 1, hjn, by go_num, by rw [HF2.out], trivial⟩
            case measure => simp [intOf]; omega
          · have HF2 : Hid (fitRt vs k (j + 1) = (q == 0)) := Lib.hid (by rw [HF1.out]; rfl)
            go_wp2_with fail
            go_roundw
            case rel => exact ⟨j + 1, hjn, by go_num, by rw [HF2.out], trivial⟩
            case measure => simp [intOf]; omega
        · have hje : n = j := by omega
          subst hje
          obtain ⟨fb, hfb⟩ : ∃ fb, fb = fitRt vs k n := ⟨_, rfl⟩
          rw [← hfb] at HFK ⊢
          clear hfb
          cases fb
          · have HVA : Hid (V = rtGo rs vs (k - 1)) := Lib.hid (by rw [HV.out, HNE.out (HFK.out rfl)])
            go_wp2_with fail
            go_roundw
            case rel => exact ⟨k - 1, by omega, by first | rfl | (rw [← hsb2]; go_num) | go_num, HVA, oC, hb⟩
            case measure => simp [intOf]; omega
          · have hml : n ≤ maxLen := by unfold maxLen; omega
            have hby : i0.bytes * n ≤ 281474976710656 := by rw [hz2]; omega
            have HACB : Hid (∀ q, AC.map (·.block) = some q → q < wr.heap.size) := Lib.hid fun q hq => (oC.lt q hq).2
            have HHB := Lib.hid hb
            clear HFK HFN
            go_wp2_with (first | (at_make; refine wpList_make_full _ rfl _ _ _ rfl wr.heap.size 2 i0 (.int .i64 0) 1 Tryd.underlying22 hi hz0 hz1 _ _ (n : Int) (n : Int) n rfl rfl rfl rfl hby hml (Nat.le_refl _) ?_; intro w5 hown0 hg5))
            have os0 := own_made hown0
            have hb5 : Below wr.heap.size wr w5 := (Below.refl _ _).grown hg5 (Nat.le_refl _) (by simp)
            have hsz5 : wr.heap.size < w5.heap.size := (os0.lt wr.heap.size rfl).2
            have hL5 := below1 w5 (.cells #[] 2)
            have oL : Own 2 (w5.alloc (.cells #[] 2)) w5.heap.size (some ⟨w5.heap.size, 0, none⟩) 0 0 (ints []) := World.ownsRow_lit w5 #[] 0 (Nat.le_refl _) (by unfold maxLen; omega) rfl
            have os1 := os0.below hL5
            have hb05 := hb5.trans (hL5.mono hb5.size)
            have oC1 := oC.below hb05
            have hb15 := hb.trans (hb05.mono hb.size)
            obtain ⟨B5, hB5⟩ : ∃ B5, B5 = wr.heap.size := ⟨_, rfl⟩
            have HB15 : Hid (w1.heap.size ≤ B5) := Lib.hid (by rw [hB5]; exact hb.size)
            rw [← hB5] at os1 HACB hsz5 ⊢
            clear hown0 hg5 os0 hb5 hL5 hb05 oC hb x1 y0 y1 hB5
            go_wp2_with fail
            go_loopw [11, 12] (fun p q wz => ∃ (i N cA : Nat) (A2 : Option Addr) (ts : List Nat), i ≤ m ∧ q = .int .i64 (i : Int) ∧ p = .slice A2 N cA ∧ N ≤ i ∧ Hid (N = (shTo vs k i).length) ∧ Own 2 wz w5.heap.size A2 N cA (ints (shTo vs k i)) ∧ Own 2 wz B5 (some ⟨B5, 0, none⟩) n n (ints ts) ∧ Hid (∀ a, a < n → ts.getD a 0 = (shTo vs k i).count a) ∧ Own 2 wz w1.heap.size AC n cC (ints (contM n vs)) ∧ Below w1.heap.size w1 wz ∧ w5.heap.size ≤ wz.heap.size) (fun _ q _ => m - (intOf q).toNat)
            case atStart => exact ⟨0, 0, 0, _, List.replicate n 0, Nat.zero_le _, rfl, rfl, Nat.le_refl _, Lib.hid rfl, oL, os1, Lib.hid (fun a _ => by rw [replicate_getD]; rfl), oC1, hb15, (below1 w5 (.cells #[] 2)).size⟩
            case round =>
              clear oL os1 oC1 hb15
              obtain ⟨i, N, cA, A2, ts, hi9, rfl, rfl, hNi, HN, oT, oS, HT, oC, hb, hSz⟩ := hrel
              have HACB2 := HACB.out
              by_cases hlt : i < m
              · obtain ⟨b, off, x, rfl, hbs, hx, hcx⟩ := (hh2.below hb).at_ hlt
                rw [ints_getD vs i (by rw [HLV.out]; exact hlt)] at hx
                injection hx with hx
                have hxn := HXN.out i hlt
                have HST := Lib.hid (HNXK.out i hlt)
                obtain ⟨X, hX⟩ : ∃ X, X = vs.getD i 0 := ⟨_, rfl⟩
                rw [← hX] at hx hxn HST
                subst hx
                obtain ⟨bC, oCf, y, eC, hbsC, hyC, hcC⟩ := oC.rd.at_ hxn
                rw [ints_getD (contM n vs) X (by rw [contM_len]; exact hxn), contM_at n vs X hxn] at hyC
                injection hyC with hyC
                have hcm := HCM.out X
                obtain ⟨gS, hgS, _, hcS, hfS, _⟩ := own_stored oS hxn
                injection hgS with hgS
                injection hgS with hgS _ _
                subst hgS
                have HTX := Lib.hid (HT.out X hxn)
                have hTm : ts.getD X 0 ≤ 24 := by
                  rw [HTX.out]
                  exact Nat.le_trans List.count_le_length (Nat.le_trans (HLEK.out i) (by omega))
                obtain ⟨C, hC⟩ : ∃ C, C = vs.count X := ⟨_, rfl⟩
                obtain ⟨T, hT⟩ : ∃ T, T = ts.getD X 0 := ⟨_, rfl⟩
                rw [← hC] at hyC hcm HST
                rw [← hT] at hcS HTX hTm
                rw [← HTX.out] at HST
                subst hyC eC
                have hlts : ts.length = n := by have := oS.len; rw [ints_len] at this; exact this
                have HTS : Hid (∀ a, a < n → (ts.set X (T + 1)).getD a 0 = (shTo vs k i ++ [X]).count a) := Lib.hid fun a ha => by
                  rw [getD_set ts X _ a (by rw [hlts]; exact hxn), List.count_append, List.count_singleton]
                  by_cases e : a = X
                  · subst e; rw [if_pos rfl, HTX.out]; simp
                  · have e2 : (X == a) = false := beq_false_of_ne (fun h9 => e h9.symm)
                    rw [if_neg e, e2, HT.out a ha]; simp
                have hdiv : (C : Int) / (k : Int) = ((C / k : Nat) : Int) := (Int.natCast_ediv C k).symm
                have hdiv2 : Int.tdiv (C : Int) (k : Int) = ((C / k : Nat) : Int) := by rw [Int.tdiv_eq_ediv_of_nonneg (by omega)]; exact hdiv
                have hCk : C / k ≤ 24 := Nat.le_trans (Nat.div_le_self _ _) hcm
                obtain ⟨Q, hQ⟩ : ∃ Q, Q = C / k := ⟨_, rfl⟩
                rw [← hQ] at hdiv hdiv2 hCk HST
                have HTq := Lib.hid hT
                have HXe := Lib.hid hX
                clear hX hC hT hQ hlts
                by_cases hTQ : T < Q
                · have HS2 : Hid (shTo vs k (i + 1) = shTo vs k i ++ [X]) := Lib.hid (by rw [HST.out, if_pos hTQ])
                  have hI2 : (T : Int) < (Q : Int) := by omega
                  have hml2 : N + 1 ≤ maxLen := by unfold maxLen; omega
                  have hby2 : (N + 1) * 8 ≤ 140737488355328 := by omega
                  go_wp2_with fail
                  go_quiet (fail)
                  obtain ⟨wq, hwq⟩ : ∃ wq, wq = wr.drewN nq := ⟨_, rfl⟩
                  have e1 : Own 2 wq w5.heap.size A2 N cA (ints (shTo vs k i)) := by rw [hwq]; exact oT.below (below_drewN (Below.refl _ _) _)
                  have e2 : Own 2 wq B5 (some ⟨B5, 0, none⟩) n n (ints ts) := by rw [hwq]; exact oS.below (below_drewN (Below.refl _ _) _)
                  have e3 := oC.below (below_drewN (Below.refl wr.heap.size wr) nq)
                  rw [← hwq] at e3
                  have e4 : Below w1.heap.size w1 wq := by rw [hwq]; exact below_drewN hb _
                  have e5 : wq.cell? ⟨b, off + i, none⟩ = some (.int .i64 (X : Int)) := by rw [hwq]; exact hcx
                  have hbq5 : w5.heap.size ≤ wq.heap.size := by rw [hwq]; exact hSz
                  rw [← hwq]
                  clear hwq oT oS oC hb hcx hbs hcC hbsC hcS hfS
                  go_wp2_with (at_builtin; refine wpList_append_own _ rfl _ _ 22 rfl w5.heap.size 2 i0 (.int .i64 0) 1 8 Tryd.underlying22 hi hz0 hz1 hz2 rfl (by decide) (.slice A2 N cA) N ((ints (shTo vs k i)).map (Value.int .i64)) rfl (World.ownsRow.alloc e1 _) ⟨wq.heap.size, 0, none⟩ 1 1 [.int .i64 (X : Int)] rfl rfl ?c1 ?c2 hml2 hby2 ?c5 ?_)
                  case c1 => exact cell_one_new _ _ _
                  case c2 => intro z hz; simp at hz; subst hz; rfl
                  case c5 => simp; omega
                  intro v' w6 hown hg _
                  rw [ints_snoc_map, ← HS2.out] at hown
                  have hA5 : ∀ r, (Value.slice A2 N cA).ownBlock = some r → w5.heap.size ≤ r := fun r hr => (e1.lt r (ownBlock_map' hr)).1
                  have hb6 : Below w1.heap.size w1 w6 := (e4.alloc e4.size _).grown hg (by have := e4.size; simp; omega) (fun r hr => by have := hA5 r hr; have := HB15.out; omega)
                  have f2 := (e2.below (below1 wq (.cells #[.int .i64 (X : Int)] 2))).apart hg (fun q hq e => by have := hA5 q e; injection hq with hq; have h8 : B5 = q := hq; omega)
                  have f3 := (e3.below (below1 wq (.cells #[.int .i64 (X : Int)] 2))).apart hg (fun q hq e => by have := hA5 q e; have := HACB2 q hq; omega)
                  obtain ⟨A5, c5, hv, ho5⟩ := own_shape hown
                  rw [hv]
                  obtain ⟨gS, hgS, _, hcS, hfS, hset⟩ := own_stored f2 hxn
                  injection hgS with hgS
                  injection hgS with hgS _ _
                  subst hgS
                  rw [← HTq.out] at hcS
                  obtain ⟨b6, off6, x6, e6, hbs6, hx6, hcx6⟩ := (hh2.below hb6).at_ hlt
                  injection e6 with e6
                  injection e6 with e6a e6b _
                  subst e6a e6b
                  rw [ints_getD vs i (by rw [HLV.out]; exact hlt)] at hx6
                  injection hx6 with hx6
                  rw [← HXe.out] at hx6
                  subst hx6
                  have hSz6 : w5.heap.size ≤ w6.heap.size := by have h8 := hg.size; have h7 : wq.heap.size ≤ (wq.alloc (.cells #[.int .i64 (X : Int)] 2)).heap.size := (below1 wq _).size; omega
                  have g2 := hset (T + 1)
                  have g1 := ho5.apart (grown_set (World.grownBy.refl w6 (some B5)) X (.int .i64 ((T + 1 : Nat) : Int))) (fun q hq e => by have := (ho5.lt q hq).1; injection e with e; omega)
                  have g3 := f3.apart (grown_set (World.grownBy.refl w6 (some B5)) X (.int .i64 ((T + 1 : Nat) : Int))) (fun q hq e => by have := HACB2 q hq; injection e with e; omega)
                  have g4 := hb6.setCell (p := ⟨B5, X, none⟩) HB15.out (.int .i64 ((T + 1 : Nat) : Int))
                  have hSz7 : w5.heap.size ≤ (w6.setCell ⟨B5, X, none⟩ (.int .i64 ((T + 1 : Nat) : Int))).heap.size := by simp [World.setCell]; exact hSz6
                  have HN5 : Hid (N + 1 = (shTo vs k (i + 1)).length) := Lib.hid (by rw [HS2.out, List.length_append, ← HN.out]; rfl)
                  have hw9 : wrap64 ((T : Int) + 1) = ((T + 1 : Nat) : Int) := by unfold wrap64; omega
                  clear hg hown hv e1 e2 e3 f2 f3 ho5 hset
                  go_wp2_with fail
                  go_roundw
                  case rel => exact ⟨i + 1, N + 1, c5, A5, ts.set X (T + 1), hlt, by go_num, rfl, by omega, HN5, g1, g2, Lib.hid (by rw [HS2.out]; exact HTS.out), g3, g4, hSz7⟩
                  case measure => simp [intOf]; omega
                · have HS2 : Hid (shTo vs k (i + 1) = shTo vs k i) := Lib.hid (by rw [HST.out, if_neg hTQ])
                  have hI2 : ¬ (T : Int) < (Q : Int) := by omega
                  go_wp2_with fail
                  go_quiet (fail)
                  go_wp2_with fail
                  go_roundw
                  case rel => exact ⟨i + 1, N, cA, A2, ts, hlt, by go_num, rfl, by omega, Lib.hid (by rw [HS2.out]; exact HN.out), by rw [HS2.out]; exact oT.below (below_drewN (Below.refl _ _) _), oS.below (below_drewN (Below.refl _ _) _), Lib.hid (by rw [HS2.out]; exact HT.out), oC.below (below_drewN (Below.refl _ _) _), below_drewN hb _, hSz⟩
                  case measure => simp [intOf]; omega
              · have him : i = m := by omega
                have HF : Hid (shTo vs k i = shF vs k) := Lib.hid (by rw [him]; unfold shF; rw [HLV.out])
                rw [HF.out] at oT
                have HNN : Hid (N = (shF vs k).length) := Lib.hid (by rw [← HF.out]; exact HN.out)
                have hrd := hh.below hb
                have hrv := hh2.below hb
                have x1 := x0.next hb
                have HBZ := Lib.hid (HB0.out.trans (hb.mono HB0.out.size))
                obtain ⟨p, hp⟩ : ∃ p, p = shF vs k := ⟨_, rfl⟩
                rw [← hp] at oT HNN HYE HNE HSK hs1 hs2 HPN
                have r2 := oT.rd
                rw [← HNN.out] at hs1 hs2
                have HRL : Hid ((repV k p).length = N * k) := Lib.hid (by rw [repV_len, ← HNN.out])
                have HPW : Hid (∀ ww, Below wr.heap.size wr ww → Calls Tryd.prog 135 #[.slice A2 N cA, .int .i64 (k : Int)] ww (MakesE 2 ww (N * k) (ints (repV k p)))) := Lib.hid fun ww hw => l07Power_any A2 N cA k p ww (r2.below hw) (by omega) hk24
                obtain ⟨Q, hQ⟩ : ∃ Q, Q = N * k := ⟨_, rfl⟩
                rw [← hQ] at HPW HRL hs1
                have HSM : Hid (∀ ww A3 c3, Below wr.heap.size wr ww → Rd ww A3 Q (ints (repV k p)) → Calls Tryd.prog 104 #[.agg #[.int .i64 (n : Int), .slice A n c], .slice A3 Q c3, .slice A1 m d] ww fun e w' => e = .returned (.bool (takeB (RDep rs) (repV k p) vs)) ∧ Below ww.heap.size ww w') := Lib.hid fun ww A3 c3 hw h3 =>
                  l03Same_any A A3 A1 n c Q c3 m d rs (repV k p) vs ww (hrd.below hw) (by omega) HR.out h3 (by omega) (hrv.below hw) hm (fun x hx => HPN.out x (repV_mem hx)) HVN.out
                rw [HSK.out] at HSM
                have HNO : Hid (∀ ww, Below wr.heap.size wr ww → Calls Tryd.prog 53 #[.agg #[.int .i64 (n : Int), .slice A n c], .slice A2 N cA] ww (MakesE 2 ww N (ints (nfR rs p)))) := Lib.hid fun ww hw => by
                  have h9 := l03Normal_any A A2 n c N cA rs p ww (hrd.below hw) (by omega) HR.out (r2.below hw) (by omega) (fun x hx => in_getD HPN.out x (by rw [← HNN.out]; exact hx))
                  rw [HNR.out] at h9
                  exact h9
                have HNP : Hid ((nfR rs p).length = N) := Lib.hid (by rw [HNL.out p HPN.out, ← HNN.out])
                have HOC : Hid (∀ ww, Below wr.heap.size wr ww → Own 2 ww w1.heap.size AC n cC (ints (contM n vs))) := Lib.hid fun ww hw => oC.below hw
                have HHW := Lib.hid hb
                have hdr : Below wr.heap.size wr wr.drew := (Below.refl _ _).drew
                have s0 := (x1.next hdr).c0
                have s1 := (x1.next hdr).c1
                by_cases heq : nfR rs (repV k p) = nfR rs vs
                · rw [decide_eq_true heq] at HSM
                  have HVA : Hid (V = (nfR rs p, k)) := Lib.hid (by rw [HV.out, HYE.out heq])
                  clear heq hp hQ him oT oS oC HT
                  go_wp2_with fail
                  go_region_law (first
                    | (go_simp; go_at_call 135; (refine (HPW.out _ hdr).mono ?_); rintro e w7 ⟨A7, c7, rfl, o7, hb7⟩; have hb07 := hdr.trans (hb7.mono hdr.size); have s0 := (x1.next hb07).c0; have s1 := (x1.next hb07).c1)
                    | (go_simp; go_at_call 104; (refine (HSM.out _ _ _ hb07 o7.rd).mono ?_); rintro e w8 ⟨rfl, hb8⟩))
                  all_goals (
                    have hb08 := hb07.trans (hb8.mono hb07.size)
                    have t0 := (x1.next hb08).c0
                    have t1 := (x1.next hb08).c1
                    go_wp2_with fail
                    refine (HNO.out _ hb08).mono ?_
                    rintro e w9 ⟨A9, c9, rfl, o9, hb9⟩
                    have hb09 := hb08.trans (hb9.mono hb08.size)
                    go_wp2_with fail
                    go_ret2
                    rw [HVA.out]
                    refine ⟨A9, c9, ?_, ?_, HBZ.out.trans (hb09.mono HBZ.out.size)⟩
                    · show _ = Ending.returned (.tuple #[.slice A9 (nfR rs p).length c9, .int .i64 (k : Int)])
                      rw [HNP.out]; rfl
                    · show Own _ _ _ A9 (nfR rs p).length c9 (ints (nfR rs p))
                      rw [HNP.out]
                      exact o9.mono (by have := HBZ.out.size; have := hb08.size; omega))
                · rw [decide_eq_false heq] at HSM
                  have HVA : Hid (V = rtGo rs vs (k - 1)) := Lib.hid (by rw [HV.out, HNE.out heq])
                  clear heq hp hQ him oT oS oC HT
                  go_wp2_with fail
                  go_region_law (first
                    | (go_simp; go_at_call 135; (refine (HPW.out _ hdr).mono ?_); rintro e w7 ⟨A7, c7, rfl, o7, hb7⟩; have hb07 := hdr.trans (hb7.mono hdr.size); have s0 := (x1.next hb07).c0; have s1 := (x1.next hb07).c1)
                    | (go_simp; go_at_call 104; (refine (HSM.out _ _ _ hb07 o7.rd).mono ?_); rintro e w8 ⟨rfl, hb8⟩))
                  all_goals (
                    have hb08 := hb07.trans (hb8.mono hb07.size)
                    have oC8 := HOC.out _ hb08
                    have hb18 := HHW.out.trans (hb08.mono HHW.out.size)
                    go_wp2_with fail
                    go_roundw
                    case rel => exact ⟨k - 1, by omega, by first | rfl | (rw [← hsb2]; go_num) | go_num, HVA, oC8, hb18⟩
                    case measure => simp [intOf]; omega)
    · have hI : ¬ (1 : Int) < (k : Int) := by omega
      have HVA : Hid (V = (nfR rs vs, 1)) := Lib.hid (by rw [HV.out, rtGo_end rs vs k (by omega)])
      have HNO := Lib.hid (l03Normal_any A A1 n c m d rs vs wr (hh.below hb) (by omega) HR.out (hh2.below hb) hm HXN.out)
      rw [HNR.out] at HNO
      have hNL := HNL.out vs HVN.out
      rw [HLV.out] at hNL
      have HNLv := Lib.hid hNL
      clear hNL
      go_wp2_with fail
      refine HNO.out.mono ?_
      rintro e w4 ⟨A4, c4, rfl, o4, hb4⟩
      go_wp2_with fail
      go_ret2
      rw [HVA.out]
      refine ⟨A4, c4, ?_, ?_, HBW.out.trans (hb4.mono HBW.out.size)⟩
      · show _ = Ending.returned (.tuple #[.slice A4 (nfR rs vs).length c4, .int .i64 ((1 : Nat) : Int)])
        rw [HNLv.out]; rfl
      · show Own _ _ _ A4 (nfR rs vs).length c4 (ints (nfR rs vs))
        rw [HNLv.out]
        exact o4.mono HBW.out.size
end Go.Proofs.YtdafdffmkjhhcaaDoor
