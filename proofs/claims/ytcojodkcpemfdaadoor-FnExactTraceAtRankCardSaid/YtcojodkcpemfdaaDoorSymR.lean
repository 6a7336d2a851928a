/-
  slices.symMergeCmpFunc at []int64, where the second run is one number.
-/
import Derived.Test.YtcojodkcpemfdaaDoorSym
namespace Go.Proofs.YtcojodkcpemfdaaDoor
open Go.RowKit
set_option linter.unusedVariables false
set_option linter.unusedSimpArgs false
set_option maxRecDepth 100000

theorem rot_stepR (ds : List Nat) (q m : Nat) (ha : q + 1 ≤ m) (hk : m < ds.length) : ((rot ds (q + 1) m (m + 1)).set (q + 1) ((rot ds (q + 1) m (m + 1)).getD q 0)).set q ((rot ds (q + 1) m (m + 1)).getD (q + 1) 0) = rot ds q m (m + 1) := by
  refine list_eq_getD _ _ ds.length (by rw [List.length_set, List.length_set, rot_len]) (rot_len _ _ _ _) fun p hp => ?_
  rw [getD_set _ _ _ _ (by rw [List.length_set, rot_len]; omega), getD_set _ _ _ _ (by rw [rot_len]; omega), rot_at _ (q + 1) _ _ p hp, rot_at _ (q + 1) _ _ q (by omega), rot_at _ (q + 1) _ _ (q + 1) (by omega), rot_at _ q _ _ _ hp]
  by_cases h1 : p = q
  · rw [if_pos h1]; congr 1; (repeat' split) <;> omega
  · rw [if_neg h1]
    by_cases h2 : p = q + 1
    · rw [if_pos h2]; congr 1; (repeat' split) <;> omega
    · rw [if_neg h2]; congr 1; (repeat' split) <;> omega
theorem rot_noneR (ds : List Nat) (m : Nat) : rot ds m m (m + 1) = ds := by
  refine list_eq_getD _ _ ds.length (rot_len _ _ _ _) rfl fun p hp => ?_
  rw [rot_at _ _ _ _ _ hp]
  congr 1; (repeat' split) <;> omega
theorem right_srt {key : Nat → Nat} {ds : List Nat} {a m i : Nat} (hs : Srt key ds a m) (hb : m + 1 ≤ ds.length) (h1 : a ≤ i) (h2 : i ≤ m) (hlo : ∀ t, a ≤ t → t < i → key (ds.getD t 0) ≤ key (ds.getD m 0)) (hhi : ∀ t, i ≤ t → t < m → key (ds.getD m 0) < key (ds.getD t 0)) : Srt key (rot ds i m (m + 1)) a (m + 1) := by
  intro p q hp hpq hq
  rw [rot_at _ _ _ _ p (by omega), rot_at _ _ _ _ q (by omega)]
  by_cases p1 : p < i
  · rw [if_pos p1]
    by_cases q1 : q < i
    · rw [if_pos q1]; exact hs _ _ hp hpq (by omega)
    · rw [if_neg q1]
      by_cases q2 : q < i + (m + 1 - m)
      · rw [if_pos q2, show q - i + m = m by omega]; exact hlo _ hp p1
      · rw [if_neg q2, if_pos (by omega)]; exact hs _ _ hp (by omega) (by omega)
  · rw [if_neg p1, if_neg (by omega : ¬ q < i), if_neg (by omega : ¬ q < i + (m + 1 - m)), if_pos (by omega : q < m + 1)]
    by_cases p2 : p < i + (m + 1 - m)
    · rw [if_pos p2, show p - i + m = m by omega]; exact Nat.le_of_lt (hhi _ (by omega) (by omega))
    · rw [if_neg p2, if_pos (by omega : p < m + 1)]; exact hs _ _ (by omega) (by omega) (by omega)
set_option maxHeartbeats 6400000 in
theorem sym_right (B g n c a mm N : Nat) (ds : List Nat) (key : Nat → Nat) (cf : Nat → Nat → Int) (f : FuncId) (lb : Array Value) (w0 w : World) (h : Own 2 w B (some ⟨g, 0, none⟩) n c (ints ds)) (hw : w0.grownBy w (some g)) (hn : n ≤ 1048576) (hb : mm + 1 ≤ n) (hab : a + 1 < mm)
    (eg : ∀ args w, (callFunc f args).run Tryd.prog w = .ok (.enter f args) w) (hcmp : CmpOk w0 g N key cf f lb) (hds : ∀ x, x ∈ ds → x < N) (hst : St key ds) (hs : Srt key ds a mm) :
    Calls Tryd.prog 219 #[.slice (some ⟨g, 0, none⟩) n c, .int .i64 (a : Int), .int .i64 (mm : Int), .int .i64 ((mm : Int) + 1), .func (.func f) #[] lb] w (SymPost key w B g n c a (mm + 1) ds) := by
  have hlen : ds.length = n := by have := h.len; rw [ints_len] at this; exact this
  have HL := Lib.hid hlen
  have HC := Lib.hid hcmp
  have HD := Lib.hid hds
  have HST := Lib.hid hst
  have HS := Lib.hid hs
  have mixed : Tryd.prog.follows .mixedOrders = true := by kernel_rfl
  have hx1 : (mm : Int) + 1 - (mm : Int) = 1 := by omega
  obtain ⟨d, hd0⟩ : ∃ d, d = mm - a := ⟨_, rfl⟩
  have hx2 : (mm : Int) - (a : Int) = (d : Int) := by omega
  have hx3 : ((d : Int) == 1) = false := by simp; omega
  clear hd0
  clear hlen hcmp hds hst hs
  go_enter Tryd.func219, Tryd.ntmps219
  go_wp2_with fail
  go_loopw [14, 15] (fun p q wr => ∃ (i j : Nat), a ≤ i ∧ i ≤ j ∧ j ≤ mm ∧ p = .int .i64 i ∧ q = .int .i64 j ∧ Own 2 wr B (some ⟨g, 0, none⟩) n c (ints ds) ∧ w.grownBy wr (some g) ∧ (∀ t, a ≤ t → t < i → key (ds.getD t 0) ≤ key (ds.getD mm 0)) ∧ (∀ t, j ≤ t → t < mm → key (ds.getD mm 0) < key (ds.getD t 0))) (fun p q _ => (intOf q).toNat - (intOf p).toNat)
  case atStart => exact ⟨a, mm, by omega, by omega, by omega, rfl, rfl, h, World.grownBy.refl _ _, fun t h1 h2 => by omega, fun t h1 h2 => by omega⟩
  case round =>
    obtain ⟨i, j, hi, hij, hj, rfl, rfl, ho, hg, hlo, hhi⟩ := hrel
    have HLO := Lib.hid hlo
    have HHI := Lib.hid hhi
    clear hlo hhi h
    by_cases hlt : i < j
    · obtain ⟨m, hm⟩ : ∃ m, m = (i + j) / 2 := ⟨_, rfl⟩
      have hdiv : ((i : Int) + (j : Int)) / 2 = (m : Int) := by omega
      have hm1 : i ≤ m := by omega
      have hm2 : m < j := by omega
      obtain ⟨g1, e1, _, hca, _, _⟩ := own_stored ho (k := mm) (by omega)
      cases e1
      obtain ⟨g2, e2, _, hcm, _, _⟩ := own_stored ho (k := m) (by omega)
      cases e2
      have hxa : ds.getD mm 0 < N := HD.out _ (getD_mem' ds mm (by rw [HL.out]; omega))
      have hxm : ds.getD m 0 < N := HD.out _ (getD_mem' ds m (by rw [HL.out]; omega))
      have hc := fun k => HC.out.2 (ds.getD mm 0) (ds.getD m 0) (wr.drewN k) hxa hxm (grown_drewN' (hw.trans hg) k)
      have hz := HC.out.1 (ds.getD mm 0) (ds.getD m 0)
      have HM := Lib.hid hm
      obtain ⟨X, hX⟩ : ∃ X, X = ds.getD m 0 := ⟨_, rfl⟩
      obtain ⟨Y, hY⟩ : ∃ Y, Y = ds.getD mm 0 := ⟨_, rfl⟩
      rw [← hX] at hcm hc hz
      rw [← hY] at hca hc hz
      obtain ⟨Z, hZ⟩ : ∃ Z, Z = cf Y X := ⟨_, rfl⟩
      rw [← hZ] at hc hz
      have HX := Lib.hid hX
      have HY := Lib.hid hY
      have HZ := Lib.hid hz
      have ham : mm < n := by omega
      have hmn : m < n := by omega
      clear hm hxa hxm hX hY hZ hz
      by_cases hzz : Z < 0
      · have hd : decide (Z < 0) = true := decide_eq_true hzz
        go_wp2_with fail
        go_quiet_o (first | (go_at_fn f; refine Calls.quiet_of (hc _)))
        clear hdiv hc hcm hca hd
        go_wp2_with fail
        go_roundw
        case rel => exact ⟨i, m, hi, by omega, by omega, rfl, rfl, ho, grown_drewN' hg _, HLO.out, fun t h1 h2 => by
          have h4 : key Y < key X := HZ.out.1 hzz
          rw [← HY.out]
          by_cases h5 : t = m
          · rw [h5, ← HX.out]; exact h4
          · have := HS.out m t (by omega) (by omega) h2
            rw [← HX.out] at this
            omega⟩
        case measure => simp [intOf]; omega
      · have hd : decide (Z < 0) = false := decide_eq_false hzz
        go_wp2_with fail
        go_quiet_o (first | (go_at_fn f; refine Calls.quiet_of (hc _)))
        clear hdiv hc hcm hca hd
        go_wp2_with fail
        go_roundw
        case rel => exact ⟨m + 1, j, by omega, by omega, hj, by go_num, rfl, ho, grown_drewN' hg _, fun t h1 h2 => by
          have h4 : ¬ key Y < key X := fun h => by have := HZ.out.2 h; omega
          rw [← HY.out]
          by_cases h5 : t = m
          · rw [h5, ← HX.out]; omega
          · by_cases h3 : t < i
            · have := HLO.out t h1 h3
              rw [← HY.out] at this; exact this
            · have := HS.out t m h1 (by omega) (by omega)
              rw [← HX.out] at this
              omega, HHI.out⟩
        case measure => simp [intOf]; omega
    · obtain rfl : i = j := by omega
      clear hij hlt
      have ho1 : Own 2 wr B (some ⟨g, 0, none⟩) n c (ints (rot ds mm mm (mm + 1))) := by rw [rot_noneR]; exact ho
      obtain ⟨wo, rfl⟩ : ∃ wo : World, wo = wr := ⟨_, rfl⟩
      go_wp2_with fail
      go_loopw [17] (fun q wr => ∃ k : Nat, i ≤ k ∧ k ≤ mm ∧ q = .int .i64 k ∧ Own 2 wr B (some ⟨g, 0, none⟩) n c (ints (rot ds k mm (mm + 1))) ∧ w.grownBy wr (some g)) (fun q _ => (intOf q).toNat)
      case atStart => exact ⟨mm, hj, Nat.le_refl _, rfl, ho1, hg⟩
      case round =>
        clear ho ho1 hg
        obtain ⟨k, hk1, hk2, rfl, ho, hg⟩ := hrel
        by_cases hlt : i < k
        · obtain ⟨q, hq⟩ : ∃ q, k = q + 1 := ⟨k - 1, by omega⟩
          subst hq
          have hnext := rot_stepR ds q mm (by omega) (by rw [HL.out]; omega)
          obtain ⟨ga, ea, _, hca, hfa, hseta⟩ := own_stored ho (k := q + 1) (by omega)
          cases ea
          obtain ⟨gb, eb, _, hcb, hfb, _⟩ := own_stored ho (k := q) (by omega)
          cases eb
          have h1 := hseta ((rot ds (q + 1) mm (mm + 1)).getD q 0)
          obtain ⟨gc, ec, _, _, _, hsetb⟩ := own_stored h1 (k := q) (by omega)
          cases ec
          have h2 := hsetb ((rot ds (q + 1) mm (mm + 1)).getD (q + 1) 0)
          rw [hnext] at h2
          obtain ⟨X, hX⟩ : ∃ X, X = (rot ds (q + 1) mm (mm + 1)).getD (q + 1) 0 := ⟨_, rfl⟩
          obtain ⟨Y, hY⟩ : ∃ Y, Y = (rot ds (q + 1) mm (mm + 1)).getD q 0 := ⟨_, rfl⟩
          rw [← hX] at hca h2
          rw [← hY] at hcb h2
          obtain ⟨p, hp⟩ : ∃ p, p = q + 1 := ⟨_, rfl⟩
          rw [← hp] at hca hfa h2 hlt hk1 hk2 ⊢
          have hkn : p < n := by omega
          have hqn : q < n := by omega
          have hne1 : ¬ p = q := by omega
          have hne2 : ¬ q = p := by omega
          have H2 := Lib.hid h2
          have hg2 := grown_drew (grown_set (grown_set hg p (.int .i64 (Y : Int))) q (.int .i64 (X : Int)))
          have HG2 := Lib.hid hg2
          have HPQ := Lib.hid hp
          have hz1 : (0 : Int) ≤ (p : Int) := Int.natCast_nonneg _
          have hz2 : (0 : Int) ≤ (q : Int) := Int.natCast_nonneg _
          have hz3 : (p : Int) < (n : Int) := Int.ofNat_lt.2 hkn
          have hz4 : (q : Int) < (n : Int) := Int.ofNat_lt.2 hqn
          have ht1 : ((p : Int)).toNat = p := by simp
          have ht2 : ((q : Int)).toNat = q := by simp
          have hw2 : IntKind.i64.wrap ((p : Int) - 1) = (q : Int) := by rw [IntKind.wrap_i64]; omega
          clear hX hY hp hseta hsetb h1 h2 hnext hg2 ho hg
          go_wp2_with fail
          go_big_region_o
          clear hw2 hz1 hz2 hz3 hz4 ht1 ht2 hca hcb hfa hfb
          go_wp2_with fail
          go_roundw
          case rel => exact ⟨q, by have := HPQ.out; omega, by have := HPQ.out; omega, by congr 1; have := HPQ.out; omega, H2.out, HG2.out⟩
          case measure => have := HPQ.out; simp [intOf]; omega
        · obtain rfl : k = i := by omega
          have hb2 : mm + 1 ≤ ds.length := by rw [HL.out]; exact hb
          have hps : (rot ds k mm (mm + 1)).Perm ds := rot_perm _ _ _ _ hb2 hj (by omega)
          have hss : St key (rot ds k mm (mm + 1)) := rot_st HST.out (fun p q h1 h2 h3 h4 => by
            have : q = mm := by omega
            subst this
            exact HHI.out p h1 h2) hb2 hj (by omega)
          have hsm := (rot_same ds k mm (mm + 1) hb2 hj (by omega)).wide hi (Nat.le_refl _)
          have hsr := right_srt HS.out hb2 hi hj HLO.out HHI.out
          have HE := Lib.hid (show ∃ es : List Nat, Own 2 wr B (some ⟨g, 0, none⟩) n c (ints es) ∧ w.grownBy wr (some g) ∧ es.Perm ds ∧ St key es ∧ Same ds es a (mm + 1) ∧ Srt key es a (mm + 1) from ⟨_, ho, hg, hps, hss, hsm, hsr⟩)
          clear hps hss hsm hsr ho hg
          go_wp2_with fail
          exact bodyPost_end (results_none Tryd.results219 _ _ _) rfl ⟨rfl, HE.out⟩
end Go.Proofs.YtcojodkcpemfdaaDoor
