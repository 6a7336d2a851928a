/-
  slices.symMergeCmpFunc at []int64: two sorted runs become one, equals keep their order.
-/
import Derived.Test.YtcojodkcpemfdaaDoorXchg
import Derived.Test.YtcojodkcpemfdaaDoorWord
namespace Go.Proofs.YtcojodkcpemfdaaDoor
open Go.RowKit
set_option linter.unusedVariables false
set_option linter.unusedSimpArgs false
set_option maxRecDepth 100000

/-- What a sort of the numbers in a block asks of its comparison: it answers by keys, in every world that the sort passes through, and only reads. -/
def CmpOk (w0 : World) (g N : Nat) (key : Nat → Nat) (cf : Nat → Nat → Int) (f : FuncId) (lb : Array Value) : Prop :=
  (∀ x y, cf x y < 0 ↔ key x < key y) ∧ ∀ (x y : Nat) (wx : World), x < N → y < N → w0.grownBy wx (some g) → Calls Tryd.prog f (#[.int .i64 (x : Int), .int .i64 (y : Int)] ++ lb) wx fun e w' => e = .returned (.int .i64 (cf x y)) ∧ ∃ q, w' = wx.drewN q
def SymPost (key : Nat → Nat) (w : World) (B g n c a b : Nat) (ds : List Nat) (e : Ending) (w' : World) : Prop :=
  e = .returned (.tuple #[]) ∧ ∃ es : List Nat, Own 2 w' B (some ⟨g, 0, none⟩) n c (ints es) ∧ w.grownBy w' (some g) ∧ es.Perm ds ∧ St key es ∧ Same ds es a b ∧ Srt key es a b
theorem getD_mem' (ms : List Nat) (j : Nat) (h : j < ms.length) : ms.getD j 0 ∈ ms := by
  rw [List.getD_eq_getElem?_getD, List.getElem?_eq_getElem h]; exact List.getElem_mem _
theorem grown_drewN' {w w' : World} {row : Option Nat} (h : w.grownBy w' row) (k : Nat) : w.grownBy (w'.drewN k) row := ⟨h.os, h.tape, h.output, h.size, h.block⟩
theorem rot_step (ds : List Nat) (a k : Nat) (ha : a ≤ k) (hk : k + 1 < ds.length) : ((rot ds a (a + 1) (k + 1)).set k ((rot ds a (a + 1) (k + 1)).getD (k + 1) 0)).set (k + 1) ((rot ds a (a + 1) (k + 1)).getD k 0) = rot ds a (a + 1) (k + 2) := by
  refine list_eq_getD _ _ ds.length (by rw [List.length_set, List.length_set, rot_len]) (rot_len _ _ _ _) fun p hp => ?_
  rw [getD_set _ _ _ _ (by rw [List.length_set, rot_len]; exact hk), getD_set _ _ _ _ (by rw [rot_len]; omega), rot_at _ _ _ (k + 1) _ hp, rot_at _ _ _ (k + 1) k (by omega), rot_at _ _ _ (k + 1) (k + 1) hk, rot_at _ _ _ (k + 2) _ hp]
  by_cases h1 : p = k + 1
  · rw [if_pos h1]; congr 1; (repeat' split) <;> omega
  · rw [if_neg h1]
    by_cases h2 : p = k
    · rw [if_pos h2]; congr 1; (repeat' split) <;> omega
    · rw [if_neg h2]; congr 1; (repeat' split) <;> omega
theorem rot_none (ds : List Nat) (a : Nat) : rot ds a (a + 1) (a + 1) = ds := by
  refine list_eq_getD _ _ ds.length (rot_len _ _ _ _) rfl fun p hp => ?_
  rw [rot_at _ _ _ _ _ hp]
  congr 1; (repeat' split) <;> omega
theorem left_srt {key : Nat → Nat} {ds : List Nat} {a b i : Nat} (hs : Srt key ds (a + 1) b) (hb : b ≤ ds.length) (h1 : a + 1 ≤ i) (h2 : i ≤ b) (hlo : ∀ t, a + 1 ≤ t → t < i → key (ds.getD t 0) < key (ds.getD a 0)) (hhi : ∀ t, i ≤ t → t < b → key (ds.getD a 0) ≤ key (ds.getD t 0)) : Srt key (rot ds a (a + 1) i) a b := by
  intro p q hp hpq hq
  rw [rot_at _ _ _ _ p (by omega), rot_at _ _ _ _ q (by omega), if_neg (by omega : ¬ p < a), if_neg (by omega : ¬ q < a)]
  by_cases p1 : p < a + (i - (a + 1))
  · rw [if_pos p1]
    by_cases q1 : q < a + (i - (a + 1))
    · rw [if_pos q1]; exact hs _ _ (by omega) (by omega) (by omega)
    · rw [if_neg q1]
      by_cases q2 : q < i
      · rw [if_pos q2, show q - (i - (a + 1)) = a by omega]
        exact Nat.le_of_lt (hlo _ (by omega) (by omega))
      · rw [if_neg q2]; exact hs _ _ (by omega) (by omega) hq
  · rw [if_neg p1, if_neg (by omega : ¬ q < a + (i - (a + 1)))]
    by_cases p2 : p < i
    · rw [if_pos p2, if_neg (by omega : ¬ q < i), show p - (i - (a + 1)) = a by omega]
      exact hhi _ (by omega) hq
    · rw [if_neg p2, if_neg (by omega : ¬ q < i)]
      exact hs _ _ (by omega) hpq hq
set_option maxHeartbeats 6400000 in
theorem sym_left (B g n c a b N : Nat) (ds : List Nat) (key : Nat → Nat) (cf : Nat → Nat → Int) (f : FuncId) (lb : Array Value) (w0 w : World) (h : Own 2 w B (some ⟨g, 0, none⟩) n c (ints ds)) (hw : w0.grownBy w (some g)) (hn : n ≤ 1048576) (hb : b ≤ n) (hab : a + 1 < b)
    (eg : ∀ args w, (callFunc f args).run Tryd.prog w = .ok (.enter f args) w) (hcmp : CmpOk w0 g N key cf f lb) (hds : ∀ x, x ∈ ds → x < N) (hst : St key ds) (hs : Srt key ds (a + 1) b) :
    Calls Tryd.prog 219 #[.slice (some ⟨g, 0, none⟩) n c, .int .i64 (a : Int), .int .i64 ((a : Int) + 1), .int .i64 (b : Int), .func (.func f) #[] lb] w (SymPost key w B g n c a b ds) := by
  have hlen : ds.length = n := by have := h.len; rw [ints_len] at this; exact this
  have HL := Lib.hid hlen
  have HC := Lib.hid hcmp
  have HD := Lib.hid hds
  have HST := Lib.hid hst
  have HS := Lib.hid hs
  have mixed : Tryd.prog.follows .mixedOrders = true := by kernel_rfl
  have hx1 : (a : Int) + 1 - (a : Int) = 1 := by omega
  clear hlen hcmp hds hst hs
  go_enter Tryd.func219, Tryd.ntmps219
  go_wp2_with fail
  go_loopw [10, 11] (fun p q wr => ∃ (i j : Nat), a + 1 ≤ i ∧ i ≤ j ∧ j ≤ b ∧ p = .int .i64 i ∧ q = .int .i64 j ∧ Own 2 wr B (some ⟨g, 0, none⟩) n c (ints ds) ∧ w.grownBy wr (some g) ∧ (∀ t, a + 1 ≤ t → t < i → key (ds.getD t 0) < key (ds.getD a 0)) ∧ (∀ t, j ≤ t → t < b → key (ds.getD a 0) ≤ key (ds.getD t 0))) (fun p q _ => (intOf q).toNat - (intOf p).toNat)
  case atStart => exact ⟨a + 1, b, by omega, by omega, by omega, by go_num, rfl, h, World.grownBy.refl _ _, fun t h1 h2 => by omega, fun t h1 h2 => by omega⟩
  case round =>
    obtain ⟨i, j, hi, hij, hj, rfl, rfl, ho, hg, hlo, hhi⟩ := hrel
    have HLO := Lib.hid hlo
    have HHI := Lib.hid hhi
    clear hlo hhi h
    by_cases hlt : i < j
    · obtain ⟨m, hm⟩ : ∃ m, m = (i + j) / 2 := ⟨_, rfl⟩
      have hdiv : ((i : Int) + (j : Int)) / 2 = (m : Int) := by omega
      have hm1 : i ≤ m := by omega
      have hm2 : m < j := by omega
      obtain ⟨g1, e1, _, hca, _, _⟩ := own_stored ho (k := a) (by omega)
      cases e1
      obtain ⟨g2, e2, _, hcm, _, _⟩ := own_stored ho (k := m) (by omega)
      cases e2
      have hxa : ds.getD a 0 < N := HD.out _ (getD_mem' ds a (by rw [HL.out]; omega))
      have hxm : ds.getD m 0 < N := HD.out _ (getD_mem' ds m (by rw [HL.out]; omega))
      have hc := fun k => HC.out.2 (ds.getD m 0) (ds.getD a 0) (wr.drewN k) hxm hxa (grown_drewN' (hw.trans hg) k)
      have hz := HC.out.1 (ds.getD m 0) (ds.getD a 0)
      have HM := Lib.hid hm
      obtain ⟨X, hX⟩ : ∃ X, X = ds.getD m 0 := ⟨_, rfl⟩
      obtain ⟨Y, hY⟩ : ∃ Y, Y = ds.getD a 0 := ⟨_, rfl⟩
      rw [← hX] at hcm hc hz
      rw [← hY] at hca hc hz
      obtain ⟨Z, hZ⟩ : ∃ Z, Z = cf X Y := ⟨_, rfl⟩
      rw [← hZ] at hc hz
      have HX := Lib.hid hX
      have HY := Lib.hid hY
      have HZ := Lib.hid hz
      have ham : a < n := by omega
      have hmn : m < n := by omega
      clear hm hxa hxm hX hY hZ hz
      by_cases hzz : Z < 0
      · have hd : decide (Z < 0) = true := decide_eq_true hzz
        go_wp2_with fail
        go_quiet_o (first | (go_at_fn f; refine Calls.quiet_of (hc _)))
        clear hdiv hc hcm hca hd
        go_wp2_with fail
        go_roundw
        case rel => exact ⟨m + 1, j, by omega, by omega, hj, by go_num, rfl, ho, grown_drewN' hg _, fun t h1 h2 => by
          by_cases h3 : t < i
          · exact HLO.out t h1 h3
          · have h4 : key X < key Y := HZ.out.1 hzz
            rw [← HY.out]
            by_cases h5 : t = m
            · rw [h5, ← HX.out]; exact h4
            · have := HS.out t m h1 (by omega) (by omega)
              rw [← HX.out] at this
              omega, HHI.out⟩
        case measure => simp [intOf]; omega
      · have hd : decide (Z < 0) = false := decide_eq_false hzz
        go_wp2_with fail
        go_quiet_o (first | (go_at_fn f; refine Calls.quiet_of (hc _)))
        clear hdiv hc hcm hca hd
        go_wp2_with fail
        go_roundw
        case rel => exact ⟨i, m, hi, by omega, by omega, rfl, rfl, ho, grown_drewN' hg _, HLO.out, fun t h1 h2 => by
          have h4 : ¬ key X < key Y := fun h => by have := HZ.out.2 h; omega
          rw [← HY.out]
          by_cases h5 : t = m
          · rw [h5, ← HX.out]; omega
          · have := HS.out m t (by omega) (by omega) h2
            rw [← HX.out] at this
            omega⟩
        case measure => simp [intOf]; omega
    · obtain rfl : i = j := by omega
      obtain ⟨i1, hi1⟩ : ∃ i1, i = i1 + 1 := ⟨i - 1, by omega⟩
      subst hi1
      clear hij hlt
      have ho1 : Own 2 wr B (some ⟨g, 0, none⟩) n c (ints (rot ds a (a + 1) (a + 1))) := by rw [rot_none]; exact ho
      obtain ⟨wo, rfl⟩ : ∃ wo : World, wo = wr := ⟨_, rfl⟩
      go_wp2_with fail
      go_loopw [13] (fun q wr => ∃ k : Nat, a ≤ k ∧ k ≤ i1 ∧ q = .int .i64 k ∧ Own 2 wr B (some ⟨g, 0, none⟩) n c (ints (rot ds a (a + 1) (k + 1))) ∧ w.grownBy wr (some g)) (fun q _ => i1 - (intOf q).toNat)
      case atStart => exact ⟨a, Nat.le_refl _, by omega, rfl, ho1, hg⟩
      case round =>
        clear ho ho1 hg
        obtain ⟨k, hk1, hk2, rfl, ho, hg⟩ := hrel
        by_cases hlt : k < i1
        · have hnext := rot_step ds a k hk1 (by rw [HL.out]; omega)
          obtain ⟨ga, ea, _, hca, hfa, hseta⟩ := own_stored ho (k := k) (by omega)
          cases ea
          obtain ⟨gb, eb, _, hcb, hfb, _⟩ := own_stored ho (k := k + 1) (by omega)
          cases eb
          have h1 := hseta ((rot ds a (a + 1) (k + 1)).getD (k + 1) 0)
          obtain ⟨gc, ec, _, _, _, hsetb⟩ := own_stored h1 (k := k + 1) (by omega)
          cases ec
          have h2 := hsetb ((rot ds a (a + 1) (k + 1)).getD k 0)
          rw [hnext] at h2
          obtain ⟨X, hX⟩ : ∃ X, X = (rot ds a (a + 1) (k + 1)).getD k 0 := ⟨_, rfl⟩
          obtain ⟨Y, hY⟩ : ∃ Y, Y = (rot ds a (a + 1) (k + 1)).getD (k + 1) 0 := ⟨_, rfl⟩
          rw [← hX] at hca h2
          rw [← hY] at hcb h2
          obtain ⟨q, hq⟩ : ∃ q, q = k + 1 := ⟨_, rfl⟩
          rw [← hq] at hcb hfb h2
          have hkn : k < n := by omega
          have hqn : q < n := by omega
          have hne1 : ¬ k = q := by omega
          have hne2 : ¬ q = k := by omega
          have H2 := Lib.hid h2
          have hg2 := grown_drew (grown_set (grown_set hg k (.int .i64 (Y : Int))) q (.int .i64 (X : Int)))
          have HG2 := Lib.hid hg2
          have hz1 : (0 : Int) ≤ (k : Int) := Int.natCast_nonneg _
          have hz2 : (0 : Int) ≤ (q : Int) := Int.natCast_nonneg _
          have hz3 : (k : Int) < (n : Int) := Int.ofNat_lt.2 hkn
          have hz4 : (q : Int) < (n : Int) := Int.ofNat_lt.2 hqn
          have ht1 : ((k : Int)).toNat = k := by simp
          have ht2 : ((q : Int)).toNat = q := by simp
          have hw2 : IntKind.i64.wrap ((k : Int) + 1) = (q : Int) := by rw [IntKind.wrap_i64]; omega
          clear hX hY hq hseta hsetb h1 h2 hnext hg2 ho hg
          go_wp2_with fail
          go_big_region_o
          clear hw2 hz1 hz2 hz3 hz4 ht1 ht2 hca hcb hfa hfb
          go_wp2_with fail
          go_roundw
          case rel => exact ⟨k + 1, by omega, by omega, by go_num, H2.out, HG2.out⟩
          case measure => simp [intOf]; omega
        · obtain rfl : k = i1 := by omega
          have hb2 : b ≤ ds.length := by rw [HL.out]; exact hb
          have hps : (rot ds a (a + 1) (k + 1)).Perm ds := rot_perm _ _ _ _ (by omega) (by omega) (by omega)
          have hss : St key (rot ds a (a + 1) (k + 1)) := rot_st HST.out (fun p q h1 h2 h3 h4 => by
            have : p = a := by omega
            subst this
            exact HLO.out q h3 h4) (by omega) (by omega) (by omega)
          have hsm := (rot_same ds a (a + 1) (k + 1) (by omega) (by omega) (by omega)).wide (Nat.le_refl a) hj
          have hsr := left_srt HS.out hb2 hi hj HLO.out HHI.out
          have HE := Lib.hid (show ∃ es : List Nat, Own 2 wr B (some ⟨g, 0, none⟩) n c (ints es) ∧ w.grownBy wr (some g) ∧ es.Perm ds ∧ St key es ∧ Same ds es a b ∧ Srt key es a b from ⟨_, ho, hg, hps, hss, hsm, hsr⟩)
          clear hps hss hsm hsr ho hg
          go_wp2_with fail
          exact bodyPost_end (results_none Tryd.results219 _ _ _) rfl ⟨rfl, HE.out⟩
end Go.Proofs.YtcojodkcpemfdaaDoor
