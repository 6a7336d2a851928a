/-
  Concatenate: both sides.
-/
import Derived.Test.YtmooanfcedgfnaaDoorDvG
namespace Go.Proofs.YtmooanfcedgfnaaDoor
open Go Go.RowKit
set_option linter.unusedVariables false
set_option maxRecDepth 100000

theorem flat_take (Ws : List (List Nat)) (k : Nat) (h : k < Ws.length) : (Ws.take (k + 1)).flatten = (Ws.take k).flatten ++ Ws.getD k [] := by
  rw [List.take_add_one, List.getD_eq_getElem?_getD, List.getElem?_eq_getElem h, List.flatten_append]; simp
theorem flat_len (Ws : List (List Nat)) (hm : ∀ k, (Ws.getD k []).length ≤ 24) : ∀ k, k ≤ Ws.length → (Ws.take k).flatten.length ≤ 24 * k
  | 0, _ => by simp
  | k + 1, h => by
    rw [flat_take Ws k (by omega), List.length_append]
    have := flat_len Ws hm k (by omega)
    have := hm k
    omega
set_option maxHeartbeats 3200000 in
theorem concat_any (T : Option Addr) (nT cT : Nat) (ts : List (Option Addr × Nat × Nat × List Int)) (Ws : List (List Nat)) (w : World)
    (hT : RdT w T nT ts) (hnT : nT ≤ 24) (hlW : Ws.length = nT) (hW : ∀ k t, ts[k]? = some t → t.2.2.2 = ints (Ws.getD k [])) (hWm : ∀ k, (Ws.getD k []).length ≤ 24) :
    Calls Tryd.prog 89 #[.slice T nT cT] w (MakesE 2 w Ws.flatten.length (ints Ws.flatten)) := by
  have HLW := Lib.hid hlW
  have HW := Lib.hid hW
  have HFT : Hid (∀ k, k < nT → (Ws.take (k + 1)).flatten = (Ws.take k).flatten ++ Ws.getD k []) := Lib.hid (fun k hk => flat_take Ws k (by rw [hlW]; exact hk))
  have HFL : Hid (∀ k, k ≤ nT → (Ws.take k).flatten.length ≤ 24 * k) := Lib.hid (fun k hk => flat_len Ws hWm k (by rw [hlW]; exact hk))
  have HFA : Hid (Ws.take nT = Ws) := Lib.hid (List.take_of_length_le (by rw [hlW]; exact Nat.le_refl _))
  clear hlW hW hWm
  go_enter Tryd.func89, Tryd.ntmps89
  go_wp2_with fail
  go_loop [3, 11] (fun sv iv => ∃ k S : Nat, k ≤ nT ∧ iv = .int .i64 (k : Int) ∧ sv = .int .i64 (S : Int) ∧ S = (Ws.take k).flatten.length) (fun _ iv => nT - (intOf iv).toNat)
  case atStart => exact ⟨0, 0, Nat.zero_le _, rfl, rfl, rfl⟩
  case round =>
    obtain ⟨k, S, hk, rfl, rfl, hS⟩ := hrel
    have HS := Lib.hid hS
    have HSL : Hid (S ≤ 24 * k) := Lib.hid (by rw [hS]; exact HFL.out k hk)
    clear hS
    by_cases hlt : k < nT
    · obtain ⟨bt, ot, Bk, nk, ck, xk, rfl, hbt, htk, hct, hrk, hmk⟩ := hT.at_ hlt
      have hxk : xk = ints (Ws.getD k []) := HW.out k _ htk
      have hnk : (Ws.getD k []).length = nk := by have := hrk.1; rw [hxk, ints_len] at this; exact this
      have HSN : Hid (S + nk = (Ws.take (k + 1)).flatten.length) := Lib.hid (by rw [HFT.out k hlt, List.length_append, ← HS.out, hnk])
      have hsl := HSL.out
      have hsn : S + nk ≤ 24 * (k + 1) := by rw [HSN.out]; exact HFL.out (k + 1) hlt
      have hw1 : IntKind.i64.wrap ((S : Int) + (nk : Int)) = ((S + nk : Nat) : Int) := by rw [IntWalk.i64_left]; unfold wrap64; omega
      have hge : (0 : Int) ≤ ((S + nk : Nat) : Int) := by omega
      clear hxk hnk
      go_wp2_with fail
      go_round
      case rel => exact ⟨k + 1, S + nk, hlt, by go_num, by simp, HSN.out⟩
      case measure => simp [intOf]; omega
    · have hkm : k = nT := by omega
      subst hkm
      have HSF : Hid (S = Ws.flatten.length) := Lib.hid (by rw [HS.out, HFA.out])
      have HGR := Lib.hid (growNil_any S (by have := HSL.out; omega) w)
      go_wp2_with fail
      refine HGR.out.mono ?_
      rintro e w1 ⟨A0, c0, rfl, o0, hb1⟩
      go_wp2_with fail
      go_loopw [6, 27] (fun av iv wr => ∃ (j N cA : Nat) (A : Option Addr), j ≤ k ∧ av = .slice A N cA ∧ iv = .int .i64 (j : Int) ∧ N = (Ws.take j).flatten.length ∧ Own 2 wr w.heap.size A N cA (ints (Ws.take j).flatten) ∧ Below w.heap.size w wr) (fun _ iv _ => k - (intOf iv).toNat)
      case atStart => exact ⟨0, 0, c0, A0, Nat.zero_le _, rfl, rfl, rfl, o0, hb1⟩
      case round =>
        clear o0 hb1
        obtain ⟨j, N, cA, A, hj, rfl, rfl, hN, ho, hb⟩ := hrel
        have HN := Lib.hid hN
        have HNL : Hid (N ≤ 24 * j) := Lib.hid (by rw [hN]; exact HFL.out j hj)
        clear hN
        by_cases hlt2 : j < k
        · obtain ⟨bt, ot, Bk, nk, ck, xk, rfl, hbt, htk, hct, hrk, hmk⟩ := (hT.below hb).at_ hlt2
          have hxk : xk = ints (Ws.getD j []) := HW.out j _ htk
          subst hxk
          have hnk : (Ws.getD j []).length = nk := by have := hrk.1; rw [ints_len] at this; exact this
          have HSN : Hid (N + nk = (Ws.take (j + 1)).flatten.length) := Lib.hid (by rw [HFT.out j hlt2, List.length_append, ← HN.out, hnk])
          have hsn : N + nk ≤ 24 * (j + 1) := by rw [HSN.out]; exact HFL.out (j + 1) hlt2
          have HFJ := Lib.hid (HFT.out j hlt2)
          have hml : N + nk ≤ maxLen := by unfold maxLen; omega
          have hby : (N + nk) * 8 ≤ 140737488355328 := by omega
          have hbase := hb.size
          obtain ⟨al, hal⟩ : ∃ al, al = (Ws.take j).flatten := ⟨_, rfl⟩
          obtain ⟨v, hv⟩ : ∃ v, v = Ws.getD j [] := ⟨_, rfl⟩
          rw [← hal] at ho HFJ
          rw [← hv] at hrk HFJ
          clear hal hv hnk
          go_wp2_with (at_builtin; refine wpList_append_rd rfl _ _ rfl w.heap.size A N cA al rfl ho Bk nk ck v rfl hrk hml hby hbase ?_; intro A6 c6 w6 o6 hg6; have HB6 : Hid (Below w.heap.size w w6) := Lib.hid (hb.grown hg6 hbase (fun k e9 => (ho.lt k (ownBlock_map' e9)).1)); rw [← HFJ.out] at o6)
          go_wp2_with fail
          go_roundw
          case rel => exact ⟨j + 1, N + nk, c6, A6, hlt2, rfl, by go_num, HSN.out, o6, HB6.out⟩
          case measure => simp [intOf]; omega
        · have hjk : j = k := by omega
          subst hjk
          have HE : Hid (N = Ws.flatten.length) := Lib.hid (by rw [HN.out, HFA.out])
          rw [HFA.out] at ho
          go_wp2_with fail
          go_ret
          rw [← HE.out]
          exact ⟨A, cA, rfl, ho, hb⟩
def coF (rs us ts : List Nat) : List Nat × Int := if 24 < us.length + ts.length then ([], 3) else (nfR rs (us ++ ts), 0)
theorem coF_long (rs us ts : List Nat) (h : 24 < us.length + ts.length) : coF rs us ts = ([], 3) := if_pos h
theorem coF_yes (rs us ts : List Nat) (h : us.length + ts.length ≤ 24) : coF rs us ts = (nfR rs (us ++ ts), 0) := if_neg (by omega)
theorem coF_small (L : Int) (xs us ts : List Int) : (dL coF L xs us ts).1.length ≤ 24 := dL_small coF 24 (fun rs us ts _ _ => by
  rcases Nat.lt_or_ge 24 (us.length + ts.length) with h | h
  · rw [coF_long _ _ _ h]; exact Nat.zero_le _
  · rw [coF_yes _ _ _ h]; exact Nat.le_trans (nfR_len rs _) (by rw [List.length_append]; exact h)) L xs us ts
set_option maxHeartbeats 1600000 in
theorem product_two (A2 A1 B1 T : Option Addr) (n c2 m d q f cT : Nat) (rs vs ys : List Nat) (w : World) (hrd : Rd w A2 n (ints rs)) (h24 : n ≤ 24) (hl : rs.length = n) (hr : ∀ i, rs.getD i 0 < 2 ^ n) (hdep : Dep rs)
    (h2 : Rd w A1 m (ints vs)) (hm : m ≤ 24) (h3 : Rd w B1 q (ints ys)) (hq : q ≤ 24) (hvn : ∀ x, x ∈ vs → x < n) (hyn : ∀ x, x ∈ ys → x < n) (hRT : RdT w T 2 [(A1, m, d, ints vs), (B1, q, f, ints ys)]) (hT : Tab w) :
    Calls Tryd.prog 57 #[.slice A2 n c2, .slice T 2 cT] w (LsPost w (ints (coF rs vs ys).1).length (ints (coF rs vs ys).1) (coF rs vs ys).2) := by
  have HLU : Hid (vs.length = m) := Lib.hid (by have := h2.1; rw [ints_len] at this; exact this)
  have HLV : Hid (ys.length = q) := Lib.hid (by have := h3.1; rw [ints_len] at this; exact this)
  have HLR := Lib.hid hl
  have HR := Lib.hid hr
  have HDEP := Lib.hid hdep
  have HR63 : Hid (∀ i, rs.getD i 0 < 9223372036854775808) := Lib.hid fun i => lt63 h24 (hr i)
  have HCO := Lib.hid (concat_any T 2 cT _ [vs, ys] w hRT (by omega) rfl (fun k t hk => by
    match k, hk with
    | 0, hk => injection hk with hk; subst hk; rfl
    | 1, hk => injection hk with hk; subst hk; rfl
    | k + 2, hk => simp at hk) (fun k => by
    match k with
    | 0 => show vs.length ≤ 24; have := HLU.out; omega
    | 1 => show ys.length ≤ 24; have := HLV.out; omega
    | k + 2 => simp))
  rw [show [vs, ys].flatten = vs ++ ys by simp] at HCO
  have hlen : (vs ++ ys).length = m + q := by rw [List.length_append, HLU.out, HLV.out]
  have HWM : Hid (∀ x, x ∈ vs ++ ys → x < n) := Lib.hid (fun x hx => by
    rcases List.mem_append.1 hx with h1 | h1
    · exact hvn x h1
    · exact hyn x h1)
  obtain ⟨W, hW⟩ : ∃ W, W = vs ++ ys := ⟨_, rfl⟩
  rw [← hW] at HCO hlen HWM
  obtain ⟨k, hk⟩ : ∃ k, k = W.length := ⟨_, rfl⟩
  rw [← hk] at HCO hlen
  have HLK : Hid (W.length = k) := Lib.hid hk.symm
  have HRK : Hid (∀ x, x < k → W.getD x 0 < n) := Lib.hid fun x hx => in_getD HWM.out x (by rw [HLK.out]; exact hx)
  by_cases hlong : 24 < k
  · have HA := Lib.hid (coF_long rs vs ys (by rw [HLU.out, HLV.out]; omega))
    have hI : (24 : Int) < (k : Int) := by omega
    clear hk hlen hW hlong hl hr
    go_enter Tryd.func57, Tryd.ntmps57
    go_wp2_with fail
    refine HCO.out.mono ?_
    rintro e w1 ⟨A3, c3, rfl, o3, hb⟩
    go_wp2_with fail
    go_ret2
    rw [HA.out]
    exact LsPost.of_ans (ans_no 3 hb)
  · have HA : Hid (coF rs vs ys = (nfR rs W, 0)) := Lib.hid (by rw [hW]; exact coF_yes rs vs ys (by rw [HLU.out, HLV.out]; omega))
    have hk24 : k ≤ 24 := by omega
    have hI : (k : Int) ≤ 24 := by omega
    clear hk hlen hW hlong hl hr
    go_enter Tryd.func57, Tryd.ntmps57
    go_wp2_with fail
    refine HCO.out.mono ?_
    rintro e w1 ⟨A3, c3, rfl, o3, hb⟩
    have hrd1 := hrd.below hb
    have hW1 := o3.rd
    have hT1 := hT.below hb
    have HT1 := Lib.hid (traceOf_any A2 A3 n k c2 c3 rs W _ hrd1 hW1 hk24 h24 HRK.out HR63.out hT1)
    go_wp2_with fail
    refine HT1.out.mono ?_
    rintro e v1 ⟨E1, g1, F1, k1, es1, rfl, hp, hs, h1, h2, -, -, ha1⟩
    have HN1 := Lib.hid (nf_from E1 F1 g1 k1 k n rs W es1 v1 HLR.out HR.out HDEP.out HLK.out HRK.out hk24 hp hs h1 h2 ((hT1).below ha1))
    clear hp hs h1 h2
    go_wp2_with fail
    refine HN1.out.mono ?_
    rintro e u1 ⟨G1, l1, rfl, ho1, hb1⟩
    go_wp2_with fail
    go_ret2
    rw [HA.out]
    have HZ := hb.trans (ha1.mono hb.size)
    exact LsPost.of_ans (ans_yes ho1.len (ho1.mono HZ.size) (HZ.trans (hb1.mono HZ.size)))
set_option maxHeartbeats 3200000 in
theorem implConcatenate (L : Int) (A : Option Addr) (n c : Nat) (xs : List Int) (A1 : Option Addr) (m d : Nat) (us : List Int) (B1 : Option Addr) (q f : Nat) (ts : List Int) (w : World) (h : Rd w A n xs) (hwf : Wf xs) (hL1 : -9223372036854775808 ≤ L) (hL2 : L ≤ 9223372036854775807) (hn : n ≤ maxLen) (h2 : Rd w A1 m us) (hwf2 : Wf us) (hm : m ≤ maxLen) (h3 : Rd w B1 q ts) (hwf3 : Wf ts) (hq : q ≤ maxLen) (hcm : m ≤ d) (hcq : q ≤ f) (hT : Tab w) :
    Calls Tryd.prog 19 #[.agg #[.int .i64 L, .slice A n c], .slice A1 m d, .slice B1 q f] w (LsPost w (dL coF L xs us ts).1.length (dL coF L xs us ts).1 (dL coF L xs us ts).2) := by
  have hn2 : n ≤ 9223372036854775807 := by unfold maxLen at hn; omega
  have hn1 := h.1
  have hm1 := h2.1
  have hq1 := h3.1
  have HB := Lib.hid (below2 w (.cells #[.int .i64 L, .slice A n c] 28) (.cells #[.slice A1 m d, .slice B1 q f] 22))
  have hh := h.below HB.out
  have ht := rdT_box2 w (.cells #[.int .i64 L, .slice A n c] 28) A1 B1 m d q f us ts 22 h2 hm h3 hq
  have hh2 := h2.below HB.out
  have hh3 := h3.below HB.out
  have hT1 := hT.below HB.out
  cases ha : alphB L xs
  · rw [show dL coF L xs us ts = _ from dL_no coF L xs us ts ha]
    have HA := Lib.hid ha
    clear ha ht hn1
    go_enter Tryd.func19, Tryd.ntmps19
    go_wp2_with fail
    refine (dependenceWith_no L _ _ _ _ _ _ xs [] _ hh hwf hL1 hL2 hn2 HA.out hT1).mono ?_
    rintro e w1 ⟨rfl, hb⟩
    go_wp2_with fail
    go_ret2
    exact LsPost.of_ans (ans_no 1 (HB.out.trans (hb.mono HB.out.size)))
  · cases hu : (wordB L us && wordB L ts)
    · rw [show dL coF L xs us ts = _ from dL_bad coF L xs us ts ha hu]
      obtain ⟨rs, rfl, rfl, h8, hr, hrel, hl, hd, _⟩ := alphB_nats L xs n hn1 ha
      have HU := Lib.hid hu
      clear ha hu
      go_enter Tryd.func19, Tryd.ntmps19
      go_wp2_with fail
      refine (dependenceWith_any _ _ _ _ _ _ rs _ _ hh hwf h8 hr hrel hd ht (by omega) hT1).mono ?_
      rw [okT_pair, HU.out]
      rintro e w1 (⟨hok, _⟩ | ⟨hok, rfl, hb⟩)
      · cases hok
      go_wp2_with fail
      go_ret2
      exact LsPost.of_ans (ans_no 2 (HB.out.trans (hb.mono HB.out.size)))
    · obtain ⟨rs, rfl, rfl, h8, hr, hrel, hl, hd, _⟩ := alphB_nats L xs n hn1 ha
      have hu' := hu
      rw [Bool.and_eq_true] at hu'
      obtain ⟨vs, rfl, hv24, hvn⟩ := wordB_nats n us hu'.1
      obtain ⟨ys, rfl, hy24, hyn⟩ := wordB_nats n ts hu'.2
      rw [show dL coF (n : Int) (ints rs) (ints vs) (ints ys) = _ from dL_yes coF (n : Int) rs vs ys ha hu]
      have HU := Lib.hid hu
      have HDEP := Lib.hid ((depB_iff rs n hl hr).1 hd)
      rw [ints_len] at hm1 hq1
      have hm24 : m ≤ 24 := by omega
      have hq24 : q ≤ 24 := by omega
      have HLU := Lib.hid hm1
      have HLQ := Lib.hid hq1
      have HLR := Lib.hid hl
      have HR := Lib.hid hr
      have HVM := Lib.hid hvn
      have HYM := Lib.hid hyn
      have HSY : Hid (∀ a b, RDep rs a b = RDep rs b a) := Lib.hid (rdep_sym rs n hl hr HDEP.out)
      have HRE : Hid (∀ a, a < n → RDep rs a a = true) := Lib.hid fun a ha9 => HDEP.out.1 a (by rw [HLR.out]; exact ha9)
      have HR63 : Hid (∀ i, rs.getD i 0 < 9223372036854775808) := Lib.hid fun i => lt63 (by omega) (hr i)
      clear ha hu hu' hl hm1 hq1
      go_enter Tryd.func19, Tryd.ntmps19
      go_wp2_with fail
      refine (dependenceWith_any _ _ _ _ _ _ rs _ _ hh hwf h8 hr hrel hd ht (by omega) hT1).mono ?_
      rw [okT_pair, HU.out]
      rintro e w1 (⟨hok, A2, c2, rfl, ho, hb⟩ | ⟨hok, _⟩)
      rotate_left
      · cases hok
      have HB1 := Lib.hid (HB.out.trans (hb.mono HB.out.size))
      have hr2 := hh2.below hb
      have hr3 := hh3.below hb
      have hrd := ho.rd
      have hT2 := hT1.below hb
      have h24 : n ≤ 24 := by omega
      clear ho hb hok ht hh hh2 hh3 hT1 hT h h2 h3 hr hvn hyn hd hrel
      have hnx := below1 w1 (.cells #[.slice A1 m d, .slice B1 q f] 22)
      have HPR := Lib.hid (product_two A2 A1 B1 _ n c2 m d q f 2 rs vs ys _ (hrd.below hnx) h24 HLR.out HR.out HDEP.out (hr2.below hnx) hm24 (hr3.below hnx) hq24 HVM.out HYM.out (rdT_two w1 A1 B1 m d q f (ints vs) (ints ys) 22 hr2 (by omega) hr3 (by omega)) (hT2.below hnx))
      have HB2 := Lib.hid (HB1.out.trans (hnx.mono HB1.out.size))
      go_wp2_with fail
      refine HPR.out.mono ?_
      rintro e w2 ⟨A3, c3, rfl, o3, hb2⟩
      go_wp2_with fail
      go_ret2
      exact ⟨A3, c3, rfl, o3.mono HB2.out.size, HB2.out.trans (hb2.mono HB2.out.size)⟩
set_option maxHeartbeats 6400000 in
theorem specConcatenate (L : Int) (A : Option Addr) (n c : Nat) (xs : List Int) (A1 : Option Addr) (m d : Nat) (us : List Int) (B1 : Option Addr) (q f : Nat) (ts : List Int) (w : World) (h : Rd w A n xs) (hwf : Wf xs) (hL1 : -9223372036854775808 ≤ L) (hL2 : L ≤ 9223372036854775807) (hn : n ≤ maxLen) (h2 : Rd w A1 m us) (hwf2 : Wf us) (hm : m ≤ maxLen) (h3 : Rd w B1 q ts) (hwf3 : Wf ts) (hq : q ≤ maxLen) :
    Calls Tryd.prog 16 #[.agg #[.int .i64 L, .slice A n c], .slice A1 m d, .slice B1 q f] w (LsPost w (dL coF L xs us ts).1.length (dL coF L xs us ts).1 (dL coF L xs us ts).2) := by
  have hn2 : n ≤ 9223372036854775807 := by unfold maxLen at hn; omega
  have hm2 : m ≤ 9223372036854775807 := by unfold maxLen at hm; omega
  have hq2 : q ≤ 9223372036854775807 := by unfold maxLen at hq; omega
  have hn1 := h.1
  have hm1 := h2.1
  have hq1 := h3.1
  have HB := Lib.hid (below1 w (.cells #[.int .i64 L, .slice A n c] 28))
  have x0 := box_new 28 w L A n c
  have hh := h.below HB.out
  have hh2 := h2.below HB.out
  have hh3 := h3.below HB.out
  have HCD := Lib.hid (l03Code_any L A A1 B1 n c m d q f xs us ts _ hh hn2 hh2 hm2 hh3 hq2)
  cases ha : alphB L xs
  · rw [show dL coF L xs us ts = _ from dL_no coF L xs us ts ha]
    have HD := Lib.hid (wCode2_no L xs us ts ha)
    clear ha hn1
    go_enter Tryd.func16, Tryd.ntmps16
    go_wp2_with fail
    refine HCD.out.mono ?_
    rintro e w1 ⟨rfl, hb⟩
    rw [HD.out]
    go_wp2_with fail
    go_ret2
    exact LsPost.of_ans (ans_no 1 (HB.out.trans (hb.mono HB.out.size)))
  · cases hu : (wordB L us && wordB L ts)
    · rw [show dL coF L xs us ts = _ from dL_bad coF L xs us ts ha hu]
      have HD := Lib.hid (wCode2_bad L xs us ts ha hu)
      clear ha hu hn1
      go_enter Tryd.func16, Tryd.ntmps16
      go_wp2_with fail
      refine HCD.out.mono ?_
      rintro e w1 ⟨rfl, hb⟩
      rw [HD.out]
      go_wp2_with fail
      go_ret2
      exact LsPost.of_ans (ans_no 2 (HB.out.trans (hb.mono HB.out.size)))
    · have HD := Lib.hid (wCode2_yes L xs us ts ha hu)
      obtain ⟨rs, rfl, rfl, h8, hr, hrel, hl, hd, _⟩ := alphB_nats L xs n hn1 ha
      have hu' := hu
      rw [Bool.and_eq_true] at hu'
      obtain ⟨vs, rfl, hv24, hvn⟩ := wordB_nats n us hu'.1
      obtain ⟨ys, rfl, hy24, hyn⟩ := wordB_nats n ts hu'.2
      rw [show dL coF (n : Int) (ints rs) (ints vs) (ints ys) = _ from dL_yes coF (n : Int) rs vs ys ha hu]
      rw [ints_len] at hm1 hq1
      have HDEP := Lib.hid ((depB_iff rs n hl hr).1 hd)
      have HLU := Lib.hid hm1
      have HLQ := Lib.hid hq1
      have HLR := Lib.hid hl
      have HR := Lib.hid hr
      have HVM := Lib.hid hvn
      have HYM := Lib.hid hyn
      have HSY : Hid (∀ a b, RDep rs a b = RDep rs b a) := Lib.hid (rdep_sym rs n hl hr HDEP.out)
      have HRE : Hid (∀ a, a < n → RDep rs a a = true) := Lib.hid fun a ha9 => HDEP.out.1 a (by rw [HLR.out]; exact ha9)
      have HNR : Hid (∀ ws, nfM (RDep rs) n ws = nfR rs ws) := Lib.hid (fun ws => by unfold nfR; rw [HLR.out])
      have hm24 : m ≤ 24 := by omega
      have hq24 : q ≤ 24 := by omega
      have h24 : n ≤ 24 := by omega
      clear ha hu hu' hl hm1 hq1 hr hvn hyn hd hrel
      go_enter Tryd.func16, Tryd.ntmps16
      go_wp2_with fail
      refine HCD.out.mono ?_
      rintro e w1 ⟨rfl, hb⟩
      rw [HD.out]
      have y0 := (x0.next hb).c0
      have y1 := (x0.next hb).c1
      have x1 := x0.next hb
      have HB1 := Lib.hid (HB.out.trans (hb.mono HB.out.size))
      have hrd := hh.below hb
      have hr2 := hh2.below hb
      have hr3 := hh3.below hb
      clear hh hh2 hh3 h h2 h3 hb x0
      by_cases hlong : 24 < m + q
      · have HA := Lib.hid (coF_long rs vs ys (by rw [HLU.out, HLQ.out]; exact hlong))
        have hI : (24 : Int) < ((m : Int) + (q : Int)) := by omega
        have hw1 : wrap64 ((m : Int) + (q : Int)) = (m : Int) + (q : Int) := by unfold wrap64; omega
        clear hlong
        go_wp2_with fail
        go_ret2
        rw [HA.out]
        exact LsPost.of_ans (ans_no 3 HB1.out)
      · have HA := Lib.hid (coF_yes rs vs ys (by rw [HLU.out, HLQ.out]; omega))
        have hI : ((m : Int) + (q : Int)) ≤ 24 := by omega
        have hw1 : wrap64 ((m : Int) + (q : Int)) = (m : Int) + (q : Int) := by unfold wrap64; omega
        have hk24 : m + q ≤ 24 := by omega
        have hml : m + q ≤ maxLen := by unfold maxLen; omega
        have hby : (m + q) * 8 ≤ 140737488355328 := by omega
        have hdr : Below w1.heap.size w1 w1.drew := (Below.refl _ _).drew
        have HOW : Hid (∀ ww, Below w1.heap.size w1 ww → Calls Tryd.prog 55 #[.slice A1 m d] ww (MakesE 2 ww m (ints vs))) := Lib.hid fun ww hw => own_any A1 m d (ints vs) ww (hr2.below hw) (by omega)
        have HWM : Hid (∀ x, x < m + q → (vs ++ ys).getD x 0 < n) := Lib.hid fun x hx => in_getD (fun z hz => by
          rcases List.mem_append.1 hz with h1 | h1
          · exact HVM.out z h1
          · exact HYM.out z h1) x (by rw [List.length_append, HLU.out, HLQ.out]; exact hx)
        have HNO : Hid (∀ ww A3 c3, Below w1.heap.size w1 ww → Rd ww A3 (m + q) (ints (vs ++ ys)) → Calls Tryd.prog 54 #[.agg #[.int .i64 (n : Int), .slice A n c], .slice A3 (m + q) c3] ww (MakesE 2 ww (m + q) (ints (nfR rs (vs ++ ys))))) := Lib.hid fun ww A3 c3 hw h3 => by
          rw [← HNR.out]; exact l03Normal_any A A3 n c (m + q) c3 rs (vs ++ ys) ww (hrd.below hw) h24 HR.out h3 hk24 HWM.out
        clear hlong hr2
        go_wp2_with fail
        go_region_law (first
          | (go_simp; go_at_call 55; refine (HOW.out _ hdr).mono ?_; rintro e w2 ⟨A2, c2, rfl, o2, hb2⟩; have hb12 := hdr.trans (hb2.mono hdr.size); have s0 := (x1.next hb12).c0; have s1 := (x1.next hb12).c1; have hr3' := hr3.below hb12)
          | (refine step_append_rd rfl (.tmp 28) (.tmp 29) rfl w1.heap.size A2 m c2 vs (by go_simp) o2 B1 q f ys (by go_simp) hr3' hml hby hb12.size ?_; rintro v3 w3 ⟨A3, c3, rfl, o3⟩ hg3; have hb13 : Below w1.heap.size w1 w3 := hb12.grown hg3 hb12.size (fun k e9 => (o2.lt k (ownBlock_map' e9)).1); have p0 := (x1.next hb13).c0; have p1 := (x1.next hb13).c1)
          | (go_simp; go_at_call 54; refine (HNO.out _ _ _ hb13 o3.rd).mono ?_; rintro e w4 ⟨A4, c4, rfl, o4, hb4⟩))
        all_goals (
          go_wp2_with fail
          go_ret2
          rw [HA.out]
          have hb14 := hb13.trans (hb4.mono hb13.size)
          exact LsPost.of_ans (ans_yes o4.len (o4.mono (by have := HB1.out.size; have := hb13.size; omega)) (HB1.out.trans (hb14.mono HB1.out.size))))
end Go.Proofs.YtmooanfcedgfnaaDoor
