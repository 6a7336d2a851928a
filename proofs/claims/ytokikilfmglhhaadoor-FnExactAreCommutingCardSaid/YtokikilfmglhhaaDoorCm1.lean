/-
  Concatenate: helpers. Concatenate: both sides. The model's l03First, l03Without, l03Same for words of up to 96 letters. An append of numbers behind an own row, with the row's place afterwards; a literal of one number. AreCommuting: both sides.
-/
import Derived.Test.YtokikilfmglhhaaDoorDv2
import Derived.Lib.AppendZeros
import Derived.Test.YtokikilfmglhhaaDoorSame
import Derived.Maps.AppendAt
import Derived.Deep.RegionLaw
namespace Go.Proofs.YtokikilfmglhhaaDoor
open Go Go.RowKit
set_option linter.unusedVariables false
set_option maxRecDepth 100000

theorem step_append_rd {w : World} {ops : Array Oper} {o : Oper} {a : Act} {K : Act → World → Prop} {Q : Exit → Act → World → Prop} {E : Prop} (hgd : o.guard = none) (s x : Operand)
    (ho : o.op = .call { callee := .builtin .append, args := #[s, x], argTypes := #[22, 22] }) (base : Nat) (A : Option Addr) (N cA : Nat) (all : List Nat) (hs : a.eval s = .slice A N cA) (hown : Own 2 w base A N cA (ints all))
    (A2 : Option Addr) (m c2 : Nat) (ss : List Nat) (hx : a.eval x = .slice A2 m c2) (h2 : Rd w A2 m (ints ss)) (h63 : N + m ≤ maxLen) (hby : (N + m) * 8 ≤ 140737488355328) (hbase : base ≤ w.heap.size)
    (h : ∀ v' w', (∃ A' c', v' = .slice A' (N + m) c' ∧ Own 2 w' base A' (N + m) c' (ints (all ++ ss))) → w.grownBy w' (Value.slice A N cA).ownBlock → K (a.put o.dst v') w') :
    if Region.wanted o (yielded ops a.tmps) = true then Oper.wp Tryd.prog o a w K Q else E := by
  have hw : Region.wanted o (yielded ops a.tmps) = true := by simp [Region.wanted, hgd]
  rw [if_pos hw]
  obtain ⟨i0, hi, hz0, hz1, hz2⟩ := info_parts info_int
  cases A2 with
  | none =>
    have hm0 : m = 0 := by
      rcases Nat.eq_zero_or_pos m with h0 | h0
      · exact h0
      · obtain ⟨b, off, e9, _⟩ := h2.2 h0; cases e9
    subst hm0
    have hs0 : ss = [] := List.eq_nil_of_length_eq_zero (by have := h2.1; rw [ints_len] at this; exact this)
    subst hs0
    have hrun := run_append_nothing (P := Tryd.prog) w 22 22 o.type 2 i0 Tryd.underlying22 hi A N cA (own_cap hown) (.slice none 0 c2) (Src.ofNil w Tryd.underlying22 c2)
    unfold Oper.wp
    simp [execOp, ho, resolve, invoke, builtin, hs, hx, hrun, Result.andThen]
    exact h (.slice A N cA) w ⟨A, cA, rfl, by rw [List.append_nil]; exact hown⟩ (World.grownBy.refl _ _)
  | some ad =>
    have hl2 : ((ints ss).map (Value.int .i64)).length = m * 1 := by rw [List.length_map, h2.1, Nat.mul_one]
    refine wp_append_own (P := Tryd.prog) w s x 22 ho base 2 i0 (.int .i64 0) 1 8 Tryd.underlying22 hi hz0 hz1 hz2 rfl (by decide) (.slice A N cA) N ((ints all).map (Value.int .i64)) hs hown ad m c2 ((ints ss).map (Value.int .i64)) hx hl2 ?_ (ints_oneCell .i64 _) h63 hby hbase ?_
    · intro j u hu
      have hj : 0 < m := by
        rcases Nat.eq_zero_or_pos m with h0 | h0
        · have h8 : (ints ss).map (Value.int .i64) = [] := List.eq_nil_of_length_eq_zero (by rw [hl2, h0])
          rw [h8] at hu; simp at hu
        · exact h0
      obtain ⟨b, off, e9, _⟩ := h2.2 hj
      injection e9 with e9
      subst e9
      exact rd_news h2 hj j u hu
    · intro v' w' hown' hg _
      have e8 : (ints all).map (Value.int .i64) ++ (ints ss).map (Value.int .i64) = (ints (all ++ ss)).map (Value.int .i64) := by rw [ints_app, List.map_append]
      rw [e8] at hown'
      obtain ⟨A3, c3, rfl, ho3⟩ := own_shape hown'
      exact h _ w' ⟨A3, c3, rfl, ho3⟩ hg
set_option maxHeartbeats 1600000 in
theorem growNil_any (n : Nat) (hn : n ≤ 100000) (w : World) :
    Calls Tryd.prog 112 #[.slice none 0 0, .int .i64 (n : Int)] w fun e w' => ∃ (A : Option Addr) (c : Nat), e = .returned (.slice A 0 c) ∧ Own 2 w' w.heap.size A 0 c (ints []) ∧ Below w.heap.size w w' := by
  obtain ⟨i0, hi, hz0, hz1, hz2⟩ := info_parts info_int
  have hw0 : IntKind.i64.wrap ((n : Int) - 0) = (n : Int) := by rw [IntWalk.i64_left]; unfold wrap64; omega
  have hw1 : wrap64 (n : Int) = (n : Int) := by unfold wrap64; omega
  have hn0 : (0 : Int) ≤ (n : Int) := by omega
  rcases Nat.eq_zero_or_pos n with h0 | h0
  · subst h0
    go_enter Tryd.func112, Tryd.ntmps112
    go_wp2_with fail
    go_ret
    exact ⟨none, 0, rfl, Own.nil _ _ _, Below.refl _ _⟩
  · have hnp : (0 : Int) < (n : Int) := by omega
    have hrun := Lib.run_append_nil_zeros (P := Tryd.prog) w 22 3 22 2 i0 (.int .i64 0) .i64 .i64 Tryd.underlying22 Tryd.underlying3 hi hz0 n h0 (by omega) (by omega) (by rw [hz2]; omega)
    obtain ⟨cp, hcp⟩ : ∃ cp, cp = grownCap w n 0 2 := ⟨_, rfl⟩
    have hge : n ≤ cp := by rw [hcp]; exact grownCap_ge w n 0 _
    have hle : cp ≤ maxLen := by rw [hcp]; exact grownCap_le_maxLen w n 0 _ (by unfold maxLen; omega)
    rw [← hcp] at hrun
    obtain ⟨row, hrow⟩ : ∃ row, row = Builtin.zeroCells (Value.int .i64 0).cells n ++ Builtin.zeroCells (Value.int .i64 0).cells (cp - n) := ⟨_, rfl⟩
    have hrs : row.size = cp := by
      rw [hrow, Array.size_append]
      have hzc : ∀ k, (Builtin.zeroCells (Value.int .i64 0).cells k).size = k := fun k => by simp [Builtin.zeroCells, Value.cells]
      rw [hzc, hzc]; omega
    rw [← hrow] at hrun
    have HOWN : Hid (Own 2 (w.drew.alloc (.cells row 2)) w.heap.size (some ⟨w.heap.size, 0, none⟩) 0 cp (ints [])) := Lib.hid ⟨rfl, .inr ⟨w.heap.size, cp, row, rfl, Nat.le_refl _, World.alloc_heap_new w.drew _, Nat.zero_le _, hle, by rw [hrs, Nat.mul_one], by simp [ints]⟩⟩
    have HBE : Hid (Below w.heap.size w (w.drew.alloc (.cells row 2))) := Lib.hid ((Below.refl _ _).drew.alloc (Nat.le_refl _) _)
    clear hrow hcp
    go_enter Tryd.func112, Tryd.ntmps112
    go_wp2_with (at_builtin; refine Lib.wpList_append_run _ rfl _ _ _ _ rfl _ _ rfl rfl _ _ hrun ?_)
    go_wp2_with fail
    go_ret
    exact ⟨_, cp, rfl, HOWN.out, HBE.out⟩
end Go.Proofs.YtokikilfmglhhaaDoor
namespace Go.Proofs.YtokikilfmglhhaaDoor
open Go Go.RowKit
set_option linter.unusedVariables false
set_option maxRecDepth 100000

theorem flat_take (Ws : List (List Nat)) (k : Nat) (h : k < Ws.length) : (Ws.take (k + 1)).flatten = (Ws.take k).flatten ++ Ws.getD k [] := by
  rw [List.take_add_one, List.getD_eq_getElem?_getD, List.getElem?_eq_getElem h, List.flatten_append]; simp
theorem flat_len (Ws : List (List Nat)) (hm : ∀ k, (Ws.getD k []).length ≤ 24) : ∀ k, k ≤ Ws.length → (Ws.take k).flatten.length ≤ 24 * k
  | 0, _ => by simp
  | k + 1, h => by
    rw [flat_take Ws k (by omega), List.length_append]
    have := flat_len Ws hm k (by omega)
    have := hm k
    omega
set_option maxHeartbeats 3200000 in
theorem concat_any (T : Option Addr) (nT cT : Nat) (ts : List (Option Addr × Nat × Nat × List Int)) (Ws : List (List Nat)) (w : World)
    (hT : RdT w T nT ts) (hnT : nT ≤ 24) (hlW : Ws.length = nT) (hW : ∀ k t, ts[k]? = some t → t.2.2.2 = ints (Ws.getD k [])) (hWm : ∀ k, (Ws.getD k []).length ≤ 24) :
    Calls Tryd.prog 69 #[.slice T nT cT] w (MakesE 2 w Ws.flatten.length (ints Ws.flatten)) := by
  have HLW := Lib.hid hlW
  have HW := Lib.hid hW
  have HFT : Hid (∀ k, k < nT → (Ws.take (k + 1)).flatten = (Ws.take k).flatten ++ Ws.getD k []) := Lib.hid (fun k hk => flat_take Ws k (by rw [hlW]; exact hk))
  have HFL : Hid (∀ k, k ≤ nT → (Ws.take k).flatten.length ≤ 24 * k) := Lib.hid (fun k hk => flat_len Ws hWm k (by rw [hlW]; exact hk))
  have HFA : Hid (Ws.take nT = Ws) := Lib.hid (List.take_of_length_le (by rw [hlW]; exact Nat.le_refl _))
  clear hlW hW hWm
  go_enter Tryd.func69, Tryd.ntmps69
  go_wp2_with fail
  go_loop [3, 11] (fun sv iv => ∃ k S : Nat, k ≤ nT ∧ iv = .int .i64 (k : Int) ∧ sv = .int .i64 (S : Int) ∧ S = (Ws.take k).flatten.length) (fun _ iv => nT - (intOf iv).toNat)
  case atStart => exact ⟨0, 0, Nat.zero_le _, rfl, rfl, rfl⟩
  case round =>
    obtain ⟨k, S, hk, rfl, rfl, hS⟩ := hrel
    have HS := Lib.hid hS
    have HSL : Hid (S ≤ 24 * k) := Lib.hid (by rw [hS]; exact HFL.out k hk)
    clear hS
    by_cases hlt : k < nT
    · obtain ⟨bt, ot, Bk, nk, ck, xk, rfl, hbt, htk, hct, hrk, hmk⟩ := hT.at_ hlt
      have hxk : xk = ints (Ws.getD k []) := HW.out k _ htk
      have hnk : (Ws.getD k []).length = nk := by have := hrk.1; rw [hxk, ints_len] at this; exact this
      have HSN : Hid (S + nk = (Ws.take (k + 1)).flatten.length) := Lib.hid (by rw [HFT.out k hlt, List.length_append, ← HS.out, hnk])
      have hsl := HSL.out
      have hsn : S + nk ≤ 24 * (k + 1) := by rw [HSN.out]; exact HFL.out (k + 1) hlt
      have hw1 : IntKind.i64.wrap ((S : Int) + (nk : Int)) = ((S + nk : Nat) : Int) := by rw [IntWalk.i64_left]; unfold wrap64; omega
      have hge : (0 : Int) ≤ ((S + nk : Nat) : Int) := by omega
      clear hxk hnk
      go_wp2_with fail
      go_round
      case rel => exact ⟨k + 1, S + nk, hlt, by go_num, by simp, HSN.out⟩
      case measure => simp [intOf]; omega
    · have hkm : k = nT := by omega
      subst hkm
      have HSF : Hid (S = Ws.flatten.length) := Lib.hid (by rw [HS.out, HFA.out])
      have HGR := Lib.hid (growNil_any S (by have := HSL.out; omega) w)
      go_wp2_with fail
      refine HGR.out.mono ?_
      rintro e w1 ⟨A0, c0, rfl, o0, hb1⟩
      go_wp2_with fail
      go_loopw [6, 27] (fun av iv wr => ∃ (j N cA : Nat) (A : Option Addr), j ≤ k ∧ av = .slice A N cA ∧ iv = .int .i64 (j : Int) ∧ N = (Ws.take j).flatten.length ∧ Own 2 wr w.heap.size A N cA (ints (Ws.take j).flatten) ∧ Below w.heap.size w wr) (fun _ iv _ => k - (intOf iv).toNat)
      case atStart => exact ⟨0, 0, c0, A0, Nat.zero_le _, rfl, rfl, rfl, o0, hb1⟩
      case round =>
        clear o0 hb1
        obtain ⟨j, N, cA, A, hj, rfl, rfl, hN, ho, hb⟩ := hrel
        have HN := Lib.hid hN
        have HNL : Hid (N ≤ 24 * j) := Lib.hid (by rw [hN]; exact HFL.out j hj)
        clear hN
        by_cases hlt2 : j < k
        · obtain ⟨bt, ot, Bk, nk, ck, xk, rfl, hbt, htk, hct, hrk, hmk⟩ := (hT.below hb).at_ hlt2
          have hxk : xk = ints (Ws.getD j []) := HW.out j _ htk
          subst hxk
          have hnk : (Ws.getD j []).length = nk := by have := hrk.1; rw [ints_len] at this; exact this
          have HSN : Hid (N + nk = (Ws.take (j + 1)).flatten.length) := Lib.hid (by rw [HFT.out j hlt2, List.length_append, ← HN.out, hnk])
          have hsn : N + nk ≤ 24 * (j + 1) := by rw [HSN.out]; exact HFL.out (j + 1) hlt2
          have HFJ := Lib.hid (HFT.out j hlt2)
          have hml : N + nk ≤ maxLen := by unfold maxLen; omega
          have hby : (N + nk) * 8 ≤ 140737488355328 := by omega
          have hbase := hb.size
          obtain ⟨al, hal⟩ : ∃ al, al = (Ws.take j).flatten := ⟨_, rfl⟩
          obtain ⟨v, hv⟩ : ∃ v, v = Ws.getD j [] := ⟨_, rfl⟩
          rw [← hal] at ho HFJ
          rw [← hv] at hrk HFJ
          clear hal hv hnk
          go_wp2_with (at_builtin; refine wpList_append_rd rfl _ _ rfl w.heap.size A N cA al rfl ho Bk nk ck v rfl hrk hml hby hbase ?_; intro A6 c6 w6 o6 hg6; have HB6 : Hid (Below w.heap.size w w6) := Lib.hid (hb.grown hg6 hbase (fun k e9 => (ho.lt k (ownBlock_map' e9)).1)); rw [← HFJ.out] at o6)
          go_wp2_with fail
          go_roundw
          case rel => exact ⟨j + 1, N + nk, c6, A6, hlt2, rfl, by go_num, HSN.out, o6, HB6.out⟩
          case measure => simp [intOf]; omega
        · have hjk : j = k := by omega
          subst hjk
          have HE : Hid (N = Ws.flatten.length) := Lib.hid (by rw [HN.out, HFA.out])
          rw [HFA.out] at ho
          go_wp2_with fail
          go_ret
          rw [← HE.out]
          exact ⟨A, cA, rfl, ho, hb⟩
def coF (rs us ts : List Nat) : List Nat × Int := if 24 < us.length + ts.length then ([], 3) else (nfR rs (us ++ ts), 0)
theorem coF_long (rs us ts : List Nat) (h : 24 < us.length + ts.length) : coF rs us ts = ([], 3) := if_pos h
theorem coF_yes (rs us ts : List Nat) (h : us.length + ts.length ≤ 24) : coF rs us ts = (nfR rs (us ++ ts), 0) := if_neg (by omega)
theorem coF_small (L : Int) (xs us ts : List Int) : (dL coF L xs us ts).1.length ≤ 24 := dL_small coF 24 (fun rs us ts _ _ => by
  rcases Nat.lt_or_ge 24 (us.length + ts.length) with h | h
  · rw [coF_long _ _ _ h]; exact Nat.zero_le _
  · rw [coF_yes _ _ _ h]; exact Nat.le_trans (nfR_len rs _) (by rw [List.length_append]; exact h)) L xs us ts
set_option maxHeartbeats 1600000 in
theorem product_two (A2 A1 B1 T : Option Addr) (n c2 m d q f cT : Nat) (rs vs ys : List Nat) (w : World) (hrd : Rd w A2 n (ints rs)) (h24 : n ≤ 24) (hl : rs.length = n) (hr : ∀ i, rs.getD i 0 < 2 ^ n) (hdep : Dep rs)
    (h2 : Rd w A1 m (ints vs)) (hm : m ≤ 24) (h3 : Rd w B1 q (ints ys)) (hq : q ≤ 24) (hvn : ∀ x, x ∈ vs → x < n) (hyn : ∀ x, x ∈ ys → x < n) (hRT : RdT w T 2 [(A1, m, d, ints vs), (B1, q, f, ints ys)]) (hT : Tab w) :
    Calls Tryd.prog 73 #[.slice A2 n c2, .slice T 2 cT] w (LsPost w (ints (coF rs vs ys).1).length (ints (coF rs vs ys).1) (coF rs vs ys).2) := by
  have HLU : Hid (vs.length = m) := Lib.hid (by have := h2.1; rw [ints_len] at this; exact this)
  have HLV : Hid (ys.length = q) := Lib.hid (by have := h3.1; rw [ints_len] at this; exact this)
  have HLR := Lib.hid hl
  have HR := Lib.hid hr
  have HDEP := Lib.hid hdep
  have HR63 : Hid (∀ i, rs.getD i 0 < 9223372036854775808) := Lib.hid fun i => lt63 h24 (hr i)
  have HCO := Lib.hid (concat_any T 2 cT _ [vs, ys] w hRT (by omega) rfl (fun k t hk => by
    match k, hk with
    | 0, hk => injection hk with hk; subst hk; rfl
    | 1, hk => injection hk with hk; subst hk; rfl
    | k + 2, hk => simp at hk) (fun k => by
    match k with
    | 0 => show vs.length ≤ 24; have := HLU.out; omega
    | 1 => show ys.length ≤ 24; have := HLV.out; omega
    | k + 2 => simp))
  rw [show [vs, ys].flatten = vs ++ ys by simp] at HCO
  have hlen : (vs ++ ys).length = m + q := by rw [List.length_append, HLU.out, HLV.out]
  have HWM : Hid (∀ x, x ∈ vs ++ ys → x < n) := Lib.hid (fun x hx => by
    rcases List.mem_append.1 hx with h1 | h1
    · exact hvn x h1
    · exact hyn x h1)
  obtain ⟨W, hW⟩ : ∃ W, W = vs ++ ys := ⟨_, rfl⟩
  rw [← hW] at HCO hlen HWM
  obtain ⟨k, hk⟩ : ∃ k, k = W.length := ⟨_, rfl⟩
  rw [← hk] at HCO hlen
  have HLK : Hid (W.length = k) := Lib.hid hk.symm
  have HRK : Hid (∀ x, x < k → W.getD x 0 < n) := Lib.hid fun x hx => in_getD HWM.out x (by rw [HLK.out]; exact hx)
  by_cases hlong : 24 < k
  · have HA := Lib.hid (coF_long rs vs ys (by rw [HLU.out, HLV.out]; omega))
    have hI : (24 : Int) < (k : Int) := by omega
    clear hk hlen hW hlong hl hr
    go_enter Tryd.func73, Tryd.ntmps73
    go_wp2_with fail
    refine HCO.out.mono ?_
    rintro e w1 ⟨A3, c3, rfl, o3, hb⟩
    go_wp2_with fail
    go_ret2
    rw [HA.out]
    exact LsPost.of_ans (ans_no 3 hb)
  · have HA : Hid (coF rs vs ys = (nfR rs W, 0)) := Lib.hid (by rw [hW]; exact coF_yes rs vs ys (by rw [HLU.out, HLV.out]; omega))
    have hk24 : k ≤ 24 := by omega
    have hI : (k : Int) ≤ 24 := by omega
    clear hk hlen hW hlong hl hr
    go_enter Tryd.func73, Tryd.ntmps73
    go_wp2_with fail
    refine HCO.out.mono ?_
    rintro e w1 ⟨A3, c3, rfl, o3, hb⟩
    have hrd1 := hrd.below hb
    have hW1 := o3.rd
    have hT1 := hT.below hb
    have HT1 := Lib.hid (traceOf_any A2 A3 n k c2 c3 rs W _ hrd1 hW1 hk24 h24 HRK.out HR63.out hT1)
    go_wp2_with fail
    refine HT1.out.mono ?_
    rintro e v1 ⟨E1, g1, F1, k1, es1, rfl, hp, hs, h1, h2, -, -, ha1⟩
    have HN1 := Lib.hid (nf_from E1 F1 g1 k1 k n rs W es1 v1 HLR.out HR.out HDEP.out HLK.out HRK.out hk24 hp hs h1 h2 ((hT1).below ha1))
    clear hp hs h1 h2
    go_wp2_with fail
    refine HN1.out.mono ?_
    rintro e u1 ⟨G1, l1, rfl, ho1, hb1⟩
    go_wp2_with fail
    go_ret2
    rw [HA.out]
    have HZ := hb.trans (ha1.mono hb.size)
    exact LsPost.of_ans (ans_yes ho1.len (ho1.mono HZ.size) (HZ.trans (hb1.mono HZ.size)))
end Go.Proofs.YtokikilfmglhhaaDoor
namespace Go.Proofs.YtokikilfmglhhaaDoor
open Go Go.RowKit
set_option linter.unusedVariables false
set_option maxRecDepth 100000

set_option maxHeartbeats 1600000 in
theorem l03FirstW_any (L : Int) (A B : Option Addr) (n c m d a : Nat) (rs us : List Nat) (w : World) (h : Rd w A n (ints rs)) (hn : n ≤ 24) (hr : ∀ i, rs.getD i 0 < 2 ^ n) (h2 : Rd w B m (ints us)) (hm : m ≤ 96) (hus : ∀ p, p < m → us.getD p 0 < n) (ha : a < n) :
    Calls Tryd.prog 103 #[.agg #[.int .i64 L, .slice A n c], .slice B m d, .int .i64 (a : Int)] w fun e w' => e = .returned (.int .i64 (firstI (RDep rs) us a)) ∧ Below w.heap.size w w' := by
  have mixed : Tryd.prog.follows .mixedOrders = true := by kernel_rfl
  have hlen : us.length = m := by have := h2.1; rw [ints_len] at this; exact this
  have HLEN := Lib.hid hlen
  have HR := Lib.hid hr
  have HUS := Lib.hid hus
  clear hlen hr hus
  have x0 := box_new 24 w L A n c
  have hb0 : Below w.heap.size w (w.alloc (.cells #[.int .i64 L, .slice A n c] 24)) := below1 w _
  obtain ⟨W1, hW1⟩ : ∃ W1, w.alloc (.cells #[.int .i64 L, .slice A n c] 24) = W1 := ⟨_, rfl⟩
  rw [hW1] at x0 hb0
  go_enter Tryd.func103, Tryd.ntmps103
  go_wp2_with fail
  go_loopw [7] (fun q wr => ∃ k, k ≤ m ∧ q = .int .i64 ((k : Nat) : Int) ∧ Below W1.heap.size W1 wr ∧ freeB (RDep rs) us a = freeB (RDep rs) (us.drop k) a ∧ ∀ j, j < k → us.getD j 0 ≠ a) (fun q _ => m - (intOf q).toNat)
  case atStart => exact ⟨0, Nat.zero_le _, rfl, Below.refl _ _, rfl, fun j hj => absurd hj (by omega)⟩
  case round =>
    obtain ⟨k, hk, rfl, hb, hf, hne⟩ := hrel
    have HF := Lib.hid hf
    have HNE := Lib.hid hne
    clear hf hne
    have x1 := x0.next hb
    have y0 := x1.c0
    have y1 := x1.c1
    have hr1 := (h.below hb0).below hb
    have hu1 := (h2.below hb0).below hb
    have HB := Lib.hid (hb0.trans (hb.mono hb0.size))
    by_cases hlt : k < m
    · obtain ⟨gu, ou, x, eU, hgu, hx, hcx⟩ := hu1.at_ hlt
      rw [ints_getD us k (by rw [HLEN.out]; exact hlt)] at hx
      injection hx with hx
      have hun := HUS.out k hlt
      obtain ⟨u, hu⟩ : ∃ u, u = us.getD k 0 := ⟨_, rfl⟩
      rw [← hu] at hx hun
      have HU := Lib.hid hu
      subst hx eU
      clear hu
      by_cases hua : u = a
      · have HAN : Hid (firstI (RDep rs) us a = (k : Int)) := Lib.hid (first_at _ us a k (by rw [HLEN.out]; exact hlt) HF.out (by rw [← HU.out]; exact hua) HNE.out)
        have hd : ((u : Int) == (a : Int)) = true := by rw [hua]; simp
        go_wp2_with fail
        go_ret
        exact ⟨ret_i _ _ HAN.out.symm, HB.out⟩
      · have hd : ((u : Int) == (a : Int)) = false := by simp; omega
        obtain ⟨b, hbv⟩ : ∃ b, b = (rs.getD u 0).testBit a := ⟨_, rfl⟩
        have HDEP : Hid (∀ ww : World, Below _ _ ww → Calls Tryd.prog 152 #[.agg #[.int .i64 L, .slice A n c], .int .i64 (u : Int), .int .i64 (a : Int)] ww fun e w' => e = .returned (.bool b) ∧ Below ww.heap.size ww w') := Lib.hid fun ww hww => by
          rw [hbv]; exact dep_any L A n c u a rs ww (hr1.below hww) hn HR.out hun ha
        have HBV : Hid (RDep rs u a = b) := Lib.hid hbv.symm
        clear hbv
        have hdw : Below wr.heap.size wr wr.drew := (Below.refl _ _).drew
        have HD1 := HDEP.out _ hdw
        have HD2 := Lib.hid HD1
        clear HD1
        go_wp2_with fail
        go_still_tail 6, mixed
        change wpList _ _ _ _ _ wr.drew
        cases b
        · go_wp2_with fail
          refine HD2.out.mono ?_
          rintro e w3 ⟨rfl, hb3⟩
          go_wp2_with fail
          go_roundw
          case rel => exact ⟨k + 1, hlt, by go_num, hb.trans ((hdw.trans (hb3.mono hdw.size)).mono hb.size), HF.out.trans (free_drop _ us a k (by rw [HLEN.out]; exact hlt) (by rw [← HU.out]; exact hua) (by rw [← HU.out]; exact HBV.out)), fun j hj => by
            by_cases e9 : j = k
            · subst e9; rw [← HU.out]; exact hua
            · exact HNE.out j (by omega)⟩
          case measure => simp [intOf]; omega
        · have HAN : Hid (firstI (RDep rs) us a = -1) := Lib.hid (first_dep _ us a k (by rw [HLEN.out]; exact hlt) HF.out (by rw [← HU.out]; exact hua) (by rw [← HU.out]; exact HBV.out))
          go_wp2_with fail
          refine HD2.out.mono ?_
          rintro e w3 ⟨rfl, hb3⟩
          go_wp2_with fail
          go_ret
          exact ⟨ret_i _ _ HAN.out.symm, HB.out.trans ((hdw.trans (hb3.mono hdw.size)).mono HB.out.size)⟩
    · have hke : k = m := by omega
      subst hke
      have HAN : Hid (firstI (RDep rs) us a = -1) := Lib.hid (first_none _ us a (by rw [HLEN.out]; exact HF.out))
      go_wp2_with fail
      go_ret
      exact ⟨ret_i _ _ HAN.out.symm, HB.out⟩
set_option maxHeartbeats 1600000 in
theorem l03WithoutW_any (b off m d k : Nat) (us : List Nat) (w : World) (h : Rd w (some ⟨b, off, none⟩) m (ints us)) (hm : m ≤ 96) (hk : k < m) (hd : m ≤ d) :
    Calls Tryd.prog 104 #[.slice (some ⟨b, off, none⟩) m d, .int .i64 (k : Int)] w (MakesE 2 w (m - 1) (ints (us.eraseIdx k))) := by
  obtain ⟨i0, hi, hz0, hz1, hz2⟩ := info_parts info_int
  have hlen : us.length = m := by have := h.1; rw [ints_len] at this; exact this
  have h1 : Rd w (some ⟨b, off, none⟩) k (ints (us.take k)) := h.take_ k (by omega)
  have h2 := h.drop_ (k + 1)
  have HOWN : Hid (∀ ww : World, Below w.heap.size w ww → Calls Tryd.prog 63 #[.slice (some ⟨b, off, none⟩) k d] ww (MakesE 2 ww k (ints (us.take k)))) := Lib.hid fun ww hw => own_any _ _ _ _ ww (h1.below hw) (by omega)
  have hkd : k ≤ d := by omega
  have hkd1 : k + 1 ≤ d := by omega
  have hkm1 : k + 1 ≤ m := by omega
  have hdr : Below w.heap.size w w.drew := (Below.refl _ _).drew
  have hw1 : IntKind.i64.wrap ((k : Int) + 1) = (k : Int) + 1 := by rw [IntWalk.i64_left]; unfold wrap64; omega
  have hI2 : (0 : Int) ≤ (k : Int) + 1 := by omega
  have hI3 : (k : Int) + 1 ≤ (m : Int) := by omega
  have HER : Hid (us.take k ++ us.drop (k + 1) = us.eraseIdx k) := Lib.hid (List.eraseIdx_eq_take_drop_succ ..).symm
  have fin : ∀ (w2 : World) (A2 : Option Addr) (c2 q : Nat) (v' : Value) (w3 : World), Own 2 w2 w.heap.size A2 k c2 (ints (us.take k)) → Below w.heap.size w w2 → q = m - 1 → w3.ownsRow w.heap.size 2 1 v' q ((ints (us.take k)).map (Value.int .i64) ++ (ints (us.drop (k + 1))).map (Value.int .i64)) → w2.grownBy w3 (Value.slice A2 k c2).ownBlock → ∃ A3 c3, v' = .slice A3 (m - 1) c3 ∧ Own 2 w3 w.heap.size A3 (m - 1) c3 (ints (us.eraseIdx k)) ∧ Below w.heap.size w w3 := by
    intro w2 A2 c2 q v' w3 ho hb hq hown hg
    subst hq
    rw [← List.map_append] at hown
    have e9 : ints (us.take k) ++ ints (us.drop (k + 1)) = ints (us.eraseIdx k) := by rw [← HER.out]; unfold ints; rw [List.map_append]
    rw [e9] at hown
    obtain ⟨A3, c3, rfl, ho3⟩ := own_shape hown
    exact ⟨A3, c3, rfl, ho3, hb.grown hg hb.size (fun r hr => (World.ownsRow.lt ho r hr).1)⟩
  have HFIN := Lib.hid fin
  clear fin
  by_cases hdk : d = k + 1
  · have hmk : m = k + 1 := by omega
    subst hdk hmk
    have hI1 : (k : Int) ≤ (k : Int) + 1 := by omega
    have hml : k + 0 ≤ maxLen := by unfold maxLen; omega
    have hby : (k + 0) * 8 ≤ 140737488355328 := by omega
    have hnil : Hid (us.drop (k + 1) = []) := Lib.hid (List.drop_eq_nil_of_le (by omega))
    clear hlen
    go_enter Tryd.func104, Tryd.ntmps104
    go_wp2_with fail
    go_region_law (first | (refine step_append_own' (by rfl) _ _ _ (by rfl) w.heap.size 2 i0 _ 1 8 Tryd.underlying22 hi hz0 hz1 hz2 rfl (by omega) (.slice A2 k c2) k ((ints (us.take k)).map (Value.int .i64)) (by rfl) ho2 ⟨b, off, none⟩ 0 0 [] (by rfl) (by rfl) (by intro j u hu; simp at hu) (by simp) hml hby (by have := hb2.size; exact this) ?_; intro v3 w3 hown hg) | (go_simp; go_at_call 63; refine (HOWN.out _ hdr).mono ?_; rintro e w2 ⟨A2, c2, rfl, ho2, hb2⟩))
    all_goals (
      obtain ⟨A3, c3, rfl, ho3, hb3⟩ := HFIN.out w2 A2 c2 (k + 0) v3 w3 ho2 (hdr.trans hb2) (by omega) (by rw [hnil.out]; exact hown) hg
      clear hown hg
      go_wp2_with fail
      go_ret
      exact ⟨A3, c3, rfl, ho3, hb3⟩)
  · have hI1 : (k : Int) ≤ (d : Int) := by omega
    have hml : k + (m - (k + 1)) ≤ maxLen := by unfold maxLen; omega
    have hby : (k + (m - (k + 1))) * 8 ≤ 140737488355328 := by omega
    have hl2 : ((ints (us.drop (k + 1))).map (Value.int .i64)).length = (m - (k + 1)) * 1 := by rw [List.length_map, h2.1, Nat.mul_one]
    have HN2 : Hid (∀ wx : World, Below w.heap.size w wx → ∀ j u, ((ints (us.drop (k + 1))).map (Value.int .i64))[j]? = some u → wx.cell? ((⟨b, off + (k + 1), none⟩ : Addr).add j) = some u) := Lib.hid fun wx hwx => rd_news2 h2 (fun p hp => hwx.cell hp) hwx.size
    have HL2 := Lib.hid hl2
    have HMQ : Hid (k + (m - (k + 1)) = m - 1) := Lib.hid (by omega)
    clear hlen hl2 h2
    go_enter Tryd.func104, Tryd.ntmps104
    go_wp2_with fail
    go_region_law (first | (refine step_append_own' (by rfl) _ _ _ (by rfl) w.heap.size 2 i0 _ 1 8 Tryd.underlying22 hi hz0 hz1 hz2 rfl (by omega) (.slice A2 k c2) k ((ints (us.take k)).map (Value.int .i64)) (by rfl) ho2 ⟨b, off + (k + 1), none⟩ (m - (k + 1)) (d - (k + 1)) ((ints (us.drop (k + 1))).map (Value.int .i64)) (by rfl) HL2.out (HN2.out _ (hdr.trans hb2)) (ints_oneCell .i64 _) hml hby (by have := hb2.size; exact this) ?_; intro v3 w3 hown hg) | (go_simp; go_at_call 63; refine (HOWN.out _ hdr).mono ?_; rintro e w2 ⟨A2, c2, rfl, ho2, hb2⟩))
    all_goals (
      obtain ⟨A3, c3, rfl, ho3, hb3⟩ := HFIN.out w2 A2 c2 (k + (m - (k + 1))) v3 w3 ho2 (hdr.trans hb2) HMQ.out hown hg
      clear hown hg
      go_wp2_with fail
      go_ret
      exact ⟨A3, c3, rfl, ho3, hb3⟩)
set_option maxHeartbeats 3200000 in
theorem l03SameW_any (A B C : Option Addr) (n c m d q f : Nat) (rs us vs : List Nat) (w : World) (h : Rd w A n (ints rs)) (hn : n ≤ 24) (hr : ∀ i, rs.getD i 0 < 2 ^ n) (h2 : Rd w B m (ints us)) (hm : m ≤ 96) (h3 : Rd w C q (ints vs)) (hq : q ≤ 96) (hus : ∀ x, x ∈ us → x < n) (hvs : ∀ x, x ∈ vs → x < n) :
    Calls Tryd.prog 57 #[.agg #[.int .i64 (n : Int), .slice A n c], .slice B m d, .slice C q f] w fun e w' => e = .returned (.bool (takeB (RDep rs) us vs)) ∧ Below w.heap.size w w' := by
  have mixed : Tryd.prog.follows .mixedOrders = true := by kernel_rfl
  have HLU : Hid (us.length = m) := Lib.hid (by have := h2.1; rw [ints_len] at this; exact this)
  have HLV : Hid (vs.length = q) := Lib.hid (by have := h3.1; rw [ints_len] at this; exact this)
  have HR := Lib.hid hr
  have HUS := Lib.hid hus
  have HVS := Lib.hid hvs
  clear hr hus hvs
  have x0 := box_new 24 w (n : Int) A n c
  have hb0 : Below w.heap.size w (w.alloc (.cells #[.int .i64 (n : Int), .slice A n c] 24)) := below1 w _
  obtain ⟨W1, hW1⟩ : ∃ W1, w.alloc (.cells #[.int .i64 (n : Int), .slice A n c] 24) = W1 := ⟨_, rfl⟩
  rw [hW1] at x0 hb0
  have HOWN := Lib.hid (own_any C q f (ints vs) W1 (h3.below hb0) (by omega))
  obtain ⟨V, hV⟩ : ∃ V, V = takeB (RDep rs) us vs := ⟨_, rfl⟩
  have HV := Lib.hid hV
  rw [← hV]
  clear hV h3
  go_enter Tryd.func57, Tryd.ntmps57
  go_wp2_with fail
  refine HOWN.out.mono ?_
  rintro e w3 ⟨A3, c3, rfl, ho3, hb3⟩
  go_wp2_with fail
  go_loopw [7, 8] (fun p i wr => ∃ (k kr : Nat) (ts : List Nat) (Ar : Option Addr) (cr : Nat), k ≤ m ∧ kr ≤ 96 ∧ p = .slice Ar kr cr ∧ i = .int .i64 (k : Int) ∧ Own 2 wr W1.heap.size Ar kr cr (ints ts) ∧ V = takeB (RDep rs) (us.drop k) ts ∧ (∀ x, x ∈ ts → x < n) ∧ Below W1.heap.size W1 wr) (fun _ i _ => m - (intOf i).toNat)
  case atStart => exact ⟨0, q, vs, A3, c3, Nat.zero_le _, hq, rfl, rfl, ho3, HV.out, HVS.out, hb3⟩
  case round =>
    clear ho3 hb3
    obtain ⟨k, kr, ts, Ar, cr, hk, hkr, rfl, rfl, ho, hv, hts, hb⟩ := hrel
    have HVK := Lib.hid hv
    have HTS := Lib.hid hts
    have HLT : Hid (ts.length = kr) := Lib.hid (by have := ho.len; rw [ints_len] at this; exact this)
    clear hv hts
    have hx := x0.next hb
    have y0 := hx.c0
    have y1 := hx.c1
    have HB := Lib.hid (hb0.trans (hb.mono hb0.size))
    by_cases hlt : k < m
    · obtain ⟨gu, ou, x, eU, hgu, hxu, hcx⟩ := ((h2.below hb0).below hb).at_ hlt
      rw [ints_getD us k (by rw [HLU.out]; exact hlt)] at hxu
      injection hxu with hxu
      have hun : us.getD k 0 < n := HUS.out _ (by rw [List.getD_eq_getElem?_getD, List.getElem?_eq_getElem (by rw [HLU.out]; exact hlt)]; exact List.getElem_mem _)
      have hdrop := drop_at us k (by rw [HLU.out]; exact hlt)
      obtain ⟨u, hu⟩ : ∃ u, u = us.getD k 0 := ⟨_, rfl⟩
      rw [← hu] at hxu hun hdrop
      have HDR := Lib.hid hdrop
      subst hxu eU
      clear hu hdrop
      have hdw : Below wr.heap.size wr wr.drew := (Below.refl _ _).drew
      have hFI := l03FirstW_any (n : Int) A Ar n c kr cr u rs ts wr.drew (((h.below hb0).below hb).below hdw) hn HR.out (ho.rd.below hdw) hkr (fun p hp => HTS.out _ (by rw [List.getD_eq_getElem?_getD, List.getElem?_eq_getElem (by rw [HLT.out]; exact hp)]; exact List.getElem_mem _)) hun
      cases hfree : freeB (RDep rs) ts u
      · have hfi : firstI (RDep rs) ts u = -1 := by unfold firstI; rw [hfree]; rfl
        rw [hfi] at hFI
        have HFI := Lib.hid hFI
        have HF : Hid (V = false) := Lib.hid (by rw [HVK.out, HDR.out]; exact take_no _ _ _ _ hfree)
        clear hFI hfi hfree
        go_wp2_with fail
        go_still_tail 6, mixed
        change wpList _ _ _ _ _ wr.drew
        go_wp2_with fail
        refine HFI.out.mono ?_
        rintro e w4 ⟨rfl, hb4⟩
        go_wp2_with fail
        go_ret
        exact ⟨ret_b _ _ HF.out.symm, HB.out.trans ((hdw.trans (hb4.mono hdw.size)).mono HB.out.size)⟩
      · have hmem := free_mem (RDep rs) u ts hfree
        have hidx : ts.idxOf u < kr := by rw [← HLT.out]; exact List.idxOf_lt_length_of_mem hmem
        have hfi : firstI (RDep rs) ts u = ((ts.idxOf u : Nat) : Int) := by unfold firstI; rw [hfree]; rfl
        rw [hfi] at hFI
        have HER := Lib.hid (erase_idx ts u hmem)
        have HVN : Hid (V = takeB (RDep rs) (us.drop (k + 1)) (ts.erase u)) := Lib.hid (by rw [HVK.out, HDR.out]; exact take_yes _ _ _ _ hfree)
        obtain ⟨qi, hqi⟩ : ∃ qi, qi = ts.idxOf u := ⟨_, rfl⟩
        rw [← hqi] at hidx hFI HER
        have HFI := Lib.hid hFI
        obtain ⟨gr, rfl, _⟩ := ho.form (by omega)
        have HCAP := Lib.hid (own_cap ho)
        clear hFI hfi hfree hmem hqi
        go_wp2_with fail
        go_still_tail 6, mixed
        change wpList _ _ _ _ _ wr.drew
        go_wp2_with fail
        refine HFI.out.mono ?_
        rintro e w4 ⟨rfl, hb4⟩
        have hb04 : Below wr.heap.size wr w4 := hdw.trans (hb4.mono hdw.size)
        have HWI := Lib.hid (l03WithoutW_any gr 0 kr cr qi ts w4 (ho.rd.below hb04) hkr hidx HCAP.out)
        go_wp2_with fail
        refine HWI.out.mono ?_
        rintro e w6 ⟨A6, c6, rfl, ho6, hb6⟩
        rw [HER.out] at ho6
        have hb06 := hb04.trans (hb6.mono hb04.size)
        have ho6' := ho6.mono (show W1.heap.size ≤ w4.heap.size by have := hb.size; have := hb04.size; omega)
        go_wp2_with fail
        go_roundw
        case rel => exact ⟨k + 1, kr - 1, ts.erase u, A6, c6, hlt, by omega, rfl, by go_num, ho6', HVN.out, fun x hx => HTS.out x (List.mem_of_mem_erase hx), hb.trans (hb06.mono hb.size)⟩
        case measure => simp [intOf]; omega
    · have hkm : k = m := by omega
      subst hkm
      have HE : Hid (V = decide (kr = 0)) := Lib.hid (by
        rw [HVK.out, List.drop_of_length_le (by rw [HLU.out]; exact Nat.le_refl _)]
        show ts.isEmpty = decide (kr = 0)
        rw [isEmpty_len, HLT.out])
      go_wp2_with fail
      go_ret
      exact ⟨ret_b _ _ (by rw [HE.out]; by_cases h0 : kr = 0 <;> simp [h0]), HB.out⟩
end Go.Proofs.YtokikilfmglhhaaDoor
namespace Go.Proofs.YtokikilfmglhhaaDoor
open Go Go.RowKit
set_option linter.unusedVariables false
set_option maxRecDepth 100000

theorem own_blockV (A : Option Addr) (n c : Nat) : (Value.slice A n c).ownBlock = A.map (·.block) := by cases A <;> rfl
/-- An append of numbers behind an own row, with the row's place afterwards. -/
theorem step_append_at {w : World} {ops : Array Oper} {o : Oper} {a : Act} {K : Act → World → Prop} {Q : Exit → Act → World → Prop} {E : Prop} (hgd : o.guard = none) (s x : Operand)
    (ho : o.op = .call { callee := .builtin .append, args := #[s, x], argTypes := #[22, 22] }) (base : Nat) (A : Option Addr) (N cA : Nat) (all : List Nat) (hs : a.eval s = .slice A N cA) (hown : Own 2 w base A N cA (ints all))
    (A2 : Option Addr) (m c2 : Nat) (ss : List Nat) (hx : a.eval x = .slice A2 m c2) (h2 : Rd w A2 m (ints ss)) (h63 : N + m ≤ maxLen) (hby : (N + m) * 8 ≤ 140737488355328) (hbase : base ≤ w.heap.size)
    (h : ∀ v' w', (∃ A' c', v' = .slice A' (N + m) c' ∧ Own 2 w' base A' (N + m) c' (ints (all ++ ss)) ∧ (A'.map (·.block) = A.map (·.block) ∨ A'.map (·.block) = some w.heap.size)) → w.grownBy w' (A.map (·.block)) → K (a.put o.dst v') w') :
    if Region.wanted o (yielded ops a.tmps) = true then Oper.wp Tryd.prog o a w K Q else E := by
  have hw : Region.wanted o (yielded ops a.tmps) = true := by simp [Region.wanted, hgd]
  rw [if_pos hw]
  obtain ⟨i0, hi, hz0, hz1, hz2⟩ := info_parts info_int
  cases A2 with
  | none =>
    have hm0 : m = 0 := by
      rcases Nat.eq_zero_or_pos m with h0 | h0
      · exact h0
      · obtain ⟨b, off, e9, _⟩ := h2.2 h0; cases e9
    subst hm0
    have hs0 : ss = [] := List.eq_nil_of_length_eq_zero (by have := h2.1; rw [ints_len] at this; exact this)
    subst hs0
    have hrun := run_append_nothing (P := Tryd.prog) w 22 22 o.type 2 i0 Tryd.underlying22 hi A N cA (own_cap hown) (.slice none 0 c2) (Src.ofNil w Tryd.underlying22 c2)
    unfold Oper.wp
    simp [execOp, ho, resolve, invoke, builtin, hs, hx, hrun, Result.andThen]
    exact h (.slice A N cA) w ⟨A, cA, rfl, by rw [List.append_nil]; exact hown, .inl rfl⟩ (World.grownBy.refl _ _)
  | some ad =>
    have hl2 : ((ints ss).map (Value.int .i64)).length = m * 1 := by rw [List.length_map, h2.1, Nat.mul_one]
    obtain ⟨v', w', hr, hown', hg, _, hat⟩ := run_append_own_at (P := Tryd.prog) w base 22 o.type 2 i0 (.int .i64 0) 1 8 Tryd.underlying22 hi hz0 hz1 hz2 rfl (by decide) (.slice A N cA) N ((ints all).map (Value.int .i64)) hown ad m c2 ((ints ss).map (Value.int .i64)) hl2 (by
      intro j u hu
      have hj : 0 < m := by
        rcases Nat.eq_zero_or_pos m with h0 | h0
        · have h8 : (ints ss).map (Value.int .i64) = [] := List.eq_nil_of_length_eq_zero (by rw [hl2, h0])
          rw [h8] at hu; simp at hu
        · exact h0
      obtain ⟨b, off, e9, _⟩ := h2.2 hj
      injection e9 with e9
      subst e9
      exact rd_news h2 hj j u hu) (ints_oneCell .i64 _) h63 hby hbase
    unfold Oper.wp execOp
    simp only [ho, resolve, invoke, builtin, Sem.run_bind, Sem.run_pure, Result.andThen_ok, List.map_toArray, List.map_cons, List.map_nil, hs, hx, hr]
    have e8 : (ints all).map (Value.int .i64) ++ (ints ss).map (Value.int .i64) = (ints (all ++ ss)).map (Value.int .i64) := by rw [ints_app, List.map_append]
    rw [e8] at hown'
    obtain ⟨A3, c3, rfl, ho3⟩ := own_shape hown'
    rw [own_blockV] at hg
    rw [own_blockV, own_blockV] at hat
    exact h _ w' ⟨A3, c3, rfl, ho3, hat⟩ hg
theorem rd_lit (w : World) (a : Nat) (T : TypeId) : Rd (w.alloc (.cells #[.int .i64 (a : Int)] T)) (some ⟨w.heap.size, 0, none⟩) 1 (ints [a]) := by
  refine ⟨rfl, fun _ => ⟨w.heap.size, 0, rfl, (Array.getElem?_eq_some_iff.1 (World.alloc_heap_new w _)).1, fun j x hx => ?_⟩⟩
  have h1 : j = 0 := by
    rcases Nat.eq_zero_or_pos j with h | h
    · exact h
    · rw [List.getElem?_eq_none (by show 1 ≤ j; exact h)] at hx; cases hx
  subst h1
  injection hx with hx
  subst hx
  exact cell_one_new w (.int .i64 (a : Int)) T 0 _ rfl
end Go.Proofs.YtokikilfmglhhaaDoor
namespace Go.Proofs.YtokikilfmglhhaaDoor
open Go Go.RowKit
set_option linter.unusedVariables false
set_option maxRecDepth 100000

/-- Two words with equally many letters: the one can be cut off the other one exactly if they are words of one trace. -/
theorem cut_same (D : Nat → Nat → Bool) (n : Nat) (hsym : ∀ a b, D a b = D b a) (href : ∀ a, a < n → D a a = true) (u v : List Nat) (hu : ∀ x, x ∈ u → x < n) (hv : ∀ x, x ∈ v → x < n) (hl : u.length = v.length) : (cutM D u v).isSome = takeB D u v := by
  have key : (cutM D u v).isSome = true ↔ takeB D u v = true := by
    rw [same_iff hsym href u v hu hv]
    constructor
    · intro h
      cases hc : cutM D u v with
      | none => rw [hc] at h; cases h
      | some r =>
        have h1 := cut_eqv D hsym u v r hc
        have hr := (cut_len D u v r hc).2
        have h2 := Eqv.len hsym href (u ++ r) v (fun x hx => (List.mem_append.1 hx).elim (hu x) (fun h => hv x (hr x h))) hv h1
        rw [List.length_append] at h2
        have : r = [] := List.eq_nil_of_length_eq_zero (by omega)
        rw [this, List.append_nil] at h1
        exact h1
    · intro h
      obtain ⟨r, hr, _⟩ := cut_some D n hsym href u [] v hu (by rw [List.append_nil]; exact h)
      rw [hr]; rfl
  cases h1 : (cutM D u v).isSome <;> cases h2 : takeB D u v
  · rfl
  · exact absurd (key.2 h2) (by rw [h1]; decide)
  · exact absurd (key.1 h1) (by rw [h2]; decide)
  · rfl
def oaBlk {E : TypeId} {w : World} {B n c : Nat} {A : Option Addr} {xs : List Int} (_ : Own E w B A n c xs) : Option Nat := A.map (·.block)
def acF (rs us ts : List Nat) : Bool := takeB (RDep rs) (us ++ ts) (ts ++ us)
set_option maxHeartbeats 6400000 in
theorem implAreCommuting (L : Int) (A : Option Addr) (n c : Nat) (xs : List Int) (A1 : Option Addr) (m d : Nat) (us : List Int) (B1 : Option Addr) (q f : Nat) (ts : List Int) (w : World) (h : Rd w A n xs) (hwf : Wf xs) (hL1 : -9223372036854775808 ≤ L) (hL2 : L ≤ 9223372036854775807) (hn : n ≤ maxLen) (h2 : Rd w A1 m us) (hwf2 : Wf us) (hm : m ≤ maxLen) (h3 : Rd w B1 q ts) (hwf3 : Wf ts) (hq : q ≤ maxLen) (hcm : m ≤ d) (hcq : q ≤ f) (hT : Tab w) :
    Calls Tryd.prog 27 #[.agg #[.int .i64 L, .slice A n c], .slice A1 m d, .slice B1 q f] w (fun e w' => e = .returned (.tuple #[.bool (dB acF L xs us ts).1, .int .i64 (dB acF L xs us ts).2]) ∧ Below w.heap.size w w') := by
  have hn2 : n ≤ 9223372036854775807 := by unfold maxLen at hn; omega
  have hn1 := h.1
  have hm1 := h2.1
  have hq1 := h3.1
  have HB := Lib.hid (below2 w (.cells #[.int .i64 L, .slice A n c] 24) (.cells #[.slice A1 m d, .slice B1 q f] 22))
  have hh := h.below HB.out
  have ht := rdT_box2 w (.cells #[.int .i64 L, .slice A n c] 24) A1 B1 m d q f us ts 22 h2 hm h3 hq
  have hh2 := h2.below HB.out
  have hh3 := h3.below HB.out
  have hT1 := hT.below HB.out
  cases ha : alphB L xs
  · rw [show dB acF L xs us ts = _ from dB_no acF L xs us ts ha]
    have HA := Lib.hid ha
    clear ha ht hn1
    go_enter Tryd.func27, Tryd.ntmps27
    go_wp2_with fail
    refine (dependenceWith_no L _ _ _ _ _ _ xs [] _ hh hwf hL1 hL2 hn2 HA.out hT1).mono ?_
    rintro e w1 ⟨rfl, hb⟩
    go_wp2_with fail
    go_ret2
    exact ⟨rfl, HB.out.trans (hb.mono HB.out.size)⟩
  · cases hu : (wordB L us && wordB L ts)
    · rw [show dB acF L xs us ts = _ from dB_bad acF L xs us ts ha hu]
      obtain ⟨rs, rfl, rfl, h8, hr, hrel, hl, hd, _⟩ := alphB_nats L xs n hn1 ha
      have HU := Lib.hid hu
      clear ha hu
      go_enter Tryd.func27, Tryd.ntmps27
      go_wp2_with fail
      refine (dependenceWith_any _ _ _ _ _ _ rs _ _ hh hwf h8 hr hrel hd ht (by omega) hT1).mono ?_
      rw [okT_pair, HU.out]
      rintro e w1 (⟨hok, _⟩ | ⟨hok, rfl, hb⟩)
      · cases hok
      go_wp2_with fail
      go_ret2
      exact ⟨rfl, HB.out.trans (hb.mono HB.out.size)⟩
    · obtain ⟨rs, rfl, rfl, h8, hr, hrel, hl, hd, _⟩ := alphB_nats L xs n hn1 ha
      have hu' := hu
      rw [Bool.and_eq_true] at hu'
      obtain ⟨vs, rfl, hv24, hvn⟩ := wordB_nats n us hu'.1
      obtain ⟨ys, rfl, hy24, hyn⟩ := wordB_nats n ts hu'.2
      rw [show dB acF (n : Int) (ints rs) (ints vs) (ints ys) = _ from dB_yes acF (n : Int) rs vs ys ha hu]
      have HU := Lib.hid hu
      have HDEP := Lib.hid ((depB_iff rs n hl hr).1 hd)
      rw [ints_len] at hm1 hq1
      have hm24 : m ≤ 24 := by omega
      have hq24 : q ≤ 24 := by omega
      have HLU := Lib.hid hm1
      have HLQ := Lib.hid hq1
      have HLR := Lib.hid hl
      have HR := Lib.hid hr
      have HVM := Lib.hid hvn
      have HYM := Lib.hid hyn
      have HSY : Hid (∀ a b, RDep rs a b = RDep rs b a) := Lib.hid (rdep_sym rs n hl hr HDEP.out)
      have HRE : Hid (∀ a, a < n → RDep rs a a = true) := Lib.hid fun a ha9 => HDEP.out.1 a (by rw [HLR.out]; exact ha9)
      have HR63 : Hid (∀ i, rs.getD i 0 < 9223372036854775808) := Lib.hid fun i => lt63 (by omega) (hr i)
      clear ha hu hu' hl hm1 hq1
      go_enter Tryd.func27, Tryd.ntmps27
      go_wp2_with fail
      refine (dependenceWith_any _ _ _ _ _ _ rs _ _ hh hwf h8 hr hrel hd ht (by omega) hT1).mono ?_
      rw [okT_pair, HU.out]
      rintro e w1 (⟨hok, A2, c2, rfl, ho, hb⟩ | ⟨hok, _⟩)
      rotate_left
      · cases hok
      have HB1 := Lib.hid (HB.out.trans (hb.mono HB.out.size))
      have hr2 := hh2.below hb
      have hr3 := hh3.below hb
      have hrd := ho.rd
      have hT2 := hT1.below hb
      have h24 : n ≤ 24 := by omega
      clear ho hb hok ht hh hh2 hh3 hT1 hT h h2 h3 hr hvn hyn hd hrel
      have HCS : Hid ((cutM (RDep rs) (vs ++ ys) (ys ++ vs)).isSome = acF rs vs ys) := Lib.hid (cut_same (RDep rs) n HSY.out HRE.out _ _ (fun x hx => (List.mem_append.1 hx).elim (HVM.out x) (HYM.out x)) (fun x hx => (List.mem_append.1 hx).elim (HYM.out x) (HVM.out x)) (by rw [List.length_append, List.length_append]; omega))
      have HP1 : Hid (∀ x, x ∈ vs ++ ys → x < n) := Lib.hid fun x hx => (List.mem_append.1 hx).elim (HVM.out x) (HYM.out x)
      have HP2 : Hid (∀ x, x ∈ ys ++ vs → x < n) := Lib.hid fun x hx => (List.mem_append.1 hx).elim (HYM.out x) (HVM.out x)
      have hl1 : (vs ++ ys).length = m + q := by rw [List.length_append, HLU.out, HLQ.out]
      have hl2 : (ys ++ vs).length = m + q := by rw [List.length_append, HLU.out, HLQ.out]; omega
      have HC1 : Hid (∀ (ww : World) (T : Option Addr) (cT : Nat), RdT ww T 2 [(A1, m, d, ints vs), (B1, q, f, ints ys)] → Calls Tryd.prog 69 #[.slice T 2 cT] ww (MakesE 2 ww (m + q) (ints (vs ++ ys)))) := Lib.hid fun ww T cT ht => by
        have := concat_any T 2 cT _ [vs, ys] ww ht (by omega) rfl (fun k t hk => by
          match k, hk with
          | 0, hk => injection hk with hk; subst hk; rfl
          | 1, hk => injection hk with hk; subst hk; rfl
          | k + 2, hk => simp at hk) (fun k => by
          match k with
          | 0 => show vs.length ≤ 24; have := HLU.out; omega
          | 1 => show ys.length ≤ 24; have := HLQ.out; omega
          | k + 2 => simp)
        rw [show [vs, ys].flatten = vs ++ ys by simp, hl1] at this
        exact this
      have HC2 : Hid (∀ (ww : World) (T : Option Addr) (cT : Nat), RdT ww T 2 [(B1, q, f, ints ys), (A1, m, d, ints vs)] → Calls Tryd.prog 69 #[.slice T 2 cT] ww (MakesE 2 ww (m + q) (ints (ys ++ vs)))) := Lib.hid fun ww T cT ht => by
        have := concat_any T 2 cT _ [ys, vs] ww ht (by omega) rfl (fun k t hk => by
          match k, hk with
          | 0, hk => injection hk with hk; subst hk; rfl
          | 1, hk => injection hk with hk; subst hk; rfl
          | k + 2, hk => simp at hk) (fun k => by
          match k with
          | 0 => show ys.length ≤ 24; have := HLQ.out; omega
          | 1 => show vs.length ≤ 24; have := HLU.out; omega
          | k + 2 => simp)
        rw [show [ys, vs].flatten = ys ++ vs by simp, hl2] at this
        exact this
      obtain ⟨P, hP⟩ : ∃ P, P = vs ++ ys := ⟨_, rfl⟩
      obtain ⟨Q, hQ⟩ : ∃ Q, Q = ys ++ vs := ⟨_, rfl⟩
      rw [← hP, ← hQ] at HCS
      rw [← hP] at HC1 HP1 hl1
      rw [← hQ] at HC2 HP2 hl2
      obtain ⟨K, hK⟩ : ∃ K, K = m + q := ⟨_, rfl⟩
      rw [← hK] at HC1 HC2 hl1 hl2
      have hK48 : K ≤ 48 := by omega
      have hnx := below1 w1 (.cells #[.slice A1 m d, .slice B1 q f] 22)
      have HC1' := Lib.hid (HC1.out _ _ 2 (rdT_two w1 A1 B1 m d q f (ints vs) (ints ys) 22 hr2 (by omega) hr3 (by omega)))
      clear hP hQ hK hl1 hl2
      go_wp2_with fail
      refine HC1'.out.mono ?_
      rintro e w2 ⟨A3, c3, rfl, o3, hb2⟩
      have hb02 := hnx.trans (hb2.mono hnx.size)
      have hr2' := hr2.below hb02
      have hr3' := hr3.below hb02
      have hrd2 := hrd.below hb02
      have r3 := o3.rd
      have hnx2 := below1 w2 (.cells #[.slice B1 q f, .slice A1 m d] 22)
      have HC2' := Lib.hid (HC2.out _ _ 2 (rdT_two w2 B1 A1 q f m d (ints ys) (ints vs) 22 hr3' (by omega) hr2' (by omega)))
      have HBB := Lib.hid (HB1.out.trans (hb02.mono HB1.out.size))
      clear hb2 hb02 hr2 hr3 hrd hr2' hr3' o3 hnx
      go_wp2_with fail
      refine HC2'.out.mono ?_
      rintro e w3 ⟨A4, c4, rfl, o4, hb3⟩
      have hb23 := hnx2.trans (hb3.mono hnx2.size)
      have HBC := Lib.hid (HBB.out.trans (hb23.mono HBB.out.size))
      have hcap := own_cap o4
      have HQU := Lib.hid (quotient_any A2 A3 A4 n c2 K c3 K c4 rs P Q w3 (hrd2.below hb23) h24 HR.out HSY.out HRE.out (r3.below hb23) (by omega) HP1.out o4.rd (by omega) hcap HP2.out)
      unfold QuoPost at HQU
      rw [HCS.out] at HQU
      go_wp2_with fail
      refine HQU.out.mono ?_
      rintro e w4 ⟨A5, c5, rfl, hr4, hle4, hb4⟩
      go_wp2_with fail
      go_ret2
      exact ⟨rfl, HBC.out.trans (hb4.mono HBC.out.size)⟩
set_option maxHeartbeats 12800000 in
theorem specAreCommuting (L : Int) (A : Option Addr) (n c : Nat) (xs : List Int) (A1 : Option Addr) (m d : Nat) (us : List Int) (B1 : Option Addr) (q f : Nat) (ts : List Int) (w : World) (h : Rd w A n xs) (hwf : Wf xs) (hL1 : -9223372036854775808 ≤ L) (hL2 : L ≤ 9223372036854775807) (hn : n ≤ maxLen) (h2 : Rd w A1 m us) (hwf2 : Wf us) (hm : m ≤ maxLen) (h3 : Rd w B1 q ts) (hwf3 : Wf ts) (hq : q ≤ maxLen) :
    Calls Tryd.prog 24 #[.agg #[.int .i64 L, .slice A n c], .slice A1 m d, .slice B1 q f] w (fun e w' => e = .returned (.tuple #[.bool (dB acF L xs us ts).1, .int .i64 (dB acF L xs us ts).2]) ∧ Below w.heap.size w w') := by
  have hn2 : n ≤ 9223372036854775807 := by unfold maxLen at hn; omega
  have hm2 : m ≤ 9223372036854775807 := by unfold maxLen at hm; omega
  have hq2 : q ≤ 9223372036854775807 := by unfold maxLen at hq; omega
  have hn1 := h.1
  have hm1 := h2.1
  have hq1 := h3.1
  have HB := Lib.hid (below1 w (.cells #[.int .i64 L, .slice A n c] 24))
  have x0 := box_new 24 w L A n c
  have hh := h.below HB.out
  have hh2 := h2.below HB.out
  have hh3 := h3.below HB.out
  have HCD := Lib.hid (l03Code_any L A A1 B1 n c m d q f xs us ts _ hh hn2 hh2 hm2 hh3 hq2)
  cases ha : alphB L xs
  · rw [show dB acF L xs us ts = _ from dB_no acF L xs us ts ha]
    have HD := Lib.hid (wCode2_no L xs us ts ha)
    clear ha hn1
    go_enter Tryd.func24, Tryd.ntmps24
    go_wp2_with fail
    refine HCD.out.mono ?_
    rintro e w1 ⟨rfl, hb⟩
    rw [HD.out]
    go_wp2_with fail
    go_ret2
    exact ⟨rfl, HB.out.trans (hb.mono HB.out.size)⟩
  · cases hu : (wordB L us && wordB L ts)
    · rw [show dB acF L xs us ts = _ from dB_bad acF L xs us ts ha hu]
      have HD := Lib.hid (wCode2_bad L xs us ts ha hu)
      clear ha hu hn1
      go_enter Tryd.func24, Tryd.ntmps24
      go_wp2_with fail
      refine HCD.out.mono ?_
      rintro e w1 ⟨rfl, hb⟩
      rw [HD.out]
      go_wp2_with fail
      go_ret2
      exact ⟨rfl, HB.out.trans (hb.mono HB.out.size)⟩
    · have HD := Lib.hid (wCode2_yes L xs us ts ha hu)
      obtain ⟨rs, rfl, rfl, h8, hr, hrel, hl, hd, _⟩ := alphB_nats L xs n hn1 ha
      have hu' := hu
      rw [Bool.and_eq_true] at hu'
      obtain ⟨vs, rfl, hv24, hvn⟩ := wordB_nats n us hu'.1
      obtain ⟨ys, rfl, hy24, hyn⟩ := wordB_nats n ts hu'.2
      rw [show dB acF (n : Int) (ints rs) (ints vs) (ints ys) = _ from dB_yes acF (n : Int) rs vs ys ha hu]
      rw [ints_len] at hm1 hq1
      have HDEP := Lib.hid ((depB_iff rs n hl hr).1 hd)
      have HLU := Lib.hid hm1
      have HLQ := Lib.hid hq1
      have HLR := Lib.hid hl
      have HR := Lib.hid hr
      have HVM := Lib.hid hvn
      have HYM := Lib.hid hyn
      have HSY : Hid (∀ a b, RDep rs a b = RDep rs b a) := Lib.hid (rdep_sym rs n hl hr HDEP.out)
      have HRE : Hid (∀ a, a < n → RDep rs a a = true) := Lib.hid fun a ha9 => HDEP.out.1 a (by rw [HLR.out]; exact ha9)
      have HNR : Hid (∀ ws, nfM (RDep rs) n ws = nfR rs ws) := Lib.hid (fun ws => by unfold nfR; rw [HLR.out])
      have hm24 : m ≤ 24 := by omega
      have hq24 : q ≤ 24 := by omega
      have h24 : n ≤ 24 := by omega
      clear ha hu hu' hl hm1 hq1 hr hvn hyn hd hrel
      go_enter Tryd.func24, Tryd.ntmps24
      go_wp2_with fail
      refine HCD.out.mono ?_
      rintro e w1 ⟨rfl, hb⟩
      rw [HD.out]
      have y0 := (x0.next hb).c0
      have y1 := (x0.next hb).c1
      have x1 := x0.next hb
      have HB1 := Lib.hid (HB.out.trans (hb.mono HB.out.size))
      have hrd := hh.below hb
      have hr2 := hh2.below hb
      have hr3 := hh3.below hb
      clear hh hh2 hh3 h h2 h3 hb x0
      have hml : m + q ≤ maxLen := by unfold maxLen; omega
      have hml2 : q + m ≤ maxLen := by unfold maxLen; omega
      have hby : (m + q) * 8 ≤ 140737488355328 := by omega
      have hby2 : (q + m) * 8 ≤ 140737488355328 := by omega
      have hcur : Below w1.heap.size w1 w1.drew := (Below.refl _ _).drew
      have HO1 : Hid (∀ ww, Below w1.heap.size w1 ww → Calls Tryd.prog 63 #[.slice A1 m d] ww (MakesE 2 ww m (ints vs))) := Lib.hid fun ww hw => own_any A1 m d (ints vs) ww (hr2.below hw) (by omega)
      have HO2 : Hid (∀ ww, Below w1.heap.size w1 ww → Calls Tryd.prog 63 #[.slice B1 q f] ww (MakesE 2 ww q (ints ys))) := Lib.hid fun ww hw => own_any B1 q f (ints ys) ww (hr3.below hw) (by omega)
      have HSM : Hid (∀ ww A3 c3 A4 c4, Below w1.heap.size w1 ww → Rd ww A3 (m + q) (ints (vs ++ ys)) → Rd ww A4 (q + m) (ints (ys ++ vs)) → Calls Tryd.prog 57 #[.agg #[.int .i64 (n : Int), .slice A n c], .slice A3 (m + q) c3, .slice A4 (q + m) c4] ww fun e w' => e = .returned (.bool (acF rs vs ys)) ∧ Below ww.heap.size ww w') := Lib.hid fun ww A3 c3 A4 c4 hw h3 h4 =>
        l03SameW_any A A3 A4 n c (m + q) c3 (q + m) c4 rs (vs ++ ys) (ys ++ vs) ww (hrd.below hw) h24 HR.out h3 (by omega) h4 (by omega) (fun x hx => (List.mem_append.1 hx).elim (HVM.out x) (HYM.out x)) (fun x hx => (List.mem_append.1 hx).elim (HYM.out x) (HVM.out x))
      have s0 := x1.c0
      have s1 := x1.c1
      go_wp2_with fail
      go_region_law (first
        | (go_simp; go_at_call 63; first
            | ((with_reducible refine (HO1.out _ hcur).mono ?_); rintro e wa ⟨Aa, ca, rfl, oa, hba⟩; have hcz := hcur.size; have hcur := hcur.trans (hba.mono hcz); have oa := oa.mono hcz; obtain ⟨ba, hA⟩ : ∃ b, b = Aa.map (·.block) := ⟨_, rfl⟩; have s0 := (x1.next hcur).c0; have s1 := (x1.next hcur).c1; have r2c := hr2.below hcur; have r3c := hr3.below hcur)
            | ((with_reducible refine (HO2.out _ hcur).mono ?_); rintro e wb ⟨Ab, cb, rfl, ob, hbb⟩; obtain ⟨bb, hB⟩ : ∃ b, b = Ab.map (·.block) := ⟨_, rfl⟩; have hsep : ∀ k, bb = some k → ba ≠ some k := fun k h1 h2 => (by have h3 := (ob.lt k (hB.symm.trans h1)).1; have h4 := (oa.lt k (hA.symm.trans h2)).2; omega); have oa := oa.below hbb; have hcz := hcur.size; have hcur := hcur.trans (hbb.mono hcz); have ob := ob.mono hcz; have s0 := (x1.next hcur).c0; have s1 := (x1.next hcur).c1; have r2c := hr2.below hcur; have r3c := hr3.below hcur))
        | (refine step_append_at rfl (.tmp 18) (.tmp 19) rfl w1.heap.size Aa m ca vs (by go_simp) oa B1 q f ys (by go_simp) r3c hml hby hcur.size ?_; rintro v3 wc ⟨Ac, cc, rfl, oc, hatc⟩ hgc; have hold := oa.lt; have hgr := hcur.grown hgc hcur.size (fun k e9 => (hold k e9).1); (try have obx := ob.apart hgc (fun k h1 h2 => hsep k (hB.trans h1) (hA.trans h2))); obtain ⟨ba, hA2⟩ : ∃ b, b = Ac.map (·.block) := ⟨_, rfl⟩; (try have hsx : ∀ k, bb = some k → ba ≠ some k := fun k h1 h2 => (by rcases hatc with h3 | h3 <;> rw [← hA2] at h3 <;> first | (rw [← hA] at h3; exact hsep k h1 (h3.symm.trans h2)) | (rw [h3] at h2; injection h2 with h2; have h4 := (ob.lt k (hB.symm.trans h1)).2; omega))); (try have hsep := hsx); (try have ob := obx); have hA := hA2; have oa := oc; have hcur := hgr; have s0 := (x1.next hcur).c0; have s1 := (x1.next hcur).c1; have r2c := hr2.below hcur; have r3c := hr3.below hcur)
        | (refine step_append_at rfl (.tmp 22) (.tmp 23) rfl w1.heap.size Ab q cb ys (by go_simp) ob A1 m d vs (by go_simp) r2c hml2 hby2 hcur.size ?_; rintro v4 we ⟨Ae, ce, rfl, oe, hate⟩ hge; have hold := ob.lt; have hgr := hcur.grown hge hcur.size (fun k e9 => (hold k e9).1); have oax := oa.apart hge (fun k h1 h2 => hsep k (hB.trans h2) (hA.trans h1)); obtain ⟨bb, hB2⟩ : ∃ b, b = Ae.map (·.block) := ⟨_, rfl⟩; have hsx : ∀ k, bb = some k → ba ≠ some k := fun k h1 h2 => (by rcases hate with h3 | h3 <;> rw [← hB2] at h3 <;> first | (rw [← hB] at h3; exact hsep k (h3.symm.trans h1) h2) | (rw [h3] at h1; injection h1 with h1; have h4 := (oa.lt k (hA.symm.trans h2)).2; omega)); have hsep := hsx; have hB := hB2; have oa := oax; have ob := oe; have hcur := hgr; have s0 := (x1.next hcur).c0; have s1 := (x1.next hcur).c1; have r2c := hr2.below hcur; have r3c := hr3.below hcur)
        | (go_simp; go_at_call 57; refine (HSM.out _ _ _ _ _ hcur oa.rd ob.rd).mono ?_; rintro e w4 ⟨rfl, hb4⟩))
      all_goals (
        go_wp2_with fail
        go_ret2
        have hb14 := hcur.trans (hb4.mono hcur.size)
        exact ⟨rfl, HB1.out.trans (hb14.mono HB1.out.size)⟩)
end Go.Proofs.YtokikilfmglhhaaDoor
