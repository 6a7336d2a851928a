/-
  Concatenate: helpers. Concatenate: both sides. An append of numbers behind an own row, with the row's place afterwards; a literal of one number. slices.Repeat of numbers, and of slices. PowerOf: both sides. Roots of traces: plain mathematics. ContentOf: the model's side.
-/
import Derived.Test.YtokikilfmglhhaaDoorDv2
import Derived.Lib.AppendZeros
import Derived.Maps.AppendAt
import Derived.Deep.RegionLaw
import Derived.Test.YtokikilfmglhhaaDoorSame
import Derived.Test.YtokikilfmglhhaaDoorWord3
namespace Go.Proofs.YtokikilfmglhhaaDoor
open Go Go.RowKit
set_option linter.unusedVariables false
set_option maxRecDepth 100000

theorem step_append_rd {w : World} {ops : Array Oper} {o : Oper} {a : Act} {K : Act → World → Prop} {Q : Exit → Act → World → Prop} {E : Prop} (hgd : o.guard = none) (s x : Operand)
    (ho : o.op = .call { callee := .builtin .append, args := #[s, x], argTypes := #[22, 22] }) (base : Nat) (A : Option Addr) (N cA : Nat) (all : List Nat) (hs : a.eval s = .slice A N cA) (hown : Own 2 w base A N cA (ints all))
    (A2 : Option Addr) (m c2 : Nat) (ss : List Nat) (hx : a.eval x = .slice A2 m c2) (h2 : Rd w A2 m (ints ss)) (h63 : N + m ≤ maxLen) (hby : (N + m) * 8 ≤ 140737488355328) (hbase : base ≤ w.heap.size)
    (h : ∀ v' w', (∃ A' c', v' = .slice A' (N + m) c' ∧ Own 2 w' base A' (N + m) c' (ints (all ++ ss))) → w.grownBy w' (Value.slice A N cA).ownBlock → K (a.put o.dst v') w') :
    if Region.wanted o (yielded ops a.tmps) = true then Oper.wp Tryd.prog o a w K Q else E := by
  have hw : Region.wanted o (yielded ops a.tmps) = true := by simp [Region.wanted, hgd]
  rw [if_pos hw]
  obtain ⟨i0, hi, hz0, hz1, hz2⟩ := info_parts info_int
  cases A2 with
  | none =>
    have hm0 : m = 0 := by
      rcases Nat.eq_zero_or_pos m with h0 | h0
      · exact h0
      · obtain ⟨b, off, e9, _⟩ := h2.2 h0; cases e9
    subst hm0
    have hs0 : ss = [] := List.eq_nil_of_length_eq_zero (by have := h2.1; rw [ints_len] at this; exact this)
    subst hs0
    have hrun := run_append_nothing (P := Tryd.prog) w 22 22 o.type 2 i0 Tryd.underlying22 hi A N cA (own_cap hown) (.slice none 0 c2) (Src.ofNil w Tryd.underlying22 c2)
    unfold Oper.wp
    simp [execOp, ho, resolve, invoke, builtin, hs, hx, hrun, Result.andThen]
    exact h (.slice A N cA) w ⟨A, cA, rfl, by rw [List.append_nil]; exact hown⟩ (World.grownBy.refl _ _)
  | some ad =>
    have hl2 : ((ints ss).map (Value.int .i64)).length = m * 1 := by rw [List.length_map, h2.1, Nat.mul_one]
    refine wp_append_own (P := Tryd.prog) w s x 22 ho base 2 i0 (.int .i64 0) 1 8 Tryd.underlying22 hi hz0 hz1 hz2 rfl (by decide) (.slice A N cA) N ((ints all).map (Value.int .i64)) hs hown ad m c2 ((ints ss).map (Value.int .i64)) hx hl2 ?_ (ints_oneCell .i64 _) h63 hby hbase ?_
    · intro j u hu
      have hj : 0 < m := by
        rcases Nat.eq_zero_or_pos m with h0 | h0
        · have h8 : (ints ss).map (Value.int .i64) = [] := List.eq_nil_of_length_eq_zero (by rw [hl2, h0])
          rw [h8] at hu; simp at hu
        · exact h0
      obtain ⟨b, off, e9, _⟩ := h2.2 hj
      injection e9 with e9
      subst e9
      exact rd_news h2 hj j u hu
    · intro v' w' hown' hg _
      have e8 : (ints all).map (Value.int .i64) ++ (ints ss).map (Value.int .i64) = (ints (all ++ ss)).map (Value.int .i64) := by rw [ints_app, List.map_append]
      rw [e8] at hown'
      obtain ⟨A3, c3, rfl, ho3⟩ := own_shape hown'
      exact h _ w' ⟨A3, c3, rfl, ho3⟩ hg
set_option maxHeartbeats 1600000 in
theorem growNil_any (n : Nat) (hn : n ≤ 100000) (w : World) :
    Calls Tryd.prog 112 #[.slice none 0 0, .int .i64 (n : Int)] w fun e w' => ∃ (A : Option Addr) (c : Nat), e = .returned (.slice A 0 c) ∧ Own 2 w' w.heap.size A 0 c (ints []) ∧ Below w.heap.size w w' := by
  obtain ⟨i0, hi, hz0, hz1, hz2⟩ := info_parts info_int
  have hw0 : IntKind.i64.wrap ((n : Int) - 0) = (n : Int) := by rw [IntWalk.i64_left]; unfold wrap64; omega
  have hw1 : wrap64 (n : Int) = (n : Int) := by unfold wrap64; omega
  have hn0 : (0 : Int) ≤ (n : Int) := by omega
  rcases Nat.eq_zero_or_pos n with h0 | h0
  · subst h0
    go_enter Tryd.func112, Tryd.ntmps112
    go_wp2_with fail
    go_ret
    exact ⟨none, 0, rfl, Own.nil _ _ _, Below.refl _ _⟩
  · have hnp : (0 : Int) < (n : Int) := by omega
    have hrun := Lib.run_append_nil_zeros (P := Tryd.prog) w 22 3 22 2 i0 (.int .i64 0) .i64 .i64 Tryd.underlying22 Tryd.underlying3 hi hz0 n h0 (by omega) (by omega) (by rw [hz2]; omega)
    obtain ⟨cp, hcp⟩ : ∃ cp, cp = grownCap w n 0 2 := ⟨_, rfl⟩
    have hge : n ≤ cp := by rw [hcp]; exact grownCap_ge w n 0 _
    have hle : cp ≤ maxLen := by rw [hcp]; exact grownCap_le_maxLen w n 0 _ (by unfold maxLen; omega)
    rw [← hcp] at hrun
    obtain ⟨row, hrow⟩ : ∃ row, row = Builtin.zeroCells (Value.int .i64 0).cells n ++ Builtin.zeroCells (Value.int .i64 0).cells (cp - n) := ⟨_, rfl⟩
    have hrs : row.size = cp := by
      rw [hrow, Array.size_append]
      have hzc : ∀ k, (Builtin.zeroCells (Value.int .i64 0).cells k).size = k := fun k => by simp [Builtin.zeroCells, Value.cells]
      rw [hzc, hzc]; omega
    rw [← hrow] at hrun
    have HOWN : Hid (Own 2 (w.drew.alloc (.cells row 2)) w.heap.size (some ⟨w.heap.size, 0, none⟩) 0 cp (ints [])) := Lib.hid ⟨rfl, .inr ⟨w.heap.size, cp, row, rfl, Nat.le_refl _, World.alloc_heap_new w.drew _, Nat.zero_le _, hle, by rw [hrs, Nat.mul_one], by simp [ints]⟩⟩
    have HBE : Hid (Below w.heap.size w (w.drew.alloc (.cells row 2))) := Lib.hid ((Below.refl _ _).drew.alloc (Nat.le_refl _) _)
    clear hrow hcp
    go_enter Tryd.func112, Tryd.ntmps112
    go_wp2_with (at_builtin; refine Lib.wpList_append_run _ rfl _ _ _ _ rfl _ _ rfl rfl _ _ hrun ?_)
    go_wp2_with fail
    go_ret
    exact ⟨_, cp, rfl, HOWN.out, HBE.out⟩
end Go.Proofs.YtokikilfmglhhaaDoor
namespace Go.Proofs.YtokikilfmglhhaaDoor
open Go Go.RowKit
set_option linter.unusedVariables false
set_option maxRecDepth 100000

theorem flat_take (Ws : List (List Nat)) (k : Nat) (h : k < Ws.length) : (Ws.take (k + 1)).flatten = (Ws.take k).flatten ++ Ws.getD k [] := by
  rw [List.take_add_one, List.getD_eq_getElem?_getD, List.getElem?_eq_getElem h, List.flatten_append]; simp
theorem flat_len (Ws : List (List Nat)) (hm : ∀ k, (Ws.getD k []).length ≤ 24) : ∀ k, k ≤ Ws.length → (Ws.take k).flatten.length ≤ 24 * k
  | 0, _ => by simp
  | k + 1, h => by
    rw [flat_take Ws k (by omega), List.length_append]
    have := flat_len Ws hm k (by omega)
    have := hm k
    omega
set_option maxHeartbeats 3200000 in
theorem concat_any (T : Option Addr) (nT cT : Nat) (ts : List (Option Addr × Nat × Nat × List Int)) (Ws : List (List Nat)) (w : World)
    (hT : RdT w T nT ts) (hnT : nT ≤ 24) (hlW : Ws.length = nT) (hW : ∀ k t, ts[k]? = some t → t.2.2.2 = ints (Ws.getD k [])) (hWm : ∀ k, (Ws.getD k []).length ≤ 24) :
    Calls Tryd.prog 69 #[.slice T nT cT] w (MakesE 2 w Ws.flatten.length (ints Ws.flatten)) := by
  have HLW := Lib.hid hlW
  have HW := Lib.hid hW
  have HFT : Hid (∀ k, k < nT → (Ws.take (k + 1)).flatten = (Ws.take k).flatten ++ Ws.getD k []) := Lib.hid (fun k hk => flat_take Ws k (by rw [hlW]; exact hk))
  have HFL : Hid (∀ k, k ≤ nT → (Ws.take k).flatten.length ≤ 24 * k) := Lib.hid (fun k hk => flat_len Ws hWm k (by rw [hlW]; exact hk))
  have HFA : Hid (Ws.take nT = Ws) := Lib.hid (List.take_of_length_le (by rw [hlW]; exact Nat.le_refl _))
  clear hlW hW hWm
  go_enter Tryd.func69, Tryd.ntmps69
  go_wp2_with fail
  go_loop [3, 11] (fun sv iv => ∃ k S : Nat, k ≤ nT ∧ iv = .int .i64 (k : Int) ∧ sv = .int .i64 (S : Int) ∧ S = (Ws.take k).flatten.length) (fun _ iv => nT - (intOf iv).toNat)
  case atStart => exact ⟨0, 0, Nat.zero_le _, rfl, rfl, rfl⟩
  case round =>
    obtain ⟨k, S, hk, rfl, rfl, hS⟩ := hrel
    have HS := Lib.hid hS
    have HSL : Hid (S ≤ 24 * k) := Lib.hid (by rw [hS]; exact HFL.out k hk)
    clear hS
    by_cases hlt : k < nT
    · obtain ⟨bt, ot, Bk, nk, ck, xk, rfl, hbt, htk, hct, hrk, hmk⟩ := hT.at_ hlt
      have hxk : xk = ints (Ws.getD k []) := HW.out k _ htk
      have hnk : (Ws.getD k []).length = nk := by have := hrk.1; rw [hxk, ints_len] at this; exact this
      have HSN : Hid (S + nk = (Ws.take (k + 1)).flatten.length) := Lib.hid (by rw [HFT.out k hlt, List.length_append, ← HS.out, hnk])
      have hsl := HSL.out
      have hsn : S + nk ≤ 24 * (k + 1) := by rw [HSN.out]; exact HFL.out (k + 1) hlt
      have hw1 : IntKind.i64.wrap ((S : Int) + (nk : Int)) = ((S + nk : Nat) : Int) := by rw [IntWalk.i64_left]; unfold wrap64; omega
      have hge : (0 : Int) ≤ ((S + nk : Nat) : Int) := by omega
      clear hxk hnk
      go_wp2_with fail
      go_round
      case rel => exact ⟨k + 1, S + nk, hlt, by go_num, by simp, HSN.out⟩
      case measure => simp [intOf]; omega
    · have hkm : k = nT := by omega
      subst hkm
      have HSF : Hid (S = Ws.flatten.length) := Lib.hid (by rw [HS.out, HFA.out])
      have HGR := Lib.hid (growNil_any S (by have := HSL.out; omega) w)
      go_wp2_with fail
      refine HGR.out.mono ?_
      rintro e w1 ⟨A0, c0, rfl, o0, hb1⟩
      go_wp2_with fail
      go_loopw [6, 27] (fun av iv wr => ∃ (j N cA : Nat) (A : Option Addr), j ≤ k ∧ av = .slice A N cA ∧ iv = .int .i64 (j : Int) ∧ N = (Ws.take j).flatten.length ∧ Own 2 wr w.heap.size A N cA (ints (Ws.take j).flatten) ∧ Below w.heap.size w wr) (fun _ iv _ => k - (intOf iv).toNat)
      case atStart => exact ⟨0, 0, c0, A0, Nat.zero_le _, rfl, rfl, rfl, o0, hb1⟩
      case round =>
        clear o0 hb1
        obtain ⟨j, N, cA, A, hj, rfl, rfl, hN, ho, hb⟩ := hrel
        have HN := Lib.hid hN
        have HNL : Hid (N ≤ 24 * j) := Lib.hid (by rw [hN]; exact HFL.out j hj)
        clear hN
        by_cases hlt2 : j < k
        · obtain ⟨bt, ot, Bk, nk, ck, xk, rfl, hbt, htk, hct, hrk, hmk⟩ := (hT.below hb).at_ hlt2
          have hxk : xk = ints (Ws.getD j []) := HW.out j _ htk
          subst hxk
          have hnk : (Ws.getD j []).length = nk := by have := hrk.1; rw [ints_len] at this; exact this
          have HSN : Hid (N + nk = (Ws.take (j + 1)).flatten.length) := Lib.hid (by rw [HFT.out j hlt2, List.length_append, ← HN.out, hnk])
          have hsn : N + nk ≤ 24 * (j + 1) := by rw [HSN.out]; exact HFL.out (j + 1) hlt2
          have HFJ := Lib.hid (HFT.out j hlt2)
          have hml : N + nk ≤ maxLen := by unfold maxLen; omega
          have hby : (N + nk) * 8 ≤ 140737488355328 := by omega
          have hbase := hb.size
          obtain ⟨al, hal⟩ : ∃ al, al = (Ws.take j).flatten := ⟨_, rfl⟩
          obtain ⟨v, hv⟩ : ∃ v, v = Ws.getD j [] := ⟨_, rfl⟩
          rw [← hal] at ho HFJ
          rw [← hv] at hrk HFJ
          clear hal hv hnk
          go_wp2_with (at_builtin; refine wpList_append_rd rfl _ _ rfl w.heap.size A N cA al rfl ho Bk nk ck v rfl hrk hml hby hbase ?_; intro A6 c6 w6 o6 hg6; have HB6 : Hid (Below w.heap.size w w6) := Lib.hid (hb.grown hg6 hbase (fun k e9 => (ho.lt k (ownBlock_map' e9)).1)); rw [← HFJ.out] at o6)
          go_wp2_with fail
          go_roundw
          case rel => exact ⟨j + 1, N + nk, c6, A6, hlt2, rfl, by go_num, HSN.out, o6, HB6.out⟩
          case measure => simp [intOf]; omega
        · have hjk : j = k := by omega
          subst hjk
          have HE : Hid (N = Ws.flatten.length) := Lib.hid (by rw [HN.out, HFA.out])
          rw [HFA.out] at ho
          go_wp2_with fail
          go_ret
          rw [← HE.out]
          exact ⟨A, cA, rfl, ho, hb⟩
def coF (rs us ts : List Nat) : List Nat × Int := if 24 < us.length + ts.length then ([], 3) else (nfR rs (us ++ ts), 0)
theorem coF_long (rs us ts : List Nat) (h : 24 < us.length + ts.length) : coF rs us ts = ([], 3) := if_pos h
theorem coF_yes (rs us ts : List Nat) (h : us.length + ts.length ≤ 24) : coF rs us ts = (nfR rs (us ++ ts), 0) := if_neg (by omega)
theorem coF_small (L : Int) (xs us ts : List Int) : (dL coF L xs us ts).1.length ≤ 24 := dL_small coF 24 (fun rs us ts _ _ => by
  rcases Nat.lt_or_ge 24 (us.length + ts.length) with h | h
  · rw [coF_long _ _ _ h]; exact Nat.zero_le _
  · rw [coF_yes _ _ _ h]; exact Nat.le_trans (nfR_len rs _) (by rw [List.length_append]; exact h)) L xs us ts
set_option maxHeartbeats 1600000 in
theorem product_two (A2 A1 B1 T : Option Addr) (n c2 m d q f cT : Nat) (rs vs ys : List Nat) (w : World) (hrd : Rd w A2 n (ints rs)) (h24 : n ≤ 24) (hl : rs.length = n) (hr : ∀ i, rs.getD i 0 < 2 ^ n) (hdep : Dep rs)
    (h2 : Rd w A1 m (ints vs)) (hm : m ≤ 24) (h3 : Rd w B1 q (ints ys)) (hq : q ≤ 24) (hvn : ∀ x, x ∈ vs → x < n) (hyn : ∀ x, x ∈ ys → x < n) (hRT : RdT w T 2 [(A1, m, d, ints vs), (B1, q, f, ints ys)]) (hT : Tab w) :
    Calls Tryd.prog 73 #[.slice A2 n c2, .slice T 2 cT] w (LsPost w (ints (coF rs vs ys).1).length (ints (coF rs vs ys).1) (coF rs vs ys).2) := by
  have HLU : Hid (vs.length = m) := Lib.hid (by have := h2.1; rw [ints_len] at this; exact this)
  have HLV : Hid (ys.length = q) := Lib.hid (by have := h3.1; rw [ints_len] at this; exact this)
  have HLR := Lib.hid hl
  have HR := Lib.hid hr
  have HDEP := Lib.hid hdep
  have HR63 : Hid (∀ i, rs.getD i 0 < 9223372036854775808) := Lib.hid fun i => lt63 h24 (hr i)
  have HCO := Lib.hid (concat_any T 2 cT _ [vs, ys] w hRT (by omega) rfl (fun k t hk => by
    match k, hk with
    | 0, hk => injection hk with hk; subst hk; rfl
    | 1, hk => injection hk with hk; subst hk; rfl
    | k + 2, hk => simp at hk) (fun k => by
    match k with
    | 0 => show vs.length ≤ 24; have := HLU.out; omega
    | 1 => show ys.length ≤ 24; have := HLV.out; omega
    | k + 2 => simp))
  rw [show [vs, ys].flatten = vs ++ ys by simp] at HCO
  have hlen : (vs ++ ys).length = m + q := by rw [List.length_append, HLU.out, HLV.out]
  have HWM : Hid (∀ x, x ∈ vs ++ ys → x < n) := Lib.hid (fun x hx => by
    rcases List.mem_append.1 hx with h1 | h1
    · exact hvn x h1
    · exact hyn x h1)
  obtain ⟨W, hW⟩ : ∃ W, W = vs ++ ys := ⟨_, rfl⟩
  rw [← hW] at HCO hlen HWM
  obtain ⟨k, hk⟩ : ∃ k, k = W.length := ⟨_, rfl⟩
  rw [← hk] at HCO hlen
  have HLK : Hid (W.length = k) := Lib.hid hk.symm
  have HRK : Hid (∀ x, x < k → W.getD x 0 < n) := Lib.hid fun x hx => in_getD HWM.out x (by rw [HLK.out]; exact hx)
  by_cases hlong : 24 < k
  · have HA := Lib.hid (coF_long rs vs ys (by rw [HLU.out, HLV.out]; omega))
    have hI : (24 : Int) < (k : Int) := by omega
    clear hk hlen hW hlong hl hr
    go_enter Tryd.func73, Tryd.ntmps73
    go_wp2_with fail
    refine HCO.out.mono ?_
    rintro e w1 ⟨A3, c3, rfl, o3, hb⟩
    go_wp2_with fail
    go_ret2
    rw [HA.out]
    exact LsPost.of_ans (ans_no 3 hb)
  · have HA : Hid (coF rs vs ys = (nfR rs W, 0)) := Lib.hid (by rw [hW]; exact coF_yes rs vs ys (by rw [HLU.out, HLV.out]; omega))
    have hk24 : k ≤ 24 := by omega
    have hI : (k : Int) ≤ 24 := by omega
    clear hk hlen hW hlong hl hr
    go_enter Tryd.func73, Tryd.ntmps73
    go_wp2_with fail
    refine HCO.out.mono ?_
    rintro e w1 ⟨A3, c3, rfl, o3, hb⟩
    have hrd1 := hrd.below hb
    have hW1 := o3.rd
    have hT1 := hT.below hb
    have HT1 := Lib.hid (traceOf_any A2 A3 n k c2 c3 rs W _ hrd1 hW1 hk24 h24 HRK.out HR63.out hT1)
    go_wp2_with fail
    refine HT1.out.mono ?_
    rintro e v1 ⟨E1, g1, F1, k1, es1, rfl, hp, hs, h1, h2, -, -, ha1⟩
    have HN1 := Lib.hid (nf_from E1 F1 g1 k1 k n rs W es1 v1 HLR.out HR.out HDEP.out HLK.out HRK.out hk24 hp hs h1 h2 ((hT1).below ha1))
    clear hp hs h1 h2
    go_wp2_with fail
    refine HN1.out.mono ?_
    rintro e u1 ⟨G1, l1, rfl, ho1, hb1⟩
    go_wp2_with fail
    go_ret2
    rw [HA.out]
    have HZ := hb.trans (ha1.mono hb.size)
    exact LsPost.of_ans (ans_yes ho1.len (ho1.mono HZ.size) (HZ.trans (hb1.mono HZ.size)))
end Go.Proofs.YtokikilfmglhhaaDoor
namespace Go.Proofs.YtokikilfmglhhaaDoor
open Go Go.RowKit
set_option linter.unusedVariables false
set_option maxRecDepth 100000

theorem own_blockV (A : Option Addr) (n c : Nat) : (Value.slice A n c).ownBlock = A.map (·.block) := by cases A <;> rfl
/-- An append of numbers behind an own row, with the row's place afterwards. -/
theorem step_append_at {w : World} {ops : Array Oper} {o : Oper} {a : Act} {K : Act → World → Prop} {Q : Exit → Act → World → Prop} {E : Prop} (hgd : o.guard = none) (s x : Operand)
    (ho : o.op = .call { callee := .builtin .append, args := #[s, x], argTypes := #[22, 22] }) (base : Nat) (A : Option Addr) (N cA : Nat) (all : List Nat) (hs : a.eval s = .slice A N cA) (hown : Own 2 w base A N cA (ints all))
    (A2 : Option Addr) (m c2 : Nat) (ss : List Nat) (hx : a.eval x = .slice A2 m c2) (h2 : Rd w A2 m (ints ss)) (h63 : N + m ≤ maxLen) (hby : (N + m) * 8 ≤ 140737488355328) (hbase : base ≤ w.heap.size)
    (h : ∀ v' w', (∃ A' c', v' = .slice A' (N + m) c' ∧ Own 2 w' base A' (N + m) c' (ints (all ++ ss)) ∧ (A'.map (·.block) = A.map (·.block) ∨ A'.map (·.block) = some w.heap.size)) → w.grownBy w' (A.map (·.block)) → K (a.put o.dst v') w') :
    if Region.wanted o (yielded ops a.tmps) = true then Oper.wp Tryd.prog o a w K Q else E := by
  have hw : Region.wanted o (yielded ops a.tmps) = true := by simp [Region.wanted, hgd]
  rw [if_pos hw]
  obtain ⟨i0, hi, hz0, hz1, hz2⟩ := info_parts info_int
  cases A2 with
  | none =>
    have hm0 : m = 0 := by
      rcases Nat.eq_zero_or_pos m with h0 | h0
      · exact h0
      · obtain ⟨b, off, e9, _⟩ := h2.2 h0; cases e9
    subst hm0
    have hs0 : ss = [] := List.eq_nil_of_length_eq_zero (by have := h2.1; rw [ints_len] at this; exact this)
    subst hs0
    have hrun := run_append_nothing (P := Tryd.prog) w 22 22 o.type 2 i0 Tryd.underlying22 hi A N cA (own_cap hown) (.slice none 0 c2) (Src.ofNil w Tryd.underlying22 c2)
    unfold Oper.wp
    simp [execOp, ho, resolve, invoke, builtin, hs, hx, hrun, Result.andThen]
    exact h (.slice A N cA) w ⟨A, cA, rfl, by rw [List.append_nil]; exact hown, .inl rfl⟩ (World.grownBy.refl _ _)
  | some ad =>
    have hl2 : ((ints ss).map (Value.int .i64)).length = m * 1 := by rw [List.length_map, h2.1, Nat.mul_one]
    obtain ⟨v', w', hr, hown', hg, _, hat⟩ := run_append_own_at (P := Tryd.prog) w base 22 o.type 2 i0 (.int .i64 0) 1 8 Tryd.underlying22 hi hz0 hz1 hz2 rfl (by decide) (.slice A N cA) N ((ints all).map (Value.int .i64)) hown ad m c2 ((ints ss).map (Value.int .i64)) hl2 (by
      intro j u hu
      have hj : 0 < m := by
        rcases Nat.eq_zero_or_pos m with h0 | h0
        · have h8 : (ints ss).map (Value.int .i64) = [] := List.eq_nil_of_length_eq_zero (by rw [hl2, h0])
          rw [h8] at hu; simp at hu
        · exact h0
      obtain ⟨b, off, e9, _⟩ := h2.2 hj
      injection e9 with e9
      subst e9
      exact rd_news h2 hj j u hu) (ints_oneCell .i64 _) h63 hby hbase
    unfold Oper.wp execOp
    simp only [ho, resolve, invoke, builtin, Sem.run_bind, Sem.run_pure, Result.andThen_ok, List.map_toArray, List.map_cons, List.map_nil, hs, hx, hr]
    have e8 : (ints all).map (Value.int .i64) ++ (ints ss).map (Value.int .i64) = (ints (all ++ ss)).map (Value.int .i64) := by rw [ints_app, List.map_append]
    rw [e8] at hown'
    obtain ⟨A3, c3, rfl, ho3⟩ := own_shape hown'
    rw [own_blockV] at hg
    rw [own_blockV, own_blockV] at hat
    exact h _ w' ⟨A3, c3, rfl, ho3, hat⟩ hg
theorem rd_lit (w : World) (a : Nat) (T : TypeId) : Rd (w.alloc (.cells #[.int .i64 (a : Int)] T)) (some ⟨w.heap.size, 0, none⟩) 1 (ints [a]) := by
  refine ⟨rfl, fun _ => ⟨w.heap.size, 0, rfl, (Array.getElem?_eq_some_iff.1 (World.alloc_heap_new w _)).1, fun j x hx => ?_⟩⟩
  have h1 : j = 0 := by
    rcases Nat.eq_zero_or_pos j with h | h
    · exact h
    · rw [List.getElem?_eq_none (by show 1 ≤ j; exact h)] at hx; cases hx
  subst h1
  injection hx with hx
  subst hx
  exact cell_one_new w (.int .i64 (a : Int)) T 0 _ rfl
end Go.Proofs.YtokikilfmglhhaaDoor
namespace Go.Proofs.YtokikilfmglhhaaDoor
open Go Go.RowKit
set_option linter.unusedVariables false
set_option maxRecDepth 100000

theorem info_slsR : (Tryd.prog.info? 22).map (fun i => (i.zero, i.size, i.bytes)) = some (some (.slice none 0 0), 1, 24) := by kernel_rfl
theorem u64and (a : Nat) (h : a < 4294967296) : bits .and .u64 (a : Int) 4294967295 = (a : Int) := by
  have h1 := u64_and_nat a 4294967295 (by omega) (by omega)
  have h2 : ((4294967295 : Nat) : Int) = 4294967295 := rfl
  rw [h2] at h1
  rw [h1]
  have h3 : a &&& 4294967295 = a := by
    have := Nat.and_two_pow_sub_one_eq_mod a 32
    rw [show (2:Nat) ^ 32 - 1 = 4294967295 by decide, show (2:Nat) ^ 32 = 4294967296 by decide, Nat.mod_eq_of_lt h] at this
    exact this
  rw [h3]
set_option maxHeartbeats 1600000 in
theorem mul64_any (a b : Nat) (ha : a ≤ 1048576) (hb : b ≤ 1048576) (w : World) :
    Calls Tryd.prog 159 #[.int .u64 (a : Int), .int .u64 (b : Int)] w fun e w' => e = .returned (.tuple #[.int .u64 0, .int .u64 ((a * b : Nat) : Int)]) ∧ w = w' := by
  have hab : a * b ≤ 1048576 * 1048576 := Nat.mul_le_mul ha hb
  obtain ⟨P, hP⟩ : ∃ P, P = a * b := ⟨_, rfl⟩
  have hPI : (a : Int) * (b : Int) = (P : Int) := by rw [hP]; exact (Int.natCast_mul a b).symm
  rw [← hP] at hab ⊢
  have a0 := u64and a (by omega)
  have b0 := u64and b (by omega)
  have a1 : (a : Int) / 4294967296 = 0 := by omega
  have b1 : (b : Int) / 4294967296 = 0 := by omega
  have w0 : IntKind.u64.wrap (P : Int) = (P : Int) := IntWalk.u64_in _ (by omega)
  obtain ⟨Q, hQ⟩ : ∃ Q : Nat, (P : Int) / 4294967296 = (Q : Int) := ⟨P / 4294967296, by omega⟩
  have hq : Q < 4294967296 := by omega
  have q0 := u64and Q hq
  have q1 : (Q : Int) / 4294967296 = 0 := by omega
  have q2 : IntKind.u64.wrap (Q : Int) = (Q : Int) := IntWalk.u64_in _ (by omega)
  have z0 : IntKind.u64.wrap 0 = 0 := rfl
  clear hP
  go_enter Tryd.func159, Tryd.ntmps159
  go_wp2_with fail
  go_ret2
  exact ⟨rfl, rfl⟩
set_option maxHeartbeats 1600000 in
theorem mul_any (a b : Nat) (ha : a ≤ 1048576) (hb : b ≤ 1048576) (w : World) :
    Calls Tryd.prog 113 #[.int .u64 (a : Int), .int .u64 (b : Int)] w fun e w' => e = .returned (.tuple #[.int .u64 0, .int .u64 ((a * b : Nat) : Int)]) ∧ w = w' := by
  have HM := Lib.hid (mul64_any a b ha hb w)
  obtain ⟨P, hP⟩ : ∃ P, P = a * b := ⟨_, rfl⟩
  rw [← hP] at HM ⊢
  clear hP
  go_enter Tryd.func113, Tryd.ntmps113
  go_wp2_with fail
  refine HM.out.mono ?_
  rintro e w' ⟨rfl, rfl⟩
  go_wp2_with fail
  go_ret2
  exact ⟨rfl, rfl⟩
/-- A list repeated. -/
def repV {α : Type} (i : Nat) (vs : List α) : List α := (List.replicate i vs).flatten
theorem repV_zero {α : Type} (vs : List α) : repV 0 vs = [] := rfl
theorem repV_one {α : Type} (vs : List α) : repV 1 vs = vs := by unfold repV; simp
theorem repV_add {α : Type} (i j : Nat) (vs : List α) : repV (i + j) vs = repV i vs ++ repV j vs := by unfold repV; rw [← List.replicate_append_replicate, List.flatten_append]
theorem repV_len {α : Type} (i : Nat) (vs : List α) : (repV i vs).length = vs.length * i := by
  induction i with
  | zero => rfl
  | succ i ih => rw [repV_add, List.length_append, ih, repV_one, Nat.mul_succ]
theorem repV_mem {α : Type} {i : Nat} {vs : List α} {x : α} (h : x ∈ repV i vs) : x ∈ vs := by
  unfold repV at h
  obtain ⟨l, hl, hx⟩ := List.mem_flatten.1 h
  rw [(List.mem_replicate.1 hl).2] at hx; exact hx
theorem repV_map {α β : Type} (f : α → β) (i : Nat) (vs : List α) : (repV i vs).map f = repV i (vs.map f) := by
  induction i with
  | zero => rfl
  | succ i ih => rw [repV_add, repV_add, List.map_append, ih, repV_one, repV_one]
/-- One round of doubling. -/
theorem rep_round {α : Type} (i k n c : Nat) (vs Z : List α) (hi : i ≤ k) (hn : n = vs.length * i) (hZ : Z.length = vs.length * k) (ht : Z.take n = repV i vs) (hlt : n < vs.length * k) (hi1 : 1 ≤ i) (hc : c = Nat.min n (vs.length * k - n)) :
    (Z.take c).length = c ∧ n + c ≤ Z.length ∧ ∃ j, j ≤ k ∧ 1 ≤ j ∧ n + c = vs.length * j ∧ (splice Z n (Z.take c)).take (n + c) = repV j vs ∧ (splice Z n (Z.take c)).length = vs.length * k := by
  have hcn : c ≤ n := by rw [hc]; exact Nat.min_le_left _ _
  have hcl : c ≤ vs.length * k - n := by rw [hc]; exact Nat.min_le_right _ _
  have h1 : (Z.take c).length = c := by rw [List.length_take]; omega
  have h2 : n + c ≤ Z.length := by omega
  have hsp : splice Z n (Z.take c) = Z.take n ++ (Z.take c ++ Z.drop (n + c)) := by
    unfold splice
    rw [h1]
  have h3 : (splice Z n (Z.take c)).length = vs.length * k := by rw [length_splice _ _ _ (by rw [h1]; exact h2), hZ]
  have h4 : (splice Z n (Z.take c)).take (n + c) = repV i vs ++ (repV i vs).take c := by
    have hA : (Z.take n).length = n := by rw [List.length_take]; omega
    have hT := List.take_append (l₁ := Z.take n) (l₂ := Z.take c ++ Z.drop (n + c)) (i := n + c)
    rw [hA, Nat.add_sub_cancel_left, List.take_of_length_le (l := Z.take n) (by rw [hA]; omega)] at hT
    have hU := List.take_append (l₁ := Z.take c) (l₂ := Z.drop (n + c)) (i := c)
    rw [h1, Nat.sub_self, List.take_zero, List.append_nil, List.take_of_length_le (l := Z.take c) (by rw [h1]; exact Nat.le_refl _)] at hU
    rw [hsp, hT, hU, ht]
    congr 1
    rw [← ht, List.take_take, Nat.min_eq_left hcn]
  have hpos : 0 < vs.length := by
    rcases Nat.eq_zero_or_pos vs.length with h | h
    · rw [h, Nat.zero_mul] at hlt; omega
    · exact h
  refine ⟨h1, h2, ?_⟩
  rcases Nat.le_total n (vs.length * k - n) with hle | hle
  · have hcc : c = n := by rw [hc]; exact Nat.min_eq_left hle
    have hk : i + i ≤ k := by
      have : vs.length * (i + i) ≤ vs.length * k := by rw [Nat.mul_add, ← hn]; omega
      exact Nat.le_of_mul_le_mul_left this hpos
    refine ⟨i + i, hk, ?_, by rw [Nat.mul_add, ← hn, hcc], ?_, h3⟩
    · omega
    · rw [h4, repV_add]
      congr 1
      exact List.take_of_length_le (by rw [repV_len, ← hn, hcc]; exact Nat.le_refl _)
  · have hcc : c = vs.length * k - n := by rw [hc]; exact Nat.min_eq_right hle
    refine ⟨k, Nat.le_refl _, ?_, by omega, ?_, h3⟩
    · rcases Nat.eq_zero_or_pos k with h | h
      · subst h; rw [Nat.mul_zero] at hlt; omega
      · exact h
    · rw [h4]
      have e : k = i + (k - i) := by omega
      have e2 : repV k vs = repV i vs ++ repV (k - i) vs := by rw [← repV_add, ← e]
      rw [e2]
      congr 1
      have e3 : i = (k - i) + (i - (k - i)) := by
        have : vs.length * (k - i) ≤ vs.length * i := by rw [Nat.mul_sub, ← hn]; exact hle
        have := Nat.le_of_mul_le_mul_left this hpos
        omega
      have e4 : repV i vs = repV (k - i) vs ++ repV (i - (k - i)) vs := by rw [← repV_add, ← e3]
      rw [e4, List.take_append, List.take_of_length_le (by rw [repV_len, Nat.mul_sub, ← hn, hcc]; exact Nat.le_refl _), repV_len, Nat.mul_sub, ← hn, hcc, Nat.sub_self, List.take_zero, List.append_nil]
theorem repV_single {α : Type} (k : Nat) (v : α) : repV k [v] = List.replicate k v := by
  unfold repV
  induction k with
  | zero => rfl
  | succ k ih => rw [List.replicate_succ, List.flatten_cons, ih, List.replicate_succ]; rfl
theorem wadd_is (a b c : Nat) (h : c = a + b) (hc : c ≤ 24 * 24) : wrap64 ((a : Int) + (b : Int)) = (c : Int) := by unfold wrap64; omega
theorem add_at (b off j : Nat) : ((⟨b, off, none⟩ : Addr).add j) = ⟨b, off + j, none⟩ := by
  unfold Addr.add
  by_cases h : j = 0 <;> simp [h]
theorem cell_row {w : World} {g : Nat} {Z : List Value} {t : TypeId} (h : w.heap[g]? = some (.cells Z.toArray t (0, 0))) (j : Nat) (v : Value) (hv : Z[j]? = some v) : w.cell? ⟨g, j, none⟩ = some v := by
  unfold World.cell?
  rw [h]
  simpa using hv
set_option maxHeartbeats 3200000 in
theorem repeat64_any (A : Option Addr) (m c k : Nat) (vals : List Value) (w : World) (hlen : vals.length = m) (hA : 0 < m → ∃ b off, A = some ⟨b, off, none⟩ ∧ b < w.heap.size ∧ ∀ j v, vals[j]? = some v → w.cell? ⟨b, off + j, none⟩ = some v) (h1 : ∀ v ∈ vals, v.oneCell' = true) (hm : m ≤ 24) (hk : k ≤ 24) :
    Calls Tryd.prog 116 #[.slice A m c, .int .i64 (k : Int)] w fun e w' => e = .returned (.slice (some ⟨w.heap.size, 0, none⟩) (m * k) (m * k)) ∧ Hid (w'.heap[w.heap.size]? = some (.cells (repV k vals).toArray 2 (0, 0))) ∧ Below w.heap.size w w' := by
  obtain ⟨i0, hi, hz0, hz1, hz2⟩ := info_parts info_int
  have HMU := Lib.hid fun ww => mul_any m k (by omega) (by omega) ww
  have hL : m * k ≤ 24 * 24 := Nat.mul_le_mul hm hk
  have HLN : Hid (vals.length = m) := Lib.hid hlen
  have H1 := Lib.hid h1
  have HSR : Hid (∀ ww : World, Below w.heap.size w ww → 0 < m → ∃ ad, A = some ad ∧ ∀ j v, vals[j]? = some v → ww.cell? (ad.add j) = some v) := Lib.hid fun ww hw h0 => by
    obtain ⟨b, off, e, hb, hc⟩ := hA h0
    exact ⟨⟨b, off, none⟩, e, fun j v hj => by rw [add_at]; exact (hw.cell (p := ⟨b, off + j, none⟩) hb).trans (hc j v hj)⟩
  have HL1 : Hid (1 ≤ k → vals.take (m * k) = vals) := Lib.hid fun h9 => List.take_of_length_le (by rw [hlen]; exact Nat.le_mul_of_pos_right m h9)
  have HL0 : Hid (k = 0 → m * k = 0) := Lib.hid fun h9 => by rw [h9, Nat.mul_zero]
  have HP1 : Hid (∀ ww : World, Below w.heap.size w ww → 0 < (vals.take (m * k)).length → ∃ ad, A = some ad ∧ ∀ j v, (vals.take (m * k))[j]? = some v → ww.cell? (ad.add j) = some v) := Lib.hid fun ww hw h9 => by
    have h8 : 0 < m := by rw [List.length_take, hlen] at h9; omega
    obtain ⟨ad, e, hc⟩ := HSR.out ww hw h8
    refine ⟨ad, e, fun j v hj => hc j v ?_⟩
    have hjl : j < m * k := by
      rcases Nat.lt_or_ge j (m * k) with h7 | h7
      · exact h7
      · rw [List.getElem?_eq_none (by rw [List.length_take]; omega)] at hj; cases hj
    rwa [List.getElem?_take_of_lt hjl] at hj
  have HCS : Hid ((vals.take (m * k)).length = Nat.min m (m * k)) := Lib.hid (by rw [List.length_take, hlen]; exact Nat.min_comm _ _)
  have HRR : Hid (∀ (i n c : Nat) (Z : List Value), i ≤ k → n = m * i → Z.length = m * k → Z.take n = repV i vals → n < m * k → 1 ≤ i → c = Nat.min n (m * k - n) → (Z.take c).length = c ∧ n + c ≤ Z.length ∧ ∃ j, j ≤ k ∧ 1 ≤ j ∧ n + c = m * j ∧ (splice Z n (Z.take c)).take (n + c) = repV j vals ∧ (splice Z n (Z.take c)).length = m * k) := Lib.hid fun i n c Z a1 a2 a3 a4 a5 a6 a7 => by
    subst hlen
    exact rep_round i k n c vals Z a1 a2 a3 a4 a5 a6 a7
  have HPN : Hid (∀ n : Nat, n < m * k → ∀ i, i ≤ k → (1 ≤ i ∨ m * k = 0) → n = m * i → 0 < n) := Lib.hid fun n a1 i _ a2 a3 => by
    rcases a2 with a2 | a2
    · rcases Nat.eq_zero_or_pos m with h0 | h0
      · rw [h0, Nat.zero_mul] at a1; omega
      · rw [a3]; exact Nat.mul_pos h0 a2
    · omega
  have HRF : Hid (∀ (i : Nat) (Z : List Value), i ≤ k → Z.length = m * k → ¬ m * i < m * k → Z.take (m * i) = repV i vals → Z = repV k vals) := Lib.hid fun i Z a1 a2 a3 a4 => by
    have e9 : m * i = m * k := Nat.le_antisymm (Nat.mul_le_mul_left m a1) (by omega)
    rw [e9, List.take_of_length_le (by omega)] at a4
    rw [a4]
    rcases Nat.eq_zero_or_pos m with h0 | h0
    · have e8 : vals = [] := List.eq_nil_of_length_eq_zero (by omega)
      have e7 : ∀ q, repV q vals = [] := fun q => List.eq_nil_of_length_eq_zero (by rw [repV_len, e8]; simp)
      rw [e7, e7]
    · rw [Nat.eq_of_mul_eq_mul_left h0 e9]
  have HONE : Hid (∀ (Z : List Value) (c i n : Nat), Z.take n = repV i vals → c ≤ n → ∀ v ∈ Z.take c, v.oneCell' = true) := Lib.hid fun Z c i n a1 a2 v hv => by
    have h8 : v ∈ Z.take n := List.take_subset_take_left Z a2 hv
    rw [a1] at h8
    exact h1 v (repV_mem h8)
  obtain ⟨L, hLe⟩ : ∃ L, L = m * k := ⟨_, rfl⟩
  rw [← hLe] at HMU hL HL1 HL0 HCS HP1 HRR HRF HPN ⊢
  have HLE := Lib.hid hLe
  clear hLe hA h1 hlen
  have hml : L ≤ maxLen := by unfold maxLen; omega
  have hby : i0.bytes * L ≤ 281474976710656 := by rw [hz2]; omega
  have hk0 : ¬ ((k : Int) < 0) := by omega
  have hu1 : IntKind.u64.wrap (m : Int) = (m : Int) := IntWalk.u64_in _ (by omega)
  have hu2 : IntKind.u64.wrap (k : Int) = (k : Int) := IntWalk.u64_in _ (by omega)
  have hLm : ¬ ((9223372036854775807 : Int) < (L : Int)) := by omega
  have hLw : IntKind.i64.wrap (L : Int) = (L : Int) := by rw [IntWalk.i64_left]; unfold wrap64; omega
  have hsz : (Tryd.prog.info? 2).map (·.size) = some 1 := by rw [hi]; simp [hz1]
  have HMK : Hid (∀ w1 : World, w1.ownsRow w.heap.size 2 1 (.slice (some ⟨w.heap.size, 0, none⟩) L L) L (madeCells (Value.int .i64 0).cells (L * 1)).toList → w.grownBy w1 none → ∃ Z : List Value, w1.heap[w.heap.size]? = some (.cells Z.toArray 2 (0, 0)) ∧ Z.length = L ∧ Below w.heap.size w w1) := Lib.hid (fun w1 ho hg => ⟨_, (made_row ho).1, (made_row ho).2, (Below.refl _ _).grown hg (Nat.le_refl _) (by simp)⟩)
  go_enter Tryd.func116, Tryd.ntmps116
  go_wp2_with fail
  refine (HMU.out _).mono ?_
  rintro e w' ⟨rfl, rfl⟩
  go_wp2_with (first | (at_make; refine wpList_make_full _ rfl _ _ _ rfl w.heap.size 2 i0 (Value.int .i64 0) 1 Tryd.underlying22 hi hz0 hz1 _ _ (L : Int) (L : Int) L rfl rfl rfl rfl hby hml (Nat.le_refl _) ?_; intro w1 hown0 hg1; obtain ⟨Z, hrow, hZ, hb1⟩ := HMK.out w1 hown0 hg1; clear hown0 hg1; have HZ := Lib.hid hZ; clear hZ) | (refine wpList_copy_splice (by rfl) _ _ _ _ (by rfl) 2 Tryd.underlying22 hsz _ _ _ _ _ _ (by rfl) (by rfl) w.heap.size 0 Z 2 hrow (vals.take L) HCS.out (fun h9 => ⟨rfl, HP1.out _ hb1 h9⟩) (by rw [HZ.out, HCS.out, Nat.zero_add]; exact Nat.min_le_right _ _) (fun v hv => H1.out v (List.mem_of_mem_take hv)) w.heap.size w hb1 (Nat.le_refl _) ?_; intro w2 HG2 hb2))
  have HI0 : Hid (∃ i n, i ≤ k ∧ (1 ≤ i ∨ L = 0) ∧ n = m * i ∧ n ≤ L ∧ (vals.take L).length = n ∧ (splice Z 0 (vals.take L)).length = L ∧ (splice Z 0 (vals.take L)).take n = repV i vals) := Lib.hid (by
    have hz := HZ.out
    have hc := HCS.out
    have hsl : (splice Z 0 (vals.take L)).length = L := by rw [length_splice _ _ _ (by rw [hc, hz, Nat.zero_add]; exact Nat.min_le_right _ _), hz]
    rcases Nat.eq_zero_or_pos k with h0 | h0
    · have hl0 := HL0.out h0
      subst hl0
      refine ⟨0, 0, Nat.zero_le _, .inr rfl, rfl, Nat.le_refl _, by rw [hc]; exact Nat.min_eq_right (Nat.zero_le _), hsl, ?_⟩
      rw [List.take_zero]; rfl
    · have hv := HL1.out h0
      have hmL : m ≤ L := by rw [HLE.out]; exact Nat.le_mul_of_pos_right m h0
      refine ⟨1, m, h0, .inl (Nat.le_refl _), (Nat.mul_one m).symm, hmL, by rw [hv]; exact HLN.out, hsl, ?_⟩
      rw [hv, repV_one]
      unfold splice
      rw [List.take_zero, List.nil_append, ← HLN.out, List.take_append, List.take_of_length_le (Nat.le_refl _), Nat.sub_self, List.take_zero, List.append_nil])
  obtain ⟨ia, na, hia, hia1, hna, hnaL, hcsl, hsl, htk⟩ := HI0.out
  have hG0 : Hid (w2.heap[w.heap.size]? = some (.cells (splice Z 0 (vals.take L)).toArray 2 (0, 0))) := HG2
  obtain ⟨Z0, hZ0⟩ : ∃ Z0, Z0 = splice Z 0 (vals.take L) := ⟨_, rfl⟩
  rw [← hZ0] at hG0 hsl htk
  have HTK := Lib.hid htk
  have HNA := Lib.hid hna
  have HSL := Lib.hid hsl
  clear HI0 HG2 hZ0 HP1 HL1 HL0 HCS hrow hb1 htk hna hsl
  go_wp2_with fail
  go_loopw [8] (fun p wr => ∃ (i n : Nat) (Z : List Value), p = .int .i64 (n : Int) ∧ i ≤ k ∧ (1 ≤ i ∨ L = 0) ∧ n ≤ L ∧ Hid (n = m * i) ∧ Hid (Z.length = L) ∧ Hid (wr.heap[w.heap.size]? = some (.cells Z.toArray 2 (0, 0))) ∧ Hid (Z.take n = repV i vals) ∧ Below w.heap.size w wr) (fun p _ => L - (intOf p).toNat)
  case atStart => exact ⟨ia, na, Z0, by first | rfl | (rw [← List.length_take, hcsl]), hia, hia1, hnaL, HNA, HSL, hG0, HTK, hb2⟩
  case round =>
    clear hb2 hG0 HNA HSL HTK hcsl
    obtain ⟨i, n, Z1, rfl, hi1, hi2, hnL, HN, HZL, HG, HT, hb⟩ := hrel
    by_cases hlt : n < L
    · have hI1 : (n : Int) ≤ (L : Int) := by omega
      have hI2 : (0 : Int) ≤ (n : Int) := by omega
      have HR := Lib.hid (HRR.out i n (Nat.min n (L - n)) Z1 hi1 HN.out HZL.out HT.out hlt (by omega) rfl)
      obtain ⟨cc, hcc⟩ : ∃ cc, cc = Nat.min n (L - n) := ⟨_, rfl⟩
      rw [← hcc] at HR
      have hcn : cc ≤ n := by rw [hcc]; exact Nat.min_le_left _ _
      have hcL : cc ≤ L - n := by rw [hcc]; exact Nat.min_le_right _ _
      have HCC : Hid (cc = Nat.min n (L - n)) := Lib.hid hcc
      have hbd := hb.drew
      have HGd : Hid (wr.drew.heap[w.heap.size]? = some (.cells Z1.toArray 2 (0, 0))) := HG
      obtain ⟨DP, hDP⟩ : ∃ DP, (if L = n then some (⟨w.heap.size, 0, none⟩ : Addr) else some ⟨w.heap.size, n, none⟩) = DP := ⟨_, rfl⟩
      have HPOS : Hid (0 < (Z1.take cc).length → DP = some ⟨w.heap.size, n, none⟩ ∧ ∃ ad, some (⟨w.heap.size, 0, none⟩ : Addr) = some ad ∧ ∀ j v, (Z1.take cc)[j]? = some v → wr.drew.cell? (ad.add j) = some v) := Lib.hid fun _ => ⟨by rw [← hDP]; exact if_neg (by omega), ⟨w.heap.size, 0, none⟩, rfl, fun j v hj => by
        have hjl : j < cc := by
          rcases Nat.lt_or_ge j cc with h7 | h7
          · exact h7
          · rw [List.getElem?_eq_none (by rw [List.length_take]; omega)] at hj; cases hj
        rw [List.getElem?_take_of_lt hjl] at hj
        have := cell_row HGd.out j v hj
        rw [add_at, Nat.zero_add]; exact this⟩
      have hcl : (Z1.take cc).length = cc := HR.out.1
      have hcl2 : min cc Z1.length = cc := by rw [← List.length_take]; exact hcl
      obtain ⟨N2, hN2⟩ : ∃ N2, N2 = n + cc := ⟨_, rfl⟩
      have hN2L : N2 ≤ L := by rw [hN2, Nat.add_comm]; exact Nat.add_le_of_le_sub hnL hcL
      have h9 : 0 < n := HPN.out n hlt i hi1 hi2 HN.out
      have h0c : 0 < cc := by rw [HCC.out]; exact Nat.lt_min.2 ⟨h9, Nat.sub_pos_of_lt hlt⟩
      have hN2n : n < N2 := by rw [hN2]; exact Nat.lt_add_of_pos_right h0c
      have hww : wrap64 ((n : Int) + (cc : Int)) = (N2 : Int) := wadd_is n cc N2 hN2 (Nat.le_trans hN2L hL)
      have hww2 : IntKind.i64.wrap ((n : Int) + (cc : Int)) = (N2 : Int) := by rw [IntWalk.i64_left]; exact hww
      have HN2 := Lib.hid hN2
      clear hN2
      clear hcc
      go_wp2_with fail
      go_region_law (first | (refine step_copy_splice rfl (.tmp 41) (.tmp 44) 22 22 rfl 2 Tryd.underlying22 hsz DP (some ⟨w.heap.size, 0, none⟩) (L - n) (L - n) n L (by go_simp) (by go_simp) w.heap.size n Z1 2 HGd.out (Z1.take cc) (by rw [HR.out.1]; exact HCC.out) HPOS.out (by rw [HR.out.1]; exact HR.out.2.1) (HONE.out Z1 cc i n HT.out hcn) w.heap.size w hbd (Nat.le_refl _) ?_; intro w3 HG3 hb3))
      all_goals (
        obtain ⟨j, hj1, hj2, hj3, hj4, hj5⟩ := HR.out.2.2
        have HJ3 := Lib.hid hj3
        have HJ4 := Lib.hid hj4
        have HJ5 := Lib.hid hj5
        clear hj3 hj4 hj5
        go_simp
        go_wp2_with fail
        go_roundw
        case rel => exact ⟨j, N2, splice Z1 n (Z1.take cc), by first | rfl | go_num, hj1, .inl hj2, hN2L, Lib.hid (by rw [HN2.out]; exact HJ3.out), HJ5, HG3, Lib.hid (by rw [HN2.out]; exact HJ4.out), hb3⟩
        case measure =>
          have hm9 : L - N2 < L - n := Nat.sub_lt_sub_left hlt hN2n
          simpa [intOf] using hm9)
    · have hnE : n = L := by omega
      have HF := Lib.hid (HRF.out i Z1 hi1 HZL.out (by rw [← HN.out]; omega) (by rw [← HN.out]; exact HT.out))
      rw [HF.out] at HG
      subst hnE
      go_wp2_with fail
      go_ret
      exact ⟨rfl, HG, hb⟩
set_option maxHeartbeats 3200000 in
theorem repeatS_any (A : Option Addr) (m c k : Nat) (vals : List Value) (w : World) (hlen : vals.length = m) (hA : 0 < m → ∃ b off, A = some ⟨b, off, none⟩ ∧ b < w.heap.size ∧ ∀ j v, vals[j]? = some v → w.cell? ⟨b, off + j, none⟩ = some v) (h1 : ∀ v ∈ vals, v.oneCell' = true) (hm : m ≤ 24) (hk : k ≤ 24) :
    Calls Tryd.prog 74 #[.slice A m c, .int .i64 (k : Int)] w fun e w' => e = .returned (.slice (some ⟨w.heap.size, 0, none⟩) (m * k) (m * k)) ∧ Hid (w'.heap[w.heap.size]? = some (.cells (repV k vals).toArray 22 (0, 0))) ∧ Below w.heap.size w w' := by
  obtain ⟨i0, hi, hz0, hz1, hz2⟩ := info_parts info_slsR
  have HMU := Lib.hid fun ww => mul_any m k (by omega) (by omega) ww
  have hL : m * k ≤ 24 * 24 := Nat.mul_le_mul hm hk
  have HLN : Hid (vals.length = m) := Lib.hid hlen
  have H1 := Lib.hid h1
  have HSR : Hid (∀ ww : World, Below w.heap.size w ww → 0 < m → ∃ ad, A = some ad ∧ ∀ j v, vals[j]? = some v → ww.cell? (ad.add j) = some v) := Lib.hid fun ww hw h0 => by
    obtain ⟨b, off, e, hb, hc⟩ := hA h0
    exact ⟨⟨b, off, none⟩, e, fun j v hj => by rw [add_at]; exact (hw.cell (p := ⟨b, off + j, none⟩) hb).trans (hc j v hj)⟩
  have HL1 : Hid (1 ≤ k → vals.take (m * k) = vals) := Lib.hid fun h9 => List.take_of_length_le (by rw [hlen]; exact Nat.le_mul_of_pos_right m h9)
  have HL0 : Hid (k = 0 → m * k = 0) := Lib.hid fun h9 => by rw [h9, Nat.mul_zero]
  have HP1 : Hid (∀ ww : World, Below w.heap.size w ww → 0 < (vals.take (m * k)).length → ∃ ad, A = some ad ∧ ∀ j v, (vals.take (m * k))[j]? = some v → ww.cell? (ad.add j) = some v) := Lib.hid fun ww hw h9 => by
    have h8 : 0 < m := by rw [List.length_take, hlen] at h9; omega
    obtain ⟨ad, e, hc⟩ := HSR.out ww hw h8
    refine ⟨ad, e, fun j v hj => hc j v ?_⟩
    have hjl : j < m * k := by
      rcases Nat.lt_or_ge j (m * k) with h7 | h7
      · exact h7
      · rw [List.getElem?_eq_none (by rw [List.length_take]; omega)] at hj; cases hj
    rwa [List.getElem?_take_of_lt hjl] at hj
  have HCS : Hid ((vals.take (m * k)).length = Nat.min m (m * k)) := Lib.hid (by rw [List.length_take, hlen]; exact Nat.min_comm _ _)
  have HRR : Hid (∀ (i n c : Nat) (Z : List Value), i ≤ k → n = m * i → Z.length = m * k → Z.take n = repV i vals → n < m * k → 1 ≤ i → c = Nat.min n (m * k - n) → (Z.take c).length = c ∧ n + c ≤ Z.length ∧ ∃ j, j ≤ k ∧ 1 ≤ j ∧ n + c = m * j ∧ (splice Z n (Z.take c)).take (n + c) = repV j vals ∧ (splice Z n (Z.take c)).length = m * k) := Lib.hid fun i n c Z a1 a2 a3 a4 a5 a6 a7 => by
    subst hlen
    exact rep_round i k n c vals Z a1 a2 a3 a4 a5 a6 a7
  have HPN : Hid (∀ n : Nat, n < m * k → ∀ i, i ≤ k → (1 ≤ i ∨ m * k = 0) → n = m * i → 0 < n) := Lib.hid fun n a1 i _ a2 a3 => by
    rcases a2 with a2 | a2
    · rcases Nat.eq_zero_or_pos m with h0 | h0
      · rw [h0, Nat.zero_mul] at a1; omega
      · rw [a3]; exact Nat.mul_pos h0 a2
    · omega
  have HRF : Hid (∀ (i : Nat) (Z : List Value), i ≤ k → Z.length = m * k → ¬ m * i < m * k → Z.take (m * i) = repV i vals → Z = repV k vals) := Lib.hid fun i Z a1 a2 a3 a4 => by
    have e9 : m * i = m * k := Nat.le_antisymm (Nat.mul_le_mul_left m a1) (by omega)
    rw [e9, List.take_of_length_le (by omega)] at a4
    rw [a4]
    rcases Nat.eq_zero_or_pos m with h0 | h0
    · have e8 : vals = [] := List.eq_nil_of_length_eq_zero (by omega)
      have e7 : ∀ q, repV q vals = [] := fun q => List.eq_nil_of_length_eq_zero (by rw [repV_len, e8]; simp)
      rw [e7, e7]
    · rw [Nat.eq_of_mul_eq_mul_left h0 e9]
  have HONE : Hid (∀ (Z : List Value) (c i n : Nat), Z.take n = repV i vals → c ≤ n → ∀ v ∈ Z.take c, v.oneCell' = true) := Lib.hid fun Z c i n a1 a2 v hv => by
    have h8 : v ∈ Z.take n := List.take_subset_take_left Z a2 hv
    rw [a1] at h8
    exact h1 v (repV_mem h8)
  obtain ⟨L, hLe⟩ : ∃ L, L = m * k := ⟨_, rfl⟩
  rw [← hLe] at HMU hL HL1 HL0 HCS HP1 HRR HRF HPN ⊢
  have HLE := Lib.hid hLe
  clear hLe hA h1 hlen
  have hml : L ≤ maxLen := by unfold maxLen; omega
  have hby : i0.bytes * L ≤ 281474976710656 := by rw [hz2]; omega
  have hk0 : ¬ ((k : Int) < 0) := by omega
  have hu1 : IntKind.u64.wrap (m : Int) = (m : Int) := IntWalk.u64_in _ (by omega)
  have hu2 : IntKind.u64.wrap (k : Int) = (k : Int) := IntWalk.u64_in _ (by omega)
  have hLm : ¬ ((9223372036854775807 : Int) < (L : Int)) := by omega
  have hLw : IntKind.i64.wrap (L : Int) = (L : Int) := by rw [IntWalk.i64_left]; unfold wrap64; omega
  have hsz : (Tryd.prog.info? 22).map (·.size) = some 1 := by rw [hi]; simp [hz1]
  have HMK : Hid (∀ w1 : World, w1.ownsRow w.heap.size 22 1 (.slice (some ⟨w.heap.size, 0, none⟩) L L) L (madeCells (Value.slice none 0 0).cells (L * 1)).toList → w.grownBy w1 none → ∃ Z : List Value, w1.heap[w.heap.size]? = some (.cells Z.toArray 22 (0, 0)) ∧ Z.length = L ∧ Below w.heap.size w w1) := Lib.hid (fun w1 ho hg => ⟨_, (made_row ho).1, (made_row ho).2, (Below.refl _ _).grown hg (Nat.le_refl _) (by simp)⟩)
  go_enter Tryd.func74, Tryd.ntmps74
  go_wp2_with fail
  refine (HMU.out _).mono ?_
  rintro e w' ⟨rfl, rfl⟩
  go_wp2_with (first | (at_make; refine wpList_make_full _ rfl _ _ _ rfl w.heap.size 22 i0 (Value.slice none 0 0) 1 Tryd.underlying29 hi hz0 hz1 _ _ (L : Int) (L : Int) L rfl rfl rfl rfl hby hml (Nat.le_refl _) ?_; intro w1 hown0 hg1; obtain ⟨Z, hrow, hZ, hb1⟩ := HMK.out w1 hown0 hg1; clear hown0 hg1; have HZ := Lib.hid hZ; clear hZ) | (refine wpList_copy_splice (by rfl) _ _ _ _ (by rfl) 22 Tryd.underlying29 hsz _ _ _ _ _ _ (by rfl) (by rfl) w.heap.size 0 Z 22 hrow (vals.take L) HCS.out (fun h9 => ⟨rfl, HP1.out _ hb1 h9⟩) (by rw [HZ.out, HCS.out, Nat.zero_add]; exact Nat.min_le_right _ _) (fun v hv => H1.out v (List.mem_of_mem_take hv)) w.heap.size w hb1 (Nat.le_refl _) ?_; intro w2 HG2 hb2))
  have HI0 : Hid (∃ i n, i ≤ k ∧ (1 ≤ i ∨ L = 0) ∧ n = m * i ∧ n ≤ L ∧ (vals.take L).length = n ∧ (splice Z 0 (vals.take L)).length = L ∧ (splice Z 0 (vals.take L)).take n = repV i vals) := Lib.hid (by
    have hz := HZ.out
    have hc := HCS.out
    have hsl : (splice Z 0 (vals.take L)).length = L := by rw [length_splice _ _ _ (by rw [hc, hz, Nat.zero_add]; exact Nat.min_le_right _ _), hz]
    rcases Nat.eq_zero_or_pos k with h0 | h0
    · have hl0 := HL0.out h0
      subst hl0
      refine ⟨0, 0, Nat.zero_le _, .inr rfl, rfl, Nat.le_refl _, by rw [hc]; exact Nat.min_eq_right (Nat.zero_le _), hsl, ?_⟩
      rw [List.take_zero]; rfl
    · have hv := HL1.out h0
      have hmL : m ≤ L := by rw [HLE.out]; exact Nat.le_mul_of_pos_right m h0
      refine ⟨1, m, h0, .inl (Nat.le_refl _), (Nat.mul_one m).symm, hmL, by rw [hv]; exact HLN.out, hsl, ?_⟩
      rw [hv, repV_one]
      unfold splice
      rw [List.take_zero, List.nil_append, ← HLN.out, List.take_append, List.take_of_length_le (Nat.le_refl _), Nat.sub_self, List.take_zero, List.append_nil])
  obtain ⟨ia, na, hia, hia1, hna, hnaL, hcsl, hsl, htk⟩ := HI0.out
  have hG0 : Hid (w2.heap[w.heap.size]? = some (.cells (splice Z 0 (vals.take L)).toArray 22 (0, 0))) := HG2
  obtain ⟨Z0, hZ0⟩ : ∃ Z0, Z0 = splice Z 0 (vals.take L) := ⟨_, rfl⟩
  rw [← hZ0] at hG0 hsl htk
  have HTK := Lib.hid htk
  have HNA := Lib.hid hna
  have HSL := Lib.hid hsl
  clear HI0 HG2 hZ0 HP1 HL1 HL0 HCS hrow hb1 htk hna hsl
  go_wp2_with fail
  go_loopw [8] (fun p wr => ∃ (i n : Nat) (Z : List Value), p = .int .i64 (n : Int) ∧ i ≤ k ∧ (1 ≤ i ∨ L = 0) ∧ n ≤ L ∧ Hid (n = m * i) ∧ Hid (Z.length = L) ∧ Hid (wr.heap[w.heap.size]? = some (.cells Z.toArray 22 (0, 0))) ∧ Hid (Z.take n = repV i vals) ∧ Below w.heap.size w wr) (fun p _ => L - (intOf p).toNat)
  case atStart => exact ⟨ia, na, Z0, by first | rfl | (rw [← List.length_take, hcsl]), hia, hia1, hnaL, HNA, HSL, hG0, HTK, hb2⟩
  case round =>
    clear hb2 hG0 HNA HSL HTK hcsl
    obtain ⟨i, n, Z1, rfl, hi1, hi2, hnL, HN, HZL, HG, HT, hb⟩ := hrel
    by_cases hlt : n < L
    · have hI1 : (n : Int) ≤ (L : Int) := by omega
      have hI2 : (0 : Int) ≤ (n : Int) := by omega
      have HR := Lib.hid (HRR.out i n (Nat.min n (L - n)) Z1 hi1 HN.out HZL.out HT.out hlt (by omega) rfl)
      obtain ⟨cc, hcc⟩ : ∃ cc, cc = Nat.min n (L - n) := ⟨_, rfl⟩
      rw [← hcc] at HR
      have hcn : cc ≤ n := by rw [hcc]; exact Nat.min_le_left _ _
      have hcL : cc ≤ L - n := by rw [hcc]; exact Nat.min_le_right _ _
      have HCC : Hid (cc = Nat.min n (L - n)) := Lib.hid hcc
      have hbd := hb.drew
      have HGd : Hid (wr.drew.heap[w.heap.size]? = some (.cells Z1.toArray 22 (0, 0))) := HG
      obtain ⟨DP, hDP⟩ : ∃ DP, (if L = n then some (⟨w.heap.size, 0, none⟩ : Addr) else some ⟨w.heap.size, n, none⟩) = DP := ⟨_, rfl⟩
      have HPOS : Hid (0 < (Z1.take cc).length → DP = some ⟨w.heap.size, n, none⟩ ∧ ∃ ad, some (⟨w.heap.size, 0, none⟩ : Addr) = some ad ∧ ∀ j v, (Z1.take cc)[j]? = some v → wr.drew.cell? (ad.add j) = some v) := Lib.hid fun _ => ⟨by rw [← hDP]; exact if_neg (by omega), ⟨w.heap.size, 0, none⟩, rfl, fun j v hj => by
        have hjl : j < cc := by
          rcases Nat.lt_or_ge j cc with h7 | h7
          · exact h7
          · rw [List.getElem?_eq_none (by rw [List.length_take]; omega)] at hj; cases hj
        rw [List.getElem?_take_of_lt hjl] at hj
        have := cell_row HGd.out j v hj
        rw [add_at, Nat.zero_add]; exact this⟩
      have hcl : (Z1.take cc).length = cc := HR.out.1
      have hcl2 : min cc Z1.length = cc := by rw [← List.length_take]; exact hcl
      obtain ⟨N2, hN2⟩ : ∃ N2, N2 = n + cc := ⟨_, rfl⟩
      have hN2L : N2 ≤ L := by rw [hN2, Nat.add_comm]; exact Nat.add_le_of_le_sub hnL hcL
      have h9 : 0 < n := HPN.out n hlt i hi1 hi2 HN.out
      have h0c : 0 < cc := by rw [HCC.out]; exact Nat.lt_min.2 ⟨h9, Nat.sub_pos_of_lt hlt⟩
      have hN2n : n < N2 := by rw [hN2]; exact Nat.lt_add_of_pos_right h0c
      have hww : wrap64 ((n : Int) + (cc : Int)) = (N2 : Int) := wadd_is n cc N2 hN2 (Nat.le_trans hN2L hL)
      have hww2 : IntKind.i64.wrap ((n : Int) + (cc : Int)) = (N2 : Int) := by rw [IntWalk.i64_left]; exact hww
      have HN2 := Lib.hid hN2
      clear hN2
      clear hcc
      go_wp2_with fail
      go_region_law (first | (refine step_copy_splice rfl (.tmp 41) (.tmp 44) 29 29 rfl 22 Tryd.underlying29 hsz DP (some ⟨w.heap.size, 0, none⟩) (L - n) (L - n) n L (by go_simp) (by go_simp) w.heap.size n Z1 22 HGd.out (Z1.take cc) (by rw [HR.out.1]; exact HCC.out) HPOS.out (by rw [HR.out.1]; exact HR.out.2.1) (HONE.out Z1 cc i n HT.out hcn) w.heap.size w hbd (Nat.le_refl _) ?_; intro w3 HG3 hb3))
      all_goals (
        obtain ⟨j, hj1, hj2, hj3, hj4, hj5⟩ := HR.out.2.2
        have HJ3 := Lib.hid hj3
        have HJ4 := Lib.hid hj4
        have HJ5 := Lib.hid hj5
        clear hj3 hj4 hj5
        go_simp
        go_wp2_with fail
        go_roundw
        case rel => exact ⟨j, N2, splice Z1 n (Z1.take cc), by first | rfl | go_num, hj1, .inl hj2, hN2L, Lib.hid (by rw [HN2.out]; exact HJ3.out), HJ5, HG3, Lib.hid (by rw [HN2.out]; exact HJ4.out), hb3⟩
        case measure =>
          have hm9 : L - N2 < L - n := Nat.sub_lt_sub_left hlt hN2n
          simpa [intOf] using hm9)
    · have hnE : n = L := by omega
      have HF := Lib.hid (HRF.out i Z1 hi1 HZL.out (by rw [← HN.out]; omega) (by rw [← HN.out]; exact HT.out))
      rw [HF.out] at HG
      subst hnE
      go_wp2_with fail
      go_ret
      exact ⟨rfl, HG, hb⟩
theorem repeat_ints (A : Option Addr) (m c k : Nat) (us : List Nat) (w : World) (h : Rd w A m (ints us)) (hm : m ≤ 24) (hk : k ≤ 24) :
    Calls Tryd.prog 116 #[.slice A m c, .int .i64 (k : Int)] w (MakesE 2 w (m * k) (ints (repV k us))) := by
  have hl : us.length = m := by have := h.1; rw [ints_len] at this; exact this
  have hv : ((ints us).map (Value.int .i64)).length = m := by rw [List.length_map, ints_len, hl]
  have hL : m * k ≤ 24 * 24 := Nat.mul_le_mul hm hk
  refine (repeat64_any A m c k ((ints us).map (Value.int .i64)) w hv (fun h0 => ?_) (ints_oneCell .i64 _) hm hk).mono ?_
  · obtain ⟨b, off, e, hb, hc⟩ := h.2 h0
    refine ⟨b, off, e, hb, fun j v hj => ?_⟩
    rw [List.getElem?_map] at hj
    cases hx : (ints us)[j]? with
    | none => rw [hx] at hj; cases hj
    | some x =>
      rw [hx] at hj
      injection hj with hj
      subst hj
      exact hc j x hx
  · rintro e w' ⟨rfl, hg, hb⟩
    have e1 : repV k ((ints us).map (Value.int .i64)) = (ints (repV k us)).map (Value.int .i64) := by unfold ints; rw [← repV_map, ← repV_map]
    have hg2 := hg.out
    rw [e1] at hg2
    exact ⟨_, _, rfl, own_of_row (Nat.le_refl _) (by unfold maxLen; omega) (by rw [ints_len, repV_len, hl]) hg2, hb⟩
theorem repeat_words (A : Option Addr) (c k : Nat) (A1 : Option Addr) (m d : Nat) (us : List Nat) (w : World) (b0 : Nat) (hA : A = some ⟨b0, 0, none⟩) (hb0 : b0 < w.heap.size) (hc0 : w.cell? ⟨b0, 0, none⟩ = some (.slice A1 m d)) (h : Rd w A1 m (ints us)) (hm : m ≤ 24) (hk : k ≤ 24) :
    Calls Tryd.prog 74 #[.slice A 1 c, .int .i64 (k : Int)] w fun e w' => ∃ B, e = .returned (.slice B k k) ∧ RdT w' B k (List.replicate k (A1, m, d, ints us)) ∧ Below w.heap.size w w' := by
  refine (repeatS_any A 1 c k [.slice A1 m d] w rfl (fun _ => ⟨b0, 0, hA, hb0, fun j v hj => ?_⟩) (by intro v hv; simp at hv; subst hv; rfl) (by omega) hk).mono ?_
  · cases j with
    | zero => injection hj with hj; subst hj; exact hc0
    | succ j => cases hj
  · rintro e w' ⟨rfl, hg, hb⟩
    rw [Nat.one_mul]
    refine ⟨_, rfl, ⟨List.length_replicate, fun t ht => ?_, fun h0 => ⟨w.heap.size, 0, rfl, (Array.getElem?_eq_some_iff.1 hg.out).1, fun j t ht => ?_⟩⟩, hb⟩
    · rw [List.eq_of_mem_replicate ht]
      exact ⟨h.below hb, show m ≤ maxLen by unfold maxLen; omega⟩
    · have hj : j < k := by
        rcases Nat.lt_or_ge j k with h7 | h7
        · exact h7
        · rw [List.getElem?_eq_none (by rw [List.length_replicate]; exact h7)] at ht; cases ht
      rw [List.getElem?_replicate, if_pos hj] at ht
      injection ht with ht
      subst ht
      rw [Nat.zero_add]
      refine cell_row hg.out j _ ?_
      have e1 : repV k [Value.slice A1 m d] = List.replicate k (Value.slice A1 m d) := by
        exact repV_single k _
      rw [e1, List.getElem?_replicate, if_pos hj]
end Go.Proofs.YtokikilfmglhhaaDoor
namespace Go.Proofs.YtokikilfmglhhaaDoor
open Go Go.RowKit
set_option linter.unusedVariables false
set_option maxRecDepth 100000

def pwF (rs us : List Nat) (k : Nat) : List Nat × Int := if 24 < us.length * k then ([], 3) else (nfR rs (repV k us), 0)
theorem pwF_long (rs us : List Nat) (k : Nat) (h : 24 < us.length * k) : pwF rs us k = ([], 3) := if_pos h
theorem pwF_ok (rs us : List Nat) (k : Nat) (h : ¬ 24 < us.length * k) : pwF rs us k = (nfR rs (repV k us), 0) := if_neg h
def pwG (a : Int) (rs us : List Nat) : List Nat × Int := if 0 ≤ a ∧ a ≤ 24 then pwF rs us a.toNat else ([], 2)
theorem pwG_out (a : Int) (rs us : List Nat) (h : ¬ (0 ≤ a ∧ a ≤ 24)) : pwG a rs us = ([], 2) := if_neg h
theorem pwG_in (k : Nat) (rs us : List Nat) (h : k ≤ 24) : pwG (k : Int) rs us = pwF rs us k := if_pos ⟨by omega, by omega⟩
def wLA (f : List Nat → List Nat → List Nat × Int) (L : Int) (xs us : List Int) : List Int × Int := if wCode L xs us = 0 then (ints (f (xs.map Int.toNat) (us.map Int.toNat)).1, (f (xs.map Int.toNat) (us.map Int.toNat)).2) else ([], wCode L xs us)
theorem wLA_no (f : List Nat → List Nat → List Nat × Int) (L : Int) (xs us : List Int) (h : alphB L xs = false) : wLA f L xs us = ([], 1) := by
  have e := wCode_no L xs us h
  unfold wLA; rw [e]; rfl
theorem wLA_bad (f : List Nat → List Nat → List Nat × Int) (L : Int) (xs us : List Int) (h : alphB L xs = true) (h2 : wordB L us = false) : wLA f L xs us = ([], 2) := by
  have e := wCode_bad L xs us h h2
  unfold wLA; rw [e]; rfl
theorem wLA_yes (f : List Nat → List Nat → List Nat × Int) (L : Int) (rs us : List Nat) (h : alphB L (ints rs) = true) (h2 : wordB L (ints us) = true) : wLA f L (ints rs) (ints us) = (ints (f rs us).1, (f rs us).2) := by
  have e := wCode_yes L (ints rs) (ints us) h h2
  unfold wLA; rw [if_pos e, ints_toNat, ints_toNat]
theorem pw_small (L : Int) (xs us : List Int) (a : Int) : (wLA (pwG a) L xs us).1.length ≤ 24 := by
  unfold wLA
  split
  · rw [ints_len]
    unfold pwG
    split
    · rcases Nat.lt_or_ge 24 ((us.map Int.toNat).length * a.toNat) with h | h
      · rw [pwF_long _ _ _ h]; exact Nat.zero_le _
      · rw [pwF_ok _ _ _ (by omega)]
        exact Nat.le_trans (nfR_len _ _) (by rw [repV_len]; exact h)
    · exact Nat.zero_le _
  · exact Nat.zero_le _
set_option maxHeartbeats 1600000 in
theorem l07Power_any (B : Option Addr) (m d k : Nat) (us : List Nat) (w : World) (h : Rd w B m (ints us)) (hm : m ≤ 24) (hk : k ≤ 24) :
    Calls Tryd.prog 72 #[.slice B m d, .int .i64 (k : Int)] w (MakesE 2 w (m * k) (ints (repV k us))) := by
  have HL : Hid (us.length = m) := Lib.hid (by have := h.1; rw [ints_len] at this; exact this)
  have HNX : Hid (∀ r, 0 < r → r ≤ k → repV (k - r) us ++ us = repV (k - (r - 1)) us ∧ m * (k - r) + m = m * (k - (r - 1)) ∧ m * (k - r) + m ≤ 576) := Lib.hid fun r h0 h1 => by
    have e : k - (r - 1) = (k - r) + 1 := by omega
    refine ⟨by rw [e, repV_add, repV_one], by rw [e, Nat.mul_succ], ?_⟩
    have e2 : m * (k - r) + m = m * (k - r + 1) := (Nat.mul_succ _ _).symm
    rw [e2]
    exact Nat.le_trans (Nat.mul_le_mul hm (by omega : k - r + 1 ≤ 24)) (by decide)
  go_enter Tryd.func72, Tryd.ntmps72
  go_wp2_with fail
  go_loopw [5, 1] (fun p q wr => ∃ (r N c1 : Nat) (A1 : Option Addr), r ≤ k ∧ q = .int .i64 (r : Int) ∧ p = .slice A1 N c1 ∧ Hid (N = m * (k - r)) ∧ Own 2 wr w.heap.size A1 N c1 (ints (repV (k - r) us)) ∧ Below w.heap.size w wr) (fun _ q _ => (intOf q).toNat)
  case atStart => exact ⟨k, 0, 0, _, Nat.le_refl _, rfl, rfl, Lib.hid (by rw [Nat.sub_self, Nat.mul_zero]), by rw [Nat.sub_self]; exact World.ownsRow_lit w #[] 0 (Nat.le_refl _) (by unfold maxLen; omega) rfl, below1 w _⟩
  case round =>
    obtain ⟨r, N, c1, A1, hr, rfl, rfl, HN, ho, hb⟩ := hrel
    by_cases hr0 : 0 < r
    · have hI : (0 : Int) < (r : Int) := by omega
      have HX := Lib.hid (HNX.out r hr0 hr)
      have hN : N + m ≤ 576 := by rw [HN.out]; exact HX.out.2.2
      have hml : N + m ≤ maxLen := by unfold maxLen; omega
      have hby : (N + m) * 8 ≤ 140737488355328 := by omega
      have hrd := h.below hb
      have hbase := hb.size
      go_wp2_with (at_builtin; refine wpList_append_rd rfl _ _ rfl w.heap.size A1 N c1 (repV (k - r) us) rfl ho B m d us rfl hrd hml hby hbase ?_; intro A6 c6 w6 o6 hg6; have HB6 : Hid (Below w.heap.size w w6) := Lib.hid (hb.grown hg6 hbase (fun k e9 => (ho.lt k (ownBlock_map' e9)).1)); rw [HX.out.1] at o6)
      have hsub : ((r : Int) - 1) = ((r - 1 : Nat) : Int) := by omega
      go_wp2_with fail
      go_roundw
      case rel => exact ⟨r - 1, N + m, c6, A6, by omega, by first | rfl | (rw [← hsub]; go_num) | go_num, rfl, Lib.hid (by rw [HN.out]; exact HX.out.2.1), o6, HB6.out⟩
      case measure => simp [intOf]; omega
    · have hrz : r = 0 := by omega
      subst hrz
      obtain rfl := HN.out
      go_wp2_with fail
      go_ret
      exact ⟨A1, c1, rfl, ho, hb⟩
set_option maxHeartbeats 1600000 in
theorem product_rep (A2 A1 T : Option Addr) (n c2 m d k cT : Nat) (rs vs : List Nat) (w : World) (hrd : Rd w A2 n (ints rs)) (h24 : n ≤ 24) (hl : rs.length = n) (hr : ∀ i, rs.getD i 0 < 2 ^ n) (hdep : Dep rs)
    (h2 : Rd w A1 m (ints vs)) (hm : m ≤ 24) (hk24 : k ≤ 24) (hvn : ∀ x, x ∈ vs → x < n) (hRT : RdT w T k (List.replicate k (A1, m, d, ints vs))) (hT : Tab w) :
    Calls Tryd.prog 73 #[.slice A2 n c2, .slice T k cT] w (LsPost w (ints (pwF rs vs k).1).length (ints (pwF rs vs k).1) (pwF rs vs k).2) := by
  have HLU : Hid (vs.length = m) := Lib.hid (by have := h2.1; rw [ints_len] at this; exact this)
  have HLR := Lib.hid hl
  have HR := Lib.hid hr
  have HDEP := Lib.hid hdep
  have HR63 : Hid (∀ i, rs.getD i 0 < 9223372036854775808) := Lib.hid fun i => lt63 h24 (hr i)
  have HCO := Lib.hid (concat_any T k cT _ (List.replicate k vs) w hRT (by omega) List.length_replicate (fun j t hj => by
    have hjk : j < k := by
      rcases Nat.lt_or_ge j k with h7 | h7
      · exact h7
      · rw [List.getElem?_eq_none (by rw [List.length_replicate]; exact h7)] at hj; cases hj
    rw [List.getElem?_replicate, if_pos hjk] at hj
    injection hj with hj
    subst hj
    rw [List.getD_eq_getElem?_getD, List.getElem?_replicate, if_pos hjk]; rfl) (fun j => by
    rw [List.getD_eq_getElem?_getD, List.getElem?_replicate]
    split
    · show vs.length ≤ 24; have := HLU.out; omega
    · exact Nat.zero_le _))
  rw [show (List.replicate k vs).flatten = repV k vs from rfl] at HCO
  have hlen : (repV k vs).length = m * k := by rw [repV_len, HLU.out]
  have HWM : Hid (∀ x, x ∈ repV k vs → x < n) := Lib.hid (fun x hx => hvn x (repV_mem hx))
  obtain ⟨W, hW⟩ : ∃ W, W = repV k vs := ⟨_, rfl⟩
  rw [← hW] at HCO hlen HWM
  obtain ⟨K, hK⟩ : ∃ K, K = W.length := ⟨_, rfl⟩
  rw [← hK] at HCO hlen
  have HLK : Hid (W.length = K) := Lib.hid hK.symm
  have HRK : Hid (∀ x, x < K → W.getD x 0 < n) := Lib.hid fun x hx => in_getD HWM.out x (by rw [HLK.out]; exact hx)
  by_cases hlong : 24 < K
  · have HA := Lib.hid (pwF_long rs vs k (by rw [HLU.out, ← hlen]; exact hlong))
    have hI : (24 : Int) < (K : Int) := by omega
    clear hK hlen hW hlong hl hr
    go_enter Tryd.func73, Tryd.ntmps73
    go_wp2_with fail
    refine HCO.out.mono ?_
    rintro e w1 ⟨A3, c3, rfl, o3, hb⟩
    go_wp2_with fail
    go_ret2
    rw [HA.out]
    exact LsPost.of_ans (ans_no 3 hb)
  · have HA : Hid (pwF rs vs k = (nfR rs W, 0)) := Lib.hid (by rw [hW]; exact pwF_ok rs vs k (by rw [HLU.out, ← hlen]; exact hlong))
    have hK24 : K ≤ 24 := by omega
    have hI : (K : Int) ≤ 24 := by omega
    clear hK hlen hW hlong hl hr
    go_enter Tryd.func73, Tryd.ntmps73
    go_wp2_with fail
    refine HCO.out.mono ?_
    rintro e w1 ⟨A3, c3, rfl, o3, hb⟩
    have hrd1 := hrd.below hb
    have hW1 := o3.rd
    have hT1 := hT.below hb
    have HT1 := Lib.hid (traceOf_any A2 A3 n K c2 c3 rs W _ hrd1 hW1 hK24 h24 HRK.out HR63.out hT1)
    go_wp2_with fail
    refine HT1.out.mono ?_
    rintro e v1 ⟨E1, g1, F1, k1, es1, rfl, hp, hs, h1, h2, -, -, ha1⟩
    have HN1 := Lib.hid (nf_from E1 F1 g1 k1 K n rs W es1 v1 HLR.out HR.out HDEP.out HLK.out HRK.out hK24 hp hs h1 h2 ((hT1).below ha1))
    clear hp hs h1 h2
    go_wp2_with fail
    refine HN1.out.mono ?_
    rintro e u1 ⟨G1, l1, rfl, ho1, hb1⟩
    go_wp2_with fail
    go_ret2
    rw [HA.out]
    have HZ := hb.trans (ha1.mono hb.size)
    exact LsPost.of_ans (ans_yes ho1.len (ho1.mono HZ.size) (HZ.trans (hb1.mono HZ.size)))
set_option maxHeartbeats 6400000 in
theorem implPowerOf (L : Int) (A : Option Addr) (n c : Nat) (xs : List Int) (A1 : Option Addr) (m d : Nat) (us : List Int) (a : Int) (w : World) (h : Rd w A n xs) (hwf : Wf xs) (hL1 : -9223372036854775808 ≤ L) (hL2 : L ≤ 9223372036854775807) (hn : n ≤ maxLen) (h2 : Rd w A1 m us) (hwf2 : Wf us) (hm : m ≤ maxLen) (ha1 : -9223372036854775808 ≤ a) (ha2 : a ≤ 9223372036854775807) (hT : Tab w) :
    Calls Tryd.prog 31 #[.agg #[.int .i64 L, .slice A n c], .slice A1 m d, .int .i64 a] w (LsPost w (wLA (pwG a) L xs us).1.length (wLA (pwG a) L xs us).1 (wLA (pwG a) L xs us).2) := by
  have hn2 : n ≤ 9223372036854775807 := by unfold maxLen at hn; omega
  have hn1 := h.1
  have hm1 := h2.1
  have x0 := box_new 24 w L A n c
  have HB := Lib.hid (below2 w (.cells #[.int .i64 L, .slice A n c] 24) (.cells #[.slice A1 m d] 22))
  have hh := h.below HB.out
  have ht := rdT_box w (.cells #[.int .i64 L, .slice A n c] 24) A1 m d us 22 h2 hm
  have hh2 := h2.below HB.out
  have hT1 := hT.below HB.out
  have x1 := x0.next (below1 (w.alloc (.cells #[.int .i64 L, .slice A n c] 24)) (.cells #[.slice A1 m d] 22))
  cases ha : alphB L xs
  · rw [wLA_no (pwG a) L xs us ha]
    have HA := Lib.hid ha
    clear ha ht hn1
    go_enter Tryd.func31, Tryd.ntmps31
    go_wp2_with fail
    refine (dependenceWith_no L _ _ _ _ _ _ xs [] _ hh hwf hL1 hL2 hn2 HA.out hT1).mono ?_
    rintro e w1 ⟨rfl, hb⟩
    go_wp2_with fail
    go_ret2
    exact LsPost.of_ans (ans_no 1 (HB.out.trans (hb.mono HB.out.size)))
  · cases hu : wordB L us
    · rw [wLA_bad (pwG a) L xs us ha hu]
      obtain ⟨rs, rfl, rfl, h8, hr, hrel, hl, hd, _⟩ := alphB_nats L xs n hn1 ha
      have HU := Lib.hid hu
      clear ha hu
      go_enter Tryd.func31, Tryd.ntmps31
      go_wp2_with fail
      refine (dependenceWith_any _ _ _ _ _ _ rs _ _ hh hwf h8 hr hrel hd ht (by omega) hT1).mono ?_
      rw [okT_one, HU.out]
      rintro e w1 (⟨hok, _⟩ | ⟨hok, rfl, hb⟩)
      · cases hok
      go_wp2_with fail
      go_ret2
      exact LsPost.of_ans (ans_no 2 (HB.out.trans (hb.mono HB.out.size)))
    · obtain ⟨rs, rfl, rfl, h8, hr, hrel, hl, hd, _⟩ := alphB_nats L xs n hn1 ha
      obtain ⟨vs, rfl, hv24, hvn⟩ := wordB_nats n us hu
      have HU := Lib.hid hu
      rw [ints_len] at hm1
      have hm24 : m ≤ 24 := by omega
      rw [wLA_yes (pwG a) (n : Int) rs vs ha hu]
      have HDEP := Lib.hid ((depB_iff rs n hl hr).1 hd)
      have HLV := Lib.hid hm1
      have HLR := Lib.hid hl
      have HR := Lib.hid hr
      have HVM := Lib.hid hvn
      have HSY : Hid (∀ a b, RDep rs a b = RDep rs b a) := Lib.hid (rdep_sym rs n hl hr HDEP.out)
      have HRE : Hid (∀ a, a < n → RDep rs a a = true) := Lib.hid fun a ha9 => HDEP.out.1 a (by rw [HLR.out]; exact ha9)
      have HR63 : Hid (∀ i, rs.getD i 0 < 9223372036854775808) := Lib.hid fun i => lt63 (by omega) (hr i)
      clear ha hu hl hm1
      go_enter Tryd.func31, Tryd.ntmps31
      go_wp2_with fail
      refine (dependenceWith_any _ _ _ _ _ _ rs _ _ hh hwf h8 hr hrel hd ht (by omega) hT1).mono ?_
      rw [okT_one, HU.out]
      rintro e w1 (⟨hok, A2, c2, rfl, ho, hb⟩ | ⟨hok, _⟩)
      rotate_left
      · cases hok
      have y0 := (x1.next hb).c0
      have y1 := (x1.next hb).c1
      have HB1 := Lib.hid (HB.out.trans (hb.mono HB.out.size))
      have hr2 := hh2.below hb
      have hrd := ho.rd
      have hT2 := hT1.below hb
      have h24 : n ≤ 24 := by omega
      clear ho hb hok ht hh hh2 hT1 hT h h2 x0 x1 hr hvn hd hrel
      by_cases hka : 0 ≤ a ∧ a ≤ 24
      · obtain ⟨k, rfl⟩ := Int.eq_ofNat_of_zero_le hka.1
        have hk24 : k ≤ 24 := by omega
        have HG := Lib.hid (pwG_in k rs vs hk24)
        have hI1 : ¬ ((k : Int) < 0) := by omega
        have hI2 : ¬ ((24 : Int) < (k : Int)) := by omega
        have hwk : wrap64 (k : Int) = (k : Int) := by unfold wrap64; omega
        have hnx := below1 w1 (.cells #[.slice A1 m d] 22)
        have HRW := Lib.hid (repeat_words (some ⟨w1.heap.size, 0, none⟩) 1 k A1 m d vs _ w1.heap.size rfl (Array.getElem?_eq_some_iff.1 (World.alloc_heap_new w1 (.cells #[.slice A1 m d] 22))).1 (cell_one_new w1 (.slice A1 m d) 22 0 _ rfl) (hr2.below hnx) hm24 hk24)
        have HB2 := Lib.hid (HB1.out.trans (hnx.mono HB1.out.size))
        clear hka
        go_wp2_with fail
        refine HRW.out.mono ?_
        rintro e w2 ⟨T, rfl, hRT, hb2⟩
        have hb02 := hnx.trans (hb2.mono hnx.size)
        have HPR := Lib.hid (product_rep A2 A1 T n c2 m d k k rs vs w2 (hrd.below hb02) h24 HLR.out HR.out HDEP.out (hr2.below hb02) hm24 hk24 HVM.out hRT (hT2.below hb02))
        have HB3 := Lib.hid (HB1.out.trans (hb02.mono HB1.out.size))
        clear hb2 hRT
        go_wp2_with fail
        refine HPR.out.mono ?_
        rintro e w3 ⟨A3, c3, rfl, o3, hb3⟩
        go_wp2_with fail
        go_ret2
        rw [HG.out]
        exact ⟨A3, c3, rfl, o3.mono HB3.out.size, HB3.out.trans (hb3.mono HB3.out.size)⟩
      · have HG := Lib.hid (pwG_out a rs vs hka)
        by_cases hI1 : a < 0
        · go_wp2_with fail
          go_ret2
          rw [HG.out]
          exact LsPost.of_ans (ans_no 2 HB1.out)
        · have hI2 : (24 : Int) < a := by omega
          clear hka
          go_wp2_with fail
          go_ret2
          rw [HG.out]
          exact LsPost.of_ans (ans_no 2 HB1.out)
theorem wadd_id (P : Nat) (h : P ≤ 24 * 24) : wrap64 (P : Int) = (P : Int) := by unfold wrap64; omega
set_option maxHeartbeats 6400000 in
theorem specPowerOf (L : Int) (A : Option Addr) (n c : Nat) (xs : List Int) (A1 : Option Addr) (m d : Nat) (us : List Int) (a : Int) (w : World) (h : Rd w A n xs) (hwf : Wf xs) (hL1 : -9223372036854775808 ≤ L) (hL2 : L ≤ 9223372036854775807) (hn : n ≤ maxLen) (h2 : Rd w A1 m us) (hwf2 : Wf us) (hm : m ≤ maxLen) (ha1 : -9223372036854775808 ≤ a) (ha2 : a ≤ 9223372036854775807) :
    Calls Tryd.prog 30 #[.agg #[.int .i64 L, .slice A n c], .slice A1 m d, .int .i64 a] w (LsPost w (wLA (pwG a) L xs us).1.length (wLA (pwG a) L xs us).1 (wLA (pwG a) L xs us).2) := by
  have hn2 : n ≤ 9223372036854775807 := by unfold maxLen at hn; omega
  have hm2 : m ≤ 9223372036854775807 := by unfold maxLen at hm; omega
  have hn1 := h.1
  have hm1 := h2.1
  have HB := Lib.hid (below1 w (.cells #[.int .i64 L, .slice A n c] 24))
  have x0 := box_new 24 w L A n c
  have hh := h.below HB.out
  have hh2 := h2.below HB.out
  have HC := Lib.hid (wCode_two L xs us)
  cases ha : alphB L xs
  · rw [wLA_no (pwG a) L xs us ha]
    have HD := Lib.hid (wCode_no L xs us ha)
    clear ha hn1
    go_enter Tryd.func30, Tryd.ntmps30
    go_wp2_with fail
    refine (l03Code_any L _ _ _ _ _ _ _ _ _ xs us us _ hh hn2 hh2 hm2 hh2 hm2).mono ?_
    rintro e w1 ⟨rfl, hb⟩
    rw [HC.out, HD.out]
    go_wp2_with fail
    go_ret2
    exact LsPost.of_ans (ans_no 1 (HB.out.trans (hb.mono HB.out.size)))
  · cases hu : wordB L us
    · rw [wLA_bad (pwG a) L xs us ha hu]
      have HD := Lib.hid (wCode_bad L xs us ha hu)
      clear ha hu hn1
      go_enter Tryd.func30, Tryd.ntmps30
      go_wp2_with fail
      refine (l03Code_any L _ _ _ _ _ _ _ _ _ xs us us _ hh hn2 hh2 hm2 hh2 hm2).mono ?_
      rintro e w1 ⟨rfl, hb⟩
      rw [HC.out, HD.out]
      go_wp2_with fail
      go_ret2
      exact LsPost.of_ans (ans_no 2 (HB.out.trans (hb.mono HB.out.size)))
    · have HD := Lib.hid (wCode_yes L xs us ha hu)
      obtain ⟨rs, rfl, rfl, h8, hr, hrel, hl, hd, _⟩ := alphB_nats L xs n hn1 ha
      obtain ⟨vs, rfl, hv24, hvn⟩ := wordB_nats n us hu
      rw [ints_len] at hm1
      have hm24 : m ≤ 24 := by omega
      rw [wLA_yes (pwG a) (n : Int) rs vs ha hu]
      have HDEP := Lib.hid ((depB_iff rs n hl hr).1 hd)
      have HLV := Lib.hid hm1
      have HLR := Lib.hid hl
      have HR := Lib.hid hr
      have HVM := Lib.hid hvn
      have HSY : Hid (∀ a b, RDep rs a b = RDep rs b a) := Lib.hid (rdep_sym rs n hl hr HDEP.out)
      have HRE : Hid (∀ a, a < n → RDep rs a a = true) := Lib.hid fun a ha9 => HDEP.out.1 a (by rw [HLR.out]; exact ha9)
      have HNR : Hid (∀ ws, nfM (RDep rs) n ws = nfR rs ws) := Lib.hid (fun ws => by unfold nfR; rw [HLR.out])
      clear ha hu hl hm1
      go_enter Tryd.func30, Tryd.ntmps30
      go_wp2_with fail
      refine (l03Code_any (n : Int) _ _ _ _ _ _ _ _ _ (ints rs) (ints vs) (ints vs) _ hh hn2 hh2 hm2 hh2 hm2).mono ?_
      rintro e w1 ⟨rfl, hb⟩
      rw [HC.out, HD.out]
      have x1 := x0.next hb
      have y0 := x1.c0
      have y1 := x1.c1
      have HB1 := Lib.hid (HB.out.trans (hb.mono HB.out.size))
      have hrd := hh.below hb
      have hr2 := hh2.below hb
      have h24 : n ≤ 24 := by omega
      clear hb hh hh2 h h2 x0 hr hvn hd hrel
      have HIN : Hid (∀ ww, Calls Tryd.prog 70 #[.int .i64 a, .int .i64 0, .int .i64 24] ww fun e w' => e = .returned (.bool (decide (0 ≤ a ∧ a ≤ 24))) ∧ ww = w') := Lib.hid fun ww => in_any a 0 24 ww
      by_cases hka : 0 ≤ a ∧ a ≤ 24
      · rw [decide_eq_true hka] at HIN
        obtain ⟨k, rfl⟩ := Int.eq_ofNat_of_zero_le hka.1
        have hk24 : k ≤ 24 := by omega
        have HG := Lib.hid (pwG_in k rs vs hk24)
        have hL : m * k ≤ 24 * 24 := Nat.mul_le_mul hm24 hk24
        have HPW := Lib.hid fun ww (hw : Below w1.heap.size w1 ww) => l07Power_any A1 m d k vs ww (hr2.below hw) hm24 hk24
        have HWM : Hid (∀ x, x ∈ repV k vs → x < n) := Lib.hid (fun x hx => HVM.out x (repV_mem hx))
        have HWL : Hid ((repV k vs).length = m * k) := Lib.hid (by rw [repV_len, HLV.out])
        have HLO : Hid (24 < m * k → pwF rs vs k = ([], 3)) := Lib.hid fun h9 => pwF_long rs vs k (by rw [HLV.out]; exact h9)
        have HOK : Hid (¬ 24 < m * k → pwF rs vs k = (nfR rs (repV k vs), 0)) := Lib.hid fun h9 => pwF_ok rs vs k (by rw [HLV.out]; exact h9)
        have hmul : ((m : Int) * (k : Int)) = ((m * k : Nat) : Int) := (Int.natCast_mul m k).symm
        obtain ⟨P, hP⟩ : ∃ P, P = m * k := ⟨_, rfl⟩
        rw [← hP] at hL HPW HWL HLO HOK hmul
        have hwP : wrap64 (P : Int) = (P : Int) := wadd_id P hL
        clear hka hP
        by_cases hlong : 24 < P
        · have HLG := Lib.hid (HLO.out hlong)
          have hI : (24 : Int) < (P : Int) := by omega
          go_wp2_with fail
          refine (HIN.out _).mono ?_
          rintro e w' ⟨rfl, rfl⟩
          go_wp2_with fail
          go_ret2
          rw [HG.out, HLG.out]
          exact LsPost.of_ans (ans_no 3 HB1.out)
        · have HLG := Lib.hid (HOK.out hlong)
          have hI : ¬ (24 : Int) < (P : Int) := by omega
          have hP24 : P ≤ 24 := by omega
          have HNO : Hid (∀ ww A3 c3, Below w1.heap.size w1 ww → Rd ww A3 P (ints (repV k vs)) → Calls Tryd.prog 71 #[.agg #[.int .i64 (n : Int), .slice A n c], .slice A3 P c3] ww (MakesE 2 ww P (ints (nfR rs (repV k vs))))) := Lib.hid fun ww A3 c3 hw h3 => by
            have h9 := l03Normal_any A A3 n c P c3 rs (repV k vs) ww (hrd.below hw) h24 HR.out h3 hP24 (fun p hp => in_getD HWM.out p (by rw [HWL.out]; exact hp))
            rw [HNR.out] at h9
            exact h9
          have hdr : Below w1.heap.size w1 w1.drew := (Below.refl _ _).drew
          have s0 := (x1.next hdr).c0
          have s1 := (x1.next hdr).c1
          go_wp2_with fail
          refine (HIN.out _).mono ?_
          rintro e w' ⟨rfl, rfl⟩
          go_wp2_with fail
          go_region_law (first
            | (go_simp; go_at_call 72; (refine (HPW.out _ hdr).mono ?_); rintro e w2 ⟨A2, c2, rfl, o2, hb2⟩; have hb12 := hdr.trans (hb2.mono hdr.size); have s0 := (x1.next hb12).c0; have s1 := (x1.next hb12).c1)
            | (go_simp; go_at_call 71; (refine (HNO.out _ _ _ hb12 o2.rd).mono ?_); rintro e w4 ⟨A4, c4, rfl, o4, hb4⟩))
          all_goals (
            go_wp2_with fail
            go_ret2
            rw [HG.out, HLG.out]
            have hb14 := hb12.trans (hb4.mono hb12.size)
            exact LsPost.of_ans (ans_yes (by rw [o4.len]) (o4.mono (by have := HB1.out.size; have := hb12.size; omega)) (HB1.out.trans (hb14.mono HB1.out.size))))
      · rw [decide_eq_false hka] at HIN
        have HG := Lib.hid (pwG_out a rs vs hka)
        clear hka
        go_wp2_with fail
        refine (HIN.out _).mono ?_
        rintro e w' ⟨rfl, rfl⟩
        go_wp2_with fail
        go_ret2
        rw [HG.out]
        exact LsPost.of_ans (ans_no 2 HB1.out)
end Go.Proofs.YtokikilfmglhhaaDoor
namespace Go.Proofs.YtokikilfmglhhaaDoor
open Go Go.RowKit
set_option linter.unusedVariables false
set_option maxRecDepth 100000

/-- The first letters of each kind, of the first i: of each as many as one of k words gets. -/
def shTo (us : List Nat) (k : Nat) : Nat → List Nat
  | 0 => []
  | i + 1 => if (shTo us k i).count (us.getD i 0) < us.count (us.getD i 0) / k then shTo us k i ++ [us.getD i 0] else shTo us k i
def shF (us : List Nat) (k : Nat) : List Nat := shTo us k us.length
theorem shTo_count (us : List Nat) (k a : Nat) : ∀ i, (shTo us k i).count a ≤ us.count a / k
  | 0 => Nat.zero_le _
  | i + 1 => by
    have ih := shTo_count us k a i
    unfold shTo
    split
    · rename_i h
      obtain ⟨b, hb⟩ : ∃ b, b = us.getD i 0 := ⟨_, rfl⟩
      rw [← hb] at h ⊢
      rw [List.count_append, List.count_singleton]
      by_cases e : b = a
      · subst e; simp; omega
      · have e2 : (b == a) = false := beq_false_of_ne e
        rw [e2]; simpa using ih
    · exact ih
theorem shTo_mem (us : List Nat) (k : Nat) : ∀ i, i ≤ us.length → ∀ x, x ∈ shTo us k i → x ∈ us
  | 0, _, x, h => by cases h
  | i + 1, hi, x, h => by
    unfold shTo at h
    split at h
    · rcases List.mem_append.1 h with h1 | h1
      · exact shTo_mem us k i (by omega) x h1
      · rw [List.mem_singleton.1 h1, List.getD_eq_getElem?_getD, List.getElem?_eq_getElem (by omega)]; exact List.getElem_mem _
    · exact shTo_mem us k i (by omega) x h
theorem shTo_len (us : List Nat) (k : Nat) : ∀ i, (shTo us k i).length ≤ i
  | 0 => Nat.le_refl _
  | i + 1 => by
    have ih := shTo_len us k i
    unfold shTo
    split
    · rw [List.length_append]; show _ + 1 ≤ _; omega
    · omega
theorem repV_count (k a : Nat) (t : List Nat) : (repV k t).count a = k * t.count a := by
  induction k with
  | zero => rw [repV_zero, Nat.zero_mul]; rfl
  | succ k ih => rw [repV_add, List.count_append, ih, repV_one, Nat.succ_mul]
theorem len_of_count : ∀ (u v : List Nat), (∀ a, u.count a ≤ v.count a) → u.length ≤ v.length
  | [], v, _ => Nat.zero_le _
  | b :: u, v, h => by
    have hb : b ∈ v := by
      have := h b
      rw [List.count_cons_self] at this
      exact List.count_pos_iff.1 (by omega)
    have ih := len_of_count u (v.erase b) (fun a => by
      have h1 := h a
      rw [List.count_erase]
      by_cases e : b = a
      · subst e
        rw [List.count_cons_self] at h1
        simp; omega
      · have e2 : (b == a) = false := beq_false_of_ne e
        rw [List.count_cons_of_ne e] at h1
        rw [e2]; simpa using h1)
    rw [List.length_erase_of_mem hb] at ih
    have := List.length_pos_of_mem hb
    rw [List.length_cons]
    omega
/-- The power of the share has no more letters than the word. -/
theorem sh_len (us : List Nat) (k : Nat) : (shF us k).length * k ≤ us.length := by
  rw [← repV_len]
  refine len_of_count _ _ fun a => ?_
  rw [repV_count]
  have h1 := shTo_count us k a us.length
  exact Nat.le_trans (Nat.mul_le_mul_left k h1) (Nat.mul_div_le _ _)
theorem sh_lt (us : List Nat) (k n : Nat) (h : ∀ x, x ∈ us → x < n) : ∀ x, x ∈ shF us k → x < n := fun x hx => h x (shTo_mem us k us.length (Nat.le_refl _) x hx)
theorem count_prj (u : List Nat) (a : Nat) : u.count a = (prj u a a).length := by
  unfold prj
  rw [List.count_eq_length_filter]
  congr 1
  refine List.filter_congr fun x _ => ?_
  by_cases e : x = a <;> simp [e]
theorem Eqv.count {D : Nat → Nat → Bool} {u v : List Nat} (h : Eqv D u v) {a : Nat} (ha : D a a = true) : u.count a = v.count a := by
  rw [count_prj, count_prj, h a a ha]
/-- Whether each letter occurs a multiple of k times. -/
def fitB (us : List Nat) (k n : Nat) : Bool := (List.range n).all fun a => us.count a % k == 0
theorem fit_of (rs us t : List Nat) (n k : Nat) (hl : rs.length = n) (hsym : ∀ a b, RDep rs a b = RDep rs b a) (href : ∀ a, a < n → RDep rs a a = true) (hu : ∀ x, x ∈ us → x < n) (ht : ∀ x, x ∈ t → x < n) (h : nfR rs (repV k t) = nfR rs us) : fitB us k n = true := by
  have hr : ∀ x, x ∈ repV k t → x < n := fun x hx => ht x (repV_mem hx)
  have e : ∀ ws, nfR rs ws = nfM (RDep rs) n ws := fun ws => by unfold nfR; rw [hl]
  rw [e, e] at h
  have hE := (eqv_iff_nf hsym href _ _ hr hu).2 h
  unfold fitB
  rw [List.all_eq_true]
  intro a ha
  have ha' := List.mem_range.1 ha
  rw [← hE.count (href a ha'), repV_count]
  simp
/-- The root, tried from k on downwards. -/
def rtGo (rs us : List Nat) : Nat → List Nat × Nat
  | 0 => (nfR rs us, 1)
  | k + 1 => if k = 0 then (nfR rs us, 1) else if nfR rs (repV (k + 1) (shF us (k + 1))) = nfR rs us then (nfR rs (shF us (k + 1)), k + 1) else rtGo rs us k
theorem rtGo_end (rs us : List Nat) (k : Nat) (h : k ≤ 1) : rtGo rs us k = (nfR rs us, 1) := by
  match k, h with
  | 0, _ => rfl
  | 1, _ => rfl
theorem rtGo_yes (rs us : List Nat) (k : Nat) (h : 1 < k) (h2 : nfR rs (repV k (shF us k)) = nfR rs us) : rtGo rs us k = (nfR rs (shF us k), k) := by
  match k, h with
  | k + 1, h =>
    show (if k = 0 then _ else if _ then _ else _) = _
    rw [if_neg (by omega), if_pos h2]
theorem rtGo_no (rs us : List Nat) (k : Nat) (h : 1 < k) (h2 : ¬ nfR rs (repV k (shF us k)) = nfR rs us) : rtGo rs us k = rtGo rs us (k - 1) := by
  match k, h with
  | k + 1, h =>
    show (if k = 0 then _ else if _ then _ else _) = _
    rw [if_neg (by omega), if_neg h2]; rfl
def rtF (rs us : List Nat) : List Nat × Nat := rtGo rs us us.length
theorem rtGo_len (rs us : List Nat) : ∀ k, (rtGo rs us k).1.length ≤ us.length ∧ 1 ≤ (rtGo rs us k).2
  | 0 => ⟨nfR_len rs us, Nat.le_refl _⟩
  | k + 1 => by
    rcases Nat.lt_or_ge 1 (k + 1) with h | h
    · by_cases h2 : nfR rs (repV (k + 1) (shF us (k + 1))) = nfR rs us
      · rw [rtGo_yes rs us (k + 1) h h2]
        exact ⟨Nat.le_trans (nfR_len rs _) (shTo_len us (k + 1) us.length), by omega⟩
      · rw [rtGo_no rs us (k + 1) h h2]
        exact rtGo_len rs us k
    · rw [rtGo_end rs us (k + 1) h]
      exact ⟨nfR_len rs us, Nat.le_refl _⟩
theorem nfGo_ltR (D : Nat → Nat → Bool) (n : Nat) : ∀ (k : Nat) (us : List Nat) (x : Nat), x ∈ nfGo D n k us → x < n
  | 0, _, x, h => by cases h
  | k + 1, us, x, h => by
    have h' : x ∈ (match leastFree D n us with | none => [] | some a => a :: nfGo D n k (us.erase a)) := h
    cases hl : leastFree D n us with
    | none => rw [hl] at h'; cases h'
    | some a =>
      rw [hl] at h'
      rcases List.mem_cons.1 h' with e | e
      · rw [e]; exact ((leastFree_iff D n us a).1 hl).1
      · exact nfGo_ltR D n k _ x e
end Go.Proofs.YtokikilfmglhhaaDoor
namespace Go.Proofs.YtokikilfmglhhaaDoor
open Go.RowKit
set_option linter.unusedVariables false
set_option maxRecDepth 100000

set_option maxHeartbeats 3200000 in
theorem l03Content_any (A : Option Addr) (n c : Nat) (rs : List Nat) (A1 : Option Addr) (m d : Nat) (vs : List Nat) (w : World) (h : Rd w A n (ints rs)) (hn : n ≤ 8) (h2 : Rd w A1 m (ints vs)) (hv24 : vs.length ≤ 24) (hvn : ∀ u, u ∈ vs → u < n) :
    Calls Tryd.prog 114 #[.agg #[.int .i64 (n : Int), .slice A n c], .slice A1 m d] w (MakesE 2 w n (ints (contM n vs))) := by
  have hm1 := h2.1
  rw [ints_len] at hm1
  have hm24 : m ≤ 24 := by omega
  have HM := Lib.hid hm1
  have HVN := Lib.hid hvn
  clear hm1 hvn
  obtain ⟨i0, hi, hz0, hz1, hz2⟩ := info_parts info_int
  have hml : n ≤ maxLen := by unfold maxLen; omega
  have hby : i0.bytes * n ≤ 281474976710656 := by rw [hz2]; omega
  have x0 := box_new 24 w (n : Int) A n c
  have hsz := size1' w (.cells #[.int .i64 (n : Int), .slice A n c] 24)
  have HB := Lib.hid (below1 w (.cells #[.int .i64 (n : Int), .slice A n c] 24))
  have hh2 := h2.below HB.out
  obtain ⟨w1, hw1⟩ : ∃ w1, w1 = w.alloc (.cells #[.int .i64 (n : Int), .slice A n c] 24) := ⟨_, rfl⟩
  rw [← hw1] at x0 hsz hh2
  have HB1 := Lib.hid (show Below w.heap.size w w1 by rw [hw1]; exact HB.out)
  have y0 := x0.c0
  have HSZ := Lib.hid hsz
  clear HB h h2 hsz
  go_enter Tryd.func114, Tryd.ntmps114
  go_wp2_with (first | (at_make; rw [← hw1]; clear hw1; refine wpList_make_full _ rfl _ _ _ rfl w1.heap.size 2 i0 (.int .i64 0) 1 Tryd.underlying22 hi hz0 hz1 _ _ (n : Int) (n : Int) n rfl rfl rfl rfl hby hml (Nat.le_refl _) ?_; intro w2 hown0 hg2))
  have hown := own_made hown0
  rw [← contM_nil] at hown
  clear hown0
  have hb2 : Below w1.heap.size w1 w2 := (Below.refl _ _).grown hg2 (Nat.le_refl _) (by simp)
  clear hg2
  go_loopw [6] (fun i wr => ∃ k : Nat, k ≤ m ∧ i = .int .i64 k ∧ Own 2 wr w1.heap.size (some ⟨w1.heap.size, 0, none⟩) n n (ints (contM n (vs.take k))) ∧ Below w1.heap.size w1 wr) (fun i _ => m - (intOf i).toNat)
  case atStart => exact ⟨0, Nat.zero_le _, rfl, hown, hb2⟩
  case round =>
    clear hown hb2
    obtain ⟨k, hk, rfl, ho, hb⟩ := hrel
    by_cases hlt : k < m
    · obtain ⟨b, off, x, rfl, hbs, hx, hcx⟩ := (hh2.below hb).at_ hlt
      obtain ⟨u, hu, rfl⟩ := ints_at? vs k x hx
      have hun := HVN.out u (List.mem_of_getElem? hu)
      have HS : Hid (contM n (vs.take (k + 1)) = (contM n (vs.take k)).set u ((contM n (vs.take k)).getD u 0 + 1)) := Lib.hid (by rw [take_snoc vs k u hu, contM_snoc n _ u hun])
      have hle := contM_le n (vs.take k) u (by rw [List.length_take]; omega)
      obtain ⟨g, hg, _, hcell, hfr, hset⟩ := own_stored ho hun
      cases hg
      obtain ⟨X, hX⟩ : ∃ X, X = (contM n (vs.take k)).getD u 0 := ⟨_, rfl⟩
      rw [← hX] at hle hcell HS
      have ho2 := hset (X + 1)
      rw [← HS.out, Int.natCast_succ] at ho2
      have hb2 := hb.setCell (p := ⟨w1.heap.size, u, none⟩) (Nat.le_refl _) (.int .i64 ((X : Int) + 1))
      clear hx hu hX hset
      go_wp2_with fail
      go_roundw
      case rel => exact ⟨k + 1, by omega, by go_num, ho2, hb2⟩
      case measure => simp [intOf]; omega
    · obtain rfl : k = m := by omega
      have e9 : vs.take k = vs := List.take_of_length_le (by have := HM.out; omega)
      rw [e9] at ho
      clear e9
      go_wp2_with fail
      go_ret
      exact ⟨_, _, rfl, ho.mono HB1.out.size, HB1.out.trans (hb.mono HB1.out.size)⟩
end Go.Proofs.YtokikilfmglhhaaDoor
