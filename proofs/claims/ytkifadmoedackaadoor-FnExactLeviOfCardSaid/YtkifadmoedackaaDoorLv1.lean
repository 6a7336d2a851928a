/-
  Concatenate: helpers. LeviOf: the program's four parts. Concatenate: both sides. LeviOf: mathematics, a row whose elements are turned one after another. LeviOf: the program's side.
-/
import Derived.Test.YtkifadmoedackaaDoorDv2
import Derived.Lib.AppendZeros
import Derived.Test.YtkifadmoedackaaDoorSSL
namespace Go.Proofs.YtkifadmoedackaaDoor
open Go Go.RowKit
set_option linter.unusedVariables false
set_option maxRecDepth 100000

theorem step_append_rd {w : World} {ops : Array Oper} {o : Oper} {a : Act} {K : Act → World → Prop} {Q : Exit → Act → World → Prop} {E : Prop} (hgd : o.guard = none) (s x : Operand)
    (ho : o.op = .call { callee := .builtin .append, args := #[s, x], argTypes := #[22, 22] }) (base : Nat) (A : Option Addr) (N cA : Nat) (all : List Nat) (hs : a.eval s = .slice A N cA) (hown : Own 2 w base A N cA (ints all))
    (A2 : Option Addr) (m c2 : Nat) (ss : List Nat) (hx : a.eval x = .slice A2 m c2) (h2 : Rd w A2 m (ints ss)) (h63 : N + m ≤ maxLen) (hby : (N + m) * 8 ≤ 140737488355328) (hbase : base ≤ w.heap.size)
    (h : ∀ v' w', (∃ A' c', v' = .slice A' (N + m) c' ∧ Own 2 w' base A' (N + m) c' (ints (all ++ ss))) → w.grownBy w' (Value.slice A N cA).ownBlock → K (a.put o.dst v') w') :
    if Region.wanted o (yielded ops a.tmps) = true then Oper.wp Tryd.prog o a w K Q else E := by
  have hw : Region.wanted o (yielded ops a.tmps) = true := by simp [Region.wanted, hgd]
  rw [if_pos hw]
  obtain ⟨i0, hi, hz0, hz1, hz2⟩ := info_parts info_int
  cases A2 with
  | none =>
    have hm0 : m = 0 := by
      rcases Nat.eq_zero_or_pos m with h0 | h0
      · exact h0
      · obtain ⟨b, off, e9, _⟩ := h2.2 h0; cases e9
    subst hm0
    have hs0 : ss = [] := List.eq_nil_of_length_eq_zero (by have := h2.1; rw [ints_len] at this; exact this)
    subst hs0
    have hrun := run_append_nothing (P := Tryd.prog) w 22 22 o.type 2 i0 Tryd.underlying22 hi A N cA (own_cap hown) (.slice none 0 c2) (Src.ofNil w Tryd.underlying22 c2)
    unfold Oper.wp
    simp [execOp, ho, resolve, invoke, builtin, hs, hx, hrun, Result.andThen]
    exact h (.slice A N cA) w ⟨A, cA, rfl, by rw [List.append_nil]; exact hown⟩ (World.grownBy.refl _ _)
  | some ad =>
    have hl2 : ((ints ss).map (Value.int .i64)).length = m * 1 := by rw [List.length_map, h2.1, Nat.mul_one]
    refine wp_append_own (P := Tryd.prog) w s x 22 ho base 2 i0 (.int .i64 0) 1 8 Tryd.underlying22 hi hz0 hz1 hz2 rfl (by decide) (.slice A N cA) N ((ints all).map (Value.int .i64)) hs hown ad m c2 ((ints ss).map (Value.int .i64)) hx hl2 ?_ (ints_oneCell .i64 _) h63 hby hbase ?_
    · intro j u hu
      have hj : 0 < m := by
        rcases Nat.eq_zero_or_pos m with h0 | h0
        · have h8 : (ints ss).map (Value.int .i64) = [] := List.eq_nil_of_length_eq_zero (by rw [hl2, h0])
          rw [h8] at hu; simp at hu
        · exact h0
      obtain ⟨b, off, e9, _⟩ := h2.2 hj
      injection e9 with e9
      subst e9
      exact rd_news h2 hj j u hu
    · intro v' w' hown' hg _
      have e8 : (ints all).map (Value.int .i64) ++ (ints ss).map (Value.int .i64) = (ints (all ++ ss)).map (Value.int .i64) := by rw [ints_app, List.map_append]
      rw [e8] at hown'
      obtain ⟨A3, c3, rfl, ho3⟩ := own_shape hown'
      exact h _ w' ⟨A3, c3, rfl, ho3⟩ hg
set_option maxHeartbeats 1600000 in
theorem growNil_any (n : Nat) (hn : n ≤ 100000) (w : World) :
    Calls Tryd.prog 146 #[.slice none 0 0, .int .i64 (n : Int)] w fun e w' => ∃ (A : Option Addr) (c : Nat), e = .returned (.slice A 0 c) ∧ Own 2 w' w.heap.size A 0 c (ints []) ∧ Below w.heap.size w w' := by
  obtain ⟨i0, hi, hz0, hz1, hz2⟩ := info_parts info_int
  have hw0 : IntKind.i64.wrap ((n : Int) - 0) = (n : Int) := by rw [IntWalk.i64_left]; unfold wrap64; omega
  have hw1 : wrap64 (n : Int) = (n : Int) := by unfold wrap64; omega
  have hn0 : (0 : Int) ≤ (n : Int) := by omega
  rcases Nat.eq_zero_or_pos n with h0 | h0
  · subst h0
    go_enter Tryd.func146, Tryd.ntmps146
    go_wp2_with fail
    go_ret
    exact ⟨none, 0, rfl, Own.nil _ _ _, Below.refl _ _⟩
  · have hnp : (0 : Int) < (n : Int) := by omega
    have hrun := Lib.run_append_nil_zeros (P := Tryd.prog) w 22 3 22 2 i0 (.int .i64 0) .i64 .i64 Tryd.underlying22 Tryd.underlying3 hi hz0 n h0 (by omega) (by omega) (by rw [hz2]; omega)
    obtain ⟨cp, hcp⟩ : ∃ cp, cp = grownCap w n 0 2 := ⟨_, rfl⟩
    have hge : n ≤ cp := by rw [hcp]; exact grownCap_ge w n 0 _
    have hle : cp ≤ maxLen := by rw [hcp]; exact grownCap_le_maxLen w n 0 _ (by unfold maxLen; omega)
    rw [← hcp] at hrun
    obtain ⟨row, hrow⟩ : ∃ row, row = Builtin.zeroCells (Value.int .i64 0).cells n ++ Builtin.zeroCells (Value.int .i64 0).cells (cp - n) := ⟨_, rfl⟩
    have hrs : row.size = cp := by
      rw [hrow, Array.size_append]
      have hzc : ∀ k, (Builtin.zeroCells (Value.int .i64 0).cells k).size = k := fun k => by simp [Builtin.zeroCells, Value.cells]
      rw [hzc, hzc]; omega
    rw [← hrow] at hrun
    have HOWN : Hid (Own 2 (w.drew.alloc (.cells row 2)) w.heap.size (some ⟨w.heap.size, 0, none⟩) 0 cp (ints [])) := Lib.hid ⟨rfl, .inr ⟨w.heap.size, cp, row, rfl, Nat.le_refl _, World.alloc_heap_new w.drew _, Nat.zero_le _, hle, by rw [hrs, Nat.mul_one], by simp [ints]⟩⟩
    have HBE : Hid (Below w.heap.size w (w.drew.alloc (.cells row 2))) := Lib.hid ((Below.refl _ _).drew.alloc (Nat.le_refl _) _)
    clear hrow hcp
    go_enter Tryd.func146, Tryd.ntmps146
    go_wp2_with (at_builtin; refine Lib.wpList_append_run _ rfl _ _ _ _ rfl _ _ rfl rfl _ _ hrun ?_)
    go_wp2_with fail
    go_ret
    exact ⟨_, cp, rfl, HOWN.out, HBE.out⟩
end Go.Proofs.YtkifadmoedackaaDoor
namespace Go.Proofs.YtkifadmoedackaaDoor
open Go Go.RowKit
set_option linter.unusedVariables false
set_option maxRecDepth 100000

/-- The program's four parts: a row of four slices, the newest block. -/
def LevPost (T : List (List Nat)) (w : World) (e : Ending) (w' : World) : Prop :=
  ∃ (w3 : World) (P0 P1 P2 P3 : Option Addr) (d0 d1 d2 d3 : Nat), e = .returned (.slice (some ⟨w3.heap.size, 0, none⟩) 4 4) ∧ w' = w3.alloc (.cells #[.slice P0 (T.getD 0 []).length d0, .slice P1 (T.getD 1 []).length d1, .slice P2 (T.getD 2 []).length d2, .slice P3 (T.getD 3 []).length d3] 22) ∧ Below w.heap.size w w3 ∧
    Rd w3 P0 (T.getD 0 []).length (ints (T.getD 0 [])) ∧ Rd w3 P1 (T.getD 1 []).length (ints (T.getD 1 [])) ∧ Rd w3 P2 (T.getD 2 []).length (ints (T.getD 2 [])) ∧ Rd w3 P3 (T.getD 3 []).length (ints (T.getD 3 []))
def levM (D : Nat → Nat → Bool) (us vs ys : List Nat) : List (List Nat) := [(cmpM D us ys).1, (cmpM D us ys).2.1, (cmpM D us ys).2.2, (cmpM D (cmpM D us ys).2.2 vs).2.2]
set_option maxHeartbeats 3200000 in
theorem levi_any (R A B C : Option Addr) (n c m d q e0 k e1 : Nat) (rs us vs ys : List Nat) (w : World) (h : Rd w R n (ints rs)) (hn : n ≤ 24) (hr : ∀ i, rs.getD i 0 < 2 ^ n) (hsym : ∀ a b, RDep rs a b = RDep rs b a) (href : ∀ a, a < n → RDep rs a a = true)
    (h2 : Rd w A m (ints us)) (hm : m ≤ 24) (hus : ∀ x, x ∈ us → x < n) (h3 : Rd w B q (ints vs)) (hq : q ≤ 24) (hqe : q ≤ e0) (hvs : ∀ x, x ∈ vs → x < n) (h4 : Rd w C k (ints ys)) (hk : k ≤ 24) (hke : k ≤ e1) (hys : ∀ x, x ∈ ys → x < n) :
    Calls Tryd.prog 73 #[.slice R n c, .slice A m d, .slice B q e0, .slice C k e1] w (LevPost (levM (RDep rs) us vs ys) w) := by
  unfold levM
  have HCM := Lib.hid (cmpare_any R A C n c m d k e1 rs us ys w h hn hr hsym href h2 (by omega) hus h4 (by omega) hke hys)
  have hcl := cmp_len (RDep rs) us ys
  have HLY : Hid (ys.length = k) := Lib.hid (by have := h4.1; rw [ints_len] at this; exact this)
  unfold CmpPost at HCM
  obtain ⟨Q, hQ⟩ : ∃ Q, Q = cmpM (RDep rs) us ys := ⟨_, rfl⟩
  rw [← hQ] at HCM hcl ⊢
  obtain ⟨p, f, s⟩ := Q
  have HCM' : Hid (Calls Tryd.prog 120 #[.slice R n c, .slice A m d, .slice C k e1] w fun e w' => ∃ A0 c0 A1 c1 A2 c2, e = .returned (.agg #[.slice A0 p.length c0, .slice A1 f.length c1, .slice A2 s.length c2]) ∧ Rd w' A0 p.length (ints p) ∧ Rd w' A1 f.length (ints f) ∧ Rd w' A2 s.length (ints s) ∧ s.length ≤ c2 ∧ Below w.heap.size w w') := HCM
  have HSM : Hid (∀ x, x ∈ s → x < n) := Lib.hid fun x hx => hys x (hcl.2.2.2.2 x hx)
  have hsl : s.length ≤ 24 := by have h9 : s.length ≤ ys.length := hcl.2.1; have := HLY.out; omega
  have HQ : Hid (∀ (A2 : Option Addr) (c2 : Nat) (ww : World), Below w.heap.size w ww → Rd ww A2 s.length (ints s) → Calls Tryd.prog 121 #[.slice R n c, .slice A2 s.length c2, .slice B q e0] ww (QuoPost (RDep rs) s vs ww)) := Lib.hid fun A2 c2 ww hw h2' => quotient_any R A2 B n c s.length c2 q e0 rs s vs ww (h.below hw) hn hr hsym href h2' (by omega) HSM.out (h3.below hw) (by omega) hqe hvs
  unfold QuoPost at HQ
  show Calls Tryd.prog 73 #[.slice R n c, .slice A m d, .slice B q e0, .slice C k e1] w fun e w' => ∃ (w3 : World) (P0 P1 P2 P3 : Option Addr) (d0 d1 d2 d3 : Nat), e = .returned (.slice (some ⟨w3.heap.size, 0, none⟩) 4 4) ∧ w' = w3.alloc (.cells #[.slice P0 p.length d0, .slice P1 f.length d1, .slice P2 s.length d2, .slice P3 (cmpM (RDep rs) s vs).2.2.length d3] 22) ∧ Below w.heap.size w w3 ∧ Rd w3 P0 p.length (ints p) ∧ Rd w3 P1 f.length (ints f) ∧ Rd w3 P2 s.length (ints s) ∧ Rd w3 P3 (cmpM (RDep rs) s vs).2.2.length (ints (cmpM (RDep rs) s vs).2.2)
  obtain ⟨lp, hlp⟩ : ∃ lp, lp = p.length := ⟨_, rfl⟩
  obtain ⟨lf, hlf⟩ : ∃ lf, lf = f.length := ⟨_, rfl⟩
  obtain ⟨ls, hls⟩ : ∃ ls, ls = s.length := ⟨_, rfl⟩
  obtain ⟨r, hr'⟩ : ∃ r, r = (cmpM (RDep rs) s vs).2.2 := ⟨_, rfl⟩
  obtain ⟨I, hI⟩ : ∃ I, I = (cutM (RDep rs) s vs).isSome := ⟨_, rfl⟩
  rw [← hr', ← hI] at HQ
  rw [← hr', ← hlp, ← hlf, ← hls]
  rw [← hlp, ← hlf, ← hls] at HCM'
  rw [← hls] at HQ
  obtain ⟨lr, hlr⟩ : ∃ lr, lr = r.length := ⟨_, rfl⟩
  rw [← hlr] at HQ ⊢
  clear HCM hQ hcl hlp hlf hls hr' hI hlr h h2 h3 h4 hus hvs hys hr hsym href hsl
  go_enter Tryd.func73, Tryd.ntmps73
  go_wp2_with fail
  refine HCM'.out.mono ?_
  rintro e w1 ⟨A0, c0, A1, c1, A2, c2, rfl, r0, r1, r2, hle, hb1⟩
  have x1 := cbox_new w1 A0 lp c0 A1 lf c1 A2 ls c2
  have hnx := below1 w1 (.cells #[.slice A0 lp c0, .slice A1 lf c1, .slice A2 ls c2] 134)
  have hb2 : Below w.heap.size w (w1.alloc (.cells #[.slice A0 lp c0, .slice A1 lf c1, .slice A2 ls c2] 134)) := hb1.alloc hb1.size _
  have y2 := x1.c2
  have HQ1 := Lib.hid (HQ.out A2 c2 _ hb2 (r2.below hnx))
  go_wp2_with fail
  refine HQ1.out.mono ?_
  rintro e w3 ⟨A3, c3, rfl, r3, hle3, hb3⟩
  have x3 := x1.next hb3
  have z0 := x3.c0
  have z1 := x3.c1
  have z2 := x3.c2
  have hb13 := hnx.trans (hb3.mono hnx.size)
  have HB3 : Hid (Below w.heap.size w w3) := Lib.hid (hb2.trans (hb3.mono hb2.size))
  have q0 := r0.below hb13
  have q1 := r1.below hb13
  have q2 := r2.below hb13
  clear y2 HQ1 HQ HCM'
  go_wp2_with fail
  go_ret
  exact ⟨w3, A0, A1, A2, A3, c0, c1, c2, c3, rfl, rfl, HB3.out, q0, q1, q2, r3⟩
end Go.Proofs.YtkifadmoedackaaDoor
namespace Go.Proofs.YtkifadmoedackaaDoor
open Go Go.RowKit
set_option linter.unusedVariables false
set_option maxRecDepth 100000

theorem flat_take (Ws : List (List Nat)) (k : Nat) (h : k < Ws.length) : (Ws.take (k + 1)).flatten = (Ws.take k).flatten ++ Ws.getD k [] := by
  rw [List.take_add_one, List.getD_eq_getElem?_getD, List.getElem?_eq_getElem h, List.flatten_append]; simp
theorem flat_len (Ws : List (List Nat)) (hm : ∀ k, (Ws.getD k []).length ≤ 24) : ∀ k, k ≤ Ws.length → (Ws.take k).flatten.length ≤ 24 * k
  | 0, _ => by simp
  | k + 1, h => by
    rw [flat_take Ws k (by omega), List.length_append]
    have := flat_len Ws hm k (by omega)
    have := hm k
    omega
set_option maxHeartbeats 3200000 in
theorem concat_any (T : Option Addr) (nT cT : Nat) (ts : List (Option Addr × Nat × Nat × List Int)) (Ws : List (List Nat)) (w : World)
    (hT : RdT w T nT ts) (hnT : nT ≤ 24) (hlW : Ws.length = nT) (hW : ∀ k t, ts[k]? = some t → t.2.2.2 = ints (Ws.getD k [])) (hWm : ∀ k, (Ws.getD k []).length ≤ 24) :
    Calls Tryd.prog 119 #[.slice T nT cT] w (MakesE 2 w Ws.flatten.length (ints Ws.flatten)) := by
  have HLW := Lib.hid hlW
  have HW := Lib.hid hW
  have HFT : Hid (∀ k, k < nT → (Ws.take (k + 1)).flatten = (Ws.take k).flatten ++ Ws.getD k []) := Lib.hid (fun k hk => flat_take Ws k (by rw [hlW]; exact hk))
  have HFL : Hid (∀ k, k ≤ nT → (Ws.take k).flatten.length ≤ 24 * k) := Lib.hid (fun k hk => flat_len Ws hWm k (by rw [hlW]; exact hk))
  have HFA : Hid (Ws.take nT = Ws) := Lib.hid (List.take_of_length_le (by rw [hlW]; exact Nat.le_refl _))
  clear hlW hW hWm
  go_enter Tryd.func119, Tryd.ntmps119
  go_wp2_with fail
  go_loop [3, 11] (fun sv iv => ∃ k S : Nat, k ≤ nT ∧ iv = .int .i64 (k : Int) ∧ sv = .int .i64 (S : Int) ∧ S = (Ws.take k).flatten.length) (fun _ iv => nT - (intOf iv).toNat)
  case atStart => exact ⟨0, 0, Nat.zero_le _, rfl, rfl, rfl⟩
  case round =>
    obtain ⟨k, S, hk, rfl, rfl, hS⟩ := hrel
    have HS := Lib.hid hS
    have HSL : Hid (S ≤ 24 * k) := Lib.hid (by rw [hS]; exact HFL.out k hk)
    clear hS
    by_cases hlt : k < nT
    · obtain ⟨bt, ot, Bk, nk, ck, xk, rfl, hbt, htk, hct, hrk, hmk⟩ := hT.at_ hlt
      have hxk : xk = ints (Ws.getD k []) := HW.out k _ htk
      have hnk : (Ws.getD k []).length = nk := by have := hrk.1; rw [hxk, ints_len] at this; exact this
      have HSN : Hid (S + nk = (Ws.take (k + 1)).flatten.length) := Lib.hid (by rw [HFT.out k hlt, List.length_append, ← HS.out, hnk])
      have hsl := HSL.out
      have hsn : S + nk ≤ 24 * (k + 1) := by rw [HSN.out]; exact HFL.out (k + 1) hlt
      have hw1 : IntKind.i64.wrap ((S : Int) + (nk : Int)) = ((S + nk : Nat) : Int) := by rw [IntWalk.i64_left]; unfold wrap64; omega
      have hge : (0 : Int) ≤ ((S + nk : Nat) : Int) := by omega
      clear hxk hnk
      go_wp2_with fail
      go_round
      case rel => exact ⟨k + 1, S + nk, hlt, by go_num, by simp, HSN.out⟩
      case measure => simp [intOf]; omega
    · have hkm : k = nT := by omega
      subst hkm
      have HSF : Hid (S = Ws.flatten.length) := Lib.hid (by rw [HS.out, HFA.out])
      have HGR := Lib.hid (growNil_any S (by have := HSL.out; omega) w)
      go_wp2_with fail
      refine HGR.out.mono ?_
      rintro e w1 ⟨A0, c0, rfl, o0, hb1⟩
      go_wp2_with fail
      go_loopw [6, 27] (fun av iv wr => ∃ (j N cA : Nat) (A : Option Addr), j ≤ k ∧ av = .slice A N cA ∧ iv = .int .i64 (j : Int) ∧ N = (Ws.take j).flatten.length ∧ Own 2 wr w.heap.size A N cA (ints (Ws.take j).flatten) ∧ Below w.heap.size w wr) (fun _ iv _ => k - (intOf iv).toNat)
      case atStart => exact ⟨0, 0, c0, A0, Nat.zero_le _, rfl, rfl, rfl, o0, hb1⟩
      case round =>
        clear o0 hb1
        obtain ⟨j, N, cA, A, hj, rfl, rfl, hN, ho, hb⟩ := hrel
        have HN := Lib.hid hN
        have HNL : Hid (N ≤ 24 * j) := Lib.hid (by rw [hN]; exact HFL.out j hj)
        clear hN
        by_cases hlt2 : j < k
        · obtain ⟨bt, ot, Bk, nk, ck, xk, rfl, hbt, htk, hct, hrk, hmk⟩ := (hT.below hb).at_ hlt2
          have hxk : xk = ints (Ws.getD j []) := HW.out j _ htk
          subst hxk
          have hnk : (Ws.getD j []).length = nk := by have := hrk.1; rw [ints_len] at this; exact this
          have HSN : Hid (N + nk = (Ws.take (j + 1)).flatten.length) := Lib.hid (by rw [HFT.out j hlt2, List.length_append, ← HN.out, hnk])
          have hsn : N + nk ≤ 24 * (j + 1) := by rw [HSN.out]; exact HFL.out (j + 1) hlt2
          have HFJ := Lib.hid (HFT.out j hlt2)
          have hml : N + nk ≤ maxLen := by unfold maxLen; omega
          have hby : (N + nk) * 8 ≤ 140737488355328 := by omega
          have hbase := hb.size
          obtain ⟨al, hal⟩ : ∃ al, al = (Ws.take j).flatten := ⟨_, rfl⟩
          obtain ⟨v, hv⟩ : ∃ v, v = Ws.getD j [] := ⟨_, rfl⟩
          rw [← hal] at ho HFJ
          rw [← hv] at hrk HFJ
          clear hal hv hnk
          go_wp2_with (at_builtin; refine wpList_append_rd rfl _ _ rfl w.heap.size A N cA al rfl ho Bk nk ck v rfl hrk hml hby hbase ?_; intro A6 c6 w6 o6 hg6; have HB6 : Hid (Below w.heap.size w w6) := Lib.hid (hb.grown hg6 hbase (fun k e9 => (ho.lt k (ownBlock_map' e9)).1)); rw [← HFJ.out] at o6)
          go_wp2_with fail
          go_roundw
          case rel => exact ⟨j + 1, N + nk, c6, A6, hlt2, rfl, by go_num, HSN.out, o6, HB6.out⟩
          case measure => simp [intOf]; omega
        · have hjk : j = k := by omega
          subst hjk
          have HE : Hid (N = Ws.flatten.length) := Lib.hid (by rw [HN.out, HFA.out])
          rw [HFA.out] at ho
          go_wp2_with fail
          go_ret
          rw [← HE.out]
          exact ⟨A, cA, rfl, ho, hb⟩
def coF (rs us ts : List Nat) : List Nat × Int := if 24 < us.length + ts.length then ([], 3) else (nfR rs (us ++ ts), 0)
theorem coF_long (rs us ts : List Nat) (h : 24 < us.length + ts.length) : coF rs us ts = ([], 3) := if_pos h
theorem coF_yes (rs us ts : List Nat) (h : us.length + ts.length ≤ 24) : coF rs us ts = (nfR rs (us ++ ts), 0) := if_neg (by omega)
theorem coF_small (L : Int) (xs us ts : List Int) : (dL coF L xs us ts).1.length ≤ 24 := dL_small coF 24 (fun rs us ts _ _ => by
  rcases Nat.lt_or_ge 24 (us.length + ts.length) with h | h
  · rw [coF_long _ _ _ h]; exact Nat.zero_le _
  · rw [coF_yes _ _ _ h]; exact Nat.le_trans (nfR_len rs _) (by rw [List.length_append]; exact h)) L xs us ts
set_option maxHeartbeats 1600000 in
theorem product_two (A2 A1 B1 T : Option Addr) (n c2 m d q f cT : Nat) (rs vs ys : List Nat) (w : World) (hrd : Rd w A2 n (ints rs)) (h24 : n ≤ 24) (hl : rs.length = n) (hr : ∀ i, rs.getD i 0 < 2 ^ n) (hdep : Dep rs)
    (h2 : Rd w A1 m (ints vs)) (hm : m ≤ 24) (h3 : Rd w B1 q (ints ys)) (hq : q ≤ 24) (hvn : ∀ x, x ∈ vs → x < n) (hyn : ∀ x, x ∈ ys → x < n) (hRT : RdT w T 2 [(A1, m, d, ints vs), (B1, q, f, ints ys)]) (hT : Tab w) :
    Calls Tryd.prog 71 #[.slice A2 n c2, .slice T 2 cT] w (LsPost w (ints (coF rs vs ys).1).length (ints (coF rs vs ys).1) (coF rs vs ys).2) := by
  have HLU : Hid (vs.length = m) := Lib.hid (by have := h2.1; rw [ints_len] at this; exact this)
  have HLV : Hid (ys.length = q) := Lib.hid (by have := h3.1; rw [ints_len] at this; exact this)
  have HLR := Lib.hid hl
  have HR := Lib.hid hr
  have HDEP := Lib.hid hdep
  have HR63 : Hid (∀ i, rs.getD i 0 < 9223372036854775808) := Lib.hid fun i => lt63 h24 (hr i)
  have HCO := Lib.hid (concat_any T 2 cT _ [vs, ys] w hRT (by omega) rfl (fun k t hk => by
    match k, hk with
    | 0, hk => injection hk with hk; subst hk; rfl
    | 1, hk => injection hk with hk; subst hk; rfl
    | k + 2, hk => simp at hk) (fun k => by
    match k with
    | 0 => show vs.length ≤ 24; have := HLU.out; omega
    | 1 => show ys.length ≤ 24; have := HLV.out; omega
    | k + 2 => simp))
  rw [show [vs, ys].flatten = vs ++ ys by simp] at HCO
  have hlen : (vs ++ ys).length = m + q := by rw [List.length_append, HLU.out, HLV.out]
  have HWM : Hid (∀ x, x ∈ vs ++ ys → x < n) := Lib.hid (fun x hx => by
    rcases List.mem_append.1 hx with h1 | h1
    · exact hvn x h1
    · exact hyn x h1)
  obtain ⟨W, hW⟩ : ∃ W, W = vs ++ ys := ⟨_, rfl⟩
  rw [← hW] at HCO hlen HWM
  obtain ⟨k, hk⟩ : ∃ k, k = W.length := ⟨_, rfl⟩
  rw [← hk] at HCO hlen
  have HLK : Hid (W.length = k) := Lib.hid hk.symm
  have HRK : Hid (∀ x, x < k → W.getD x 0 < n) := Lib.hid fun x hx => in_getD HWM.out x (by rw [HLK.out]; exact hx)
  by_cases hlong : 24 < k
  · have HA := Lib.hid (coF_long rs vs ys (by rw [HLU.out, HLV.out]; omega))
    have hI : (24 : Int) < (k : Int) := by omega
    clear hk hlen hW hlong hl hr
    go_enter Tryd.func71, Tryd.ntmps71
    go_wp2_with fail
    refine HCO.out.mono ?_
    rintro e w1 ⟨A3, c3, rfl, o3, hb⟩
    go_wp2_with fail
    go_ret2
    rw [HA.out]
    exact LsPost.of_ans (ans_no 3 hb)
  · have HA : Hid (coF rs vs ys = (nfR rs W, 0)) := Lib.hid (by rw [hW]; exact coF_yes rs vs ys (by rw [HLU.out, HLV.out]; omega))
    have hk24 : k ≤ 24 := by omega
    have hI : (k : Int) ≤ 24 := by omega
    clear hk hlen hW hlong hl hr
    go_enter Tryd.func71, Tryd.ntmps71
    go_wp2_with fail
    refine HCO.out.mono ?_
    rintro e w1 ⟨A3, c3, rfl, o3, hb⟩
    have hrd1 := hrd.below hb
    have hW1 := o3.rd
    have hT1 := hT.below hb
    have HT1 := Lib.hid (traceOf_any A2 A3 n k c2 c3 rs W _ hrd1 hW1 hk24 h24 HRK.out HR63.out hT1)
    go_wp2_with fail
    refine HT1.out.mono ?_
    rintro e v1 ⟨E1, g1, F1, k1, es1, rfl, hp, hs, h1, h2, -, -, ha1⟩
    have HN1 := Lib.hid (nf_from E1 F1 g1 k1 k n rs W es1 v1 HLR.out HR.out HDEP.out HLK.out HRK.out hk24 hp hs h1 h2 ((hT1).below ha1))
    clear hp hs h1 h2
    go_wp2_with fail
    refine HN1.out.mono ?_
    rintro e u1 ⟨G1, l1, rfl, ho1, hb1⟩
    go_wp2_with fail
    go_ret2
    rw [HA.out]
    have HZ := hb.trans (ha1.mono hb.size)
    exact LsPost.of_ans (ans_yes ho1.len (ho1.mono HZ.size) (HZ.trans (hb1.mono HZ.size)))
end Go.Proofs.YtkifadmoedackaaDoor
namespace Go.Proofs.YtkifadmoedackaaDoor
open Go Go.RowKit
set_option linter.unusedVariables false
set_option maxRecDepth 100000

theorem lssP_no {w w1 : World} {C : Int} (hb : Below w.heap.size w w1) : LssPost w 0 [] C (.returned (.tuple #[.slice none 0 0, .int .i64 C])) w1 := ⟨none, 0, rfl, OwnSS.nil _ _, hb⟩
def w4B (L : Int) (us vs ys zs : List Int) : Bool := (wordB L us && wordB L vs) && (wordB L ys && wordB L zs)
def leF (rs us vs ys zs : List Nat) : List (List Int) × Int :=
  if 24 < us.length + vs.length ∨ 24 < ys.length + zs.length then ([], 3)
  else if nfR rs (us ++ vs) = nfR rs (ys ++ zs) then ((levM (RDep rs) us vs ys).map fun t => ints (nfR rs t), 0) else ([], 5)
theorem leF_long (rs us vs ys zs : List Nat) (h : 24 < us.length + vs.length ∨ 24 < ys.length + zs.length) : leF rs us vs ys zs = ([], 3) := if_pos h
theorem leF_ne (rs us vs ys zs : List Nat) (h : us.length + vs.length ≤ 24) (h2 : ys.length + zs.length ≤ 24) (h3 : nfR rs (us ++ vs) ≠ nfR rs (ys ++ zs)) : leF rs us vs ys zs = ([], 5) := by
  unfold leF; rw [if_neg (by omega), if_neg h3]
theorem leF_yes (rs us vs ys zs : List Nat) (h : us.length + vs.length ≤ 24) (h2 : ys.length + zs.length ≤ 24) (h3 : nfR rs (us ++ vs) = nfR rs (ys ++ zs)) : leF rs us vs ys zs = ((levM (RDep rs) us vs ys).map fun t => ints (nfR rs t), 0) := by
  unfold leF; rw [if_neg (by omega), if_pos h3]
def leAns (L : Int) (xs us vs ys zs : List Int) : List (List Int) × Int := if alphB L xs = true then (if w4B L us vs ys zs = true then leF (xs.map Int.toNat) (us.map Int.toNat) (vs.map Int.toNat) (ys.map Int.toNat) (zs.map Int.toNat) else ([], 2)) else ([], 1)
theorem leAns_no (L : Int) (xs us vs ys zs : List Int) (h : alphB L xs = false) : leAns L xs us vs ys zs = ([], 1) := by unfold leAns; rw [if_neg (by rw [h]; decide)]
theorem leAns_bad (L : Int) (xs us vs ys zs : List Int) (h : alphB L xs = true) (h2 : w4B L us vs ys zs = false) : leAns L xs us vs ys zs = ([], 2) := by unfold leAns; rw [if_pos h, if_neg (by rw [h2]; decide)]
theorem leAns_yes (L : Int) (rs us vs ys zs : List Nat) (h : alphB L (ints rs) = true) (h2 : w4B L (ints us) (ints vs) (ints ys) (ints zs) = true) : leAns L (ints rs) (ints us) (ints vs) (ints ys) (ints zs) = leF rs us vs ys zs := by
  unfold leAns; rw [if_pos h, if_pos h2, ints_toNat, ints_toNat, ints_toNat, ints_toNat, ints_toNat]
theorem levM_len (D : Nat → Nat → Bool) (us vs ys : List Nat) (hu : us.length ≤ 24) (hv : vs.length ≤ 24) (hy : ys.length ≤ 24) : ∀ t, t ∈ levM D us vs ys → t.length ≤ 24 ∧ ∀ x, x ∈ t → x ∈ us ∨ x ∈ vs ∨ x ∈ ys := by
  have h1 := cmp_len D us ys
  have h2 := cmp_len D (cmpM D us ys).2.2 vs
  have h3 := (cmp_parts D us [] [] ys).1
  have h4 : (cmpM D us ys).1.length + (cmpM D us ys).2.1.length = us.length := by unfold cmpM; simpa using h3
  intro t ht
  unfold levM at ht
  simp only [List.mem_cons, List.mem_nil_iff, or_false] at ht
  rcases ht with rfl | rfl | rfl | rfl
  · exact ⟨by omega, fun x hx => .inl (h1.2.2.1 x hx)⟩
  · exact ⟨by omega, fun x hx => .inl (h1.2.2.2.1 x hx)⟩
  · exact ⟨by omega, fun x hx => .inr (.inr (h1.2.2.2.2 x hx))⟩
  · exact ⟨by omega, fun x hx => .inr (.inl (h2.2.2.2.2 x hx))⟩
theorem rdT_four (w : World) (A B C D : Option Addr) (n c m d k e l f : Nat) (xs ys zs vs : List Int) (T : TypeId) (h : Rd w A n xs) (hn : n ≤ maxLen) (h2 : Rd w B m ys) (hm : m ≤ maxLen) (h3 : Rd w C k zs) (hk : k ≤ maxLen) (h4 : Rd w D l vs) (hl : l ≤ maxLen) :
    RdT (w.alloc (.cells #[.slice A n c, .slice B m d, .slice C k e, .slice D l f] T)) (some ⟨w.heap.size, 0, none⟩) 4 [(A, n, c, xs), (B, m, d, ys), (C, k, e, zs), (D, l, f, vs)] := by
  refine ⟨rfl, fun t ht => ?_, fun _ => ⟨w.heap.size, 0, rfl, by simp, fun j t hj => ?_⟩⟩
  · simp at ht
    rcases ht with rfl | rfl | rfl | rfl
    · exact ⟨h.below (below1 w _), hn⟩
    · exact ⟨h2.below (below1 w _), hm⟩
    · exact ⟨h3.below (below1 w _), hk⟩
    · exact ⟨h4.below (below1 w _), hl⟩
  · have e := heap_alloc_new w (.cells #[.slice A n c, .slice B m d, .slice C k e, .slice D l f] T)
    match j, hj with
    | 0, hj => simp at hj; subst hj; unfold World.cell?; simp only [Nat.zero_add]; rw [e]; rfl
    | 1, hj => simp at hj; subst hj; unfold World.cell?; simp only [Nat.zero_add]; rw [e]; rfl
    | 2, hj => simp at hj; subst hj; unfold World.cell?; simp only [Nat.zero_add]; rw [e]; rfl
    | 3, hj => simp at hj; subst hj; unfold World.cell?; simp only [Nat.zero_add]; rw [e]; rfl
    | j + 4, hj => simp at hj
theorem rdT_box4 (w : World) (o : Obj) (A B C D : Option Addr) (n c m d k e l f : Nat) (xs ys zs vs : List Int) (T : TypeId) (h : Rd w A n xs) (hn : n ≤ maxLen) (h2 : Rd w B m ys) (hm : m ≤ maxLen) (h3 : Rd w C k zs) (hk : k ≤ maxLen) (h4 : Rd w D l vs) (hl : l ≤ maxLen) :
    RdT ((w.alloc o).alloc (.cells #[.slice A n c, .slice B m d, .slice C k e, .slice D l f] T)) (some ⟨w.heap.size + 1, 0, none⟩) 4 [(A, n, c, xs), (B, m, d, ys), (C, k, e, zs), (D, l, f, vs)] := by
  have := rdT_four (w.alloc o) A B C D n c m d k e l f xs ys zs vs T (h.below (below1 w o)) hn (h2.below (below1 w o)) hm (h3.below (below1 w o)) hk (h4.below (below1 w o)) hl
  rw [size1'] at this; exact this
theorem okT_four (L : Int) (t1 t2 t3 t4 : Option Addr × Nat × Nat × List Int) : okT L [t1, t2, t3, t4] = w4B L t1.2.2.2 t2.2.2.2 t3.2.2.2 t4.2.2.2 := by simp [okT, w4B, Bool.and_assoc]
/-- A row: the first k places turned, the others as they were. -/
def valO (t : Option Addr × Nat × Nat × List Nat) : Value := .slice t.1 t.2.1 t.2.2.1
theorem row_set {α : Type} (l r : List α) (x v : α) : (l ++ x :: r).set l.length v = l ++ [v] ++ r := by
  rw [List.set_append_right _ _ (Nat.le_refl _), Nat.sub_self]; simp
structure LSt (w : World) (w3 : World) (O : List (Option Addr × Nat × Nat × List Nat)) (N : List (Option Addr × Nat × List Int)) : Prop where
  row : w.heap[w3.heap.size]? = some (.cells (valsT N ++ (O.map valO).drop N.length).toArray 22 (0, 0))
  below : Below w3.heap.size w3 w
  news : ∀ (j : Nat) (t : Option Addr × Nat × List Int), N[j]? = some t → Own 2 w (w3.heap.size + 1) t.1 t.2.2.length t.2.1 t.2.2
  apart : ∀ (j l : Nat) (t u : Option Addr × Nat × List Int), l ≠ j → N[j]? = some t → N[l]? = some u → ∀ q, t.1.map (·.block) = some q → u.1.map (·.block) ≠ some q
theorem LSt.cell {w w3 : World} {O : List (Option Addr × Nat × Nat × List Nat)} {N : List (Option Addr × Nat × List Int)} (h : LSt w w3 O N) {t : Option Addr × Nat × Nat × List Nat} (ht : O[N.length]? = some t) : w.cell? ⟨w3.heap.size, N.length, none⟩ = some (valO t) := by
  have hr := h.row
  unfold World.cell?
  rw [hr]
  have hl : (valsT N).length = N.length := by simp [valsT]
  show (valsT N ++ (O.map valO).drop N.length).toArray[N.length]? = _
  rw [List.getElem?_toArray, List.getElem?_append_right (by omega), hl, Nat.sub_self, List.getElem?_drop, Nat.add_zero, List.getElem?_map, ht]; rfl
theorem LSt.fr {w w3 : World} {O : List (Option Addr × Nat × Nat × List Nat)} {N : List (Option Addr × Nat × List Int)} (h : LSt w w3 O N) (k : Nat) : w.frozen? ⟨w3.heap.size, k, none⟩ = false := by
  have hr := h.row
  simp [World.frozen?, hr]
theorem LSt.lt {w w3 : World} {O : List (Option Addr × Nat × Nat × List Nat)} {N : List (Option Addr × Nat × List Int)} (h : LSt w w3 O N) : w3.heap.size < w.heap.size := (Array.getElem?_eq_some_iff.1 h.row).1
theorem LSt.next {w w' w3 : World} {O : List (Option Addr × Nat × Nat × List Nat)} {N : List (Option Addr × Nat × List Int)} (h : LSt w w3 O N) (hb : Below w.heap.size w w') : LSt w' w3 O N :=
  ⟨(hb.block _ h.lt).trans h.row, h.below.trans (hb.mono (Nat.le_of_lt h.lt)), fun j t ht => (h.news j t ht).below hb, h.apart⟩
theorem LSt.put {w w' w3 : World} {O : List (Option Addr × Nat × Nat × List Nat)} {N : List (Option Addr × Nat × List Int)} (h : LSt w w3 O N) (hb : Below w.heap.size w w') {G : Option Addr} {k l : Nat} {zs : List Int} (ho : Own 2 w' w.heap.size G k l zs) (hk : N.length < O.length) :
    LSt (w'.setCell ⟨w3.heap.size, N.length, none⟩ (.slice G k l)) w3 O (N ++ [(G, l, zs)]) := by
  have h' := h.next hb
  have hlt := h.lt
  have hG : ∀ q, G.map (·.block) = some q → q ≠ w3.heap.size := fun q hq => by have := (ho.lt q hq).1; omega
  have hlen : zs.length = k := ho.len
  have hl : (valsT N).length = N.length := by simp [valsT]
  obtain ⟨t, ht⟩ : ∃ t, O[N.length]? = some t := ⟨_, List.getElem?_eq_getElem hk⟩
  have hdrop : (O.map valO).drop N.length = valO t :: (O.map valO).drop (N.length + 1) := by
    have h9 : N.length < (O.map valO).length := by simpa using hk
    rw [List.drop_eq_getElem_cons h9]
    congr 1
    rw [List.getElem_map]
    rw [List.getElem?_eq_getElem hk] at ht
    injection ht with ht
    rw [ht]
  have hn9 : ∀ (j : Nat) (u : Option Addr × Nat × List Int), (N ++ [(G, l, zs)])[j]? = some u → (j < N.length ∧ N[j]? = some u) ∨ (j = N.length ∧ u = (G, l, zs)) := fun j u hu => by
    rcases Nat.lt_or_ge j N.length with h1 | h1
    · rw [List.getElem?_append_left h1] at hu; exact .inl ⟨h1, hu⟩
    · rw [List.getElem?_append_right h1] at hu
      have hj : j - N.length = 0 := by
        rcases Nat.eq_zero_or_pos (j - N.length) with h2 | h2
        · exact h2
        · rw [List.getElem?_eq_none (by simp; omega)] at hu; cases hu
      rw [hj] at hu
      simp at hu
      exact .inr ⟨by omega, hu.symm⟩
  refine ⟨?_, ?_, fun j u hu => ?_, fun j i t1 u1 hne h1 h2 q hq e => ?_⟩
  · rw [heap_put h'.row]
    congr 2
    rw [hdrop, List.setIfInBounds_toArray]
    congr 1
    have e9 : (N ++ [(G, l, zs)]).length = N.length + 1 := by simp
    have e8 : valsT (N ++ [(G, l, zs)]) = valsT N ++ [.slice G k l] := by unfold valsT; rw [List.map_append]; simp [hlen]
    rw [e9, e8, ← row_set (valsT N) _ (valO t) (.slice G k l), hl]
  · exact h'.below.setCell (p := ⟨w3.heap.size, N.length, none⟩) (Nat.le_refl _) _
  · rcases hn9 j u hu with ⟨_, h1⟩ | ⟨_, rfl⟩
    · exact own_other (h'.news j u h1) _ _ _ (fun q hq => by have := ((h'.news j u h1).lt q hq).1; omega)
    · show Own 2 _ _ G zs.length l zs
      rw [hlen]
      exact own_other (ho.mono (by omega)) _ _ _ hG
  · rcases hn9 j t1 h1 with ⟨g1, g2⟩ | ⟨g1, rfl⟩
    · rcases hn9 i u1 h2 with ⟨g3, g4⟩ | ⟨g3, rfl⟩
      · exact h.apart j i t1 u1 hne g2 g4 q hq e
      · have := (ho.lt q e).1; have := ((h.news j t1 g2).lt q hq).2; omega
    · rcases hn9 i u1 h2 with ⟨g3, g4⟩ | ⟨g3, rfl⟩
      · have := (ho.lt q hq).1; have := ((h.news i u1 g4).lt q e).2; omega
      · omega
theorem LSt.done {w w3 w0 : World} {O : List (Option Addr × Nat × Nat × List Nat)} {N : List (Option Addr × Nat × List Int)} (h : LSt w w3 O N) (h4 : N.length = 4) (hO : O.length = 4) (hw : w0.heap.size ≤ w3.heap.size) : OwnSS w w0.heap.size w.heap.size (some ⟨w3.heap.size, 0, none⟩) 4 4 (N.map fun t => t.2.2) := by
  have hd : (O.map valO).drop N.length = [] := List.drop_eq_nil_of_le (by simp; omega)
  have hr := h.row
  rw [hd, List.append_nil] at hr
  have hvl : (valsT N).length = 4 := by simp [valsT, h4]
  refine ⟨N, rfl, h4, ⟨by rw [hvl], .inr ⟨w3.heap.size, 4, _, rfl, hw, hr, Nat.le_refl _, by unfold maxLen; omega, by simp [hvl], List.take_of_length_le (by simp [hvl])⟩⟩, fun q hq => ?_, fun j t ht => ⟨(h.news j t ht).mono (by omega), fun q hq => ⟨((h.news j t ht).lt q hq).2, fun e => ?_, fun l u hne hu => h.apart j l t u hne ht hu q hq⟩⟩⟩
  · injection hq with hq
    have h9 : w3.heap.size = q := hq
    rw [← h9]; exact h.lt
  · injection e with e
    have h9 : w3.heap.size = q := e
    have := ((h.news j t ht).lt q hq).1; omega
end Go.Proofs.YtkifadmoedackaaDoor
namespace Go.Proofs.YtkifadmoedackaaDoor
open Go Go.RowKit
set_option linter.unusedVariables false
set_option maxRecDepth 100000

set_option maxHeartbeats 12800000 in
theorem implLeviOf (L : Int) (A : Option Addr) (n c : Nat) (xs : List Int) (AU : Option Addr) (mU dU : Nat) (us : List Int) (AV : Option Addr) (mV dV : Nat) (vs : List Int) (AY : Option Addr) (mY dY : Nat) (ys : List Int) (AZ : Option Addr) (mZ dZ : Nat) (zs : List Int) (w : World) (h : Rd w A n xs) (hwf : Wf xs) (hL1 : -9223372036854775808 ≤ L) (hL2 : L ≤ 9223372036854775807) (hn : n ≤ maxLen) (hU : Rd w AU mU us) (hwfU : Wf us) (hmU : mU ≤ maxLen) (hV : Rd w AV mV vs) (hwfV : Wf vs) (hmV : mV ≤ maxLen) (hY : Rd w AY mY ys) (hwfY : Wf ys) (hmY : mY ≤ maxLen) (hZ : Rd w AZ mZ zs) (hwfZ : Wf zs) (hmZ : mZ ≤ maxLen) (hcU : mU ≤ dU) (hcV : mV ≤ dV) (hcY : mY ≤ dY) (hcZ : mZ ≤ dZ) (hT : Tab w) :
    Calls Tryd.prog 30 #[.agg #[.int .i64 L, .slice A n c], .slice AU mU dU, .slice AV mV dV, .slice AY mY dY, .slice AZ mZ dZ] w (LssPost w (leAns L xs us vs ys zs).1.length (leAns L xs us vs ys zs).1 (leAns L xs us vs ys zs).2) := by
  have hn2 : n ≤ 9223372036854775807 := by unfold maxLen at hn; omega
  have hn1 := h.1
  have hU1 := hU.1
  have hV1 := hV.1
  have hY1 := hY.1
  have hZ1 := hZ.1
  have HB := Lib.hid (below2 w (.cells #[.int .i64 L, .slice A n c] 28) (.cells #[.slice AU mU dU, .slice AV mV dV, .slice AY mY dY, .slice AZ mZ dZ] 22))
  have hh := h.below HB.out
  have ht := rdT_box4 w (.cells #[.int .i64 L, .slice A n c] 28) AU AV AY AZ mU dU mV dV mY dY mZ dZ us vs ys zs 22 hU hmU hV hmV hY hmY hZ hmZ
  have kU := hU.below HB.out
  have kV := hV.below HB.out
  have kY := hY.below HB.out
  have kZ := hZ.below HB.out
  have hT1 := hT.below HB.out
  cases ha : alphB L xs
  · rw [show leAns L xs us vs ys zs = _ from leAns_no L xs us vs ys zs ha]
    have HA := Lib.hid ha
    clear ha ht hn1
    go_enter Tryd.func30, Tryd.ntmps30
    go_wp2_with fail
    refine (dependenceWith_no L _ _ _ _ _ _ xs [] _ hh hwf hL1 hL2 hn2 HA.out hT1).mono ?_
    rintro e w1 ⟨rfl, hb⟩
    go_wp2_with fail
    go_ret2
    exact lssP_no (HB.out.trans (hb.mono HB.out.size))
  · cases hu : w4B L us vs ys zs
    · rw [show leAns L xs us vs ys zs = _ from leAns_bad L xs us vs ys zs ha hu]
      obtain ⟨rs, rfl, rfl, h8, hr, hrel, hl, hd, _⟩ := alphB_nats L xs n hn1 ha
      have HU := Lib.hid hu
      clear ha hu
      go_enter Tryd.func30, Tryd.ntmps30
      go_wp2_with fail
      refine (dependenceWith_any _ _ _ _ _ _ rs _ _ hh hwf h8 hr hrel hd ht (by omega) hT1).mono ?_
      rw [okT_four, HU.out]
      rintro e w1 (⟨hok, _⟩ | ⟨hok, rfl, hb⟩)
      · cases hok
      go_wp2_with fail
      go_ret2
      exact lssP_no (HB.out.trans (hb.mono HB.out.size))
    · obtain ⟨rs, rfl, rfl, h8, hr, hrel, hl, hd, _⟩ := alphB_nats L xs n hn1 ha
      have hu' := hu
      unfold w4B at hu'
      rw [Bool.and_eq_true, Bool.and_eq_true, Bool.and_eq_true] at hu'
      obtain ⟨uN, rfl, hu24, hun⟩ := wordB_nats n us hu'.1.1
      obtain ⟨vN, rfl, hv24, hvn⟩ := wordB_nats n vs hu'.1.2
      obtain ⟨yN, rfl, hy24, hyn⟩ := wordB_nats n ys hu'.2.1
      obtain ⟨zN, rfl, hz24, hzn⟩ := wordB_nats n zs hu'.2.2
      rw [show leAns (n : Int) (ints rs) (ints uN) (ints vN) (ints yN) (ints zN) = _ from leAns_yes (n : Int) rs uN vN yN zN ha hu]
      have HU := Lib.hid hu
      have HDEP := Lib.hid ((depB_iff rs n hl hr).1 hd)
      rw [ints_len] at hU1 hV1 hY1 hZ1
      have HLU := Lib.hid hU1
      have HLV := Lib.hid hV1
      have HLY := Lib.hid hY1
      have HLZ := Lib.hid hZ1
      have HLR := Lib.hid hl
      have HR := Lib.hid hr
      have HUM := Lib.hid hun
      have HVM := Lib.hid hvn
      have HYM := Lib.hid hyn
      have HZM := Lib.hid hzn
      have HSY : Hid (∀ a b, RDep rs a b = RDep rs b a) := Lib.hid (rdep_sym rs n hl hr HDEP.out)
      have HRE : Hid (∀ a, a < n → RDep rs a a = true) := Lib.hid fun a ha9 => HDEP.out.1 a (by rw [HLR.out]; exact ha9)
      have HR63 : Hid (∀ i, rs.getD i 0 < 9223372036854775808) := Lib.hid fun i => lt63 (by omega) (hr i)
      have mU24 : mU ≤ 24 := by omega
      have mV24 : mV ≤ 24 := by omega
      have mY24 : mY ≤ 24 := by omega
      have mZ24 : mZ ≤ 24 := by omega
      have h24 : n ≤ 24 := by omega
      have HLEV : Hid (∀ t, t ∈ levM (RDep rs) uN vN yN → t.length ≤ 24 ∧ ∀ x, x ∈ t → x < n) := Lib.hid (fun t ht9 => by
        obtain ⟨g1, g2⟩ := levM_len (RDep rs) uN vN yN hu24 hv24 hy24 t ht9
        exact ⟨g1, fun x hx => (g2 x hx).elim (hun x) (fun g => g.elim (hvn x) (hyn x))⟩)
      clear ha hu hu' hl hU1 hV1 hY1 hZ1
      go_enter Tryd.func30, Tryd.ntmps30
      go_wp2_with fail
      refine (dependenceWith_any _ _ _ _ _ _ rs _ _ hh hwf h8 hr hrel hd ht (by omega) hT1).mono ?_
      rw [okT_four, HU.out]
      rintro e w1 (⟨hok, A2, c2, rfl, ho, hb⟩ | ⟨hok, _⟩)
      rotate_left
      · cases hok
      have HB1 := Lib.hid (HB.out.trans (hb.mono HB.out.size))
      have jU := kU.below hb
      have jV := kV.below hb
      have jY := kY.below hb
      have jZ := kZ.below hb
      have hrd := ho.rd
      have hT2 := hT1.below hb
      clear ho hb hok ht hh kU kV kY kZ hT1 hT h hU hV hY hZ hr hd hrel hun hvn hyn hzn
      have hnx := below1 w1 (.cells #[.slice AU mU dU, .slice AV mV dV] 22)
      have HP1 := Lib.hid (product_two A2 AU AV _ n c2 mU dU mV dV 2 rs uN vN _ (hrd.below hnx) h24 HLR.out HR.out HDEP.out (jU.below hnx) mU24 (jV.below hnx) mV24 HUM.out HVM.out (rdT_two w1 AU AV mU dU mV dV (ints uN) (ints vN) 22 jU (by omega) jV (by omega)) (hT2.below hnx))
      go_wp2_with fail
      refine HP1.out.mono ?_
      rintro e w2 ⟨P1, p1, rfl, oP1, hb2⟩
      have hb12 := hnx.trans (hb2.mono hnx.size)
      have HB2 := Lib.hid (HB1.out.trans (hb12.mono HB1.out.size))
      have iU := jU.below hb12
      have iV := jV.below hb12
      have iY := jY.below hb12
      have iZ := jZ.below hb12
      have hrd2 := hrd.below hb12
      have hT3 := hT2.below hb12
      have oP1r := oP1.rd
      clear hnx hb2 hb12 HP1 jU jV jY jZ hrd hT2 oP1
      have hnx := below1 w2 (.cells #[.slice AY mY dY, .slice AZ mZ dZ] 22)
      have HP2 := Lib.hid (product_two A2 AY AZ _ n c2 mY dY mZ dZ 2 rs yN zN _ (hrd2.below hnx) h24 HLR.out HR.out HDEP.out (iY.below hnx) mY24 (iZ.below hnx) mZ24 HYM.out HZM.out (rdT_two w2 AY AZ mY dY mZ dZ (ints yN) (ints zN) 22 iY (by omega) iZ (by omega)) (hT3.below hnx))
      go_wp2_with fail
      refine HP2.out.mono ?_
      rintro e w3 ⟨P2, p2, rfl, oP2, hb3⟩
      have hb13 := hnx.trans (hb3.mono hnx.size)
      have HB3 := Lib.hid (HB2.out.trans (hb13.mono HB2.out.size))
      have lU := iU.below hb13
      have lV := iV.below hb13
      have lY := iY.below hb13
      have hrd3 := hrd2.below hb13
      have hT4 := hT3.below hb13
      have q1 := oP1r.below hb13
      have q2 := oP2.rd
      clear hnx hb3 hb13 HP2 iU iV iY iZ hrd2 hT3 oP1r oP2
      by_cases hl1 : 24 < mU + mV
      · have HA := Lib.hid (leF_long rs uN vN yN zN (.inl (by rw [HLU.out, HLV.out]; exact hl1)))
        have e1 : coF rs uN vN = ([], 3) := coF_long rs uN vN (by rw [HLU.out, HLV.out]; exact hl1)
        rw [e1]
        clear e1 q1 q2 hl1
        go_wp2_with fail
        go_ret2
        rw [HA.out]
        exact lssP_no HB3.out
      · have e1 : coF rs uN vN = (nfR rs (uN ++ vN), 0) := coF_yes rs uN vN (by rw [HLU.out, HLV.out]; omega)
        rw [e1] at q1 ⊢
        clear e1
        by_cases hl2 : 24 < mY + mZ
        · have HA := Lib.hid (leF_long rs uN vN yN zN (.inr (by rw [HLY.out, HLZ.out]; exact hl2)))
          have e2 : coF rs yN zN = ([], 3) := coF_long rs yN zN (by rw [HLY.out, HLZ.out]; exact hl2)
          rw [e2]
          clear e2 q1 q2 hl1 hl2
          go_wp2_with fail
          go_ret2
          rw [HA.out]
          exact lssP_no HB3.out
        · have e2 : coF rs yN zN = (nfR rs (yN ++ zN), 0) := coF_yes rs yN zN (by rw [HLY.out, HLZ.out]; omega)
          rw [e2] at q2 ⊢
          clear e2
          have hw1 : (nfR rs (uN ++ vN)).length ≤ 24 := Nat.le_trans (nfR_len rs _) (by rw [List.length_append, HLU.out, HLV.out]; omega)
          have HEQ := Lib.hid (equal64_two P1 P2 (ints (nfR rs (uN ++ vN))).length (ints (nfR rs (yN ++ zN))).length p1 p2 _ _ w3 q1 q2 (by rw [ints_len]; omega))
          have HE : Hid (decide (ints (nfR rs (uN ++ vN)) = ints (nfR rs (yN ++ zN))) = decide (nfR rs (uN ++ vN) = nfR rs (yN ++ zN))) := Lib.hid (by rw [decide_eq_decide]; exact ints_inj _ _)
          rw [HE.out] at HEQ
          clear HE q1 q2
          by_cases heq : nfR rs (uN ++ vN) = nfR rs (yN ++ zN)
          · have HA := Lib.hid (leF_yes rs uN vN yN zN (by rw [HLU.out, HLV.out]; omega) (by rw [HLY.out, HLZ.out]; omega) heq)
            rw [decide_eq_true heq] at HEQ
            clear heq
            go_wp2_with fail
            refine HEQ.out.mono ?_
            rintro e w4 ⟨rfl, hb4⟩
            have HLE := Lib.hid (levi_any A2 AU AV AY n c2 mU dU mV dV mY dY rs uN vN yN w4 (hrd3.below hb4) h24 HR.out HSY.out HRE.out (lU.below hb4) mU24 HUM.out (lV.below hb4) mV24 hcV HVM.out (lY.below hb4) mY24 hcY HYM.out)
            have HB4 := Lib.hid (HB3.out.trans (hb4.mono HB3.out.size))
            have hrd4 := hrd3.below hb4
            have hT5 := hT4.below hb4
            unfold LevPost at HLE
            obtain ⟨LV, hLV⟩ : ∃ LV, LV = levM (RDep rs) uN vN yN := ⟨_, rfl⟩
            rw [← hLV] at HLE HLEV HA
            have HL4 : Hid (LV.length = 4) := Lib.hid (by rw [hLV]; rfl)
            clear hLV hb4 hrd3 hT4 lU lV lY
            go_wp2_with fail
            refine HLE.out.mono ?_
            rintro e w5 ⟨w6, P0, P1', P2', P3, d0, d1, d2, d3, rfl, rfl, hb6, r0, r1, r2, r3⟩
            have HB6 := Lib.hid (HB4.out.trans (hb6.mono HB4.out.size))
            have hrd6 := hrd4.below hb6
            have hT6 := hT5.below hb6
            obtain ⟨O, hO⟩ : ∃ O : List (Option Addr × Nat × Nat × List Nat), O = [(P0, (LV.getD 0 []).length, d0, LV.getD 0 []), (P1', (LV.getD 1 []).length, d1, LV.getD 1 []), (P2', (LV.getD 2 []).length, d2, LV.getD 2 []), (P3, (LV.getD 3 []).length, d3, LV.getD 3 [])] := ⟨_, rfl⟩
            have HO4 : Hid (O.length = 4) := Lib.hid (by rw [hO]; rfl)
            have HOK : Hid (∀ k, k < 4 → ∃ (P : Option Addr) (d : Nat), O[k]? = some (P, (LV.getD k []).length, d, LV.getD k []) ∧ Rd w6 P (LV.getD k []).length (ints (LV.getD k []))) := Lib.hid (by
              intro k hk
              match k, hk with
              | 0, _ => exact ⟨P0, d0, by rw [hO]; rfl, r0⟩
              | 1, _ => exact ⟨P1', d1, by rw [hO]; rfl, r1⟩
              | 2, _ => exact ⟨P2', d2, by rw [hO]; rfl, r2⟩
              | 3, _ => exact ⟨P3, d3, by rw [hO]; rfl, r3⟩)
            have S0 : LSt (w6.alloc (.cells #[.slice P0 (LV.getD 0 []).length d0, .slice P1' (LV.getD 1 []).length d1, .slice P2' (LV.getD 2 []).length d2, .slice P3 (LV.getD 3 []).length d3] 22)) w6 O [] := ⟨by rw [hO]; exact World.alloc_heap_new w6 _, below1 w6 _, fun j t ht => (by simp at ht), fun j l t u _ ht => (by simp at ht)⟩
            have HTK : Hid (∀ k, k < 4 → LV.take (k + 1) = LV.take k ++ [LV.getD k []]) := Lib.hid (fun k hk => by
              rw [List.take_add_one, List.getD_eq_getElem?_getD, List.getElem?_eq_getElem (by rw [HL4.out]; exact hk)]; rfl)
            have HLK : Hid (∀ k, k < 4 → (LV.getD k []).length ≤ 24 ∧ ∀ x, x ∈ LV.getD k [] → x < n) := Lib.hid (fun k hk => HLEV.out _ (by rw [List.getD_eq_getElem?_getD, List.getElem?_eq_getElem (by rw [HL4.out]; exact hk)]; exact List.getElem_mem _))
            clear hO r0 r1 r2 r3 hb6 hrd4 hT5 hl1 hl2 hw1
            go_wp2_with fail
            go_loopw [67] (fun iv wr => ∃ N : List (Option Addr × Nat × List Int), iv = .int .i64 (N.length : Int) ∧ N.length ≤ 4 ∧ LSt wr w6 O N ∧ N.map (fun t => t.2.2) = (LV.take N.length).map (fun t => ints (nfR rs t))) (fun iv _ => 4 - (intOf iv).toNat)
            case atStart => exact ⟨[], rfl, Nat.zero_le _, S0, rfl⟩
            case round =>
              clear S0
              obtain ⟨N, rfl, hN4, st, hmap⟩ := hrel
              have HMAP := Lib.hid hmap
              clear hmap
              obtain ⟨k, hk⟩ : ∃ k, k = N.length := ⟨_, rfl⟩
              by_cases hlt : k < 4
              · obtain ⟨Pk, dk, hOk, hrk⟩ := HOK.out k hlt
                have hck := st.cell (t := (Pk, (LV.getD k []).length, dk, LV.getD k [])) (by rw [← hk]; exact hOk)
                have hck' : wr.cell? ⟨w6.heap.size, k, none⟩ = some (.slice Pk (LV.getD k []).length dk) := by rw [hk]; rw [hk] at hck; exact hck
                obtain ⟨hg24, g2⟩ := HLK.out k hlt
                have hrw := hrk.below st.below
                have HTN := Lib.hid (HTK.out k hlt)
                obtain ⟨wk, hwk⟩ : ∃ wk, wk = LV.getD k [] := ⟨_, rfl⟩
                rw [← hwk] at hck' hg24 g2 hrw HTN
                obtain ⟨nk, hnk⟩ : ∃ nk, nk = wk.length := ⟨_, rfl⟩
                rw [← hnk] at hck' hg24 hrw
                have HLN : Hid (wk.length = nk) := Lib.hid hnk.symm
                have HRK : Hid (∀ p, p < nk → wk.getD p 0 < n) := Lib.hid fun p hp => in_getD g2 p (by rw [HLN.out]; exact hp)
                have hrdr := hrd6.below st.below
                have hTr := hT6.below st.below
                have hk4 : ((k : Nat) : Int) < 4 := by omega
                have HST := Lib.hid st
                have HCK := Lib.hid hck'
                have HNK := Lib.hid hk
                have HWL : Hid (w6.heap.size < wr.heap.size) := Lib.hid st.lt
                rw [← hk]
                clear hck hOk hrk hwk hnk st hk g2 hN4
                have HT1 := Lib.hid (traceOf_any A2 Pk n nk c2 dk rs wk _ hrdr hrw hg24 h24 HRK.out HR63.out hTr)
                go_wp2_with fail
                refine HT1.out.mono ?_
                rintro e v1 ⟨E1, g1, F1, k1, es1, rfl, hp, hs, h1, h2, -, -, ha1⟩
                have HN1 := Lib.hid (nf_from E1 F1 g1 k1 nk n rs wk es1 v1 HLR.out HR.out HDEP.out HLN.out HRK.out hg24 hp hs h1 h2 ((hTr).below ha1))
                clear hp hs h1 h2
                go_wp2_with fail
                refine HN1.out.mono ?_
                rintro e u1 ⟨G1, l1, rfl, ho1, hb1⟩
                have hbu := ha1.trans (hb1.mono ha1.size)
                have hzc : u1.cell? ⟨w6.heap.size, k, none⟩ = some (.slice Pk nk dk) := (hbu.cell (p := ⟨w6.heap.size, k, none⟩) HWL.out).trans HCK.out
                have hzf : u1.frozen? ⟨w6.heap.size, k, none⟩ = false := (HST.out.next hbu).fr k
                have HPUT := Lib.hid (HST.out.put hbu (ho1.mono ha1.size) (by rw [← HNK.out, HO4.out]; exact hlt))
                rw [← HNK.out] at HPUT
                clear hbu ho1 hb1 ha1
                go_wp2_with fail
                go_roundw
                case rel => exact ⟨N ++ [(G1, l1, ints (nfR rs wk))], by rw [List.length_append, ← HNK.out]; rfl, by rw [List.length_append, ← HNK.out]; show k + 1 ≤ 4; omega, HPUT.out, by rw [List.map_append, HMAP.out, List.length_append, ← HNK.out]; show _ = (LV.take (k + 1)).map _; rw [HTN.out, List.map_append]; rfl⟩
                case measure => simp [intOf]; omega
              · have hk4 : k = 4 := by omega
                have HSS := Lib.hid (st.done (w0 := w) (by rw [← hk]; exact hk4) HO4.out HB6.out.size)
                have HMM : Hid (N.map (fun t => t.2.2) = LV.map (fun t => ints (nfR rs t))) := Lib.hid (by rw [HMAP.out, ← hk, hk4, List.take_of_length_le (by rw [HL4.out]; exact Nat.le_refl _)])
                have HBF : Hid (Below w.heap.size w wr) := Lib.hid (HB6.out.trans (st.below.mono HB6.out.size))
                rw [← hk, hk4]
                clear st hk
                go_wp2_with fail
                go_ret2
                rw [HA.out]
                rw [HMM.out] at HSS
                show LssPost w (LV.map _).length (LV.map _) 0 _ _
                rw [List.length_map, HL4.out]
                exact ⟨_, 4, rfl, HSS.out, HBF.out⟩
          · have HA := Lib.hid (leF_ne rs uN vN yN zN (by rw [HLU.out, HLV.out]; omega) (by rw [HLY.out, HLZ.out]; omega) heq)
            rw [decide_eq_false heq] at HEQ
            clear heq
            go_wp2_with fail
            refine HEQ.out.mono ?_
            rintro e w4 ⟨rfl, hb4⟩
            go_wp2_with fail
            go_ret2
            rw [HA.out]
            exact lssP_no (HB3.out.trans (hb4.mono HB3.out.size))
end Go.Proofs.YtkifadmoedackaaDoor
