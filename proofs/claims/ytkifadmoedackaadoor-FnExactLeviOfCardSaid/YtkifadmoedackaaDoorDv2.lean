/-
  Division: mathematics of meets. Division: the program's least common continuation, by a contract. Division: the program's continuation of two words, with its codes. JoinOf, ResidualAfter: the program's side. Division: the model's join, by a contract.
-/
import Derived.Test.YtkifadmoedackaaDoorDvA
import Derived.Deep.Upon
namespace Go.Proofs.YtkifadmoedackaaDoor
open Go Go.RowKit
set_option linter.unusedVariables false
set_option maxRecDepth 100000

theorem cmp_len (D : Nat → Nat → Bool) (us vs : List Nat) : (cmpM D us vs).1.length ≤ us.length ∧ (cmpM D us vs).2.2.length ≤ vs.length ∧ (∀ x, x ∈ (cmpM D us vs).1 → x ∈ us) ∧ (∀ x, x ∈ (cmpM D us vs).2.1 → x ∈ us) ∧ (∀ x, x ∈ (cmpM D us vs).2.2 → x ∈ vs) := by
  obtain ⟨h1, h2, h3, h4, h5⟩ := cmp_parts D us [] [] vs
  unfold cmpM
  refine ⟨by simp at h1; omega, h2, fun x hx => ?_, fun x hx => ?_, h5⟩
  · rcases h3 x hx with h | h
    · cases h
    · exact h
  · rcases h4 x hx with h | h
    · cases h
    · exact h
theorem cmpM_meets (D : Nat → Nat → Bool) (n : Nat) (hsym : ∀ a b, D a b = D b a) (href : ∀ a, a < n → D a a = true) (us vs : List Nat) (hu : ∀ x, x ∈ us → x < n) (hv : ∀ x, x ∈ vs → x < n) : Meets D us vs (cmpM D us vs).1 (cmpM D us vs).2.1 (cmpM D us vs).2.2 :=
  cmp_meets D n hsym href us [] [] vs us vs hu hv (Eqv.refl _ _) (Eqv.refl _ _) (fun c hc => by simp [freeB] at hc)
/-- The model's meet has the normal form of the program's. -/
theorem meet_nf (rs : List Nat) (n : Nat) (hl : rs.length = n) (hsym : ∀ a b, RDep rs a b = RDep rs b a) (href : ∀ a, a < n → RDep rs a a = true) (us vs p a b : List Nat) (hu : ∀ x, x ∈ us → x < n) (hv : ∀ x, x ∈ vs → x < n) (hm : Meets (RDep rs) us vs p a b) (hp : ∀ x, x ∈ p → x < n) :
    nfR rs p = nfR rs (cmpM (RDep rs) us vs).1 ∧ Eqv (RDep rs) a (cmpM (RDep rs) us vs).2.1 ∧ Eqv (RDep rs) b (cmpM (RDep rs) us vs).2.2 := by
  have hc := cmpM_meets (RDep rs) n hsym href us vs hu hv
  have hp' : ∀ x, x ∈ (cmpM (RDep rs) us vs).1 → x < n := fun x hx => hu x ((cmp_len _ _ _).2.2.1 x hx)
  obtain ⟨h1, h2, h3⟩ := hm.unique hsym href hc hp hp'
  refine ⟨?_, h2, h3⟩
  unfold nfR
  rw [hl]
  exact (eqv_iff_nf hsym href p _ hp hp').1 h1
end Go.Proofs.YtkifadmoedackaaDoor
namespace Go.Proofs.YtkifadmoedackaaDoor
open Go Go.RowKit
set_option linter.unusedVariables false
set_option maxRecDepth 100000

theorem wpList_append_zero {P : Program} {w : World} {ops : Array Oper} {rest : List Oper} {o : Oper} {a : Act} {Q : Exit → Act → World → Prop} (hgd : o.guard = none) (s x : Operand) (t : TypeId)
    (ho : o.op = .call { callee := .builtin .append, args := #[s, x], argTypes := #[t, t] }) (e : TypeId) (i : TypeInfo) (ht : P.underlying t = some (.slice e)) (hi : P.info? e = some i) (base : Option Addr) (sLen sCap c : Nat) (hle : sLen ≤ sCap)
    (hs : a.eval s = .slice base sLen sCap) (hx : a.eval x = .slice none 0 c) (h : wpList P ops Q rest (a.put o.dst (.slice base sLen sCap)) w) : wpList P ops Q (o :: rest) a w := by
  refine wpList_plain hgd fun K hK => ?_
  have hrun := run_append_nothing (P := P) w t t o.type e i ht hi base sLen sCap hle (.slice none 0 c) (Src.ofNil w ht c)
  unfold Oper.wp
  simp [execOp, ho, resolve, invoke, builtin, hs, hx, hrun, Result.andThen]
  exact hK _ _ h
theorem ints_app (u v : List Nat) : ints (u ++ v) = ints u ++ ints v := by unfold ints; rw [List.map_append]
/-- A slice that reads as numbers, wherever it lies, behind an own one. -/
theorem wpList_append_rd {w : World} {ops : Array Oper} {rest : List Oper} {o : Oper} {a : Act} {Q : Exit → Act → World → Prop} (hgd : o.guard = none) (s x : Operand)
    (ho : o.op = .call { callee := .builtin .append, args := #[s, x], argTypes := #[22, 22] }) (base : Nat) (A : Option Addr) (N cA : Nat) (all : List Nat) (hs : a.eval s = .slice A N cA) (hown : Own 2 w base A N cA (ints all))
    (A2 : Option Addr) (m c2 : Nat) (ss : List Nat) (hx : a.eval x = .slice A2 m c2) (h2 : Rd w A2 m (ints ss)) (h63 : N + m ≤ maxLen) (hby : (N + m) * 8 ≤ 140737488355328) (hbase : base ≤ w.heap.size)
    (h : ∀ A' c' w', Own 2 w' base A' (N + m) c' (ints (all ++ ss)) → w.grownBy w' (Value.slice A N cA).ownBlock → wpList Tryd.prog ops Q rest (a.put o.dst (.slice A' (N + m) c')) w') : wpList Tryd.prog ops Q (o :: rest) a w := by
  obtain ⟨i0, hi, hz0, hz1, hz2⟩ := info_parts info_int
  cases A2 with
  | none =>
    have hm0 : m = 0 := by
      rcases Nat.eq_zero_or_pos m with h0 | h0
      · exact h0
      · obtain ⟨b, off, e9, _⟩ := h2.2 h0; cases e9
    subst hm0
    have hs0 : ss = [] := List.eq_nil_of_length_eq_zero (by have := h2.1; rw [ints_len] at this; exact this)
    subst hs0
    refine wpList_append_zero hgd s x 22 ho 2 i0 Tryd.underlying22 hi A N cA c2 (own_cap hown) hs hx ?_
    exact h A cA w (by rw [List.append_nil]; exact hown) (World.grownBy.refl _ _)
  | some ad =>
    have hl2 : ((ints ss).map (Value.int .i64)).length = m * 1 := by rw [List.length_map, h2.1, Nat.mul_one]
    refine wpList_append_own w hgd s x 22 ho base 2 i0 (.int .i64 0) 1 8 Tryd.underlying22 hi hz0 hz1 hz2 rfl (by decide) (.slice A N cA) N ((ints all).map (Value.int .i64)) hs hown ad m c2 ((ints ss).map (Value.int .i64)) hx hl2 ?_ (ints_oneCell .i64 _) h63 hby hbase ?_
    · intro j u hu
      have hj : 0 < m := by
        rcases Nat.eq_zero_or_pos m with h0 | h0
        · have h8 : (ints ss).map (Value.int .i64) = [] := List.eq_nil_of_length_eq_zero (by rw [hl2, h0])
          rw [h8] at hu; simp at hu
        · exact h0
      obtain ⟨b, off, e9, _⟩ := h2.2 hj
      injection e9 with e9
      subst e9
      exact rd_news h2 hj j u hu
    · intro v' w' hown' hg _
      have e8 : (ints all).map (Value.int .i64) ++ (ints ss).map (Value.int .i64) = (ints (all ++ ss)).map (Value.int .i64) := by rw [ints_app, List.map_append]
      rw [e8] at hown'
      obtain ⟨A3, c3, rfl, ho3⟩ := own_shape hown'
      exact h A3 c3 w' ho3 hg
/-- The least common continuation of some words, behind one that is there already. -/
def contGo (D : Nat → Nat → Bool) : List Nat → List (List Nat) → Option (List Nat)
  | all, [] => some all
  | all, v :: l => if indM D (cmpM D all v).2.1 (cmpM D all v).2.2 = true then contGo D (all ++ (cmpM D all v).2.2) l else none
theorem cont_yes (D : Nat → Nat → Bool) (all v : List Nat) (l : List (List Nat)) (h : indM D (cmpM D all v).2.1 (cmpM D all v).2.2 = true) : contGo D all (v :: l) = contGo D (all ++ (cmpM D all v).2.2) l := by
  show (if _ then _ else _) = _
  rw [if_pos h]
theorem cont_no (D : Nat → Nat → Bool) (all v : List Nat) (l : List (List Nat)) (h : indM D (cmpM D all v).2.1 (cmpM D all v).2.2 = false) : contGo D all (v :: l) = none := by
  show (if _ then _ else _) = _
  rw [if_neg (by rw [h]; decide)]
theorem drop_atL (l : List (List Nat)) (k : Nat) (hk : k < l.length) : l.drop k = l.getD k [] :: l.drop (k + 1) := by
  rw [List.getD_eq_getElem?_getD, List.getElem?_eq_getElem hk]; exact List.drop_eq_getElem_cons hk
def ContPost (V : Option (List Nat)) (w : World) (e : Ending) (w' : World) : Prop :=
  ∃ (A : Option Addr) (N c : Nat), e = .returned (.tuple #[.slice A N c, .bool V.isSome]) ∧ (V.getD []).length = N ∧ Own 2 w' w.heap.size A N c (ints (V.getD [])) ∧ Below w.heap.size w w'
set_option maxHeartbeats 6400000 in
theorem continuation_any (R T : Option Addr) (n c nT cT : Nat) (rs : List Nat) (ts : List (Option Addr × Nat × Nat × List Int)) (Ws : List (List Nat)) (w : World) (h : Rd w R n (ints rs)) (hn : n ≤ 24) (hr : ∀ i, rs.getD i 0 < 2 ^ n) (hsym : ∀ a b, RDep rs a b = RDep rs b a) (href : ∀ a, a < n → RDep rs a a = true)
    (hT : RdT w T nT ts) (hnT : nT ≤ 24) (hlW : Ws.length = nT) (hW : ∀ k t, ts[k]? = some t → t.2.2.2 = ints (Ws.getD k []) ∧ t.2.1 ≤ t.2.2.1) (hWm : ∀ k, (Ws.getD k []).length ≤ 24 ∧ ∀ x, x ∈ Ws.getD k [] → x < n) :
    Calls Tryd.prog 132 #[.slice R n c, .slice T nT cT] w (ContPost (contGo (RDep rs) [] Ws) w) := by
  obtain ⟨i0, hi, hz0, hz1, hz2⟩ := info_parts info_int
  have HR := Lib.hid hr
  have HSY := Lib.hid hsym
  have HRE := Lib.hid href
  have HLW := Lib.hid hlW
  have HW := Lib.hid hW
  have HWM := Lib.hid hWm
  obtain ⟨V, hV⟩ : ∃ V, V = contGo (RDep rs) [] Ws := ⟨_, rfl⟩
  have HV := Lib.hid hV
  rw [← hV]
  clear hV hr hsym href hlW hW hWm
  go_enter Tryd.func132, Tryd.ntmps132
  go_wp2_with fail
  go_loopw [6, 12] (fun av iv wr => ∃ (k N cA : Nat) (A : Option Addr) (all : List Nat), k ≤ nT ∧ av = .slice A N cA ∧ iv = .int .i64 (k : Int) ∧ Own 2 wr w.heap.size A N cA (ints all) ∧ V = contGo (RDep rs) all (Ws.drop k) ∧ N ≤ 24 * k ∧ (∀ x, x ∈ all → x < n) ∧ Below w.heap.size w wr) (fun _ iv _ => nT - (intOf iv).toNat)
  case atStart => exact ⟨0, 0, 0, none, [], Nat.zero_le _, rfl, rfl, Own.nil _ _ _, HV.out, Nat.le_refl _, (fun x hx => by cases hx), Below.refl _ _⟩
  case round =>
    obtain ⟨k, N, cA, A, all, hk, rfl, rfl, ho, hv, hN, hal, hb⟩ := hrel
    have HVK := Lib.hid hv
    have HAL := Lib.hid hal
    have HNN := Lib.hid hN
    have HLA : Hid (all.length = N) := Lib.hid (by have := ho.len; rw [ints_len] at this; exact this)
    clear hv hal hN
    by_cases hlt : k < nT
    · obtain ⟨bt, ot, Bk, nk, ck, xk, eT, hbt, htk, hct, hrk, hmk⟩ := (hT.below hb).at_ hlt
      obtain ⟨hxk, hck⟩ := HW.out k _ htk
      have hxk' : xk = ints (Ws.getD k []) := hxk
      have hck' : nk ≤ ck := hck
      subst hxk' eT
      have HDR := Lib.hid (drop_atL Ws k (by rw [HLW.out]; exact hlt))
      have hwm := HWM.out k
      obtain ⟨v, hv⟩ : ∃ v, v = Ws.getD k [] := ⟨_, rfl⟩
      rw [← hv] at hrk hwm HDR
      have hnk : nk ≤ 24 := by have := hrk.1; rw [ints_len] at this; omega
      have HCM := Lib.hid (cmpare_any R A Bk n c N cA nk ck rs all v wr (h.below hb) hn HR.out HSY.out HRE.out ho.rd (by have := HNN.out; omega) HAL.out hrk (by omega) hck' hwm.2)
      have hcl := cmp_len (RDep rs) all v
      unfold CmpPost at HCM
      have HVY : Hid (indM (RDep rs) (cmpM (RDep rs) all v).2.1 (cmpM (RDep rs) all v).2.2 = true → V = contGo (RDep rs) (all ++ (cmpM (RDep rs) all v).2.2) (Ws.drop (k + 1))) := Lib.hid (fun h9 => by rw [HVK.out, HDR.out, cont_yes _ _ _ _ h9])
      have HVN : Hid (indM (RDep rs) (cmpM (RDep rs) all v).2.1 (cmpM (RDep rs) all v).2.2 = false → V = none) := Lib.hid (fun h9 => by rw [HVK.out, HDR.out, cont_no _ _ _ _ h9])
      obtain ⟨C, hC⟩ : ∃ C, C = cmpM (RDep rs) all v := ⟨_, rfl⟩
      rw [← hC] at HCM hcl HVY HVN
      obtain ⟨p, f, s⟩ := C
      have HCM' : Hid (Calls Tryd.prog 120 #[.slice R n c, .slice A N cA, .slice Bk nk ck] wr fun e w' => ∃ A0 c0 A1 c1 A2 c2, e = .returned (.agg #[.slice A0 p.length c0, .slice A1 f.length c1, .slice A2 s.length c2]) ∧ Rd w' A0 p.length (ints p) ∧ Rd w' A1 f.length (ints f) ∧ Rd w' A2 s.length (ints s) ∧ s.length ≤ c2 ∧ Below wr.heap.size wr w') := HCM
      have HVY' : Hid (indM (RDep rs) f s = true → V = contGo (RDep rs) (all ++ s) (Ws.drop (k + 1))) := HVY
      have HVN' : Hid (indM (RDep rs) f s = false → V = none) := HVN
      have HFM : Hid (∀ x, x ∈ f → x < n) := Lib.hid fun x hx => HAL.out x (hcl.2.2.2.1 x hx)
      have HSM : Hid (∀ x, x ∈ s → x < n) := Lib.hid fun x hx => hwm.2 x (hcl.2.2.2.2 x hx)
      have hsl : s.length ≤ 24 := Nat.le_trans hcl.2.1 hwm.1
      have hfl : f.length ≤ 1048576 := by
        have := (cmp_parts (RDep rs) all [] [] v).1
        have e9 : cmpGo (RDep rs) all [] [] v = (p, f, s) := hC.symm
        rw [e9] at this
        simp at this
        have := HLA.out; have := HNN.out; omega
      obtain ⟨pl, hpl⟩ : ∃ pl, pl = p.length := ⟨_, rfl⟩
      obtain ⟨fl, hfl'⟩ : ∃ fl, fl = f.length := ⟨_, rfl⟩
      obtain ⟨sl, hsl'⟩ : ∃ sl, sl = s.length := ⟨_, rfl⟩
      rw [← hpl, ← hfl', ← hsl'] at HCM'
      rw [← hfl'] at hfl
      rw [← hsl'] at hsl
      have HSL : Hid (s.length = sl) := Lib.hid hsl'.symm
      clear HCM HVY HVN hC hcl hpl hfl' hsl' hv hxk hck hck' hwm
      go_wp2_with fail
      refine HCM'.out.mono ?_
      rintro e w1 ⟨A0, c0, A1, c1, A2, c2, rfl, -, r1, r2, hle, hb1⟩
      have x1 := cbox_new w1 A0 pl c0 A1 fl c1 A2 sl c2
      have hb2 : Below wr.heap.size wr (w1.alloc (.cells #[.slice A0 pl c0, .slice A1 fl c1, .slice A2 sl c2] 134)) := hb1.alloc hb1.size _
      have hnx := below1 w1 (.cells #[.slice A0 pl c0, .slice A1 fl c1, .slice A2 sl c2] 134)
      have r1' := r1.below hnx
      have r2' := r2.below hnx
      have y1 := x1.c1
      have y2 := x1.c2
      have HAI := Lib.hid (areIndependent_any R A1 A2 n c fl c1 sl c2 rs f s _ ((h.below hb).below hb2) hn HR.out r1' hfl HFM.out r2' (by omega) HSM.out)
      have HB2 : Hid (Below w.heap.size w (w1.alloc (.cells #[.slice A0 pl c0, .slice A1 fl c1, .slice A2 sl c2] 134))) := Lib.hid (hb.trans (hb2.mono hb.size))
      have ho2 := ho.below hb2
      clear r1 r2 hb1 hnx r1'
      cases hind : indM (RDep rs) f s
      · have HN := Lib.hid (HVN'.out hind)
        rw [hind] at HAI
        clear hind
        go_wp2_with fail
        refine HAI.out.mono ?_
        rintro e w' ⟨rfl, rfl⟩
        go_wp2_with fail
        go_ret2
        rw [HN.out]
        exact ⟨none, 0, 0, rfl, rfl, Own.nil _ _ _, HB2.out⟩
      · have HY := Lib.hid (HVY'.out hind)
        rw [hind] at HAI
        clear hind
        have HAN : Hid (∀ x, x ∈ all ++ s → x < n) := Lib.hid (fun x hx => by
          rcases List.mem_append.1 hx with h | h
          · exact HAL.out x h
          · exact HSM.out x h)
        have hn24 : N + sl ≤ 24 * (k + 1) := by have := HNN.out; omega
        have hml : N + sl ≤ maxLen := by unfold maxLen; omega
        have hby : (N + sl) * 8 ≤ 140737488355328 := by omega
        have hbase : w.heap.size ≤ (w1.alloc (.cells #[.slice A0 pl c0, .slice A1 fl c1, .slice A2 sl c2] 134)).heap.size := HB2.out.size
        cases A2 with
        | none =>
          have hs0 : s = [] := by
            rcases Nat.eq_zero_or_pos sl with h0 | h0
            · exact List.eq_nil_of_length_eq_zero (by rw [HSL.out]; exact h0)
            · obtain ⟨b, off, e9, _⟩ := r2'.2 h0; cases e9
          have hsl0 : sl = 0 := by rw [← HSL.out, hs0]; rfl
          subst hsl0
          have HS0 : Hid (all ++ s = all) := Lib.hid (by rw [hs0, List.append_nil])
          clear hs0
          have hcap := own_cap ho2
          go_wp2_with fail
          refine HAI.out.mono ?_
          rintro e w' ⟨rfl, rfl⟩
          go_wp2_with (at_builtin; refine wpList_append_zero rfl _ _ 22 rfl 2 i0 Tryd.underlying22 hi A N cA c2 hcap rfl rfl ?_)
          go_wp2_with fail
          go_roundw
          case rel => exact ⟨k + 1, N, cA, A, all, hlt, rfl, by go_num, ho2, by rw [HY.out, HS0.out], by omega, HAL.out, HB2.out⟩
          case measure => simp [intOf]; omega
        | some ad =>
          have hl2 : ((ints s).map (Value.int .i64)).length = sl * 1 := by rw [List.length_map, r2'.1, Nat.mul_one]
          have hnews : ∀ j u, ((ints s).map (Value.int .i64))[j]? = some u → (w1.alloc (.cells #[.slice A0 pl c0, .slice A1 fl c1, .slice (some ad) sl c2] 134)).cell? (ad.add j) = some u := by
            intro j u hu
            have hj : 0 < sl := by
              rcases Nat.eq_zero_or_pos sl with h0 | h0
              · have h8 : (ints s).map (Value.int .i64) = [] := List.eq_nil_of_length_eq_zero (by rw [hl2, h0])
                rw [h8] at hu; simp at hu
              · exact h0
            obtain ⟨b, off, e9, _⟩ := r2'.2 hj
            injection e9 with e9
            subst e9
            exact rd_news r2' hj j u hu
          have HL2 := Lib.hid hl2
          have HNW := Lib.hid hnews
          have HEQ : Hid ((ints all).map (Value.int .i64) ++ (ints s).map (Value.int .i64) = (ints (all ++ s)).map (Value.int .i64)) := Lib.hid (by rw [ints_app, List.map_append])
          clear hl2 hnews
          go_wp2_with fail
          refine HAI.out.mono ?_
          rintro e w' ⟨rfl, rfl⟩
          go_wp2_with (at_builtin; refine wpList_append_own _ rfl _ _ 22 rfl w.heap.size 2 i0 (.int .i64 0) 1 8 Tryd.underlying22 hi hz0 hz1 hz2 rfl (by decide) (.slice A N cA) N ((ints all).map (Value.int .i64)) rfl ho2 ad sl c2 ((ints s).map (Value.int .i64)) rfl HL2.out HNW.out (ints_oneCell .i64 _) hml hby hbase ?_)
          intro v' w3 hown hg _
          rw [HEQ.out] at hown
          have HB3 : Hid (Below w.heap.size w w3) := Lib.hid (HB2.out.grown hg hbase (fun r hr => (World.ownsRow.lt ho2 r hr).1))
          obtain ⟨A3, c3, rfl, ho3⟩ := own_shape hown
          clear hg hown
          go_wp2_with fail
          go_roundw
          case rel => exact ⟨k + 1, N + sl, c3, A3, all ++ s, hlt, rfl, by go_num, ho3, HY.out, hn24, HAN.out, HB3.out⟩
          case measure => simp [intOf]; omega
    · have hkm : k = nT := by omega
      subst hkm
      have HE : Hid (V = some all) := Lib.hid (by rw [HVK.out, List.drop_of_length_le (by rw [HLW.out]; exact Nat.le_refl _)]; rfl)
      go_wp2_with fail
      go_ret2
      rw [HE.out]
      exact ⟨A, N, cA, rfl, HLA.out, ho, hb⟩
end Go.Proofs.YtkifadmoedackaaDoor
namespace Go.Proofs.YtkifadmoedackaaDoor
open Go Go.RowKit
set_option linter.unusedVariables false
set_option maxRecDepth 100000

/-- The join: a word of it, if there is one. -/
def jnM (rs us ts : List Nat) : Option (List Nat) := if indM (RDep rs) (cmpM (RDep rs) us ts).2.1 (cmpM (RDep rs) us ts).2.2 = true then some (us ++ (cmpM (RDep rs) us ts).2.2) else none
def ciF (rs us ts : List Nat) : List Nat × Int := match jnM rs us ts with | none => ([], 4) | some l => if 24 < l.length then ([], 3) else (l, 0)
def joF (rs us ts : List Nat) : List Nat × Int := if (ciF rs us ts).2 = 0 then (nfR rs (ciF rs us ts).1, 0) else ([], (ciF rs us ts).2)
def raF (rs us ts : List Nat) : List Nat × Int := if (ciF rs us ts).2 = 0 then (nfR rs (cmpM (RDep rs) us ts).2.2, 0) else ([], (ciF rs us ts).2)
theorem ciF_no (rs us ts : List Nat) (h : jnM rs us ts = none) : ciF rs us ts = ([], 4) := by unfold ciF; rw [h]
theorem ciF_long (rs us ts l : List Nat) (h : jnM rs us ts = some l) (h2 : 24 < l.length) : ciF rs us ts = ([], 3) := by unfold ciF; rw [h]; exact if_pos h2
theorem ciF_yes (rs us ts l : List Nat) (h : jnM rs us ts = some l) (h2 : l.length ≤ 24) : ciF rs us ts = (l, 0) := by unfold ciF; rw [h]; exact if_neg (by omega)
theorem joF_err (rs us ts : List Nat) (l : List Nat) (c : Int) (h : ciF rs us ts = (l, c)) (hc : c ≠ 0) : joF rs us ts = ([], c) := by unfold joF; rw [h]; exact if_neg hc
theorem joF_yes (rs us ts : List Nat) (l : List Nat) (h : ciF rs us ts = (l, 0)) : joF rs us ts = (nfR rs l, 0) := by unfold joF; rw [h]; rfl
theorem raF_err (rs us ts : List Nat) (l : List Nat) (c : Int) (h : ciF rs us ts = (l, c)) (hc : c ≠ 0) : raF rs us ts = ([], c) := by unfold raF; rw [h]; exact if_neg hc
theorem raF_yes (rs us ts : List Nat) (l : List Nat) (h : ciF rs us ts = (l, 0)) : raF rs us ts = (nfR rs (cmpM (RDep rs) us ts).2.2, 0) := by unfold raF; rw [h]; rfl
theorem jnM_is (rs us ts l : List Nat) (h : jnM rs us ts = some l) : l = us ++ (cmpM (RDep rs) us ts).2.2 := by
  unfold jnM at h
  split at h
  · injection h with h; exact h.symm
  · cases h
theorem cmp_empty (D : Nat → Nat → Bool) (v : List Nat) : cmpM D [] v = ([], [], v) := rfl
theorem cont_two (rs us ts : List Nat) : contGo (RDep rs) [] [us, ts] = jnM rs us ts := by
  have h1 : indM (RDep rs) (cmpM (RDep rs) [] us).2.1 (cmpM (RDep rs) [] us).2.2 = true := by
    rw [cmp_empty, indM_iff]; intro x hx; cases hx
  rw [cont_yes _ _ _ _ h1, cmp_empty, List.nil_append]
  unfold jnM
  cases h : indM (RDep rs) (cmpM (RDep rs) us ts).2.1 (cmpM (RDep rs) us ts).2.2
  · rw [cont_no _ _ _ _ h]; rfl
  · rw [cont_yes _ _ _ _ h]; rfl
theorem joF_small (L : Int) (xs us ts : List Int) : (dL joF L xs us ts).1.length ≤ 24 := dL_small joF 24 (fun rs us ts _ _ => by
  cases h : jnM rs us ts with
  | none => rw [joF_err _ _ _ _ _ (ciF_no _ _ _ h) (by decide)]; exact Nat.zero_le _
  | some l =>
    rcases Nat.lt_or_ge 24 l.length with h2 | h2
    · rw [joF_err _ _ _ _ _ (ciF_long _ _ _ _ h h2) (by decide)]; exact Nat.zero_le _
    · rw [joF_yes _ _ _ _ (ciF_yes _ _ _ _ h h2)]; exact Nat.le_trans (nfR_len rs l) h2) L xs us ts
theorem raF_small (L : Int) (xs us ts : List Int) : (dL raF L xs us ts).1.length ≤ 24 := dL_small raF 24 (fun rs us ts _ ht => by
  cases h : jnM rs us ts with
  | none => rw [raF_err _ _ _ _ _ (ciF_no _ _ _ h) (by decide)]; exact Nat.zero_le _
  | some l =>
    rcases Nat.lt_or_ge 24 l.length with h2 | h2
    · rw [raF_err _ _ _ _ _ (ciF_long _ _ _ _ h h2) (by decide)]; exact Nat.zero_le _
    · rw [raF_yes _ _ _ _ (ciF_yes _ _ _ _ h h2)]; exact Nat.le_trans (nfR_len rs _) (Nat.le_trans (cmp_len _ _ _).2.1 ht)) L xs us ts
def CinPost (n : Nat) (C : Int) (xs : List Int) (l : List Nat) (w : World) (e : Ending) (w' : World) : Prop :=
  ∃ (R W : Option Addr) (rn rc N Wc : Nat), e = .returned (.tuple #[.slice R rn rc, .slice W N Wc, .int .i64 C]) ∧ (C = 0 → rn = n ∧ Rd w' R n xs ∧ l.length = N ∧ Own 2 w' w.heap.size W N Wc (ints l)) ∧ Below w.heap.size w w'
set_option maxHeartbeats 3200000 in
theorem continuationIn_two (L : Int) (A : Option Addr) (n c : Nat) (xs : List Int) (A1 : Option Addr) (m d : Nat) (us : List Int) (B1 : Option Addr) (q f : Nat) (ts : List Int) (T : Option Addr) (cT : Nat) (w : World) (h : Rd w A n xs) (hwf : Wf xs) (hL1 : -9223372036854775808 ≤ L) (hL2 : L ≤ 9223372036854775807) (hn : n ≤ maxLen) (h2 : Rd w A1 m us) (h3 : Rd w B1 q ts) (hRT : RdT w T 2 [(A1, m, d, us), (B1, q, f, ts)]) (hcm : m ≤ d) (hcq : q ≤ f) (hT : Tab w) :
    Calls Tryd.prog 90 #[.agg #[.int .i64 L, .slice A n c], .slice T 2 cT] w (CinPost n (dL ciF L xs us ts).2 xs (ciF (xs.map Int.toNat) (us.map Int.toNat) (ts.map Int.toNat)).1 w) := by
  have hn2 : n ≤ 9223372036854775807 := by unfold maxLen at hn; omega
  have hn1 := h.1
  have hm1 := h2.1
  have hq1 := h3.1
  have HB := Lib.hid (below1 w (.cells #[.int .i64 L, .slice A n c] 28))
  have hh := h.below HB.out
  have hh2 := h2.below HB.out
  have hh3 := h3.below HB.out
  have ht := hRT.below HB.out
  have hT1 := hT.below HB.out
  unfold CinPost
  cases ha : alphB L xs
  · rw [dL_no ciF L xs us ts ha]
    have HA := Lib.hid ha
    clear ha ht hn1
    go_enter Tryd.func90, Tryd.ntmps90
    go_wp2_with fail
    refine (dependenceWith_no L _ _ _ _ _ _ xs [] _ hh hwf hL1 hL2 hn2 HA.out hT1).mono ?_
    rintro e w1 ⟨rfl, hb⟩
    go_wp2_with fail
    go_ret3
    exact ⟨none, none, 0, 0, 0, 0, rfl, (fun h9 => by cases h9), HB.out.trans (hb.mono HB.out.size)⟩
  · cases hu : (wordB L us && wordB L ts)
    · rw [dL_bad ciF L xs us ts ha hu]
      obtain ⟨rs, rfl, rfl, h8, hr, hrel, hl, hd, _⟩ := alphB_nats L xs n hn1 ha
      have HU := Lib.hid hu
      clear ha hu
      go_enter Tryd.func90, Tryd.ntmps90
      go_wp2_with fail
      refine (dependenceWith_any _ _ _ _ _ _ rs _ _ hh hwf h8 hr hrel hd ht (by omega) hT1).mono ?_
      rw [okT_pair, HU.out]
      rintro e w1 (⟨hok, _⟩ | ⟨hok, rfl, hb⟩)
      · cases hok
      go_wp2_with fail
      go_ret3
      exact ⟨none, none, 0, 0, 0, 0, rfl, (fun h9 => by cases h9), HB.out.trans (hb.mono HB.out.size)⟩
    · obtain ⟨rs, rfl, rfl, h8, hr, hrel, hl, hd, _⟩ := alphB_nats L xs n hn1 ha
      have hu' := hu
      rw [Bool.and_eq_true] at hu'
      obtain ⟨vs, rfl, hv24, hvn⟩ := wordB_nats n us hu'.1
      obtain ⟨ys, rfl, hy24, hyn⟩ := wordB_nats n ts hu'.2
      rw [dL_yes ciF (n : Int) rs vs ys ha hu, ints_toNat, ints_toNat, ints_toNat]
      have HU := Lib.hid hu
      have HDEP := Lib.hid ((depB_iff rs n hl hr).1 hd)
      rw [ints_len] at hm1 hq1
      have HLR := Lib.hid hl
      have HR := Lib.hid hr
      have HSY : Hid (∀ a b, RDep rs a b = RDep rs b a) := Lib.hid (rdep_sym rs n hl hr HDEP.out)
      have HRE : Hid (∀ a, a < n → RDep rs a a = true) := Lib.hid fun a ha9 => HDEP.out.1 a (by rw [HLR.out]; exact ha9)
      have HC2 := Lib.hid (cont_two rs vs ys)
      have HWW : Hid (∀ (k : Nat) (t : Option Addr × Nat × Nat × List Int), [(A1, m, d, ints vs), (B1, q, f, ints ys)][k]? = some t → t.2.2.2 = ints ([vs, ys].getD k []) ∧ t.2.1 ≤ t.2.2.1) := Lib.hid (fun k t hk => by
        match k, hk with
        | 0, hk => injection hk with hk; subst hk; exact ⟨rfl, hcm⟩
        | 1, hk => injection hk with hk; subst hk; exact ⟨rfl, hcq⟩
        | k + 2, hk => simp at hk)
      have HWM : Hid (∀ k : Nat, ([vs, ys].getD k []).length ≤ 24 ∧ ∀ x, x ∈ [vs, ys].getD k [] → x < n) := Lib.hid (fun k => by
        match k with
        | 0 => exact ⟨hv24, hvn⟩
        | 1 => exact ⟨hy24, hyn⟩
        | k + 2 => exact ⟨by simp, fun x hx => by simp at hx⟩)
      clear ha hu hu' hl hm1 hq1
      go_enter Tryd.func90, Tryd.ntmps90
      go_wp2_with fail
      refine (dependenceWith_any _ _ _ _ _ _ rs _ _ hh hwf h8 hr hrel hd ht (by omega) hT1).mono ?_
      rw [okT_pair, HU.out]
      rintro e w1 (⟨hok, A2, c2, rfl, ho, hb⟩ | ⟨hok, _⟩)
      rotate_left
      · cases hok
      have HB1 := Lib.hid (HB.out.trans (hb.mono HB.out.size))
      have hrd := ho.rd
      have HCO := Lib.hid (continuation_any A2 T n c2 2 cT rs _ [vs, ys] w1 hrd (by omega) HR.out HSY.out HRE.out (ht.below hb) (by omega) rfl HWW.out HWM.out)
      rw [HC2.out] at HCO
      unfold ContPost at HCO
      clear ho hb hok ht hh hh2 hh3 hT1 hT h h2 h3 hr hd hrel hRT
      cases hj : jnM rs vs ys
      · have HA := Lib.hid (ciF_no rs vs ys hj)
        rw [hj] at HCO
        clear hj
        go_wp2_with fail
        refine HCO.out.mono ?_
        rintro e w2 ⟨A3, N3, c3, rfl, hl3, ho3, hb2⟩
        go_wp2_with fail
        go_ret3
        rw [HA.out]
        exact ⟨none, none, 0, 0, 0, 0, rfl, (fun h9 => by cases h9), HB1.out.trans (hb2.mono HB1.out.size)⟩
      · rename_i l
        rw [hj] at HCO
        have HCO' : Hid (Calls Tryd.prog 132 #[.slice A2 n c2, .slice T 2 cT] w1 fun e w' => ∃ (A3 : Option Addr) (N3 c3 : Nat), e = .returned (.tuple #[.slice A3 N3 c3, .bool true]) ∧ l.length = N3 ∧ Own 2 w' w1.heap.size A3 N3 c3 (ints l) ∧ Below w1.heap.size w1 w') := HCO
        by_cases h24 : 24 < l.length
        · have HA := Lib.hid (ciF_long rs vs ys l hj h24)
          have HG := Lib.hid h24
          clear hj HCO h24
          go_wp2_with fail
          refine HCO'.out.mono ?_
          rintro e w2 ⟨A3, N3, c3, rfl, hl3, ho3, hb2⟩
          have hN3 : (24 : Int) < (N3 : Int) := by have := HG.out; omega
          have HL3 := Lib.hid hl3
          clear hl3
          go_wp2_with fail
          go_ret3
          rw [HA.out]
          exact ⟨none, none, 0, 0, 0, 0, rfl, (fun h9 => by cases h9), HB1.out.trans (hb2.mono HB1.out.size)⟩
        · have HA := Lib.hid (ciF_yes rs vs ys l hj (by omega))
          have HG := Lib.hid h24
          clear hj HCO h24
          go_wp2_with fail
          refine HCO'.out.mono ?_
          rintro e w2 ⟨A3, N3, c3, rfl, hl3, ho3, hb2⟩
          have hN3 : (N3 : Int) ≤ 24 := by have := HG.out; omega
          have HL3 := Lib.hid hl3
          clear hl3
          go_wp2_with fail
          go_ret3
          rw [HA.out]
          exact ⟨A2, A3, n, c2, N3, c3, rfl, fun _ => ⟨rfl, hrd.below hb2, HL3.out, ho3.mono HB1.out.size⟩, HB1.out.trans (hb2.mono HB1.out.size)⟩
end Go.Proofs.YtkifadmoedackaaDoor
namespace Go.Proofs.YtkifadmoedackaaDoor
open Go Go.RowKit
set_option linter.unusedVariables false
set_option maxRecDepth 100000

end Go.Proofs.YtkifadmoedackaaDoor
namespace Go.Proofs.YtkifadmoedackaaDoor
open Go Go.RowKit
set_option linter.unusedVariables false
set_option maxRecDepth 100000

def DCutO (V : Option (List Nat)) (w : World) (e : Ending) (w' : World) : Prop :=
  ∃ (A : Option Addr) (N c : Nat), e = .returned (.tuple #[.slice A N c, .bool V.isSome]) ∧ Own 2 w' w.heap.size A N c (ints (V.getD [])) ∧ N = (V.getD []).length ∧ Below w.heap.size w w'
set_option maxHeartbeats 3200000 in
theorem l05CutO_any (A B C : Option Addr) (n c m d q f : Nat) (rs us vs : List Nat) (w : World) (h : Rd w A n (ints rs)) (hn : n ≤ 24) (hr : ∀ i, rs.getD i 0 < 2 ^ n) (h2 : Rd w B m (ints us)) (hm : m ≤ 1048576) (h3 : Rd w C q (ints vs)) (hq : q ≤ 24) (hus : ∀ x, x ∈ us → x < n) (hvs : ∀ x, x ∈ vs → x < n) :
    Calls Tryd.prog 70 #[.agg #[.int .i64 (n : Int), .slice A n c], .slice B m d, .slice C q f] w (DCutO (cutM (RDep rs) us vs) w) := by
  have mixed : Tryd.prog.follows .mixedOrders = true := by kernel_rfl
  have HLU : Hid (us.length = m) := Lib.hid (by have := h2.1; rw [ints_len] at this; exact this)
  have HLV : Hid (vs.length = q) := Lib.hid (by have := h3.1; rw [ints_len] at this; exact this)
  have HR := Lib.hid hr
  have HUS := Lib.hid hus
  have HVS := Lib.hid hvs
  clear hr hus hvs
  have x0 := box_new 28 w (n : Int) A n c
  have hb0 : Below w.heap.size w (w.alloc (.cells #[.int .i64 (n : Int), .slice A n c] 28)) := below1 w _
  obtain ⟨W1, hW1⟩ : ∃ W1, w.alloc (.cells #[.int .i64 (n : Int), .slice A n c] 28) = W1 := ⟨_, rfl⟩
  rw [hW1] at x0 hb0
  have HOWN := Lib.hid (own_any C q f (ints vs) W1 (h3.below hb0) (by omega))
  obtain ⟨V, hV⟩ : ∃ V, V = cutM (RDep rs) us vs := ⟨_, rfl⟩
  have HV := Lib.hid hV
  rw [← hV]
  clear hV h3
  go_enter Tryd.func70, Tryd.ntmps70
  go_wp2_with fail
  refine HOWN.out.mono ?_
  rintro e w3 ⟨A3, c3, rfl, ho3, hb3⟩
  go_wp2_with fail
  go_loopw [8, 9] (fun p i wr => ∃ (k kr : Nat) (ts : List Nat) (Ar : Option Addr) (cr : Nat), k ≤ m ∧ kr ≤ 24 ∧ p = .slice Ar kr cr ∧ i = .int .i64 (k : Int) ∧ Own 2 wr W1.heap.size Ar kr cr (ints ts) ∧ V = cutM (RDep rs) (us.drop k) ts ∧ (∀ x, x ∈ ts → x < n) ∧ Below W1.heap.size W1 wr) (fun _ i _ => m - (intOf i).toNat)
  case atStart => exact ⟨0, q, vs, A3, c3, Nat.zero_le _, hq, rfl, rfl, ho3, HV.out, HVS.out, hb3⟩
  case round =>
    clear ho3 hb3
    obtain ⟨k, kr, ts, Ar, cr, hk, hkr, rfl, rfl, ho, hv, hts, hb⟩ := hrel
    have HVK := Lib.hid hv
    have HTS := Lib.hid hts
    have HLT : Hid (ts.length = kr) := Lib.hid (by have := ho.len; rw [ints_len] at this; exact this)
    clear hv hts
    have hx := x0.next hb
    have y0 := hx.c0
    have y1 := hx.c1
    have HB := Lib.hid (hb0.trans (hb.mono hb0.size))
    by_cases hlt : k < m
    · obtain ⟨gu, ou, x, eU, hgu, hxu, hcx⟩ := ((h2.below hb0).below hb).at_ hlt
      rw [ints_getD us k (by rw [HLU.out]; exact hlt)] at hxu
      injection hxu with hxu
      have hun : us.getD k 0 < n := HUS.out _ (by rw [List.getD_eq_getElem?_getD, List.getElem?_eq_getElem (by rw [HLU.out]; exact hlt)]; exact List.getElem_mem _)
      have hdrop := drop_at us k (by rw [HLU.out]; exact hlt)
      obtain ⟨u, hu⟩ : ∃ u, u = us.getD k 0 := ⟨_, rfl⟩
      rw [← hu] at hxu hun hdrop
      have HDR := Lib.hid hdrop
      subst hxu eU
      clear hu hdrop
      have hdw : Below wr.heap.size wr wr.drew := (Below.refl _ _).drew
      have hFI := l03First_any (n : Int) A Ar n c kr cr u rs ts wr.drew (((h.below hb0).below hb).below hdw) hn HR.out (ho.rd.below hdw) hkr (fun p hp => HTS.out _ (by rw [List.getD_eq_getElem?_getD, List.getElem?_eq_getElem (by rw [HLT.out]; exact hp)]; exact List.getElem_mem _)) hun
      cases hfree : freeB (RDep rs) ts u
      · have hfi : firstI (RDep rs) ts u = -1 := by unfold firstI; rw [hfree]; rfl
        rw [hfi] at hFI
        have HFI := Lib.hid hFI
        have HF : Hid (V = none) := Lib.hid (by rw [HVK.out, HDR.out]; exact cut_no _ _ _ _ hfree)
        clear hFI hfi hfree
        go_wp2_with fail
        go_still_tail 6, mixed
        change wpList _ _ _ _ _ wr.drew
        go_wp2_with fail
        refine HFI.out.mono ?_
        rintro e w4 ⟨rfl, hb4⟩
        go_wp2_with fail
        go_ret2
        rw [HF.out]
        exact ⟨none, 0, 0, rfl, Own.nil _ _ _, rfl, HB.out.trans ((hdw.trans (hb4.mono hdw.size)).mono HB.out.size)⟩
      · have hmem := free_mem (RDep rs) u ts hfree
        have hidx : ts.idxOf u < kr := by rw [← HLT.out]; exact List.idxOf_lt_length_of_mem hmem
        have hfi : firstI (RDep rs) ts u = ((ts.idxOf u : Nat) : Int) := by unfold firstI; rw [hfree]; rfl
        rw [hfi] at hFI
        have HER := Lib.hid (erase_idx ts u hmem)
        have HVN : Hid (V = cutM (RDep rs) (us.drop (k + 1)) (ts.erase u)) := Lib.hid (by rw [HVK.out, HDR.out]; exact cut_yes _ _ _ _ hfree)
        obtain ⟨qi, hqi⟩ : ∃ qi, qi = ts.idxOf u := ⟨_, rfl⟩
        rw [← hqi] at hidx hFI HER
        have HFI := Lib.hid hFI
        obtain ⟨gr, rfl, _⟩ := ho.form (by omega)
        have HCAP := Lib.hid (own_cap ho)
        clear hFI hfi hfree hmem hqi
        go_wp2_with fail
        go_still_tail 6, mixed
        change wpList _ _ _ _ _ wr.drew
        go_wp2_with fail
        refine HFI.out.mono ?_
        rintro e w4 ⟨rfl, hb4⟩
        have hb04 : Below wr.heap.size wr w4 := hdw.trans (hb4.mono hdw.size)
        have HWI := Lib.hid (l03Without_any gr 0 kr cr qi ts w4 (ho.rd.below hb04) hkr hidx HCAP.out)
        go_wp2_with fail
        refine HWI.out.mono ?_
        rintro e w6 ⟨A6, c6, rfl, ho6, hb6⟩
        rw [HER.out] at ho6
        have hb06 := hb04.trans (hb6.mono hb04.size)
        have ho6' := ho6.mono (show W1.heap.size ≤ w4.heap.size by have := hb.size; have := hb04.size; omega)
        go_wp2_with fail
        go_roundw
        case rel => exact ⟨k + 1, kr - 1, ts.erase u, A6, c6, hlt, by omega, rfl, by go_num, ho6', HVN.out, fun x hx => HTS.out x (List.mem_of_mem_erase hx), hb.trans (hb06.mono hb.size)⟩
        case measure => simp [intOf]; omega
    · have hkm : k = m := by omega
      subst hkm
      have HE : Hid (V = some ts) := Lib.hid (by
        rw [HVK.out, List.drop_of_length_le (by rw [HLU.out]; exact Nat.le_refl _)]; rfl)
      have HRD := Lib.hid (ho.mono hb0.size)
      go_wp2_with fail
      go_ret2
      rw [HE.out]
      exact ⟨Ar, kr, cr, rfl, HRD.out, HLT.out.symm, HB.out⟩
def JoinPost (rs : List Nat) (n : Nat) (us vs : List Nat) (w : World) (e : Ending) (w' : World) : Prop :=
  ∃ (A : Option Addr) (N c : Nat), e = .returned (.tuple #[.slice A N c, .bool (jnM rs us vs).isSome]) ∧ (∀ j, jnM rs us vs = some j → ∃ l : List Nat, l.length = N ∧ Rd w' A N (ints l) ∧ Eqv (RDep rs) l j ∧ (∀ x, x ∈ l → x < n)) ∧ Below w.heap.size w w'
set_option maxHeartbeats 6400000 in
theorem l05Join_any (A B C : Option Addr) (n c m d q f : Nat) (rs us vs : List Nat) (w : World) (h : Rd w A n (ints rs)) (hn : n ≤ 24) (hl : rs.length = n) (hr : ∀ i, rs.getD i 0 < 2 ^ n) (hsym : ∀ a b, RDep rs a b = RDep rs b a) (href : ∀ a, a < n → RDep rs a a = true) (h2 : Rd w B m (ints us)) (hm : m ≤ 24) (h3 : Rd w C q (ints vs)) (hq : q ≤ 24) (hus : ∀ x, x ∈ us → x < n) (hvs : ∀ x, x ∈ vs → x < n) :
    Calls Tryd.prog 89 #[.agg #[.int .i64 (n : Int), .slice A n c], .slice B m d, .slice C q f] w (JoinPost rs n us vs w) := by
  have HLU : Hid (us.length = m) := Lib.hid (by have := h2.1; rw [ints_len] at this; exact this)
  have HLV : Hid (vs.length = q) := Lib.hid (by have := h3.1; rw [ints_len] at this; exact this)
  have HR := Lib.hid hr
  have HSY := Lib.hid hsym
  have HRE := Lib.hid href
  have HUS := Lib.hid hus
  have HVS := Lib.hid hvs
  have HLR := Lib.hid hl
  have x0 := box_new 28 w (n : Int) A n c
  have hb0 : Below w.heap.size w (w.alloc (.cells #[.int .i64 (n : Int), .slice A n c] 28)) := below1 w _
  have HME := Lib.hid (l05Meet_any A B C n c m d q f rs us vs _ (h.below hb0) hn hr hsym (h2.below hb0) hm (h3.below hb0) hq hus hvs)
  clear hr hsym href hus hvs hl
  unfold JoinPost
  go_enter Tryd.func89, Tryd.ntmps89
  go_wp2_with fail
  refine HME.out.mono ?_
  rintro e w2 ⟨p, pa, pb, A3, N3, c3, rfl, hpl, hN3, o3, hmt, hp, hpa, hpb, hb2⟩
  have hb02 := hb0.trans (hb2.mono hb0.size)
  have hmn := meet_nf rs n HLR.out HSY.out HRE.out us vs p pa pb HUS.out HVS.out hmt hp
  obtain ⟨ra, hra, era⟩ := cut_some (RDep rs) n HSY.out HRE.out p pa us hp hmt.fst
  obtain ⟨rb, hrb, erb⟩ := cut_some (RDep rs) n HSY.out HRE.out p pb vs hp hmt.snd
  have hla := cut_len _ _ _ _ hra
  have hlb := cut_len _ _ _ _ hrb
  have HEA := Lib.hid (cut_eqv (RDep rs) HSY.out p us ra hra)
  have HEB := Lib.hid (erb.symm.trans hmn.2.2)
  have HAN : Hid (∀ x, x ∈ ra → x < n) := Lib.hid fun x hx => HUS.out x (hla.2 x hx)
  have HBN : Hid (∀ x, x ∈ rb → x < n) := Lib.hid fun x hx => HVS.out x (hlb.2 x hx)
  have HIN : Hid (indM (RDep rs) ra rb = indM (RDep rs) (cmpM (RDep rs) us vs).2.1 (cmpM (RDep rs) us vs).2.2) := Lib.hid (indM_eqv HRE.out HAN.out HBN.out (fun x hx => HUS.out x ((cmp_len _ _ _).2.2.2.1 x hx)) (fun x hx => HVS.out x ((cmp_len _ _ _).2.2.2.2 x hx)) (era.symm.trans hmn.2.1) HEB.out)
  have HPN := Lib.hid hp
  have HPL := Lib.hid hpl
  have HRA24 : Hid (ra.length ≤ 24) := Lib.hid (by have := HLU.out; omega)
  have HRB24 : Hid (rb.length ≤ 24) := Lib.hid (by have := HLV.out; omega)
  have HC1 := Lib.hid (l05CutO_any A A3 B n c N3 c3 m d rs p us w2 (h.below hb02) hn HR.out o3.rd (by omega) (h2.below hb02) hm HPN.out HUS.out)
  rw [hra] at HC1
  have HC2 : Hid (∀ ww, Below w2.heap.size w2 ww → Calls Tryd.prog 70 #[.agg #[.int .i64 (n : Int), .slice A n c], .slice A3 N3 c3, .slice C q f] ww (DCutO (some rb) ww)) := Lib.hid (fun ww hw => by rw [← hrb]; exact l05CutO_any A A3 C n c N3 c3 q f rs p vs ww ((h.below hb02).below hw) hn HR.out (o3.below hw).rd (by omega) ((h3.below hb02).below hw) hq HPN.out HVS.out)
  have x2 := x0.next hb2
  have y0 := x2.c0
  have y1 := x2.c1
  have HW2 := Lib.hid hb02
  have o3' := o3.mono hb0.size
  have hR2 := h.below hb02
  clear hmt hp hpa hpb hmn hra era hrb erb hla hlb hpl h h2 h3 hb02 HME o3
  go_wp2_with fail
  refine HC1.out.mono ?_
  rintro e w3 ⟨A4, N4, c4, rfl, o4, hN4, hb3⟩
  have o4' : Own 2 w3 w2.heap.size A4 N4 c4 (ints ra) := o4
  have HN4 : Hid (N4 = ra.length) := Lib.hid hN4
  have x3 := x2.next hb3
  have z0 := x3.c0
  have z1 := x3.c1
  have HC2' := Lib.hid (HC2.out w3 hb3)
  clear hN4 y0 y1 o4 HC2
  go_wp2_with fail
  refine HC2'.out.mono ?_
  rintro e w4 ⟨A5, N5, c5, rfl, o5, hN5, hb4⟩
  have o5' : Own 2 w4 w3.heap.size A5 N5 c5 (ints rb) := o5
  have HN5 : Hid (N5 = rb.length) := Lib.hid hN5
  have x4 := x3.next hb4
  have t0 := x4.c0
  have t1 := x4.c1
  have hb24 := hb3.trans (hb4.mono hb3.size)
  have HID := Lib.hid (l05Independent_any A A4 A5 n c N4 c4 N5 c5 rs ra rb w4 (hR2.below hb24) hn HR.out (o4'.below hb4).rd (by have := HN4.out; have := HRA24.out; omega) o5'.rd (by have := HN5.out; have := HRB24.out; omega) HAN.out HBN.out)
  rw [HIN.out] at HID
  clear hN5 z0 z1 o5
  cases hj : indM (RDep rs) (cmpM (RDep rs) us vs).2.1 (cmpM (RDep rs) us vs).2.2
  · have HJ : Hid (jnM rs us vs = none) := Lib.hid (by unfold jnM; rw [hj]; rfl)
    rw [hj] at HID
    clear hj
    go_wp2_with fail
    refine HID.out.mono ?_
    rintro e w5 ⟨rfl, hb5⟩
    go_wp2_with fail
    go_ret2
    rw [HJ.out]
    exact ⟨none, 0, 0, rfl, (fun j h9 => by cases h9), HW2.out.trans ((hb24.trans (hb5.mono hb24.size)).mono HW2.out.size)⟩
  · have HJ : Hid (jnM rs us vs = some (us ++ (cmpM (RDep rs) us vs).2.2)) := Lib.hid (by unfold jnM; rw [hj]; rfl)
    rw [hj] at HID
    clear hj
    go_wp2_with fail
    refine HID.out.mono ?_
    rintro e w5 ⟨rfl, hb5⟩
    have hb25 := hb24.trans (hb5.mono hb24.size)
    have p3 := o3'.below hb25
    have p4 := (o4'.below hb4).below hb5
    have p5 := o5'.below hb5
    have h48 : N3 + N4 ≤ 48 := by have := HN4.out; have := HRA24.out; omega
    have h72 : N3 + N4 + N5 ≤ 72 := by have := HN5.out; have := HRB24.out; omega
    have hbase : w.heap.size ≤ w5.heap.size := by have := HW2.out.size; have := hb25.size; omega
    have m1 : N3 + N4 ≤ maxLen := by unfold maxLen; omega
    have m2 : (N3 + N4) * 8 ≤ 140737488355328 := by omega
    have m3 : N3 + N4 + N5 ≤ maxLen := by unfold maxLen; omega
    have m4 : (N3 + N4 + N5) * 8 ≤ 140737488355328 := by omega
    go_wp2_with (first
      | (at_builtin; refine wpList_append_rd rfl _ _ rfl w.heap.size A3 N3 c3 p rfl p3 A4 N4 c4 ra rfl p4.rd m1 m2 hbase ?_; intro A6 c6 w6 o6 hg6; have q5 : Rd w6 A5 N5 (ints rb) := (p5.apart hg6 (fun k hk e9 => (by have g1 := (o3'.lt k (ownBlock_map' e9)).2; have g2 := (o5'.lt k hk).1; have g3 := hb3.size; omega))).rd; have hbase6 : w.heap.size ≤ w6.heap.size := Nat.le_trans hbase hg6.size; have HW6 : Hid (Below w.heap.size w w6) := Lib.hid ((HW2.out.trans (hb25.mono HW2.out.size)).grown hg6 hbase (fun k e9 => (o3'.lt k (ownBlock_map' e9)).1)))
      | (at_builtin; refine wpList_append_rd rfl _ _ rfl w.heap.size A6 (N3 + N4) c6 (p ++ ra) rfl o6 A5 N5 c5 rb rfl q5 m3 m4 hbase6 ?_; intro A7 c7 w7 o7 hg7; have HW7 : Hid (Below w.heap.size w w7) := Lib.hid (HW6.out.grown hg7 hbase6 (fun k e9 => (o6.lt k (ownBlock_map' e9)).1))))
    go_wp2_with fail
    go_ret2
    rw [HJ.out]
    refine ⟨A7, N3 + N4 + N5, c7, rfl, fun j h9 => ?_, HW7.out⟩
    injection h9 with h9
    subst h9
    refine ⟨p ++ ra ++ rb, by rw [List.length_append, List.length_append, HPL.out, ← HN4.out, ← HN5.out], o7.rd, HEA.out.append HEB.out, fun x hx => ?_⟩
    rcases List.mem_append.1 hx with h1 | h1
    · rcases List.mem_append.1 h1 with h1 | h1
      · exact HPN.out x h1
      · exact HAN.out x h1
    · exact HBN.out x h1
end Go.Proofs.YtkifadmoedackaaDoor
