/-
  AreIndependent, IsPrefix: both sides. Division: mathematics of meets. Division: the program's least common continuation, by a contract. Division: the program's continuation of two words, with its codes. JoinOf, ResidualAfter: the program's side. Division: the model's join, by a contract. Concatenate: helpers. Concatenate: both sides. The pairs of letters that depend on each other: both sides. The letters of a word that are in a set: the program's way and the model's. Slices of slices of numbers: what is owned, and the laws' helpers by contracts. A list of lists as an answer: what a call leaves, what stays when its marks are set. The pair projections of a trace: both sides' lists of lists. Three cells of a block.
-/
import Derived.Test.YtdafdffmkjhhcaaDoorMd
import Derived.Deep.Upon
import Derived.Lib.AppendZeros
import Derived.Test.YtdafdffmkjhhcaaDoorM2
import Derived.Maps.AppendAt
import Derived.Test.YtdafdffmkjhhcaaDoorM3
import Derived.StillTailTactics
import Derived.Test.YtdafdffmkjhhcaaDoorM1
namespace Go.Proofs.YtdafdffmkjhhcaaDoor
open Go Go.RowKit
set_option linter.unusedVariables false
set_option maxRecDepth 100000

/-- Answers of an alphabet and two words. -/
def dB (f : List Nat → List Nat → List Nat → Bool) (L : Int) (xs us ts : List Int) : Bool × Int := if wCode2 L xs us ts = 0 then (f (xs.map Int.toNat) (us.map Int.toNat) (ts.map Int.toNat), 0) else (false, wCode2 L xs us ts)
theorem dB_no (f : List Nat → List Nat → List Nat → Bool) (L : Int) (xs us ts : List Int) (h : alphB L xs = false) : dB f L xs us ts = (false, 1) := by
  have e := wCode2_no L xs us ts h
  unfold dB; rw [e]; rfl
theorem dB_bad (f : List Nat → List Nat → List Nat → Bool) (L : Int) (xs us ts : List Int) (h : alphB L xs = true) (h2 : (wordB L us && wordB L ts) = false) : dB f L xs us ts = (false, 2) := by
  have e := wCode2_bad L xs us ts h h2
  unfold dB; rw [e]; rfl
theorem dB_yes (f : List Nat → List Nat → List Nat → Bool) (L : Int) (rs us ts : List Nat) (h : alphB L (ints rs) = true) (h2 : (wordB L (ints us) && wordB L (ints ts)) = true) : dB f L (ints rs) (ints us) (ints ts) = (f rs us ts, 0) := by
  have e := wCode2_yes L (ints rs) (ints us) (ints ts) h h2
  unfold dB; rw [if_pos e, ints_toNat, ints_toNat, ints_toNat]
def dL (f : List Nat → List Nat → List Nat → List Nat × Int) (L : Int) (xs us ts : List Int) : List Int × Int := if wCode2 L xs us ts = 0 then (ints (f (xs.map Int.toNat) (us.map Int.toNat) (ts.map Int.toNat)).1, (f (xs.map Int.toNat) (us.map Int.toNat) (ts.map Int.toNat)).2) else ([], wCode2 L xs us ts)
theorem dL_no (f : List Nat → List Nat → List Nat → List Nat × Int) (L : Int) (xs us ts : List Int) (h : alphB L xs = false) : dL f L xs us ts = ([], 1) := by
  have e := wCode2_no L xs us ts h
  unfold dL; rw [e]; rfl
theorem dL_bad (f : List Nat → List Nat → List Nat → List Nat × Int) (L : Int) (xs us ts : List Int) (h : alphB L xs = true) (h2 : (wordB L us && wordB L ts) = false) : dL f L xs us ts = ([], 2) := by
  have e := wCode2_bad L xs us ts h h2
  unfold dL; rw [e]; rfl
theorem dL_yes (f : List Nat → List Nat → List Nat → List Nat × Int) (L : Int) (rs us ts : List Nat) (h : alphB L (ints rs) = true) (h2 : (wordB L (ints us) && wordB L (ints ts)) = true) : dL f L (ints rs) (ints us) (ints ts) = (ints (f rs us ts).1, (f rs us ts).2) := by
  have e := wCode2_yes L (ints rs) (ints us) (ints ts) h h2
  unfold dL; rw [if_pos e, ints_toNat, ints_toNat, ints_toNat]
theorem dL_small (f : List Nat → List Nat → List Nat → List Nat × Int) (b : Nat) (hf : ∀ rs us ts, us.length ≤ 24 → ts.length ≤ 24 → (f rs us ts).1.length ≤ b) (L : Int) (xs us ts : List Int) : (dL f L xs us ts).1.length ≤ b := by
  unfold dL
  by_cases h : wCode2 L xs us ts = 0
  · rw [if_pos h, ints_len]
    have h2 : (wordB L us && wordB L ts) = true := by
      unfold wCode2 at h
      split at h
      · split at h
        · assumption
        · cases h
      · cases h
    rw [Bool.and_eq_true] at h2
    unfold wordB at h2
    rw [Bool.and_eq_true, decide_eq_true_eq, Bool.and_eq_true, decide_eq_true_eq] at h2
    exact hf _ _ _ (by rw [List.length_map]; exact h2.1.1) (by rw [List.length_map]; exact h2.2.1)
  · rw [if_neg h]; exact Nat.zero_le _
def aiF (rs us ts : List Nat) : Bool := indM (RDep rs) us ts
def ipF (rs us ts : List Nat) : Bool := (cutM (RDep rs) us ts).isSome
end Go.Proofs.YtdafdffmkjhhcaaDoor
namespace Go.Proofs.YtdafdffmkjhhcaaDoor
open Go Go.RowKit
set_option linter.unusedVariables false
set_option maxRecDepth 100000

theorem cmp_len (D : Nat → Nat → Bool) (us vs : List Nat) : (cmpM D us vs).1.length ≤ us.length ∧ (cmpM D us vs).2.2.length ≤ vs.length ∧ (∀ x, x ∈ (cmpM D us vs).1 → x ∈ us) ∧ (∀ x, x ∈ (cmpM D us vs).2.1 → x ∈ us) ∧ (∀ x, x ∈ (cmpM D us vs).2.2 → x ∈ vs) := by
  obtain ⟨h1, h2, h3, h4, h5⟩ := cmp_parts D us [] [] vs
  unfold cmpM
  refine ⟨by simp at h1; omega, h2, fun x hx => ?_, fun x hx => ?_, h5⟩
  · rcases h3 x hx with h | h
    · cases h
    · exact h
  · rcases h4 x hx with h | h
    · cases h
    · exact h
theorem cmpM_meets (D : Nat → Nat → Bool) (n : Nat) (hsym : ∀ a b, D a b = D b a) (href : ∀ a, a < n → D a a = true) (us vs : List Nat) (hu : ∀ x, x ∈ us → x < n) (hv : ∀ x, x ∈ vs → x < n) : Meets D us vs (cmpM D us vs).1 (cmpM D us vs).2.1 (cmpM D us vs).2.2 :=
  cmp_meets D n hsym href us [] [] vs us vs hu hv (Eqv.refl _ _) (Eqv.refl _ _) (fun c hc => by simp [freeB] at hc)
/-- The model's meet has the normal form of the program's. -/
theorem meet_nf (rs : List Nat) (n : Nat) (hl : rs.length = n) (hsym : ∀ a b, RDep rs a b = RDep rs b a) (href : ∀ a, a < n → RDep rs a a = true) (us vs p a b : List Nat) (hu : ∀ x, x ∈ us → x < n) (hv : ∀ x, x ∈ vs → x < n) (hm : Meets (RDep rs) us vs p a b) (hp : ∀ x, x ∈ p → x < n) :
    nfR rs p = nfR rs (cmpM (RDep rs) us vs).1 ∧ Eqv (RDep rs) a (cmpM (RDep rs) us vs).2.1 ∧ Eqv (RDep rs) b (cmpM (RDep rs) us vs).2.2 := by
  have hc := cmpM_meets (RDep rs) n hsym href us vs hu hv
  have hp' : ∀ x, x ∈ (cmpM (RDep rs) us vs).1 → x < n := fun x hx => hu x ((cmp_len _ _ _).2.2.1 x hx)
  obtain ⟨h1, h2, h3⟩ := hm.unique hsym href hc hp hp'
  refine ⟨?_, h2, h3⟩
  unfold nfR
  rw [hl]
  exact (eqv_iff_nf hsym href p _ hp hp').1 h1
end Go.Proofs.YtdafdffmkjhhcaaDoor
namespace Go.Proofs.YtdafdffmkjhhcaaDoor
open Go Go.RowKit
set_option linter.unusedVariables false
set_option maxRecDepth 100000

theorem wpList_append_zero {P : Program} {w : World} {ops : Array Oper} {rest : List Oper} {o : Oper} {a : Act} {Q : Exit → Act → World → Prop} (hgd : o.guard = none) (s x : Operand) (t : TypeId)
    (ho : o.op = .call { callee := .builtin .append, args := #[s, x], argTypes := #[t, t] }) (e : TypeId) (i : TypeInfo) (ht : P.underlying t = some (.slice e)) (hi : P.info? e = some i) (base : Option Addr) (sLen sCap c : Nat) (hle : sLen ≤ sCap)
    (hs : a.eval s = .slice base sLen sCap) (hx : a.eval x = .slice none 0 c) (h : wpList P ops Q rest (a.put o.dst (.slice base sLen sCap)) w) : wpList P ops Q (o :: rest) a w := by
  refine wpList_plain hgd fun K hK => ?_
  have hrun := run_append_nothing (P := P) w t t o.type e i ht hi base sLen sCap hle (.slice none 0 c) (Src.ofNil w ht c)
  unfold Oper.wp
  simp [execOp, ho, resolve, invoke, builtin, hs, hx, hrun, Result.andThen]
  exact hK _ _ h
theorem ints_app (u v : List Nat) : ints (u ++ v) = ints u ++ ints v := by unfold ints; rw [List.map_append]
/-- A slice that reads as numbers, wherever it lies, behind an own one. -/
theorem wpList_append_rd {w : World} {ops : Array Oper} {rest : List Oper} {o : Oper} {a : Act} {Q : Exit → Act → World → Prop} (hgd : o.guard = none) (s x : Operand)
    (ho : o.op = .call { callee := .builtin .append, args := #[s, x], argTypes := #[22, 22] }) (base : Nat) (A : Option Addr) (N cA : Nat) (all : List Nat) (hs : a.eval s = .slice A N cA) (hown : Own 2 w base A N cA (ints all))
    (A2 : Option Addr) (m c2 : Nat) (ss : List Nat) (hx : a.eval x = .slice A2 m c2) (h2 : Rd w A2 m (ints ss)) (h63 : N + m ≤ maxLen) (hby : (N + m) * 8 ≤ 140737488355328) (hbase : base ≤ w.heap.size)
    (h : ∀ A' c' w', Own 2 w' base A' (N + m) c' (ints (all ++ ss)) → w.grownBy w' (Value.slice A N cA).ownBlock → wpList Tryd.prog ops Q rest (a.put o.dst (.slice A' (N + m) c')) w') : wpList Tryd.prog ops Q (o :: rest) a w := by
  obtain ⟨i0, hi, hz0, hz1, hz2⟩ := info_parts info_int
  cases A2 with
  | none =>
    have hm0 : m = 0 := by
      rcases Nat.eq_zero_or_pos m with h0 | h0
      · exact h0
      · obtain ⟨b, off, e9, _⟩ := h2.2 h0; cases e9
    subst hm0
    have hs0 : ss = [] := List.eq_nil_of_length_eq_zero (by have := h2.1; rw [ints_len] at this; exact this)
    subst hs0
    refine wpList_append_zero hgd s x 22 ho 2 i0 Tryd.underlying22 hi A N cA c2 (own_cap hown) hs hx ?_
    exact h A cA w (by rw [List.append_nil]; exact hown) (World.grownBy.refl _ _)
  | some ad =>
    have hl2 : ((ints ss).map (Value.int .i64)).length = m * 1 := by rw [List.length_map, h2.1, Nat.mul_one]
    refine wpList_append_own w hgd s x 22 ho base 2 i0 (.int .i64 0) 1 8 Tryd.underlying22 hi hz0 hz1 hz2 rfl (by decide) (.slice A N cA) N ((ints all).map (Value.int .i64)) hs hown ad m c2 ((ints ss).map (Value.int .i64)) hx hl2 ?_ (ints_oneCell .i64 _) h63 hby hbase ?_
    · intro j u hu
      have hj : 0 < m := by
        rcases Nat.eq_zero_or_pos m with h0 | h0
        · have h8 : (ints ss).map (Value.int .i64) = [] := List.eq_nil_of_length_eq_zero (by rw [hl2, h0])
          rw [h8] at hu; simp at hu
        · exact h0
      obtain ⟨b, off, e9, _⟩ := h2.2 hj
      injection e9 with e9
      subst e9
      exact rd_news h2 hj j u hu
    · intro v' w' hown' hg _
      have e8 : (ints all).map (Value.int .i64) ++ (ints ss).map (Value.int .i64) = (ints (all ++ ss)).map (Value.int .i64) := by rw [ints_app, List.map_append]
      rw [e8] at hown'
      obtain ⟨A3, c3, rfl, ho3⟩ := own_shape hown'
      exact h A3 c3 w' ho3 hg
/-- The least common continuation of some words, behind one that is there already. -/
def contGo (D : Nat → Nat → Bool) : List Nat → List (List Nat) → Option (List Nat)
  | all, [] => some all
  | all, v :: l => if indM D (cmpM D all v).2.1 (cmpM D all v).2.2 = true then contGo D (all ++ (cmpM D all v).2.2) l else none
theorem cont_yes (D : Nat → Nat → Bool) (all v : List Nat) (l : List (List Nat)) (h : indM D (cmpM D all v).2.1 (cmpM D all v).2.2 = true) : contGo D all (v :: l) = contGo D (all ++ (cmpM D all v).2.2) l := by
  show (if _ then _ else _) = _
  rw [if_pos h]
theorem cont_no (D : Nat → Nat → Bool) (all v : List Nat) (l : List (List Nat)) (h : indM D (cmpM D all v).2.1 (cmpM D all v).2.2 = false) : contGo D all (v :: l) = none := by
  show (if _ then _ else _) = _
  rw [if_neg (by rw [h]; decide)]
theorem drop_atL (l : List (List Nat)) (k : Nat) (hk : k < l.length) : l.drop k = l.getD k [] :: l.drop (k + 1) := by
  rw [List.getD_eq_getElem?_getD, List.getElem?_eq_getElem hk]; exact List.drop_eq_getElem_cons hk
def ContPost (V : Option (List Nat)) (w : World) (e : Ending) (w' : World) : Prop :=
  ∃ (A : Option Addr) (N c : Nat), e = .returned (.tuple #[.slice A N c, .bool V.isSome]) ∧ (V.getD []).length = N ∧ Own 2 w' w.heap.size A N c (ints (V.getD [])) ∧ Below w.heap.size w w'
set_option maxHeartbeats 6400000 in
theorem continuation_any (R T : Option Addr) (n c nT cT : Nat) (rs : List Nat) (ts : List (Option Addr × Nat × Nat × List Int)) (Ws : List (List Nat)) (w : World) (h : Rd w R n (ints rs)) (hn : n ≤ 24) (hr : ∀ i, rs.getD i 0 < 2 ^ n) (hsym : ∀ a b, RDep rs a b = RDep rs b a) (href : ∀ a, a < n → RDep rs a a = true)
    (hT : RdT w T nT ts) (hnT : nT ≤ 24) (hlW : Ws.length = nT) (hW : ∀ k t, ts[k]? = some t → t.2.2.2 = ints (Ws.getD k []) ∧ t.2.1 ≤ t.2.2.1) (hWm : ∀ k, (Ws.getD k []).length ≤ 24 ∧ ∀ x, x ∈ Ws.getD k [] → x < n) :
    Calls Tryd.prog 110 #[.slice R n c, .slice T nT cT] w (ContPost (contGo (RDep rs) [] Ws) w) := by
  obtain ⟨i0, hi, hz0, hz1, hz2⟩ := info_parts info_int
  have HR := Lib.hid hr
  have HSY := Lib.hid hsym
  have HRE := Lib.hid href
  have HLW := Lib.hid hlW
  have HW := Lib.hid hW
  have HWM := Lib.hid hWm
  obtain ⟨V, hV⟩ : ∃ V, V = contGo (RDep rs) [] Ws := ⟨_, rfl⟩
  have HV := Lib.hid hV
  rw [← hV]
  clear hV hr hsym href hlW hW hWm
  go_enter Tryd.func110, Tryd.ntmps110
  go_wp2_with fail
  go_loopw [6, 12] (fun av iv wr => ∃ (k N cA : Nat) (A : Option Addr) (all : List Nat), k ≤ nT ∧ av = .slice A N cA ∧ iv = .int .i64 (k : Int) ∧ Own 2 wr w.heap.size A N cA (ints all) ∧ V = contGo (RDep rs) all (Ws.drop k) ∧ N ≤ 24 * k ∧ (∀ x, x ∈ all → x < n) ∧ Below w.heap.size w wr) (fun _ iv _ => nT - (intOf iv).toNat)
  case atStart => exact ⟨0, 0, 0, none, [], Nat.zero_le _, rfl, rfl, Own.nil _ _ _, HV.out, Nat.le_refl _, (fun x hx => by cases hx), Below.refl _ _⟩
  case round =>
    obtain ⟨k, N, cA, A, all, hk, rfl, rfl, ho, hv, hN, hal, hb⟩ := hrel
    have HVK := Lib.hid hv
    have HAL := Lib.hid hal
    have HNN := Lib.hid hN
    have HLA : Hid (all.length = N) := Lib.hid (by have := ho.len; rw [ints_len] at this; exact this)
    clear hv hal hN
    by_cases hlt : k < nT
    · obtain ⟨bt, ot, Bk, nk, ck, xk, eT, hbt, htk, hct, hrk, hmk⟩ := (hT.below hb).at_ hlt
      obtain ⟨hxk, hck⟩ := HW.out k _ htk
      have hxk' : xk = ints (Ws.getD k []) := hxk
      have hck' : nk ≤ ck := hck
      subst hxk' eT
      have HDR := Lib.hid (drop_atL Ws k (by rw [HLW.out]; exact hlt))
      have hwm := HWM.out k
      obtain ⟨v, hv⟩ : ∃ v, v = Ws.getD k [] := ⟨_, rfl⟩
      rw [← hv] at hrk hwm HDR
      have hnk : nk ≤ 24 := by have := hrk.1; rw [ints_len] at this; omega
      have HCM := Lib.hid (cmpare_any R A Bk n c N cA nk ck rs all v wr (h.below hb) hn HR.out HSY.out HRE.out ho.rd (by have := HNN.out; omega) HAL.out hrk (by omega) hck' hwm.2)
      have hcl := cmp_len (RDep rs) all v
      unfold CmpPost at HCM
      have HVY : Hid (indM (RDep rs) (cmpM (RDep rs) all v).2.1 (cmpM (RDep rs) all v).2.2 = true → V = contGo (RDep rs) (all ++ (cmpM (RDep rs) all v).2.2) (Ws.drop (k + 1))) := Lib.hid (fun h9 => by rw [HVK.out, HDR.out, cont_yes _ _ _ _ h9])
      have HVN : Hid (indM (RDep rs) (cmpM (RDep rs) all v).2.1 (cmpM (RDep rs) all v).2.2 = false → V = none) := Lib.hid (fun h9 => by rw [HVK.out, HDR.out, cont_no _ _ _ _ h9])
      obtain ⟨C, hC⟩ : ∃ C, C = cmpM (RDep rs) all v := ⟨_, rfl⟩
      rw [← hC] at HCM hcl HVY HVN
      obtain ⟨p, f, s⟩ := C
      have HCM' : Hid (Calls Tryd.prog 148 #[.slice R n c, .slice A N cA, .slice Bk nk ck] wr fun e w' => ∃ A0 c0 A1 c1 A2 c2, e = .returned (.agg #[.slice A0 p.length c0, .slice A1 f.length c1, .slice A2 s.length c2]) ∧ Rd w' A0 p.length (ints p) ∧ Rd w' A1 f.length (ints f) ∧ Rd w' A2 s.length (ints s) ∧ s.length ≤ c2 ∧ Below wr.heap.size wr w') := HCM
      have HVY' : Hid (indM (RDep rs) f s = true → V = contGo (RDep rs) (all ++ s) (Ws.drop (k + 1))) := HVY
      have HVN' : Hid (indM (RDep rs) f s = false → V = none) := HVN
      have HFM : Hid (∀ x, x ∈ f → x < n) := Lib.hid fun x hx => HAL.out x (hcl.2.2.2.1 x hx)
      have HSM : Hid (∀ x, x ∈ s → x < n) := Lib.hid fun x hx => hwm.2 x (hcl.2.2.2.2 x hx)
      have hsl : s.length ≤ 24 := Nat.le_trans hcl.2.1 hwm.1
      have hfl : f.length ≤ 1048576 := by
        have := (cmp_parts (RDep rs) all [] [] v).1
        have e9 : cmpGo (RDep rs) all [] [] v = (p, f, s) := hC.symm
        rw [e9] at this
        simp at this
        have := HLA.out; have := HNN.out; omega
      obtain ⟨pl, hpl⟩ : ∃ pl, pl = p.length := ⟨_, rfl⟩
      obtain ⟨fl, hfl'⟩ : ∃ fl, fl = f.length := ⟨_, rfl⟩
      obtain ⟨sl, hsl'⟩ : ∃ sl, sl = s.length := ⟨_, rfl⟩
      rw [← hpl, ← hfl', ← hsl'] at HCM'
      rw [← hfl'] at hfl
      rw [← hsl'] at hsl
      have HSL : Hid (s.length = sl) := Lib.hid hsl'.symm
      clear HCM HVY HVN hC hcl hpl hfl' hsl' hv hxk hck hck' hwm
      go_wp2_with fail
      refine HCM'.out.mono ?_
      rintro e w1 ⟨A0, c0, A1, c1, A2, c2, rfl, -, r1, r2, hle, hb1⟩
      have x1 := cbox_new w1 A0 pl c0 A1 fl c1 A2 sl c2
      have hb2 : Below wr.heap.size wr (w1.alloc (.cells #[.slice A0 pl c0, .slice A1 fl c1, .slice A2 sl c2] 152)) := hb1.alloc hb1.size _
      have hnx := below1 w1 (.cells #[.slice A0 pl c0, .slice A1 fl c1, .slice A2 sl c2] 152)
      have r1' := r1.below hnx
      have r2' := r2.below hnx
      have y1 := x1.c1
      have y2 := x1.c2
      have HAI := Lib.hid (areIndependent_any R A1 A2 n c fl c1 sl c2 rs f s _ ((h.below hb).below hb2) hn HR.out r1' hfl HFM.out r2' (by omega) HSM.out)
      have HB2 : Hid (Below w.heap.size w (w1.alloc (.cells #[.slice A0 pl c0, .slice A1 fl c1, .slice A2 sl c2] 152))) := Lib.hid (hb.trans (hb2.mono hb.size))
      have ho2 := ho.below hb2
      clear r1 r2 hb1 hnx r1'
      cases hind : indM (RDep rs) f s
      · have HN := Lib.hid (HVN'.out hind)
        rw [hind] at HAI
        clear hind
        go_wp2_with fail
        refine HAI.out.mono ?_
        rintro e w' ⟨rfl, rfl⟩
        go_wp2_with fail
        go_ret2
        rw [HN.out]
        exact ⟨none, 0, 0, rfl, rfl, Own.nil _ _ _, HB2.out⟩
      · have HY := Lib.hid (HVY'.out hind)
        rw [hind] at HAI
        clear hind
        have HAN : Hid (∀ x, x ∈ all ++ s → x < n) := Lib.hid (fun x hx => by
          rcases List.mem_append.1 hx with h | h
          · exact HAL.out x h
          · exact HSM.out x h)
        have hn24 : N + sl ≤ 24 * (k + 1) := by have := HNN.out; omega
        have hml : N + sl ≤ maxLen := by unfold maxLen; omega
        have hby : (N + sl) * 8 ≤ 140737488355328 := by omega
        have hbase : w.heap.size ≤ (w1.alloc (.cells #[.slice A0 pl c0, .slice A1 fl c1, .slice A2 sl c2] 152)).heap.size := HB2.out.size
        cases A2 with
        | none =>
          have hs0 : s = [] := by
            rcases Nat.eq_zero_or_pos sl with h0 | h0
            · exact List.eq_nil_of_length_eq_zero (by rw [HSL.out]; exact h0)
            · obtain ⟨b, off, e9, _⟩ := r2'.2 h0; cases e9
          have hsl0 : sl = 0 := by rw [← HSL.out, hs0]; rfl
          subst hsl0
          have HS0 : Hid (all ++ s = all) := Lib.hid (by rw [hs0, List.append_nil])
          clear hs0
          have hcap := own_cap ho2
          go_wp2_with fail
          refine HAI.out.mono ?_
          rintro e w' ⟨rfl, rfl⟩
          go_wp2_with (at_builtin; refine wpList_append_zero rfl _ _ 22 rfl 2 i0 Tryd.underlying22 hi A N cA c2 hcap rfl rfl ?_)
          go_wp2_with fail
          go_roundw
          case rel => exact ⟨k + 1, N, cA, A, all, hlt, rfl, by go_num, ho2, by rw [HY.out, HS0.out], by omega, HAL.out, HB2.out⟩
          case measure => simp [intOf]; omega
        | some ad =>
          have hl2 : ((ints s).map (Value.int .i64)).length = sl * 1 := by rw [List.length_map, r2'.1, Nat.mul_one]
          have hnews : ∀ j u, ((ints s).map (Value.int .i64))[j]? = some u → (w1.alloc (.cells #[.slice A0 pl c0, .slice A1 fl c1, .slice (some ad) sl c2] 152)).cell? (ad.add j) = some u := by
            intro j u hu
            have hj : 0 < sl := by
              rcases Nat.eq_zero_or_pos sl with h0 | h0
              · have h8 : (ints s).map (Value.int .i64) = [] := List.eq_nil_of_length_eq_zero (by rw [hl2, h0])
                rw [h8] at hu; simp at hu
              · exact h0
            obtain ⟨b, off, e9, _⟩ := r2'.2 hj
            injection e9 with e9
            subst e9
            exact rd_news r2' hj j u hu
          have HL2 := Lib.hid hl2
          have HNW := Lib.hid hnews
          have HEQ : Hid ((ints all).map (Value.int .i64) ++ (ints s).map (Value.int .i64) = (ints (all ++ s)).map (Value.int .i64)) := Lib.hid (by rw [ints_app, List.map_append])
          clear hl2 hnews
          go_wp2_with fail
          refine HAI.out.mono ?_
          rintro e w' ⟨rfl, rfl⟩
          go_wp2_with (at_builtin; refine wpList_append_own _ rfl _ _ 22 rfl w.heap.size 2 i0 (.int .i64 0) 1 8 Tryd.underlying22 hi hz0 hz1 hz2 rfl (by decide) (.slice A N cA) N ((ints all).map (Value.int .i64)) rfl ho2 ad sl c2 ((ints s).map (Value.int .i64)) rfl HL2.out HNW.out (ints_oneCell .i64 _) hml hby hbase ?_)
          intro v' w3 hown hg _
          rw [HEQ.out] at hown
          have HB3 : Hid (Below w.heap.size w w3) := Lib.hid (HB2.out.grown hg hbase (fun r hr => (World.ownsRow.lt ho2 r hr).1))
          obtain ⟨A3, c3, rfl, ho3⟩ := own_shape hown
          clear hg hown
          go_wp2_with fail
          go_roundw
          case rel => exact ⟨k + 1, N + sl, c3, A3, all ++ s, hlt, rfl, by go_num, ho3, HY.out, hn24, HAN.out, HB3.out⟩
          case measure => simp [intOf]; omega
    · have hkm : k = nT := by omega
      subst hkm
      have HE : Hid (V = some all) := Lib.hid (by rw [HVK.out, List.drop_of_length_le (by rw [HLW.out]; exact Nat.le_refl _)]; rfl)
      go_wp2_with fail
      go_ret2
      rw [HE.out]
      exact ⟨A, N, cA, rfl, HLA.out, ho, hb⟩
end Go.Proofs.YtdafdffmkjhhcaaDoor
namespace Go.Proofs.YtdafdffmkjhhcaaDoor
open Go Go.RowKit
set_option linter.unusedVariables false
set_option maxRecDepth 100000

/-- The join: a word of it, if there is one. -/
def jnM (rs us ts : List Nat) : Option (List Nat) := if indM (RDep rs) (cmpM (RDep rs) us ts).2.1 (cmpM (RDep rs) us ts).2.2 = true then some (us ++ (cmpM (RDep rs) us ts).2.2) else none
def ciF (rs us ts : List Nat) : List Nat × Int := match jnM rs us ts with | none => ([], 4) | some l => if 24 < l.length then ([], 3) else (l, 0)
def joF (rs us ts : List Nat) : List Nat × Int := if (ciF rs us ts).2 = 0 then (nfR rs (ciF rs us ts).1, 0) else ([], (ciF rs us ts).2)
def raF (rs us ts : List Nat) : List Nat × Int := if (ciF rs us ts).2 = 0 then (nfR rs (cmpM (RDep rs) us ts).2.2, 0) else ([], (ciF rs us ts).2)
theorem ciF_no (rs us ts : List Nat) (h : jnM rs us ts = none) : ciF rs us ts = ([], 4) := by unfold ciF; rw [h]
theorem ciF_long (rs us ts l : List Nat) (h : jnM rs us ts = some l) (h2 : 24 < l.length) : ciF rs us ts = ([], 3) := by unfold ciF; rw [h]; exact if_pos h2
theorem ciF_yes (rs us ts l : List Nat) (h : jnM rs us ts = some l) (h2 : l.length ≤ 24) : ciF rs us ts = (l, 0) := by unfold ciF; rw [h]; exact if_neg (by omega)
theorem joF_err (rs us ts : List Nat) (l : List Nat) (c : Int) (h : ciF rs us ts = (l, c)) (hc : c ≠ 0) : joF rs us ts = ([], c) := by unfold joF; rw [h]; exact if_neg hc
theorem joF_yes (rs us ts : List Nat) (l : List Nat) (h : ciF rs us ts = (l, 0)) : joF rs us ts = (nfR rs l, 0) := by unfold joF; rw [h]; rfl
theorem raF_err (rs us ts : List Nat) (l : List Nat) (c : Int) (h : ciF rs us ts = (l, c)) (hc : c ≠ 0) : raF rs us ts = ([], c) := by unfold raF; rw [h]; exact if_neg hc
theorem raF_yes (rs us ts : List Nat) (l : List Nat) (h : ciF rs us ts = (l, 0)) : raF rs us ts = (nfR rs (cmpM (RDep rs) us ts).2.2, 0) := by unfold raF; rw [h]; rfl
theorem jnM_is (rs us ts l : List Nat) (h : jnM rs us ts = some l) : l = us ++ (cmpM (RDep rs) us ts).2.2 := by
  unfold jnM at h
  split at h
  · injection h with h; exact h.symm
  · cases h
theorem cmp_empty (D : Nat → Nat → Bool) (v : List Nat) : cmpM D [] v = ([], [], v) := rfl
theorem cont_two (rs us ts : List Nat) : contGo (RDep rs) [] [us, ts] = jnM rs us ts := by
  have h1 : indM (RDep rs) (cmpM (RDep rs) [] us).2.1 (cmpM (RDep rs) [] us).2.2 = true := by
    rw [cmp_empty, indM_iff]; intro x hx; cases hx
  rw [cont_yes _ _ _ _ h1, cmp_empty, List.nil_append]
  unfold jnM
  cases h : indM (RDep rs) (cmpM (RDep rs) us ts).2.1 (cmpM (RDep rs) us ts).2.2
  · rw [cont_no _ _ _ _ h]; rfl
  · rw [cont_yes _ _ _ _ h]; rfl
theorem joF_small (L : Int) (xs us ts : List Int) : (dL joF L xs us ts).1.length ≤ 24 := dL_small joF 24 (fun rs us ts _ _ => by
  cases h : jnM rs us ts with
  | none => rw [joF_err _ _ _ _ _ (ciF_no _ _ _ h) (by decide)]; exact Nat.zero_le _
  | some l =>
    rcases Nat.lt_or_ge 24 l.length with h2 | h2
    · rw [joF_err _ _ _ _ _ (ciF_long _ _ _ _ h h2) (by decide)]; exact Nat.zero_le _
    · rw [joF_yes _ _ _ _ (ciF_yes _ _ _ _ h h2)]; exact Nat.le_trans (nfR_len rs l) h2) L xs us ts
theorem raF_small (L : Int) (xs us ts : List Int) : (dL raF L xs us ts).1.length ≤ 24 := dL_small raF 24 (fun rs us ts _ ht => by
  cases h : jnM rs us ts with
  | none => rw [raF_err _ _ _ _ _ (ciF_no _ _ _ h) (by decide)]; exact Nat.zero_le _
  | some l =>
    rcases Nat.lt_or_ge 24 l.length with h2 | h2
    · rw [raF_err _ _ _ _ _ (ciF_long _ _ _ _ h h2) (by decide)]; exact Nat.zero_le _
    · rw [raF_yes _ _ _ _ (ciF_yes _ _ _ _ h h2)]; exact Nat.le_trans (nfR_len rs _) (Nat.le_trans (cmp_len _ _ _).2.1 ht)) L xs us ts
def CinPost (n : Nat) (C : Int) (xs : List Int) (l : List Nat) (w : World) (e : Ending) (w' : World) : Prop :=
  ∃ (R W : Option Addr) (rn rc N Wc : Nat), e = .returned (.tuple #[.slice R rn rc, .slice W N Wc, .int .i64 C]) ∧ (C = 0 → rn = n ∧ Rd w' R n xs ∧ l.length = N ∧ Own 2 w' w.heap.size W N Wc (ints l)) ∧ Below w.heap.size w w'
set_option maxHeartbeats 3200000 in
theorem continuationIn_two (L : Int) (A : Option Addr) (n c : Nat) (xs : List Int) (A1 : Option Addr) (m d : Nat) (us : List Int) (B1 : Option Addr) (q f : Nat) (ts : List Int) (T : Option Addr) (cT : Nat) (w : World) (h : Rd w A n xs) (hwf : Wf xs) (hL1 : -9223372036854775808 ≤ L) (hL2 : L ≤ 9223372036854775807) (hn : n ≤ maxLen) (h2 : Rd w A1 m us) (h3 : Rd w B1 q ts) (hRT : RdT w T 2 [(A1, m, d, us), (B1, q, f, ts)]) (hcm : m ≤ d) (hcq : q ≤ f) (hT : Tab w) :
    Calls Tryd.prog 65 #[.agg #[.int .i64 L, .slice A n c], .slice T 2 cT] w (CinPost n (dL ciF L xs us ts).2 xs (ciF (xs.map Int.toNat) (us.map Int.toNat) (ts.map Int.toNat)).1 w) := by
  have hn2 : n ≤ 9223372036854775807 := by unfold maxLen at hn; omega
  have hn1 := h.1
  have hm1 := h2.1
  have hq1 := h3.1
  have HB := Lib.hid (below1 w (.cells #[.int .i64 L, .slice A n c] 29))
  have hh := h.below HB.out
  have hh2 := h2.below HB.out
  have hh3 := h3.below HB.out
  have ht := hRT.below HB.out
  have hT1 := hT.below HB.out
  unfold CinPost
  cases ha : alphB L xs
  · rw [dL_no ciF L xs us ts ha]
    have HA := Lib.hid ha
    clear ha ht hn1
    go_enter Tryd.func65, Tryd.ntmps65
    go_wp2_with fail
    refine (dependenceWith_no L _ _ _ _ _ _ xs [] _ hh hwf hL1 hL2 hn2 HA.out hT1).mono ?_
    rintro e w1 ⟨rfl, hb⟩
    go_wp2_with fail
    go_ret3
    exact ⟨none, none, 0, 0, 0, 0, rfl, (fun h9 => by cases h9), HB.out.trans (hb.mono HB.out.size)⟩
  · cases hu : (wordB L us && wordB L ts)
    · rw [dL_bad ciF L xs us ts ha hu]
      obtain ⟨rs, rfl, rfl, h8, hr, hrel, hl, hd, _⟩ := alphB_nats L xs n hn1 ha
      have HU := Lib.hid hu
      clear ha hu
      go_enter Tryd.func65, Tryd.ntmps65
      go_wp2_with fail
      refine (dependenceWith_any _ _ _ _ _ _ rs _ _ hh hwf h8 hr hrel hd ht (by omega) hT1).mono ?_
      rw [okT_pair, HU.out]
      rintro e w1 (⟨hok, _⟩ | ⟨hok, rfl, hb⟩)
      · cases hok
      go_wp2_with fail
      go_ret3
      exact ⟨none, none, 0, 0, 0, 0, rfl, (fun h9 => by cases h9), HB.out.trans (hb.mono HB.out.size)⟩
    · obtain ⟨rs, rfl, rfl, h8, hr, hrel, hl, hd, _⟩ := alphB_nats L xs n hn1 ha
      have hu' := hu
      rw [Bool.and_eq_true] at hu'
      obtain ⟨vs, rfl, hv24, hvn⟩ := wordB_nats n us hu'.1
      obtain ⟨ys, rfl, hy24, hyn⟩ := wordB_nats n ts hu'.2
      rw [dL_yes ciF (n : Int) rs vs ys ha hu, ints_toNat, ints_toNat, ints_toNat]
      have HU := Lib.hid hu
      have HDEP := Lib.hid ((depB_iff rs n hl hr).1 hd)
      rw [ints_len] at hm1 hq1
      have HLR := Lib.hid hl
      have HR := Lib.hid hr
      have HSY : Hid (∀ a b, RDep rs a b = RDep rs b a) := Lib.hid (rdep_sym rs n hl hr HDEP.out)
      have HRE : Hid (∀ a, a < n → RDep rs a a = true) := Lib.hid fun a ha9 => HDEP.out.1 a (by rw [HLR.out]; exact ha9)
      have HC2 := Lib.hid (cont_two rs vs ys)
      have HWW : Hid (∀ (k : Nat) (t : Option Addr × Nat × Nat × List Int), [(A1, m, d, ints vs), (B1, q, f, ints ys)][k]? = some t → t.2.2.2 = ints ([vs, ys].getD k []) ∧ t.2.1 ≤ t.2.2.1) := Lib.hid (fun k t hk => by
        match k, hk with
        | 0, hk => injection hk with hk; subst hk; exact ⟨rfl, hcm⟩
        | 1, hk => injection hk with hk; subst hk; exact ⟨rfl, hcq⟩
        | k + 2, hk => simp at hk)
      have HWM : Hid (∀ k : Nat, ([vs, ys].getD k []).length ≤ 24 ∧ ∀ x, x ∈ [vs, ys].getD k [] → x < n) := Lib.hid (fun k => by
        match k with
        | 0 => exact ⟨hv24, hvn⟩
        | 1 => exact ⟨hy24, hyn⟩
        | k + 2 => exact ⟨by simp, fun x hx => by simp at hx⟩)
      clear ha hu hu' hl hm1 hq1
      go_enter Tryd.func65, Tryd.ntmps65
      go_wp2_with fail
      refine (dependenceWith_any _ _ _ _ _ _ rs _ _ hh hwf h8 hr hrel hd ht (by omega) hT1).mono ?_
      rw [okT_pair, HU.out]
      rintro e w1 (⟨hok, A2, c2, rfl, ho, hb⟩ | ⟨hok, _⟩)
      rotate_left
      · cases hok
      have HB1 := Lib.hid (HB.out.trans (hb.mono HB.out.size))
      have hrd := ho.rd
      have HCO := Lib.hid (continuation_any A2 T n c2 2 cT rs _ [vs, ys] w1 hrd (by omega) HR.out HSY.out HRE.out (ht.below hb) (by omega) rfl HWW.out HWM.out)
      rw [HC2.out] at HCO
      unfold ContPost at HCO
      clear ho hb hok ht hh hh2 hh3 hT1 hT h h2 h3 hr hd hrel hRT
      cases hj : jnM rs vs ys
      · have HA := Lib.hid (ciF_no rs vs ys hj)
        rw [hj] at HCO
        clear hj
        go_wp2_with fail
        refine HCO.out.mono ?_
        rintro e w2 ⟨A3, N3, c3, rfl, hl3, ho3, hb2⟩
        go_wp2_with fail
        go_ret3
        rw [HA.out]
        exact ⟨none, none, 0, 0, 0, 0, rfl, (fun h9 => by cases h9), HB1.out.trans (hb2.mono HB1.out.size)⟩
      · rename_i l
        rw [hj] at HCO
        have HCO' : Hid (Calls Tryd.prog 110 #[.slice A2 n c2, .slice T 2 cT] w1 fun e w' => ∃ (A3 : Option Addr) (N3 c3 : Nat), e = .returned (.tuple #[.slice A3 N3 c3, .bool true]) ∧ l.length = N3 ∧ Own 2 w' w1.heap.size A3 N3 c3 (ints l) ∧ Below w1.heap.size w1 w') := HCO
        by_cases h24 : 24 < l.length
        · have HA := Lib.hid (ciF_long rs vs ys l hj h24)
          have HG := Lib.hid h24
          clear hj HCO h24
          go_wp2_with fail
          refine HCO'.out.mono ?_
          rintro e w2 ⟨A3, N3, c3, rfl, hl3, ho3, hb2⟩
          have hN3 : (24 : Int) < (N3 : Int) := by have := HG.out; omega
          have HL3 := Lib.hid hl3
          clear hl3
          go_wp2_with fail
          go_ret3
          rw [HA.out]
          exact ⟨none, none, 0, 0, 0, 0, rfl, (fun h9 => by cases h9), HB1.out.trans (hb2.mono HB1.out.size)⟩
        · have HA := Lib.hid (ciF_yes rs vs ys l hj (by omega))
          have HG := Lib.hid h24
          clear hj HCO h24
          go_wp2_with fail
          refine HCO'.out.mono ?_
          rintro e w2 ⟨A3, N3, c3, rfl, hl3, ho3, hb2⟩
          have hN3 : (N3 : Int) ≤ 24 := by have := HG.out; omega
          have HL3 := Lib.hid hl3
          clear hl3
          go_wp2_with fail
          go_ret3
          rw [HA.out]
          exact ⟨A2, A3, n, c2, N3, c3, rfl, fun _ => ⟨rfl, hrd.below hb2, HL3.out, ho3.mono HB1.out.size⟩, HB1.out.trans (hb2.mono HB1.out.size)⟩
end Go.Proofs.YtdafdffmkjhhcaaDoor
namespace Go.Proofs.YtdafdffmkjhhcaaDoor
open Go Go.RowKit
set_option linter.unusedVariables false
set_option maxRecDepth 100000

end Go.Proofs.YtdafdffmkjhhcaaDoor
namespace Go.Proofs.YtdafdffmkjhhcaaDoor
open Go Go.RowKit
set_option linter.unusedVariables false
set_option maxRecDepth 100000

def DCutO (V : Option (List Nat)) (w : World) (e : Ending) (w' : World) : Prop :=
  ∃ (A : Option Addr) (N c : Nat), e = .returned (.tuple #[.slice A N c, .bool V.isSome]) ∧ Own 2 w' w.heap.size A N c (ints (V.getD [])) ∧ N = (V.getD []).length ∧ Below w.heap.size w w'
set_option maxHeartbeats 3200000 in
theorem l05CutO_any (A B C : Option Addr) (n c m d q f : Nat) (rs us vs : List Nat) (w : World) (h : Rd w A n (ints rs)) (hn : n ≤ 24) (hr : ∀ i, rs.getD i 0 < 2 ^ n) (h2 : Rd w B m (ints us)) (hm : m ≤ 1048576) (h3 : Rd w C q (ints vs)) (hq : q ≤ 24) (hus : ∀ x, x ∈ us → x < n) (hvs : ∀ x, x ∈ vs → x < n) :
    Calls Tryd.prog 108 #[.agg #[.int .i64 (n : Int), .slice A n c], .slice B m d, .slice C q f] w (DCutO (cutM (RDep rs) us vs) w) := by
  have mixed : Tryd.prog.follows .mixedOrders = true := by kernel_rfl
  have HLU : Hid (us.length = m) := Lib.hid (by have := h2.1; rw [ints_len] at this; exact this)
  have HLV : Hid (vs.length = q) := Lib.hid (by have := h3.1; rw [ints_len] at this; exact this)
  have HR := Lib.hid hr
  have HUS := Lib.hid hus
  have HVS := Lib.hid hvs
  clear hr hus hvs
  have x0 := box_new 29 w (n : Int) A n c
  have hb0 : Below w.heap.size w (w.alloc (.cells #[.int .i64 (n : Int), .slice A n c] 29)) := below1 w _
  obtain ⟨W1, hW1⟩ : ∃ W1, w.alloc (.cells #[.int .i64 (n : Int), .slice A n c] 29) = W1 := ⟨_, rfl⟩
  rw [hW1] at x0 hb0
  have HOWN := Lib.hid (own_any C q f (ints vs) W1 (h3.below hb0) (by omega))
  obtain ⟨V, hV⟩ : ∃ V, V = cutM (RDep rs) us vs := ⟨_, rfl⟩
  have HV := Lib.hid hV
  rw [← hV]
  clear hV h3
  go_enter Tryd.func108, Tryd.ntmps108
  go_wp2_with fail
  refine HOWN.out.mono ?_
  rintro e w3 ⟨A3, c3, rfl, ho3, hb3⟩
  go_wp2_with fail
  go_loopw [8, 9] (fun p i wr => ∃ (k kr : Nat) (ts : List Nat) (Ar : Option Addr) (cr : Nat), k ≤ m ∧ kr ≤ 24 ∧ p = .slice Ar kr cr ∧ i = .int .i64 (k : Int) ∧ Own 2 wr W1.heap.size Ar kr cr (ints ts) ∧ V = cutM (RDep rs) (us.drop k) ts ∧ (∀ x, x ∈ ts → x < n) ∧ Below W1.heap.size W1 wr) (fun _ i _ => m - (intOf i).toNat)
  case atStart => exact ⟨0, q, vs, A3, c3, Nat.zero_le _, hq, rfl, rfl, ho3, HV.out, HVS.out, hb3⟩
  case round =>
    clear ho3 hb3
    obtain ⟨k, kr, ts, Ar, cr, hk, hkr, rfl, rfl, ho, hv, hts, hb⟩ := hrel
    have HVK := Lib.hid hv
    have HTS := Lib.hid hts
    have HLT : Hid (ts.length = kr) := Lib.hid (by have := ho.len; rw [ints_len] at this; exact this)
    clear hv hts
    have hx := x0.next hb
    have y0 := hx.c0
    have y1 := hx.c1
    have HB := Lib.hid (hb0.trans (hb.mono hb0.size))
    by_cases hlt : k < m
    · obtain ⟨gu, ou, x, eU, hgu, hxu, hcx⟩ := ((h2.below hb0).below hb).at_ hlt
      rw [ints_getD us k (by rw [HLU.out]; exact hlt)] at hxu
      injection hxu with hxu
      have hun : us.getD k 0 < n := HUS.out _ (by rw [List.getD_eq_getElem?_getD, List.getElem?_eq_getElem (by rw [HLU.out]; exact hlt)]; exact List.getElem_mem _)
      have hdrop := drop_at us k (by rw [HLU.out]; exact hlt)
      obtain ⟨u, hu⟩ : ∃ u, u = us.getD k 0 := ⟨_, rfl⟩
      rw [← hu] at hxu hun hdrop
      have HDR := Lib.hid hdrop
      subst hxu eU
      clear hu hdrop
      have hdw : Below wr.heap.size wr wr.drew := (Below.refl _ _).drew
      have hFI := l03First_any (n : Int) A Ar n c kr cr u rs ts wr.drew (((h.below hb0).below hb).below hdw) hn HR.out (ho.rd.below hdw) hkr (fun p hp => HTS.out _ (by rw [List.getD_eq_getElem?_getD, List.getElem?_eq_getElem (by rw [HLT.out]; exact hp)]; exact List.getElem_mem _)) hun
      cases hfree : freeB (RDep rs) ts u
      · have hfi : firstI (RDep rs) ts u = -1 := by unfold firstI; rw [hfree]; rfl
        rw [hfi] at hFI
        have HFI := Lib.hid hFI
        have HF : Hid (V = none) := Lib.hid (by rw [HVK.out, HDR.out]; exact cut_no _ _ _ _ hfree)
        clear hFI hfi hfree
        go_wp2_with fail
        go_still_tail 6, mixed
        change wpList _ _ _ _ _ wr.drew
        go_wp2_with fail
        refine HFI.out.mono ?_
        rintro e w4 ⟨rfl, hb4⟩
        go_wp2_with fail
        go_ret2
        rw [HF.out]
        exact ⟨none, 0, 0, rfl, Own.nil _ _ _, rfl, HB.out.trans ((hdw.trans (hb4.mono hdw.size)).mono HB.out.size)⟩
      · have hmem := free_mem (RDep rs) u ts hfree
        have hidx : ts.idxOf u < kr := by rw [← HLT.out]; exact List.idxOf_lt_length_of_mem hmem
        have hfi : firstI (RDep rs) ts u = ((ts.idxOf u : Nat) : Int) := by unfold firstI; rw [hfree]; rfl
        rw [hfi] at hFI
        have HER := Lib.hid (erase_idx ts u hmem)
        have HVN : Hid (V = cutM (RDep rs) (us.drop (k + 1)) (ts.erase u)) := Lib.hid (by rw [HVK.out, HDR.out]; exact cut_yes _ _ _ _ hfree)
        obtain ⟨qi, hqi⟩ : ∃ qi, qi = ts.idxOf u := ⟨_, rfl⟩
        rw [← hqi] at hidx hFI HER
        have HFI := Lib.hid hFI
        obtain ⟨gr, rfl, _⟩ := ho.form (by omega)
        have HCAP := Lib.hid (own_cap ho)
        clear hFI hfi hfree hmem hqi
        go_wp2_with fail
        go_still_tail 6, mixed
        change wpList _ _ _ _ _ wr.drew
        go_wp2_with fail
        refine HFI.out.mono ?_
        rintro e w4 ⟨rfl, hb4⟩
        have hb04 : Below wr.heap.size wr w4 := hdw.trans (hb4.mono hdw.size)
        have HWI := Lib.hid (l03Without_any gr 0 kr cr qi ts w4 (ho.rd.below hb04) hkr hidx HCAP.out)
        go_wp2_with fail
        refine HWI.out.mono ?_
        rintro e w6 ⟨A6, c6, rfl, ho6, hb6⟩
        rw [HER.out] at ho6
        have hb06 := hb04.trans (hb6.mono hb04.size)
        have ho6' := ho6.mono (show W1.heap.size ≤ w4.heap.size by have := hb.size; have := hb04.size; omega)
        go_wp2_with fail
        go_roundw
        case rel => exact ⟨k + 1, kr - 1, ts.erase u, A6, c6, hlt, by omega, rfl, by go_num, ho6', HVN.out, fun x hx => HTS.out x (List.mem_of_mem_erase hx), hb.trans (hb06.mono hb.size)⟩
        case measure => simp [intOf]; omega
    · have hkm : k = m := by omega
      subst hkm
      have HE : Hid (V = some ts) := Lib.hid (by
        rw [HVK.out, List.drop_of_length_le (by rw [HLU.out]; exact Nat.le_refl _)]; rfl)
      have HRD := Lib.hid (ho.mono hb0.size)
      go_wp2_with fail
      go_ret2
      rw [HE.out]
      exact ⟨Ar, kr, cr, rfl, HRD.out, HLT.out.symm, HB.out⟩
def JoinPost (rs : List Nat) (n : Nat) (us vs : List Nat) (w : World) (e : Ending) (w' : World) : Prop :=
  ∃ (A : Option Addr) (N c : Nat), e = .returned (.tuple #[.slice A N c, .bool (jnM rs us vs).isSome]) ∧ (∀ j, jnM rs us vs = some j → ∃ l : List Nat, l.length = N ∧ Rd w' A N (ints l) ∧ Eqv (RDep rs) l j ∧ (∀ x, x ∈ l → x < n)) ∧ Below w.heap.size w w'
set_option maxHeartbeats 6400000 in
theorem l05Join_any (A B C : Option Addr) (n c m d q f : Nat) (rs us vs : List Nat) (w : World) (h : Rd w A n (ints rs)) (hn : n ≤ 24) (hl : rs.length = n) (hr : ∀ i, rs.getD i 0 < 2 ^ n) (hsym : ∀ a b, RDep rs a b = RDep rs b a) (href : ∀ a, a < n → RDep rs a a = true) (h2 : Rd w B m (ints us)) (hm : m ≤ 24) (h3 : Rd w C q (ints vs)) (hq : q ≤ 24) (hus : ∀ x, x ∈ us → x < n) (hvs : ∀ x, x ∈ vs → x < n) :
    Calls Tryd.prog 64 #[.agg #[.int .i64 (n : Int), .slice A n c], .slice B m d, .slice C q f] w (JoinPost rs n us vs w) := by
  have HLU : Hid (us.length = m) := Lib.hid (by have := h2.1; rw [ints_len] at this; exact this)
  have HLV : Hid (vs.length = q) := Lib.hid (by have := h3.1; rw [ints_len] at this; exact this)
  have HR := Lib.hid hr
  have HSY := Lib.hid hsym
  have HRE := Lib.hid href
  have HUS := Lib.hid hus
  have HVS := Lib.hid hvs
  have HLR := Lib.hid hl
  have x0 := box_new 29 w (n : Int) A n c
  have hb0 : Below w.heap.size w (w.alloc (.cells #[.int .i64 (n : Int), .slice A n c] 29)) := below1 w _
  have HME := Lib.hid (l05Meet_any A B C n c m d q f rs us vs _ (h.below hb0) hn hr hsym (h2.below hb0) hm (h3.below hb0) hq hus hvs)
  clear hr hsym href hus hvs hl
  unfold JoinPost
  go_enter Tryd.func64, Tryd.ntmps64
  go_wp2_with fail
  refine HME.out.mono ?_
  rintro e w2 ⟨p, pa, pb, A3, N3, c3, rfl, hpl, hN3, o3, hmt, hp, hpa, hpb, hb2⟩
  have hb02 := hb0.trans (hb2.mono hb0.size)
  have hmn := meet_nf rs n HLR.out HSY.out HRE.out us vs p pa pb HUS.out HVS.out hmt hp
  obtain ⟨ra, hra, era⟩ := cut_some (RDep rs) n HSY.out HRE.out p pa us hp hmt.fst
  obtain ⟨rb, hrb, erb⟩ := cut_some (RDep rs) n HSY.out HRE.out p pb vs hp hmt.snd
  have hla := cut_len _ _ _ _ hra
  have hlb := cut_len _ _ _ _ hrb
  have HEA := Lib.hid (cut_eqv (RDep rs) HSY.out p us ra hra)
  have HEB := Lib.hid (erb.symm.trans hmn.2.2)
  have HAN : Hid (∀ x, x ∈ ra → x < n) := Lib.hid fun x hx => HUS.out x (hla.2 x hx)
  have HBN : Hid (∀ x, x ∈ rb → x < n) := Lib.hid fun x hx => HVS.out x (hlb.2 x hx)
  have HIN : Hid (indM (RDep rs) ra rb = indM (RDep rs) (cmpM (RDep rs) us vs).2.1 (cmpM (RDep rs) us vs).2.2) := Lib.hid (indM_eqv HRE.out HAN.out HBN.out (fun x hx => HUS.out x ((cmp_len _ _ _).2.2.2.1 x hx)) (fun x hx => HVS.out x ((cmp_len _ _ _).2.2.2.2 x hx)) (era.symm.trans hmn.2.1) HEB.out)
  have HPN := Lib.hid hp
  have HPL := Lib.hid hpl
  have HRA24 : Hid (ra.length ≤ 24) := Lib.hid (by have := HLU.out; omega)
  have HRB24 : Hid (rb.length ≤ 24) := Lib.hid (by have := HLV.out; omega)
  have HC1 := Lib.hid (l05CutO_any A A3 B n c N3 c3 m d rs p us w2 (h.below hb02) hn HR.out o3.rd (by omega) (h2.below hb02) hm HPN.out HUS.out)
  rw [hra] at HC1
  have HC2 : Hid (∀ ww, Below w2.heap.size w2 ww → Calls Tryd.prog 108 #[.agg #[.int .i64 (n : Int), .slice A n c], .slice A3 N3 c3, .slice C q f] ww (DCutO (some rb) ww)) := Lib.hid (fun ww hw => by rw [← hrb]; exact l05CutO_any A A3 C n c N3 c3 q f rs p vs ww ((h.below hb02).below hw) hn HR.out (o3.below hw).rd (by omega) ((h3.below hb02).below hw) hq HPN.out HVS.out)
  have x2 := x0.next hb2
  have y0 := x2.c0
  have y1 := x2.c1
  have HW2 := Lib.hid hb02
  have o3' := o3.mono hb0.size
  have hR2 := h.below hb02
  clear hmt hp hpa hpb hmn hra era hrb erb hla hlb hpl h h2 h3 hb02 HME o3
  go_wp2_with fail
  refine HC1.out.mono ?_
  rintro e w3 ⟨A4, N4, c4, rfl, o4, hN4, hb3⟩
  have o4' : Own 2 w3 w2.heap.size A4 N4 c4 (ints ra) := o4
  have HN4 : Hid (N4 = ra.length) := Lib.hid hN4
  have x3 := x2.next hb3
  have z0 := x3.c0
  have z1 := x3.c1
  have HC2' := Lib.hid (HC2.out w3 hb3)
  clear hN4 y0 y1 o4 HC2
  go_wp2_with fail
  refine HC2'.out.mono ?_
  rintro e w4 ⟨A5, N5, c5, rfl, o5, hN5, hb4⟩
  have o5' : Own 2 w4 w3.heap.size A5 N5 c5 (ints rb) := o5
  have HN5 : Hid (N5 = rb.length) := Lib.hid hN5
  have x4 := x3.next hb4
  have t0 := x4.c0
  have t1 := x4.c1
  have hb24 := hb3.trans (hb4.mono hb3.size)
  have HID := Lib.hid (l05Independent_any A A4 A5 n c N4 c4 N5 c5 rs ra rb w4 (hR2.below hb24) hn HR.out (o4'.below hb4).rd (by have := HN4.out; have := HRA24.out; omega) o5'.rd (by have := HN5.out; have := HRB24.out; omega) HAN.out HBN.out)
  rw [HIN.out] at HID
  clear hN5 z0 z1 o5
  cases hj : indM (RDep rs) (cmpM (RDep rs) us vs).2.1 (cmpM (RDep rs) us vs).2.2
  · have HJ : Hid (jnM rs us vs = none) := Lib.hid (by unfold jnM; rw [hj]; rfl)
    rw [hj] at HID
    clear hj
    go_wp2_with fail
    refine HID.out.mono ?_
    rintro e w5 ⟨rfl, hb5⟩
    go_wp2_with fail
    go_ret2
    rw [HJ.out]
    exact ⟨none, 0, 0, rfl, (fun j h9 => by cases h9), HW2.out.trans ((hb24.trans (hb5.mono hb24.size)).mono HW2.out.size)⟩
  · have HJ : Hid (jnM rs us vs = some (us ++ (cmpM (RDep rs) us vs).2.2)) := Lib.hid (by unfold jnM; rw [hj]; rfl)
    rw [hj] at HID
    clear hj
    go_wp2_with fail
    refine HID.out.mono ?_
    rintro e w5 ⟨rfl, hb5⟩
    have hb25 := hb24.trans (hb5.mono hb24.size)
    have p3 := o3'.below hb25
    have p4 := (o4'.below hb4).below hb5
    have p5 := o5'.below hb5
    have h48 : N3 + N4 ≤ 48 := by have := HN4.out; have := HRA24.out; omega
    have h72 : N3 + N4 + N5 ≤ 72 := by have := HN5.out; have := HRB24.out; omega
    have hbase : w.heap.size ≤ w5.heap.size := by have := HW2.out.size; have := hb25.size; omega
    have m1 : N3 + N4 ≤ maxLen := by unfold maxLen; omega
    have m2 : (N3 + N4) * 8 ≤ 140737488355328 := by omega
    have m3 : N3 + N4 + N5 ≤ maxLen := by unfold maxLen; omega
    have m4 : (N3 + N4 + N5) * 8 ≤ 140737488355328 := by omega
    go_wp2_with (first
      | (at_builtin; refine wpList_append_rd rfl _ _ rfl w.heap.size A3 N3 c3 p rfl p3 A4 N4 c4 ra rfl p4.rd m1 m2 hbase ?_; intro A6 c6 w6 o6 hg6; have q5 : Rd w6 A5 N5 (ints rb) := (p5.apart hg6 (fun k hk e9 => (by have g1 := (o3'.lt k (ownBlock_map' e9)).2; have g2 := (o5'.lt k hk).1; have g3 := hb3.size; omega))).rd; have hbase6 : w.heap.size ≤ w6.heap.size := Nat.le_trans hbase hg6.size; have HW6 : Hid (Below w.heap.size w w6) := Lib.hid ((HW2.out.trans (hb25.mono HW2.out.size)).grown hg6 hbase (fun k e9 => (o3'.lt k (ownBlock_map' e9)).1)))
      | (at_builtin; refine wpList_append_rd rfl _ _ rfl w.heap.size A6 (N3 + N4) c6 (p ++ ra) rfl o6 A5 N5 c5 rb rfl q5 m3 m4 hbase6 ?_; intro A7 c7 w7 o7 hg7; have HW7 : Hid (Below w.heap.size w w7) := Lib.hid (HW6.out.grown hg7 hbase6 (fun k e9 => (o6.lt k (ownBlock_map' e9)).1))))
    go_wp2_with fail
    go_ret2
    rw [HJ.out]
    refine ⟨A7, N3 + N4 + N5, c7, rfl, fun j h9 => ?_, HW7.out⟩
    injection h9 with h9
    subst h9
    refine ⟨p ++ ra ++ rb, by rw [List.length_append, List.length_append, HPL.out, ← HN4.out, ← HN5.out], o7.rd, HEA.out.append HEB.out, fun x hx => ?_⟩
    rcases List.mem_append.1 hx with h1 | h1
    · rcases List.mem_append.1 h1 with h1 | h1
      · exact HPN.out x h1
      · exact HAN.out x h1
    · exact HBN.out x h1
end Go.Proofs.YtdafdffmkjhhcaaDoor
namespace Go.Proofs.YtdafdffmkjhhcaaDoor
open Go Go.RowKit
set_option linter.unusedVariables false
set_option maxRecDepth 100000

theorem step_append_rd {w : World} {ops : Array Oper} {o : Oper} {a : Act} {K : Act → World → Prop} {Q : Exit → Act → World → Prop} {E : Prop} (hgd : o.guard = none) (s x : Operand)
    (ho : o.op = .call { callee := .builtin .append, args := #[s, x], argTypes := #[22, 22] }) (base : Nat) (A : Option Addr) (N cA : Nat) (all : List Nat) (hs : a.eval s = .slice A N cA) (hown : Own 2 w base A N cA (ints all))
    (A2 : Option Addr) (m c2 : Nat) (ss : List Nat) (hx : a.eval x = .slice A2 m c2) (h2 : Rd w A2 m (ints ss)) (h63 : N + m ≤ maxLen) (hby : (N + m) * 8 ≤ 140737488355328) (hbase : base ≤ w.heap.size)
    (h : ∀ v' w', (∃ A' c', v' = .slice A' (N + m) c' ∧ Own 2 w' base A' (N + m) c' (ints (all ++ ss))) → w.grownBy w' (Value.slice A N cA).ownBlock → K (a.put o.dst v') w') :
    if Region.wanted o (yielded ops a.tmps) = true then Oper.wp Tryd.prog o a w K Q else E := by
  have hw : Region.wanted o (yielded ops a.tmps) = true := by simp [Region.wanted, hgd]
  rw [if_pos hw]
  obtain ⟨i0, hi, hz0, hz1, hz2⟩ := info_parts info_int
  cases A2 with
  | none =>
    have hm0 : m = 0 := by
      rcases Nat.eq_zero_or_pos m with h0 | h0
      · exact h0
      · obtain ⟨b, off, e9, _⟩ := h2.2 h0; cases e9
    subst hm0
    have hs0 : ss = [] := List.eq_nil_of_length_eq_zero (by have := h2.1; rw [ints_len] at this; exact this)
    subst hs0
    have hrun := run_append_nothing (P := Tryd.prog) w 22 22 o.type 2 i0 Tryd.underlying22 hi A N cA (own_cap hown) (.slice none 0 c2) (Src.ofNil w Tryd.underlying22 c2)
    unfold Oper.wp
    simp [execOp, ho, resolve, invoke, builtin, hs, hx, hrun, Result.andThen]
    exact h (.slice A N cA) w ⟨A, cA, rfl, by rw [List.append_nil]; exact hown⟩ (World.grownBy.refl _ _)
  | some ad =>
    have hl2 : ((ints ss).map (Value.int .i64)).length = m * 1 := by rw [List.length_map, h2.1, Nat.mul_one]
    refine wp_append_own (P := Tryd.prog) w s x 22 ho base 2 i0 (.int .i64 0) 1 8 Tryd.underlying22 hi hz0 hz1 hz2 rfl (by decide) (.slice A N cA) N ((ints all).map (Value.int .i64)) hs hown ad m c2 ((ints ss).map (Value.int .i64)) hx hl2 ?_ (ints_oneCell .i64 _) h63 hby hbase ?_
    · intro j u hu
      have hj : 0 < m := by
        rcases Nat.eq_zero_or_pos m with h0 | h0
        · have h8 : (ints ss).map (Value.int .i64) = [] := List.eq_nil_of_length_eq_zero (by rw [hl2, h0])
          rw [h8] at hu; simp at hu
        · exact h0
      obtain ⟨b, off, e9, _⟩ := h2.2 hj
      injection e9 with e9
      subst e9
      exact rd_news h2 hj j u hu
    · intro v' w' hown' hg _
      have e8 : (ints all).map (Value.int .i64) ++ (ints ss).map (Value.int .i64) = (ints (all ++ ss)).map (Value.int .i64) := by rw [ints_app, List.map_append]
      rw [e8] at hown'
      obtain ⟨A3, c3, rfl, ho3⟩ := own_shape hown'
      exact h _ w' ⟨A3, c3, rfl, ho3⟩ hg
set_option maxHeartbeats 1600000 in
theorem growNil_any (n : Nat) (hn : n ≤ 100000) (w : World) :
    Calls Tryd.prog 171 #[.slice none 0 0, .int .i64 (n : Int)] w fun e w' => ∃ (A : Option Addr) (c : Nat), e = .returned (.slice A 0 c) ∧ Own 2 w' w.heap.size A 0 c (ints []) ∧ Below w.heap.size w w' := by
  obtain ⟨i0, hi, hz0, hz1, hz2⟩ := info_parts info_int
  have hw0 : IntKind.i64.wrap ((n : Int) - 0) = (n : Int) := by rw [IntWalk.i64_left]; unfold wrap64; omega
  have hw1 : wrap64 (n : Int) = (n : Int) := by unfold wrap64; omega
  have hn0 : (0 : Int) ≤ (n : Int) := by omega
  rcases Nat.eq_zero_or_pos n with h0 | h0
  · subst h0
    go_enter Tryd.func171, Tryd.ntmps171
    go_wp2_with fail
    go_ret
    exact ⟨none, 0, rfl, Own.nil _ _ _, Below.refl _ _⟩
  · have hnp : (0 : Int) < (n : Int) := by omega
    have hrun := Lib.run_append_nil_zeros (P := Tryd.prog) w 22 3 22 2 i0 (.int .i64 0) .i64 .i64 Tryd.underlying22 Tryd.underlying3 hi hz0 n h0 (by omega) (by omega) (by rw [hz2]; omega)
    obtain ⟨cp, hcp⟩ : ∃ cp, cp = grownCap w n 0 2 := ⟨_, rfl⟩
    have hge : n ≤ cp := by rw [hcp]; exact grownCap_ge w n 0 _
    have hle : cp ≤ maxLen := by rw [hcp]; exact grownCap_le_maxLen w n 0 _ (by unfold maxLen; omega)
    rw [← hcp] at hrun
    obtain ⟨row, hrow⟩ : ∃ row, row = Builtin.zeroCells (Value.int .i64 0).cells n ++ Builtin.zeroCells (Value.int .i64 0).cells (cp - n) := ⟨_, rfl⟩
    have hrs : row.size = cp := by
      rw [hrow, Array.size_append]
      have hzc : ∀ k, (Builtin.zeroCells (Value.int .i64 0).cells k).size = k := fun k => by simp [Builtin.zeroCells, Value.cells]
      rw [hzc, hzc]; omega
    rw [← hrow] at hrun
    have HOWN : Hid (Own 2 (w.drew.alloc (.cells row 2)) w.heap.size (some ⟨w.heap.size, 0, none⟩) 0 cp (ints [])) := Lib.hid ⟨rfl, .inr ⟨w.heap.size, cp, row, rfl, Nat.le_refl _, World.alloc_heap_new w.drew _, Nat.zero_le _, hle, by rw [hrs, Nat.mul_one], by simp [ints]⟩⟩
    have HBE : Hid (Below w.heap.size w (w.drew.alloc (.cells row 2))) := Lib.hid ((Below.refl _ _).drew.alloc (Nat.le_refl _) _)
    clear hrow hcp
    go_enter Tryd.func171, Tryd.ntmps171
    go_wp2_with (at_builtin; refine Lib.wpList_append_run _ rfl _ _ _ _ rfl _ _ rfl rfl _ _ hrun ?_)
    go_wp2_with fail
    go_ret
    exact ⟨_, cp, rfl, HOWN.out, HBE.out⟩
end Go.Proofs.YtdafdffmkjhhcaaDoor
namespace Go.Proofs.YtdafdffmkjhhcaaDoor
open Go Go.RowKit
set_option linter.unusedVariables false
set_option maxRecDepth 100000

theorem flat_take (Ws : List (List Nat)) (k : Nat) (h : k < Ws.length) : (Ws.take (k + 1)).flatten = (Ws.take k).flatten ++ Ws.getD k [] := by
  rw [List.take_add_one, List.getD_eq_getElem?_getD, List.getElem?_eq_getElem h, List.flatten_append]; simp
theorem flat_len (Ws : List (List Nat)) (hm : ∀ k, (Ws.getD k []).length ≤ 24) : ∀ k, k ≤ Ws.length → (Ws.take k).flatten.length ≤ 24 * k
  | 0, _ => by simp
  | k + 1, h => by
    rw [flat_take Ws k (by omega), List.length_append]
    have := flat_len Ws hm k (by omega)
    have := hm k
    omega
set_option maxHeartbeats 3200000 in
theorem concat_any (T : Option Addr) (nT cT : Nat) (ts : List (Option Addr × Nat × Nat × List Int)) (Ws : List (List Nat)) (w : World)
    (hT : RdT w T nT ts) (hnT : nT ≤ 24) (hlW : Ws.length = nT) (hW : ∀ k t, ts[k]? = some t → t.2.2.2 = ints (Ws.getD k [])) (hWm : ∀ k, (Ws.getD k []).length ≤ 24) :
    Calls Tryd.prog 146 #[.slice T nT cT] w (MakesE 2 w Ws.flatten.length (ints Ws.flatten)) := by
  have HLW := Lib.hid hlW
  have HW := Lib.hid hW
  have HFT : Hid (∀ k, k < nT → (Ws.take (k + 1)).flatten = (Ws.take k).flatten ++ Ws.getD k []) := Lib.hid (fun k hk => flat_take Ws k (by rw [hlW]; exact hk))
  have HFL : Hid (∀ k, k ≤ nT → (Ws.take k).flatten.length ≤ 24 * k) := Lib.hid (fun k hk => flat_len Ws hWm k (by rw [hlW]; exact hk))
  have HFA : Hid (Ws.take nT = Ws) := Lib.hid (List.take_of_length_le (by rw [hlW]; exact Nat.le_refl _))
  clear hlW hW hWm
  go_enter Tryd.func146, Tryd.ntmps146
  go_wp2_with fail
  go_loop [3, 11] (fun sv iv => ∃ k S : Nat, k ≤ nT ∧ iv = .int .i64 (k : Int) ∧ sv = .int .i64 (S : Int) ∧ S = (Ws.take k).flatten.length) (fun _ iv => nT - (intOf iv).toNat)
  case atStart => exact ⟨0, 0, Nat.zero_le _, rfl, rfl, rfl⟩
  case round =>
    obtain ⟨k, S, hk, rfl, rfl, hS⟩ := hrel
    have HS := Lib.hid hS
    have HSL : Hid (S ≤ 24 * k) := Lib.hid (by rw [hS]; exact HFL.out k hk)
    clear hS
    by_cases hlt : k < nT
    · obtain ⟨bt, ot, Bk, nk, ck, xk, rfl, hbt, htk, hct, hrk, hmk⟩ := hT.at_ hlt
      have hxk : xk = ints (Ws.getD k []) := HW.out k _ htk
      have hnk : (Ws.getD k []).length = nk := by have := hrk.1; rw [hxk, ints_len] at this; exact this
      have HSN : Hid (S + nk = (Ws.take (k + 1)).flatten.length) := Lib.hid (by rw [HFT.out k hlt, List.length_append, ← HS.out, hnk])
      have hsl := HSL.out
      have hsn : S + nk ≤ 24 * (k + 1) := by rw [HSN.out]; exact HFL.out (k + 1) hlt
      have hw1 : IntKind.i64.wrap ((S : Int) + (nk : Int)) = ((S + nk : Nat) : Int) := by rw [IntWalk.i64_left]; unfold wrap64; omega
      have hge : (0 : Int) ≤ ((S + nk : Nat) : Int) := by omega
      clear hxk hnk
      go_wp2_with fail
      go_round
      case rel => exact ⟨k + 1, S + nk, hlt, by go_num, by simp, HSN.out⟩
      case measure => simp [intOf]; omega
    · have hkm : k = nT := by omega
      subst hkm
      have HSF : Hid (S = Ws.flatten.length) := Lib.hid (by rw [HS.out, HFA.out])
      have HGR := Lib.hid (growNil_any S (by have := HSL.out; omega) w)
      go_wp2_with fail
      refine HGR.out.mono ?_
      rintro e w1 ⟨A0, c0, rfl, o0, hb1⟩
      go_wp2_with fail
      go_loopw [6, 27] (fun av iv wr => ∃ (j N cA : Nat) (A : Option Addr), j ≤ k ∧ av = .slice A N cA ∧ iv = .int .i64 (j : Int) ∧ N = (Ws.take j).flatten.length ∧ Own 2 wr w.heap.size A N cA (ints (Ws.take j).flatten) ∧ Below w.heap.size w wr) (fun _ iv _ => k - (intOf iv).toNat)
      case atStart => exact ⟨0, 0, c0, A0, Nat.zero_le _, rfl, rfl, rfl, o0, hb1⟩
      case round =>
        clear o0 hb1
        obtain ⟨j, N, cA, A, hj, rfl, rfl, hN, ho, hb⟩ := hrel
        have HN := Lib.hid hN
        have HNL : Hid (N ≤ 24 * j) := Lib.hid (by rw [hN]; exact HFL.out j hj)
        clear hN
        by_cases hlt2 : j < k
        · obtain ⟨bt, ot, Bk, nk, ck, xk, rfl, hbt, htk, hct, hrk, hmk⟩ := (hT.below hb).at_ hlt2
          have hxk : xk = ints (Ws.getD j []) := HW.out j _ htk
          subst hxk
          have hnk : (Ws.getD j []).length = nk := by have := hrk.1; rw [ints_len] at this; exact this
          have HSN : Hid (N + nk = (Ws.take (j + 1)).flatten.length) := Lib.hid (by rw [HFT.out j hlt2, List.length_append, ← HN.out, hnk])
          have hsn : N + nk ≤ 24 * (j + 1) := by rw [HSN.out]; exact HFL.out (j + 1) hlt2
          have HFJ := Lib.hid (HFT.out j hlt2)
          have hml : N + nk ≤ maxLen := by unfold maxLen; omega
          have hby : (N + nk) * 8 ≤ 140737488355328 := by omega
          have hbase := hb.size
          obtain ⟨al, hal⟩ : ∃ al, al = (Ws.take j).flatten := ⟨_, rfl⟩
          obtain ⟨v, hv⟩ : ∃ v, v = Ws.getD j [] := ⟨_, rfl⟩
          rw [← hal] at ho HFJ
          rw [← hv] at hrk HFJ
          clear hal hv hnk
          go_wp2_with (at_builtin; refine wpList_append_rd rfl _ _ rfl w.heap.size A N cA al rfl ho Bk nk ck v rfl hrk hml hby hbase ?_; intro A6 c6 w6 o6 hg6; have HB6 : Hid (Below w.heap.size w w6) := Lib.hid (hb.grown hg6 hbase (fun k e9 => (ho.lt k (ownBlock_map' e9)).1)); rw [← HFJ.out] at o6)
          go_wp2_with fail
          go_roundw
          case rel => exact ⟨j + 1, N + nk, c6, A6, hlt2, rfl, by go_num, HSN.out, o6, HB6.out⟩
          case measure => simp [intOf]; omega
        · have hjk : j = k := by omega
          subst hjk
          have HE : Hid (N = Ws.flatten.length) := Lib.hid (by rw [HN.out, HFA.out])
          rw [HFA.out] at ho
          go_wp2_with fail
          go_ret
          rw [← HE.out]
          exact ⟨A, cA, rfl, ho, hb⟩
def coF (rs us ts : List Nat) : List Nat × Int := if 24 < us.length + ts.length then ([], 3) else (nfR rs (us ++ ts), 0)
theorem coF_long (rs us ts : List Nat) (h : 24 < us.length + ts.length) : coF rs us ts = ([], 3) := if_pos h
theorem coF_yes (rs us ts : List Nat) (h : us.length + ts.length ≤ 24) : coF rs us ts = (nfR rs (us ++ ts), 0) := if_neg (by omega)
theorem coF_small (L : Int) (xs us ts : List Int) : (dL coF L xs us ts).1.length ≤ 24 := dL_small coF 24 (fun rs us ts _ _ => by
  rcases Nat.lt_or_ge 24 (us.length + ts.length) with h | h
  · rw [coF_long _ _ _ h]; exact Nat.zero_le _
  · rw [coF_yes _ _ _ h]; exact Nat.le_trans (nfR_len rs _) (by rw [List.length_append]; exact h)) L xs us ts
set_option maxHeartbeats 1600000 in
theorem product_two (A2 A1 B1 T : Option Addr) (n c2 m d q f cT : Nat) (rs vs ys : List Nat) (w : World) (hrd : Rd w A2 n (ints rs)) (h24 : n ≤ 24) (hl : rs.length = n) (hr : ∀ i, rs.getD i 0 < 2 ^ n) (hdep : Dep rs)
    (h2 : Rd w A1 m (ints vs)) (hm : m ≤ 24) (h3 : Rd w B1 q (ints ys)) (hq : q ≤ 24) (hvn : ∀ x, x ∈ vs → x < n) (hyn : ∀ x, x ∈ ys → x < n) (hRT : RdT w T 2 [(A1, m, d, ints vs), (B1, q, f, ints ys)]) (hT : Tab w) :
    Calls Tryd.prog 100 #[.slice A2 n c2, .slice T 2 cT] w (LsPost w (ints (coF rs vs ys).1).length (ints (coF rs vs ys).1) (coF rs vs ys).2) := by
  have HLU : Hid (vs.length = m) := Lib.hid (by have := h2.1; rw [ints_len] at this; exact this)
  have HLV : Hid (ys.length = q) := Lib.hid (by have := h3.1; rw [ints_len] at this; exact this)
  have HLR := Lib.hid hl
  have HR := Lib.hid hr
  have HDEP := Lib.hid hdep
  have HR63 : Hid (∀ i, rs.getD i 0 < 9223372036854775808) := Lib.hid fun i => lt63 h24 (hr i)
  have HCO := Lib.hid (concat_any T 2 cT _ [vs, ys] w hRT (by omega) rfl (fun k t hk => by
    match k, hk with
    | 0, hk => injection hk with hk; subst hk; rfl
    | 1, hk => injection hk with hk; subst hk; rfl
    | k + 2, hk => simp at hk) (fun k => by
    match k with
    | 0 => show vs.length ≤ 24; have := HLU.out; omega
    | 1 => show ys.length ≤ 24; have := HLV.out; omega
    | k + 2 => simp))
  rw [show [vs, ys].flatten = vs ++ ys by simp] at HCO
  have hlen : (vs ++ ys).length = m + q := by rw [List.length_append, HLU.out, HLV.out]
  have HWM : Hid (∀ x, x ∈ vs ++ ys → x < n) := Lib.hid (fun x hx => by
    rcases List.mem_append.1 hx with h1 | h1
    · exact hvn x h1
    · exact hyn x h1)
  obtain ⟨W, hW⟩ : ∃ W, W = vs ++ ys := ⟨_, rfl⟩
  rw [← hW] at HCO hlen HWM
  obtain ⟨k, hk⟩ : ∃ k, k = W.length := ⟨_, rfl⟩
  rw [← hk] at HCO hlen
  have HLK : Hid (W.length = k) := Lib.hid hk.symm
  have HRK : Hid (∀ x, x < k → W.getD x 0 < n) := Lib.hid fun x hx => in_getD HWM.out x (by rw [HLK.out]; exact hx)
  by_cases hlong : 24 < k
  · have HA := Lib.hid (coF_long rs vs ys (by rw [HLU.out, HLV.out]; omega))
    have hI : (24 : Int) < (k : Int) := by omega
    clear hk hlen hW hlong hl hr
    go_enter Tryd.func100, Tryd.ntmps100
    go_wp2_with fail
    refine HCO.out.mono ?_
    rintro e w1 ⟨A3, c3, rfl, o3, hb⟩
    go_wp2_with fail
    go_ret2
    rw [HA.out]
    exact LsPost.of_ans (ans_no 3 hb)
  · have HA : Hid (coF rs vs ys = (nfR rs W, 0)) := Lib.hid (by rw [hW]; exact coF_yes rs vs ys (by rw [HLU.out, HLV.out]; omega))
    have hk24 : k ≤ 24 := by omega
    have hI : (k : Int) ≤ 24 := by omega
    clear hk hlen hW hlong hl hr
    go_enter Tryd.func100, Tryd.ntmps100
    go_wp2_with fail
    refine HCO.out.mono ?_
    rintro e w1 ⟨A3, c3, rfl, o3, hb⟩
    have hrd1 := hrd.below hb
    have hW1 := o3.rd
    have hT1 := hT.below hb
    have HT1 := Lib.hid (traceOf_any A2 A3 n k c2 c3 rs W _ hrd1 hW1 hk24 h24 HRK.out HR63.out hT1)
    go_wp2_with fail
    refine HT1.out.mono ?_
    rintro e v1 ⟨E1, g1, F1, k1, es1, rfl, hp, hs, h1, h2, -, -, ha1⟩
    have HN1 := Lib.hid (nf_from E1 F1 g1 k1 k n rs W es1 v1 HLR.out HR.out HDEP.out HLK.out HRK.out hk24 hp hs h1 h2 ((hT1).below ha1))
    clear hp hs h1 h2
    go_wp2_with fail
    refine HN1.out.mono ?_
    rintro e u1 ⟨G1, l1, rfl, ho1, hb1⟩
    go_wp2_with fail
    go_ret2
    rw [HA.out]
    have HZ := hb.trans (ha1.mono hb.size)
    exact LsPost.of_ans (ans_yes ho1.len (ho1.mono HZ.size) (HZ.trans (hb1.mono HZ.size)))
end Go.Proofs.YtdafdffmkjhhcaaDoor
namespace Go.Proofs.YtdafdffmkjhhcaaDoor
open Go Go.RowKit
set_option linter.unusedVariables false
set_option maxRecDepth 100000

def pairOf (a b : Nat) : Nat := 2 ^ a ||| 2 ^ b
/-- The pairs of a with letters below k, from a on. -/
def pairRow (r a k : Nat) : List Nat := ((List.range k).filter fun b => decide (a ≤ b) && r.testBit b).map (pairOf a)
def pairsL (rs : List Nat) : Nat → List Nat
  | 0 => []
  | k + 1 => pairsL rs k ++ pairRow (rs.getD k 0) k 24
theorem pairRow_yes (r a k : Nat) (h1 : a ≤ k) (h2 : r.testBit k = true) : pairRow r a (k + 1) = pairRow r a k ++ [pairOf a k] := by
  unfold pairRow; rw [List.range_succ, List.filter_append, List.map_append]; simp [h1, h2]
theorem pairRow_no (r a k : Nat) (h : (decide (a ≤ k) && r.testBit k) = false) : pairRow r a (k + 1) = pairRow r a k := by
  unfold pairRow; rw [List.range_succ, List.filter_append, List.map_append]; simp [h]
theorem pairRow_le (r a k : Nat) : (pairRow r a k).length ≤ k := by
  unfold pairRow; rw [List.length_map]
  exact Nat.le_trans (List.length_filter_le _ _) (by rw [List.length_range]; exact Nat.le_refl _)
theorem pairRow_start (r a : Nat) : ∀ k, k ≤ a → pairRow r a k = []
  | 0, _ => rfl
  | k + 1, h => by rw [pairRow_no r a k (by have : ¬ a ≤ k := by omega
                                            simp [this]), pairRow_start r a k (by omega)]
theorem pairRow_full (r a n : Nat) (hr : r < 2 ^ n) : ∀ k, n ≤ k → pairRow r a k = pairRow r a n
  | 0, h => by have : n = 0 := by omega
               subst this; rfl
  | k + 1, h => by
    by_cases e : n = k + 1
    · rw [e]
    · rw [pairRow_no r a k (by have : r.testBit k = false := Nat.testBit_lt_two_pow (Nat.lt_of_lt_of_le hr (Nat.pow_le_pow_right (by decide) (by omega)))
                               simp [this]), pairRow_full r a n hr k (by omega)]
theorem pairsL_le (rs : List Nat) : ∀ k, (pairsL rs k).length ≤ k * 24
  | 0 => Nat.zero_le _
  | k + 1 => by
    show (pairsL rs k ++ _).length ≤ _
    rw [List.length_append]
    have := pairsL_le rs k; have := pairRow_le (rs.getD k 0) k 24; omega
/-- The same by the list of members, after j of them. -/
def pairMem (r a j : Nat) : List Nat := (((bitsOf r).take j).filter fun b => decide (a ≤ b)).map (pairOf a)
theorem pairMem_yes (r a j b : Nat) (hb : (bitsOf r)[j]? = some b) (h : a ≤ b) : pairMem r a (j + 1) = pairMem r a j ++ [pairOf a b] := by
  unfold pairMem; rw [List.take_add_one, hb, List.filter_append, List.map_append]; simp [h]
theorem pairMem_no (r a j b : Nat) (hb : (bitsOf r)[j]? = some b) (h : ¬ a ≤ b) : pairMem r a (j + 1) = pairMem r a j := by
  unfold pairMem; rw [List.take_add_one, hb, List.filter_append, List.map_append]; simp [h]
theorem pairMem_le (r a j : Nat) : (pairMem r a j).length ≤ j := by
  unfold pairMem; rw [List.length_map]
  exact Nat.le_trans (List.length_filter_le _ _) (by rw [List.length_take]; omega)
theorem pairMem_full (r a j : Nat) (hj : (bitsOf r).length ≤ j) : pairMem r a j = pairRow r a 24 := by
  unfold pairMem pairRow
  rw [List.take_of_length_le hj]
  unfold bitsOf upTo
  rw [List.filter_filter]
theorem own_block (A : Option Addr) (n c : Nat) : (Value.slice A n c).ownBlock = A.map (·.block) := by cases A <;> rfl
theorem alloc_grown {w w' : World} {o : Obj} {row : Option Nat} (hg : (w.alloc o).grownBy w' row) : w.grownBy w' row := by
  have hb := below1 w o
  exact ⟨hg.os.trans hb.os, hg.tape.trans hb.tape, hg.output.trans hb.output, Nat.le_trans hb.size hg.size, fun k hk hne => (hg.block k (Nat.lt_of_lt_of_le hk hb.size) hne).trans (hb.block k hk)⟩
end Go.Proofs.YtdafdffmkjhhcaaDoor
namespace Go.Proofs.YtdafdffmkjhhcaaDoor
open Go Go.RowKit
set_option linter.unusedVariables false
set_option maxRecDepth 100000

def prjS (us : List Nat) (M : Nat) : List Nat := us.filter fun a => M.testBit a
theorem prjS_len (us : List Nat) (M : Nat) : (prjS us M).length ≤ us.length := List.length_filter_le _ _
theorem prjS_in (us : List Nat) (M k : Nat) (hk : k < us.length) (h : M.testBit (us.getD k 0) = true) : prjS (us.take (k + 1)) M = prjS (us.take k) M ++ [us.getD k 0] := by
  unfold prjS
  rw [List.take_add_one, List.getElem?_eq_getElem hk, List.filter_append]
  rw [List.getD_eq_getElem?_getD, List.getElem?_eq_getElem hk] at h ⊢
  have h' : M.testBit us[k] = true := h
  simp [h']
theorem prjS_out (us : List Nat) (M k : Nat) (hk : k < us.length) (h : M.testBit (us.getD k 0) = false) : prjS (us.take (k + 1)) M = prjS (us.take k) M := by
  unfold prjS
  rw [List.take_add_one, List.getElem?_eq_getElem hk, List.filter_append]
  rw [List.getD_eq_getElem?_getD, List.getElem?_eq_getElem hk] at h
  have h' : M.testBit us[k] = false := h
  simp [h']
end Go.Proofs.YtdafdffmkjhhcaaDoor
namespace Go.Proofs.YtdafdffmkjhhcaaDoor
open Go.RowKit
set_option linter.unusedVariables false
set_option linter.unusedSimpArgs false
set_option maxRecDepth 100000

/-- A row of slices of the call's own: address, capacity and numbers of each. -/
def valsT (ts : List (Option Addr × Nat × List Int)) : List Value := ts.map fun t => Value.slice t.1 t.2.2.length t.2.1
def OwnT (w : World) (lo hi : Nat) (A : Option Addr) (n c : Nat) (ts : List (Option Addr × Nat × List Int)) : Prop :=
  ts.length = n ∧ w.ownsRow lo 22 1 (.slice A n c) n (valsT ts) ∧ (∀ q, A.map (·.block) = some q → q < hi) ∧
  ∀ (j : Nat) (t : Option Addr × Nat × List Int), ts[j]? = some t → Own 2 w lo t.1 t.2.2.length t.2.1 t.2.2 ∧ ∀ q, t.1.map (·.block) = some q → q < hi ∧ A.map (·.block) ≠ some q ∧ ∀ (l : Nat) (u : Option Addr × Nat × List Int), l ≠ j → ts[l]? = some u → u.1.map (·.block) ≠ some q
def OwnSS (w : World) (lo hi : Nat) (A : Option Addr) (n c : Nat) (xss : List (List Int)) : Prop := ∃ ts, ts.map (fun t => t.2.2) = xss ∧ OwnT w lo hi A n c ts
theorem row_block {w : World} {lo n c : Nat} {E : TypeId} {A : Option Addr} {vs : List Value} (h : w.ownsRow lo E 1 (.slice A n c) n vs) (q : Nat) (hq : A.map (·.block) = some q) : lo ≤ q ∧ q < w.heap.size := by
  refine World.ownsRow.lt h q ?_
  cases A with
  | none => cases hq
  | some a => simpa [Value.ownBlock] using hq
theorem row_kept {w w' : World} {lo n c : Nat} {E : TypeId} {A : Option Addr} {vs : List Value} (h : w.ownsRow lo E 1 (.slice A n c) n vs) {row : Option Nat} (hg : w.grownBy w' row) (hne : ∀ q, A.map (·.block) = some q → row ≠ some q) : w'.ownsRow lo E 1 (.slice A n c) n vs := by
  refine World.ownsRow.kept h hg ?_
  cases A with
  | none => exact .inl rfl
  | some a =>
    refine .inr ?_
    intro e
    exact hne a.block rfl (by simpa [Value.ownBlock] using e.symm)
theorem OwnT.lt {w : World} {lo hi n c : Nat} {A : Option Addr} {ts : List (Option Addr × Nat × List Int)} (h : OwnT w lo hi A n c ts) (q : Nat) (hq : A.map (·.block) = some q) : lo ≤ q ∧ q < hi := ⟨(row_block h.2.1 q hq).1, h.2.2.1 q hq⟩
theorem OwnT.apart {w w' : World} {lo hi n c : Nat} {A : Option Addr} {ts : List (Option Addr × Nat × List Int)} (h : OwnT w lo hi A n c ts) {row : Option Nat} (hg : w.grownBy w' row) (hne : ∀ r, row = some r → r < lo ∨ hi ≤ r) : OwnT w' lo hi A n c ts := by
  refine ⟨h.1, row_kept h.2.1 hg (fun q hq e => ?_), h.2.2.1, fun j t ht => ⟨((h.2.2.2 j t ht).1).apart hg (fun q hq e => ?_), (h.2.2.2 j t ht).2⟩⟩
  · have h1 := h.lt q hq
    rcases hne q e with h2 | h2 <;> omega
  · have h1 := ((h.2.2.2 j t ht).1).lt q hq
    have h3 := ((h.2.2.2 j t ht).2 q hq).1
    rcases hne q e with h2 | h2 <;> omega
theorem OwnSS.apart {w w' : World} {lo hi n c : Nat} {A : Option Addr} {xss : List (List Int)} (h : OwnSS w lo hi A n c xss) {row : Option Nat} (hg : w.grownBy w' row) (hne : ∀ r, row = some r → r < lo ∨ hi ≤ r) : OwnSS w' lo hi A n c xss := by
  obtain ⟨ts, e, ho⟩ := h
  exact ⟨ts, e, ho.apart hg hne⟩
theorem OwnSS.below {w w' : World} {lo hi n c : Nat} {A : Option Addr} {xss : List (List Int)} (h : OwnSS w lo hi A n c xss) (hb : Below w.heap.size w w') : OwnSS w' lo hi A n c xss :=
  h.apart (grownBy_of_below hb) (fun r e => by cases e)
theorem OwnSS.len {w : World} {lo hi n c : Nat} {A : Option Addr} {xss : List (List Int)} (h : OwnSS w lo hi A n c xss) : xss.length = n := by
  obtain ⟨ts, e, ho⟩ := h
  rw [← e, List.length_map]; exact ho.1
/-- What a row of slices reads as. -/
def RdSS (w : World) (A : Option Addr) (n : Nat) (xss : List (List Int)) : Prop := ∃ ts, ts.map (fun t => t.2.2.2) = xss ∧ RdT w A n ts
theorem RdSS.below {w w' : World} {A : Option Addr} {n : Nat} {xss : List (List Int)} (h : RdSS w A n xss) (hb : Below w.heap.size w w') : RdSS w' A n xss := by
  obtain ⟨ts, e, ho⟩ := h
  exact ⟨ts, e, ho.below hb⟩
theorem OwnT.rdT {w : World} {lo hi n c : Nat} {A : Option Addr} {ts : List (Option Addr × Nat × List Int)} (h : OwnT w lo hi A n c ts) (hs : ∀ t, t ∈ ts → t.2.2.length ≤ maxLen) : RdT w A n (ts.map fun t => (t.1, t.2.2.length, t.2.1, t.2.2)) := by
  refine ⟨by rw [List.length_map]; exact h.1, fun t ht => ?_, fun hn => ?_⟩
  · obtain ⟨u, hu, rfl⟩ := List.mem_map.1 ht
    obtain ⟨j, hj⟩ := List.mem_iff_getElem?.1 hu
    exact ⟨(h.2.2.2 j u hj).1.rd, hs u hu⟩
  · obtain ⟨g, cap, hv, hbg, hlt⟩ := World.ownsRow.form h.2.1 hn
    have hA : A = some ⟨g, 0, none⟩ := by injection hv
    subst hA
    refine ⟨g, 0, rfl, hlt, fun j t ht => ?_⟩
    rw [List.getElem?_map] at ht
    cases hu : ts[j]? with
    | none => rw [hu] at ht; cases ht
    | some u =>
      rw [hu] at ht
      injection ht with ht
      subst ht
      have := World.ownsRow.cells h.2.1 (g := g) rfl j (Value.slice u.1 u.2.2.length u.2.1) (by unfold valsT; rw [List.getElem?_map, hu]; rfl)
      rw [add_zero_off] at this
      rw [Nat.zero_add]; exact this
theorem OwnSS.rd {w : World} {lo hi n c : Nat} {A : Option Addr} {xss : List (List Int)} (h : OwnSS w lo hi A n c xss) (hs : ∀ xs, xs ∈ xss → xs.length ≤ maxLen) : RdSS w A n xss := by
  obtain ⟨ts, e, ho⟩ := h
  refine ⟨_, ?_, ho.rdT (fun t ht => hs _ (by rw [← e]; exact List.mem_map_of_mem ht))⟩
  rw [List.map_map, ← e]; rfl
/-- An element's numbers are turned in place. -/
theorem OwnT.set_ {w w' : World} {lo hi n c j : Nat} {A : Option Addr} {ts : List (Option Addr × Nat × List Int)} {t : Option Addr × Nat × List Int} {ys : List Int} (h : OwnT w lo hi A n c ts) (ht : ts[j]? = some t) (hl : ys.length = t.2.2.length) (ho : Own 2 w' lo t.1 ys.length t.2.1 ys) (hg : w.grownBy w' (t.1.map (·.block))) : OwnT w' lo hi A n c (ts.set j (t.1, t.2.1, ys)) := by
  have hj : j < ts.length := by
    rcases Nat.lt_or_ge j ts.length with h9 | h9
    · exact h9
    · rw [List.getElem?_eq_none h9] at ht; cases ht
  have hv : valsT (ts.set j (t.1, t.2.1, ys)) = valsT ts := by
    unfold valsT
    refine List.ext_getElem? fun k => ?_
    rw [List.getElem?_map, List.getElem?_map, List.getElem?_set]
    by_cases e : j = k
    · subst e
      rw [if_pos rfl, if_pos hj, ht]
      show some (Value.slice t.1 ys.length t.2.1) = _
      rw [hl]; rfl
    · rw [if_neg e]
  have ht2 := (h.2.2.2 j t ht).2
  refine ⟨by rw [List.length_set]; exact h.1, ?_, h.2.2.1, fun k u hu => ?_⟩
  · rw [hv]
    exact row_kept h.2.1 hg (fun q hq e => (ht2 q e).2.1 hq)
  · rw [List.getElem?_set] at hu
    by_cases e : j = k
    · subst e
      rw [if_pos rfl, if_pos hj] at hu
      injection hu with hu
      subst hu
      refine ⟨ho, fun q hq => ⟨(ht2 q hq).1, (ht2 q hq).2.1, fun l v hlj hv9 => ?_⟩⟩
      rw [List.getElem?_set, if_neg (fun e => hlj e.symm)] at hv9
      exact (ht2 q hq).2.2 l v hlj hv9
    · rw [if_neg e] at hu
      have h9 := h.2.2.2 k u hu
      refine ⟨h9.1.apart hg (fun q hq e9 => (ht2 q e9).2.2 k u (fun e2 => e e2.symm) hu hq), fun q hq => ⟨(h9.2 q hq).1, (h9.2 q hq).2.1, fun l v hlk hv9 => ?_⟩⟩
      rw [List.getElem?_set] at hv9
      by_cases e2 : j = l
      · subst e2
        rw [if_pos rfl, if_pos hj] at hv9
        injection hv9 with hv9
        subst hv9
        exact (h9.2 q hq).2.2 j t hlk ht
      · rw [if_neg e2] at hv9
        exact (h9.2 q hq).2.2 l v hlk hv9
/-- The marks that the laws put into a row of slices. -/
def marksSS (k : Nat) : List (List Int) → List (List Int)
  | [] => []
  | xs :: r => marks k xs.length :: marksSS (k + xs.length) r
def sumL (xss : List (List Int)) : Nat := (xss.map List.length).sum
theorem marksSS_len (k : Nat) (xss : List (List Int)) : (marksSS k xss).length = xss.length := by
  induction xss generalizing k with
  | nil => rfl
  | cons x r ih => show (marksSS _ r).length + 1 = _; rw [ih]; rfl
theorem sumL_take (xss : List (List Int)) (j : Nat) (xs : List Int) (h : xss[j]? = some xs) : sumL (xss.take (j + 1)) = sumL (xss.take j) + xs.length := by
  unfold sumL
  rw [List.take_add_one, h, List.map_append, List.sum_append]; simp
theorem sumL_le (xss : List (List Int)) (j : Nat) : sumL (xss.take j) ≤ sumL xss := by
  have e := List.take_append_drop j xss
  have : sumL xss = sumL (xss.take j) + sumL (xss.drop j) := by
    unfold sumL
    rw [← List.sum_append, ← List.map_append, e]
  omega
theorem marksSS_at (k : Nat) (xss : List (List Int)) (j : Nat) (xs : List Int) (h : xss[j]? = some xs) : (marksSS k xss)[j]? = some (marks (k + sumL (xss.take j)) xs.length) := by
  induction xss generalizing k j with
  | nil => cases h
  | cons x r ih =>
    cases j with
    | zero =>
      injection h with h
      subst h
      show some _ = _
      simp [sumL]
    | succ j =>
      have := ih (k + x.length) j h
      show (marksSS (k + x.length) r)[j]? = _
      rw [this]
      have e : sumL ((x :: r).take (j + 1)) = x.length + sumL (r.take j) := by simp [sumL]
      rw [e, Nat.add_assoc]
theorem len_sumL (xss : List (List Int)) (xs : List Int) (h : xs ∈ xss) : xs.length ≤ sumL xss := by
  obtain ⟨j, hj⟩ := List.mem_iff_getElem?.1 h
  have h1 := sumL_take xss j xs hj
  have h2 := sumL_le xss (j + 1)
  omega
/-- Nothing has been turned but blocks from lo on, ahead of hi. -/
structure Touched (lo hi : Nat) (w w' : World) : Prop where
  os : w'.os = w.os
  tape : w'.tape = w.tape
  output : w'.output = w.output
  size : w.heap.size ≤ w'.heap.size
  block : ∀ k, k < w.heap.size → (k < lo ∨ hi ≤ k) → w'.heap[k]? = w.heap[k]?
theorem Touched.refl (lo hi : Nat) (w : World) : Touched lo hi w w := ⟨rfl, rfl, rfl, Nat.le_refl _, fun _ _ _ => rfl⟩
theorem Touched.grown {lo hi : Nat} {w w1 w' : World} {row : Option Nat} (h : Touched lo hi w w1) (hg : w1.grownBy w' row) (hr : ∀ r, row = some r → lo ≤ r ∧ r < hi) : Touched lo hi w w' :=
  ⟨hg.os.trans h.os, hg.tape.trans h.tape, hg.output.trans h.output, Nat.le_trans h.size hg.size, fun k hk hne => by
    rw [hg.block k (Nat.lt_of_lt_of_le hk h.size) (fun e => by have := hr k e.symm; omega)]
    exact h.block k hk hne⟩
set_option maxHeartbeats 1600000 in
theorem eqSS_true (A B : Option Addr) (n c d : Nat) (xss : List (List Int)) (w : World) (h : RdSS w A n xss) (h2 : RdSS w B n xss) (hn : n ≤ 9223372036854775807) :
    Calls Tryd.prog 20 #[.slice A n c, .slice B n d] w fun e w' => e = .returned (.bool true) ∧ Below w.heap.size w w' := by
  obtain ⟨ts, e1, ht⟩ := h
  obtain ⟨us, e2, hu⟩ := h2
  have HE : Hid (ts.map (fun t => t.2.2.2) = us.map (fun t => t.2.2.2)) := Lib.hid (e1.trans e2.symm)
  clear e1 e2
  go_enter Tryd.func20, Tryd.ntmps20
  go_wp2
  go_loopw [5] (fun i wr => ∃ k : Nat, k ≤ n ∧ i = .int .i64 k ∧ Below w.heap.size w wr) (fun i _ => n - (intOf i).toNat)
  case atStart => exact ⟨0, Nat.zero_le _, rfl, Below.refl _ _⟩
  case round =>
    obtain ⟨k, hk, rfl, hb⟩ := hrel
    by_cases hlt : k < n
    · obtain ⟨b, off, C, q, c1, xs, rfl, hbs, hx, hcx, hrd, hq⟩ := (ht.below hb).at_ hlt
      obtain ⟨b2, off2, C2, q2, c2, ys, rfl, hbs2, hx2, hcx2, hrd2, hq2⟩ := (hu.below hb).at_ hlt
      have e9 : xs = ys := by
        have := congrArg (fun l => l[k]?) HE.out
        simp only [List.getElem?_map, hx, hx2] at this
        injection this
      subst e9
      have e8 : q2 = q := hrd2.1.symm.trans hrd.1
      subst e8
      have hq3 : q2 ≤ 9223372036854775807 := by unfold maxLen at hq; omega
      have hdw : Below wr.heap.size wr wr.drew := (Below.refl _ _).drew
      clear hx hx2
      go_wp2_with fail
      go_still_tail 8, (by kernel_rfl)
      change wpList _ _ _ _ _ wr.drew
      go_wp2_with fail
      refine (eq_true _ _ _ _ _ xs _ (hrd.below hdw) (hrd2.below hdw) hq3).mono ?_
      rintro e w4 ⟨rfl, hb4⟩
      have hb5 := hb.trans ((hdw.trans (hb4.mono hdw.size)).mono hb.size)
      go_wp2_with fail
      go_roundw
      case rel => exact ⟨k + 1, by omega, by go_num, hb5⟩
      case measure => simp [intOf]; omega
    · obtain rfl : k = n := by omega
      go_wp2_with fail
      go_ret
      exact ⟨rfl, hb⟩
set_option maxHeartbeats 1600000 in
theorem markSS_any (lo hi : Nat) (A : Option Addr) (n c k0 : Nat) (xss : List (List Int)) (w : World) (h : OwnSS w lo hi A n c xss) (hs : sumL xss ≤ 1048576) (hn : n ≤ 1048576) (hk : k0 ≤ 1048576) :
    Calls Tryd.prog 26 #[.slice A n c, .int .i64 (k0 : Int)] w fun e w' => e = .returned (.int .i64 ((k0 + sumL xss : Nat) : Int)) ∧ OwnSS w' lo hi A n c (marksSS k0 xss) ∧ Touched lo hi w w' := by
  obtain ⟨ts0, e0, h0⟩ := h
  have hlen : xss.length = n := by rw [← e0, List.length_map]; exact h0.1
  have HL := Lib.hid hlen
  have HS : Hid (∀ xs, xs ∈ xss → xs.length ≤ 1048576) := Lib.hid (fun xs hx => Nat.le_trans (len_sumL xss xs hx) hs)
  have HE0 := Lib.hid e0
  clear hlen e0
  go_enter Tryd.func26, Tryd.ntmps26
  go_wp2
  go_loopw [1, 5] (fun q i wr => ∃ (t : Nat) (ts : List (Option Addr × Nat × List Int)), t ≤ n ∧ i = .int .i64 t ∧ q = .int .i64 ((k0 + sumL (xss.take t) : Nat) : Int) ∧ ts.map (fun t => t.2.2) = (marksSS k0 xss).take t ++ xss.drop t ∧ OwnT wr lo hi A n c ts ∧ Touched lo hi w wr) (fun _ i _ => n - (intOf i).toNat)
  case atStart => exact ⟨0, ts0, Nat.zero_le _, rfl, rfl, by rw [HE0.out]; rfl, h0, Touched.refl _ _ _⟩
  case round =>
    obtain ⟨t, ts, hle, rfl, rfl, he, ho, htt⟩ := hrel
    have HE := Lib.hid he
    clear he
    by_cases hlt : t < n
    · obtain ⟨ys, hys⟩ : ∃ ys, xss[t]? = some ys := ⟨_, List.getElem?_eq_getElem (by rw [HL.out]; exact hlt)⟩
      obtain ⟨u, hu⟩ : ∃ u, ts[t]? = some u := ⟨_, List.getElem?_eq_getElem (by rw [ho.1]; exact hlt)⟩
      have huy : u.2.2 = ys := by
        have h9 := congrArg (fun l => l[t]?) HE.out
        simp only [List.getElem?_map, hu] at h9
        rw [List.getElem?_append_right (by rw [List.length_take, marksSS_len, HL.out]; omega)] at h9
        rw [List.length_take, marksSS_len, HL.out, Nat.min_eq_left hle, Nat.sub_self, List.getElem?_drop, Nat.add_zero, hys] at h9
        injection h9
      have hou := (ho.2.2.2 t u hu).1
      have hub := (ho.2.2.2 t u hu).2
      have hsm := HS.out ys (List.mem_of_getElem? hys)
      have h2 := sumL_take xss t ys hys
      have h3 := sumL_le xss (t + 1)
      obtain ⟨g, cap, hv, hbg, hlt2⟩ := World.ownsRow.form ho.2.1 (by omega : 0 < n)
      have hA : A = some ⟨g, 0, none⟩ := by injection hv
      have hcx := World.ownsRow.cells ho.2.1 (g := g) (by rw [hA]; rfl) t (Value.slice u.1 u.2.2.length u.2.1) (by unfold valsT; rw [List.getElem?_map, hu]; rfl)
      rw [add_zero_off] at hcx
      subst hA
      rw [huy] at hou hcx
      obtain ⟨K, hK⟩ : ∃ K, K = k0 + sumL (xss.take t) := ⟨_, rfl⟩
      have HN : Hid (k0 + sumL (xss.take (t + 1)) = K + ys.length) := Lib.hid (by rw [hK, h2]; omega)
      have hKb : K ≤ 1073741824 := by omega
      have hmark := mark_any 2 lo u.1 ys.length u.2.1 K ys wr hou hsm hKb
      have hmat := marksSS_at k0 xss t ys hys
      rw [← hK] at hmat ⊢
      have HMAT := Lib.hid hmat
      have HU := Lib.hid hu
      have HUY := Lib.hid huy
      have HYS := Lib.hid hys
      obtain ⟨Q, hQ⟩ : ∃ Q, Q = ys.length := ⟨_, rfl⟩
      have HQ := Lib.hid hQ
      rw [← hQ] at hcx hmark HN
      have hQb : Q ≤ 1048576 := by omega
      obtain ⟨U, cu, us⟩ := u
      have hcx' : wr.cell? ⟨g, t, none⟩ = some (.slice U Q cu) := hcx
      have HUB := Lib.hid hub
      clear hys hu h2 h3 hK hQ hmat huy hou hub hsm hv hcx
      go_wp2_with fail
      refine hmark.mono ?_
      rintro e w4 ⟨rfl, hom, hgm⟩
      have HSET : Hid (OwnT w4 lo hi (some ⟨g, 0, none⟩) n c (ts.set t (U, cu, marks K Q))) := Lib.hid (ho.set_ HU.out (by rw [marks_len, HQ.out]; exact congrArg List.length HUY.out.symm) (by rw [marks_len]; exact hom) hgm)
      have htt2 := htt.grown hgm (fun r hr => ⟨((ho.2.2.2 t _ HU.out).1.lt r hr).1, (HUB.out r hr).1⟩)
      clear ho hom hgm htt hmark
      go_wp2_with fail
      go_roundw
      case rel => exact ⟨t + 1, ts.set t (U, cu, marks K Q), by omega, by go_num, by rw [HN.out, Int.natCast_add], by
        rw [List.map_set, HE.out]
        show (List.take t (marksSS k0 xss) ++ List.drop t xss).set t (marks K Q) = _
        have hl1 : (List.take t (marksSS k0 xss)).length = t := by rw [List.length_take, marksSS_len, HL.out]; omega
        rw [List.set_append, if_neg (by omega), hl1, Nat.sub_self]
        have hd1 : List.drop t xss = (xss[t]'(by rw [HL.out]; exact hlt)) :: List.drop (t + 1) xss := List.drop_eq_getElem_cons _
        rw [hd1, List.set_cons_zero, List.take_add_one, HMAT.out, ← HQ.out]
        simp, HSET.out, htt2⟩
      case measure => simp [intOf]; omega
    · obtain rfl : t = n := by omega
      have e9 : xss.take t = xss := List.take_of_length_le (by rw [HL.out]; exact Nat.le_refl _)
      rw [e9]
      clear e9
      go_wp2_with fail
      go_ret
      refine ⟨rfl, ⟨ts, ?_, ho⟩, htt⟩
      rw [HE.out, List.drop_of_length_le (by rw [HL.out]; exact Nat.le_refl _), List.append_nil, List.take_of_length_le (by rw [marksSS_len, HL.out]; exact Nat.le_refl _)]
set_option maxHeartbeats 1600000 in
theorem heldSS_any (A : Option Addr) (n c k0 : Nat) (xss : List (List Int)) (w : World) (h : RdSS w A n (marksSS k0 xss)) (hs : sumL xss ≤ 1048576) (hl : xss.length = n) (hn : n ≤ 1048576) (hk : k0 ≤ 1048576) :
    Calls Tryd.prog 33 #[.slice A n c, .int .i64 (k0 : Int)] w fun e w' => e = .returned (.int .i64 ((k0 + sumL xss : Nat) : Int)) ∧ w = w' := by
  obtain ⟨ts, e1, ht⟩ := h
  have HE := Lib.hid e1
  have HL := Lib.hid hl
  clear e1 hl
  go_enter Tryd.func33, Tryd.ntmps33
  go_wp2
  go_loop [1, 5] (fun q i => ∃ t : Nat, t ≤ n ∧ i = .int .i64 t ∧ q = .int .i64 ((k0 + sumL (xss.take t) : Nat) : Int)) (fun _ i => n - (intOf i).toNat)
  case atStart => exact ⟨0, Nat.zero_le _, rfl, rfl⟩
  case round =>
    obtain ⟨t, hle, rfl, rfl⟩ := hrel
    by_cases hlt : t < n
    · obtain ⟨b, off, C, q, c1, xs, rfl, hbs, hx, hcx, hrd, hq⟩ := ht.at_ hlt
      obtain ⟨ys, hys⟩ : ∃ ys, xss[t]? = some ys := ⟨_, List.getElem?_eq_getElem (by rw [HL.out]; exact hlt)⟩
      have h1 := marksSS_at k0 xss t ys hys
      rw [← HE.out, List.getElem?_map, hx] at h1
      injection h1 with h1
      have h1' : xs = marks (k0 + sumL (xss.take t)) ys.length := h1
      subst h1'
      have hq1 : q = ys.length := by have := hrd.1; rw [marks_len] at this; exact this.symm
      subst hq1
      have h2 := sumL_take xss t ys hys
      have h3 := sumL_le xss (t + 1)
      obtain ⟨K, hK⟩ : ∃ K, K = k0 + sumL (xss.take t) := ⟨_, rfl⟩
      have HN : Hid (k0 + sumL (xss.take (t + 1)) = K + ys.length) := Lib.hid (by rw [hK, h2]; omega)
      have hKb : K ≤ 1073741824 := by omega
      have hyl : ys.length ≤ 1048576 := by omega
      rw [← hK] at hrd ⊢
      have hheld := held_any C ys.length c1 K w hrd hyl hKb
      obtain ⟨Q, hQ⟩ : ∃ Q, Q = ys.length := ⟨_, rfl⟩
      rw [← hQ] at hcx hheld HN hyl
      have hge : decide (((K + Q : Nat) : Int) < 0) = false := decide_eq_false (by omega)
      have hge2 : decide ((K : Int) + (Q : Int) < 0) = false := decide_eq_false (by omega)
      clear hx hys h1 h2 h3 hK hQ hrd
      go_wp2_with fail
      refine hheld.mono ?_
      rintro e w' ⟨rfl, rfl⟩
      go_wp2_with fail
      go_round
      case rel => exact ⟨t + 1, by omega, by go_num, by rw [HN.out, Int.natCast_add]⟩
      case measure => simp [intOf]; omega
    · obtain rfl : t = n := by omega
      have e9 : xss.take t = xss := List.take_of_length_le (by rw [HL.out]; exact Nat.le_refl _)
      rw [e9]
      clear e9
      go_wp2_with fail
      go_ret
      exact ⟨rfl, rfl⟩
end Go.Proofs.YtdafdffmkjhhcaaDoor
namespace Go.Proofs.YtdafdffmkjhhcaaDoor
open Go Go.RowKit
set_option linter.unusedVariables false
set_option maxRecDepth 100000

/-- What a function that answers a list of lists and a code leaves. -/
def LssPost (w : World) (VN : Nat) (VX : List (List Int)) (C : Int) (e : Ending) (w' : World) : Prop :=
  ∃ A c, e = .returned (.tuple #[.slice A VN c, .int .i64 C]) ∧ OwnSS w' w.heap.size w'.heap.size A VN c VX ∧ Below w.heap.size w w'
section
variable {w w' : World} {lo hi : Nat}
theorem Touched.under {w0 : World} (ht : Touched lo hi w w') (hb : Below w0.heap.size w0 w) (hl : w0.heap.size ≤ lo) : Below w0.heap.size w0 w' :=
  ⟨ht.os.trans hb.os, ht.tape.trans hb.tape, ht.output.trans hb.output, Nat.le_trans hb.size ht.size, fun k hk => (ht.block k (Nat.lt_of_lt_of_le hk hb.size) (.inl (Nat.lt_of_lt_of_le hk hl))).trans (hb.block k hk)⟩
theorem Box.touched {T : TypeId} {g : Nat} {L : Int} {A : Option Addr} {n c : Nat} (h : Box T w g L A n c) (ht : Touched lo hi w w') (hne : g < lo ∨ hi ≤ g) : Box T w' g L A n c := by
  unfold Box; rw [ht.block g h.lt hne]; exact h
theorem row_touched {b n c : Nat} {E : TypeId} {A : Option Addr} {vs : List Value} (h : w.ownsRow b E 1 (.slice A n c) n vs) (ht : Touched lo hi w w') (hne : ∀ q, A.map (·.block) = some q → q < lo ∨ hi ≤ q) : w'.ownsRow b E 1 (.slice A n c) n vs := by
  refine ⟨h.1, ?_⟩
  rcases h.2 with h0 | ⟨g, cap, cur, e, hb, hg, rest⟩
  · exact .inl h0
  · have hA : A = some ⟨g, 0, none⟩ := by injection e
    have hq : A.map (·.block) = some g := by rw [hA]; rfl
    refine .inr ⟨g, cap, cur, e, hb, ?_, rest⟩
    rw [ht.block g (row_block h g hq).2 (hne g hq)]; exact hg
theorem OwnSS.touched {l u n c : Nat} {A : Option Addr} {xss : List (List Int)} (h : OwnSS w l u A n c xss) (ht : Touched lo hi w w') (hne : u ≤ lo ∨ hi ≤ l) : OwnSS w' l u A n c xss := by
  obtain ⟨ts, e, ho⟩ := h
  refine ⟨ts, e, ho.1, row_touched ho.2.1 ht (fun q hq => ?_), ho.2.2.1, fun j t hj => ⟨row_touched (ho.2.2.2 j t hj).1 ht (fun q hq => ?_), (ho.2.2.2 j t hj).2⟩⟩
  · have h1 := ho.lt q hq
    rcases hne with h2 | h2
    · left; omega
    · right; omega
  · have h1 := ((ho.2.2.2 j t hj).1).lt q hq
    have h3 := ((ho.2.2.2 j t hj).2 q hq).1
    rcases hne with h2 | h2
    · left; omega
    · right; omega
theorem OwnSS.wide {l u l' u' n c : Nat} {A : Option Addr} {xss : List (List Int)} (h : OwnSS w l u A n c xss) (h1 : l' ≤ l) (h2 : u ≤ u') : OwnSS w l' u' A n c xss := by
  obtain ⟨ts, e, ho⟩ := h
  refine ⟨ts, e, ho.1, ?_, fun q hq => Nat.lt_of_lt_of_le (ho.2.2.1 q hq) h2, fun j t hj => ⟨((ho.2.2.2 j t hj).1).mono h1, fun q hq => ⟨Nat.lt_of_lt_of_le ((ho.2.2.2 j t hj).2 q hq).1 h2, ((ho.2.2.2 j t hj).2 q hq).2⟩⟩⟩
  refine ⟨ho.2.1.1, ?_⟩
  rcases ho.2.1.2 with h0 | ⟨g, cap, cur, e, hg, rest⟩
  · exact .inl h0
  · exact .inr ⟨g, cap, cur, e, by omega, rest⟩
theorem OwnSS.nil (l u : Nat) : OwnSS w l u none 0 0 [] :=
  ⟨[], rfl, rfl, World.ownsRow_nil w l _ _, fun q hq => (by cases hq), fun j t hj => (by cases hj)⟩
end
theorem small_of {VX : List (List Int)} {SV : Nat} (h : sumL VX = SV) (hs : SV ≤ 1048576) : ∀ xs, xs ∈ VX → xs.length ≤ maxLen := fun xs hx => by
  have := len_sumL VX xs hx
  unfold maxLen; omega
theorem marksSS_mem : ∀ (VX : List (List Int)) (k : Nat) (ys : List Int), ys ∈ marksSS k VX → ∃ xs, xs ∈ VX ∧ ys.length = xs.length
  | [], _, _, h => by cases h
  | x :: r, k, ys, h => by
    rcases List.mem_cons.1 h with h | h
    · exact ⟨x, List.mem_cons_self, by rw [h, marks_len]⟩
    · obtain ⟨xs, h1, h2⟩ := marksSS_mem r _ ys h
      exact ⟨xs, List.mem_cons_of_mem _ h1, h2⟩
theorem small_marks {VX : List (List Int)} {SV : Nat} (h : sumL VX = SV) (hs : SV ≤ 1048576) : ∀ xs, xs ∈ marksSS 1 VX → xs.length ≤ maxLen := fun ys hy => by
  obtain ⟨xs, h1, h2⟩ := marksSS_mem VX 1 ys hy
  rw [h2]; exact small_of h hs xs h1
theorem markSS_one (lo hi : Nat) (A : Option Addr) (n c : Nat) (xss : List (List Int)) (w : World) (h : OwnSS w lo hi A n c xss) {SV : Nat} (hv : sumL xss = SV) (hs : SV ≤ 1048576) (hn : n ≤ 1048576) :
    Calls Tryd.prog 26 #[.slice A n c, .int .i64 1] w fun e w' => e = .returned (.int .i64 ((1 + SV : Nat) : Int)) ∧ OwnSS w' lo hi A n c (marksSS 1 xss) ∧ Touched lo hi w w' := by
  rw [← hv]
  exact markSS_any lo hi A n c 1 xss w h (by omega) hn (by omega)
theorem heldSS_one (A : Option Addr) (n c : Nat) (xss : List (List Int)) (w : World) (h : RdSS w A n (marksSS 1 xss)) {SV : Nat} (hv : sumL xss = SV) (hs : SV ≤ 1048576) (hn : n ≤ 1048576) :
    Calls Tryd.prog 33 #[.slice A n c, .int .i64 1] w fun e w' => e = .returned (.int .i64 ((1 + SV : Nat) : Int)) ∧ w = w' := by
  have hl : xss.length = n := by
    obtain ⟨ts, e, ht⟩ := h
    have := congrArg List.length e
    rw [List.length_map, ht.1, marksSS_len] at this
    exact this.symm
  rw [← hv]
  exact heldSS_any A n c 1 xss w h (by omega) hl hn (by omega)
end Go.Proofs.YtdafdffmkjhhcaaDoor
namespace Go.Proofs.YtdafdffmkjhhcaaDoor
open Go Go.RowKit
set_option linter.unusedVariables false
set_option maxRecDepth 100000

theorem info_sls : (Tryd.prog.info? 22).map (fun i => (i.zero, i.size, i.bytes)) = some (some (.slice none 0 0), 1, 24) := by kernel_rfl
/-- One more slice behind a row of slices: the element is new behind the row's elements; the row itself may have moved. -/
theorem OwnSS.snoc {w w1 w2 : World} {lo n N c : Nat} {A : Option Addr} {v' : Value} {At : Option Addr} {ct : Nat} {ys : List Int}
    {ts : List (Option Addr × Nat × List Int)} (h : OwnT w lo w.heap.size A n c ts) (hb : Below w.heap.size w w1) (ho : Own 2 w1 w.heap.size At N ct ys) (hlo : lo ≤ w.heap.size)
    (hrow : w2.ownsRow lo 22 1 v' (n + 1) (valsT ts ++ [.slice At N ct])) (hg : w1.grownBy w2 (A.map (·.block)))
    (hat : v'.ownBlock = A.map (·.block) ∨ ∃ g, v'.ownBlock = some g ∧ w1.heap.size ≤ g) :
    ∃ A' c', v' = .slice A' (n + 1) c' ∧ OwnSS w2 lo w2.heap.size A' (n + 1) c' (ts.map (fun t => t.2.2) ++ [ys]) := by
  obtain ⟨g9, c', rfl, _, _⟩ := World.ownsRow.form hrow (Nat.succ_pos n)
  obtain ⟨A', hA9⟩ : ∃ A', A' = some (⟨g9, 0, none⟩ : Addr) := ⟨_, rfl⟩
  rw [← hA9] at hrow hat ⊢
  have ht := h
  have hN : ys.length = N := ho.len
  have hsz : w.heap.size ≤ w1.heap.size := hb.size
  have hsz2 : w1.heap.size ≤ w2.heap.size := hg.size
  have hA : ∀ q, A.map (·.block) = some q → lo ≤ q ∧ q < w.heap.size := fun q hq => row_block ht.2.1 q hq
  have hAt : ∀ q, At.map (·.block) = some q → w.heap.size ≤ q ∧ q < w1.heap.size := fun q hq => ho.lt q hq
  have hA' : ∀ q, A'.map (·.block) = some q → A.map (·.block) = some q ∨ w1.heap.size ≤ q := fun q hq => by
    rw [own_block] at hat
    rcases hat with h9 | ⟨g, h9, h8⟩
    · exact .inl (h9 ▸ hq)
    · rw [hq] at h9; injection h9 with h9; exact .inr (by omega)
  refine ⟨A', c', rfl, ts ++ [(At, ct, ys)], by rw [List.map_append]; rfl, by rw [List.length_append, ht.1]; rfl, ?_, fun q hq => (row_block hrow q hq).2, fun j t hj => ?_⟩
  · have : valsT (ts ++ [(At, ct, ys)]) = valsT ts ++ [.slice At N ct] := by unfold valsT; rw [List.map_append, ← hN]; rfl
    rw [this]; exact hrow
  · rcases Nat.lt_or_ge j ts.length with hlt | hge
    · rw [List.getElem?_append_left hlt] at hj
      have h9 := ht.2.2.2 j t hj
      have hblk : ∀ q, t.1.map (·.block) = some q → q < w.heap.size := fun q hq => (h9.1.lt q hq).2
      refine ⟨(h9.1.below hb).apart hg (fun q hq e9 => (h9.2 q hq).2.1 e9), fun q hq => ⟨by have := hblk q hq; omega, fun e9 => ?_, fun l u hl hu => ?_⟩⟩
      · rcases hA' q e9 with h8 | h8
        · exact (h9.2 q hq).2.1 h8
        · have := hblk q hq; omega
      · rcases Nat.lt_or_ge l ts.length with hl2 | hl2
        · rw [List.getElem?_append_left hl2] at hu
          exact (h9.2 q hq).2.2 l u hl hu
        · rw [List.getElem?_append_right hl2] at hu
          cases hd : l - ts.length with
          | zero =>
            rw [hd] at hu
            injection hu with hu
            subst hu
            intro e8
            have := (hAt q e8).1; have := hblk q hq; omega
          | succ k => rw [hd] at hu; cases hu
    · rw [List.getElem?_append_right hge] at hj
      cases hd : j - ts.length with
      | zero =>
        rw [hd] at hj
        injection hj with hj
        subst hj
        have hjl : j = ts.length := by omega
        refine ⟨?_, fun q hq => ⟨by have := (hAt q hq).2; omega, fun e9 => ?_, fun l u hl hu e8 => ?_⟩⟩
        · show Own 2 w2 lo At ys.length ct ys
          rw [hN]
          exact (ho.mono hlo).apart hg (fun q hq e9 => by have := (hA q e9).2; have := (hAt q hq).1; omega)
        · have h7 := hAt q hq
          rcases hA' q e9 with h8 | h8
          · have := (hA q h8).2; omega
          · omega
        · rcases Nat.lt_or_ge l ts.length with hl2 | hl2
          · rw [List.getElem?_append_left hl2] at hu
            have := ((ht.2.2.2 l u hu).1.lt q e8).2
            have := (hAt q hq).1; omega
          · rw [List.getElem?_append_right hl2] at hu
            have : l - ts.length ≠ 0 := by omega
            cases hk : l - ts.length with
            | zero => exact this hk
            | succ k => rw [hk] at hu; cases hu
      | succ k => rw [hd] at hj; cases hj
def ppL (us ps : List Nat) : List (List Int) := ps.map fun p => ints (prjS us p)
theorem ppL_next (us ps : List Nat) (k p : Nat) (h : ps[k]? = some p) : ppL us (ps.take (k + 1)) = ppL us (ps.take k) ++ [ints (prjS us p)] := by
  unfold ppL; rw [List.take_add_one, h, List.map_append]; rfl
theorem ppL_len (us ps : List Nat) : (ppL us ps).length = ps.length := by unfold ppL; rw [List.length_map]
theorem ppL_sum (us : List Nat) : ∀ ps, sumL (ppL us ps) ≤ ps.length * us.length
  | [] => Nat.zero_le _
  | p :: r => by
    have e : sumL (ppL us (p :: r)) = (ints (prjS us p)).length + sumL (ppL us r) := by unfold sumL ppL; rw [List.map_cons, List.map_cons, List.sum_cons]
    rw [e, ints_len, List.length_cons, Nat.succ_mul]
    have := prjS_len us p; have := ppL_sum us r; omega
theorem pairsL_small (rs : List Nat) : ∀ k, k ≤ 24 → ∀ p, p ∈ pairsL rs k → p < 9223372036854775808
  | 0, _, p, h => by cases h
  | k + 1, hk, p, h => by
    rcases List.mem_append.1 h with h | h
    · exact pairsL_small rs k (by omega) p h
    · obtain ⟨b, hb, rfl⟩ := List.mem_map.1 h
      have hb24 := List.mem_range.1 (List.mem_filter.1 hb).1
      have h9 : pairOf k b < 2 ^ 63 := Nat.or_lt_two_pow (Nat.pow_lt_pow_right (by decide) (by omega)) (Nat.pow_lt_pow_right (by decide) (by omega))
      exact h9
end Go.Proofs.YtdafdffmkjhhcaaDoor
namespace Go.Proofs.YtdafdffmkjhhcaaDoor
open Go Go.RowKit
set_option linter.unusedVariables false

theorem cells3 {w : World} {g : Nat} {a b c : Value} {T : TypeId} (h : w.heap[g]? = some (.cells #[a, b, c] T (0, 0))) :
    w.cell? ⟨g, 0, none⟩ = some a ∧ w.cell? ⟨g, 1, none⟩ = some b ∧ w.cell? ⟨g, 2, none⟩ = some c ∧ (∀ k, w.frozen? ⟨g, k, none⟩ = false) := by
  refine ⟨?_, ?_, ?_, fun k => ?_⟩
  · simp [World.cell?, h]
  · simp [World.cell?, h]
  · simp [World.cell?, h]
  · simp [World.frozen?, h]
end Go.Proofs.YtdafdffmkjhhcaaDoor
