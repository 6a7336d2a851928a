/-
  JoinOf, ResidualAfter: the model's side. LeftQuotient: both sides. LeviOf: the model's side. LeviOf: how long its answer is at most.
-/
import Derived.Test.YtkifadmoedackaaDoorDv2
import Derived.Test.YtkifadmoedackaaDoorDvA
import Derived.Test.YtkifadmoedackaaDoorLv1
namespace Go.Proofs.YtkifadmoedackaaDoor
open Go Go.RowKit
set_option linter.unusedVariables false
set_option maxRecDepth 100000

theorem nfGo_lt (D : Nat → Nat → Bool) (n : Nat) : ∀ (k : Nat) (us : List Nat) (x : Nat), x ∈ nfGo D n k us → x < n
  | 0, _, x, h => by cases h
  | k + 1, us, x, h => by
    have h' : x ∈ (match leastFree D n us with | none => [] | some a => a :: nfGo D n k (us.erase a)) := h
    cases hl : leastFree D n us with
    | none => rw [hl] at h'; cases h'
    | some a =>
      rw [hl] at h'
      rcases List.mem_cons.1 h' with e | e
      · rw [e]; exact ((leastFree_iff D n us a).1 hl).1
      · exact nfGo_lt D n k _ x e
theorem nfR_eqv (rs : List Nat) (n : Nat) (hl : rs.length = n) (hsym : ∀ a b, RDep rs a b = RDep rs b a) (href : ∀ a, a < n → RDep rs a a = true) (us : List Nat) (hu : ∀ x, x ∈ us → x < n) : Eqv (RDep rs) (nfR rs us) us := by
  unfold nfR nfM; rw [hl]; exact nfGo_eqv hsym href us.length us rfl hu
theorem nfR_lt (rs : List Nat) (n : Nat) (hl : rs.length = n) (us : List Nat) : ∀ x, x ∈ nfR rs us → x < n := by
  unfold nfR nfM; rw [hl]; exact fun x hx => nfGo_lt _ _ _ _ x hx
theorem nfR_same (rs : List Nat) (n : Nat) (hl : rs.length = n) (hsym : ∀ a b, RDep rs a b = RDep rs b a) (href : ∀ a, a < n → RDep rs a a = true) (us vs : List Nat) (hu : ∀ x, x ∈ us → x < n) (hv : ∀ x, x ∈ vs → x < n) (h : Eqv (RDep rs) us vs) : nfR rs us = nfR rs vs := by
  unfold nfR; rw [hl]; exact (eqv_iff_nf hsym href us vs hu hv).1 h
end Go.Proofs.YtkifadmoedackaaDoor
namespace Go.Proofs.YtkifadmoedackaaDoor
open Go Go.RowKit
set_option linter.unusedVariables false
set_option maxRecDepth 100000

def lqF (rs us ts : List Nat) : List Nat × Int := match cutM (RDep rs) us ts with | none => ([], 4) | some r => (nfR rs r, 0)
theorem lqF_no (rs us ts : List Nat) (h : cutM (RDep rs) us ts = none) : lqF rs us ts = ([], 4) := by unfold lqF; rw [h]
theorem lqF_yes (rs us ts r : List Nat) (h : cutM (RDep rs) us ts = some r) : lqF rs us ts = (nfR rs r, 0) := by unfold lqF; rw [h]
theorem lqF_small (L : Int) (xs us ts : List Int) : (dL lqF L xs us ts).1.length ≤ 24 := dL_small lqF 24 (fun rs us ts _ h => by
  cases hc : cutM (RDep rs) us ts with
  | none => rw [lqF_no _ _ _ hc]; exact Nat.zero_le _
  | some r => rw [lqF_yes _ _ _ _ hc]; exact Nat.le_trans (nfR_len rs r) (Nat.le_trans (cut_len _ _ _ _ hc).1 h)) L xs us ts
theorem cmp_left (D : Nat → Nat → Bool) (us vs r : List Nat) (h : cutM D us vs = some r) : (cmpM D us vs).2.2 = r := by unfold cmpM; rw [cmp_cut D us [] vs r h]
end Go.Proofs.YtkifadmoedackaaDoor
namespace Go.Proofs.YtkifadmoedackaaDoor
open Go Go.RowKit
set_option linter.unusedVariables false
set_option maxRecDepth 100000

/-- The model's four parts have the normal forms of the program's. -/
theorem lev_spec (rs : List Nat) (n : Nat) (hl : rs.length = n) (hsym : ∀ a b, RDep rs a b = RDep rs b a) (href : ∀ a, a < n → RDep rs a a = true) (us vs ys zs p a b : List Nat) (hu : ∀ x, x ∈ us → x < n) (hv : ∀ x, x ∈ vs → x < n) (hy : ∀ x, x ∈ ys → x < n) (hz : ∀ x, x ∈ zs → x < n)
    (hm : Meets (RDep rs) us ys p a b) (hp : ∀ x, x ∈ p → x < n) (heq : nfR rs (us ++ vs) = nfR rs (ys ++ zs)) :
    ∃ q r s, cutM (RDep rs) p us = some q ∧ cutM (RDep rs) p ys = some r ∧ cutM (RDep rs) r vs = some s ∧ (levM (RDep rs) us vs ys).map (fun t => ints (nfR rs t)) = [ints (nfR rs p), ints (nfR rs q), ints (nfR rs r), ints (nfR rs s)] := by
  have happ : ∀ (x y : List Nat), (∀ t, t ∈ x → t < n) → (∀ t, t ∈ y → t < n) → ∀ t, t ∈ x ++ y → t < n := fun x y h1 h2 t ht => by
    rcases List.mem_append.1 ht with h | h
    · exact h1 t h
    · exact h2 t h
  have hmn := meet_nf rs n hl hsym href us ys p a b hu hy hm hp
  obtain ⟨q, hq, eq⟩ := cut_some (RDep rs) n hsym href p a us hp hm.fst
  obtain ⟨r, hr, er⟩ := cut_some (RDep rs) n hsym href p b ys hp hm.snd
  have lq : ∀ x, x ∈ q → x < n := fun x hx => hu x ((cut_len _ _ _ _ hq).2 x hx)
  have lr : ∀ x, x ∈ r → x < n := fun x hx => hy x ((cut_len _ _ _ _ hr).2 x hx)
  have hprod : Eqv (RDep rs) (us ++ vs) (ys ++ zs) := by
    rw [eqv_iff_nf hsym href _ _ (happ us vs hu hv) (happ ys zs hy hz)]
    unfold nfR at heq
    rw [hl] at heq; exact heq
  have hqv : Eqv (RDep rs) (q ++ vs) (r ++ zs) := by
    have h1 : Eqv (RDep rs) (p ++ (q ++ vs)) (p ++ (r ++ zs)) := by
      rw [← List.append_assoc, ← List.append_assoc]
      exact (((cut_eqv _ hsym p us q hq).append (Eqv.refl _ vs)).trans hprod).trans ((cut_eqv _ hsym p ys r hr).symm.append (Eqv.refl _ zs))
    exact h1.cancel (Eqv.refl _ p)
  have hap : ∀ c, freeB (RDep rs) q c = true → freeB (RDep rs) r c = false := fun c hc => by
    have hcn := href c (lq c (free_mem _ _ _ hc))
    rw [← er.free hcn]
    exact hm.apart c (by rw [eq.free hcn]; exact hc)
  obtain ⟨s0, hs0⟩ := levi_eqv (RDep rs) n hsym href r q vs zs lr lq hqv hap
  obtain ⟨s, hs, es⟩ := cut_some (RDep rs) n hsym href r s0 vs lr hs0
  have l2 : ∀ x, x ∈ (cmpM (RDep rs) us ys).2.2 → x < n := fun x hx => hy x ((cmp_len _ _ _).2.2.2.2 x hx)
  have l1 : ∀ x, x ∈ (cmpM (RDep rs) us ys).2.1 → x < n := fun x hx => hu x ((cmp_len _ _ _).2.2.2.1 x hx)
  obtain ⟨t, ht, et⟩ := cut_some (RDep rs) n hsym href (cmpM (RDep rs) us ys).2.2 s0 vs l2 (((hmn.2.2.symm.trans er).append (Eqv.refl _ s0)).trans hs0)
  have lt' : ∀ x, x ∈ t → x < n := fun x hx => hv x ((cut_len _ _ _ _ ht).2 x hx)
  have ls : ∀ x, x ∈ s → x < n := fun x hx => hv x ((cut_len _ _ _ _ hs).2 x hx)
  refine ⟨q, r, s, hq, hr, hs, ?_⟩
  unfold levM
  rw [cmp_left (RDep rs) _ _ t ht]
  show [ints (nfR rs (cmpM (RDep rs) us ys).1), ints (nfR rs (cmpM (RDep rs) us ys).2.1), ints (nfR rs (cmpM (RDep rs) us ys).2.2), ints (nfR rs t)] = _
  rw [← hmn.1, nfR_same rs n hl hsym href _ q l1 lq (hmn.2.1.symm.trans eq), nfR_same rs n hl hsym href _ r l2 lr (hmn.2.2.symm.trans er), nfR_same rs n hl hsym href t s lt' ls (et.symm.trans es)]
/-- Four words of the call's own, made one after another, in a row that is made last. -/
theorem four_own {w0 wa wb wc wd : World} {B : Nat} {G0 G1 G2 G3 : Option Addr} {N0 N1 N2 N3 l0 l1 l2 l3 : Nat} {z0 z1 z2 z3 : List Int} (hB : w0.heap.size ≤ B) (o0 : Own 2 wa B G0 N0 l0 z0) (hab : Below wa.heap.size wa wb) (o1 : Own 2 wb wa.heap.size G1 N1 l1 z1) (hbc : Below wb.heap.size wb wc) (o2 : Own 2 wc wb.heap.size G2 N2 l2 z2) (hcd : Below wc.heap.size wc wd) (o3 : Own 2 wd wc.heap.size G3 N3 l3 z3) (h0a : w0.heap.size ≤ wa.heap.size) :
    OwnSS (wd.alloc (.cells #[.slice G0 N0 l0, .slice G1 N1 l1, .slice G2 N2 l2, .slice G3 N3 l3] 22)) w0.heap.size (wd.alloc (.cells #[.slice G0 N0 l0, .slice G1 N1 l1, .slice G2 N2 l2, .slice G3 N3 l3] 22)).heap.size (some ⟨wd.heap.size, 0, none⟩) 4 4 [z0, z1, z2, z3] := by
  have s1 := hab.size
  have s2 := hbc.size
  have s3 := hcd.size
  have hz : (wd.alloc (.cells #[.slice G0 N0 l0, .slice G1 N1 l1, .slice G2 N2 l2, .slice G3 N3 l3] 22)).heap.size = wd.heap.size + 1 := by simp
  have hn := below1 wd (.cells #[.slice G0 N0 l0, .slice G1 N1 l1, .slice G2 N2 l2, .slice G3 N3 l3] 22)
  have p0 := (((o0.below hab).below hbc).below hcd).below hn
  have p1 := ((o1.below hbc).below hcd).below hn
  have p2 := (o2.below hcd).below hn
  have p3 := o3.below hn
  have e0 := o0.len
  have e1 := o1.len
  have e2 := o2.len
  have e3 := o3.len
  subst e0 e1 e2 e3
  have r0 : ∀ q, G0.map (·.block) = some q → q < wa.heap.size := fun q hq => (o0.lt q hq).2
  have r1 : ∀ q, G1.map (·.block) = some q → wa.heap.size ≤ q ∧ q < wb.heap.size := fun q hq => o1.lt q hq
  have r2 : ∀ q, G2.map (·.block) = some q → wb.heap.size ≤ q ∧ q < wc.heap.size := fun q hq => o2.lt q hq
  have r3 : ∀ q, G3.map (·.block) = some q → wc.heap.size ≤ q ∧ q < wd.heap.size := fun q hq => o3.lt q hq
  refine ⟨[(G0, l0, z0), (G1, l1, z1), (G2, l2, z2), (G3, l3, z3)], rfl, rfl, ⟨rfl, .inr ⟨wd.heap.size, 4, _, rfl, by omega, World.alloc_heap_new wd _, Nat.le_refl _, by unfold maxLen; omega, rfl, rfl⟩⟩, fun q hq => ?_, fun j t ht => ?_⟩
  · injection hq with hq
    have h9 : wd.heap.size = q := hq
    omega
  · have key : ∀ (l : Nat) (u : Option Addr × Nat × List Int), ([(G0, l0, z0), (G1, l1, z1), (G2, l2, z2), (G3, l3, z3)] : List (Option Addr × Nat × List Int))[l]? = some u → (l = 0 ∧ u = (G0, l0, z0)) ∨ (l = 1 ∧ u = (G1, l1, z1)) ∨ (l = 2 ∧ u = (G2, l2, z2)) ∨ (l = 3 ∧ u = (G3, l3, z3)) := fun l u hu => by
      match l, hu with
      | 0, hu => simp at hu; exact .inl ⟨rfl, hu.symm⟩
      | 1, hu => simp at hu; exact .inr (.inl ⟨rfl, hu.symm⟩)
      | 2, hu => simp at hu; exact .inr (.inr (.inl ⟨rfl, hu.symm⟩))
      | 3, hu => simp at hu; exact .inr (.inr (.inr ⟨rfl, hu.symm⟩))
      | l + 4, hu => simp at hu
    have hne : ∀ q, q < wd.heap.size → (some (⟨wd.heap.size, 0, none⟩ : Addr)).map (·.block) ≠ some q := fun q hq e => by
      injection e with e
      have h9 : wd.heap.size = q := e
      omega
    rcases key j t ht with ⟨rfl, rfl⟩ | ⟨rfl, rfl⟩ | ⟨rfl, rfl⟩ | ⟨rfl, rfl⟩
    · refine ⟨p0.mono hB, fun q hq => ⟨by have := r0 q hq; omega, hne q (by have := r0 q hq; omega), fun l u hl hu e => ?_⟩⟩
      have g0 := r0 q hq
      rcases key l u hu with ⟨rfl, rfl⟩ | ⟨rfl, rfl⟩ | ⟨rfl, rfl⟩ | ⟨rfl, rfl⟩
      · exact hl rfl
      · have := r1 q e; omega
      · have := r2 q e; omega
      · have := r3 q e; omega
    · refine ⟨p1.mono (by omega), fun q hq => ⟨by have := r1 q hq; omega, hne q (by have := r1 q hq; omega), fun l u hl hu e => ?_⟩⟩
      have g0 := r1 q hq
      rcases key l u hu with ⟨rfl, rfl⟩ | ⟨rfl, rfl⟩ | ⟨rfl, rfl⟩ | ⟨rfl, rfl⟩
      · have := r0 q e; omega
      · exact hl rfl
      · have := r2 q e; omega
      · have := r3 q e; omega
    · refine ⟨p2.mono (by omega), fun q hq => ⟨by have := r2 q hq; omega, hne q (by have := r2 q hq; omega), fun l u hl hu e => ?_⟩⟩
      have g0 := r2 q hq
      rcases key l u hu with ⟨rfl, rfl⟩ | ⟨rfl, rfl⟩ | ⟨rfl, rfl⟩ | ⟨rfl, rfl⟩
      · have := r0 q e; omega
      · have := r1 q e; omega
      · exact hl rfl
      · have := r3 q e; omega
    · refine ⟨p3.mono (by omega), fun q hq => ⟨by have := r3 q hq; omega, hne q (by have := r3 q hq; omega), fun l u hl hu e => ?_⟩⟩
      have g0 := r3 q hq
      rcases key l u hu with ⟨rfl, rfl⟩ | ⟨rfl, rfl⟩ | ⟨rfl, rfl⟩ | ⟨rfl, rfl⟩
      · have := r0 q e; omega
      · have := r1 q e; omega
      · have := r2 q e; omega
      · exact hl rfl
theorem step_append_rdg {w : World} {ops : Array Oper} {o : Oper} {a : Act} {K : Act → World → Prop} {Q : Exit → Act → World → Prop} {E : Prop} (hw : Region.wanted o (yielded ops a.tmps) = true) (s x : Operand)
    (ho : o.op = .call { callee := .builtin .append, args := #[s, x], argTypes := #[22, 22] }) (base : Nat) (A : Option Addr) (N cA : Nat) (all : List Nat) (hs : a.eval s = .slice A N cA) (hown : Own 2 w base A N cA (ints all))
    (A2 : Option Addr) (m c2 : Nat) (ss : List Nat) (hx : a.eval x = .slice A2 m c2) (h2 : Rd w A2 m (ints ss)) (h63 : N + m ≤ maxLen) (hby : (N + m) * 8 ≤ 140737488355328) (hbase : base ≤ w.heap.size)
    (h : ∀ v' w', (∃ A' c', v' = .slice A' (N + m) c' ∧ Own 2 w' base A' (N + m) c' (ints (all ++ ss))) → w.grownBy w' (Value.slice A N cA).ownBlock → K (a.put o.dst v') w') :
    if Region.wanted o (yielded ops a.tmps) = true then Oper.wp Tryd.prog o a w K Q else E := by
  have h9 := step_append_rd (ops := ops) (o := { o with guard := none }) (a := a) (K := K) (Q := Q) (E := E) rfl s x ho base A N cA all hs hown A2 m c2 ss hx h2 h63 hby hbase h
  have hw9 : Region.wanted { o with guard := none } (yielded ops a.tmps) = true := by simp [Region.wanted]
  rw [if_pos hw9] at h9
  rw [if_pos hw]
  exact h9
set_option maxHeartbeats 12800000 in
theorem specLeviOf (L : Int) (A : Option Addr) (n c : Nat) (xs : List Int) (AU : Option Addr) (mU dU : Nat) (us : List Int) (AV : Option Addr) (mV dV : Nat) (vs : List Int) (AY : Option Addr) (mY dY : Nat) (ys : List Int) (AZ : Option Addr) (mZ dZ : Nat) (zs : List Int) (w : World) (h : Rd w A n xs) (hwf : Wf xs) (hL1 : -9223372036854775808 ≤ L) (hL2 : L ≤ 9223372036854775807) (hn : n ≤ maxLen) (hU : Rd w AU mU us) (hwfU : Wf us) (hmU : mU ≤ maxLen) (hV : Rd w AV mV vs) (hwfV : Wf vs) (hmV : mV ≤ maxLen) (hY : Rd w AY mY ys) (hwfY : Wf ys) (hmY : mY ≤ maxLen) (hZ : Rd w AZ mZ zs) (hwfZ : Wf zs) (hmZ : mZ ≤ maxLen) :
    Calls Tryd.prog 29 #[.agg #[.int .i64 L, .slice A n c], .slice AU mU dU, .slice AV mV dV, .slice AY mY dY, .slice AZ mZ dZ] w (LssPost w (leAns L xs us vs ys zs).1.length (leAns L xs us vs ys zs).1 (leAns L xs us vs ys zs).2) := by
  have hn2 : n ≤ 9223372036854775807 := by unfold maxLen at hn; omega
  have hu2 : mU ≤ 9223372036854775807 := by unfold maxLen at hmU; omega
  have hv2 : mV ≤ 9223372036854775807 := by unfold maxLen at hmV; omega
  have hy2 : mY ≤ 9223372036854775807 := by unfold maxLen at hmY; omega
  have hz2 : mZ ≤ 9223372036854775807 := by unfold maxLen at hmZ; omega
  have hn1 := h.1
  have hU1 := hU.1
  have hV1 := hV.1
  have hY1 := hY.1
  have hZ1 := hZ.1
  have HB := Lib.hid (below1 w (.cells #[.int .i64 L, .slice A n c] 28))
  have x0 := box_new 28 w L A n c
  have hh := h.below HB.out
  have kU := hU.below HB.out
  have kV := hV.below HB.out
  have kY := hY.below HB.out
  have kZ := hZ.below HB.out
  have HC1 := Lib.hid (l03Code_any L A AU AV n c mU dU mV dV xs us vs _ hh hn2 kU hu2 kV hv2)
  have HC2 : Hid (∀ ww, Below (w.alloc (.cells #[.int .i64 L, .slice A n c] 28)).heap.size (w.alloc (.cells #[.int .i64 L, .slice A n c] 28)) ww → Calls Tryd.prog 56 #[.agg #[.int .i64 L, .slice A n c], .slice AY mY dY, .slice AZ mZ dZ] ww (fun e w' => e = .returned (.int .i64 (wCode2 L xs ys zs)) ∧ Below ww.heap.size ww w')) := Lib.hid (fun ww hw => l03Code_any L A AY AZ n c mY dY mZ dZ xs ys zs ww (hh.below hw) hn2 (kY.below hw) hy2 (kZ.below hw) hz2)
  cases ha : alphB L xs
  · rw [show leAns L xs us vs ys zs = _ from leAns_no L xs us vs ys zs ha]
    have HD := Lib.hid (wCode2_no L xs us vs ha)
    clear ha hn1 HC2
    go_enter Tryd.func29, Tryd.ntmps29
    go_wp2_with fail
    refine HC1.out.mono ?_
    rintro e w1 ⟨rfl, hb⟩
    rw [HD.out]
    go_wp2_with fail
    go_quiet (fail)
    go_wp2_with fail
    go_ret2
    exact lssP_no (below_drewN (HB.out.trans (hb.mono HB.out.size)) _)
  · cases hu1 : (wordB L us && wordB L vs)
    · rw [show leAns L xs us vs ys zs = _ from leAns_bad L xs us vs ys zs ha (by unfold w4B; rw [hu1]; rfl)]
      have HD := Lib.hid (wCode2_bad L xs us vs ha hu1)
      clear ha hu1 hn1 HC2
      go_enter Tryd.func29, Tryd.ntmps29
      go_wp2_with fail
      refine HC1.out.mono ?_
      rintro e w1 ⟨rfl, hb⟩
      rw [HD.out]
      go_wp2_with fail
      go_quiet (fail)
      go_wp2_with fail
      go_ret2
      exact lssP_no (below_drewN (HB.out.trans (hb.mono HB.out.size)) _)
    · have HD := Lib.hid (wCode2_yes L xs us vs ha hu1)
      cases hu2' : (wordB L ys && wordB L zs)
      · rw [show leAns L xs us vs ys zs = _ from leAns_bad L xs us vs ys zs ha (by unfold w4B; rw [hu1, hu2']; rfl)]
        have HD2 := Lib.hid (wCode2_bad L xs ys zs ha hu2')
        clear ha hu1 hu2' hn1
        go_enter Tryd.func29, Tryd.ntmps29
        go_wp2_with fail
        refine HC1.out.mono ?_
        rintro e w1 ⟨rfl, hb⟩
        rw [HD.out]
        have y0 := (x0.next hb).c0
        have y1 := (x0.next hb).c1
        have HC2' := Lib.hid (HC2.out w1 hb)
        go_wp2_with fail
        refine HC2'.out.mono ?_
        rintro e w2 ⟨rfl, hb2⟩
        rw [HD2.out]
        go_wp2_with fail
        go_quiet (fail)
        go_wp2_with fail
        go_ret2
        have hb12 := hb.trans (hb2.mono hb.size)
        exact lssP_no (below_drewN (HB.out.trans (hb12.mono HB.out.size)) _)
      · have HD2 := Lib.hid (wCode2_yes L xs ys zs ha hu2')
        have hu4 : w4B L us vs ys zs = true := by unfold w4B; rw [hu1, hu2']; rfl
        obtain ⟨rs, rfl, rfl, h8, hr, hrel, hl, hd, _⟩ := alphB_nats L xs n hn1 ha
        rw [Bool.and_eq_true] at hu1 hu2'
        obtain ⟨uN, rfl, hu24, hun⟩ := wordB_nats n us hu1.1
        obtain ⟨vN, rfl, hv24, hvn⟩ := wordB_nats n vs hu1.2
        obtain ⟨yN, rfl, hy24, hyn⟩ := wordB_nats n ys hu2'.1
        obtain ⟨zN, rfl, hz24, hzn⟩ := wordB_nats n zs hu2'.2
        rw [show leAns (n : Int) (ints rs) (ints uN) (ints vN) (ints yN) (ints zN) = _ from leAns_yes (n : Int) rs uN vN yN zN ha hu4]
        rw [ints_len] at hU1 hV1 hY1 hZ1
        have HDEP := Lib.hid ((depB_iff rs n hl hr).1 hd)
        have HLU := Lib.hid hU1
        have HLV := Lib.hid hV1
        have HLY := Lib.hid hY1
        have HLZ := Lib.hid hZ1
        have HLR := Lib.hid hl
        have HR := Lib.hid hr
        have HUM := Lib.hid hun
        have HVM := Lib.hid hvn
        have HYM := Lib.hid hyn
        have HZM := Lib.hid hzn
        have HSY : Hid (∀ a b, RDep rs a b = RDep rs b a) := Lib.hid (rdep_sym rs n hl hr HDEP.out)
        have HRE : Hid (∀ a, a < n → RDep rs a a = true) := Lib.hid fun a ha9 => HDEP.out.1 a (by rw [HLR.out]; exact ha9)
        have HNR : Hid (∀ ws, nfM (RDep rs) n ws = nfR rs ws) := Lib.hid (fun ws => by unfold nfR; rw [HLR.out])
        have mU24 : mU ≤ 24 := by omega
        have mV24 : mV ≤ 24 := by omega
        have mY24 : mY ≤ 24 := by omega
        have mZ24 : mZ ≤ 24 := by omega
        have h24 : n ≤ 24 := by omega
        clear ha hu1 hu2' hu4 hl hU1 hV1 hY1 hZ1 hr hd hrel hun hvn hyn hzn h hU hV hY hZ
        by_cases hl1 : 24 < mU + mV
        · have HA := Lib.hid (leF_long rs uN vN yN zN (.inl (by rw [HLU.out, HLV.out]; exact hl1)))
          have hI : (24 : Int) < ((mU : Int) + (mV : Int)) := by omega
          clear hl1
          go_enter Tryd.func29, Tryd.ntmps29
          go_wp2_with fail
          refine HC1.out.mono ?_
          rintro e w1 ⟨rfl, hb⟩
          rw [HD.out]
          have y0 := (x0.next hb).c0
          have y1 := (x0.next hb).c1
          have HC2' := Lib.hid (HC2.out w1 hb)
          go_wp2_with fail
          refine HC2'.out.mono ?_
          rintro e w2 ⟨rfl, hb2⟩
          rw [HD2.out]
          go_wp2_with fail
          go_quiet (fail)
          go_wp2_with fail
          go_ret2
          rw [HA.out]
          have hb12 := hb.trans (hb2.mono hb.size)
          exact lssP_no (below_drewN (HB.out.trans (hb12.mono HB.out.size)) _)
        · have hI : ((mU : Int) + (mV : Int)) ≤ 24 := by omega
          by_cases hl2 : 24 < mY + mZ
          · have HA := Lib.hid (leF_long rs uN vN yN zN (.inr (by rw [HLY.out, HLZ.out]; exact hl2)))
            have hJ : (24 : Int) < ((mY : Int) + (mZ : Int)) := by omega
            clear hl1 hl2
            go_enter Tryd.func29, Tryd.ntmps29
            go_wp2_with fail
            refine HC1.out.mono ?_
            rintro e w1 ⟨rfl, hb⟩
            rw [HD.out]
            have y0 := (x0.next hb).c0
            have y1 := (x0.next hb).c1
            have HC2' := Lib.hid (HC2.out w1 hb)
            go_wp2_with fail
            refine HC2'.out.mono ?_
            rintro e w2 ⟨rfl, hb2⟩
            rw [HD2.out]
            go_wp2_with fail
            go_quiet (fail)
            go_wp2_with fail
            go_ret2
            rw [HA.out]
            have hb12 := hb.trans (hb2.mono hb.size)
            exact lssP_no (below_drewN (HB.out.trans (hb12.mono HB.out.size)) _)
          · have hJ : ((mY : Int) + (mZ : Int)) ≤ 24 := by omega
            have hk1 : mU + mV ≤ 24 := by omega
            have hk2 : mY + mZ ≤ 24 := by omega
            clear hl1 hl2
            obtain ⟨t, ht⟩ : ∃ t, t = decide (nfR rs (uN ++ vN) = nfR rs (yN ++ zN)) := ⟨_, rfl⟩
            have HT := Lib.hid ht
            clear ht
            go_enter Tryd.func29, Tryd.ntmps29
            go_wp2_with fail
            refine HC1.out.mono ?_
            rintro e w1 ⟨rfl, hb⟩
            rw [HD.out]
            have y0 := (x0.next hb).c0
            have y1 := (x0.next hb).c1
            have HC2' := Lib.hid (HC2.out w1 hb)
            go_wp2_with fail
            refine HC2'.out.mono ?_
            rintro e w2 ⟨rfl, hb2⟩
            rw [HD2.out]
            have hb12 := hb.trans (hb2.mono hb.size)
            have HB2 := Lib.hid (HB.out.trans (hb12.mono HB.out.size))
            have x2 := x0.next hb12
            have z0 := x2.c0
            have z1 := x2.c1
            have hrd := hh.below hb12
            have jU := kU.below hb12
            have jV := kV.below hb12
            have jY := kY.below hb12
            have jZ := kZ.below hb12
            clear y0 y1 HC1 HC2 HC2' hb hb2 hb12 hh kU kV kY kZ x0 hI hJ
            go_upto_region 6 with fail
            go_cut [62] from 48 to 63 (fun rv wx => rv = .bool (!t) ∧ Below w2.heap.size w2 wx)
            case first =>
              have hdr : Below w2.heap.size w2 w2.drew := (Below.refl _ _).drew
              have HOU : Hid (∀ ww, Below w2.heap.size w2 ww → Calls Tryd.prog 59 #[.slice AU mU dU] ww (MakesE 2 ww mU (ints uN))) := Lib.hid fun ww hw => own_any AU mU dU (ints uN) ww (jU.below hw) (by omega)
              have HOY : Hid (∀ ww, Below w2.heap.size w2 ww → Calls Tryd.prog 59 #[.slice AY mY dY] ww (MakesE 2 ww mY (ints yN))) := Lib.hid fun ww hw => own_any AY mY dY (ints yN) ww (jY.below hw) (by omega)
              have HSN : Hid (takeB (RDep rs) (uN ++ vN) (yN ++ zN) = t) := Lib.hid (by
                rw [HT.out]
                unfold nfR
                rw [HLR.out]
                exact same_nf HSY.out HRE.out _ _ (fun x hx => (List.mem_append.1 hx).elim (HUM.out x) (HVM.out x)) (fun x hx => (List.mem_append.1 hx).elim (HYM.out x) (HZM.out x)))
              have HSA : Hid (∀ ww P p1 Q q1, Below w2.heap.size w2 ww → Rd ww P (mU + mV) (ints (uN ++ vN)) → Rd ww Q (mY + mZ) (ints (yN ++ zN)) → Calls Tryd.prog 68 #[.agg #[.int .i64 (n : Int), .slice A n c], .slice P (mU + mV) p1, .slice Q (mY + mZ) q1] ww (fun e w' => e = .returned (.bool t) ∧ Below ww.heap.size ww w')) := Lib.hid (fun ww P p1 Q q1 hw h9 h8 => by
                rw [← HSN.out]
                exact l03Same_any A P Q n c (mU + mV) p1 (mY + mZ) q1 rs (uN ++ vN) (yN ++ zN) ww (hrd.below hw) h24 HR.out h9 hk1 h8 hk2 (fun x hx => (List.mem_append.1 hx).elim (HUM.out x) (HVM.out x)) (fun x hx => (List.mem_append.1 hx).elim (HYM.out x) (HZM.out x)))
              have m1 : mU + mV ≤ maxLen := by unfold maxLen; omega
              have m2 : (mU + mV) * 8 ≤ 140737488355328 := by omega
              have m3 : mY + mZ ≤ maxLen := by unfold maxLen; omega
              have m4 : (mY + mZ) * 8 ≤ 140737488355328 := by omega
              go_wp2_with fail
              go_region_law (first
                | (go_simp; go_at_call 59; (with_reducible refine (HOU.out _ hdr).mono ?_); rintro e wa ⟨Aa, ca, rfl, oa, hba⟩; have ba : Below w2.heap.size w2 wa := hdr.trans (hba.mono hdr.size); have sa0 := (x2.next ba).c0; have sa1 := (x2.next ba).c1; have rva := jV.below ba)
                | (refine step_append_rdg (by go_simp) (.tmp 53) (.tmp 54) rfl w2.heap.size Aa mU ca uN (by go_simp) oa AV mV dV vN (by go_simp) rva m1 m2 ba.size ?_; rintro vb wb ⟨Ab, cb, rfl, ob⟩ hgb; have bb : Below w2.heap.size w2 wb := ba.grown hgb ba.size (fun k e9 => (oa.lt k (ownBlock_map' e9)).1); have sb0 := (x2.next bb).c0; have sb1 := (x2.next bb).c1)
                | (go_simp; go_at_call 59; (with_reducible refine (HOY.out _ bb).mono ?_); rintro e wd ⟨Ad, cd, rfl, od, hbd⟩; have bd : Below w2.heap.size w2 wd := bb.trans (hbd.mono bb.size); have sd0 := (x2.next bd).c0; have sd1 := (x2.next bd).c1; have rzd := jZ.below bd; have obd := ob.below hbd)
                | (refine step_append_rdg (by go_simp) (.tmp 57) (.tmp 58) rfl wb.heap.size Ad mY cd yN (by go_simp) od AZ mZ dZ zN (by go_simp) rzd m3 m4 hbd.size ?_; rintro vf wf ⟨Af, cf, rfl, of⟩ hgf; have bf : Below w2.heap.size w2 wf := bd.grown hgf bd.size (fun k e9 => Nat.le_trans bb.size (od.lt k (ownBlock_map' e9)).1); have sf0 := (x2.next bf).c0; have sf1 := (x2.next bf).c1; have obf := obd.apart hgf (fun k hk e9 => (by have := (ob.lt k hk).2; have := (od.lt k (ownBlock_map' e9)).1; omega)))
                | (go_simp; go_at_call 68; refine (HSA.out _ _ _ _ _ bf obf.rd of.rd).mono ?_; rintro e wg ⟨rfl, hbg⟩; have bg : Below w2.heap.size w2 wg := bf.trans (hbg.mono bf.size)))
              all_goals (
                go_wp2_with fail
                go_meet
                exact ⟨rfl, bg⟩)
            case rest =>
              obtain ⟨rfl, hbc⟩ := hcut
              have HB3 := Lib.hid (HB2.out.trans (hbc.mono HB2.out.size))
              have x3 := x2.next hbc
              have v0 := x3.c0
              have v1 := x3.c1
              have hrd3 := hrd.below hbc
              have iU := jU.below hbc
              have iV := jV.below hbc
              have iY := jY.below hbc
              clear hbc x2 hrd jU jV jY jZ z0 z1
              cases t
              · have HA := Lib.hid (leF_ne rs uN vN yN zN (by rw [HLU.out, HLV.out]; exact hk1) (by rw [HLY.out, HLZ.out]; exact hk2) (of_decide_eq_false HT.out.symm))
                go_wp2_with fail
                go_ret2
                rw [HA.out]
                exact lssP_no HB3.out
              · have HEQ := Lib.hid (of_decide_eq_true HT.out.symm)
                have HA := Lib.hid (leF_yes rs uN vN yN zN (by rw [HLU.out, HLV.out]; exact hk1) (by rw [HLY.out, HLZ.out]; exact hk2) HEQ.out)
                have HME := Lib.hid (l05Meet_any A AU AY n c mU dU mY dY rs uN yN wc hrd3 h24 HR.out HSY.out iU mU24 iY mY24 HUM.out HYM.out)
                go_wp2_with fail
                refine HME.out.mono ?_
                rintro e w3 ⟨p, pa, pb, A3, N3, c3, rfl, hpl, hN3, o3, hmt, hp, -, -, hb3⟩
                obtain ⟨q', r', s', hq, hr, hs, hmap⟩ := lev_spec rs n HLR.out HSY.out HRE.out uN vN yN zN p pa pb HUM.out HVM.out HYM.out HZM.out hmt hp HEQ.out
                have cq := cut_len _ _ _ _ hq
                have cr := cut_len _ _ _ _ hr
                have cs := cut_len _ _ _ _ hs
                have HMAP := Lib.hid hmap
                have HQM : Hid (∀ x, x ∈ q' → x < n) := Lib.hid fun x hx => HUM.out x (cq.2 x hx)
                have HRM : Hid (∀ x, x ∈ r' → x < n) := Lib.hid fun x hx => HYM.out x (cr.2 x hx)
                have HSM : Hid (∀ x, x ∈ s' → x < n) := Lib.hid fun x hx => HVM.out x (cs.2 x hx)
                have HQ24 : Hid (q'.length ≤ 24) := Lib.hid (by have := HLU.out; omega)
                have HR24 : Hid (r'.length ≤ 24) := Lib.hid (by have := HLY.out; omega)
                have HS24 : Hid (s'.length ≤ 24) := Lib.hid (by have := HLV.out; omega)
                have HPM := Lib.hid hp
                have HPL := Lib.hid hpl
                have HT1 := Lib.hid (l05Cut_any A A3 AU n c N3 c3 mU dU rs p uN w3 (hrd3.below hb3) h24 HR.out o3.rd (by omega) (iU.below hb3) mU24 HPM.out HUM.out)
                have HT2 : Hid (∀ ww, Below w3.heap.size w3 ww → Calls Tryd.prog 70 #[.agg #[.int .i64 (n : Int), .slice A n c], .slice A3 N3 c3, .slice AY mY dY] ww (DCutPost (RDep rs) p yN ww)) := Lib.hid (fun ww hw => l05Cut_any A A3 AY n c N3 c3 mY dY rs p yN ww ((hrd3.below hb3).below hw) h24 HR.out (o3.below hw).rd (by omega) ((iY.below hb3).below hw) mY24 HPM.out HYM.out)
                unfold DCutPost at HT1 HT2
                rw [hq] at HT1
                rw [hr] at HT2
                have HCS := Lib.hid hs
                have x4 := x3.next hb3
                have t0 := x4.c0
                have t1 := x4.c1
                have HB4 := Lib.hid (HB3.out.trans (hb3.mono HB3.out.size))
                have hrd4 := hrd3.below hb3
                have iV4 := iV.below hb3
                clear hq hr hs hmap hmt hp hpl cq cr cs v0 v1 hb3 hrd3 iU iV iY x3
                go_wp2_with fail
                refine HT1.out.mono ?_
                rintro e w4 ⟨A4, N4, c4, rfl, r4, hN4, -, hb4⟩
                have r4' : Rd w4 A4 N4 (ints q') := r4
                have HN4 : Hid (N4 = q'.length) := Lib.hid hN4
                have HT2' := Lib.hid (HT2.out w4 hb4)
                have x5 := x4.next hb4
                have a0 := x5.c0
                have a1 := x5.c1
                clear r4 hN4 t0 t1
                go_wp2_with fail
                refine HT2'.out.mono ?_
                rintro e w5 ⟨A5, N5, c5, rfl, r5, hN5, -, hb5⟩
                have r5' : Rd w5 A5 N5 (ints r') := r5
                have HN5 : Hid (N5 = r'.length) := Lib.hid hN5
                have hb45 := hb4.trans (hb5.mono hb4.size)
                have HT3 := Lib.hid (l05Cut_any A A5 AV n c N5 c5 mV dV rs r' vN w5 (hrd4.below hb45) h24 HR.out r5' (by have := HN5.out; have := HR24.out; omega) (iV4.below hb45) mV24 HRM.out HVM.out)
                unfold DCutPost at HT3
                rw [HCS.out] at HT3
                have x6 := x5.next hb5
                have b0 := x6.c0
                have b1 := x6.c1
                clear r5 hN5 a0 a1
                go_wp2_with fail
                refine HT3.out.mono ?_
                rintro e w6 ⟨A6, N6, c6, rfl, r6, hN6, -, hb6⟩
                have r6' : Rd w6 A6 N6 (ints s') := r6
                have HN6 : Hid (N6 = s'.length) := Lib.hid hN6
                have hb46 := hb45.trans (hb6.mono hb45.size)
                have HB6 := Lib.hid (HB4.out.trans (hb46.mono HB4.out.size))
                have x7 := x6.next hb6
                have d0 := x7.c0
                have d1 := x7.c1
                have hR7 := hrd4.below hb46
                have k0 := o3.rd.below hb46
                have k1 := (r4'.below hb5).below hb6
                have k2 := r5'.below hb6
                have hdr : Below w6.heap.size w6 w6.drew := (Below.refl _ _).drew
                have HX0 : Hid (∀ ww, Below w6.heap.size w6 ww → Calls Tryd.prog 57 #[.agg #[.int .i64 (n : Int), .slice A n c], .slice A3 N3 c3] ww (MakesE 2 ww N3 (ints (nfR rs p)))) := Lib.hid (fun ww hw => by rw [← HNR.out]; exact l03Normal_any A A3 n c N3 c3 rs p ww (hR7.below hw) h24 HR.out (k0.below hw) (by omega) (fun x hx => in_getD HPM.out x (by rw [HPL.out]; exact hx)))
                have HX1 : Hid (∀ ww, Below w6.heap.size w6 ww → Calls Tryd.prog 57 #[.agg #[.int .i64 (n : Int), .slice A n c], .slice A4 N4 c4] ww (MakesE 2 ww N4 (ints (nfR rs q')))) := Lib.hid (fun ww hw => by rw [← HNR.out]; exact l03Normal_any A A4 n c N4 c4 rs q' ww (hR7.below hw) h24 HR.out (k1.below hw) (by have := HN4.out; have := HQ24.out; omega) (fun x hx => in_getD HQM.out x (by rw [← HN4.out]; exact hx)))
                have HX2 : Hid (∀ ww, Below w6.heap.size w6 ww → Calls Tryd.prog 57 #[.agg #[.int .i64 (n : Int), .slice A n c], .slice A5 N5 c5] ww (MakesE 2 ww N5 (ints (nfR rs r')))) := Lib.hid (fun ww hw => by rw [← HNR.out]; exact l03Normal_any A A5 n c N5 c5 rs r' ww (hR7.below hw) h24 HR.out (k2.below hw) (by have := HN5.out; have := HR24.out; omega) (fun x hx => in_getD HRM.out x (by rw [← HN5.out]; exact hx)))
                have HX3 : Hid (∀ ww, Below w6.heap.size w6 ww → Calls Tryd.prog 57 #[.agg #[.int .i64 (n : Int), .slice A n c], .slice A6 N6 c6] ww (MakesE 2 ww N6 (ints (nfR rs s')))) := Lib.hid (fun ww hw => by rw [← HNR.out]; exact l03Normal_any A A6 n c N6 c6 rs s' ww (hR7.below hw) h24 HR.out (r6'.below hw) (by have := HN6.out; have := HS24.out; omega) (fun x hx => in_getD HSM.out x (by rw [← HN6.out]; exact hx)))
                clear r4' r5' r6 r6' hN6 k0 k1 k2 hR7 hrd4 iV4 b0 b1 HT1 HT2 HT2' HT3 HME o3 hb4 hb5 hb6 hb45 hb46 x4 x5 x6
                have HSZ6 := Lib.hid HB6.out.size
                go_upto_region 14 with fail
                go_cut [10, 11] from 91 to 103 (fun rv cv wx => ∃ G, rv = .slice G 4 4 ∧ cv = .int .i64 0 ∧ OwnSS wx w.heap.size wx.heap.size G 4 4 [ints (nfR rs p), ints (nfR rs q'), ints (nfR rs r'), ints (nfR rs s')] ∧ Below w6.heap.size w6 wx)
                case first =>
                  clear HSY HRE HUM HVM HYM HZM HA HMAP HEQ
                  go_wp2_with fail
                  go_region_held3 (fun w' => w'.cell? ⟨w.heap.size, 0, none⟩ = some (.int .i64 (n : Int)) ∧ w'.cell? ⟨w.heap.size, 1, none⟩ = some (.slice A n c)) (first | exact ⟨d0, d1⟩ | exact ⟨ca0, ca1⟩ | exact ⟨cb0, cb1⟩ | exact ⟨cc0, cc1⟩ | exact ⟨cd0, cd1⟩ | exact ⟨(x7.next bdd).c0, (x7.next bdd).c1⟩ | go_keep) (first
                    | (go_at_call 57; (with_reducible refine (HX0.out _ hdr).mono ?_); rintro e ua ⟨G0, l0, rfl, g0, hg0⟩; have ba := hdr.trans (hg0.mono hdr.size); have ca0 := (x7.next ba).c0; have ca1 := (x7.next ba).c1)
                    | (go_at_call 57; (with_reducible refine (HX1.out _ ba).mono ?_); rintro e ub ⟨G1, l1, rfl, g1, hg1⟩; have bb := ba.trans (hg1.mono ba.size); have cb0 := (x7.next bb).c0; have cb1 := (x7.next bb).c1)
                    | (go_at_call 57; (with_reducible refine (HX2.out _ bb).mono ?_); rintro e uc ⟨G2, l2, rfl, g2, hg2⟩; have bc := bb.trans (hg2.mono bb.size); have cc0 := (x7.next bc).c0; have cc1 := (x7.next bc).c1)
                    | (go_at_call 57; (with_reducible refine (HX3.out _ bc).mono ?_); rintro e ud ⟨G3, l3, rfl, g3, hg3⟩; have bd := bc.trans (hg3.mono bc.size); have cd0 := (x7.next bd).c0; have cd1 := (x7.next bd).c1; have bdd := bd.alloc bd.size (.cells #[.slice G0 N3 l0, .slice G1 N4 l1, .slice G2 N5 l2, .slice G3 N6 l3] 22)))
                  all_goals (
                    go_wp2_with fail
                    go_meet
                    exact ⟨_, rfl, rfl, four_own (w0 := w) HSZ6.out g0 hg1 g1 hg2 g2 hg3 g3 (by have := HSZ6.out; have := ba.size; omega), bd.alloc bd.size _⟩)
                case rest =>
                  obtain ⟨G, rfl, rfl, hss, hbc⟩ := hcut
                  go_wp2_with fail
                  go_ret2
                  rw [HA.out, HMAP.out]
                  exact ⟨_, 4, rfl, hss, HB6.out.trans (hbc.mono HSZ6.out)⟩
end Go.Proofs.YtkifadmoedackaaDoor
namespace Go.Proofs.YtkifadmoedackaaDoor
open Go Go.RowKit
set_option linter.unusedVariables false
set_option maxRecDepth 100000

theorem cmpGo_mid (D : Nat → Nat → Bool) : ∀ (u p f s : List Nat), (cmpGo D u p f s).2.1.length ≤ f.length + u.length
  | [], p, f, s => by show f.length ≤ f.length + 0; omega
  | a :: u, p, f, s => by
    show (if (freeB D s a && !depL D f a) = true then cmpGo D u (p ++ [a]) f (s.erase a) else cmpGo D u p (f ++ [a]) s).2.1.length ≤ f.length + (a :: u).length
    split
    · have := cmpGo_mid D u (p ++ [a]) f (s.erase a)
      simp at this ⊢; omega
    · have := cmpGo_mid D u p (f ++ [a]) s
      simp at this ⊢; omega
theorem leF_small (rs us vs ys zs : List Nat) : (leF rs us vs ys zs).1.length ≤ 4 ∧ sumL (leF rs us vs ys zs).1 ≤ 96 := by
  unfold leF
  by_cases h : 24 < us.length + vs.length ∨ 24 < ys.length + zs.length
  · rw [if_pos h]; exact ⟨Nat.zero_le _, Nat.zero_le _⟩
  · rw [if_neg h]
    by_cases h2 : nfR rs (us ++ vs) = nfR rs (ys ++ zs)
    · rw [if_pos h2]
      have c1 := cmp_len (RDep rs) us ys
      have c2 := cmp_len (RDep rs) (cmpM (RDep rs) us ys).2.2 vs
      have c3 : (cmpM (RDep rs) us ys).2.1.length ≤ us.length := by have h9 := cmpGo_mid (RDep rs) us [] [] ys; simp at h9; exact h9
      have n1 := nfR_len rs (cmpM (RDep rs) us ys).1
      have n2 := nfR_len rs (cmpM (RDep rs) us ys).2.1
      have n3 := nfR_len rs (cmpM (RDep rs) us ys).2.2
      have n4 := nfR_len rs (cmpM (RDep rs) (cmpM (RDep rs) us ys).2.2 vs).2.2
      unfold levM
      refine ⟨by simp, ?_⟩
      show (ints (nfR rs _)).length + ((ints (nfR rs _)).length + ((ints (nfR rs _)).length + ((ints (nfR rs _)).length + 0))) ≤ 96
      rw [ints_len, ints_len, ints_len, ints_len]
      obtain ⟨a1, a2, _⟩ := c1
      obtain ⟨b1, b2, _⟩ := c2
      omega
    · rw [if_neg h2]; exact ⟨Nat.zero_le _, Nat.zero_le _⟩
theorem leAns_small (L : Int) (xs us vs ys zs : List Int) : (leAns L xs us vs ys zs).1.length ≤ 4 ∧ sumL (leAns L xs us vs ys zs).1 ≤ 96 := by
  unfold leAns
  split
  · split
    · exact leF_small _ _ _ _ _
    · exact ⟨Nat.zero_le _, Nat.zero_le _⟩
  · exact ⟨Nat.zero_le _, Nat.zero_le _⟩
end Go.Proofs.YtkifadmoedackaaDoor
