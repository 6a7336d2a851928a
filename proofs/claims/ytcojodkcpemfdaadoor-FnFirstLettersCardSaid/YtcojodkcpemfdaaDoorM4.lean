/-
  AreIndependent, IsPrefix: both sides. Division: mathematics of meets. Division: the program's least common continuation, by a contract. Division: the program's continuation of two words, with its codes. JoinOf, ResidualAfter: the program's side. Division: the model's join, by a contract. The letters of a word that are in a set: the program's way and the model's. ProjectionOf: both sides. PrefixIn: both sides. LeftQuotient: both sides.
-/
import Derived.Test.YtcojodkcpemfdaaDoorMd
import Derived.Deep.Upon
import Derived.Test.YtcojodkcpemfdaaDoorM3
import Derived.Deep.RegionWith
namespace Go.Proofs.YtcojodkcpemfdaaDoor
open Go Go.RowKit
set_option linter.unusedVariables false
set_option maxRecDepth 100000

/-- Answers of an alphabet and two words. -/
def dB (f : List Nat → List Nat → List Nat → Bool) (L : Int) (xs us ts : List Int) : Bool × Int := if wCode2 L xs us ts = 0 then (f (xs.map Int.toNat) (us.map Int.toNat) (ts.map Int.toNat), 0) else (false, wCode2 L xs us ts)
theorem dB_no (f : List Nat → List Nat → List Nat → Bool) (L : Int) (xs us ts : List Int) (h : alphB L xs = false) : dB f L xs us ts = (false, 1) := by
  have e := wCode2_no L xs us ts h
  unfold dB; rw [e]; rfl
theorem dB_bad (f : List Nat → List Nat → List Nat → Bool) (L : Int) (xs us ts : List Int) (h : alphB L xs = true) (h2 : (wordB L us && wordB L ts) = false) : dB f L xs us ts = (false, 2) := by
  have e := wCode2_bad L xs us ts h h2
  unfold dB; rw [e]; rfl
theorem dB_yes (f : List Nat → List Nat → List Nat → Bool) (L : Int) (rs us ts : List Nat) (h : alphB L (ints rs) = true) (h2 : (wordB L (ints us) && wordB L (ints ts)) = true) : dB f L (ints rs) (ints us) (ints ts) = (f rs us ts, 0) := by
  have e := wCode2_yes L (ints rs) (ints us) (ints ts) h h2
  unfold dB; rw [if_pos e, ints_toNat, ints_toNat, ints_toNat]
def dL (f : List Nat → List Nat → List Nat → List Nat × Int) (L : Int) (xs us ts : List Int) : List Int × Int := if wCode2 L xs us ts = 0 then (ints (f (xs.map Int.toNat) (us.map Int.toNat) (ts.map Int.toNat)).1, (f (xs.map Int.toNat) (us.map Int.toNat) (ts.map Int.toNat)).2) else ([], wCode2 L xs us ts)
theorem dL_no (f : List Nat → List Nat → List Nat → List Nat × Int) (L : Int) (xs us ts : List Int) (h : alphB L xs = false) : dL f L xs us ts = ([], 1) := by
  have e := wCode2_no L xs us ts h
  unfold dL; rw [e]; rfl
theorem dL_bad (f : List Nat → List Nat → List Nat → List Nat × Int) (L : Int) (xs us ts : List Int) (h : alphB L xs = true) (h2 : (wordB L us && wordB L ts) = false) : dL f L xs us ts = ([], 2) := by
  have e := wCode2_bad L xs us ts h h2
  unfold dL; rw [e]; rfl
theorem dL_yes (f : List Nat → List Nat → List Nat → List Nat × Int) (L : Int) (rs us ts : List Nat) (h : alphB L (ints rs) = true) (h2 : (wordB L (ints us) && wordB L (ints ts)) = true) : dL f L (ints rs) (ints us) (ints ts) = (ints (f rs us ts).1, (f rs us ts).2) := by
  have e := wCode2_yes L (ints rs) (ints us) (ints ts) h h2
  unfold dL; rw [if_pos e, ints_toNat, ints_toNat, ints_toNat]
theorem dL_small (f : List Nat → List Nat → List Nat → List Nat × Int) (b : Nat) (hf : ∀ rs us ts, us.length ≤ 24 → ts.length ≤ 24 → (f rs us ts).1.length ≤ b) (L : Int) (xs us ts : List Int) : (dL f L xs us ts).1.length ≤ b := by
  unfold dL
  by_cases h : wCode2 L xs us ts = 0
  · rw [if_pos h, ints_len]
    have h2 : (wordB L us && wordB L ts) = true := by
      unfold wCode2 at h
      split at h
      · split at h
        · assumption
        · cases h
      · cases h
    rw [Bool.and_eq_true] at h2
    unfold wordB at h2
    rw [Bool.and_eq_true, decide_eq_true_eq, Bool.and_eq_true, decide_eq_true_eq] at h2
    exact hf _ _ _ (by rw [List.length_map]; exact h2.1.1) (by rw [List.length_map]; exact h2.2.1)
  · rw [if_neg h]; exact Nat.zero_le _
def aiF (rs us ts : List Nat) : Bool := indM (RDep rs) us ts
def ipF (rs us ts : List Nat) : Bool := (cutM (RDep rs) us ts).isSome
set_option maxHeartbeats 3200000 in
theorem implAreIndependent (L : Int) (A : Option Addr) (n c : Nat) (xs : List Int) (A1 : Option Addr) (m d : Nat) (us : List Int) (B1 : Option Addr) (q f : Nat) (ts : List Int) (w : World) (h : Rd w A n xs) (hwf : Wf xs) (hL1 : -9223372036854775808 ≤ L) (hL2 : L ≤ 9223372036854775807) (hn : n ≤ maxLen) (h2 : Rd w A1 m us) (hwf2 : Wf us) (hm : m ≤ maxLen) (h3 : Rd w B1 q ts) (hwf3 : Wf ts) (hq : q ≤ maxLen) (hcm : m ≤ d) (hcq : q ≤ f) (hT : Tab w) :
    Calls Tryd.prog 57 #[.agg #[.int .i64 L, .slice A n c], .slice A1 m d, .slice B1 q f] w (fun e w' => e = .returned (.tuple #[.bool (dB aiF L xs us ts).1, .int .i64 (dB aiF L xs us ts).2]) ∧ Below w.heap.size w w') := by
  have hn2 : n ≤ 9223372036854775807 := by unfold maxLen at hn; omega
  have hn1 := h.1
  have hm1 := h2.1
  have hq1 := h3.1
  have HB := Lib.hid (below2 w (.cells #[.int .i64 L, .slice A n c] 29) (.cells #[.slice A1 m d, .slice B1 q f] 22))
  have hh := h.below HB.out
  have ht := rdT_box2 w (.cells #[.int .i64 L, .slice A n c] 29) A1 B1 m d q f us ts 22 h2 hm h3 hq
  have hh2 := h2.below HB.out
  have hh3 := h3.below HB.out
  have hT1 := hT.below HB.out
  cases ha : alphB L xs
  · rw [show dB aiF L xs us ts = _ from dB_no aiF L xs us ts ha]
    have HA := Lib.hid ha
    clear ha ht hn1
    go_enter Tryd.func57, Tryd.ntmps57
    go_wp2_with fail
    refine (dependenceWith_no L _ _ _ _ _ _ xs [] _ hh hwf hL1 hL2 hn2 HA.out hT1).mono ?_
    rintro e w1 ⟨rfl, hb⟩
    go_wp2_with fail
    go_ret2
    exact ⟨rfl, HB.out.trans (hb.mono HB.out.size)⟩
  · cases hu : (wordB L us && wordB L ts)
    · rw [show dB aiF L xs us ts = _ from dB_bad aiF L xs us ts ha hu]
      obtain ⟨rs, rfl, rfl, h8, hr, hrel, hl, hd, _⟩ := alphB_nats L xs n hn1 ha
      have HU := Lib.hid hu
      clear ha hu
      go_enter Tryd.func57, Tryd.ntmps57
      go_wp2_with fail
      refine (dependenceWith_any _ _ _ _ _ _ rs _ _ hh hwf h8 hr hrel hd ht (by omega) hT1).mono ?_
      rw [okT_pair, HU.out]
      rintro e w1 (⟨hok, _⟩ | ⟨hok, rfl, hb⟩)
      · cases hok
      go_wp2_with fail
      go_ret2
      exact ⟨rfl, HB.out.trans (hb.mono HB.out.size)⟩
    · obtain ⟨rs, rfl, rfl, h8, hr, hrel, hl, hd, _⟩ := alphB_nats L xs n hn1 ha
      have hu' := hu
      rw [Bool.and_eq_true] at hu'
      obtain ⟨vs, rfl, hv24, hvn⟩ := wordB_nats n us hu'.1
      obtain ⟨ys, rfl, hy24, hyn⟩ := wordB_nats n ts hu'.2
      rw [show dB aiF (n : Int) (ints rs) (ints vs) (ints ys) = _ from dB_yes aiF (n : Int) rs vs ys ha hu]
      have HU := Lib.hid hu
      have HDEP := Lib.hid ((depB_iff rs n hl hr).1 hd)
      rw [ints_len] at hm1 hq1
      have hm24 : m ≤ 24 := by omega
      have hq24 : q ≤ 24 := by omega
      have HLU := Lib.hid hm1
      have HLQ := Lib.hid hq1
      have HLR := Lib.hid hl
      have HR := Lib.hid hr
      have HVM := Lib.hid hvn
      have HYM := Lib.hid hyn
      have HSY : Hid (∀ a b, RDep rs a b = RDep rs b a) := Lib.hid (rdep_sym rs n hl hr HDEP.out)
      have HRE : Hid (∀ a, a < n → RDep rs a a = true) := Lib.hid fun a ha9 => HDEP.out.1 a (by rw [HLR.out]; exact ha9)
      have HR63 : Hid (∀ i, rs.getD i 0 < 9223372036854775808) := Lib.hid fun i => lt63 (by omega) (hr i)
      clear ha hu hu' hl hm1 hq1
      go_enter Tryd.func57, Tryd.ntmps57
      go_wp2_with fail
      refine (dependenceWith_any _ _ _ _ _ _ rs _ _ hh hwf h8 hr hrel hd ht (by omega) hT1).mono ?_
      rw [okT_pair, HU.out]
      rintro e w1 (⟨hok, A2, c2, rfl, ho, hb⟩ | ⟨hok, _⟩)
      rotate_left
      · cases hok
      have HB1 := Lib.hid (HB.out.trans (hb.mono HB.out.size))
      have hr2 := hh2.below hb
      have hr3 := hh3.below hb
      have hrd := ho.rd
      have hT2 := hT1.below hb
      have h24 : n ≤ 24 := by omega
      clear ho hb hok ht hh hh2 hh3 hT1 hT h h2 h3 hr hvn hyn hd hrel
      have HAI := Lib.hid (areIndependent_any A2 A1 B1 n c2 m d q f rs vs ys w1 hrd h24 HR.out hr2 (by omega) HVM.out hr3 (by omega) HYM.out)
      go_wp2_with fail
      refine HAI.out.mono ?_
      rintro e w2 ⟨rfl, rfl⟩
      go_wp2_with fail
      go_ret2
      exact ⟨rfl, HB1.out⟩
set_option maxHeartbeats 3200000 in
theorem implIsPrefix (L : Int) (A : Option Addr) (n c : Nat) (xs : List Int) (A1 : Option Addr) (m d : Nat) (us : List Int) (B1 : Option Addr) (q f : Nat) (ts : List Int) (w : World) (h : Rd w A n xs) (hwf : Wf xs) (hL1 : -9223372036854775808 ≤ L) (hL2 : L ≤ 9223372036854775807) (hn : n ≤ maxLen) (h2 : Rd w A1 m us) (hwf2 : Wf us) (hm : m ≤ maxLen) (h3 : Rd w B1 q ts) (hwf3 : Wf ts) (hq : q ≤ maxLen) (hcm : m ≤ d) (hcq : q ≤ f) (hT : Tab w) :
    Calls Tryd.prog 68 #[.agg #[.int .i64 L, .slice A n c], .slice A1 m d, .slice B1 q f] w (fun e w' => e = .returned (.tuple #[.bool (dB ipF L xs us ts).1, .int .i64 (dB ipF L xs us ts).2]) ∧ Below w.heap.size w w') := by
  have hn2 : n ≤ 9223372036854775807 := by unfold maxLen at hn; omega
  have hn1 := h.1
  have hm1 := h2.1
  have hq1 := h3.1
  have HB := Lib.hid (below2 w (.cells #[.int .i64 L, .slice A n c] 29) (.cells #[.slice A1 m d, .slice B1 q f] 22))
  have hh := h.below HB.out
  have ht := rdT_box2 w (.cells #[.int .i64 L, .slice A n c] 29) A1 B1 m d q f us ts 22 h2 hm h3 hq
  have hh2 := h2.below HB.out
  have hh3 := h3.below HB.out
  have hT1 := hT.below HB.out
  cases ha : alphB L xs
  · rw [show dB ipF L xs us ts = _ from dB_no ipF L xs us ts ha]
    have HA := Lib.hid ha
    clear ha ht hn1
    go_enter Tryd.func68, Tryd.ntmps68
    go_wp2_with fail
    refine (dependenceWith_no L _ _ _ _ _ _ xs [] _ hh hwf hL1 hL2 hn2 HA.out hT1).mono ?_
    rintro e w1 ⟨rfl, hb⟩
    go_wp2_with fail
    go_ret2
    exact ⟨rfl, HB.out.trans (hb.mono HB.out.size)⟩
  · cases hu : (wordB L us && wordB L ts)
    · rw [show dB ipF L xs us ts = _ from dB_bad ipF L xs us ts ha hu]
      obtain ⟨rs, rfl, rfl, h8, hr, hrel, hl, hd, _⟩ := alphB_nats L xs n hn1 ha
      have HU := Lib.hid hu
      clear ha hu
      go_enter Tryd.func68, Tryd.ntmps68
      go_wp2_with fail
      refine (dependenceWith_any _ _ _ _ _ _ rs _ _ hh hwf h8 hr hrel hd ht (by omega) hT1).mono ?_
      rw [okT_pair, HU.out]
      rintro e w1 (⟨hok, _⟩ | ⟨hok, rfl, hb⟩)
      · cases hok
      go_wp2_with fail
      go_ret2
      exact ⟨rfl, HB.out.trans (hb.mono HB.out.size)⟩
    · obtain ⟨rs, rfl, rfl, h8, hr, hrel, hl, hd, _⟩ := alphB_nats L xs n hn1 ha
      have hu' := hu
      rw [Bool.and_eq_true] at hu'
      obtain ⟨vs, rfl, hv24, hvn⟩ := wordB_nats n us hu'.1
      obtain ⟨ys, rfl, hy24, hyn⟩ := wordB_nats n ts hu'.2
      rw [show dB ipF (n : Int) (ints rs) (ints vs) (ints ys) = _ from dB_yes ipF (n : Int) rs vs ys ha hu]
      have HU := Lib.hid hu
      have HDEP := Lib.hid ((depB_iff rs n hl hr).1 hd)
      rw [ints_len] at hm1 hq1
      have hm24 : m ≤ 24 := by omega
      have hq24 : q ≤ 24 := by omega
      have HLU := Lib.hid hm1
      have HLQ := Lib.hid hq1
      have HLR := Lib.hid hl
      have HR := Lib.hid hr
      have HVM := Lib.hid hvn
      have HYM := Lib.hid hyn
      have HSY : Hid (∀ a b, RDep rs a b = RDep rs b a) := Lib.hid (rdep_sym rs n hl hr HDEP.out)
      have HRE : Hid (∀ a, a < n → RDep rs a a = true) := Lib.hid fun a ha9 => HDEP.out.1 a (by rw [HLR.out]; exact ha9)
      have HR63 : Hid (∀ i, rs.getD i 0 < 9223372036854775808) := Lib.hid fun i => lt63 (by omega) (hr i)
      clear ha hu hu' hl hm1 hq1
      go_enter Tryd.func68, Tryd.ntmps68
      go_wp2_with fail
      refine (dependenceWith_any _ _ _ _ _ _ rs _ _ hh hwf h8 hr hrel hd ht (by omega) hT1).mono ?_
      rw [okT_pair, HU.out]
      rintro e w1 (⟨hok, A2, c2, rfl, ho, hb⟩ | ⟨hok, _⟩)
      rotate_left
      · cases hok
      have HB1 := Lib.hid (HB.out.trans (hb.mono HB.out.size))
      have hr2 := hh2.below hb
      have hr3 := hh3.below hb
      have hrd := ho.rd
      have hT2 := hT1.below hb
      have h24 : n ≤ 24 := by omega
      clear ho hb hok ht hh hh2 hh3 hT1 hT h h2 h3 hr hvn hyn hd hrel
      have HQU := Lib.hid (quotient_any A2 A1 B1 n c2 m d q f rs vs ys w1 hrd h24 HR.out HSY.out HRE.out hr2 (by omega) HVM.out hr3 (by omega) hcq HYM.out)
      go_wp2_with fail
      refine HQU.out.mono ?_
      rintro e w2 ⟨A3, c3, rfl, hr4, hle4, hb2⟩
      go_wp2_with fail
      go_ret2
      exact ⟨rfl, HB1.out.trans (hb2.mono HB1.out.size)⟩
end Go.Proofs.YtcojodkcpemfdaaDoor
namespace Go.Proofs.YtcojodkcpemfdaaDoor
open Go Go.RowKit
set_option linter.unusedVariables false
set_option maxRecDepth 100000

theorem cmp_len (D : Nat → Nat → Bool) (us vs : List Nat) : (cmpM D us vs).1.length ≤ us.length ∧ (cmpM D us vs).2.2.length ≤ vs.length ∧ (∀ x, x ∈ (cmpM D us vs).1 → x ∈ us) ∧ (∀ x, x ∈ (cmpM D us vs).2.1 → x ∈ us) ∧ (∀ x, x ∈ (cmpM D us vs).2.2 → x ∈ vs) := by
  obtain ⟨h1, h2, h3, h4, h5⟩ := cmp_parts D us [] [] vs
  unfold cmpM
  refine ⟨by simp at h1; omega, h2, fun x hx => ?_, fun x hx => ?_, h5⟩
  · rcases h3 x hx with h | h
    · cases h
    · exact h
  · rcases h4 x hx with h | h
    · cases h
    · exact h
theorem cmpM_meets (D : Nat → Nat → Bool) (n : Nat) (hsym : ∀ a b, D a b = D b a) (href : ∀ a, a < n → D a a = true) (us vs : List Nat) (hu : ∀ x, x ∈ us → x < n) (hv : ∀ x, x ∈ vs → x < n) : Meets D us vs (cmpM D us vs).1 (cmpM D us vs).2.1 (cmpM D us vs).2.2 :=
  cmp_meets D n hsym href us [] [] vs us vs hu hv (Eqv.refl _ _) (Eqv.refl _ _) (fun c hc => by simp [freeB] at hc)
/-- The model's meet has the normal form of the program's. -/
theorem meet_nf (rs : List Nat) (n : Nat) (hl : rs.length = n) (hsym : ∀ a b, RDep rs a b = RDep rs b a) (href : ∀ a, a < n → RDep rs a a = true) (us vs p a b : List Nat) (hu : ∀ x, x ∈ us → x < n) (hv : ∀ x, x ∈ vs → x < n) (hm : Meets (RDep rs) us vs p a b) (hp : ∀ x, x ∈ p → x < n) :
    nfR rs p = nfR rs (cmpM (RDep rs) us vs).1 ∧ Eqv (RDep rs) a (cmpM (RDep rs) us vs).2.1 ∧ Eqv (RDep rs) b (cmpM (RDep rs) us vs).2.2 := by
  have hc := cmpM_meets (RDep rs) n hsym href us vs hu hv
  have hp' : ∀ x, x ∈ (cmpM (RDep rs) us vs).1 → x < n := fun x hx => hu x ((cmp_len _ _ _).2.2.1 x hx)
  obtain ⟨h1, h2, h3⟩ := hm.unique hsym href hc hp hp'
  refine ⟨?_, h2, h3⟩
  unfold nfR
  rw [hl]
  exact (eqv_iff_nf hsym href p _ hp hp').1 h1
end Go.Proofs.YtcojodkcpemfdaaDoor
namespace Go.Proofs.YtcojodkcpemfdaaDoor
open Go Go.RowKit
set_option linter.unusedVariables false
set_option maxRecDepth 100000

theorem wpList_append_zero {P : Program} {w : World} {ops : Array Oper} {rest : List Oper} {o : Oper} {a : Act} {Q : Exit → Act → World → Prop} (hgd : o.guard = none) (s x : Operand) (t : TypeId)
    (ho : o.op = .call { callee := .builtin .append, args := #[s, x], argTypes := #[t, t] }) (e : TypeId) (i : TypeInfo) (ht : P.underlying t = some (.slice e)) (hi : P.info? e = some i) (base : Option Addr) (sLen sCap c : Nat) (hle : sLen ≤ sCap)
    (hs : a.eval s = .slice base sLen sCap) (hx : a.eval x = .slice none 0 c) (h : wpList P ops Q rest (a.put o.dst (.slice base sLen sCap)) w) : wpList P ops Q (o :: rest) a w := by
  refine wpList_plain hgd fun K hK => ?_
  have hrun := run_append_nothing (P := P) w t t o.type e i ht hi base sLen sCap hle (.slice none 0 c) (Src.ofNil w ht c)
  unfold Oper.wp
  simp [execOp, ho, resolve, invoke, builtin, hs, hx, hrun, Result.andThen]
  exact hK _ _ h
theorem ints_app (u v : List Nat) : ints (u ++ v) = ints u ++ ints v := by unfold ints; rw [List.map_append]
/-- A slice that reads as numbers, wherever it lies, behind an own one. -/
theorem wpList_append_rd {w : World} {ops : Array Oper} {rest : List Oper} {o : Oper} {a : Act} {Q : Exit → Act → World → Prop} (hgd : o.guard = none) (s x : Operand)
    (ho : o.op = .call { callee := .builtin .append, args := #[s, x], argTypes := #[22, 22] }) (base : Nat) (A : Option Addr) (N cA : Nat) (all : List Nat) (hs : a.eval s = .slice A N cA) (hown : Own 2 w base A N cA (ints all))
    (A2 : Option Addr) (m c2 : Nat) (ss : List Nat) (hx : a.eval x = .slice A2 m c2) (h2 : Rd w A2 m (ints ss)) (h63 : N + m ≤ maxLen) (hby : (N + m) * 8 ≤ 140737488355328) (hbase : base ≤ w.heap.size)
    (h : ∀ A' c' w', Own 2 w' base A' (N + m) c' (ints (all ++ ss)) → w.grownBy w' (Value.slice A N cA).ownBlock → wpList Tryd.prog ops Q rest (a.put o.dst (.slice A' (N + m) c')) w') : wpList Tryd.prog ops Q (o :: rest) a w := by
  obtain ⟨i0, hi, hz0, hz1, hz2⟩ := info_parts info_int
  cases A2 with
  | none =>
    have hm0 : m = 0 := by
      rcases Nat.eq_zero_or_pos m with h0 | h0
      · exact h0
      · obtain ⟨b, off, e9, _⟩ := h2.2 h0; cases e9
    subst hm0
    have hs0 : ss = [] := List.eq_nil_of_length_eq_zero (by have := h2.1; rw [ints_len] at this; exact this)
    subst hs0
    refine wpList_append_zero hgd s x 22 ho 2 i0 Tryd.underlying22 hi A N cA c2 (own_cap hown) hs hx ?_
    exact h A cA w (by rw [List.append_nil]; exact hown) (World.grownBy.refl _ _)
  | some ad =>
    have hl2 : ((ints ss).map (Value.int .i64)).length = m * 1 := by rw [List.length_map, h2.1, Nat.mul_one]
    refine wpList_append_own w hgd s x 22 ho base 2 i0 (.int .i64 0) 1 8 Tryd.underlying22 hi hz0 hz1 hz2 rfl (by decide) (.slice A N cA) N ((ints all).map (Value.int .i64)) hs hown ad m c2 ((ints ss).map (Value.int .i64)) hx hl2 ?_ (ints_oneCell .i64 _) h63 hby hbase ?_
    · intro j u hu
      have hj : 0 < m := by
        rcases Nat.eq_zero_or_pos m with h0 | h0
        · have h8 : (ints ss).map (Value.int .i64) = [] := List.eq_nil_of_length_eq_zero (by rw [hl2, h0])
          rw [h8] at hu; simp at hu
        · exact h0
      obtain ⟨b, off, e9, _⟩ := h2.2 hj
      injection e9 with e9
      subst e9
      exact rd_news h2 hj j u hu
    · intro v' w' hown' hg _
      have e8 : (ints all).map (Value.int .i64) ++ (ints ss).map (Value.int .i64) = (ints (all ++ ss)).map (Value.int .i64) := by rw [ints_app, List.map_append]
      rw [e8] at hown'
      obtain ⟨A3, c3, rfl, ho3⟩ := own_shape hown'
      exact h A3 c3 w' ho3 hg
/-- The least common continuation of some words, behind one that is there already. -/
def contGo (D : Nat → Nat → Bool) : List Nat → List (List Nat) → Option (List Nat)
  | all, [] => some all
  | all, v :: l => if indM D (cmpM D all v).2.1 (cmpM D all v).2.2 = true then contGo D (all ++ (cmpM D all v).2.2) l else none
theorem cont_yes (D : Nat → Nat → Bool) (all v : List Nat) (l : List (List Nat)) (h : indM D (cmpM D all v).2.1 (cmpM D all v).2.2 = true) : contGo D all (v :: l) = contGo D (all ++ (cmpM D all v).2.2) l := by
  show (if _ then _ else _) = _
  rw [if_pos h]
theorem cont_no (D : Nat → Nat → Bool) (all v : List Nat) (l : List (List Nat)) (h : indM D (cmpM D all v).2.1 (cmpM D all v).2.2 = false) : contGo D all (v :: l) = none := by
  show (if _ then _ else _) = _
  rw [if_neg (by rw [h]; decide)]
theorem drop_atL (l : List (List Nat)) (k : Nat) (hk : k < l.length) : l.drop k = l.getD k [] :: l.drop (k + 1) := by
  rw [List.getD_eq_getElem?_getD, List.getElem?_eq_getElem hk]; exact List.drop_eq_getElem_cons hk
end Go.Proofs.YtcojodkcpemfdaaDoor
namespace Go.Proofs.YtcojodkcpemfdaaDoor
open Go Go.RowKit
set_option linter.unusedVariables false
set_option maxRecDepth 100000

/-- The join: a word of it, if there is one. -/
def jnM (rs us ts : List Nat) : Option (List Nat) := if indM (RDep rs) (cmpM (RDep rs) us ts).2.1 (cmpM (RDep rs) us ts).2.2 = true then some (us ++ (cmpM (RDep rs) us ts).2.2) else none
def ciF (rs us ts : List Nat) : List Nat × Int := match jnM rs us ts with | none => ([], 4) | some l => if 24 < l.length then ([], 3) else (l, 0)
def joF (rs us ts : List Nat) : List Nat × Int := if (ciF rs us ts).2 = 0 then (nfR rs (ciF rs us ts).1, 0) else ([], (ciF rs us ts).2)
def raF (rs us ts : List Nat) : List Nat × Int := if (ciF rs us ts).2 = 0 then (nfR rs (cmpM (RDep rs) us ts).2.2, 0) else ([], (ciF rs us ts).2)
theorem ciF_no (rs us ts : List Nat) (h : jnM rs us ts = none) : ciF rs us ts = ([], 4) := by unfold ciF; rw [h]
theorem ciF_long (rs us ts l : List Nat) (h : jnM rs us ts = some l) (h2 : 24 < l.length) : ciF rs us ts = ([], 3) := by unfold ciF; rw [h]; exact if_pos h2
theorem ciF_yes (rs us ts l : List Nat) (h : jnM rs us ts = some l) (h2 : l.length ≤ 24) : ciF rs us ts = (l, 0) := by unfold ciF; rw [h]; exact if_neg (by omega)
theorem joF_err (rs us ts : List Nat) (l : List Nat) (c : Int) (h : ciF rs us ts = (l, c)) (hc : c ≠ 0) : joF rs us ts = ([], c) := by unfold joF; rw [h]; exact if_neg hc
theorem joF_yes (rs us ts : List Nat) (l : List Nat) (h : ciF rs us ts = (l, 0)) : joF rs us ts = (nfR rs l, 0) := by unfold joF; rw [h]; rfl
theorem raF_err (rs us ts : List Nat) (l : List Nat) (c : Int) (h : ciF rs us ts = (l, c)) (hc : c ≠ 0) : raF rs us ts = ([], c) := by unfold raF; rw [h]; exact if_neg hc
theorem raF_yes (rs us ts : List Nat) (l : List Nat) (h : ciF rs us ts = (l, 0)) : raF rs us ts = (nfR rs (cmpM (RDep rs) us ts).2.2, 0) := by unfold raF; rw [h]; rfl
theorem jnM_is (rs us ts l : List Nat) (h : jnM rs us ts = some l) : l = us ++ (cmpM (RDep rs) us ts).2.2 := by
  unfold jnM at h
  split at h
  · injection h with h; exact h.symm
  · cases h
theorem cmp_empty (D : Nat → Nat → Bool) (v : List Nat) : cmpM D [] v = ([], [], v) := rfl
theorem cont_two (rs us ts : List Nat) : contGo (RDep rs) [] [us, ts] = jnM rs us ts := by
  have h1 : indM (RDep rs) (cmpM (RDep rs) [] us).2.1 (cmpM (RDep rs) [] us).2.2 = true := by
    rw [cmp_empty, indM_iff]; intro x hx; cases hx
  rw [cont_yes _ _ _ _ h1, cmp_empty, List.nil_append]
  unfold jnM
  cases h : indM (RDep rs) (cmpM (RDep rs) us ts).2.1 (cmpM (RDep rs) us ts).2.2
  · rw [cont_no _ _ _ _ h]; rfl
  · rw [cont_yes _ _ _ _ h]; rfl
theorem joF_small (L : Int) (xs us ts : List Int) : (dL joF L xs us ts).1.length ≤ 24 := dL_small joF 24 (fun rs us ts _ _ => by
  cases h : jnM rs us ts with
  | none => rw [joF_err _ _ _ _ _ (ciF_no _ _ _ h) (by decide)]; exact Nat.zero_le _
  | some l =>
    rcases Nat.lt_or_ge 24 l.length with h2 | h2
    · rw [joF_err _ _ _ _ _ (ciF_long _ _ _ _ h h2) (by decide)]; exact Nat.zero_le _
    · rw [joF_yes _ _ _ _ (ciF_yes _ _ _ _ h h2)]; exact Nat.le_trans (nfR_len rs l) h2) L xs us ts
theorem raF_small (L : Int) (xs us ts : List Int) : (dL raF L xs us ts).1.length ≤ 24 := dL_small raF 24 (fun rs us ts _ ht => by
  cases h : jnM rs us ts with
  | none => rw [raF_err _ _ _ _ _ (ciF_no _ _ _ h) (by decide)]; exact Nat.zero_le _
  | some l =>
    rcases Nat.lt_or_ge 24 l.length with h2 | h2
    · rw [raF_err _ _ _ _ _ (ciF_long _ _ _ _ h h2) (by decide)]; exact Nat.zero_le _
    · rw [raF_yes _ _ _ _ (ciF_yes _ _ _ _ h h2)]; exact Nat.le_trans (nfR_len rs _) (Nat.le_trans (cmp_len _ _ _).2.1 ht)) L xs us ts
end Go.Proofs.YtcojodkcpemfdaaDoor
namespace Go.Proofs.YtcojodkcpemfdaaDoor
open Go Go.RowKit
set_option linter.unusedVariables false
set_option maxRecDepth 100000

end Go.Proofs.YtcojodkcpemfdaaDoor
namespace Go.Proofs.YtcojodkcpemfdaaDoor
open Go Go.RowKit
set_option linter.unusedVariables false
set_option maxRecDepth 100000

end Go.Proofs.YtcojodkcpemfdaaDoor
namespace Go.Proofs.YtcojodkcpemfdaaDoor
open Go Go.RowKit
set_option linter.unusedVariables false
set_option maxRecDepth 100000

def prjS (us : List Nat) (M : Nat) : List Nat := us.filter fun a => M.testBit a
theorem prjS_len (us : List Nat) (M : Nat) : (prjS us M).length ≤ us.length := List.length_filter_le _ _
theorem prjS_in (us : List Nat) (M k : Nat) (hk : k < us.length) (h : M.testBit (us.getD k 0) = true) : prjS (us.take (k + 1)) M = prjS (us.take k) M ++ [us.getD k 0] := by
  unfold prjS
  rw [List.take_add_one, List.getElem?_eq_getElem hk, List.filter_append]
  rw [List.getD_eq_getElem?_getD, List.getElem?_eq_getElem hk] at h ⊢
  have h' : M.testBit us[k] = true := h
  simp [h']
theorem prjS_out (us : List Nat) (M k : Nat) (hk : k < us.length) (h : M.testBit (us.getD k 0) = false) : prjS (us.take (k + 1)) M = prjS (us.take k) M := by
  unfold prjS
  rw [List.take_add_one, List.getElem?_eq_getElem hk, List.filter_append]
  rw [List.getD_eq_getElem?_getD, List.getElem?_eq_getElem hk] at h
  have h' : M.testBit us[k] = false := h
  simp [h']
set_option maxHeartbeats 1600000 in
theorem projection_any (A : Option Addr) (m c M : Nat) (us : List Nat) (w : World) (h : Rd w A m (ints us)) (hm : m ≤ 24) (hM : M < 9223372036854775808) (hus : ∀ p, p < m → us.getD p 0 < 8) :
    Calls Tryd.prog 123 #[.slice A m c, .int .i64 (M : Int)] w (MakesE 2 w (prjS us M).length (ints (prjS us M))) := by
  obtain ⟨i0, hi, hz0, hz1, hz2⟩ := info_parts info_int
  have HL : Hid (us.length = m) := Lib.hid (by have := h.1; rw [ints_len] at this; exact this)
  have HUS := Lib.hid hus
  clear hus
  go_enter Tryd.func123, Tryd.ntmps123
  go_wp2_with fail
  go_loopw [5, 10] (fun p q wr => ∃ (k N : Nat) (A1 : Option Addr) (c1 : Nat), k ≤ m ∧ N ≤ k ∧ p = .slice A1 N c1 ∧ q = .int .i64 (k : Int) ∧ N = (prjS (us.take k) M).length ∧ Own 2 wr w.heap.size A1 N c1 (ints (prjS (us.take k) M)) ∧ Below w.heap.size w wr) (fun _ q _ => m - (intOf q).toNat)
  case atStart => exact ⟨0, 0, _, 0, Nat.zero_le _, Nat.le_refl _, rfl, rfl, rfl, Own.nil _ _ _, Below.refl _ _⟩
  case round =>
    obtain ⟨k, N, A1, c1, hk, hNk, rfl, rfl, hN, ho, hb⟩ := hrel
    have HN := Lib.hid hN
    clear hN
    by_cases hlt : k < m
    · obtain ⟨b, off, x, rfl, hbs, hx, hcx⟩ := (h.below hb).at_ hlt
      rw [ints_getD us k (by rw [HL.out]; exact hlt)] at hx
      injection hx with hx
      have hu8 := HUS.out k hlt
      have HIN : Hid (M.testBit (us.getD k 0) = true → prjS (us.take (k + 1)) M = prjS (us.take k) M ++ [us.getD k 0]) := Lib.hid (prjS_in us M k (by rw [HL.out]; exact hlt))
      have HOUT : Hid (M.testBit (us.getD k 0) = false → prjS (us.take (k + 1)) M = prjS (us.take k) M) := Lib.hid (prjS_out us M k (by rw [HL.out]; exact hlt))
      obtain ⟨X, hX⟩ : ∃ X, X = us.getD k 0 := ⟨_, rfl⟩
      rw [← hX] at hx hu8 HIN HOUT
      subst hx
      obtain ⟨t, ht⟩ : ∃ t, t = M.testBit X := ⟨_, rfl⟩
      rw [← ht] at HIN HOUT
      have HT : Hid (∀ ww : World, Calls Tryd.prog 169 #[.int .i64 (M : Int), .int .i64 (X : Int)] ww fun e w' => e = .returned (.bool t) ∧ ww = w') := Lib.hid fun ww => by rw [ht]; exact has_any M X hM (by omega) ww
      clear hX ht
      cases t
      · have HO := Lib.hid (HOUT.out rfl)
        clear HOUT HIN
        go_wp2_with fail
        refine (HT.out _).mono ?_
        rintro e w' ⟨rfl, rfl⟩
        go_wp2_with fail
        go_roundw
        case rel => exact ⟨k + 1, N, A1, c1, hlt, by omega, rfl, by go_num, by rw [HO.out]; exact HN.out, by rw [HO.out]; exact ho, hb⟩
        case measure => simp [intOf]; omega
      · have HI := Lib.hid (HIN.out rfl)
        clear HOUT HIN
        have hml : N + 1 ≤ maxLen := by unfold maxLen; omega
        have hby2 : (N + 1) * 8 ≤ 140737488355328 := by omega
        go_wp2_with fail
        refine (HT.out _).mono ?_
        rintro e w' ⟨rfl, rfl⟩
        go_wp2_with (at_builtin; refine wpList_append_own _ rfl _ _ 22 rfl w.heap.size 2 i0 (.int .i64 0) 1 8 Tryd.underlying22 hi hz0 hz1 hz2 rfl (by decide) (.slice A1 N c1) N ((ints (prjS (us.take k) M)).map (Value.int .i64)) rfl (World.ownsRow.alloc ho _) ⟨wr.heap.size, 0, none⟩ 1 1 [.int .i64 (X : Int)] rfl rfl ?c1 ?c2 hml hby2 ?c5 ?_)
        case c1 => exact cell_one_new _ _ _
        case c2 => intro u hu; simp at hu; subst hu; rfl
        case c5 => have := hb.size; simp; omega
        intro v' w2 hown hg _
        rw [ints_snoc_map, ← HI.out] at hown
        have hb2 : Below w.heap.size w w2 := (hb.alloc hb.size _).grown hg (by have := hb.size; simp; omega) (fun r hr => (World.ownsRow.lt ho r hr).1)
        obtain ⟨A2, c2, hv, ho2⟩ := own_shape hown
        rw [hv]
        clear hg hown hv ho hb
        go_wp2_with fail
        go_roundw
        case rel => exact ⟨k + 1, N + 1, A2, c2, hlt, by omega, rfl, by go_num, by rw [HI.out, List.length_append, ← HN.out]; rfl, ho2, hb2⟩
        case measure => simp [intOf]; omega
    · have hkm : k = m := by omega
      subst hkm
      have HTK : Hid (us.take k = us) := Lib.hid (List.take_of_length_le (by rw [HL.out]; exact Nat.le_refl _))
      go_wp2_with fail
      go_ret
      rw [HTK.out] at HN ho
      obtain rfl := HN.out
      exact ⟨A1, c1, rfl, ho, hb⟩
set_option maxHeartbeats 1600000 in
theorem project_any (A : Option Addr) (m c M : Nat) (us : List Nat) (w : World) (h : Rd w A m (ints us)) (hm : m ≤ 24) (hM : M < 9223372036854775808) (hus : ∀ p, p < m → us.getD p 0 < 8) :
    Calls Tryd.prog 177 #[.slice A m c, .int .i64 (M : Int)] w (MakesE 2 w (prjS us M).length (ints (prjS us M))) := by
  obtain ⟨i0, hi, hz0, hz1, hz2⟩ := info_parts info_int
  have HL : Hid (us.length = m) := Lib.hid (by have := h.1; rw [ints_len] at this; exact this)
  have HUS := Lib.hid hus
  clear hus
  go_enter Tryd.func177, Tryd.ntmps177
  go_wp2_with fail
  go_loopw [5, 6] (fun p q wr => ∃ (k N : Nat) (A1 : Option Addr) (c1 : Nat), k ≤ m ∧ N ≤ k ∧ p = .slice A1 N c1 ∧ q = .int .i64 (k : Int) ∧ N = (prjS (us.take k) M).length ∧ Own 2 wr w.heap.size A1 N c1 (ints (prjS (us.take k) M)) ∧ Below w.heap.size w wr) (fun _ q _ => m - (intOf q).toNat)
  case atStart => exact ⟨0, 0, _, 0, Nat.zero_le _, Nat.le_refl _, rfl, rfl, rfl, World.ownsRow_lit w #[] 0 (Nat.le_refl _) (by unfold maxLen; omega) rfl, (Below.refl _ _).alloc (Nat.le_refl _) _⟩
  case round =>
    obtain ⟨k, N, A1, c1, hk, hNk, rfl, rfl, hN, ho, hb⟩ := hrel
    have HN := Lib.hid hN
    clear hN
    by_cases hlt : k < m
    · obtain ⟨b, off, x, rfl, hbs, hx, hcx⟩ := (h.below hb).at_ hlt
      rw [ints_getD us k (by rw [HL.out]; exact hlt)] at hx
      injection hx with hx
      have hu8 := HUS.out k hlt
      have HIN : Hid (M.testBit (us.getD k 0) = true → prjS (us.take (k + 1)) M = prjS (us.take k) M ++ [us.getD k 0]) := Lib.hid (prjS_in us M k (by rw [HL.out]; exact hlt))
      have HOUT : Hid (M.testBit (us.getD k 0) = false → prjS (us.take (k + 1)) M = prjS (us.take k) M) := Lib.hid (prjS_out us M k (by rw [HL.out]; exact hlt))
      obtain ⟨X, hX⟩ : ∃ X, X = us.getD k 0 := ⟨_, rfl⟩
      rw [← hX] at hx hu8 HIN HOUT
      subst hx
      obtain ⟨t, ht⟩ : ∃ t, t = M.testBit X := ⟨_, rfl⟩
      rw [← ht] at HIN HOUT
      have HT : Hid (∀ ww : World, Calls Tryd.prog 125 #[.int .i64 (M : Int), .int .i64 (X : Int)] ww fun e w' => e = .returned (.bool t) ∧ ww = w') := Lib.hid fun ww => by rw [ht]; exact bit_any M X hM (by omega) ww
      clear hX ht
      cases t
      · have HO := Lib.hid (HOUT.out rfl)
        clear HOUT HIN
        go_wp2_with fail
        refine (HT.out _).mono ?_
        rintro e w' ⟨rfl, rfl⟩
        go_wp2_with fail
        go_roundw
        case rel => exact ⟨k + 1, N, A1, c1, hlt, by omega, rfl, by go_num, by rw [HO.out]; exact HN.out, by rw [HO.out]; exact ho, hb⟩
        case measure => simp [intOf]; omega
      · have HI := Lib.hid (HIN.out rfl)
        clear HOUT HIN
        have hml : N + 1 ≤ maxLen := by unfold maxLen; omega
        have hby2 : (N + 1) * 8 ≤ 140737488355328 := by omega
        go_wp2_with fail
        refine (HT.out _).mono ?_
        rintro e w' ⟨rfl, rfl⟩
        go_wp2_with (at_builtin; refine wpList_append_own _ rfl _ _ 22 rfl w.heap.size 2 i0 (.int .i64 0) 1 8 Tryd.underlying22 hi hz0 hz1 hz2 rfl (by decide) (.slice A1 N c1) N ((ints (prjS (us.take k) M)).map (Value.int .i64)) rfl (World.ownsRow.alloc ho _) ⟨wr.heap.size, 0, none⟩ 1 1 [.int .i64 (X : Int)] rfl rfl ?c1 ?c2 hml hby2 ?c5 ?_)
        case c1 => exact cell_one_new _ _ _
        case c2 => intro u hu; simp at hu; subst hu; rfl
        case c5 => have := hb.size; simp; omega
        intro v' w2 hown hg _
        rw [ints_snoc_map, ← HI.out] at hown
        have hb2 : Below w.heap.size w w2 := (hb.alloc hb.size _).grown hg (by have := hb.size; simp; omega) (fun r hr => (World.ownsRow.lt ho r hr).1)
        obtain ⟨A2, c2, hv, ho2⟩ := own_shape hown
        rw [hv]
        clear hg hown hv ho hb
        go_wp2_with fail
        go_roundw
        case rel => exact ⟨k + 1, N + 1, A2, c2, hlt, by omega, rfl, by go_num, by rw [HI.out, List.length_append, ← HN.out]; rfl, ho2, hb2⟩
        case measure => simp [intOf]; omega
    · have hkm : k = m := by omega
      subst hkm
      have HTK : Hid (us.take k = us) := Lib.hid (List.take_of_length_le (by rw [HL.out]; exact Nat.le_refl _))
      go_wp2_with fail
      go_ret
      rw [HTK.out] at HN ho
      obtain rfl := HN.out
      exact ⟨A1, c1, rfl, ho, hb⟩
end Go.Proofs.YtcojodkcpemfdaaDoor
namespace Go.Proofs.YtcojodkcpemfdaaDoor
open Go Go.RowKit
set_option linter.unusedVariables false
set_option maxRecDepth 100000

def prAns (L : Int) (xs us : List Int) (a : Int) : List Int × Int := if wCode L xs us = 0 then (if isMaskB a L = true then (ints (nfR (xs.map Int.toNat) (prjS (us.map Int.toNat) a.toNat)), 0) else ([], 2)) else ([], wCode L xs us)
theorem prAns_no (L : Int) (xs us : List Int) (a : Int) (h : alphB L xs = false) : prAns L xs us a = ([], 1) := by
  have e : wCode L xs us = 1 := by unfold wCode; rw [if_neg (by rw [h]; decide)]
  unfold prAns; rw [e]; rfl
theorem prAns_bad (L : Int) (xs us : List Int) (a : Int) (h : alphB L xs = true) (h2 : wordB L us = false) : prAns L xs us a = ([], 2) := by
  have e : wCode L xs us = 2 := by unfold wCode; rw [if_pos h, if_neg (by rw [h2]; decide)]
  unfold prAns; rw [e]; rfl
theorem prAns_out (L : Int) (xs us : List Int) (a : Int) (h : alphB L xs = true) (h2 : wordB L us = true) (h3 : isMaskB a L = false) : prAns L xs us a = ([], 2) := by
  have e : wCode L xs us = 0 := by unfold wCode; rw [if_pos h, if_pos h2]
  unfold prAns; rw [if_pos e, if_neg (by rw [h3]; decide)]
theorem prAns_yes (L : Int) (rs us : List Nat) (a : Nat) (h : alphB L (ints rs) = true) (h2 : wordB L (ints us) = true) (h3 : isMaskB (a : Int) L = true) : prAns L (ints rs) (ints us) (a : Int) = (ints (nfR rs (prjS us a)), 0) := by
  have e : wCode L (ints rs) (ints us) = 0 := by unfold wCode; rw [if_pos h, if_pos h2]
  unfold prAns; rw [if_pos e, if_pos h3, ints_toNat, ints_toNat]; rfl
theorem prAns_small (L : Int) (xs us : List Int) (a : Int) : (prAns L xs us a).1.length ≤ 24 := by
  unfold prAns
  split
  · rename_i h
    split
    · show (ints _).length ≤ 24
      rw [ints_len]
      refine Nat.le_trans (nfR_len _ _) (Nat.le_trans (prjS_len _ _) ?_)
      rw [List.length_map]
      unfold wCode at h
      split at h
      · split at h
        · rename_i hw
          unfold wordB at hw
          rw [Bool.and_eq_true, decide_eq_true_eq] at hw
          exact hw.1
        · cases h
      · cases h
    · show 0 ≤ 24; omega
  · show 0 ≤ 24; omega
set_option maxHeartbeats 3200000 in
theorem implProjectionOf (L : Int) (A : Option Addr) (n c : Nat) (xs : List Int) (A1 : Option Addr) (m d : Nat) (us : List Int) (a : Int) (w : World) (h : Rd w A n xs) (hwf : Wf xs) (hL1 : -9223372036854775808 ≤ L) (hL2 : L ≤ 9223372036854775807) (hn : n ≤ maxLen) (h2 : Rd w A1 m us) (hwf2 : Wf us) (hm : m ≤ maxLen) (ha1 : -9223372036854775808 ≤ a) (ha2 : a ≤ 9223372036854775807) (hT : Tab w) :
    Calls Tryd.prog 63 #[.agg #[.int .i64 L, .slice A n c], .slice A1 m d, .int .i64 a] w (LsPost w (prAns L xs us a).1.length (prAns L xs us a).1 (prAns L xs us a).2) := by
  have hn2 : n ≤ 9223372036854775807 := by unfold maxLen at hn; omega
  have hn1 := h.1
  have hm1 := h2.1
  have x0 := box_new 29 w L A n c
  have HB := Lib.hid (below2 w (.cells #[.int .i64 L, .slice A n c] 29) (.cells #[.slice A1 m d] 22))
  have hh := h.below HB.out
  have ht := rdT_box w (.cells #[.int .i64 L, .slice A n c] 29) A1 m d us 22 h2 hm
  have hh2 := h2.below HB.out
  have hT1 := hT.below HB.out
  have x1 := x0.next (below1 (w.alloc (.cells #[.int .i64 L, .slice A n c] 29)) (.cells #[.slice A1 m d] 22))
  cases ha : alphB L xs
  · rw [show prAns L xs us a = _ from prAns_no L xs us a ha]
    have HA := Lib.hid ha
    clear ha ht hn1
    go_enter Tryd.func63, Tryd.ntmps63
    go_wp2_with fail
    refine (dependenceWith_no L _ _ _ _ _ _ xs [] _ hh hwf hL1 hL2 hn2 HA.out hT1).mono ?_
    rintro e w1 ⟨rfl, hb⟩
    go_wp2_with fail
    go_ret2
    exact LsPost.of_ans (ans_no 1 (HB.out.trans (hb.mono HB.out.size)))
  · cases hu : wordB L us
    · rw [show prAns L xs us a = _ from prAns_bad L xs us a ha hu]
      obtain ⟨rs, rfl, rfl, h8, hr, hrel, hl, hd, _⟩ := alphB_nats L xs n hn1 ha
      have HU := Lib.hid hu
      clear ha hu
      go_enter Tryd.func63, Tryd.ntmps63
      go_wp2_with fail
      refine (dependenceWith_any _ _ _ _ _ _ rs _ _ hh hwf h8 hr hrel hd ht (by omega) hT1).mono ?_
      rw [okT_one, HU.out]
      rintro e w1 (⟨hok, _⟩ | ⟨hok, rfl, hb⟩)
      · cases hok
      go_wp2_with fail
      go_ret2
      exact LsPost.of_ans (ans_no 2 (HB.out.trans (hb.mono HB.out.size)))
    · obtain ⟨rs, rfl, rfl, h8, hr, hrel, hl, hd, _⟩ := alphB_nats L xs n hn1 ha
      obtain ⟨vs, rfl, hv24, hvn⟩ := wordB_nats n us hu
      have HU := Lib.hid hu
      have HDEP := Lib.hid ((depB_iff rs n hl hr).1 hd)
      rw [ints_len] at hm1
      have hm24 : m ≤ 24 := by omega
      cases hmk : isMaskB a (n : Int)
      · rw [show prAns (n : Int) (ints rs) (ints vs) a = _ from prAns_out (n : Int) (ints rs) (ints vs) a ha hu hmk]
        have HMK := Lib.hid hmk
        clear ha hu hmk
        go_enter Tryd.func63, Tryd.ntmps63
        go_wp2_with fail
        refine (dependenceWith_any _ _ _ _ _ _ rs _ _ hh hwf h8 hr hrel hd ht (by omega) hT1).mono ?_
        rw [okT_one, HU.out]
        rintro e w1 (⟨hok, A2, c2, rfl, ho, hb⟩ | ⟨hok, _⟩)
        rotate_left
        · cases hok
        have y0 := (x1.next hb).c0
        go_wp2_with fail
        refine (isMask_any a (n : Int) ha1 ha2 _).mono ?_
        rintro e w' ⟨rfl, rfl⟩
        rw [HMK.out]
        go_wp2_with fail
        go_ret2
        exact LsPost.of_ans (ans_no 2 (HB.out.trans (hb.mono HB.out.size)))
      · have HMK := Lib.hid hmk
        rw [isMaskB_in a n (by omega), decide_eq_true_eq] at hmk
        obtain ⟨k, rfl⟩ := Int.eq_ofNat_of_zero_le hmk.1
        have hk63 : k < 9223372036854775808 := by have := p8 n h8; omega
        rw [show prAns (n : Int) (ints rs) (ints vs) (k : Int) = _ from prAns_yes (n : Int) rs vs k ha hu HMK.out]
        have HVP : Hid (∀ p, p < m → vs.getD p 0 < 8) := Lib.hid fun p hp => Nat.lt_of_lt_of_le (in_getD hvn p (by omega)) h8
        have hqn : ∀ x, x ∈ prjS vs k → x < n := fun x hx => hvn x (List.mem_filter.1 hx).1
        have hql : (prjS vs k).length ≤ 24 := Nat.le_trans (prjS_len vs k) (by omega)
        obtain ⟨ps, hps⟩ : ∃ ps, ps = prjS vs k := ⟨_, rfl⟩
        rw [← hps] at hqn hql ⊢
        obtain ⟨q, hq⟩ : ∃ q, q = ps.length := ⟨_, rfl⟩
        have HPS := Lib.hid hps
        have HQ := Lib.hid hq
        have HLR : Hid (rs.length = n) := Lib.hid hl
        have HLU : Hid (ps.length = q) := Lib.hid hq.symm
        have hm24' : q ≤ 24 := by omega
        have HVR : Hid (∀ p, p < q → ps.getD p 0 < n) := Lib.hid fun p hp => in_getD hqn p (by omega)
        have HR63 : Hid (∀ i, rs.getD i 0 < 9223372036854775808) := Lib.hid fun i => lt63 (by omega) (hr i)
        clear ha hu hmk hl hps hq hql hm1
        go_enter Tryd.func63, Tryd.ntmps63
        go_wp2_with fail
        refine (dependenceWith_any _ _ _ _ _ _ rs _ _ hh hwf h8 hr hrel hd ht (by omega) hT1).mono ?_
        rw [okT_one, HU.out]
        rintro e w1 (⟨hok, A2, c2, rfl, ho, hb⟩ | ⟨hok, _⟩)
        rotate_left
        · cases hok
        have y0 := (x1.next hb).c0
        have HB1 := Lib.hid (HB.out.trans (hb.mono HB.out.size))
        have HPJ := Lib.hid (projection_any A1 m d k vs w1 (hh2.below hb) hm24 hk63 HVP.out)
        have hrd := ho.rd
        have hT2 := hT1.below hb
        clear ho hb hok ht hh hh2 hT1 hT h h2 x0 x1
        go_wp2_with fail
        refine (isMask_any (k : Int) (n : Int) ha1 ha2 _).mono ?_
        rintro e w' ⟨rfl, rfl⟩
        rw [HMK.out]
        go_wp2_with fail
        refine HPJ.out.mono ?_
        rintro e w2 ⟨A3, c3, rfl, ho3, hb3⟩
        rw [← HPS.out, ← HQ.out] at ho3
        rw [← HPS.out, ← HQ.out]
        have HRD := Lib.hid (hrd.below hb3)
        have HRW := Lib.hid ho3.rd
        have HTT := Lib.hid (hT2.below hb3)
        have HBW := Lib.hid (HB1.out.trans (hb3.mono HB1.out.size))
        clear hb3 ho3 hrd hT2 HPJ
        go_wp2_with fail
        refine (traceOf_any A2 A3 n q c2 c3 rs ps _ HRD.out HRW.out hm24' (by omega) HVR.out HR63.out HTT.out).mono ?_
        rintro e w5 ⟨A5, c5, B5, d5, es, rfl, hp, hs, h1, h2, -, -, hb5⟩
        have HNF := Lib.hid (nf_from A5 B5 c5 d5 q n rs ps es w5 HLR.out hr HDEP.out HLU.out HVR.out hm24' hp hs h1 h2 (HTT.out.below hb5))
        have HB5 := Lib.hid (HBW.out.trans (hb5.mono HBW.out.size))
        clear hp hs h1 h2 hb5
        go_wp2_with fail
        refine HNF.out.mono ?_
        rintro e w6 ⟨A6, c6, rfl, ho6, hb6⟩
        go_wp2_with fail
        go_ret2
        exact LsPost.of_ans (ans_yes ho6.len (ho6.mono HB5.out.size) (HB5.out.trans (hb6.mono HB5.out.size)))
end Go.Proofs.YtcojodkcpemfdaaDoor
namespace Go.Proofs.YtcojodkcpemfdaaDoor
open Go Go.RowKit
set_option linter.unusedVariables false
set_option maxRecDepth 100000

def pnR (rs us : List Nat) (k : Nat) : List Nat := nfR rs (inGo (RDep rs) (fun a => k.testBit a) us [] []).1
def pnAns (L : Int) (xs us : List Int) (a : Int) : List Int × Int := if wCode L xs us = 0 then (if isMaskB a L = true then (ints (pnR (xs.map Int.toNat) (us.map Int.toNat) a.toNat), 0) else ([], 2)) else ([], wCode L xs us)
theorem pnAns_no (L : Int) (xs us : List Int) (a : Int) (h : alphB L xs = false) : pnAns L xs us a = ([], 1) := by
  have e := wCode_no L xs us h
  unfold pnAns; rw [e]; rfl
theorem pnAns_bad (L : Int) (xs us : List Int) (a : Int) (h : alphB L xs = true) (h2 : wordB L us = false) : pnAns L xs us a = ([], 2) := by
  have e := wCode_bad L xs us h h2
  unfold pnAns; rw [e]; rfl
theorem pnAns_out (L : Int) (xs us : List Int) (a : Int) (h : alphB L xs = true) (h2 : wordB L us = true) (h3 : isMaskB a L = false) : pnAns L xs us a = ([], 2) := by
  have e := wCode_yes L xs us h h2
  unfold pnAns; rw [if_pos e, if_neg (by rw [h3]; decide)]
theorem pnAns_yes (L : Int) (rs us : List Nat) (a : Nat) (h : alphB L (ints rs) = true) (h2 : wordB L (ints us) = true) (h3 : isMaskB (a : Int) L = true) : pnAns L (ints rs) (ints us) (a : Int) = (ints (pnR rs us a), 0) := by
  have e := wCode_yes L (ints rs) (ints us) h h2
  unfold pnAns; rw [if_pos e, if_pos h3, ints_toNat, ints_toNat]; rfl
theorem inGo_len (D : Nat → Nat → Bool) (P : Nat → Bool) : ∀ u p f : List Nat, (inGo D P u p f).1.length ≤ p.length + u.length ∧ ∀ x, x ∈ (inGo D P u p f).1 → x ∈ p ∨ x ∈ u
  | [], p, f => ⟨by simp [inGo], fun x hx => .inl hx⟩
  | a :: u, p, f => by
    by_cases h : (P a && !depL D f a) = true
    · have e : inGo D P (a :: u) p f = inGo D P u (p ++ [a]) f := if_pos h
      rw [e]
      obtain ⟨h1, h2⟩ := inGo_len D P u (p ++ [a]) f
      refine ⟨by simp at h1 ⊢; omega, fun x hx => ?_⟩
      rcases h2 x hx with h | h
      · rcases List.mem_append.1 h with h | h
        · exact .inl h
        · simp at h; subst h; exact .inr List.mem_cons_self
      · exact .inr (List.mem_cons_of_mem _ h)
    · have e : inGo D P (a :: u) p f = inGo D P u p (f ++ [a]) := if_neg h
      rw [e]
      obtain ⟨h1, h2⟩ := inGo_len D P u p (f ++ [a])
      refine ⟨by simp at h1 ⊢; omega, fun x hx => ?_⟩
      rcases h2 x hx with h | h
      · exact .inl h
      · exact .inr (List.mem_cons_of_mem _ h)
theorem pnAns_small (L : Int) (xs us : List Int) (a : Int) : (pnAns L xs us a).1.length ≤ 24 := by
  unfold pnAns
  by_cases h : wCode L xs us = 0
  · rw [if_pos h]
    by_cases h2 : isMaskB a L = true
    · rw [if_pos h2, ints_len]
      have hw : wordB L us = true := by
        unfold wCode at h
        split at h
        · split at h
          · assumption
          · cases h
        · cases h
      unfold wordB at hw
      rw [Bool.and_eq_true, decide_eq_true_eq] at hw
      have := (inGo_len (RDep (xs.map Int.toNat)) (fun b => a.toNat.testBit b) (us.map Int.toNat) [] []).1
      simp at this
      exact Nat.le_trans (nfR_len _ _) (by omega)
    · rw [if_neg h2]; exact Nat.zero_le _
  · rw [if_neg h]; exact Nat.zero_le _
theorem inGo_in (D : Nat → Nat → Bool) (P : Nat → Bool) (a : Nat) (u p f : List Nat) (h : P a = true) (h2 : depL D f a = false) : inGo D P (a :: u) p f = inGo D P u (p ++ [a]) f := by
  show (if (P a && !depL D f a) = true then _ else _) = _
  rw [h, h2]; rfl
theorem inGo_no (D : Nat → Nat → Bool) (P : Nat → Bool) (a : Nat) (u p f : List Nat) (h : P a = false) : inGo D P (a :: u) p f = inGo D P u p (f ++ [a]) := by
  show (if (P a && !depL D f a) = true then _ else _) = _
  rw [h]; rfl
theorem inGo_dep (D : Nat → Nat → Bool) (P : Nat → Bool) (a : Nat) (u p f : List Nat) (h2 : depL D f a = true) : inGo D P (a :: u) p f = inGo D P u p (f ++ [a]) := by
  show (if (P a && !depL D f a) = true then _ else _) = _
  rw [h2, if_neg (by simp)]
theorem ind_one (D : Nat → Nat → Bool) (hsym : ∀ a b, D a b = D b a) (X : Nat) (f : List Nat) : indM D [X] f = !depL D f X := by
  unfold indM depL
  congr 1
  congr 1
  funext y
  show (D X y || false) = D y X
  rw [Bool.or_false, hsym]
theorem rd_lit (w : World) (X : Int) (T : TypeId) : Rd (w.alloc (.cells #[.int .i64 X] T)) (some ⟨w.heap.size, 0, none⟩) 1 [X] :=
  ⟨rfl, fun _ => ⟨w.heap.size, 0, rfl, by simp, fun j x hx => by
    have hj : j = 0 := by
      rcases Nat.eq_zero_or_pos j with h | h
      · exact h
      · rw [List.getElem?_eq_none (by simp; omega)] at hx; cases hx
    subst hj
    simp at hx
    subst hx
    have h9 := World.alloc_heap_new w (.cells #[.int .i64 X] T)
    show World.cell? _ ⟨w.heap.size, 0, none⟩ = _
    unfold World.cell?
    rw [h9]; rfl⟩⟩
theorem two_app {w w4 : World} {o : Obj} {B g cap a n0 c0 n1 c1 : Nat} {A0 A1 : Option Addr} {p f : List Nat} (o0 : Own 2 w B A0 n0 c0 (ints p)) (o1 : Own 2 w B A1 n1 c1 (ints f)) (s : ∀ k, A0.map (·.block) = some k → A1.map (·.block) ≠ some k) (hB : B ≤ w.heap.size)
    (hown : w4.ownsRow B 2 1 (.slice (some ⟨g, 0, none⟩) (n0 + 1) cap) (n0 + 1) ((ints p).map (Value.int .i64) ++ [.int .i64 (a : Int)])) (hg : (w.alloc o).grownBy w4 (Value.slice A0 n0 c0).ownBlock) (hat : (Value.slice A0 n0 c0).ownBlock = some g ∨ g = w.heap.size + 1) :
    Own 2 w4 B (some ⟨g, 0, none⟩) (n0 + 1) cap (ints (p ++ [a])) ∧ Own 2 w4 B A1 n1 c1 (ints f) ∧ (∀ k, (some (⟨g, 0, none⟩ : Addr)).map (·.block) = some k → A1.map (·.block) ≠ some k) ∧ Below B w w4 := by
  rw [ints_snoc_map] at hown
  refine ⟨hown, (o1.below (below1 w o)).apart hg (fun k hk e => s k (ownBlock_map' e) hk), fun k hk e => ?_, (((Below.refl B w).alloc hB o).grown hg (by simp; omega) (fun r e => (o0.lt r (ownBlock_map' e)).1))⟩
  injection hk with hk
  have h9 : g = k := hk
  subst h9
  rcases hat with h | h
  · exact s g (ownBlock_map' h) e
  · have := (o1.lt g e).2; omega
/-- The program's comparison of a word with its projection takes what the model takes. -/
theorem pn_cmp (rs us : List Nat) (k n : Nat) (href : ∀ a, a < n → RDep rs a a = true) (hu : ∀ x, x ∈ us → x < n) : (cmpM (RDep rs) us (prjS us k)).1 = (inGo (RDep rs) (fun a => k.testBit a) us [] []).1 := by
  have := in_cmp (RDep rs) (fun a => k.testBit a) n href us [] [] hu
  rw [List.filter_nil, List.nil_append] at this
  exact this
set_option maxHeartbeats 3200000 in
theorem implPrefixIn (L : Int) (A : Option Addr) (n c : Nat) (xs : List Int) (A1 : Option Addr) (m d : Nat) (us : List Int) (a : Int) (w : World) (h : Rd w A n xs) (hwf : Wf xs) (hL1 : -9223372036854775808 ≤ L) (hL2 : L ≤ 9223372036854775807) (hn : n ≤ maxLen) (h2 : Rd w A1 m us) (hwf2 : Wf us) (hm : m ≤ maxLen) (ha1 : -9223372036854775808 ≤ a) (ha2 : a ≤ 9223372036854775807) (hT : Tab w) :
    Calls Tryd.prog 59 #[.agg #[.int .i64 L, .slice A n c], .slice A1 m d, .int .i64 a] w (LsPost w (pnAns L xs us a).1.length (pnAns L xs us a).1 (pnAns L xs us a).2) := by
  have hn2 : n ≤ 9223372036854775807 := by unfold maxLen at hn; omega
  have hn1 := h.1
  have hm1 := h2.1
  have x0 := box_new 29 w L A n c
  have HB := Lib.hid (below2 w (.cells #[.int .i64 L, .slice A n c] 29) (.cells #[.slice A1 m d] 22))
  have hh := h.below HB.out
  have ht := rdT_box w (.cells #[.int .i64 L, .slice A n c] 29) A1 m d us 22 h2 hm
  have hh2 := h2.below HB.out
  have hT1 := hT.below HB.out
  have x1 := x0.next (below1 (w.alloc (.cells #[.int .i64 L, .slice A n c] 29)) (.cells #[.slice A1 m d] 22))
  cases ha : alphB L xs
  · rw [show pnAns L xs us a = _ from pnAns_no L xs us a ha]
    have HA := Lib.hid ha
    clear ha ht hn1
    go_enter Tryd.func59, Tryd.ntmps59
    go_wp2_with fail
    refine (dependenceWith_no L _ _ _ _ _ _ xs [] _ hh hwf hL1 hL2 hn2 HA.out hT1).mono ?_
    rintro e w1 ⟨rfl, hb⟩
    go_wp2_with fail
    go_ret2
    exact LsPost.of_ans (ans_no 1 (HB.out.trans (hb.mono HB.out.size)))
  · cases hu : wordB L us
    · rw [show pnAns L xs us a = _ from pnAns_bad L xs us a ha hu]
      obtain ⟨rs, rfl, rfl, h8, hr, hrel, hl, hd, _⟩ := alphB_nats L xs n hn1 ha
      have HU := Lib.hid hu
      clear ha hu
      go_enter Tryd.func59, Tryd.ntmps59
      go_wp2_with fail
      refine (dependenceWith_any _ _ _ _ _ _ rs _ _ hh hwf h8 hr hrel hd ht (by omega) hT1).mono ?_
      rw [okT_one, HU.out]
      rintro e w1 (⟨hok, _⟩ | ⟨hok, rfl, hb⟩)
      · cases hok
      go_wp2_with fail
      go_ret2
      exact LsPost.of_ans (ans_no 2 (HB.out.trans (hb.mono HB.out.size)))
    · obtain ⟨rs, rfl, rfl, h8, hr, hrel, hl, hd, _⟩ := alphB_nats L xs n hn1 ha
      obtain ⟨vs, rfl, hv24, hvn⟩ := wordB_nats n us hu
      have HU := Lib.hid hu
      have HDEP := Lib.hid ((depB_iff rs n hl hr).1 hd)
      rw [ints_len] at hm1
      have hm24 : m ≤ 24 := by omega
      cases hmk : isMaskB a (n : Int)
      · rw [show pnAns (n : Int) (ints rs) (ints vs) a = _ from pnAns_out (n : Int) (ints rs) (ints vs) a ha hu hmk]
        have HMK := Lib.hid hmk
        clear ha hu hmk
        go_enter Tryd.func59, Tryd.ntmps59
        go_wp2_with fail
        refine (dependenceWith_any _ _ _ _ _ _ rs _ _ hh hwf h8 hr hrel hd ht (by omega) hT1).mono ?_
        rw [okT_one, HU.out]
        rintro e w1 (⟨hok, A2, c2, rfl, ho, hb⟩ | ⟨hok, _⟩)
        rotate_left
        · cases hok
        have y0 := (x1.next hb).c0
        go_wp2_with fail
        refine (isMask_any a (n : Int) ha1 ha2 _).mono ?_
        rintro e w' ⟨rfl, rfl⟩
        rw [HMK.out]
        go_wp2_with fail
        go_ret2
        exact LsPost.of_ans (ans_no 2 (HB.out.trans (hb.mono HB.out.size)))
      · have HMK := Lib.hid hmk
        rw [isMaskB_in a n (by omega), decide_eq_true_eq] at hmk
        obtain ⟨k, rfl⟩ := Int.eq_ofNat_of_zero_le hmk.1
        have hk63 : k < 9223372036854775808 := by have := p8 n h8; omega
        rw [show pnAns (n : Int) (ints rs) (ints vs) (k : Int) = _ from pnAns_yes (n : Int) rs vs k ha hu HMK.out]
        have HVP : Hid (∀ p, p < m → vs.getD p 0 < 8) := Lib.hid fun p hp => Nat.lt_of_lt_of_le (in_getD hvn p (by omega)) h8
        have hqn : ∀ x, x ∈ prjS vs k → x < n := fun x hx => hvn x (List.mem_filter.1 hx).1
        have hql : (prjS vs k).length ≤ 24 := Nat.le_trans (prjS_len vs k) (by omega)
        have HLR : Hid (rs.length = n) := Lib.hid hl
        have HR := Lib.hid hr
        have HSY : Hid (∀ a b, RDep rs a b = RDep rs b a) := Lib.hid (rdep_sym rs n hl hr HDEP.out)
        have HRE : Hid (∀ a, a < n → RDep rs a a = true) := Lib.hid fun a ha9 => HDEP.out.1 a (by rw [HLR.out]; exact ha9)
        have HQN := Lib.hid hqn
        have HVM := Lib.hid hvn
        have hcl := cmp_len (RDep rs) vs (prjS vs k)
        have HA : Hid (pnR rs vs k = nfR rs (cmpM (RDep rs) vs (prjS vs k)).1) := Lib.hid (by unfold pnR; rw [pn_cmp rs vs k n HRE.out hvn])
        have h24 : n ≤ 24 := by omega
        have HR63 : Hid (∀ i, rs.getD i 0 < 9223372036854775808) := Lib.hid fun i => lt63 (by omega) (hr i)
        obtain ⟨w9, hw9⟩ : ∃ w9, w9 = (cmpM (RDep rs) vs (prjS vs k)).1 := ⟨_, rfl⟩
        have HW9 := Lib.hid hw9
        rw [← hw9] at hcl HA
        obtain ⟨q, hq⟩ : ∃ q, q = w9.length := ⟨_, rfl⟩
        have HLK : Hid (w9.length = q) := Lib.hid hq.symm
        have hk24 : q ≤ 24 := by have := hcl.1; omega
        have HRK : Hid (∀ x, x < q → w9.getD x 0 < n) := Lib.hid fun x hx => in_getD (fun z hz => HVM.out z (hcl.2.2.1 z hz)) x (by rw [HLK.out]; exact hx)
        have HPL := Lib.hid hql
        clear ha hu hmk hl hq hql hm1 hcl hqn hw9
        go_enter Tryd.func59, Tryd.ntmps59
        go_wp2_with fail
        refine (dependenceWith_any _ _ _ _ _ _ rs _ _ hh hwf h8 hr hrel hd ht (by omega) hT1).mono ?_
        rw [okT_one, HU.out]
        rintro e w1 (⟨hok, A2, c2, rfl, ho, hb⟩ | ⟨hok, _⟩)
        rotate_left
        · cases hok
        have y0 := (x1.next hb).c0
        have HB1 := Lib.hid (HB.out.trans (hb.mono HB.out.size))
        have hr2 := hh2.below hb
        have HPJ := Lib.hid (projection_any A1 m d k vs w1 hr2 hm24 hk63 HVP.out)
        have hrd := ho.rd
        have hT2 := hT1.below hb
        clear ho hb hok ht hh hh2 hT1 hT h h2 x0 x1 hr hd hrel hvn
        go_wp2_with fail
        refine (isMask_any (k : Int) (n : Int) ha1 ha2 _).mono ?_
        rintro e w' ⟨rfl, rfl⟩
        rw [HMK.out]
        go_wp2_with fail
        refine HPJ.out.mono ?_
        rintro e w2 ⟨A3, c3, rfl, ho3, hb3⟩
        have HQU := Lib.hid (cmpare_any A2 A1 A3 n c2 m d (prjS vs k).length c3 rs vs (prjS vs k) w2 (hrd.below hb3) h24 HR.out HSY.out HRE.out (hr2.below hb3) (by omega) HVM.out ho3.rd (by have := HPL.out; omega) (own_cap ho3) HQN.out)
        unfold CmpPost at HQU
        rw [← HW9.out, HLK.out] at HQU
        have HB2 := Lib.hid (HB1.out.trans (hb3.mono HB1.out.size))
        have hrd2 := hrd.below hb3
        have hT3 := hT2.below hb3
        obtain ⟨lf, hlf⟩ : ∃ lf, lf = (cmpM (RDep rs) vs (prjS vs k)).2.1.length := ⟨_, rfl⟩
        obtain ⟨ls, hls⟩ : ∃ ls, ls = (cmpM (RDep rs) vs (prjS vs k)).2.2.length := ⟨_, rfl⟩
        rw [← hlf, ← hls] at HQU
        clear hlf hls hb3 ho3 hrd hT2 HPJ hr2
        go_wp2_with fail
        refine HQU.out.mono ?_
        rintro e w3 ⟨A4, c4, A5, c5, A6, c6, rfl, hr4, -, -, -, hb4⟩
        have hfd : ∀ ww : World, (Instr.field 129 (.agg #[.slice A4 q c4, .slice A5 lf c5, .slice A6 ls c6]) 0).run Tryd.prog ww = .ok (.slice A4 q c4) ww := fun _ => by kernel_rfl
        have HB3 := Lib.hid (HB2.out.trans (hb4.mono HB2.out.size))
        have hrd3 := hrd2.below hb4
        have hT4 := hT3.below hb4
        clear hb4 hrd2 hT3 HQU
        have HT1 := Lib.hid (traceOf_any A2 A4 n q c2 c4 rs w9 _ hrd3 hr4 hk24 h24 HRK.out HR63.out hT4)
        go_wp2_with fail
        refine HT1.out.mono ?_
        rintro e v1 ⟨E1, g1, F1, k1, es1, rfl, hp, hs, h1, h2, -, -, ha1_⟩
        have HN1 := Lib.hid (nf_from E1 F1 g1 k1 q n rs w9 es1 v1 HLR.out HR.out HDEP.out HLK.out HRK.out hk24 hp hs h1 h2 ((hT4).below ha1_))
        clear hp hs h1 h2
        go_wp2_with fail
        refine HN1.out.mono ?_
        rintro e u1 ⟨G1, l1, rfl, ho1, hb1⟩
        go_wp2_with fail
        go_ret2
        rw [HA.out]
        have HZ := HB3.out.trans (ha1_.mono HB3.out.size)
        exact LsPost.of_ans (ans_yes ho1.len (ho1.mono HZ.size) (HZ.trans (hb1.mono HZ.size)))
set_option maxHeartbeats 25600000 in
theorem specPrefixIn (L : Int) (A : Option Addr) (n c : Nat) (xs : List Int) (A1 : Option Addr) (m d : Nat) (us : List Int) (a : Int) (w : World) (h : Rd w A n xs) (hwf : Wf xs) (hL1 : -9223372036854775808 ≤ L) (hL2 : L ≤ 9223372036854775807) (hn : n ≤ maxLen) (h2 : Rd w A1 m us) (hwf2 : Wf us) (hm : m ≤ maxLen) (ha1 : -9223372036854775808 ≤ a) (ha2 : a ≤ 9223372036854775807) :
    Calls Tryd.prog 60 #[.agg #[.int .i64 L, .slice A n c], .slice A1 m d, .int .i64 a] w (LsPost w (pnAns L xs us a).1.length (pnAns L xs us a).1 (pnAns L xs us a).2) := by
  have hn2 : n ≤ 9223372036854775807 := by unfold maxLen at hn; omega
  have hm2 : m ≤ 9223372036854775807 := by unfold maxLen at hm; omega
  have hn1 := h.1
  have hm1 := h2.1
  have HB := Lib.hid (below1 w (.cells #[.int .i64 L, .slice A n c] 29))
  have x0 := box_new 29 w L A n c
  have hh := h.below HB.out
  have hh2 := h2.below HB.out
  have HC := Lib.hid (wCode_two L xs us)
  cases ha : alphB L xs
  · rw [show pnAns L xs us a = _ from pnAns_no L xs us a ha]
    have HD := Lib.hid (wCode_no L xs us ha)
    clear ha hn1
    go_enter Tryd.func60, Tryd.ntmps60
    go_wp2_with fail
    refine (l03Code_any L _ _ _ _ _ _ _ _ _ xs us us _ hh hn2 hh2 hm2 hh2 hm2).mono ?_
    rintro e w1 ⟨rfl, hb⟩
    rw [HC.out, HD.out]
    go_wp2_with fail
    go_ret2
    exact LsPost.of_ans (ans_no 1 (HB.out.trans (hb.mono HB.out.size)))
  · cases hu : wordB L us
    · rw [show pnAns L xs us a = _ from pnAns_bad L xs us a ha hu]
      have HD := Lib.hid (wCode_bad L xs us ha hu)
      clear ha hu hn1
      go_enter Tryd.func60, Tryd.ntmps60
      go_wp2_with fail
      refine (l03Code_any L _ _ _ _ _ _ _ _ _ xs us us _ hh hn2 hh2 hm2 hh2 hm2).mono ?_
      rintro e w1 ⟨rfl, hb⟩
      rw [HC.out, HD.out]
      go_wp2_with fail
      go_ret2
      exact LsPost.of_ans (ans_no 2 (HB.out.trans (hb.mono HB.out.size)))
    · have HD := Lib.hid (wCode_yes L xs us ha hu)
      obtain ⟨rs, rfl, rfl, h8, hr, hrel, hl, hd, _⟩ := alphB_nats L xs n hn1 ha
      obtain ⟨vs, rfl, hv24, hvn⟩ := wordB_nats n us hu
      rw [ints_len] at hm1
      have hm24 : m ≤ 24 := by omega
      have hn62 : n ≤ 62 := by omega
      obtain ⟨P, hP⟩ : ∃ P, P = 2 ^ n - 1 := ⟨_, rfl⟩
      have HFU : Hid (∀ ww : World, Calls Tryd.prog 124 #[.int .i64 (n : Int)] ww fun e w' => e = .returned (.int .i64 (P : Int)) ∧ ww = w') := Lib.hid (by rw [hP]; exact fun ww => full_any n hn62 ww)
      have HIM : Hid (decide ((0 : Int) ≤ a ∧ a ≤ (P : Int)) = isMaskB a (n : Int)) := Lib.hid (by rw [isMaskB_in a n (by omega), decide_eq_decide, hP]; have := p2_pos n; omega)
      clear hP
      cases hmk : isMaskB a (n : Int)
      · rw [show pnAns (n : Int) (ints rs) (ints vs) a = _ from pnAns_out (n : Int) (ints rs) (ints vs) a ha hu hmk]
        have HMK := Lib.hid hmk
        clear ha hu hmk
        go_enter Tryd.func60, Tryd.ntmps60
        go_wp2_with fail
        refine (l03Code_any (n : Int) _ _ _ _ _ _ _ _ _ (ints rs) (ints vs) (ints vs) _ hh hn2 hh2 hm2 hh2 hm2).mono ?_
        rintro e w1 ⟨rfl, hb⟩
        rw [HC.out, HD.out]
        have y0 := (x0.next hb).c0
        have y1 := (x0.next hb).c1
        go_wp2_with fail
        refine (HFU.out _).mono ?_
        rintro e w' ⟨rfl, rfl⟩
        go_wp2_with fail
        refine (in_any a 0 (P : Int) _).mono ?_
        rintro e w' ⟨rfl, rfl⟩
        rw [HIM.out, HMK.out]
        go_wp2_with fail
        go_ret2
        exact LsPost.of_ans (ans_no 2 (HB.out.trans (hb.mono HB.out.size)))
      · have HMK := Lib.hid hmk
        rw [isMaskB_in a n (by omega), decide_eq_true_eq] at hmk
        obtain ⟨k, rfl⟩ := Int.eq_ofNat_of_zero_le hmk.1
        have hk63 : k < 9223372036854775808 := by have := p8 n h8; omega
        rw [show pnAns (n : Int) (ints rs) (ints vs) (k : Int) = _ from pnAns_yes (n : Int) rs vs k ha hu HMK.out]
        have HLR : Hid (rs.length = n) := Lib.hid hl
        have HNR : Hid (∀ ps, nfM (RDep rs) n ps = nfR rs ps) := Lib.hid fun ps => by unfold nfR; rw [hl]
        have HLU : Hid (vs.length = m) := Lib.hid hm1
        have HVM := Lib.hid hvn
        have HR := Lib.hid hr
        have h24 : n ≤ 24 := by omega
        obtain ⟨V, hV⟩ : ∃ V, V = (inGo (RDep rs) (fun a => k.testBit a) vs [] []).1 := ⟨_, rfl⟩
        have HV := Lib.hid hV
        have HVL := Lib.hid (inGo_len (RDep rs) (fun a => k.testBit a) vs [] [])
        have HA : Hid (pnR rs vs k = nfR rs V) := Lib.hid (by rw [hV]; rfl)
        obtain ⟨i0, hi, hz0, hz1, hz2⟩ := info_parts info_int
        have mixed : Tryd.prog.follows .mixedOrders = true := by kernel_rfl
        clear ha hu hmk hl hm1 hr hvn hV
        go_enter Tryd.func60, Tryd.ntmps60
        go_wp2_with fail
        refine (l03Code_any (n : Int) _ _ _ _ _ _ _ _ _ (ints rs) (ints vs) (ints vs) _ hh hn2 hh2 hm2 hh2 hm2).mono ?_
        rintro e w1 ⟨rfl, hb⟩
        rw [HC.out, HD.out]
        have hx1 := x0.next hb
        have y0 := hx1.c0
        have y1 := hx1.c1
        have HB1 := Lib.hid (HB.out.trans (hb.mono HB.out.size))
        have hh1 := hh.below hb
        have hu1 := hh2.below hb
        clear hb hh hh2 h h2
        go_wp2_with fail
        refine (HFU.out _).mono ?_
        rintro e w' ⟨rfl, rfl⟩
        go_wp2_with fail
        refine (in_any (k : Int) 0 (P : Int) _).mono ?_
        rintro e w' ⟨rfl, rfl⟩
        rw [HIM.out, HMK.out]
        go_wp2_with fail
        obtain ⟨W2, hW2⟩ : ∃ W2, (w1.alloc (.cells #[] 2)).alloc (.cells #[] 2) = W2 := ⟨_, rfl⟩
        have ol0 : Own 2 W2 w1.heap.size (some ⟨w1.heap.size, 0, none⟩) 0 0 (ints []) := by
          rw [← hW2]
          exact Own.below (show Own 2 (w1.alloc (.cells #[] 2)) w1.heap.size (some ⟨w1.heap.size, 0, none⟩) 0 0 (ints []) from World.ownsRow_lit w1 #[] 0 (Nat.le_refl _) (by unfold maxLen; omega) rfl) (below1 _ _)
        have ol1 : Own 2 W2 w1.heap.size (some ⟨w1.heap.size + 1, 0, none⟩) 0 0 (ints []) := by
          rw [← hW2]
          have h9 : Own 2 ((w1.alloc (.cells #[] 2)).alloc (.cells #[] 2)) (w1.alloc (.cells #[] 2)).heap.size (some ⟨(w1.alloc (.cells #[] 2)).heap.size, 0, none⟩) 0 0 (ints []) := World.ownsRow_lit _ #[] 0 (Nat.le_refl _) (by unfold maxLen; omega) rfl
          rw [World.size_alloc] at h9
          exact h9.mono (Nat.le_succ _)
        have HL2 : Hid (Below w1.heap.size w1 W2) := Lib.hid (by rw [← hW2]; exact below2 w1 _ _)
        rw [hW2]
        obtain ⟨bz, hbz'⟩ : ∃ bz, bz = w1.heap.size := ⟨_, rfl⟩
        rw [← hbz'] at ol0 ol1 HL2 ⊢
        have HBZ := Lib.hid hbz'
        clear hbz' hW2
        have HSY := Lib.hid (rdep_sym rs n HLR.out HR.out ((depB_iff rs n HLR.out HR.out).1 hd))
        have HRE : Hid (∀ a, a < n → RDep rs a a = true) := Lib.hid fun a ha9 => ((depB_iff rs n HLR.out HR.out).1 hd).1 a (by rw [HLR.out]; exact ha9)
        go_loopw [9, 10, 11] (fun ov fv iv wr => ∃ (j n0 c0 n1 c1 : Nat) (A0 A1 : Option Addr) (p f : List Nat), j ≤ m ∧ ov = .slice A0 n0 c0 ∧ fv = .slice A1 n1 c1 ∧ iv = .int .i64 (j : Int) ∧ Own 2 wr bz A0 n0 c0 (ints p) ∧ Own 2 wr bz A1 n1 c1 (ints f) ∧ (∀ k, A0.map (·.block) = some k → A1.map (·.block) ≠ some k) ∧ n0 + n1 = j ∧ V = (inGo (RDep rs) (fun a => k.testBit a) (vs.drop j) p f).1 ∧ (∀ x, x ∈ p → x < n) ∧ (∀ x, x ∈ f → x < n) ∧ Below bz w1 wr) (fun _ _ iv _ => m - (intOf iv).toNat)
        case atStart => exact ⟨0, 0, 0, 0, 0, _, _, [], [], Nat.zero_le _, rfl, rfl, rfl, ol0, ol1, (fun k hk e => by
          injection hk with hk
          injection e with e
          have h8 : bz = k := hk
          have h9 : bz + 1 = k := e
          omega), rfl, HV.out, (fun x hx => by cases hx), (fun x hx => by cases hx), HL2.out⟩
        case round =>
          clear ol0 ol1
          obtain ⟨j, n0, c0, n1, c1, A0, A1, p, f, hj, rfl, rfl, rfl, ow0, ow1, s01, hnk, hv, hpn, hfn, hb⟩ := hrel
          have HNK := Lib.hid hnk
          have HVK := Lib.hid hv
          have HPN := Lib.hid hpn
          have HFN := Lib.hid hfn
          clear hnk hv hpn hfn
          have s10 : ∀ k, A1.map (·.block) = some k → A0.map (·.block) ≠ some k := fun k hk e => s01 k e hk
          have hbw : Below w1.heap.size w1 wr := hb.mono (by rw [HBZ.out]; exact Nat.le_refl _)
          have hxr := hx1.next hbw
          have z0 := hxr.c0
          have z1 := hxr.c1
          have hU := hu1.below hbw
          have hR := hh1.below hbw
          have hbz : bz ≤ wr.heap.size := by rw [HBZ.out]; exact hbw.size
          by_cases hlt : j < m
          · obtain ⟨gu, ou, x, eU, hgu, hxu, hcx⟩ := hU.at_ hlt
            rw [ints_getD vs j (by rw [HLU.out]; exact hlt)] at hxu
            injection hxu with hxu
            have hun : vs.getD j 0 < n := HVM.out _ (by rw [List.getD_eq_getElem?_getD, List.getElem?_eq_getElem (by rw [HLU.out]; exact hlt)]; exact List.getElem_mem _)
            have HDR := Lib.hid (drop_at vs j (by rw [HLU.out]; exact hlt))
            obtain ⟨X, hX⟩ : ∃ X, X = vs.getD j 0 := ⟨_, rfl⟩
            rw [← hX] at hxu hun HDR
            subst hxu eU
            have hml0 : n0 + 1 ≤ maxLen := by have := HNK.out; unfold maxLen; omega
            have hml1 : n1 + 1 ≤ maxLen := by have := HNK.out; unfold maxLen; omega
            have hby0 : (n0 + 1) * 8 ≤ 140737488355328 := by have := HNK.out; omega
            have hby1 : (n1 + 1) * 8 ≤ 140737488355328 := by have := HNK.out; omega
            have HXP : Hid (∀ x, x ∈ p ++ [X] → x < n) := Lib.hid (fun x hx => by
              rcases List.mem_append.1 hx with h | h
              · exact HPN.out x h
              · simp at h; subst h; exact hun)
            have HXF : Hid (∀ x, x ∈ f ++ [X] → x < n) := Lib.hid (fun x hx => by
              rcases List.mem_append.1 hx with h | h
              · exact HFN.out x h
              · simp at h; subst h; exact hun)
            have HBIT : Hid (∀ ww : World, Calls Tryd.prog 125 #[.int .i64 (k : Int), .int .i64 (X : Int)] ww fun e w' => e = .returned (.bool (k.testBit X)) ∧ ww = w') := Lib.hid fun ww => bit_any k X hk63 (by omega) ww
            have hdw : Below wr.heap.size wr wr.drew := (Below.refl _ _).drew
            have hda : Below wr.heap.size wr ((wr.alloc (.cells #[.int .i64 (X : Int)] 2)).drew) := (below1 wr _).drew
            have q0 := (hxr.next (below1 wr (.cells #[.int .i64 (X : Int)] 2))).c0
            have q1 := (hxr.next (below1 wr (.cells #[.int .i64 (X : Int)] 2))).c1
            have HIN : Hid (Calls Tryd.prog 126 #[.agg #[.int .i64 (n : Int), .slice A n c], .slice (some ⟨wr.heap.size, 0, none⟩) 1 1, .slice A1 n1 c1] ((wr.alloc (.cells #[.int .i64 (X : Int)] 2)).drew) fun e w' => e = .returned (.bool (!depL (RDep rs) f X)) ∧ Below ((wr.alloc (.cells #[.int .i64 (X : Int)] 2)).drew).heap.size ((wr.alloc (.cells #[.int .i64 (X : Int)] 2)).drew) w') := Lib.hid (by
              rw [← ind_one (RDep rs) HSY.out X f]
              exact l05Independent_any A (some ⟨wr.heap.size, 0, none⟩) A1 n c 1 1 n1 c1 rs [X] f ((wr.alloc (.cells #[.int .i64 (X : Int)] 2)).drew) (hR.below hda) h24 HR.out (show Rd ((wr.alloc (.cells #[.int .i64 (X : Int)] 2)).drew) _ _ _ from rd_lit wr (X : Int) 2) (by omega) (ow1.rd.below hda) (by have := HNK.out; omega) (fun x hx => by simp at hx; subst hx; exact hun) HFN.out)
            clear hX hR
            cases hbit : k.testBit X
            · have HVN : Hid (V = (inGo (RDep rs) (fun a => k.testBit a) (vs.drop (j + 1)) p (f ++ [X])).1) := Lib.hid (by rw [HVK.out, HDR.out, inGo_no _ _ _ _ _ _ hbit])
              have HBF : Hid (k.testBit X = false) := Lib.hid hbit
              have hX62 : X ≤ 62 := by omega
              clear hbit
              go_wp2_with fail
              go_quiet ((go_at_call 125; with_reducible exact bitq_is k X false HBF.out hk63 hX62 _ _))
              have hb05 : Below wr.heap.size wr (wr.drewN nq) := below_drewN (Below.refl _ _) _
              generalize wr.drewN nq = w5 at hb05 ⊢
              have o0 := ow0.below hb05
              have o1 := ow1.below hb05
              have HBB := Lib.hid (hb.trans ((hb05).mono hbz))
              have hbz5 : bz ≤ w5.heap.size := Nat.le_trans hbz (hb05).size
              have hbase : bz ≤ (w5.alloc (.cells #[.int .i64 (X : Int)] 2)).heap.size := by simp; omega
              have hUw := hU.below hb05
              have hcx5 : w5.cell? ⟨gu, ou + j, none⟩ = some (.int .i64 (X : Int)) := ((hb05).cell (p := ⟨gu, ou + j, none⟩) hgu).trans hcx
              go_wp2_with (at_builtin; refine wpList_append_lies _ rfl _ _ 22 rfl bz 2 i0 (.int .i64 0) 1 8 Tryd.underlying22 hi hz0 hz1 hz2 rfl (by decide) (.slice A1 n1 c1) n1 ((ints f).map (Value.int .i64)) rfl (World.ownsRow.alloc o1 _) ⟨w5.heap.size, 0, none⟩ 1 1 [.int .i64 (X : Int)] rfl rfl (cell_one_new _ _ _) (by intro v hv; simp at hv; subst hv; rfl) (by decide) hml1 hby1 hbase (w5.heap.size + 1) (by simp) ?_; intro g cap w6 hown hg hat hlt4; have H6 := Lib.hid (two_app o1 o0 s10 hbz5 hown hg hat); clear hown hg hat)
              go_wp2_with fail
              go_roundw
              case rel => exact ⟨j + 1, n0, c0, n1 + 1, cap, A0, some ⟨g, 0, none⟩, p, f ++ [X], hlt, rfl, rfl, by go_num, H6.out.2.1, H6.out.1, (fun k hk e => H6.out.2.2.1 k e hk), by have := HNK.out; omega, HVN.out, HPN.out, HXF.out, HBB.out.trans H6.out.2.2.2⟩
              case measure => simp [intOf]; omega
            · rw [hbit] at HBIT
              cases hdep : depL (RDep rs) f X
              · have HVN : Hid (V = (inGo (RDep rs) (fun a => k.testBit a) (vs.drop (j + 1)) (p ++ [X]) f).1) := Lib.hid (by rw [HVK.out, HDR.out, inGo_in _ _ _ _ _ _ hbit hdep])
                rw [hdep] at HIN
                clear hbit hdep
                go_wp2_with fail
                go_region_law (first
                  | (go_simp; go_at_call 125; refine (HBIT.out _).mono ?_; rintro e w' ⟨rfl, rfl⟩)
                  | (go_simp; go_at_call 126; refine HIN.out.mono ?_; rintro e w5 ⟨rfl, hb5⟩; have hb05 := hda.trans (hb5.mono hda.size)))
                all_goals (
                  have o0 := ow0.below hb05
                  have o1 := ow1.below hb05
                  have HBB := Lib.hid (hb.trans ((hb05).mono hbz))
                  have hbz5 : bz ≤ w5.heap.size := Nat.le_trans hbz (hb05).size
                  have hbase : bz ≤ (w5.alloc (.cells #[.int .i64 (X : Int)] 2)).heap.size := by simp; omega
                  have hUw := hU.below hb05
                  have hcx5 : w5.cell? ⟨gu, ou + j, none⟩ = some (.int .i64 (X : Int)) := ((hb05).cell (p := ⟨gu, ou + j, none⟩) hgu).trans hcx
                  go_wp2_with (at_builtin; refine wpList_append_lies _ rfl _ _ 22 rfl bz 2 i0 (.int .i64 0) 1 8 Tryd.underlying22 hi hz0 hz1 hz2 rfl (by decide) (.slice A0 n0 c0) n0 ((ints p).map (Value.int .i64)) rfl (World.ownsRow.alloc o0 _) ⟨w5.heap.size, 0, none⟩ 1 1 [.int .i64 (X : Int)] rfl rfl (cell_one_new _ _ _) (by intro v hv; simp at hv; subst hv; rfl) (by decide) hml0 hby0 hbase (w5.heap.size + 1) (by simp) ?_; intro g cap w6 hown hg hat hlt4; have H6 := Lib.hid (two_app o0 o1 s01 hbz5 hown hg hat); clear hown hg hat)
                  go_wp2_with fail
                  go_roundw
                  case rel => exact ⟨j + 1, n0 + 1, cap, n1, c1, some ⟨g, 0, none⟩, A1, p ++ [X], f, hlt, rfl, rfl, by go_num, H6.out.1, H6.out.2.1, H6.out.2.2.1, by have := HNK.out; omega, HVN.out, HXP.out, HFN.out, HBB.out.trans H6.out.2.2.2⟩
                  case measure => simp [intOf]; omega)
              · have HVN : Hid (V = (inGo (RDep rs) (fun a => k.testBit a) (vs.drop (j + 1)) p (f ++ [X])).1) := Lib.hid (by rw [HVK.out, HDR.out, inGo_dep _ _ _ _ _ _ hdep])
                rw [hdep] at HIN
                clear hbit hdep
                go_wp2_with fail
                go_region_law (first
                  | (go_simp; go_at_call 125; refine (HBIT.out _).mono ?_; rintro e w' ⟨rfl, rfl⟩)
                  | (go_simp; go_at_call 126; refine HIN.out.mono ?_; rintro e w5 ⟨rfl, hb5⟩; have hb05 := hda.trans (hb5.mono hda.size)))
                all_goals (
                  have o0 := ow0.below hb05
                  have o1 := ow1.below hb05
                  have HBB := Lib.hid (hb.trans ((hb05).mono hbz))
                  have hbz5 : bz ≤ w5.heap.size := Nat.le_trans hbz (hb05).size
                  have hbase : bz ≤ (w5.alloc (.cells #[.int .i64 (X : Int)] 2)).heap.size := by simp; omega
                  have hUw := hU.below hb05
                  have hcx5 : w5.cell? ⟨gu, ou + j, none⟩ = some (.int .i64 (X : Int)) := ((hb05).cell (p := ⟨gu, ou + j, none⟩) hgu).trans hcx
                  go_wp2_with (at_builtin; refine wpList_append_lies _ rfl _ _ 22 rfl bz 2 i0 (.int .i64 0) 1 8 Tryd.underlying22 hi hz0 hz1 hz2 rfl (by decide) (.slice A1 n1 c1) n1 ((ints f).map (Value.int .i64)) rfl (World.ownsRow.alloc o1 _) ⟨w5.heap.size, 0, none⟩ 1 1 [.int .i64 (X : Int)] rfl rfl (cell_one_new _ _ _) (by intro v hv; simp at hv; subst hv; rfl) (by decide) hml1 hby1 hbase (w5.heap.size + 1) (by simp) ?_; intro g cap w6 hown hg hat hlt4; have H6 := Lib.hid (two_app o1 o0 s10 hbz5 hown hg hat); clear hown hg hat)
                  go_wp2_with fail
                  go_roundw
                  case rel => exact ⟨j + 1, n0, c0, n1 + 1, cap, A0, some ⟨g, 0, none⟩, p, f ++ [X], hlt, rfl, rfl, by go_num, H6.out.2.1, H6.out.1, (fun k hk e => H6.out.2.2.1 k e hk), by have := HNK.out; omega, HVN.out, HPN.out, HXF.out, HBB.out.trans H6.out.2.2.2⟩
                  case measure => simp [intOf]; omega)
          · have hjm : j = m := by omega
            subst hjm
            have HE : Hid (V = p) := Lib.hid (by rw [HVK.out, List.drop_of_length_le (by rw [HLU.out]; exact Nat.le_refl _)]; rfl)
            have HLP : Hid (p.length = n0) := Lib.hid (by have := ow0.len; rw [ints_len] at this; exact this)
            have HNO := Lib.hid (l03Normal_any A A0 n c n0 c0 rs p wr hR h24 HR.out ow0.rd (by have := HNK.out; omega) (fun x hx => in_getD HPN.out x (by rw [HLP.out]; exact hx)))
            rw [HNR.out] at HNO
            have HBF := Lib.hid (HB1.out.trans (hbw.mono HB1.out.size))
            go_wp2_with fail
            refine HNO.out.mono ?_
            rintro e w6 ⟨A6, c6, rfl, o6, hb6⟩
            go_wp2_with fail
            go_ret2
            rw [HA.out, HE.out]
            exact LsPost.of_ans (ans_yes o6.len (o6.mono HBF.out.size) (HBF.out.trans (hb6.mono HBF.out.size)))
end Go.Proofs.YtcojodkcpemfdaaDoor
namespace Go.Proofs.YtcojodkcpemfdaaDoor
open Go Go.RowKit
set_option linter.unusedVariables false
set_option maxRecDepth 100000

def lqF (rs us ts : List Nat) : List Nat × Int := match cutM (RDep rs) us ts with | none => ([], 4) | some r => (nfR rs r, 0)
theorem lqF_no (rs us ts : List Nat) (h : cutM (RDep rs) us ts = none) : lqF rs us ts = ([], 4) := by unfold lqF; rw [h]
theorem lqF_yes (rs us ts r : List Nat) (h : cutM (RDep rs) us ts = some r) : lqF rs us ts = (nfR rs r, 0) := by unfold lqF; rw [h]
theorem lqF_small (L : Int) (xs us ts : List Int) : (dL lqF L xs us ts).1.length ≤ 24 := dL_small lqF 24 (fun rs us ts _ h => by
  cases hc : cutM (RDep rs) us ts with
  | none => rw [lqF_no _ _ _ hc]; exact Nat.zero_le _
  | some r => rw [lqF_yes _ _ _ _ hc]; exact Nat.le_trans (nfR_len rs r) (Nat.le_trans (cut_len _ _ _ _ hc).1 h)) L xs us ts
theorem cmp_left (D : Nat → Nat → Bool) (us vs r : List Nat) (h : cutM D us vs = some r) : (cmpM D us vs).2.2 = r := by unfold cmpM; rw [cmp_cut D us [] vs r h]
set_option maxHeartbeats 3200000 in
theorem implLeftQuotient (L : Int) (A : Option Addr) (n c : Nat) (xs : List Int) (A1 : Option Addr) (m d : Nat) (us : List Int) (B1 : Option Addr) (q f : Nat) (ts : List Int) (w : World) (h : Rd w A n xs) (hwf : Wf xs) (hL1 : -9223372036854775808 ≤ L) (hL2 : L ≤ 9223372036854775807) (hn : n ≤ maxLen) (h2 : Rd w A1 m us) (hwf2 : Wf us) (hm : m ≤ maxLen) (h3 : Rd w B1 q ts) (hwf3 : Wf ts) (hq : q ≤ maxLen) (hcm : m ≤ d) (hcq : q ≤ f) (hT : Tab w) :
    Calls Tryd.prog 61 #[.agg #[.int .i64 L, .slice A n c], .slice A1 m d, .slice B1 q f] w (LsPost w (dL lqF L xs us ts).1.length (dL lqF L xs us ts).1 (dL lqF L xs us ts).2) := by
  have hn2 : n ≤ 9223372036854775807 := by unfold maxLen at hn; omega
  have hn1 := h.1
  have hm1 := h2.1
  have hq1 := h3.1
  have HB := Lib.hid (below2 w (.cells #[.int .i64 L, .slice A n c] 29) (.cells #[.slice A1 m d, .slice B1 q f] 22))
  have hh := h.below HB.out
  have ht := rdT_box2 w (.cells #[.int .i64 L, .slice A n c] 29) A1 B1 m d q f us ts 22 h2 hm h3 hq
  have hh2 := h2.below HB.out
  have hh3 := h3.below HB.out
  have hT1 := hT.below HB.out
  cases ha : alphB L xs
  · rw [show dL lqF L xs us ts = _ from dL_no lqF L xs us ts ha]
    have HA := Lib.hid ha
    clear ha ht hn1
    go_enter Tryd.func61, Tryd.ntmps61
    go_wp2_with fail
    refine (dependenceWith_no L _ _ _ _ _ _ xs [] _ hh hwf hL1 hL2 hn2 HA.out hT1).mono ?_
    rintro e w1 ⟨rfl, hb⟩
    go_wp2_with fail
    go_ret2
    exact LsPost.of_ans (ans_no 1 (HB.out.trans (hb.mono HB.out.size)))
  · cases hu : (wordB L us && wordB L ts)
    · rw [show dL lqF L xs us ts = _ from dL_bad lqF L xs us ts ha hu]
      obtain ⟨rs, rfl, rfl, h8, hr, hrel, hl, hd, _⟩ := alphB_nats L xs n hn1 ha
      have HU := Lib.hid hu
      clear ha hu
      go_enter Tryd.func61, Tryd.ntmps61
      go_wp2_with fail
      refine (dependenceWith_any _ _ _ _ _ _ rs _ _ hh hwf h8 hr hrel hd ht (by omega) hT1).mono ?_
      rw [okT_pair, HU.out]
      rintro e w1 (⟨hok, _⟩ | ⟨hok, rfl, hb⟩)
      · cases hok
      go_wp2_with fail
      go_ret2
      exact LsPost.of_ans (ans_no 2 (HB.out.trans (hb.mono HB.out.size)))
    · obtain ⟨rs, rfl, rfl, h8, hr, hrel, hl, hd, _⟩ := alphB_nats L xs n hn1 ha
      have hu' := hu
      rw [Bool.and_eq_true] at hu'
      obtain ⟨vs, rfl, hv24, hvn⟩ := wordB_nats n us hu'.1
      obtain ⟨ys, rfl, hy24, hyn⟩ := wordB_nats n ts hu'.2
      rw [show dL lqF (n : Int) (ints rs) (ints vs) (ints ys) = _ from dL_yes lqF (n : Int) rs vs ys ha hu]
      have HU := Lib.hid hu
      have HDEP := Lib.hid ((depB_iff rs n hl hr).1 hd)
      rw [ints_len] at hm1 hq1
      have hm24 : m ≤ 24 := by omega
      have hq24 : q ≤ 24 := by omega
      have HLU := Lib.hid hm1
      have HLQ := Lib.hid hq1
      have HLR := Lib.hid hl
      have HR := Lib.hid hr
      have HVM := Lib.hid hvn
      have HYM := Lib.hid hyn
      have HSY : Hid (∀ a b, RDep rs a b = RDep rs b a) := Lib.hid (rdep_sym rs n hl hr HDEP.out)
      have HRE : Hid (∀ a, a < n → RDep rs a a = true) := Lib.hid fun a ha9 => HDEP.out.1 a (by rw [HLR.out]; exact ha9)
      have HR63 : Hid (∀ i, rs.getD i 0 < 9223372036854775808) := Lib.hid fun i => lt63 (by omega) (hr i)
      clear ha hu hu' hl hm1 hq1
      go_enter Tryd.func61, Tryd.ntmps61
      go_wp2_with fail
      refine (dependenceWith_any _ _ _ _ _ _ rs _ _ hh hwf h8 hr hrel hd ht (by omega) hT1).mono ?_
      rw [okT_pair, HU.out]
      rintro e w1 (⟨hok, A2, c2, rfl, ho, hb⟩ | ⟨hok, _⟩)
      rotate_left
      · cases hok
      have HB1 := Lib.hid (HB.out.trans (hb.mono HB.out.size))
      have hr2 := hh2.below hb
      have hr3 := hh3.below hb
      have hrd := ho.rd
      have hT2 := hT1.below hb
      have h24 : n ≤ 24 := by omega
      clear ho hb hok ht hh hh2 hh3 hT1 hT h h2 h3 hr hvn hyn hd hrel
      have HQU := Lib.hid (quotient_any A2 A1 B1 n c2 m d q f rs vs ys w1 hrd h24 HR.out HSY.out HRE.out hr2 (by omega) HVM.out hr3 (by omega) hcq HYM.out)
      cases hcut : cutM (RDep rs) vs ys
      · have HA := Lib.hid (lqF_no rs vs ys hcut)
        have HI : Hid ((cutM (RDep rs) vs ys).isSome = false) := Lib.hid (by rw [hcut]; rfl)
        clear hcut
        go_wp2_with fail
        refine HQU.out.mono ?_
        rintro e w2 ⟨A3, c3, rfl, hr4, hle4, hb2⟩
        rw [HI.out]
        go_wp2_with fail
        go_ret2
        rw [HA.out]
        exact LsPost.of_ans (ans_no 4 (HB1.out.trans (hb2.mono HB1.out.size)))
      · rename_i r
        have HA := Lib.hid (lqF_yes rs vs ys r hcut)
        have HI : Hid ((cutM (RDep rs) vs ys).isSome = true) := Lib.hid (by rw [hcut]; rfl)
        have HC := Lib.hid (cmp_left (RDep rs) vs ys r hcut)
        have hcl := cut_len _ _ _ _ hcut
        obtain ⟨k, hk⟩ : ∃ k, k = r.length := ⟨_, rfl⟩
        have HLK : Hid (r.length = k) := Lib.hid hk.symm
        have hk24 : k ≤ 24 := by have := HLQ.out; omega
        have HRK : Hid (∀ p, p < k → r.getD p 0 < n) := Lib.hid fun p hp => in_getD (fun x hx => HYM.out x (hcl.2 x hx)) p (by rw [HLK.out]; exact hp)
        clear hcut hcl
        go_wp2_with fail
        refine HQU.out.mono ?_
        rintro e w2 ⟨A3, c3, rfl, hr4, hle4, hb2⟩
        rw [HC.out] at hr4
        rw [HI.out, HC.out, HLK.out]
        rw [HLK.out] at hr4
        have HB2 := Lib.hid (HB1.out.trans (hb2.mono HB1.out.size))
        have hrd3 := hrd.below hb2
        have hT3 := hT2.below hb2
        clear hk
        have HT1 := Lib.hid (traceOf_any A2 A3 n k c2 c3 rs r _ hrd3 hr4 hk24 h24 HRK.out HR63.out hT3)
        go_wp2_with fail
        refine HT1.out.mono ?_
        rintro e v1 ⟨E1, g1, F1, k1, es1, rfl, hp, hs, h1, h2, -, -, ha1⟩
        have HN1 := Lib.hid (nf_from E1 F1 g1 k1 k n rs r es1 v1 HLR.out HR.out HDEP.out HLK.out HRK.out hk24 hp hs h1 h2 ((hT3).below ha1))
        clear hp hs h1 h2
        go_wp2_with fail
        refine HN1.out.mono ?_
        rintro e u1 ⟨G1, l1, rfl, ho1, hb1⟩
        go_wp2_with fail
        go_ret2
        rw [HA.out]
        have HZ := HB2.out.trans (ha1.mono HB2.out.size)
        exact LsPost.of_ans (ans_yes ho1.len (ho1.mono HZ.size) (HZ.trans (hb1.mono HZ.size)))
end Go.Proofs.YtcojodkcpemfdaaDoor
