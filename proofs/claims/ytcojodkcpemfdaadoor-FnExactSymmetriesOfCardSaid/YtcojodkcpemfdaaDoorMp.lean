/-
  AreIndependent, IsPrefix: both sides. Division: mathematics of meets. Division: the program's least common continuation, by a contract. Division: the program's continuation of two words, with its codes. JoinOf, ResidualAfter: the program's side. Division: the model's join, by a contract. Concatenate: helpers. Concatenate: both sides. The pairs of letters that depend on each other: both sides. The letters of a word that are in a set: the program's way and the model's. Slices of slices of numbers: what is owned, and the laws' helpers by contracts. A list of lists as an answer: what a call leaves, what stays when its marks are set. The pair projections of a trace: both sides' lists of lists. Bytes that are read, and the arithmetic of dice.
-/
import Derived.Test.YtcojodkcpemfdaaDoorMd
import Derived.Deep.Upon
import Derived.Lib.AppendZeros
import Derived.Test.YtcojodkcpemfdaaDoorM2
import Derived.Maps.AppendAt
import Derived.Test.YtcojodkcpemfdaaDoorM3
import Derived.StillTailTactics
import Derived.Test.YtcojodkcpemfdaaDoorM1
import Derived.Test.YtcojodkcpemfdaaDoorB2
import Derived.Deep.QuietTactic
import Derived.BigQuiet
namespace Go.Proofs.YtcojodkcpemfdaaDoor
open Go Go.RowKit
set_option linter.unusedVariables false
set_option maxRecDepth 100000

/-- Answers of an alphabet and two words. -/
def dB (f : List Nat → List Nat → List Nat → Bool) (L : Int) (xs us ts : List Int) : Bool × Int := if wCode2 L xs us ts = 0 then (f (xs.map Int.toNat) (us.map Int.toNat) (ts.map Int.toNat), 0) else (false, wCode2 L xs us ts)
theorem dB_no (f : List Nat → List Nat → List Nat → Bool) (L : Int) (xs us ts : List Int) (h : alphB L xs = false) : dB f L xs us ts = (false, 1) := by
  have e := wCode2_no L xs us ts h
  unfold dB; rw [e]; rfl
theorem dB_bad (f : List Nat → List Nat → List Nat → Bool) (L : Int) (xs us ts : List Int) (h : alphB L xs = true) (h2 : (wordB L us && wordB L ts) = false) : dB f L xs us ts = (false, 2) := by
  have e := wCode2_bad L xs us ts h h2
  unfold dB; rw [e]; rfl
theorem dB_yes (f : List Nat → List Nat → List Nat → Bool) (L : Int) (rs us ts : List Nat) (h : alphB L (ints rs) = true) (h2 : (wordB L (ints us) && wordB L (ints ts)) = true) : dB f L (ints rs) (ints us) (ints ts) = (f rs us ts, 0) := by
  have e := wCode2_yes L (ints rs) (ints us) (ints ts) h h2
  unfold dB; rw [if_pos e, ints_toNat, ints_toNat, ints_toNat]
def dL (f : List Nat → List Nat → List Nat → List Nat × Int) (L : Int) (xs us ts : List Int) : List Int × Int := if wCode2 L xs us ts = 0 then (ints (f (xs.map Int.toNat) (us.map Int.toNat) (ts.map Int.toNat)).1, (f (xs.map Int.toNat) (us.map Int.toNat) (ts.map Int.toNat)).2) else ([], wCode2 L xs us ts)
theorem dL_no (f : List Nat → List Nat → List Nat → List Nat × Int) (L : Int) (xs us ts : List Int) (h : alphB L xs = false) : dL f L xs us ts = ([], 1) := by
  have e := wCode2_no L xs us ts h
  unfold dL; rw [e]; rfl
theorem dL_bad (f : List Nat → List Nat → List Nat → List Nat × Int) (L : Int) (xs us ts : List Int) (h : alphB L xs = true) (h2 : (wordB L us && wordB L ts) = false) : dL f L xs us ts = ([], 2) := by
  have e := wCode2_bad L xs us ts h h2
  unfold dL; rw [e]; rfl
theorem dL_yes (f : List Nat → List Nat → List Nat → List Nat × Int) (L : Int) (rs us ts : List Nat) (h : alphB L (ints rs) = true) (h2 : (wordB L (ints us) && wordB L (ints ts)) = true) : dL f L (ints rs) (ints us) (ints ts) = (ints (f rs us ts).1, (f rs us ts).2) := by
  have e := wCode2_yes L (ints rs) (ints us) (ints ts) h h2
  unfold dL; rw [if_pos e, ints_toNat, ints_toNat, ints_toNat]
theorem dL_small (f : List Nat → List Nat → List Nat → List Nat × Int) (b : Nat) (hf : ∀ rs us ts, us.length ≤ 24 → ts.length ≤ 24 → (f rs us ts).1.length ≤ b) (L : Int) (xs us ts : List Int) : (dL f L xs us ts).1.length ≤ b := by
  unfold dL
  by_cases h : wCode2 L xs us ts = 0
  · rw [if_pos h, ints_len]
    have h2 : (wordB L us && wordB L ts) = true := by
      unfold wCode2 at h
      split at h
      · split at h
        · assumption
        · cases h
      · cases h
    rw [Bool.and_eq_true] at h2
    unfold wordB at h2
    rw [Bool.and_eq_true, decide_eq_true_eq, Bool.and_eq_true, decide_eq_true_eq] at h2
    exact hf _ _ _ (by rw [List.length_map]; exact h2.1.1) (by rw [List.length_map]; exact h2.2.1)
  · rw [if_neg h]; exact Nat.zero_le _
def aiF (rs us ts : List Nat) : Bool := indM (RDep rs) us ts
def ipF (rs us ts : List Nat) : Bool := (cutM (RDep rs) us ts).isSome
set_option maxHeartbeats 3200000 in
theorem implAreIndependent (L : Int) (A : Option Addr) (n c : Nat) (xs : List Int) (A1 : Option Addr) (m d : Nat) (us : List Int) (B1 : Option Addr) (q f : Nat) (ts : List Int) (w : World) (h : Rd w A n xs) (hwf : Wf xs) (hL1 : -9223372036854775808 ≤ L) (hL2 : L ≤ 9223372036854775807) (hn : n ≤ maxLen) (h2 : Rd w A1 m us) (hwf2 : Wf us) (hm : m ≤ maxLen) (h3 : Rd w B1 q ts) (hwf3 : Wf ts) (hq : q ≤ maxLen) (hcm : m ≤ d) (hcq : q ≤ f) (hT : Tab w) :
    Calls Tryd.prog 57 #[.agg #[.int .i64 L, .slice A n c], .slice A1 m d, .slice B1 q f] w (fun e w' => e = .returned (.tuple #[.bool (dB aiF L xs us ts).1, .int .i64 (dB aiF L xs us ts).2]) ∧ Below w.heap.size w w') := by
  have hn2 : n ≤ 9223372036854775807 := by unfold maxLen at hn; omega
  have hn1 := h.1
  have hm1 := h2.1
  have hq1 := h3.1
  have HB := Lib.hid (below2 w (.cells #[.int .i64 L, .slice A n c] 29) (.cells #[.slice A1 m d, .slice B1 q f] 22))
  have hh := h.below HB.out
  have ht := rdT_box2 w (.cells #[.int .i64 L, .slice A n c] 29) A1 B1 m d q f us ts 22 h2 hm h3 hq
  have hh2 := h2.below HB.out
  have hh3 := h3.below HB.out
  have hT1 := hT.below HB.out
  cases ha : alphB L xs
  · rw [show dB aiF L xs us ts = _ from dB_no aiF L xs us ts ha]
    have HA := Lib.hid ha
    clear ha ht hn1
    go_enter Tryd.func57, Tryd.ntmps57
    go_wp2_with fail
    refine (dependenceWith_no L _ _ _ _ _ _ xs [] _ hh hwf hL1 hL2 hn2 HA.out hT1).mono ?_
    rintro e w1 ⟨rfl, hb⟩
    go_wp2_with fail
    go_ret2
    exact ⟨rfl, HB.out.trans (hb.mono HB.out.size)⟩
  · cases hu : (wordB L us && wordB L ts)
    · rw [show dB aiF L xs us ts = _ from dB_bad aiF L xs us ts ha hu]
      obtain ⟨rs, rfl, rfl, h8, hr, hrel, hl, hd, _⟩ := alphB_nats L xs n hn1 ha
      have HU := Lib.hid hu
      clear ha hu
      go_enter Tryd.func57, Tryd.ntmps57
      go_wp2_with fail
      refine (dependenceWith_any _ _ _ _ _ _ rs _ _ hh hwf h8 hr hrel hd ht (by omega) hT1).mono ?_
      rw [okT_pair, HU.out]
      rintro e w1 (⟨hok, _⟩ | ⟨hok, rfl, hb⟩)
      · cases hok
      go_wp2_with fail
      go_ret2
      exact ⟨rfl, HB.out.trans (hb.mono HB.out.size)⟩
    · obtain ⟨rs, rfl, rfl, h8, hr, hrel, hl, hd, _⟩ := alphB_nats L xs n hn1 ha
      have hu' := hu
      rw [Bool.and_eq_true] at hu'
      obtain ⟨vs, rfl, hv24, hvn⟩ := wordB_nats n us hu'.1
      obtain ⟨ys, rfl, hy24, hyn⟩ := wordB_nats n ts hu'.2
      rw [show dB aiF (n : Int) (ints rs) (ints vs) (ints ys) = _ from dB_yes aiF (n : Int) rs vs ys ha hu]
      have HU := Lib.hid hu
      have HDEP := Lib.hid ((depB_iff rs n hl hr).1 hd)
      rw [ints_len] at hm1 hq1
      have hm24 : m ≤ 24 := by omega
      have hq24 : q ≤ 24 := by omega
      have HLU := Lib.hid hm1
      have HLQ := Lib.hid hq1
      have HLR := Lib.hid hl
      have HR := Lib.hid hr
      have HVM := Lib.hid hvn
      have HYM := Lib.hid hyn
      have HSY : Hid (∀ a b, RDep rs a b = RDep rs b a) := Lib.hid (rdep_sym rs n hl hr HDEP.out)
      have HRE : Hid (∀ a, a < n → RDep rs a a = true) := Lib.hid fun a ha9 => HDEP.out.1 a (by rw [HLR.out]; exact ha9)
      have HR63 : Hid (∀ i, rs.getD i 0 < 9223372036854775808) := Lib.hid fun i => lt63 (by omega) (hr i)
      clear ha hu hu' hl hm1 hq1
      go_enter Tryd.func57, Tryd.ntmps57
      go_wp2_with fail
      refine (dependenceWith_any _ _ _ _ _ _ rs _ _ hh hwf h8 hr hrel hd ht (by omega) hT1).mono ?_
      rw [okT_pair, HU.out]
      rintro e w1 (⟨hok, A2, c2, rfl, ho, hb⟩ | ⟨hok, _⟩)
      rotate_left
      · cases hok
      have HB1 := Lib.hid (HB.out.trans (hb.mono HB.out.size))
      have hr2 := hh2.below hb
      have hr3 := hh3.below hb
      have hrd := ho.rd
      have hT2 := hT1.below hb
      have h24 : n ≤ 24 := by omega
      clear ho hb hok ht hh hh2 hh3 hT1 hT h h2 h3 hr hvn hyn hd hrel
      have HAI := Lib.hid (areIndependent_any A2 A1 B1 n c2 m d q f rs vs ys w1 hrd h24 HR.out hr2 (by omega) HVM.out hr3 (by omega) HYM.out)
      go_wp2_with fail
      refine HAI.out.mono ?_
      rintro e w2 ⟨rfl, rfl⟩
      go_wp2_with fail
      go_ret2
      exact ⟨rfl, HB1.out⟩
set_option maxHeartbeats 3200000 in
theorem implIsPrefix (L : Int) (A : Option Addr) (n c : Nat) (xs : List Int) (A1 : Option Addr) (m d : Nat) (us : List Int) (B1 : Option Addr) (q f : Nat) (ts : List Int) (w : World) (h : Rd w A n xs) (hwf : Wf xs) (hL1 : -9223372036854775808 ≤ L) (hL2 : L ≤ 9223372036854775807) (hn : n ≤ maxLen) (h2 : Rd w A1 m us) (hwf2 : Wf us) (hm : m ≤ maxLen) (h3 : Rd w B1 q ts) (hwf3 : Wf ts) (hq : q ≤ maxLen) (hcm : m ≤ d) (hcq : q ≤ f) (hT : Tab w) :
    Calls Tryd.prog 68 #[.agg #[.int .i64 L, .slice A n c], .slice A1 m d, .slice B1 q f] w (fun e w' => e = .returned (.tuple #[.bool (dB ipF L xs us ts).1, .int .i64 (dB ipF L xs us ts).2]) ∧ Below w.heap.size w w') := by
  have hn2 : n ≤ 9223372036854775807 := by unfold maxLen at hn; omega
  have hn1 := h.1
  have hm1 := h2.1
  have hq1 := h3.1
  have HB := Lib.hid (below2 w (.cells #[.int .i64 L, .slice A n c] 29) (.cells #[.slice A1 m d, .slice B1 q f] 22))
  have hh := h.below HB.out
  have ht := rdT_box2 w (.cells #[.int .i64 L, .slice A n c] 29) A1 B1 m d q f us ts 22 h2 hm h3 hq
  have hh2 := h2.below HB.out
  have hh3 := h3.below HB.out
  have hT1 := hT.below HB.out
  cases ha : alphB L xs
  · rw [show dB ipF L xs us ts = _ from dB_no ipF L xs us ts ha]
    have HA := Lib.hid ha
    clear ha ht hn1
    go_enter Tryd.func68, Tryd.ntmps68
    go_wp2_with fail
    refine (dependenceWith_no L _ _ _ _ _ _ xs [] _ hh hwf hL1 hL2 hn2 HA.out hT1).mono ?_
    rintro e w1 ⟨rfl, hb⟩
    go_wp2_with fail
    go_ret2
    exact ⟨rfl, HB.out.trans (hb.mono HB.out.size)⟩
  · cases hu : (wordB L us && wordB L ts)
    · rw [show dB ipF L xs us ts = _ from dB_bad ipF L xs us ts ha hu]
      obtain ⟨rs, rfl, rfl, h8, hr, hrel, hl, hd, _⟩ := alphB_nats L xs n hn1 ha
      have HU := Lib.hid hu
      clear ha hu
      go_enter Tryd.func68, Tryd.ntmps68
      go_wp2_with fail
      refine (dependenceWith_any _ _ _ _ _ _ rs _ _ hh hwf h8 hr hrel hd ht (by omega) hT1).mono ?_
      rw [okT_pair, HU.out]
      rintro e w1 (⟨hok, _⟩ | ⟨hok, rfl, hb⟩)
      · cases hok
      go_wp2_with fail
      go_ret2
      exact ⟨rfl, HB.out.trans (hb.mono HB.out.size)⟩
    · obtain ⟨rs, rfl, rfl, h8, hr, hrel, hl, hd, _⟩ := alphB_nats L xs n hn1 ha
      have hu' := hu
      rw [Bool.and_eq_true] at hu'
      obtain ⟨vs, rfl, hv24, hvn⟩ := wordB_nats n us hu'.1
      obtain ⟨ys, rfl, hy24, hyn⟩ := wordB_nats n ts hu'.2
      rw [show dB ipF (n : Int) (ints rs) (ints vs) (ints ys) = _ from dB_yes ipF (n : Int) rs vs ys ha hu]
      have HU := Lib.hid hu
      have HDEP := Lib.hid ((depB_iff rs n hl hr).1 hd)
      rw [ints_len] at hm1 hq1
      have hm24 : m ≤ 24 := by omega
      have hq24 : q ≤ 24 := by omega
      have HLU := Lib.hid hm1
      have HLQ := Lib.hid hq1
      have HLR := Lib.hid hl
      have HR := Lib.hid hr
      have HVM := Lib.hid hvn
      have HYM := Lib.hid hyn
      have HSY : Hid (∀ a b, RDep rs a b = RDep rs b a) := Lib.hid (rdep_sym rs n hl hr HDEP.out)
      have HRE : Hid (∀ a, a < n → RDep rs a a = true) := Lib.hid fun a ha9 => HDEP.out.1 a (by rw [HLR.out]; exact ha9)
      have HR63 : Hid (∀ i, rs.getD i 0 < 9223372036854775808) := Lib.hid fun i => lt63 (by omega) (hr i)
      clear ha hu hu' hl hm1 hq1
      go_enter Tryd.func68, Tryd.ntmps68
      go_wp2_with fail
      refine (dependenceWith_any _ _ _ _ _ _ rs _ _ hh hwf h8 hr hrel hd ht (by omega) hT1).mono ?_
      rw [okT_pair, HU.out]
      rintro e w1 (⟨hok, A2, c2, rfl, ho, hb⟩ | ⟨hok, _⟩)
      rotate_left
      · cases hok
      have HB1 := Lib.hid (HB.out.trans (hb.mono HB.out.size))
      have hr2 := hh2.below hb
      have hr3 := hh3.below hb
      have hrd := ho.rd
      have hT2 := hT1.below hb
      have h24 : n ≤ 24 := by omega
      clear ho hb hok ht hh hh2 hh3 hT1 hT h h2 h3 hr hvn hyn hd hrel
      have HQU := Lib.hid (quotient_any A2 A1 B1 n c2 m d q f rs vs ys w1 hrd h24 HR.out HSY.out HRE.out hr2 (by omega) HVM.out hr3 (by omega) hcq HYM.out)
      go_wp2_with fail
      refine HQU.out.mono ?_
      rintro e w2 ⟨A3, c3, rfl, hr4, hle4, hb2⟩
      go_wp2_with fail
      go_ret2
      exact ⟨rfl, HB1.out.trans (hb2.mono HB1.out.size)⟩
end Go.Proofs.YtcojodkcpemfdaaDoor
namespace Go.Proofs.YtcojodkcpemfdaaDoor
open Go Go.RowKit
set_option linter.unusedVariables false
set_option maxRecDepth 100000

theorem cmp_len (D : Nat → Nat → Bool) (us vs : List Nat) : (cmpM D us vs).1.length ≤ us.length ∧ (cmpM D us vs).2.2.length ≤ vs.length ∧ (∀ x, x ∈ (cmpM D us vs).1 → x ∈ us) ∧ (∀ x, x ∈ (cmpM D us vs).2.1 → x ∈ us) ∧ (∀ x, x ∈ (cmpM D us vs).2.2 → x ∈ vs) := by
  obtain ⟨h1, h2, h3, h4, h5⟩ := cmp_parts D us [] [] vs
  unfold cmpM
  refine ⟨by simp at h1; omega, h2, fun x hx => ?_, fun x hx => ?_, h5⟩
  · rcases h3 x hx with h | h
    · cases h
    · exact h
  · rcases h4 x hx with h | h
    · cases h
    · exact h
theorem cmpM_meets (D : Nat → Nat → Bool) (n : Nat) (hsym : ∀ a b, D a b = D b a) (href : ∀ a, a < n → D a a = true) (us vs : List Nat) (hu : ∀ x, x ∈ us → x < n) (hv : ∀ x, x ∈ vs → x < n) : Meets D us vs (cmpM D us vs).1 (cmpM D us vs).2.1 (cmpM D us vs).2.2 :=
  cmp_meets D n hsym href us [] [] vs us vs hu hv (Eqv.refl _ _) (Eqv.refl _ _) (fun c hc => by simp [freeB] at hc)
/-- The model's meet has the normal form of the program's. -/
theorem meet_nf (rs : List Nat) (n : Nat) (hl : rs.length = n) (hsym : ∀ a b, RDep rs a b = RDep rs b a) (href : ∀ a, a < n → RDep rs a a = true) (us vs p a b : List Nat) (hu : ∀ x, x ∈ us → x < n) (hv : ∀ x, x ∈ vs → x < n) (hm : Meets (RDep rs) us vs p a b) (hp : ∀ x, x ∈ p → x < n) :
    nfR rs p = nfR rs (cmpM (RDep rs) us vs).1 ∧ Eqv (RDep rs) a (cmpM (RDep rs) us vs).2.1 ∧ Eqv (RDep rs) b (cmpM (RDep rs) us vs).2.2 := by
  have hc := cmpM_meets (RDep rs) n hsym href us vs hu hv
  have hp' : ∀ x, x ∈ (cmpM (RDep rs) us vs).1 → x < n := fun x hx => hu x ((cmp_len _ _ _).2.2.1 x hx)
  obtain ⟨h1, h2, h3⟩ := hm.unique hsym href hc hp hp'
  refine ⟨?_, h2, h3⟩
  unfold nfR
  rw [hl]
  exact (eqv_iff_nf hsym href p _ hp hp').1 h1
end Go.Proofs.YtcojodkcpemfdaaDoor
namespace Go.Proofs.YtcojodkcpemfdaaDoor
open Go Go.RowKit
set_option linter.unusedVariables false
set_option maxRecDepth 100000

theorem wpList_append_zero {P : Program} {w : World} {ops : Array Oper} {rest : List Oper} {o : Oper} {a : Act} {Q : Exit → Act → World → Prop} (hgd : o.guard = none) (s x : Operand) (t : TypeId)
    (ho : o.op = .call { callee := .builtin .append, args := #[s, x], argTypes := #[t, t] }) (e : TypeId) (i : TypeInfo) (ht : P.underlying t = some (.slice e)) (hi : P.info? e = some i) (base : Option Addr) (sLen sCap c : Nat) (hle : sLen ≤ sCap)
    (hs : a.eval s = .slice base sLen sCap) (hx : a.eval x = .slice none 0 c) (h : wpList P ops Q rest (a.put o.dst (.slice base sLen sCap)) w) : wpList P ops Q (o :: rest) a w := by
  refine wpList_plain hgd fun K hK => ?_
  have hrun := run_append_nothing (P := P) w t t o.type e i ht hi base sLen sCap hle (.slice none 0 c) (Src.ofNil w ht c)
  unfold Oper.wp
  simp [execOp, ho, resolve, invoke, builtin, hs, hx, hrun, Result.andThen]
  exact hK _ _ h
theorem ints_app (u v : List Nat) : ints (u ++ v) = ints u ++ ints v := by unfold ints; rw [List.map_append]
/-- A slice that reads as numbers, wherever it lies, behind an own one. -/
theorem wpList_append_rd {w : World} {ops : Array Oper} {rest : List Oper} {o : Oper} {a : Act} {Q : Exit → Act → World → Prop} (hgd : o.guard = none) (s x : Operand)
    (ho : o.op = .call { callee := .builtin .append, args := #[s, x], argTypes := #[22, 22] }) (base : Nat) (A : Option Addr) (N cA : Nat) (all : List Nat) (hs : a.eval s = .slice A N cA) (hown : Own 2 w base A N cA (ints all))
    (A2 : Option Addr) (m c2 : Nat) (ss : List Nat) (hx : a.eval x = .slice A2 m c2) (h2 : Rd w A2 m (ints ss)) (h63 : N + m ≤ maxLen) (hby : (N + m) * 8 ≤ 140737488355328) (hbase : base ≤ w.heap.size)
    (h : ∀ A' c' w', Own 2 w' base A' (N + m) c' (ints (all ++ ss)) → w.grownBy w' (Value.slice A N cA).ownBlock → wpList Tryd.prog ops Q rest (a.put o.dst (.slice A' (N + m) c')) w') : wpList Tryd.prog ops Q (o :: rest) a w := by
  obtain ⟨i0, hi, hz0, hz1, hz2⟩ := info_parts info_int
  cases A2 with
  | none =>
    have hm0 : m = 0 := by
      rcases Nat.eq_zero_or_pos m with h0 | h0
      · exact h0
      · obtain ⟨b, off, e9, _⟩ := h2.2 h0; cases e9
    subst hm0
    have hs0 : ss = [] := List.eq_nil_of_length_eq_zero (by have := h2.1; rw [ints_len] at this; exact this)
    subst hs0
    refine wpList_append_zero hgd s x 22 ho 2 i0 Tryd.underlying22 hi A N cA c2 (own_cap hown) hs hx ?_
    exact h A cA w (by rw [List.append_nil]; exact hown) (World.grownBy.refl _ _)
  | some ad =>
    have hl2 : ((ints ss).map (Value.int .i64)).length = m * 1 := by rw [List.length_map, h2.1, Nat.mul_one]
    refine wpList_append_own w hgd s x 22 ho base 2 i0 (.int .i64 0) 1 8 Tryd.underlying22 hi hz0 hz1 hz2 rfl (by decide) (.slice A N cA) N ((ints all).map (Value.int .i64)) hs hown ad m c2 ((ints ss).map (Value.int .i64)) hx hl2 ?_ (ints_oneCell .i64 _) h63 hby hbase ?_
    · intro j u hu
      have hj : 0 < m := by
        rcases Nat.eq_zero_or_pos m with h0 | h0
        · have h8 : (ints ss).map (Value.int .i64) = [] := List.eq_nil_of_length_eq_zero (by rw [hl2, h0])
          rw [h8] at hu; simp at hu
        · exact h0
      obtain ⟨b, off, e9, _⟩ := h2.2 hj
      injection e9 with e9
      subst e9
      exact rd_news h2 hj j u hu
    · intro v' w' hown' hg _
      have e8 : (ints all).map (Value.int .i64) ++ (ints ss).map (Value.int .i64) = (ints (all ++ ss)).map (Value.int .i64) := by rw [ints_app, List.map_append]
      rw [e8] at hown'
      obtain ⟨A3, c3, rfl, ho3⟩ := own_shape hown'
      exact h A3 c3 w' ho3 hg
/-- The least common continuation of some words, behind one that is there already. -/
def contGo (D : Nat → Nat → Bool) : List Nat → List (List Nat) → Option (List Nat)
  | all, [] => some all
  | all, v :: l => if indM D (cmpM D all v).2.1 (cmpM D all v).2.2 = true then contGo D (all ++ (cmpM D all v).2.2) l else none
theorem cont_yes (D : Nat → Nat → Bool) (all v : List Nat) (l : List (List Nat)) (h : indM D (cmpM D all v).2.1 (cmpM D all v).2.2 = true) : contGo D all (v :: l) = contGo D (all ++ (cmpM D all v).2.2) l := by
  show (if _ then _ else _) = _
  rw [if_pos h]
theorem cont_no (D : Nat → Nat → Bool) (all v : List Nat) (l : List (List Nat)) (h : indM D (cmpM D all v).2.1 (cmpM D all v).2.2 = false) : contGo D all (v :: l) = none := by
  show (if _ then _ else _) = _
  rw [if_neg (by rw [h]; decide)]
theorem drop_atL (l : List (List Nat)) (k : Nat) (hk : k < l.length) : l.drop k = l.getD k [] :: l.drop (k + 1) := by
  rw [List.getD_eq_getElem?_getD, List.getElem?_eq_getElem hk]; exact List.drop_eq_getElem_cons hk
end Go.Proofs.YtcojodkcpemfdaaDoor
namespace Go.Proofs.YtcojodkcpemfdaaDoor
open Go Go.RowKit
set_option linter.unusedVariables false
set_option maxRecDepth 100000

/-- The join: a word of it, if there is one. -/
def jnM (rs us ts : List Nat) : Option (List Nat) := if indM (RDep rs) (cmpM (RDep rs) us ts).2.1 (cmpM (RDep rs) us ts).2.2 = true then some (us ++ (cmpM (RDep rs) us ts).2.2) else none
def ciF (rs us ts : List Nat) : List Nat × Int := match jnM rs us ts with | none => ([], 4) | some l => if 24 < l.length then ([], 3) else (l, 0)
def joF (rs us ts : List Nat) : List Nat × Int := if (ciF rs us ts).2 = 0 then (nfR rs (ciF rs us ts).1, 0) else ([], (ciF rs us ts).2)
def raF (rs us ts : List Nat) : List Nat × Int := if (ciF rs us ts).2 = 0 then (nfR rs (cmpM (RDep rs) us ts).2.2, 0) else ([], (ciF rs us ts).2)
theorem ciF_no (rs us ts : List Nat) (h : jnM rs us ts = none) : ciF rs us ts = ([], 4) := by unfold ciF; rw [h]
theorem ciF_long (rs us ts l : List Nat) (h : jnM rs us ts = some l) (h2 : 24 < l.length) : ciF rs us ts = ([], 3) := by unfold ciF; rw [h]; exact if_pos h2
theorem ciF_yes (rs us ts l : List Nat) (h : jnM rs us ts = some l) (h2 : l.length ≤ 24) : ciF rs us ts = (l, 0) := by unfold ciF; rw [h]; exact if_neg (by omega)
theorem joF_err (rs us ts : List Nat) (l : List Nat) (c : Int) (h : ciF rs us ts = (l, c)) (hc : c ≠ 0) : joF rs us ts = ([], c) := by unfold joF; rw [h]; exact if_neg hc
theorem joF_yes (rs us ts : List Nat) (l : List Nat) (h : ciF rs us ts = (l, 0)) : joF rs us ts = (nfR rs l, 0) := by unfold joF; rw [h]; rfl
theorem raF_err (rs us ts : List Nat) (l : List Nat) (c : Int) (h : ciF rs us ts = (l, c)) (hc : c ≠ 0) : raF rs us ts = ([], c) := by unfold raF; rw [h]; exact if_neg hc
theorem raF_yes (rs us ts : List Nat) (l : List Nat) (h : ciF rs us ts = (l, 0)) : raF rs us ts = (nfR rs (cmpM (RDep rs) us ts).2.2, 0) := by unfold raF; rw [h]; rfl
theorem jnM_is (rs us ts l : List Nat) (h : jnM rs us ts = some l) : l = us ++ (cmpM (RDep rs) us ts).2.2 := by
  unfold jnM at h
  split at h
  · injection h with h; exact h.symm
  · cases h
theorem cmp_empty (D : Nat → Nat → Bool) (v : List Nat) : cmpM D [] v = ([], [], v) := rfl
theorem cont_two (rs us ts : List Nat) : contGo (RDep rs) [] [us, ts] = jnM rs us ts := by
  have h1 : indM (RDep rs) (cmpM (RDep rs) [] us).2.1 (cmpM (RDep rs) [] us).2.2 = true := by
    rw [cmp_empty, indM_iff]; intro x hx; cases hx
  rw [cont_yes _ _ _ _ h1, cmp_empty, List.nil_append]
  unfold jnM
  cases h : indM (RDep rs) (cmpM (RDep rs) us ts).2.1 (cmpM (RDep rs) us ts).2.2
  · rw [cont_no _ _ _ _ h]; rfl
  · rw [cont_yes _ _ _ _ h]; rfl
theorem joF_small (L : Int) (xs us ts : List Int) : (dL joF L xs us ts).1.length ≤ 24 := dL_small joF 24 (fun rs us ts _ _ => by
  cases h : jnM rs us ts with
  | none => rw [joF_err _ _ _ _ _ (ciF_no _ _ _ h) (by decide)]; exact Nat.zero_le _
  | some l =>
    rcases Nat.lt_or_ge 24 l.length with h2 | h2
    · rw [joF_err _ _ _ _ _ (ciF_long _ _ _ _ h h2) (by decide)]; exact Nat.zero_le _
    · rw [joF_yes _ _ _ _ (ciF_yes _ _ _ _ h h2)]; exact Nat.le_trans (nfR_len rs l) h2) L xs us ts
theorem raF_small (L : Int) (xs us ts : List Int) : (dL raF L xs us ts).1.length ≤ 24 := dL_small raF 24 (fun rs us ts _ ht => by
  cases h : jnM rs us ts with
  | none => rw [raF_err _ _ _ _ _ (ciF_no _ _ _ h) (by decide)]; exact Nat.zero_le _
  | some l =>
    rcases Nat.lt_or_ge 24 l.length with h2 | h2
    · rw [raF_err _ _ _ _ _ (ciF_long _ _ _ _ h h2) (by decide)]; exact Nat.zero_le _
    · rw [raF_yes _ _ _ _ (ciF_yes _ _ _ _ h h2)]; exact Nat.le_trans (nfR_len rs _) (Nat.le_trans (cmp_len _ _ _).2.1 ht)) L xs us ts
end Go.Proofs.YtcojodkcpemfdaaDoor
namespace Go.Proofs.YtcojodkcpemfdaaDoor
open Go Go.RowKit
set_option linter.unusedVariables false
set_option maxRecDepth 100000

end Go.Proofs.YtcojodkcpemfdaaDoor
namespace Go.Proofs.YtcojodkcpemfdaaDoor
open Go Go.RowKit
set_option linter.unusedVariables false
set_option maxRecDepth 100000

end Go.Proofs.YtcojodkcpemfdaaDoor
namespace Go.Proofs.YtcojodkcpemfdaaDoor
open Go Go.RowKit
set_option linter.unusedVariables false
set_option maxRecDepth 100000

theorem step_append_rd {w : World} {ops : Array Oper} {o : Oper} {a : Act} {K : Act → World → Prop} {Q : Exit → Act → World → Prop} {E : Prop} (hgd : o.guard = none) (s x : Operand)
    (ho : o.op = .call { callee := .builtin .append, args := #[s, x], argTypes := #[22, 22] }) (base : Nat) (A : Option Addr) (N cA : Nat) (all : List Nat) (hs : a.eval s = .slice A N cA) (hown : Own 2 w base A N cA (ints all))
    (A2 : Option Addr) (m c2 : Nat) (ss : List Nat) (hx : a.eval x = .slice A2 m c2) (h2 : Rd w A2 m (ints ss)) (h63 : N + m ≤ maxLen) (hby : (N + m) * 8 ≤ 140737488355328) (hbase : base ≤ w.heap.size)
    (h : ∀ v' w', (∃ A' c', v' = .slice A' (N + m) c' ∧ Own 2 w' base A' (N + m) c' (ints (all ++ ss))) → w.grownBy w' (Value.slice A N cA).ownBlock → K (a.put o.dst v') w') :
    if Region.wanted o (yielded ops a.tmps) = true then Oper.wp Tryd.prog o a w K Q else E := by
  have hw : Region.wanted o (yielded ops a.tmps) = true := by simp [Region.wanted, hgd]
  rw [if_pos hw]
  obtain ⟨i0, hi, hz0, hz1, hz2⟩ := info_parts info_int
  cases A2 with
  | none =>
    have hm0 : m = 0 := by
      rcases Nat.eq_zero_or_pos m with h0 | h0
      · exact h0
      · obtain ⟨b, off, e9, _⟩ := h2.2 h0; cases e9
    subst hm0
    have hs0 : ss = [] := List.eq_nil_of_length_eq_zero (by have := h2.1; rw [ints_len] at this; exact this)
    subst hs0
    have hrun := run_append_nothing (P := Tryd.prog) w 22 22 o.type 2 i0 Tryd.underlying22 hi A N cA (own_cap hown) (.slice none 0 c2) (Src.ofNil w Tryd.underlying22 c2)
    unfold Oper.wp
    simp [execOp, ho, resolve, invoke, builtin, hs, hx, hrun, Result.andThen]
    exact h (.slice A N cA) w ⟨A, cA, rfl, by rw [List.append_nil]; exact hown⟩ (World.grownBy.refl _ _)
  | some ad =>
    have hl2 : ((ints ss).map (Value.int .i64)).length = m * 1 := by rw [List.length_map, h2.1, Nat.mul_one]
    refine wp_append_own (P := Tryd.prog) w s x 22 ho base 2 i0 (.int .i64 0) 1 8 Tryd.underlying22 hi hz0 hz1 hz2 rfl (by decide) (.slice A N cA) N ((ints all).map (Value.int .i64)) hs hown ad m c2 ((ints ss).map (Value.int .i64)) hx hl2 ?_ (ints_oneCell .i64 _) h63 hby hbase ?_
    · intro j u hu
      have hj : 0 < m := by
        rcases Nat.eq_zero_or_pos m with h0 | h0
        · have h8 : (ints ss).map (Value.int .i64) = [] := List.eq_nil_of_length_eq_zero (by rw [hl2, h0])
          rw [h8] at hu; simp at hu
        · exact h0
      obtain ⟨b, off, e9, _⟩ := h2.2 hj
      injection e9 with e9
      subst e9
      exact rd_news h2 hj j u hu
    · intro v' w' hown' hg _
      have e8 : (ints all).map (Value.int .i64) ++ (ints ss).map (Value.int .i64) = (ints (all ++ ss)).map (Value.int .i64) := by rw [ints_app, List.map_append]
      rw [e8] at hown'
      obtain ⟨A3, c3, rfl, ho3⟩ := own_shape hown'
      exact h _ w' ⟨A3, c3, rfl, ho3⟩ hg
set_option maxHeartbeats 1600000 in
theorem growNil_any (n : Nat) (hn : n ≤ 100000) (w : World) :
    Calls Tryd.prog 194 #[.slice none 0 0, .int .i64 (n : Int)] w fun e w' => ∃ (A : Option Addr) (c : Nat), e = .returned (.slice A 0 c) ∧ Own 2 w' w.heap.size A 0 c (ints []) ∧ Below w.heap.size w w' := by
  obtain ⟨i0, hi, hz0, hz1, hz2⟩ := info_parts info_int
  have hw0 : IntKind.i64.wrap ((n : Int) - 0) = (n : Int) := by rw [IntWalk.i64_left]; unfold wrap64; omega
  have hw1 : wrap64 (n : Int) = (n : Int) := by unfold wrap64; omega
  have hn0 : (0 : Int) ≤ (n : Int) := by omega
  rcases Nat.eq_zero_or_pos n with h0 | h0
  · subst h0
    go_enter Tryd.func194, Tryd.ntmps194
    go_wp2_with fail
    go_ret
    exact ⟨none, 0, rfl, Own.nil _ _ _, Below.refl _ _⟩
  · have hnp : (0 : Int) < (n : Int) := by omega
    have hrun := Lib.run_append_nil_zeros (P := Tryd.prog) w 22 3 22 2 i0 (.int .i64 0) .i64 .i64 Tryd.underlying22 Tryd.underlying3 hi hz0 n h0 (by omega) (by omega) (by rw [hz2]; omega)
    obtain ⟨cp, hcp⟩ : ∃ cp, cp = grownCap w n 0 2 := ⟨_, rfl⟩
    have hge : n ≤ cp := by rw [hcp]; exact grownCap_ge w n 0 _
    have hle : cp ≤ maxLen := by rw [hcp]; exact grownCap_le_maxLen w n 0 _ (by unfold maxLen; omega)
    rw [← hcp] at hrun
    obtain ⟨row, hrow⟩ : ∃ row, row = Builtin.zeroCells (Value.int .i64 0).cells n ++ Builtin.zeroCells (Value.int .i64 0).cells (cp - n) := ⟨_, rfl⟩
    have hrs : row.size = cp := by
      rw [hrow, Array.size_append]
      have hzc : ∀ k, (Builtin.zeroCells (Value.int .i64 0).cells k).size = k := fun k => by simp [Builtin.zeroCells, Value.cells]
      rw [hzc, hzc]; omega
    rw [← hrow] at hrun
    have HOWN : Hid (Own 2 (w.drew.alloc (.cells row 2)) w.heap.size (some ⟨w.heap.size, 0, none⟩) 0 cp (ints [])) := Lib.hid ⟨rfl, .inr ⟨w.heap.size, cp, row, rfl, Nat.le_refl _, World.alloc_heap_new w.drew _, Nat.zero_le _, hle, by rw [hrs, Nat.mul_one], by simp [ints]⟩⟩
    have HBE : Hid (Below w.heap.size w (w.drew.alloc (.cells row 2))) := Lib.hid ((Below.refl _ _).drew.alloc (Nat.le_refl _) _)
    clear hrow hcp
    go_enter Tryd.func194, Tryd.ntmps194
    go_wp2_with (at_builtin; refine Lib.wpList_append_run _ rfl _ _ _ _ rfl _ _ rfl rfl _ _ hrun ?_)
    go_wp2_with fail
    go_ret
    exact ⟨_, cp, rfl, HOWN.out, HBE.out⟩
end Go.Proofs.YtcojodkcpemfdaaDoor
namespace Go.Proofs.YtcojodkcpemfdaaDoor
open Go Go.RowKit
set_option linter.unusedVariables false
set_option maxRecDepth 100000

theorem flat_take (Ws : List (List Nat)) (k : Nat) (h : k < Ws.length) : (Ws.take (k + 1)).flatten = (Ws.take k).flatten ++ Ws.getD k [] := by
  rw [List.take_add_one, List.getD_eq_getElem?_getD, List.getElem?_eq_getElem h, List.flatten_append]; simp
theorem flat_len (Ws : List (List Nat)) (hm : ∀ k, (Ws.getD k []).length ≤ 24) : ∀ k, k ≤ Ws.length → (Ws.take k).flatten.length ≤ 24 * k
  | 0, _ => by simp
  | k + 1, h => by
    rw [flat_take Ws k (by omega), List.length_append]
    have := flat_len Ws hm k (by omega)
    have := hm k
    omega
set_option maxHeartbeats 3200000 in
theorem concat_any (T : Option Addr) (nT cT : Nat) (ts : List (Option Addr × Nat × Nat × List Int)) (Ws : List (List Nat)) (w : World)
    (hT : RdT w T nT ts) (hnT : nT ≤ 24) (hlW : Ws.length = nT) (hW : ∀ k t, ts[k]? = some t → t.2.2.2 = ints (Ws.getD k [])) (hWm : ∀ k, (Ws.getD k []).length ≤ 24) :
    Calls Tryd.prog 154 #[.slice T nT cT] w (MakesE 2 w Ws.flatten.length (ints Ws.flatten)) := by
  have HLW := Lib.hid hlW
  have HW := Lib.hid hW
  have HFT : Hid (∀ k, k < nT → (Ws.take (k + 1)).flatten = (Ws.take k).flatten ++ Ws.getD k []) := Lib.hid (fun k hk => flat_take Ws k (by rw [hlW]; exact hk))
  have HFL : Hid (∀ k, k ≤ nT → (Ws.take k).flatten.length ≤ 24 * k) := Lib.hid (fun k hk => flat_len Ws hWm k (by rw [hlW]; exact hk))
  have HFA : Hid (Ws.take nT = Ws) := Lib.hid (List.take_of_length_le (by rw [hlW]; exact Nat.le_refl _))
  clear hlW hW hWm
  go_enter Tryd.func154, Tryd.ntmps154
  go_wp2_with fail
  go_loop [3, 11] (fun sv iv => ∃ k S : Nat, k ≤ nT ∧ iv = .int .i64 (k : Int) ∧ sv = .int .i64 (S : Int) ∧ S = (Ws.take k).flatten.length) (fun _ iv => nT - (intOf iv).toNat)
  case atStart => exact ⟨0, 0, Nat.zero_le _, rfl, rfl, rfl⟩
  case round =>
    obtain ⟨k, S, hk, rfl, rfl, hS⟩ := hrel
    have HS := Lib.hid hS
    have HSL : Hid (S ≤ 24 * k) := Lib.hid (by rw [hS]; exact HFL.out k hk)
    clear hS
    by_cases hlt : k < nT
    · obtain ⟨bt, ot, Bk, nk, ck, xk, rfl, hbt, htk, hct, hrk, hmk⟩ := hT.at_ hlt
      have hxk : xk = ints (Ws.getD k []) := HW.out k _ htk
      have hnk : (Ws.getD k []).length = nk := by have := hrk.1; rw [hxk, ints_len] at this; exact this
      have HSN : Hid (S + nk = (Ws.take (k + 1)).flatten.length) := Lib.hid (by rw [HFT.out k hlt, List.length_append, ← HS.out, hnk])
      have hsl := HSL.out
      have hsn : S + nk ≤ 24 * (k + 1) := by rw [HSN.out]; exact HFL.out (k + 1) hlt
      have hw1 : IntKind.i64.wrap ((S : Int) + (nk : Int)) = ((S + nk : Nat) : Int) := by rw [IntWalk.i64_left]; unfold wrap64; omega
      have hge : (0 : Int) ≤ ((S + nk : Nat) : Int) := by omega
      clear hxk hnk
      go_wp2_with fail
      go_round
      case rel => exact ⟨k + 1, S + nk, hlt, by go_num, by simp, HSN.out⟩
      case measure => simp [intOf]; omega
    · have hkm : k = nT := by omega
      subst hkm
      have HSF : Hid (S = Ws.flatten.length) := Lib.hid (by rw [HS.out, HFA.out])
      have HGR := Lib.hid (growNil_any S (by have := HSL.out; omega) w)
      go_wp2_with fail
      refine HGR.out.mono ?_
      rintro e w1 ⟨A0, c0, rfl, o0, hb1⟩
      go_wp2_with fail
      go_loopw [6, 27] (fun av iv wr => ∃ (j N cA : Nat) (A : Option Addr), j ≤ k ∧ av = .slice A N cA ∧ iv = .int .i64 (j : Int) ∧ N = (Ws.take j).flatten.length ∧ Own 2 wr w.heap.size A N cA (ints (Ws.take j).flatten) ∧ Below w.heap.size w wr) (fun _ iv _ => k - (intOf iv).toNat)
      case atStart => exact ⟨0, 0, c0, A0, Nat.zero_le _, rfl, rfl, rfl, o0, hb1⟩
      case round =>
        clear o0 hb1
        obtain ⟨j, N, cA, A, hj, rfl, rfl, hN, ho, hb⟩ := hrel
        have HN := Lib.hid hN
        have HNL : Hid (N ≤ 24 * j) := Lib.hid (by rw [hN]; exact HFL.out j hj)
        clear hN
        by_cases hlt2 : j < k
        · obtain ⟨bt, ot, Bk, nk, ck, xk, rfl, hbt, htk, hct, hrk, hmk⟩ := (hT.below hb).at_ hlt2
          have hxk : xk = ints (Ws.getD j []) := HW.out j _ htk
          subst hxk
          have hnk : (Ws.getD j []).length = nk := by have := hrk.1; rw [ints_len] at this; exact this
          have HSN : Hid (N + nk = (Ws.take (j + 1)).flatten.length) := Lib.hid (by rw [HFT.out j hlt2, List.length_append, ← HN.out, hnk])
          have hsn : N + nk ≤ 24 * (j + 1) := by rw [HSN.out]; exact HFL.out (j + 1) hlt2
          have HFJ := Lib.hid (HFT.out j hlt2)
          have hml : N + nk ≤ maxLen := by unfold maxLen; omega
          have hby : (N + nk) * 8 ≤ 140737488355328 := by omega
          have hbase := hb.size
          obtain ⟨al, hal⟩ : ∃ al, al = (Ws.take j).flatten := ⟨_, rfl⟩
          obtain ⟨v, hv⟩ : ∃ v, v = Ws.getD j [] := ⟨_, rfl⟩
          rw [← hal] at ho HFJ
          rw [← hv] at hrk HFJ
          clear hal hv hnk
          go_wp2_with (at_builtin; refine wpList_append_rd rfl _ _ rfl w.heap.size A N cA al rfl ho Bk nk ck v rfl hrk hml hby hbase ?_; intro A6 c6 w6 o6 hg6; have HB6 : Hid (Below w.heap.size w w6) := Lib.hid (hb.grown hg6 hbase (fun k e9 => (ho.lt k (ownBlock_map' e9)).1)); rw [← HFJ.out] at o6)
          go_wp2_with fail
          go_roundw
          case rel => exact ⟨j + 1, N + nk, c6, A6, hlt2, rfl, by go_num, HSN.out, o6, HB6.out⟩
          case measure => simp [intOf]; omega
        · have hjk : j = k := by omega
          subst hjk
          have HE : Hid (N = Ws.flatten.length) := Lib.hid (by rw [HN.out, HFA.out])
          rw [HFA.out] at ho
          go_wp2_with fail
          go_ret
          rw [← HE.out]
          exact ⟨A, cA, rfl, ho, hb⟩
def coF (rs us ts : List Nat) : List Nat × Int := if 24 < us.length + ts.length then ([], 3) else (nfR rs (us ++ ts), 0)
theorem coF_long (rs us ts : List Nat) (h : 24 < us.length + ts.length) : coF rs us ts = ([], 3) := if_pos h
theorem coF_yes (rs us ts : List Nat) (h : us.length + ts.length ≤ 24) : coF rs us ts = (nfR rs (us ++ ts), 0) := if_neg (by omega)
theorem coF_small (L : Int) (xs us ts : List Int) : (dL coF L xs us ts).1.length ≤ 24 := dL_small coF 24 (fun rs us ts _ _ => by
  rcases Nat.lt_or_ge 24 (us.length + ts.length) with h | h
  · rw [coF_long _ _ _ h]; exact Nat.zero_le _
  · rw [coF_yes _ _ _ h]; exact Nat.le_trans (nfR_len rs _) (by rw [List.length_append]; exact h)) L xs us ts
set_option maxHeartbeats 1600000 in
theorem product_two (A2 A1 B1 T : Option Addr) (n c2 m d q f cT : Nat) (rs vs ys : List Nat) (w : World) (hrd : Rd w A2 n (ints rs)) (h24 : n ≤ 24) (hl : rs.length = n) (hr : ∀ i, rs.getD i 0 < 2 ^ n) (hdep : Dep rs)
    (h2 : Rd w A1 m (ints vs)) (hm : m ≤ 24) (h3 : Rd w B1 q (ints ys)) (hq : q ≤ 24) (hvn : ∀ x, x ∈ vs → x < n) (hyn : ∀ x, x ∈ ys → x < n) (hRT : RdT w T 2 [(A1, m, d, ints vs), (B1, q, f, ints ys)]) (hT : Tab w) :
    Calls Tryd.prog 139 #[.slice A2 n c2, .slice T 2 cT] w (LsPost w (ints (coF rs vs ys).1).length (ints (coF rs vs ys).1) (coF rs vs ys).2) := by
  have HLU : Hid (vs.length = m) := Lib.hid (by have := h2.1; rw [ints_len] at this; exact this)
  have HLV : Hid (ys.length = q) := Lib.hid (by have := h3.1; rw [ints_len] at this; exact this)
  have HLR := Lib.hid hl
  have HR := Lib.hid hr
  have HDEP := Lib.hid hdep
  have HR63 : Hid (∀ i, rs.getD i 0 < 9223372036854775808) := Lib.hid fun i => lt63 h24 (hr i)
  have HCO := Lib.hid (concat_any T 2 cT _ [vs, ys] w hRT (by omega) rfl (fun k t hk => by
    match k, hk with
    | 0, hk => injection hk with hk; subst hk; rfl
    | 1, hk => injection hk with hk; subst hk; rfl
    | k + 2, hk => simp at hk) (fun k => by
    match k with
    | 0 => show vs.length ≤ 24; have := HLU.out; omega
    | 1 => show ys.length ≤ 24; have := HLV.out; omega
    | k + 2 => simp))
  rw [show [vs, ys].flatten = vs ++ ys by simp] at HCO
  have hlen : (vs ++ ys).length = m + q := by rw [List.length_append, HLU.out, HLV.out]
  have HWM : Hid (∀ x, x ∈ vs ++ ys → x < n) := Lib.hid (fun x hx => by
    rcases List.mem_append.1 hx with h1 | h1
    · exact hvn x h1
    · exact hyn x h1)
  obtain ⟨W, hW⟩ : ∃ W, W = vs ++ ys := ⟨_, rfl⟩
  rw [← hW] at HCO hlen HWM
  obtain ⟨k, hk⟩ : ∃ k, k = W.length := ⟨_, rfl⟩
  rw [← hk] at HCO hlen
  have HLK : Hid (W.length = k) := Lib.hid hk.symm
  have HRK : Hid (∀ x, x < k → W.getD x 0 < n) := Lib.hid fun x hx => in_getD HWM.out x (by rw [HLK.out]; exact hx)
  by_cases hlong : 24 < k
  · have HA := Lib.hid (coF_long rs vs ys (by rw [HLU.out, HLV.out]; omega))
    have hI : (24 : Int) < (k : Int) := by omega
    clear hk hlen hW hlong hl hr
    go_enter Tryd.func139, Tryd.ntmps139
    go_wp2_with fail
    refine HCO.out.mono ?_
    rintro e w1 ⟨A3, c3, rfl, o3, hb⟩
    go_wp2_with fail
    go_ret2
    rw [HA.out]
    exact LsPost.of_ans (ans_no 3 hb)
  · have HA : Hid (coF rs vs ys = (nfR rs W, 0)) := Lib.hid (by rw [hW]; exact coF_yes rs vs ys (by rw [HLU.out, HLV.out]; omega))
    have hk24 : k ≤ 24 := by omega
    have hI : (k : Int) ≤ 24 := by omega
    clear hk hlen hW hlong hl hr
    go_enter Tryd.func139, Tryd.ntmps139
    go_wp2_with fail
    refine HCO.out.mono ?_
    rintro e w1 ⟨A3, c3, rfl, o3, hb⟩
    have hrd1 := hrd.below hb
    have hW1 := o3.rd
    have hT1 := hT.below hb
    have HT1 := Lib.hid (traceOf_any A2 A3 n k c2 c3 rs W _ hrd1 hW1 hk24 h24 HRK.out HR63.out hT1)
    go_wp2_with fail
    refine HT1.out.mono ?_
    rintro e v1 ⟨E1, g1, F1, k1, es1, rfl, hp, hs, h1, h2, -, -, ha1⟩
    have HN1 := Lib.hid (nf_from E1 F1 g1 k1 k n rs W es1 v1 HLR.out HR.out HDEP.out HLK.out HRK.out hk24 hp hs h1 h2 ((hT1).below ha1))
    clear hp hs h1 h2
    go_wp2_with fail
    refine HN1.out.mono ?_
    rintro e u1 ⟨G1, l1, rfl, ho1, hb1⟩
    go_wp2_with fail
    go_ret2
    rw [HA.out]
    have HZ := hb.trans (ha1.mono hb.size)
    exact LsPost.of_ans (ans_yes ho1.len (ho1.mono HZ.size) (HZ.trans (hb1.mono HZ.size)))
end Go.Proofs.YtcojodkcpemfdaaDoor
namespace Go.Proofs.YtcojodkcpemfdaaDoor
open Go Go.RowKit
set_option linter.unusedVariables false
set_option maxRecDepth 100000

def pairOf (a b : Nat) : Nat := 2 ^ a ||| 2 ^ b
/-- The pairs of a with letters below k, from a on. -/
def pairRow (r a k : Nat) : List Nat := ((List.range k).filter fun b => decide (a ≤ b) && r.testBit b).map (pairOf a)
def pairsL (rs : List Nat) : Nat → List Nat
  | 0 => []
  | k + 1 => pairsL rs k ++ pairRow (rs.getD k 0) k 24
theorem pairRow_yes (r a k : Nat) (h1 : a ≤ k) (h2 : r.testBit k = true) : pairRow r a (k + 1) = pairRow r a k ++ [pairOf a k] := by
  unfold pairRow; rw [List.range_succ, List.filter_append, List.map_append]; simp [h1, h2]
theorem pairRow_no (r a k : Nat) (h : (decide (a ≤ k) && r.testBit k) = false) : pairRow r a (k + 1) = pairRow r a k := by
  unfold pairRow; rw [List.range_succ, List.filter_append, List.map_append]; simp [h]
theorem pairRow_le (r a k : Nat) : (pairRow r a k).length ≤ k := by
  unfold pairRow; rw [List.length_map]
  exact Nat.le_trans (List.length_filter_le _ _) (by rw [List.length_range]; exact Nat.le_refl _)
theorem pairRow_start (r a : Nat) : ∀ k, k ≤ a → pairRow r a k = []
  | 0, _ => rfl
  | k + 1, h => by rw [pairRow_no r a k (by have : ¬ a ≤ k := by omega
                                            simp [this]), pairRow_start r a k (by omega)]
theorem pairRow_full (r a n : Nat) (hr : r < 2 ^ n) : ∀ k, n ≤ k → pairRow r a k = pairRow r a n
  | 0, h => by have : n = 0 := by omega
               subst this; rfl
  | k + 1, h => by
    by_cases e : n = k + 1
    · rw [e]
    · rw [pairRow_no r a k (by have : r.testBit k = false := Nat.testBit_lt_two_pow (Nat.lt_of_lt_of_le hr (Nat.pow_le_pow_right (by decide) (by omega)))
                               simp [this]), pairRow_full r a n hr k (by omega)]
theorem pairsL_le (rs : List Nat) : ∀ k, (pairsL rs k).length ≤ k * 24
  | 0 => Nat.zero_le _
  | k + 1 => by
    show (pairsL rs k ++ _).length ≤ _
    rw [List.length_append]
    have := pairsL_le rs k; have := pairRow_le (rs.getD k 0) k 24; omega
/-- The same by the list of members, after j of them. -/
def pairMem (r a j : Nat) : List Nat := (((bitsOf r).take j).filter fun b => decide (a ≤ b)).map (pairOf a)
theorem pairMem_yes (r a j b : Nat) (hb : (bitsOf r)[j]? = some b) (h : a ≤ b) : pairMem r a (j + 1) = pairMem r a j ++ [pairOf a b] := by
  unfold pairMem; rw [List.take_add_one, hb, List.filter_append, List.map_append]; simp [h]
theorem pairMem_no (r a j b : Nat) (hb : (bitsOf r)[j]? = some b) (h : ¬ a ≤ b) : pairMem r a (j + 1) = pairMem r a j := by
  unfold pairMem; rw [List.take_add_one, hb, List.filter_append, List.map_append]; simp [h]
theorem pairMem_le (r a j : Nat) : (pairMem r a j).length ≤ j := by
  unfold pairMem; rw [List.length_map]
  exact Nat.le_trans (List.length_filter_le _ _) (by rw [List.length_take]; omega)
theorem pairMem_full (r a j : Nat) (hj : (bitsOf r).length ≤ j) : pairMem r a j = pairRow r a 24 := by
  unfold pairMem pairRow
  rw [List.take_of_length_le hj]
  unfold bitsOf upTo
  rw [List.filter_filter]
theorem own_block (A : Option Addr) (n c : Nat) : (Value.slice A n c).ownBlock = A.map (·.block) := by cases A <;> rfl
theorem alloc_grown {w w' : World} {o : Obj} {row : Option Nat} (hg : (w.alloc o).grownBy w' row) : w.grownBy w' row := by
  have hb := below1 w o
  exact ⟨hg.os.trans hb.os, hg.tape.trans hb.tape, hg.output.trans hb.output, Nat.le_trans hb.size hg.size, fun k hk hne => (hg.block k (Nat.lt_of_lt_of_le hk hb.size) hne).trans (hb.block k hk)⟩
set_option maxHeartbeats 3200000 in
theorem pairs_any (A : Option Addr) (n c : Nat) (rs : List Nat) (w : World) (h : Rd w A n (ints rs)) (hn : n ≤ 8) (hr : ∀ i, rs.getD i 0 < 2 ^ n) (hT : Tab w) :
    Calls Tryd.prog 171 #[.slice A n c] w (MakesE 84 w (pairsL rs n).length (ints (pairsL rs n))) := by
  obtain ⟨i0, hi, hz0, hz1, hz2⟩ := info_parts info_set
  have HL : Hid (rs.length = n) := Lib.hid (by have := h.1; rw [ints_len] at this; exact this)
  go_enter Tryd.func171, Tryd.ntmps171
  go_wp2_with fail
  go_loopw [3, 10] (fun p q wr => ∃ (k N : Nat) (A1 : Option Addr) (c1 : Nat), k ≤ n ∧ p = .slice A1 N c1 ∧ q = .int .i64 (k : Int) ∧ N = (pairsL rs k).length ∧ Own 84 wr w.heap.size A1 N c1 (ints (pairsL rs k)) ∧ Below w.heap.size w wr) (fun _ q _ => n - (intOf q).toNat)
  case atStart => exact ⟨0, 0, _, 0, Nat.zero_le _, rfl, rfl, rfl, Own.nil _ _ _, Below.refl _ _⟩
  case round =>
    obtain ⟨k, N, A1, c1, hk, rfl, rfl, hN, ho, hb⟩ := hrel
    have hN24 : N ≤ k * 24 := by rw [hN]; exact pairsL_le rs k
    have HN := Lib.hid hN
    clear hN
    by_cases hlt : k < n
    · obtain ⟨b, off, x, rfl, hbs, hx, hcx⟩ := (h.below hb).at_ hlt
      rw [ints_getD rs k (by rw [HL.out]; exact hlt)] at hx
      injection hx with hx
      subst hx
      have HNX : Hid (pairsL rs (k + 1) = pairsL rs k ++ pairRow (rs.getD k 0) k 24) := Lib.hid rfl
      have hm24 : rs.getD k 0 < 16777216 := by have := p8 n hn; have := hr k; omega
      obtain ⟨D, hD⟩ : ∃ D, D = rs.getD k 0 := ⟨_, rfl⟩
      rw [← hD] at hcx hm24 HNX
      obtain ⟨pk, hpk⟩ : ∃ pk, pk = pairsL rs k := ⟨_, rfl⟩
      rw [← hpk] at ho HN HNX
      have hT1 := hT.below hb
      clear hD hpk
      obtain ⟨wo, hwo⟩ : ∃ wo : World, wr = wo := ⟨_, rfl⟩
      rw [hwo] at ho hb hT1 hcx hbs ⊢
      clear hwo
      go_wp2_with fail
      refine (members_any D hm24 _ hT1).mono ?_
      rintro e w2 ⟨A2, c2, rfl, ho2, hb2⟩
      have hmb : (bitsOf D).length ≤ 24 := bitsOf_len D
      have hap : ∀ q, A1.map (·.block) = some q → A2.map (·.block) ≠ some q := fun q hq e => by have := (ho.lt q hq).2; have := (ho2.lt q e).1; omega
      have ho3 := ho.below hb2
      have hb3 := hb.trans (hb2.mono hb.size)
      have HPM : Hid (∀ t b, (bitsOf D)[t]? = some b → k ≤ b → pairMem D k (t + 1) = pairMem D k t ++ [pairOf k b]) := Lib.hid (fun t b => pairMem_yes D k t b)
      have HPN : Hid (∀ t b, (bitsOf D)[t]? = some b → ¬ k ≤ b → pairMem D k (t + 1) = pairMem D k t) := Lib.hid (fun t b => pairMem_no D k t b)
      have HPF : Hid (pairMem D k (bitsOf D).length = pairRow D k 24) := Lib.hid (pairMem_full D k _ (Nat.le_refl _))
      have HP0 : Hid (pairMem D k 0 = []) := Lib.hid rfl
      have HPL : Hid (∀ t, (pairMem D k t).length ≤ t) := Lib.hid (pairMem_le D k)
      have HB24 : Hid (∀ (t b : Nat), (bitsOf D)[t]? = some b → b < 24) := Lib.hid (fun t b hb => ((bitsOf_mem D b).1 (List.mem_of_getElem? hb)).1)
      obtain ⟨ms, hms⟩ : ∃ ms, ms = bitsOf D := ⟨_, rfl⟩
      rw [← hms] at ho2 hmb HPM HPN HPF HB24 ⊢
      obtain ⟨F, hF⟩ : ∃ F, F = pairMem D k := ⟨_, rfl⟩
      rw [← hF] at HPM HPN HPF HP0 HPL
      obtain ⟨M, hM⟩ : ∃ M, M = ms.length := ⟨_, rfl⟩
      rw [← hM] at ho2 hmb HPF ⊢
      have HM := Lib.hid hM
      clear hms hF hM hb2 ho hb hT1 hcx
      go_wp2_with fail
      go_loopw [3, 18] (fun p q wr => ∃ (t N' : Nat) (A1 : Option Addr) (c1 : Nat), t ≤ M ∧ p = .slice A1 N' c1 ∧ q = .int .i64 (t : Int) ∧ N' = N + (F t).length ∧ Own 84 wr w.heap.size A1 N' c1 (ints (pk ++ F t)) ∧ Below w.heap.size w wr ∧ Own 2 wr wo.heap.size A2 M c2 (ints ms) ∧ (∀ q, A1.map (·.block) = some q → A2.map (·.block) ≠ some q)) (fun _ q _ => M - (intOf q).toNat)
      case atStart => exact ⟨0, N, A1, c1, Nat.zero_le _, rfl, rfl, by rw [HP0.out]; rfl, by rw [HP0.out, List.append_nil]; exact ho3, hb3, ho2, hap⟩
      case round =>
        clear ho3 hb3 ho2 hap
        obtain ⟨t, N', A1, c1, ht, rfl, rfl, hN', ho, hb, ho2, hap⟩ := hrel
        have hft := HPL.out t
        have HN' := Lib.hid hN'
        have hNb : N' ≤ 240 := by omega
        clear hN' hft
        by_cases hlt2 : t < M
        · obtain ⟨b2, off2, x2, rfl, hbs2, hx2, hcx2⟩ := ho2.rd.at_ hlt2
          have hma : ms[t]? = some (ms.getD t 0) := by rw [List.getD_eq_getElem?_getD, List.getElem?_eq_getElem (by rw [← HM.out]; exact hlt2)]; rfl
          rw [ints_at hma] at hx2
          injection hx2 with hx2
          subst hx2
          obtain ⟨a, haa⟩ : ∃ a, a = ms.getD t 0 := ⟨_, rfl⟩
          rw [← haa] at hma hcx2
          have ha24 := HB24.out t a hma
          by_cases hle : k ≤ a
          · have hd : decide ((k : Int) ≤ (a : Int)) = true := decide_eq_true (by omega)
            have HS := Lib.hid (HPM.out t a hma hle)
            have hk62 : k ≤ 62 := by omega
            have ha62 : a ≤ 62 := by omega
            have HW1 : Hid (∀ ww : World, Calls Tryd.prog 77 #[.int .i64 0, .int .i64 (k : Int)] ww fun e w' => e = .returned (.int .i64 ((0 ||| 2 ^ k : Nat) : Int)) ∧ ww = w') := Lib.hid fun ww => with_any 0 k (by omega) hk62 ww
            have hpb : (0 ||| 2 ^ k) < 9223372036854775808 := by rw [Nat.zero_or]; exact p2_lt k hk62
            have HPO : Hid ((0 ||| 2 ^ k) ||| 2 ^ a = pairOf k a) := Lib.hid (by rw [Nat.zero_or]; rfl)
            obtain ⟨P, hP⟩ : ∃ P, P = 0 ||| 2 ^ k := ⟨_, rfl⟩
            rw [← hP] at HW1 hpb HPO
            have HW2 : Hid (∀ ww : World, Calls Tryd.prog 77 #[.int .i64 (P : Int), .int .i64 (a : Int)] ww fun e w' => e = .returned (.int .i64 ((P ||| 2 ^ a : Nat) : Int)) ∧ ww = w') := Lib.hid fun ww => with_any P a hpb ha62 ww
            rw [HPO.out] at HW2
            obtain ⟨X, hX⟩ : ∃ X, X = pairOf k a := ⟨_, rfl⟩
            rw [← hX] at HW2 HS
            have hml : N' + 1 ≤ maxLen := by unfold maxLen; omega
            have hby2 : (N' + 1) * 8 ≤ 140737488355328 := by omega
            clear hP hX haa hma HPM HPN HPO hpb
            go_wp2_with fail
            refine (HW1.out _).mono ?_
            rintro e w' ⟨rfl, rfl⟩
            go_wp2_with fail
            refine (HW2.out _).mono ?_
            rintro e w' ⟨rfl, rfl⟩
            go_wp2_with (at_builtin; refine wpList_append_own_at _ rfl _ _ 72 rfl w.heap.size 84 i0 (.int .i64 0) 1 8 Tryd.underlying72 hi hz0 hz1 hz2 rfl (by decide) (.slice A1 N' c1) N' ((ints (pk ++ F t)).map (Value.int .i64)) rfl (World.ownsRow.alloc ho _) ⟨wr.heap.size, 0, none⟩ 1 1 [.int .i64 (X : Int)] rfl rfl ?c1 ?c2 hml hby2 ?c5 ?_)
            case c1 => exact cell_one_new _ _ _
            case c2 => intro u hu; simp at hu; subst hu; rfl
            case c5 => have := hb.size; simp; omega
            intro v' w4 hown hg _ hat
            rw [ints_snoc_map, List.append_assoc, ← HS.out] at hown
            have hb4 : Below w.heap.size w w4 := (hb.alloc hb.size _).grown hg (by have := hb.size; simp; omega) (fun r hr => (World.ownsRow.lt ho r hr).1)
            have ho22 := ho2.apart (alloc_grown hg) (fun q hq e => by rw [own_block] at e; exact hap q e hq)
            obtain ⟨A3, c3, hv, ho4⟩ := own_shape hown
            have hap2 : ∀ q, A3.map (·.block) = some q → (some (⟨b2, off2, none⟩ : Addr)).map (·.block) ≠ some q := fun q hq e => by
              rw [hv, own_block, own_block] at hat
              rcases hat with h9 | h9
              · exact hap q (h9 ▸ hq) e
              · have h8 := (ho2.lt q e).2
                rw [hq] at h9
                injection h9 with h9
                have h7 : wr.heap.size ≤ (wr.alloc (.cells #[.int .i64 (X : Int)] 84)).heap.size := (below1 wr _).size
                omega
            rw [hv]
            clear hown hg hv ho hb ho2 hap hat
            go_wp2_with fail
            go_roundw
            case rel => exact ⟨t + 1, N' + 1, A3, c3, by omega, rfl, by go_num, by rw [HS.out, List.length_append, HN'.out]; rfl, ho4, hb4, ho22, hap2⟩
            case measure => simp [intOf]; omega
          · have hd : decide ((k : Int) ≤ (a : Int)) = false := decide_eq_false (by omega)
            have HS := Lib.hid (HPN.out t a hma hle)
            clear haa hma HPM HPN
            go_wp2_with fail
            go_roundw
            case rel => exact ⟨t + 1, N', A1, c1, by omega, rfl, by go_num, by rw [HS.out]; exact HN'.out, by rw [HS.out]; exact ho, hb, ho2, hap⟩
            case measure => simp [intOf]; omega
        · have htm : t = M := by omega
          subst htm
          rw [HPF.out] at ho HN'
          go_wp2_with fail
          go_roundw
          case rel => exact ⟨k + 1, N', A1, c1, by omega, rfl, by go_num, by rw [HNX.out, List.length_append, HN'.out, HN.out], by rw [HNX.out]; exact ho, hb⟩
          case measure => simp [intOf]; omega
    · have hkm : k = n := by omega
      subst hkm
      go_wp2_with fail
      go_ret
      obtain rfl := HN.out
      exact ⟨A1, c1, rfl, ho, hb⟩
end Go.Proofs.YtcojodkcpemfdaaDoor
namespace Go.Proofs.YtcojodkcpemfdaaDoor
open Go Go.RowKit
set_option linter.unusedVariables false
set_option maxRecDepth 100000

def prjS (us : List Nat) (M : Nat) : List Nat := us.filter fun a => M.testBit a
theorem prjS_len (us : List Nat) (M : Nat) : (prjS us M).length ≤ us.length := List.length_filter_le _ _
theorem prjS_in (us : List Nat) (M k : Nat) (hk : k < us.length) (h : M.testBit (us.getD k 0) = true) : prjS (us.take (k + 1)) M = prjS (us.take k) M ++ [us.getD k 0] := by
  unfold prjS
  rw [List.take_add_one, List.getElem?_eq_getElem hk, List.filter_append]
  rw [List.getD_eq_getElem?_getD, List.getElem?_eq_getElem hk] at h ⊢
  have h' : M.testBit us[k] = true := h
  simp [h']
theorem prjS_out (us : List Nat) (M k : Nat) (hk : k < us.length) (h : M.testBit (us.getD k 0) = false) : prjS (us.take (k + 1)) M = prjS (us.take k) M := by
  unfold prjS
  rw [List.take_add_one, List.getElem?_eq_getElem hk, List.filter_append]
  rw [List.getD_eq_getElem?_getD, List.getElem?_eq_getElem hk] at h
  have h' : M.testBit us[k] = false := h
  simp [h']
set_option maxHeartbeats 1600000 in
theorem projection_any (A : Option Addr) (m c M : Nat) (us : List Nat) (w : World) (h : Rd w A m (ints us)) (hm : m ≤ 24) (hM : M < 9223372036854775808) (hus : ∀ p, p < m → us.getD p 0 < 8) :
    Calls Tryd.prog 123 #[.slice A m c, .int .i64 (M : Int)] w (MakesE 2 w (prjS us M).length (ints (prjS us M))) := by
  obtain ⟨i0, hi, hz0, hz1, hz2⟩ := info_parts info_int
  have HL : Hid (us.length = m) := Lib.hid (by have := h.1; rw [ints_len] at this; exact this)
  have HUS := Lib.hid hus
  clear hus
  go_enter Tryd.func123, Tryd.ntmps123
  go_wp2_with fail
  go_loopw [5, 10] (fun p q wr => ∃ (k N : Nat) (A1 : Option Addr) (c1 : Nat), k ≤ m ∧ N ≤ k ∧ p = .slice A1 N c1 ∧ q = .int .i64 (k : Int) ∧ N = (prjS (us.take k) M).length ∧ Own 2 wr w.heap.size A1 N c1 (ints (prjS (us.take k) M)) ∧ Below w.heap.size w wr) (fun _ q _ => m - (intOf q).toNat)
  case atStart => exact ⟨0, 0, _, 0, Nat.zero_le _, Nat.le_refl _, rfl, rfl, rfl, Own.nil _ _ _, Below.refl _ _⟩
  case round =>
    obtain ⟨k, N, A1, c1, hk, hNk, rfl, rfl, hN, ho, hb⟩ := hrel
    have HN := Lib.hid hN
    clear hN
    by_cases hlt : k < m
    · obtain ⟨b, off, x, rfl, hbs, hx, hcx⟩ := (h.below hb).at_ hlt
      rw [ints_getD us k (by rw [HL.out]; exact hlt)] at hx
      injection hx with hx
      have hu8 := HUS.out k hlt
      have HIN : Hid (M.testBit (us.getD k 0) = true → prjS (us.take (k + 1)) M = prjS (us.take k) M ++ [us.getD k 0]) := Lib.hid (prjS_in us M k (by rw [HL.out]; exact hlt))
      have HOUT : Hid (M.testBit (us.getD k 0) = false → prjS (us.take (k + 1)) M = prjS (us.take k) M) := Lib.hid (prjS_out us M k (by rw [HL.out]; exact hlt))
      obtain ⟨X, hX⟩ : ∃ X, X = us.getD k 0 := ⟨_, rfl⟩
      rw [← hX] at hx hu8 HIN HOUT
      subst hx
      obtain ⟨t, ht⟩ : ∃ t, t = M.testBit X := ⟨_, rfl⟩
      rw [← ht] at HIN HOUT
      have HT : Hid (∀ ww : World, Calls Tryd.prog 169 #[.int .i64 (M : Int), .int .i64 (X : Int)] ww fun e w' => e = .returned (.bool t) ∧ ww = w') := Lib.hid fun ww => by rw [ht]; exact has_any M X hM (by omega) ww
      clear hX ht
      cases t
      · have HO := Lib.hid (HOUT.out rfl)
        clear HOUT HIN
        go_wp2_with fail
        refine (HT.out _).mono ?_
        rintro e w' ⟨rfl, rfl⟩
        go_wp2_with fail
        go_roundw
        case rel => exact ⟨k + 1, N, A1, c1, hlt, by omega, rfl, by go_num, by rw [HO.out]; exact HN.out, by rw [HO.out]; exact ho, hb⟩
        case measure => simp [intOf]; omega
      · have HI := Lib.hid (HIN.out rfl)
        clear HOUT HIN
        have hml : N + 1 ≤ maxLen := by unfold maxLen; omega
        have hby2 : (N + 1) * 8 ≤ 140737488355328 := by omega
        go_wp2_with fail
        refine (HT.out _).mono ?_
        rintro e w' ⟨rfl, rfl⟩
        go_wp2_with (at_builtin; refine wpList_append_own _ rfl _ _ 22 rfl w.heap.size 2 i0 (.int .i64 0) 1 8 Tryd.underlying22 hi hz0 hz1 hz2 rfl (by decide) (.slice A1 N c1) N ((ints (prjS (us.take k) M)).map (Value.int .i64)) rfl (World.ownsRow.alloc ho _) ⟨wr.heap.size, 0, none⟩ 1 1 [.int .i64 (X : Int)] rfl rfl ?c1 ?c2 hml hby2 ?c5 ?_)
        case c1 => exact cell_one_new _ _ _
        case c2 => intro u hu; simp at hu; subst hu; rfl
        case c5 => have := hb.size; simp; omega
        intro v' w2 hown hg _
        rw [ints_snoc_map, ← HI.out] at hown
        have hb2 : Below w.heap.size w w2 := (hb.alloc hb.size _).grown hg (by have := hb.size; simp; omega) (fun r hr => (World.ownsRow.lt ho r hr).1)
        obtain ⟨A2, c2, hv, ho2⟩ := own_shape hown
        rw [hv]
        clear hg hown hv ho hb
        go_wp2_with fail
        go_roundw
        case rel => exact ⟨k + 1, N + 1, A2, c2, hlt, by omega, rfl, by go_num, by rw [HI.out, List.length_append, ← HN.out]; rfl, ho2, hb2⟩
        case measure => simp [intOf]; omega
    · have hkm : k = m := by omega
      subst hkm
      have HTK : Hid (us.take k = us) := Lib.hid (List.take_of_length_le (by rw [HL.out]; exact Nat.le_refl _))
      go_wp2_with fail
      go_ret
      rw [HTK.out] at HN ho
      obtain rfl := HN.out
      exact ⟨A1, c1, rfl, ho, hb⟩
set_option maxHeartbeats 1600000 in
theorem project_any (A : Option Addr) (m c M : Nat) (us : List Nat) (w : World) (h : Rd w A m (ints us)) (hm : m ≤ 24) (hM : M < 9223372036854775808) (hus : ∀ p, p < m → us.getD p 0 < 8) :
    Calls Tryd.prog 177 #[.slice A m c, .int .i64 (M : Int)] w (MakesE 2 w (prjS us M).length (ints (prjS us M))) := by
  obtain ⟨i0, hi, hz0, hz1, hz2⟩ := info_parts info_int
  have HL : Hid (us.length = m) := Lib.hid (by have := h.1; rw [ints_len] at this; exact this)
  have HUS := Lib.hid hus
  clear hus
  go_enter Tryd.func177, Tryd.ntmps177
  go_wp2_with fail
  go_loopw [5, 6] (fun p q wr => ∃ (k N : Nat) (A1 : Option Addr) (c1 : Nat), k ≤ m ∧ N ≤ k ∧ p = .slice A1 N c1 ∧ q = .int .i64 (k : Int) ∧ N = (prjS (us.take k) M).length ∧ Own 2 wr w.heap.size A1 N c1 (ints (prjS (us.take k) M)) ∧ Below w.heap.size w wr) (fun _ q _ => m - (intOf q).toNat)
  case atStart => exact ⟨0, 0, _, 0, Nat.zero_le _, Nat.le_refl _, rfl, rfl, rfl, World.ownsRow_lit w #[] 0 (Nat.le_refl _) (by unfold maxLen; omega) rfl, (Below.refl _ _).alloc (Nat.le_refl _) _⟩
  case round =>
    obtain ⟨k, N, A1, c1, hk, hNk, rfl, rfl, hN, ho, hb⟩ := hrel
    have HN := Lib.hid hN
    clear hN
    by_cases hlt : k < m
    · obtain ⟨b, off, x, rfl, hbs, hx, hcx⟩ := (h.below hb).at_ hlt
      rw [ints_getD us k (by rw [HL.out]; exact hlt)] at hx
      injection hx with hx
      have hu8 := HUS.out k hlt
      have HIN : Hid (M.testBit (us.getD k 0) = true → prjS (us.take (k + 1)) M = prjS (us.take k) M ++ [us.getD k 0]) := Lib.hid (prjS_in us M k (by rw [HL.out]; exact hlt))
      have HOUT : Hid (M.testBit (us.getD k 0) = false → prjS (us.take (k + 1)) M = prjS (us.take k) M) := Lib.hid (prjS_out us M k (by rw [HL.out]; exact hlt))
      obtain ⟨X, hX⟩ : ∃ X, X = us.getD k 0 := ⟨_, rfl⟩
      rw [← hX] at hx hu8 HIN HOUT
      subst hx
      obtain ⟨t, ht⟩ : ∃ t, t = M.testBit X := ⟨_, rfl⟩
      rw [← ht] at HIN HOUT
      have HT : Hid (∀ ww : World, Calls Tryd.prog 125 #[.int .i64 (M : Int), .int .i64 (X : Int)] ww fun e w' => e = .returned (.bool t) ∧ ww = w') := Lib.hid fun ww => by rw [ht]; exact bit_any M X hM (by omega) ww
      clear hX ht
      cases t
      · have HO := Lib.hid (HOUT.out rfl)
        clear HOUT HIN
        go_wp2_with fail
        refine (HT.out _).mono ?_
        rintro e w' ⟨rfl, rfl⟩
        go_wp2_with fail
        go_roundw
        case rel => exact ⟨k + 1, N, A1, c1, hlt, by omega, rfl, by go_num, by rw [HO.out]; exact HN.out, by rw [HO.out]; exact ho, hb⟩
        case measure => simp [intOf]; omega
      · have HI := Lib.hid (HIN.out rfl)
        clear HOUT HIN
        have hml : N + 1 ≤ maxLen := by unfold maxLen; omega
        have hby2 : (N + 1) * 8 ≤ 140737488355328 := by omega
        go_wp2_with fail
        refine (HT.out _).mono ?_
        rintro e w' ⟨rfl, rfl⟩
        go_wp2_with (at_builtin; refine wpList_append_own _ rfl _ _ 22 rfl w.heap.size 2 i0 (.int .i64 0) 1 8 Tryd.underlying22 hi hz0 hz1 hz2 rfl (by decide) (.slice A1 N c1) N ((ints (prjS (us.take k) M)).map (Value.int .i64)) rfl (World.ownsRow.alloc ho _) ⟨wr.heap.size, 0, none⟩ 1 1 [.int .i64 (X : Int)] rfl rfl ?c1 ?c2 hml hby2 ?c5 ?_)
        case c1 => exact cell_one_new _ _ _
        case c2 => intro u hu; simp at hu; subst hu; rfl
        case c5 => have := hb.size; simp; omega
        intro v' w2 hown hg _
        rw [ints_snoc_map, ← HI.out] at hown
        have hb2 : Below w.heap.size w w2 := (hb.alloc hb.size _).grown hg (by have := hb.size; simp; omega) (fun r hr => (World.ownsRow.lt ho r hr).1)
        obtain ⟨A2, c2, hv, ho2⟩ := own_shape hown
        rw [hv]
        clear hg hown hv ho hb
        go_wp2_with fail
        go_roundw
        case rel => exact ⟨k + 1, N + 1, A2, c2, hlt, by omega, rfl, by go_num, by rw [HI.out, List.length_append, ← HN.out]; rfl, ho2, hb2⟩
        case measure => simp [intOf]; omega
    · have hkm : k = m := by omega
      subst hkm
      have HTK : Hid (us.take k = us) := Lib.hid (List.take_of_length_le (by rw [HL.out]; exact Nat.le_refl _))
      go_wp2_with fail
      go_ret
      rw [HTK.out] at HN ho
      obtain rfl := HN.out
      exact ⟨A1, c1, rfl, ho, hb⟩
end Go.Proofs.YtcojodkcpemfdaaDoor
namespace Go.Proofs.YtcojodkcpemfdaaDoor
open Go.RowKit
set_option linter.unusedVariables false
set_option linter.unusedSimpArgs false
set_option maxRecDepth 100000

/-- A row of slices of the call's own: address, capacity and numbers of each. -/
def valsT (ts : List (Option Addr × Nat × List Int)) : List Value := ts.map fun t => Value.slice t.1 t.2.2.length t.2.1
def OwnT (w : World) (lo hi : Nat) (A : Option Addr) (n c : Nat) (ts : List (Option Addr × Nat × List Int)) : Prop :=
  ts.length = n ∧ w.ownsRow lo 22 1 (.slice A n c) n (valsT ts) ∧ (∀ q, A.map (·.block) = some q → q < hi) ∧
  ∀ (j : Nat) (t : Option Addr × Nat × List Int), ts[j]? = some t → Own 2 w lo t.1 t.2.2.length t.2.1 t.2.2 ∧ ∀ q, t.1.map (·.block) = some q → q < hi ∧ A.map (·.block) ≠ some q ∧ ∀ (l : Nat) (u : Option Addr × Nat × List Int), l ≠ j → ts[l]? = some u → u.1.map (·.block) ≠ some q
def OwnSS (w : World) (lo hi : Nat) (A : Option Addr) (n c : Nat) (xss : List (List Int)) : Prop := ∃ ts, ts.map (fun t => t.2.2) = xss ∧ OwnT w lo hi A n c ts
theorem row_block {w : World} {lo n c : Nat} {E : TypeId} {A : Option Addr} {vs : List Value} (h : w.ownsRow lo E 1 (.slice A n c) n vs) (q : Nat) (hq : A.map (·.block) = some q) : lo ≤ q ∧ q < w.heap.size := by
  refine World.ownsRow.lt h q ?_
  cases A with
  | none => cases hq
  | some a => simpa [Value.ownBlock] using hq
theorem row_kept {w w' : World} {lo n c : Nat} {E : TypeId} {A : Option Addr} {vs : List Value} (h : w.ownsRow lo E 1 (.slice A n c) n vs) {row : Option Nat} (hg : w.grownBy w' row) (hne : ∀ q, A.map (·.block) = some q → row ≠ some q) : w'.ownsRow lo E 1 (.slice A n c) n vs := by
  refine World.ownsRow.kept h hg ?_
  cases A with
  | none => exact .inl rfl
  | some a =>
    refine .inr ?_
    intro e
    exact hne a.block rfl (by simpa [Value.ownBlock] using e.symm)
theorem OwnT.lt {w : World} {lo hi n c : Nat} {A : Option Addr} {ts : List (Option Addr × Nat × List Int)} (h : OwnT w lo hi A n c ts) (q : Nat) (hq : A.map (·.block) = some q) : lo ≤ q ∧ q < hi := ⟨(row_block h.2.1 q hq).1, h.2.2.1 q hq⟩
theorem OwnT.apart {w w' : World} {lo hi n c : Nat} {A : Option Addr} {ts : List (Option Addr × Nat × List Int)} (h : OwnT w lo hi A n c ts) {row : Option Nat} (hg : w.grownBy w' row) (hne : ∀ r, row = some r → r < lo ∨ hi ≤ r) : OwnT w' lo hi A n c ts := by
  refine ⟨h.1, row_kept h.2.1 hg (fun q hq e => ?_), h.2.2.1, fun j t ht => ⟨((h.2.2.2 j t ht).1).apart hg (fun q hq e => ?_), (h.2.2.2 j t ht).2⟩⟩
  · have h1 := h.lt q hq
    rcases hne q e with h2 | h2 <;> omega
  · have h1 := ((h.2.2.2 j t ht).1).lt q hq
    have h3 := ((h.2.2.2 j t ht).2 q hq).1
    rcases hne q e with h2 | h2 <;> omega
theorem OwnSS.apart {w w' : World} {lo hi n c : Nat} {A : Option Addr} {xss : List (List Int)} (h : OwnSS w lo hi A n c xss) {row : Option Nat} (hg : w.grownBy w' row) (hne : ∀ r, row = some r → r < lo ∨ hi ≤ r) : OwnSS w' lo hi A n c xss := by
  obtain ⟨ts, e, ho⟩ := h
  exact ⟨ts, e, ho.apart hg hne⟩
theorem OwnSS.below {w w' : World} {lo hi n c : Nat} {A : Option Addr} {xss : List (List Int)} (h : OwnSS w lo hi A n c xss) (hb : Below w.heap.size w w') : OwnSS w' lo hi A n c xss :=
  h.apart (grownBy_of_below hb) (fun r e => by cases e)
theorem OwnSS.len {w : World} {lo hi n c : Nat} {A : Option Addr} {xss : List (List Int)} (h : OwnSS w lo hi A n c xss) : xss.length = n := by
  obtain ⟨ts, e, ho⟩ := h
  rw [← e, List.length_map]; exact ho.1
/-- What a row of slices reads as. -/
def RdSS (w : World) (A : Option Addr) (n : Nat) (xss : List (List Int)) : Prop := ∃ ts, ts.map (fun t => t.2.2.2) = xss ∧ RdT w A n ts
theorem RdSS.below {w w' : World} {A : Option Addr} {n : Nat} {xss : List (List Int)} (h : RdSS w A n xss) (hb : Below w.heap.size w w') : RdSS w' A n xss := by
  obtain ⟨ts, e, ho⟩ := h
  exact ⟨ts, e, ho.below hb⟩
theorem OwnT.rdT {w : World} {lo hi n c : Nat} {A : Option Addr} {ts : List (Option Addr × Nat × List Int)} (h : OwnT w lo hi A n c ts) (hs : ∀ t, t ∈ ts → t.2.2.length ≤ maxLen) : RdT w A n (ts.map fun t => (t.1, t.2.2.length, t.2.1, t.2.2)) := by
  refine ⟨by rw [List.length_map]; exact h.1, fun t ht => ?_, fun hn => ?_⟩
  · obtain ⟨u, hu, rfl⟩ := List.mem_map.1 ht
    obtain ⟨j, hj⟩ := List.mem_iff_getElem?.1 hu
    exact ⟨(h.2.2.2 j u hj).1.rd, hs u hu⟩
  · obtain ⟨g, cap, hv, hbg, hlt⟩ := World.ownsRow.form h.2.1 hn
    have hA : A = some ⟨g, 0, none⟩ := by injection hv
    subst hA
    refine ⟨g, 0, rfl, hlt, fun j t ht => ?_⟩
    rw [List.getElem?_map] at ht
    cases hu : ts[j]? with
    | none => rw [hu] at ht; cases ht
    | some u =>
      rw [hu] at ht
      injection ht with ht
      subst ht
      have := World.ownsRow.cells h.2.1 (g := g) rfl j (Value.slice u.1 u.2.2.length u.2.1) (by unfold valsT; rw [List.getElem?_map, hu]; rfl)
      rw [add_zero_off] at this
      rw [Nat.zero_add]; exact this
theorem OwnSS.rd {w : World} {lo hi n c : Nat} {A : Option Addr} {xss : List (List Int)} (h : OwnSS w lo hi A n c xss) (hs : ∀ xs, xs ∈ xss → xs.length ≤ maxLen) : RdSS w A n xss := by
  obtain ⟨ts, e, ho⟩ := h
  refine ⟨_, ?_, ho.rdT (fun t ht => hs _ (by rw [← e]; exact List.mem_map_of_mem ht))⟩
  rw [List.map_map, ← e]; rfl
/-- An element's numbers are turned in place. -/
theorem OwnT.set_ {w w' : World} {lo hi n c j : Nat} {A : Option Addr} {ts : List (Option Addr × Nat × List Int)} {t : Option Addr × Nat × List Int} {ys : List Int} (h : OwnT w lo hi A n c ts) (ht : ts[j]? = some t) (hl : ys.length = t.2.2.length) (ho : Own 2 w' lo t.1 ys.length t.2.1 ys) (hg : w.grownBy w' (t.1.map (·.block))) : OwnT w' lo hi A n c (ts.set j (t.1, t.2.1, ys)) := by
  have hj : j < ts.length := by
    rcases Nat.lt_or_ge j ts.length with h9 | h9
    · exact h9
    · rw [List.getElem?_eq_none h9] at ht; cases ht
  have hv : valsT (ts.set j (t.1, t.2.1, ys)) = valsT ts := by
    unfold valsT
    refine List.ext_getElem? fun k => ?_
    rw [List.getElem?_map, List.getElem?_map, List.getElem?_set]
    by_cases e : j = k
    · subst e
      rw [if_pos rfl, if_pos hj, ht]
      show some (Value.slice t.1 ys.length t.2.1) = _
      rw [hl]; rfl
    · rw [if_neg e]
  have ht2 := (h.2.2.2 j t ht).2
  refine ⟨by rw [List.length_set]; exact h.1, ?_, h.2.2.1, fun k u hu => ?_⟩
  · rw [hv]
    exact row_kept h.2.1 hg (fun q hq e => (ht2 q e).2.1 hq)
  · rw [List.getElem?_set] at hu
    by_cases e : j = k
    · subst e
      rw [if_pos rfl, if_pos hj] at hu
      injection hu with hu
      subst hu
      refine ⟨ho, fun q hq => ⟨(ht2 q hq).1, (ht2 q hq).2.1, fun l v hlj hv9 => ?_⟩⟩
      rw [List.getElem?_set, if_neg (fun e => hlj e.symm)] at hv9
      exact (ht2 q hq).2.2 l v hlj hv9
    · rw [if_neg e] at hu
      have h9 := h.2.2.2 k u hu
      refine ⟨h9.1.apart hg (fun q hq e9 => (ht2 q e9).2.2 k u (fun e2 => e e2.symm) hu hq), fun q hq => ⟨(h9.2 q hq).1, (h9.2 q hq).2.1, fun l v hlk hv9 => ?_⟩⟩
      rw [List.getElem?_set] at hv9
      by_cases e2 : j = l
      · subst e2
        rw [if_pos rfl, if_pos hj] at hv9
        injection hv9 with hv9
        subst hv9
        exact (h9.2 q hq).2.2 j t hlk ht
      · rw [if_neg e2] at hv9
        exact (h9.2 q hq).2.2 l v hlk hv9
/-- The marks that the laws put into a row of slices. -/
def marksSS (k : Nat) : List (List Int) → List (List Int)
  | [] => []
  | xs :: r => marks k xs.length :: marksSS (k + xs.length) r
def sumL (xss : List (List Int)) : Nat := (xss.map List.length).sum
theorem marksSS_len (k : Nat) (xss : List (List Int)) : (marksSS k xss).length = xss.length := by
  induction xss generalizing k with
  | nil => rfl
  | cons x r ih => show (marksSS _ r).length + 1 = _; rw [ih]; rfl
theorem sumL_take (xss : List (List Int)) (j : Nat) (xs : List Int) (h : xss[j]? = some xs) : sumL (xss.take (j + 1)) = sumL (xss.take j) + xs.length := by
  unfold sumL
  rw [List.take_add_one, h, List.map_append, List.sum_append]; simp
theorem sumL_le (xss : List (List Int)) (j : Nat) : sumL (xss.take j) ≤ sumL xss := by
  have e := List.take_append_drop j xss
  have : sumL xss = sumL (xss.take j) + sumL (xss.drop j) := by
    unfold sumL
    rw [← List.sum_append, ← List.map_append, e]
  omega
theorem marksSS_at (k : Nat) (xss : List (List Int)) (j : Nat) (xs : List Int) (h : xss[j]? = some xs) : (marksSS k xss)[j]? = some (marks (k + sumL (xss.take j)) xs.length) := by
  induction xss generalizing k j with
  | nil => cases h
  | cons x r ih =>
    cases j with
    | zero =>
      injection h with h
      subst h
      show some _ = _
      simp [sumL]
    | succ j =>
      have := ih (k + x.length) j h
      show (marksSS (k + x.length) r)[j]? = _
      rw [this]
      have e : sumL ((x :: r).take (j + 1)) = x.length + sumL (r.take j) := by simp [sumL]
      rw [e, Nat.add_assoc]
theorem len_sumL (xss : List (List Int)) (xs : List Int) (h : xs ∈ xss) : xs.length ≤ sumL xss := by
  obtain ⟨j, hj⟩ := List.mem_iff_getElem?.1 h
  have h1 := sumL_take xss j xs hj
  have h2 := sumL_le xss (j + 1)
  omega
/-- Nothing has been turned but blocks from lo on, ahead of hi. -/
structure Touched (lo hi : Nat) (w w' : World) : Prop where
  os : w'.os = w.os
  tape : w'.tape = w.tape
  output : w'.output = w.output
  size : w.heap.size ≤ w'.heap.size
  block : ∀ k, k < w.heap.size → (k < lo ∨ hi ≤ k) → w'.heap[k]? = w.heap[k]?
theorem Touched.refl (lo hi : Nat) (w : World) : Touched lo hi w w := ⟨rfl, rfl, rfl, Nat.le_refl _, fun _ _ _ => rfl⟩
theorem Touched.grown {lo hi : Nat} {w w1 w' : World} {row : Option Nat} (h : Touched lo hi w w1) (hg : w1.grownBy w' row) (hr : ∀ r, row = some r → lo ≤ r ∧ r < hi) : Touched lo hi w w' :=
  ⟨hg.os.trans h.os, hg.tape.trans h.tape, hg.output.trans h.output, Nat.le_trans h.size hg.size, fun k hk hne => by
    rw [hg.block k (Nat.lt_of_lt_of_le hk h.size) (fun e => by have := hr k e.symm; omega)]
    exact h.block k hk hne⟩
set_option maxHeartbeats 1600000 in
theorem eqSS_true (A B : Option Addr) (n c d : Nat) (xss : List (List Int)) (w : World) (h : RdSS w A n xss) (h2 : RdSS w B n xss) (hn : n ≤ 9223372036854775807) :
    Calls Tryd.prog 22 #[.slice A n c, .slice B n d] w fun e w' => e = .returned (.bool true) ∧ Below w.heap.size w w' := by
  obtain ⟨ts, e1, ht⟩ := h
  obtain ⟨us, e2, hu⟩ := h2
  have HE : Hid (ts.map (fun t => t.2.2.2) = us.map (fun t => t.2.2.2)) := Lib.hid (e1.trans e2.symm)
  clear e1 e2
  go_enter Tryd.func22, Tryd.ntmps22
  go_wp2
  go_loopw [5] (fun i wr => ∃ k : Nat, k ≤ n ∧ i = .int .i64 k ∧ Below w.heap.size w wr) (fun i _ => n - (intOf i).toNat)
  case atStart => exact ⟨0, Nat.zero_le _, rfl, Below.refl _ _⟩
  case round =>
    obtain ⟨k, hk, rfl, hb⟩ := hrel
    by_cases hlt : k < n
    · obtain ⟨b, off, C, q, c1, xs, rfl, hbs, hx, hcx, hrd, hq⟩ := (ht.below hb).at_ hlt
      obtain ⟨b2, off2, C2, q2, c2, ys, rfl, hbs2, hx2, hcx2, hrd2, hq2⟩ := (hu.below hb).at_ hlt
      have e9 : xs = ys := by
        have := congrArg (fun l => l[k]?) HE.out
        simp only [List.getElem?_map, hx, hx2] at this
        injection this
      subst e9
      have e8 : q2 = q := hrd2.1.symm.trans hrd.1
      subst e8
      have hq3 : q2 ≤ 9223372036854775807 := by unfold maxLen at hq; omega
      have hdw : Below wr.heap.size wr wr.drew := (Below.refl _ _).drew
      clear hx hx2
      go_wp2_with fail
      go_still_tail 8, (by kernel_rfl)
      change wpList _ _ _ _ _ wr.drew
      go_wp2_with fail
      refine (eq_true _ _ _ _ _ xs _ (hrd.below hdw) (hrd2.below hdw) hq3).mono ?_
      rintro e w4 ⟨rfl, hb4⟩
      have hb5 := hb.trans ((hdw.trans (hb4.mono hdw.size)).mono hb.size)
      go_wp2_with fail
      go_roundw
      case rel => exact ⟨k + 1, by omega, by go_num, hb5⟩
      case measure => simp [intOf]; omega
    · obtain rfl : k = n := by omega
      go_wp2_with fail
      go_ret
      exact ⟨rfl, hb⟩
set_option maxHeartbeats 1600000 in
theorem markSS_any (lo hi : Nat) (A : Option Addr) (n c k0 : Nat) (xss : List (List Int)) (w : World) (h : OwnSS w lo hi A n c xss) (hs : sumL xss ≤ 1048576) (hn : n ≤ 1048576) (hk : k0 ≤ 1048576) :
    Calls Tryd.prog 28 #[.slice A n c, .int .i64 (k0 : Int)] w fun e w' => e = .returned (.int .i64 ((k0 + sumL xss : Nat) : Int)) ∧ OwnSS w' lo hi A n c (marksSS k0 xss) ∧ Touched lo hi w w' := by
  obtain ⟨ts0, e0, h0⟩ := h
  have hlen : xss.length = n := by rw [← e0, List.length_map]; exact h0.1
  have HL := Lib.hid hlen
  have HS : Hid (∀ xs, xs ∈ xss → xs.length ≤ 1048576) := Lib.hid (fun xs hx => Nat.le_trans (len_sumL xss xs hx) hs)
  have HE0 := Lib.hid e0
  clear hlen e0
  go_enter Tryd.func28, Tryd.ntmps28
  go_wp2
  go_loopw [1, 5] (fun q i wr => ∃ (t : Nat) (ts : List (Option Addr × Nat × List Int)), t ≤ n ∧ i = .int .i64 t ∧ q = .int .i64 ((k0 + sumL (xss.take t) : Nat) : Int) ∧ ts.map (fun t => t.2.2) = (marksSS k0 xss).take t ++ xss.drop t ∧ OwnT wr lo hi A n c ts ∧ Touched lo hi w wr) (fun _ i _ => n - (intOf i).toNat)
  case atStart => exact ⟨0, ts0, Nat.zero_le _, rfl, rfl, by rw [HE0.out]; rfl, h0, Touched.refl _ _ _⟩
  case round =>
    obtain ⟨t, ts, hle, rfl, rfl, he, ho, htt⟩ := hrel
    have HE := Lib.hid he
    clear he
    by_cases hlt : t < n
    · obtain ⟨ys, hys⟩ : ∃ ys, xss[t]? = some ys := ⟨_, List.getElem?_eq_getElem (by rw [HL.out]; exact hlt)⟩
      obtain ⟨u, hu⟩ : ∃ u, ts[t]? = some u := ⟨_, List.getElem?_eq_getElem (by rw [ho.1]; exact hlt)⟩
      have huy : u.2.2 = ys := by
        have h9 := congrArg (fun l => l[t]?) HE.out
        simp only [List.getElem?_map, hu] at h9
        rw [List.getElem?_append_right (by rw [List.length_take, marksSS_len, HL.out]; omega)] at h9
        rw [List.length_take, marksSS_len, HL.out, Nat.min_eq_left hle, Nat.sub_self, List.getElem?_drop, Nat.add_zero, hys] at h9
        injection h9
      have hou := (ho.2.2.2 t u hu).1
      have hub := (ho.2.2.2 t u hu).2
      have hsm := HS.out ys (List.mem_of_getElem? hys)
      have h2 := sumL_take xss t ys hys
      have h3 := sumL_le xss (t + 1)
      obtain ⟨g, cap, hv, hbg, hlt2⟩ := World.ownsRow.form ho.2.1 (by omega : 0 < n)
      have hA : A = some ⟨g, 0, none⟩ := by injection hv
      have hcx := World.ownsRow.cells ho.2.1 (g := g) (by rw [hA]; rfl) t (Value.slice u.1 u.2.2.length u.2.1) (by unfold valsT; rw [List.getElem?_map, hu]; rfl)
      rw [add_zero_off] at hcx
      subst hA
      rw [huy] at hou hcx
      obtain ⟨K, hK⟩ : ∃ K, K = k0 + sumL (xss.take t) := ⟨_, rfl⟩
      have HN : Hid (k0 + sumL (xss.take (t + 1)) = K + ys.length) := Lib.hid (by rw [hK, h2]; omega)
      have hKb : K ≤ 1073741824 := by omega
      have hmark := mark_any 2 lo u.1 ys.length u.2.1 K ys wr hou hsm hKb
      have hmat := marksSS_at k0 xss t ys hys
      rw [← hK] at hmat ⊢
      have HMAT := Lib.hid hmat
      have HU := Lib.hid hu
      have HUY := Lib.hid huy
      have HYS := Lib.hid hys
      obtain ⟨Q, hQ⟩ : ∃ Q, Q = ys.length := ⟨_, rfl⟩
      have HQ := Lib.hid hQ
      rw [← hQ] at hcx hmark HN
      have hQb : Q ≤ 1048576 := by omega
      obtain ⟨U, cu, us⟩ := u
      have hcx' : wr.cell? ⟨g, t, none⟩ = some (.slice U Q cu) := hcx
      have HUB := Lib.hid hub
      clear hys hu h2 h3 hK hQ hmat huy hou hub hsm hv hcx
      go_wp2_with fail
      refine hmark.mono ?_
      rintro e w4 ⟨rfl, hom, hgm⟩
      have HSET : Hid (OwnT w4 lo hi (some ⟨g, 0, none⟩) n c (ts.set t (U, cu, marks K Q))) := Lib.hid (ho.set_ HU.out (by rw [marks_len, HQ.out]; exact congrArg List.length HUY.out.symm) (by rw [marks_len]; exact hom) hgm)
      have htt2 := htt.grown hgm (fun r hr => ⟨((ho.2.2.2 t _ HU.out).1.lt r hr).1, (HUB.out r hr).1⟩)
      clear ho hom hgm htt hmark
      go_wp2_with fail
      go_roundw
      case rel => exact ⟨t + 1, ts.set t (U, cu, marks K Q), by omega, by go_num, by rw [HN.out, Int.natCast_add], by
        rw [List.map_set, HE.out]
        show (List.take t (marksSS k0 xss) ++ List.drop t xss).set t (marks K Q) = _
        have hl1 : (List.take t (marksSS k0 xss)).length = t := by rw [List.length_take, marksSS_len, HL.out]; omega
        rw [List.set_append, if_neg (by omega), hl1, Nat.sub_self]
        have hd1 : List.drop t xss = (xss[t]'(by rw [HL.out]; exact hlt)) :: List.drop (t + 1) xss := List.drop_eq_getElem_cons _
        rw [hd1, List.set_cons_zero, List.take_add_one, HMAT.out, ← HQ.out]
        simp, HSET.out, htt2⟩
      case measure => simp [intOf]; omega
    · obtain rfl : t = n := by omega
      have e9 : xss.take t = xss := List.take_of_length_le (by rw [HL.out]; exact Nat.le_refl _)
      rw [e9]
      clear e9
      go_wp2_with fail
      go_ret
      refine ⟨rfl, ⟨ts, ?_, ho⟩, htt⟩
      rw [HE.out, List.drop_of_length_le (by rw [HL.out]; exact Nat.le_refl _), List.append_nil, List.take_of_length_le (by rw [marksSS_len, HL.out]; exact Nat.le_refl _)]
set_option maxHeartbeats 1600000 in
theorem heldSS_any (A : Option Addr) (n c k0 : Nat) (xss : List (List Int)) (w : World) (h : RdSS w A n (marksSS k0 xss)) (hs : sumL xss ≤ 1048576) (hl : xss.length = n) (hn : n ≤ 1048576) (hk : k0 ≤ 1048576) :
    Calls Tryd.prog 35 #[.slice A n c, .int .i64 (k0 : Int)] w fun e w' => e = .returned (.int .i64 ((k0 + sumL xss : Nat) : Int)) ∧ w = w' := by
  obtain ⟨ts, e1, ht⟩ := h
  have HE := Lib.hid e1
  have HL := Lib.hid hl
  clear e1 hl
  go_enter Tryd.func35, Tryd.ntmps35
  go_wp2
  go_loop [1, 5] (fun q i => ∃ t : Nat, t ≤ n ∧ i = .int .i64 t ∧ q = .int .i64 ((k0 + sumL (xss.take t) : Nat) : Int)) (fun _ i => n - (intOf i).toNat)
  case atStart => exact ⟨0, Nat.zero_le _, rfl, rfl⟩
  case round =>
    obtain ⟨t, hle, rfl, rfl⟩ := hrel
    by_cases hlt : t < n
    · obtain ⟨b, off, C, q, c1, xs, rfl, hbs, hx, hcx, hrd, hq⟩ := ht.at_ hlt
      obtain ⟨ys, hys⟩ : ∃ ys, xss[t]? = some ys := ⟨_, List.getElem?_eq_getElem (by rw [HL.out]; exact hlt)⟩
      have h1 := marksSS_at k0 xss t ys hys
      rw [← HE.out, List.getElem?_map, hx] at h1
      injection h1 with h1
      have h1' : xs = marks (k0 + sumL (xss.take t)) ys.length := h1
      subst h1'
      have hq1 : q = ys.length := by have := hrd.1; rw [marks_len] at this; exact this.symm
      subst hq1
      have h2 := sumL_take xss t ys hys
      have h3 := sumL_le xss (t + 1)
      obtain ⟨K, hK⟩ : ∃ K, K = k0 + sumL (xss.take t) := ⟨_, rfl⟩
      have HN : Hid (k0 + sumL (xss.take (t + 1)) = K + ys.length) := Lib.hid (by rw [hK, h2]; omega)
      have hKb : K ≤ 1073741824 := by omega
      have hyl : ys.length ≤ 1048576 := by omega
      rw [← hK] at hrd ⊢
      have hheld := held_any C ys.length c1 K w hrd hyl hKb
      obtain ⟨Q, hQ⟩ : ∃ Q, Q = ys.length := ⟨_, rfl⟩
      rw [← hQ] at hcx hheld HN hyl
      have hge : decide (((K + Q : Nat) : Int) < 0) = false := decide_eq_false (by omega)
      have hge2 : decide ((K : Int) + (Q : Int) < 0) = false := decide_eq_false (by omega)
      clear hx hys h1 h2 h3 hK hQ hrd
      go_wp2_with fail
      refine hheld.mono ?_
      rintro e w' ⟨rfl, rfl⟩
      go_wp2_with fail
      go_round
      case rel => exact ⟨t + 1, by omega, by go_num, by rw [HN.out, Int.natCast_add]⟩
      case measure => simp [intOf]; omega
    · obtain rfl : t = n := by omega
      have e9 : xss.take t = xss := List.take_of_length_le (by rw [HL.out]; exact Nat.le_refl _)
      rw [e9]
      clear e9
      go_wp2_with fail
      go_ret
      exact ⟨rfl, rfl⟩
end Go.Proofs.YtcojodkcpemfdaaDoor
namespace Go.Proofs.YtcojodkcpemfdaaDoor
open Go Go.RowKit
set_option linter.unusedVariables false
set_option maxRecDepth 100000

/-- What a function that answers a list of lists and a code leaves. -/
def LssPost (w : World) (VN : Nat) (VX : List (List Int)) (C : Int) (e : Ending) (w' : World) : Prop :=
  ∃ A c, e = .returned (.tuple #[.slice A VN c, .int .i64 C]) ∧ OwnSS w' w.heap.size w'.heap.size A VN c VX ∧ Below w.heap.size w w'
section
variable {w w' : World} {lo hi : Nat}
theorem Touched.under {w0 : World} (ht : Touched lo hi w w') (hb : Below w0.heap.size w0 w) (hl : w0.heap.size ≤ lo) : Below w0.heap.size w0 w' :=
  ⟨ht.os.trans hb.os, ht.tape.trans hb.tape, ht.output.trans hb.output, Nat.le_trans hb.size ht.size, fun k hk => (ht.block k (Nat.lt_of_lt_of_le hk hb.size) (.inl (Nat.lt_of_lt_of_le hk hl))).trans (hb.block k hk)⟩
theorem Box.touched {T : TypeId} {g : Nat} {L : Int} {A : Option Addr} {n c : Nat} (h : Box T w g L A n c) (ht : Touched lo hi w w') (hne : g < lo ∨ hi ≤ g) : Box T w' g L A n c := by
  unfold Box; rw [ht.block g h.lt hne]; exact h
theorem row_touched {b n c : Nat} {E : TypeId} {A : Option Addr} {vs : List Value} (h : w.ownsRow b E 1 (.slice A n c) n vs) (ht : Touched lo hi w w') (hne : ∀ q, A.map (·.block) = some q → q < lo ∨ hi ≤ q) : w'.ownsRow b E 1 (.slice A n c) n vs := by
  refine ⟨h.1, ?_⟩
  rcases h.2 with h0 | ⟨g, cap, cur, e, hb, hg, rest⟩
  · exact .inl h0
  · have hA : A = some ⟨g, 0, none⟩ := by injection e
    have hq : A.map (·.block) = some g := by rw [hA]; rfl
    refine .inr ⟨g, cap, cur, e, hb, ?_, rest⟩
    rw [ht.block g (row_block h g hq).2 (hne g hq)]; exact hg
theorem OwnSS.touched {l u n c : Nat} {A : Option Addr} {xss : List (List Int)} (h : OwnSS w l u A n c xss) (ht : Touched lo hi w w') (hne : u ≤ lo ∨ hi ≤ l) : OwnSS w' l u A n c xss := by
  obtain ⟨ts, e, ho⟩ := h
  refine ⟨ts, e, ho.1, row_touched ho.2.1 ht (fun q hq => ?_), ho.2.2.1, fun j t hj => ⟨row_touched (ho.2.2.2 j t hj).1 ht (fun q hq => ?_), (ho.2.2.2 j t hj).2⟩⟩
  · have h1 := ho.lt q hq
    rcases hne with h2 | h2
    · left; omega
    · right; omega
  · have h1 := ((ho.2.2.2 j t hj).1).lt q hq
    have h3 := ((ho.2.2.2 j t hj).2 q hq).1
    rcases hne with h2 | h2
    · left; omega
    · right; omega
theorem OwnSS.wide {l u l' u' n c : Nat} {A : Option Addr} {xss : List (List Int)} (h : OwnSS w l u A n c xss) (h1 : l' ≤ l) (h2 : u ≤ u') : OwnSS w l' u' A n c xss := by
  obtain ⟨ts, e, ho⟩ := h
  refine ⟨ts, e, ho.1, ?_, fun q hq => Nat.lt_of_lt_of_le (ho.2.2.1 q hq) h2, fun j t hj => ⟨((ho.2.2.2 j t hj).1).mono h1, fun q hq => ⟨Nat.lt_of_lt_of_le ((ho.2.2.2 j t hj).2 q hq).1 h2, ((ho.2.2.2 j t hj).2 q hq).2⟩⟩⟩
  refine ⟨ho.2.1.1, ?_⟩
  rcases ho.2.1.2 with h0 | ⟨g, cap, cur, e, hg, rest⟩
  · exact .inl h0
  · exact .inr ⟨g, cap, cur, e, by omega, rest⟩
theorem OwnSS.nil (l u : Nat) : OwnSS w l u none 0 0 [] :=
  ⟨[], rfl, rfl, World.ownsRow_nil w l _ _, fun q hq => (by cases hq), fun j t hj => (by cases hj)⟩
end
theorem small_of {VX : List (List Int)} {SV : Nat} (h : sumL VX = SV) (hs : SV ≤ 1048576) : ∀ xs, xs ∈ VX → xs.length ≤ maxLen := fun xs hx => by
  have := len_sumL VX xs hx
  unfold maxLen; omega
theorem marksSS_mem : ∀ (VX : List (List Int)) (k : Nat) (ys : List Int), ys ∈ marksSS k VX → ∃ xs, xs ∈ VX ∧ ys.length = xs.length
  | [], _, _, h => by cases h
  | x :: r, k, ys, h => by
    rcases List.mem_cons.1 h with h | h
    · exact ⟨x, List.mem_cons_self, by rw [h, marks_len]⟩
    · obtain ⟨xs, h1, h2⟩ := marksSS_mem r _ ys h
      exact ⟨xs, List.mem_cons_of_mem _ h1, h2⟩
theorem small_marks {VX : List (List Int)} {SV : Nat} (h : sumL VX = SV) (hs : SV ≤ 1048576) : ∀ xs, xs ∈ marksSS 1 VX → xs.length ≤ maxLen := fun ys hy => by
  obtain ⟨xs, h1, h2⟩ := marksSS_mem VX 1 ys hy
  rw [h2]; exact small_of h hs xs h1
theorem markSS_one (lo hi : Nat) (A : Option Addr) (n c : Nat) (xss : List (List Int)) (w : World) (h : OwnSS w lo hi A n c xss) {SV : Nat} (hv : sumL xss = SV) (hs : SV ≤ 1048576) (hn : n ≤ 1048576) :
    Calls Tryd.prog 28 #[.slice A n c, .int .i64 1] w fun e w' => e = .returned (.int .i64 ((1 + SV : Nat) : Int)) ∧ OwnSS w' lo hi A n c (marksSS 1 xss) ∧ Touched lo hi w w' := by
  rw [← hv]
  exact markSS_any lo hi A n c 1 xss w h (by omega) hn (by omega)
theorem heldSS_one (A : Option Addr) (n c : Nat) (xss : List (List Int)) (w : World) (h : RdSS w A n (marksSS 1 xss)) {SV : Nat} (hv : sumL xss = SV) (hs : SV ≤ 1048576) (hn : n ≤ 1048576) :
    Calls Tryd.prog 35 #[.slice A n c, .int .i64 1] w fun e w' => e = .returned (.int .i64 ((1 + SV : Nat) : Int)) ∧ w = w' := by
  have hl : xss.length = n := by
    obtain ⟨ts, e, ht⟩ := h
    have := congrArg List.length e
    rw [List.length_map, ht.1, marksSS_len] at this
    exact this.symm
  rw [← hv]
  exact heldSS_any A n c 1 xss w h (by omega) hl hn (by omega)
end Go.Proofs.YtcojodkcpemfdaaDoor
namespace Go.Proofs.YtcojodkcpemfdaaDoor
open Go Go.RowKit
set_option linter.unusedVariables false
set_option maxRecDepth 100000

theorem info_sls : (Tryd.prog.info? 22).map (fun i => (i.zero, i.size, i.bytes)) = some (some (.slice none 0 0), 1, 24) := by kernel_rfl
/-- One more slice behind a row of slices: the element is new behind the row's elements; the row itself may have moved. -/
theorem OwnSS.snoc {w w1 w2 : World} {lo n N c : Nat} {A : Option Addr} {v' : Value} {At : Option Addr} {ct : Nat} {ys : List Int}
    {ts : List (Option Addr × Nat × List Int)} (h : OwnT w lo w.heap.size A n c ts) (hb : Below w.heap.size w w1) (ho : Own 2 w1 w.heap.size At N ct ys) (hlo : lo ≤ w.heap.size)
    (hrow : w2.ownsRow lo 22 1 v' (n + 1) (valsT ts ++ [.slice At N ct])) (hg : w1.grownBy w2 (A.map (·.block)))
    (hat : v'.ownBlock = A.map (·.block) ∨ ∃ g, v'.ownBlock = some g ∧ w1.heap.size ≤ g) :
    ∃ A' c', v' = .slice A' (n + 1) c' ∧ OwnSS w2 lo w2.heap.size A' (n + 1) c' (ts.map (fun t => t.2.2) ++ [ys]) := by
  obtain ⟨g9, c', rfl, _, _⟩ := World.ownsRow.form hrow (Nat.succ_pos n)
  obtain ⟨A', hA9⟩ : ∃ A', A' = some (⟨g9, 0, none⟩ : Addr) := ⟨_, rfl⟩
  rw [← hA9] at hrow hat ⊢
  have ht := h
  have hN : ys.length = N := ho.len
  have hsz : w.heap.size ≤ w1.heap.size := hb.size
  have hsz2 : w1.heap.size ≤ w2.heap.size := hg.size
  have hA : ∀ q, A.map (·.block) = some q → lo ≤ q ∧ q < w.heap.size := fun q hq => row_block ht.2.1 q hq
  have hAt : ∀ q, At.map (·.block) = some q → w.heap.size ≤ q ∧ q < w1.heap.size := fun q hq => ho.lt q hq
  have hA' : ∀ q, A'.map (·.block) = some q → A.map (·.block) = some q ∨ w1.heap.size ≤ q := fun q hq => by
    rw [own_block] at hat
    rcases hat with h9 | ⟨g, h9, h8⟩
    · exact .inl (h9 ▸ hq)
    · rw [hq] at h9; injection h9 with h9; exact .inr (by omega)
  refine ⟨A', c', rfl, ts ++ [(At, ct, ys)], by rw [List.map_append]; rfl, by rw [List.length_append, ht.1]; rfl, ?_, fun q hq => (row_block hrow q hq).2, fun j t hj => ?_⟩
  · have : valsT (ts ++ [(At, ct, ys)]) = valsT ts ++ [.slice At N ct] := by unfold valsT; rw [List.map_append, ← hN]; rfl
    rw [this]; exact hrow
  · rcases Nat.lt_or_ge j ts.length with hlt | hge
    · rw [List.getElem?_append_left hlt] at hj
      have h9 := ht.2.2.2 j t hj
      have hblk : ∀ q, t.1.map (·.block) = some q → q < w.heap.size := fun q hq => (h9.1.lt q hq).2
      refine ⟨(h9.1.below hb).apart hg (fun q hq e9 => (h9.2 q hq).2.1 e9), fun q hq => ⟨by have := hblk q hq; omega, fun e9 => ?_, fun l u hl hu => ?_⟩⟩
      · rcases hA' q e9 with h8 | h8
        · exact (h9.2 q hq).2.1 h8
        · have := hblk q hq; omega
      · rcases Nat.lt_or_ge l ts.length with hl2 | hl2
        · rw [List.getElem?_append_left hl2] at hu
          exact (h9.2 q hq).2.2 l u hl hu
        · rw [List.getElem?_append_right hl2] at hu
          cases hd : l - ts.length with
          | zero =>
            rw [hd] at hu
            injection hu with hu
            subst hu
            intro e8
            have := (hAt q e8).1; have := hblk q hq; omega
          | succ k => rw [hd] at hu; cases hu
    · rw [List.getElem?_append_right hge] at hj
      cases hd : j - ts.length with
      | zero =>
        rw [hd] at hj
        injection hj with hj
        subst hj
        have hjl : j = ts.length := by omega
        refine ⟨?_, fun q hq => ⟨by have := (hAt q hq).2; omega, fun e9 => ?_, fun l u hl hu e8 => ?_⟩⟩
        · show Own 2 w2 lo At ys.length ct ys
          rw [hN]
          exact (ho.mono hlo).apart hg (fun q hq e9 => by have := (hA q e9).2; have := (hAt q hq).1; omega)
        · have h7 := hAt q hq
          rcases hA' q e9 with h8 | h8
          · have := (hA q h8).2; omega
          · omega
        · rcases Nat.lt_or_ge l ts.length with hl2 | hl2
          · rw [List.getElem?_append_left hl2] at hu
            have := ((ht.2.2.2 l u hu).1.lt q e8).2
            have := (hAt q hq).1; omega
          · rw [List.getElem?_append_right hl2] at hu
            have : l - ts.length ≠ 0 := by omega
            cases hk : l - ts.length with
            | zero => exact this hk
            | succ k => rw [hk] at hu; cases hu
      | succ k => rw [hd] at hj; cases hj
def ppL (us ps : List Nat) : List (List Int) := ps.map fun p => ints (prjS us p)
theorem ppL_next (us ps : List Nat) (k p : Nat) (h : ps[k]? = some p) : ppL us (ps.take (k + 1)) = ppL us (ps.take k) ++ [ints (prjS us p)] := by
  unfold ppL; rw [List.take_add_one, h, List.map_append]; rfl
theorem ppL_len (us ps : List Nat) : (ppL us ps).length = ps.length := by unfold ppL; rw [List.length_map]
theorem ppL_sum (us : List Nat) : ∀ ps, sumL (ppL us ps) ≤ ps.length * us.length
  | [] => Nat.zero_le _
  | p :: r => by
    have e : sumL (ppL us (p :: r)) = (ints (prjS us p)).length + sumL (ppL us r) := by unfold sumL ppL; rw [List.map_cons, List.map_cons, List.sum_cons]
    rw [e, ints_len, List.length_cons, Nat.succ_mul]
    have := prjS_len us p; have := ppL_sum us r; omega
theorem pairsL_small (rs : List Nat) : ∀ k, k ≤ 24 → ∀ p, p ∈ pairsL rs k → p < 9223372036854775808
  | 0, _, p, h => by cases h
  | k + 1, hk, p, h => by
    rcases List.mem_append.1 h with h | h
    · exact pairsL_small rs k (by omega) p h
    · obtain ⟨b, hb, rfl⟩ := List.mem_map.1 h
      have hb24 := List.mem_range.1 (List.mem_filter.1 hb).1
      have h9 : pairOf k b < 2 ^ 63 := Nat.or_lt_two_pow (Nat.pow_lt_pow_right (by decide) (by omega)) (Nat.pow_lt_pow_right (by decide) (by omega))
      exact h9
set_option maxHeartbeats 3200000 in
theorem pairProjections_any (A : Option Addr) (n c : Nat) (rs : List Nat) (A1 : Option Addr) (m d : Nat) (vs : List Nat) (w : World) (h : Rd w A n (ints rs)) (hn : n ≤ 8) (hr : ∀ i, rs.getD i 0 < 2 ^ n) (h2 : Rd w A1 m (ints vs)) (hm : m ≤ 24) (hvs : ∀ p, p < m → vs.getD p 0 < 8) (hT : Tab w) :
    Calls Tryd.prog 116 #[.slice A n c, .slice A1 m d] w fun e w' => ∃ A' c', e = .returned (.slice A' (pairsL rs n).length c') ∧ OwnSS w' w.heap.size w'.heap.size A' (pairsL rs n).length c' (ppL vs (pairsL rs n)) ∧ Below w.heap.size w w' := by
  obtain ⟨i1, hi1, hy0, hy1, hy2⟩ := info_parts info_sls
  have HP := Lib.hid (pairs_any A n c rs w h hn hr hT)
  have hpl := pairsL_le rs n
  have HPB : Hid (∀ (k p : Nat), (pairsL rs n)[k]? = some p → p < 9223372036854775808) := Lib.hid fun k p hk => pairsL_small rs n (by omega) p (List.mem_of_getElem? hk)
  obtain ⟨ps, hps⟩ : ∃ ps, ps = pairsL rs n := ⟨_, rfl⟩
  rw [← hps] at HP HPB hpl ⊢
  obtain ⟨N, hN⟩ : ∃ N, N = ps.length := ⟨_, rfl⟩
  have HN := Lib.hid hN
  rw [← hN] at HP hpl ⊢
  clear hps hN
  go_enter Tryd.func116, Tryd.ntmps116
  go_wp2_with fail
  refine HP.out.mono ?_
  rintro e w2 ⟨A2, c2, rfl, hop, hbw⟩
  have hrd := hop.rd
  have hNb : N ≤ 192 := by omega
  have hby : ∀ k, k < N → (k + 1) * 24 ≤ 140737488355328 := fun k hk => by omega
  have HBY := Lib.hid hby
  have HB2 := Lib.hid hbw
  have h22 := h2.below hbw
  clear hop hby hbw h hpl
  go_wp2_with fail
  go_loopw [5, 11] (fun p q wr => ∃ (k : Nat) (A3 : Option Addr) (c3 : Nat), k ≤ N ∧ p = .slice A3 k c3 ∧ q = .int .i64 (k : Int) ∧ OwnSS wr w2.heap.size wr.heap.size A3 k c3 (ppL vs (ps.take k)) ∧ Below w2.heap.size w2 wr) (fun _ q _ => N - (intOf q).toNat)
  case atStart => exact ⟨0, none, 0, Nat.zero_le _, rfl, rfl, OwnSS.nil _ _, Below.refl _ _⟩
  case round =>
    skip
    obtain ⟨k, A3, c3, hk, rfl, rfl, hss, hb⟩ := hrel
    by_cases hlt : k < N
    · obtain ⟨b, off, x, rfl, hbs, hx, hcx⟩ := (hrd.below hb).at_ hlt
      have hma : ps[k]? = some (ps.getD k 0) := by rw [List.getD_eq_getElem?_getD, List.getElem?_eq_getElem (by rw [← HN.out]; exact hlt)]; rfl
      rw [ints_at hma] at hx
      injection hx with hx
      subst hx
      have HNX := Lib.hid (ppL_next vs ps k _ hma)
      have hP := HPB.out k _ hma
      obtain ⟨P, hPe⟩ : ∃ P, P = ps.getD k 0 := ⟨_, rfl⟩
      rw [← hPe] at hcx HNX hP
      have hpj := projection_any A1 m d P vs wr (h22.below hb) hm hP hvs
      obtain ⟨ys, hys⟩ : ∃ ys, ys = ints (prjS vs P) := ⟨_, rfl⟩
      rw [← hys] at hpj HNX
      obtain ⟨Y, hY⟩ : ∃ Y, Y = (prjS vs P).length := ⟨_, rfl⟩
      rw [← hY] at hpj
      obtain ⟨ts, hts, hot⟩ := hss
      have HTS := Lib.hid hts
      have hkb := HBY.out k hlt
      have hml : k + 1 ≤ maxLen := by unfold maxLen; omega
      clear hPe hys hY hma hts
      obtain ⟨wo, hwo⟩ : ∃ wo : World, wr = wo := ⟨_, rfl⟩
      rw [hwo] at hot hb hpj hcx hbs ⊢
      clear hwo
      have hdl : decide ((k : Int) < (N : Int)) = true := decide_eq_true (by omega)
      go_wp2_with fail
      refine hpj.mono ?_
      rintro e w3 ⟨At, ct, rfl, hel, hbe⟩
      have hrow3 := row_kept hot.2.1 (grownBy_of_below hbe) (fun q _ e => by cases e)
      have hrb : ∀ q, A3.map (·.block) = some q → w2.heap.size ≤ q := fun q hq => (row_block hot.2.1 q hq).1
      go_wp2_with (at_builtin; refine wpList_append_own_at _ rfl _ _ 25 rfl w2.heap.size 22 i1 (.slice none 0 0) 1 24 Tryd.underlying25 hi1 hy0 hy1 hy2 rfl (by decide) (.slice A3 k c3) k (valsT ts) rfl (World.ownsRow.alloc hrow3 _) ⟨w3.heap.size, 0, none⟩ 1 1 [.slice At Y ct] rfl rfl ?c1 ?c2 hml hkb ?c5 ?_)
      case c1 => exact cell_one_new _ _ _
      case c2 => intro u hu; simp at hu; subst hu; rfl
      case c5 => have := hb.size; have := hbe.size; simp; omega
      intro v' w4 hown hg _ hat
      have hbw3 := hb.trans (hbe.mono hb.size)
      have hb4 : Below w2.heap.size w2 w4 := (hbw3.alloc hbw3.size _).grown hg (by have := hbw3.size; simp; omega) (fun r hr => hrb r (by rw [own_block] at hr; exact hr))
      have hg3 := alloc_grown hg
      rw [own_block] at hg3 hat
      obtain ⟨A4, c4, hv, hss4⟩ := OwnSS.snoc hot hbe hel hb.size hown hg3 (hat.imp id fun h9 => ⟨_, h9, Nat.le_succ _⟩)
      rw [hv]
      rw [HTS.out, ← HNX.out] at hss4
      clear hown hg hv hot hb hbe hel hrow3 hg3 hat hbw3 hpj hcx
      go_wp2_with fail
      go_roundw
      case rel => exact ⟨k + 1, A4, c4, by omega, rfl, by go_num, hss4, hb4⟩
      case measure => simp [intOf]; omega
    · have hkm : k = N := by omega
      subst hkm
      have hdl : decide ((k : Int) < (k : Int)) = false := decide_eq_false (by omega)
      have HTK : Hid (ps.take k = ps) := Lib.hid (List.take_of_length_le (by rw [HN.out]; exact Nat.le_refl _))
      go_wp2_with fail
      go_ret
      rw [HTK.out] at hss
      exact ⟨A3, c3, rfl, hss.wide HB2.out.size (Nat.le_refl _), HB2.out.trans (hb.mono HB2.out.size)⟩
end Go.Proofs.YtcojodkcpemfdaaDoor
namespace Go.Proofs.YtcojodkcpemfdaaDoor
open Go.RowKit
set_option linter.unusedVariables false
set_option maxRecDepth 100000

/-- The slice value '.slice A n _' reads as the bytes bs. -/
def RdB (w : World) (A : Option Addr) (n : Nat) (bs : List Int) : Prop :=
  bs.length = n ∧ (0 < n → ∃ b off, A = some ⟨b, off, none⟩ ∧ b < w.heap.size ∧ ∀ j x, bs[j]? = some x → w.cell? ⟨b, off + j, none⟩ = some (.int .u8 x))
def WfB (bs : List Int) : Prop := ∀ x ∈ bs, 0 ≤ x ∧ x ≤ 255
theorem RdB.at_ {w : World} {A : Option Addr} {n : Nat} {xs : List Int} (h : RdB w A n xs) (hw : WfB xs) {k : Nat} (hk : k < n) :
    ∃ b off x, A = some ⟨b, off, none⟩ ∧ b < w.heap.size ∧ (0 ≤ x ∧ x ≤ 255) ∧ w.cell? ⟨b, off + k, none⟩ = some (.int .u8 x) := by
  obtain ⟨b, off, e, hb, hc⟩ := h.2 (by omega)
  have hl : k < xs.length := by have := h.1; omega
  exact ⟨b, off, xs[k], e, hb, hw _ (List.getElem_mem hl), hc k _ (List.getElem?_eq_getElem hl)⟩
theorem RdB.keep {w w' : World} {A : Option Addr} {n : Nat} {xs : List Int} (h : RdB w A n xs) (hs : w.heap.size ≤ w'.heap.size) (hk : ∀ p : Addr, p.block < w.heap.size → w'.cell? p = w.cell? p) : RdB w' A n xs :=
  ⟨h.1, fun hn => by
    obtain ⟨b, off, e, hb, hc⟩ := h.2 hn
    exact ⟨b, off, e, by omega, fun j x hx => (hk ⟨b, off + j, none⟩ hb).trans (hc j x hx)⟩⟩
theorem RdB.below {w w' : World} {A : Option Addr} {n : Nat} {xs : List Int} (h : RdB w A n xs) (hb : Below w.heap.size w w') : RdB w' A n xs :=
  h.keep hb.size fun _ hp => hb.cell hp
theorem rdB_of_row {w : World} {a : Option Addr} {len cap : Nat} {zs : List Int}
    (h : (a = none ∧ len = 0 ∧ cap = 0 ∧ zs = []) ∨ ∃ x, a = some x ∧ len ≤ cap ∧ cap ≤ maxLen ∧ zs.length = cap ∧ (∀ i, i < zs.length → w.cell? (x.add i) = some (.int .u8 (zs.getD i 0))) ∧ ∀ n ∈ zs, (Lit.int .u8 n).wf = true) :
    ∃ xs, RdB w a len xs ∧ WfB xs ∧ len ≤ maxLen := by
  rcases h with ⟨rfl, rfl, rfl, rfl⟩ | ⟨x, rfl, hl, hm, hz, hcell, hwz⟩
  · exact ⟨[], ⟨rfl, fun h => absurd h (by omega)⟩, fun x hx => (by cases hx), Nat.zero_le _⟩
  · refine ⟨zs.take len, ⟨by rw [List.length_take]; omega, fun hn => ?_⟩, fun y hy => bounds_u8 (hwz y (List.mem_of_mem_take hy)), by omega⟩
    obtain ⟨b, off, spot⟩ := x
    have hc := hcell 0 (by omega)
    have hspot : spot = none := by simpa [Addr.add] using World.cell?_spot hc
    subst hspot
    have hc0 : w.cell? ⟨b, off, none⟩ = some (.int .u8 (zs.getD 0 0)) := by simpa [Addr.add] using hc
    refine ⟨b, off, rfl, block_lt_of_cell hc0, fun j y hy => ?_⟩
    have hj : j < len := by
      rcases Nat.lt_or_ge j len with h | h
      · exact h
      · rw [List.getElem?_eq_none (by rw [List.length_take]; omega)] at hy; cases hy
    have hc := hcell j (by omega)
    have e : (⟨b, off, none⟩ : Addr).add j = ⟨b, off + j, none⟩ := by
      unfold Addr.add
      by_cases h0 : j = 0 <;> simp [h0]
    rw [e] at hc
    rw [hc]
    rw [List.getElem?_take_of_lt hj] at hy
    rw [List.getD_eq_getElem?_getD, hy]; rfl

theorem cells3 {w : World} {g : Nat} {a b c : Value} {T : TypeId} (h : w.heap[g]? = some (.cells #[a, b, c] T (0, 0))) :
    w.cell? ⟨g, 0, none⟩ = some a ∧ w.cell? ⟨g, 1, none⟩ = some b ∧ w.cell? ⟨g, 2, none⟩ = some c ∧ (∀ k, w.frozen? ⟨g, k, none⟩ = false) := by
  refine ⟨?_, ?_, ?_, fun k => ?_⟩
  · simp [World.cell?, h]
  · simp [World.cell?, h]
  · simp [World.cell?, h]
  · simp [World.frozen?, h]
def andff (y : Int) : Nat := (BitVec.ofInt 64 y).toNat &&& 16777215
theorem andff_le (y : Int) : andff y ≤ 16777215 := Nat.and_le_right
theorem and_ff (y : Int) : bits .and .u64 y 16777215 = ((andff y : Nat) : Int) := by
  have hx := andff_le y
  show IntKind.u64.wrap ((BitVec.ofInt 64 y &&& BitVec.ofInt 64 16777215).toNat : Int) = _
  rw [BitVec.toNat_and]
  have e : (BitVec.ofInt 64 16777215).toNat = 16777215 := by decide
  rw [e]; show IntKind.u64.wrap ((andff y : Nat) : Int) = _
  rw [IntKind.wrap_u64]; omega
theorem u64_some (y : Int) : ∃ H : Nat, H < 18446744073709551616 ∧ IntKind.u64.wrap y = (H : Int) := by
  refine ⟨(y % 18446744073709551616).toNat, by omega, ?_⟩
  rw [IntKind.wrap_u64]; omega
theorem and_some (y : Int) : ∃ X : Nat, X ≤ 16777215 ∧ bits .and .u64 y 16777215 = (X : Int) := ⟨andff y, andff_le y, and_ff y⟩
theorem heap_set {w : World} {g k : Nat} {cs : Array Value} {T : TypeId} (h : w.heap[g]? = some (.cells cs T (0, 0))) (v : Value) : (w.setCell ⟨g, k, none⟩ v).heap[g]? = some (.cells (cs.setIfInBounds k v) T (0, 0)) := by
  simp [World.setCell, Array.getElem?_modify, h]
theorem grown_drewN {w w' : World} {row : Option Nat} (h : w.grownBy w' row) (k : Nat) : w.grownBy (w'.drewN k) row := ⟨h.os, h.tape, h.output, h.size, h.block⟩
/-- The bytes stay while the dice's block is written. -/
theorem RdB.apart {w w' : World} {B g n : Nat} {A : Option Addr} {bs : List Int} (h : RdB w A n bs) (hab : ∀ b, 0 < n → A.map (·.block) = some b → b < B) (hB : B ≤ g) (hg : w.grownBy w' (some g)) : RdB w' A n bs := by
  refine ⟨h.1, fun hn => ?_⟩
  obtain ⟨b, off, e, hb, hc⟩ := h.2 hn
  refine ⟨b, off, e, by have := hg.size; omega, fun j x hx => ?_⟩
  have hbB := hab b hn (by rw [e]; rfl)
  rw [World.cell?_of_block (w := w) (hg.block b hb (by intro e2; injection e2 with e2; omega))]
  exact hc j x hx
end Go.Proofs.YtcojodkcpemfdaaDoor
