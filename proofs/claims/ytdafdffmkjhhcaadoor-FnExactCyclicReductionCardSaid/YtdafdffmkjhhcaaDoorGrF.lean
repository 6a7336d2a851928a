/-
  Graph groups: both sides of IsSignedWord, GroupForm, GroupInverse, GroupProduct, AreGroupEqual.
-/
import Derived.Test.YtdafdffmkjhhcaaDoorGrE
namespace Go.Proofs.YtdafdffmkjhhcaaDoor
open Go Go.RowKit
set_option linter.unusedVariables false
set_option linter.unusedSimpArgs false
set_option maxRecDepth 100000

theorem okG_one (L : Int) (t : Option Addr × Nat × Nat × List Int) : okG L [t] = sgB L t.2.2.2 := by simp [okG]
theorem okG_pair (L : Int) (t u : Option Addr × Nat × Nat × List Int) : okG L [t, u] = (sgB L t.2.2.2 && sgB L u.2.2.2) := by simp [okG]
theorem numT_one (t : Option Addr × Nat × Nat × List Int) : numT [t] = [ints (t.2.2.2.map inN)] := rfl
theorem numT_two (t u : Option Addr × Nat × Nat × List Int) : numT [t, u] = [ints (t.2.2.2.map inN), ints (u.2.2.2.map inN)] := rfl
theorem rdSS_words {w : World} {A : Option Addr} {n : Nat} {xss : List (List Int)} (h : RdSS w A n xss) (Ws : List (List Nat)) (he : xss = Ws.map ints) : ∃ ts, RdT w A n ts ∧ Hid (∀ k t, ts[k]? = some t → t.2.2.2 = ints (Ws.getD k [])) := by
  obtain ⟨ts, e, ht⟩ := h
  refine ⟨ts, ht, Lib.hid fun k t hk => ?_⟩
  have h1 : (ts.map (fun t => t.2.2.2))[k]? = some t.2.2.2 := by rw [List.getElem?_map, hk]; rfl
  rw [e, he, List.getElem?_map] at h1
  cases hw : Ws[k]? with
  | none => rw [hw] at h1; cases h1
  | some z => rw [hw] at h1; injection h1 with h1; rw [← h1, List.getD_eq_getElem?_getD, hw]; rfl
theorem eF_yes (ds W : List Nat) (h : W.length ≤ 24) : eF ds W = ((nfR ds W).map outI, 0) := by unfold eF; rw [pF_yes ds W h]
theorem eF_long (ds W : List Nat) (h : 24 < W.length) : eF ds W = ([], 3) := by unfold eF; rw [pF_long ds W h]; rfl
theorem nfR_lenG (ds W : List Nat) (N : Nat) (hl : ds.length = N) (hgd : GD (RDep ds) N) (hW : ∀ x, x ∈ W → x < N) : (nfR ds W).length = W.length := by
  have h1 : Eqv (RDep ds) (nfR ds W) W := by unfold nfR nfM; rw [hl]; exact nfGo_eqv hgd.sym hgd.ref W.length W rfl hW
  exact Eqv.len hgd.sym hgd.ref _ _ (fun x hx => by have := nfR_ltG ds W x hx; omega) hW h1
/-- An answer over an alphabet and signed words: the code of the arguments, else what the doubled relation and the numbers give. -/
def gA {α : Type} (z : α) (f : List Nat → List Nat → α × Int) (L : Int) (xs us : List Int) : α × Int :=
  if alphB L xs = true then (if sgB L us = true then f (dblR (xs.map Int.toNat)) (us.map inN) else (z, 2)) else (z, 1)
def gA2 {α : Type} (z : α) (f : List Nat → List Nat → List Nat → α × Int) (L : Int) (xs us ts : List Int) : α × Int :=
  if alphB L xs = true then (if (sgB L us && sgB L ts) = true then f (dblR (xs.map Int.toNat)) (us.map inN) (ts.map inN) else (z, 2)) else (z, 1)
theorem gA1_no {α : Type} {z : α} {f : List Nat → List Nat → α × Int} {L : Int} {xs us : List Int} (h : alphB L xs = false) : gA z f L xs us = (z, 1) := if_neg (by rw [h]; decide)
theorem gA1_bad {α : Type} {z : α} {f : List Nat → List Nat → α × Int} {L : Int} {xs us : List Int} (h : alphB L xs = true) (h2 : sgB L us = false) : gA z f L xs us = (z, 2) := by unfold gA; rw [if_pos h, if_neg (by rw [h2]; decide)]
theorem gA1_yes {α : Type} {z : α} {f : List Nat → List Nat → α × Int} {L : Int} {xs us : List Int} (rs : List Nat) (hx : xs.map Int.toNat = rs) (h : alphB L xs = true) (h2 : sgB L us = true) : gA z f L xs us = f (dblR rs) (us.map inN) := by unfold gA; rw [if_pos h, if_pos h2, hx]
theorem gA2_no {α : Type} {z : α} {f : List Nat → List Nat → List Nat → α × Int} {L : Int} {xs us ts : List Int} (h : alphB L xs = false) : gA2 z f L xs us ts = (z, 1) := if_neg (by rw [h]; decide)
theorem gA2_bad {α : Type} {z : α} {f : List Nat → List Nat → List Nat → α × Int} {L : Int} {xs us ts : List Int} (h : alphB L xs = true) (h2 : (sgB L us && sgB L ts) = false) : gA2 z f L xs us ts = (z, 2) := by unfold gA2; rw [if_pos h, if_neg (by rw [h2]; decide)]
theorem gA2_yes {α : Type} {z : α} {f : List Nat → List Nat → List Nat → α × Int} {L : Int} {xs us ts : List Int} (rs : List Nat) (hx : xs.map Int.toNat = rs) (h : alphB L xs = true) (h2 : (sgB L us && sgB L ts) = true) : gA2 z f L xs us ts = f (dblR rs) (us.map inN) (ts.map inN) := by unfold gA2; rw [if_pos h, if_pos h2, hx]
def gB (L : Int) (xs us : List Int) : Bool := alphB L xs && sgB L us
theorem gCode_no (L : Int) (xs us ts : List Int) (h : alphB L xs = false) : gCode2 L xs us ts = 1 := if_neg (by rw [h]; decide)
theorem gCode_bad (L : Int) (xs us ts : List Int) (h : alphB L xs = true) (h2 : (sgB L us && sgB L ts) = false) : gCode2 L xs us ts = 2 := by unfold gCode2; rw [if_pos h, if_neg (by rw [h2]; decide)]
theorem gCode_yes (L : Int) (xs us ts : List Int) (h : alphB L xs = true) (h2 : (sgB L us && sgB L ts) = true) : gCode2 L xs us ts = 0 := by unfold gCode2; rw [if_pos h, if_pos h2]
def gfF (ds W : List Nat) : List Int × Int := eF ds (redW (RDep ds) W)
def giF (ds W : List Nat) : List Int × Int := eF ds (redW (RDep ds) (invW W))
def gpF (ds W V : List Nat) : List Int × Int := eF ds (redW (RDep ds) (W ++ V))
def geF (ds W V : List Nat) : Bool × Int := (decide ((redW (RDep ds) (W ++ invW V)).length = 0), 0)
theorem gfF_small (L : Int) (xs us : List Int) : (gA [] gfF L xs us).1.length ≤ 24 := by
  unfold gA; split
  · split
    · exact eF_len _ _
    · exact Nat.zero_le _
  · exact Nat.zero_le _
theorem giF_small (L : Int) (xs us : List Int) : (gA [] giF L xs us).1.length ≤ 24 := by
  unfold gA; split
  · split
    · exact eF_len _ _
    · exact Nat.zero_le _
  · exact Nat.zero_le _
theorem gpF_small (L : Int) (xs us ts : List Int) : (gA2 [] gpF L xs us ts).1.length ≤ 24 := by
  unfold gA2; split
  · split
    · exact eF_len _ _
    · exact Nat.zero_le _
  · exact Nat.zero_le _
end Go.Proofs.YtdafdffmkjhhcaaDoor
