/-
  Slices of slices of numbers: what is owned, and the laws' helpers by contracts. The laws' own comparisons of lists of numbers, and of lists of lists. Bytes that are read, and the arithmetic of dice. The model's source of draws by contracts: what is drawn lies in its range; nothing else is turned. The alphabet of a dependence, and the alphabet of letters that are all independent: by contracts. ComplementOf: both sides. Joining two letters; the part of an alphabet on a list of letters: by contracts. The model's draws by contracts: some number of a list, some alphabet; nothing of what was there is turned but the source. A region that draws its order and ends with one operation that may break the condition under which the others were taken first.
-/
import Derived.Test.YtcojodkcpemfdaaDoorM2
import Derived.StillTailTactics
import Derived.Test.YtcojodkcpemfdaaDoorB2
import Derived.Test.YtcojodkcpemfdaaDoorM3
import Derived.Deep.QuietTactic
import Derived.BigQuiet
import Derived.Test.YtcojodkcpemfdaaDoorM1
import Derived.Deep.AppendLies
import Derived.Deep.CutRange
import Derived.Test.YtcojodkcpemfdaaDoorRows
import Derived.Deep.RegionHeld3
namespace Go.Proofs.YtcojodkcpemfdaaDoor
open Go.RowKit
set_option linter.unusedVariables false
set_option linter.unusedSimpArgs false
set_option maxRecDepth 100000

/-- A row of slices of the call's own: address, capacity and numbers of each. -/
def valsT (ts : List (Option Addr × Nat × List Int)) : List Value := ts.map fun t => Value.slice t.1 t.2.2.length t.2.1
def OwnT (w : World) (lo hi : Nat) (A : Option Addr) (n c : Nat) (ts : List (Option Addr × Nat × List Int)) : Prop :=
  ts.length = n ∧ w.ownsRow lo 22 1 (.slice A n c) n (valsT ts) ∧ (∀ q, A.map (·.block) = some q → q < hi) ∧
  ∀ (j : Nat) (t : Option Addr × Nat × List Int), ts[j]? = some t → Own 2 w lo t.1 t.2.2.length t.2.1 t.2.2 ∧ ∀ q, t.1.map (·.block) = some q → q < hi ∧ A.map (·.block) ≠ some q ∧ ∀ (l : Nat) (u : Option Addr × Nat × List Int), l ≠ j → ts[l]? = some u → u.1.map (·.block) ≠ some q
def OwnSS (w : World) (lo hi : Nat) (A : Option Addr) (n c : Nat) (xss : List (List Int)) : Prop := ∃ ts, ts.map (fun t => t.2.2) = xss ∧ OwnT w lo hi A n c ts
theorem row_block {w : World} {lo n c : Nat} {E : TypeId} {A : Option Addr} {vs : List Value} (h : w.ownsRow lo E 1 (.slice A n c) n vs) (q : Nat) (hq : A.map (·.block) = some q) : lo ≤ q ∧ q < w.heap.size := by
  refine World.ownsRow.lt h q ?_
  cases A with
  | none => cases hq
  | some a => simpa [Value.ownBlock] using hq
theorem row_kept {w w' : World} {lo n c : Nat} {E : TypeId} {A : Option Addr} {vs : List Value} (h : w.ownsRow lo E 1 (.slice A n c) n vs) {row : Option Nat} (hg : w.grownBy w' row) (hne : ∀ q, A.map (·.block) = some q → row ≠ some q) : w'.ownsRow lo E 1 (.slice A n c) n vs := by
  refine World.ownsRow.kept h hg ?_
  cases A with
  | none => exact .inl rfl
  | some a =>
    refine .inr ?_
    intro e
    exact hne a.block rfl (by simpa [Value.ownBlock] using e.symm)
theorem OwnT.lt {w : World} {lo hi n c : Nat} {A : Option Addr} {ts : List (Option Addr × Nat × List Int)} (h : OwnT w lo hi A n c ts) (q : Nat) (hq : A.map (·.block) = some q) : lo ≤ q ∧ q < hi := ⟨(row_block h.2.1 q hq).1, h.2.2.1 q hq⟩
theorem OwnT.apart {w w' : World} {lo hi n c : Nat} {A : Option Addr} {ts : List (Option Addr × Nat × List Int)} (h : OwnT w lo hi A n c ts) {row : Option Nat} (hg : w.grownBy w' row) (hne : ∀ r, row = some r → r < lo ∨ hi ≤ r) : OwnT w' lo hi A n c ts := by
  refine ⟨h.1, row_kept h.2.1 hg (fun q hq e => ?_), h.2.2.1, fun j t ht => ⟨((h.2.2.2 j t ht).1).apart hg (fun q hq e => ?_), (h.2.2.2 j t ht).2⟩⟩
  · have h1 := h.lt q hq
    rcases hne q e with h2 | h2 <;> omega
  · have h1 := ((h.2.2.2 j t ht).1).lt q hq
    have h3 := ((h.2.2.2 j t ht).2 q hq).1
    rcases hne q e with h2 | h2 <;> omega
theorem OwnSS.apart {w w' : World} {lo hi n c : Nat} {A : Option Addr} {xss : List (List Int)} (h : OwnSS w lo hi A n c xss) {row : Option Nat} (hg : w.grownBy w' row) (hne : ∀ r, row = some r → r < lo ∨ hi ≤ r) : OwnSS w' lo hi A n c xss := by
  obtain ⟨ts, e, ho⟩ := h
  exact ⟨ts, e, ho.apart hg hne⟩
theorem OwnSS.below {w w' : World} {lo hi n c : Nat} {A : Option Addr} {xss : List (List Int)} (h : OwnSS w lo hi A n c xss) (hb : Below w.heap.size w w') : OwnSS w' lo hi A n c xss :=
  h.apart (grownBy_of_below hb) (fun r e => by cases e)
theorem OwnSS.len {w : World} {lo hi n c : Nat} {A : Option Addr} {xss : List (List Int)} (h : OwnSS w lo hi A n c xss) : xss.length = n := by
  obtain ⟨ts, e, ho⟩ := h
  rw [← e, List.length_map]; exact ho.1
/-- What a row of slices reads as. -/
def RdSS (w : World) (A : Option Addr) (n : Nat) (xss : List (List Int)) : Prop := ∃ ts, ts.map (fun t => t.2.2.2) = xss ∧ RdT w A n ts
theorem RdSS.below {w w' : World} {A : Option Addr} {n : Nat} {xss : List (List Int)} (h : RdSS w A n xss) (hb : Below w.heap.size w w') : RdSS w' A n xss := by
  obtain ⟨ts, e, ho⟩ := h
  exact ⟨ts, e, ho.below hb⟩
theorem OwnT.rdT {w : World} {lo hi n c : Nat} {A : Option Addr} {ts : List (Option Addr × Nat × List Int)} (h : OwnT w lo hi A n c ts) (hs : ∀ t, t ∈ ts → t.2.2.length ≤ maxLen) : RdT w A n (ts.map fun t => (t.1, t.2.2.length, t.2.1, t.2.2)) := by
  refine ⟨by rw [List.length_map]; exact h.1, fun t ht => ?_, fun hn => ?_⟩
  · obtain ⟨u, hu, rfl⟩ := List.mem_map.1 ht
    obtain ⟨j, hj⟩ := List.mem_iff_getElem?.1 hu
    exact ⟨(h.2.2.2 j u hj).1.rd, hs u hu⟩
  · obtain ⟨g, cap, hv, hbg, hlt⟩ := World.ownsRow.form h.2.1 hn
    have hA : A = some ⟨g, 0, none⟩ := by injection hv
    subst hA
    refine ⟨g, 0, rfl, hlt, fun j t ht => ?_⟩
    rw [List.getElem?_map] at ht
    cases hu : ts[j]? with
    | none => rw [hu] at ht; cases ht
    | some u =>
      rw [hu] at ht
      injection ht with ht
      subst ht
      have := World.ownsRow.cells h.2.1 (g := g) rfl j (Value.slice u.1 u.2.2.length u.2.1) (by unfold valsT; rw [List.getElem?_map, hu]; rfl)
      rw [add_zero_off] at this
      rw [Nat.zero_add]; exact this
theorem OwnSS.rd {w : World} {lo hi n c : Nat} {A : Option Addr} {xss : List (List Int)} (h : OwnSS w lo hi A n c xss) (hs : ∀ xs, xs ∈ xss → xs.length ≤ maxLen) : RdSS w A n xss := by
  obtain ⟨ts, e, ho⟩ := h
  refine ⟨_, ?_, ho.rdT (fun t ht => hs _ (by rw [← e]; exact List.mem_map_of_mem ht))⟩
  rw [List.map_map, ← e]; rfl
/-- An element's numbers are turned in place. -/
theorem OwnT.set_ {w w' : World} {lo hi n c j : Nat} {A : Option Addr} {ts : List (Option Addr × Nat × List Int)} {t : Option Addr × Nat × List Int} {ys : List Int} (h : OwnT w lo hi A n c ts) (ht : ts[j]? = some t) (hl : ys.length = t.2.2.length) (ho : Own 2 w' lo t.1 ys.length t.2.1 ys) (hg : w.grownBy w' (t.1.map (·.block))) : OwnT w' lo hi A n c (ts.set j (t.1, t.2.1, ys)) := by
  have hj : j < ts.length := by
    rcases Nat.lt_or_ge j ts.length with h9 | h9
    · exact h9
    · rw [List.getElem?_eq_none h9] at ht; cases ht
  have hv : valsT (ts.set j (t.1, t.2.1, ys)) = valsT ts := by
    unfold valsT
    refine List.ext_getElem? fun k => ?_
    rw [List.getElem?_map, List.getElem?_map, List.getElem?_set]
    by_cases e : j = k
    · subst e
      rw [if_pos rfl, if_pos hj, ht]
      show some (Value.slice t.1 ys.length t.2.1) = _
      rw [hl]; rfl
    · rw [if_neg e]
  have ht2 := (h.2.2.2 j t ht).2
  refine ⟨by rw [List.length_set]; exact h.1, ?_, h.2.2.1, fun k u hu => ?_⟩
  · rw [hv]
    exact row_kept h.2.1 hg (fun q hq e => (ht2 q e).2.1 hq)
  · rw [List.getElem?_set] at hu
    by_cases e : j = k
    · subst e
      rw [if_pos rfl, if_pos hj] at hu
      injection hu with hu
      subst hu
      refine ⟨ho, fun q hq => ⟨(ht2 q hq).1, (ht2 q hq).2.1, fun l v hlj hv9 => ?_⟩⟩
      rw [List.getElem?_set, if_neg (fun e => hlj e.symm)] at hv9
      exact (ht2 q hq).2.2 l v hlj hv9
    · rw [if_neg e] at hu
      have h9 := h.2.2.2 k u hu
      refine ⟨h9.1.apart hg (fun q hq e9 => (ht2 q e9).2.2 k u (fun e2 => e e2.symm) hu hq), fun q hq => ⟨(h9.2 q hq).1, (h9.2 q hq).2.1, fun l v hlk hv9 => ?_⟩⟩
      rw [List.getElem?_set] at hv9
      by_cases e2 : j = l
      · subst e2
        rw [if_pos rfl, if_pos hj] at hv9
        injection hv9 with hv9
        subst hv9
        exact (h9.2 q hq).2.2 j t hlk ht
      · rw [if_neg e2] at hv9
        exact (h9.2 q hq).2.2 l v hlk hv9
/-- The marks that the laws put into a row of slices. -/
def marksSS (k : Nat) : List (List Int) → List (List Int)
  | [] => []
  | xs :: r => marks k xs.length :: marksSS (k + xs.length) r
def sumL (xss : List (List Int)) : Nat := (xss.map List.length).sum
theorem marksSS_len (k : Nat) (xss : List (List Int)) : (marksSS k xss).length = xss.length := by
  induction xss generalizing k with
  | nil => rfl
  | cons x r ih => show (marksSS _ r).length + 1 = _; rw [ih]; rfl
theorem sumL_take (xss : List (List Int)) (j : Nat) (xs : List Int) (h : xss[j]? = some xs) : sumL (xss.take (j + 1)) = sumL (xss.take j) + xs.length := by
  unfold sumL
  rw [List.take_add_one, h, List.map_append, List.sum_append]; simp
theorem sumL_le (xss : List (List Int)) (j : Nat) : sumL (xss.take j) ≤ sumL xss := by
  have e := List.take_append_drop j xss
  have : sumL xss = sumL (xss.take j) + sumL (xss.drop j) := by
    unfold sumL
    rw [← List.sum_append, ← List.map_append, e]
  omega
theorem marksSS_at (k : Nat) (xss : List (List Int)) (j : Nat) (xs : List Int) (h : xss[j]? = some xs) : (marksSS k xss)[j]? = some (marks (k + sumL (xss.take j)) xs.length) := by
  induction xss generalizing k j with
  | nil => cases h
  | cons x r ih =>
    cases j with
    | zero =>
      injection h with h
      subst h
      show some _ = _
      simp [sumL]
    | succ j =>
      have := ih (k + x.length) j h
      show (marksSS (k + x.length) r)[j]? = _
      rw [this]
      have e : sumL ((x :: r).take (j + 1)) = x.length + sumL (r.take j) := by simp [sumL]
      rw [e, Nat.add_assoc]
theorem len_sumL (xss : List (List Int)) (xs : List Int) (h : xs ∈ xss) : xs.length ≤ sumL xss := by
  obtain ⟨j, hj⟩ := List.mem_iff_getElem?.1 h
  have h1 := sumL_take xss j xs hj
  have h2 := sumL_le xss (j + 1)
  omega
/-- Nothing has been turned but blocks from lo on, ahead of hi. -/
structure Touched (lo hi : Nat) (w w' : World) : Prop where
  os : w'.os = w.os
  tape : w'.tape = w.tape
  output : w'.output = w.output
  size : w.heap.size ≤ w'.heap.size
  block : ∀ k, k < w.heap.size → (k < lo ∨ hi ≤ k) → w'.heap[k]? = w.heap[k]?
theorem Touched.refl (lo hi : Nat) (w : World) : Touched lo hi w w := ⟨rfl, rfl, rfl, Nat.le_refl _, fun _ _ _ => rfl⟩
theorem Touched.grown {lo hi : Nat} {w w1 w' : World} {row : Option Nat} (h : Touched lo hi w w1) (hg : w1.grownBy w' row) (hr : ∀ r, row = some r → lo ≤ r ∧ r < hi) : Touched lo hi w w' :=
  ⟨hg.os.trans h.os, hg.tape.trans h.tape, hg.output.trans h.output, Nat.le_trans h.size hg.size, fun k hk hne => by
    rw [hg.block k (Nat.lt_of_lt_of_le hk h.size) (fun e => by have := hr k e.symm; omega)]
    exact h.block k hk hne⟩
set_option maxHeartbeats 1600000 in
theorem eqSS_true (A B : Option Addr) (n c d : Nat) (xss : List (List Int)) (w : World) (h : RdSS w A n xss) (h2 : RdSS w B n xss) (hn : n ≤ 9223372036854775807) :
    Calls Tryd.prog 22 #[.slice A n c, .slice B n d] w fun e w' => e = .returned (.bool true) ∧ Below w.heap.size w w' := by
  obtain ⟨ts, e1, ht⟩ := h
  obtain ⟨us, e2, hu⟩ := h2
  have HE : Hid (ts.map (fun t => t.2.2.2) = us.map (fun t => t.2.2.2)) := Lib.hid (e1.trans e2.symm)
  clear e1 e2
  go_enter Tryd.func22, Tryd.ntmps22
  go_wp2
  go_loopw [5] (fun i wr => ∃ k : Nat, k ≤ n ∧ i = .int .i64 k ∧ Below w.heap.size w wr) (fun i _ => n - (intOf i).toNat)
  case atStart => exact ⟨0, Nat.zero_le _, rfl, Below.refl _ _⟩
  case round =>
    obtain ⟨k, hk, rfl, hb⟩ := hrel
    by_cases hlt : k < n
    · obtain ⟨b, off, C, q, c1, xs, rfl, hbs, hx, hcx, hrd, hq⟩ := (ht.below hb).at_ hlt
      obtain ⟨b2, off2, C2, q2, c2, ys, rfl, hbs2, hx2, hcx2, hrd2, hq2⟩ := (hu.below hb).at_ hlt
      have e9 : xs = ys := by
        have := congrArg (fun l => l[k]?) HE.out
        simp only [List.getElem?_map, hx, hx2] at this
        injection this
      subst e9
      have e8 : q2 = q := hrd2.1.symm.trans hrd.1
      subst e8
      have hq3 : q2 ≤ 9223372036854775807 := by unfold maxLen at hq; omega
      have hdw : Below wr.heap.size wr wr.drew := (Below.refl _ _).drew
      clear hx hx2
      go_wp2_with fail
      go_still_tail 8, (by kernel_rfl)
      change wpList _ _ _ _ _ wr.drew
      go_wp2_with fail
      refine (eq_true _ _ _ _ _ xs _ (hrd.below hdw) (hrd2.below hdw) hq3).mono ?_
      rintro e w4 ⟨rfl, hb4⟩
      have hb5 := hb.trans ((hdw.trans (hb4.mono hdw.size)).mono hb.size)
      go_wp2_with fail
      go_roundw
      case rel => exact ⟨k + 1, by omega, by go_num, hb5⟩
      case measure => simp [intOf]; omega
    · obtain rfl : k = n := by omega
      go_wp2_with fail
      go_ret
      exact ⟨rfl, hb⟩
set_option maxHeartbeats 1600000 in
theorem markSS_any (lo hi : Nat) (A : Option Addr) (n c k0 : Nat) (xss : List (List Int)) (w : World) (h : OwnSS w lo hi A n c xss) (hs : sumL xss ≤ 1048576) (hn : n ≤ 1048576) (hk : k0 ≤ 1048576) :
    Calls Tryd.prog 28 #[.slice A n c, .int .i64 (k0 : Int)] w fun e w' => e = .returned (.int .i64 ((k0 + sumL xss : Nat) : Int)) ∧ OwnSS w' lo hi A n c (marksSS k0 xss) ∧ Touched lo hi w w' := by
  obtain ⟨ts0, e0, h0⟩ := h
  have hlen : xss.length = n := by rw [← e0, List.length_map]; exact h0.1
  have HL := Lib.hid hlen
  have HS : Hid (∀ xs, xs ∈ xss → xs.length ≤ 1048576) := Lib.hid (fun xs hx => Nat.le_trans (len_sumL xss xs hx) hs)
  have HE0 := Lib.hid e0
  clear hlen e0
  go_enter Tryd.func28, Tryd.ntmps28
  go_wp2
  go_loopw [1, 5] (fun q i wr => ∃ (t : Nat) (ts : List (Option Addr × Nat × List Int)), t ≤ n ∧ i = .int .i64 t ∧ q = .int .i64 ((k0 + sumL (xss.take t) : Nat) : Int) ∧ ts.map (fun t => t.2.2) = (marksSS k0 xss).take t ++ xss.drop t ∧ OwnT wr lo hi A n c ts ∧ Touched lo hi w wr) (fun _ i _ => n - (intOf i).toNat)
  case atStart => exact ⟨0, ts0, Nat.zero_le _, rfl, rfl, by rw [HE0.out]; rfl, h0, Touched.refl _ _ _⟩
  case round =>
    obtain ⟨t, ts, hle, rfl, rfl, he, ho, htt⟩ := hrel
    have HE := Lib.hid he
    clear he
    by_cases hlt : t < n
    · obtain ⟨ys, hys⟩ : ∃ ys, xss[t]? = some ys := ⟨_, List.getElem?_eq_getElem (by rw [HL.out]; exact hlt)⟩
      obtain ⟨u, hu⟩ : ∃ u, ts[t]? = some u := ⟨_, List.getElem?_eq_getElem (by rw [ho.1]; exact hlt)⟩
      have huy : u.2.2 = ys := by
        have h9 := congrArg (fun l => l[t]?) HE.out
        simp only [List.getElem?_map, hu] at h9
        rw [List.getElem?_append_right (by rw [List.length_take, marksSS_len, HL.out]; omega)] at h9
        rw [List.length_take, marksSS_len, HL.out, Nat.min_eq_left hle, Nat.sub_self, List.getElem?_drop, Nat.add_zero, hys] at h9
        injection h9
      have hou := (ho.2.2.2 t u hu).1
      have hub := (ho.2.2.2 t u hu).2
      have hsm := HS.out ys (List.mem_of_getElem? hys)
      have h2 := sumL_take xss t ys hys
      have h3 := sumL_le xss (t + 1)
      obtain ⟨g, cap, hv, hbg, hlt2⟩ := World.ownsRow.form ho.2.1 (by omega : 0 < n)
      have hA : A = some ⟨g, 0, none⟩ := by injection hv
      have hcx := World.ownsRow.cells ho.2.1 (g := g) (by rw [hA]; rfl) t (Value.slice u.1 u.2.2.length u.2.1) (by unfold valsT; rw [List.getElem?_map, hu]; rfl)
      rw [add_zero_off] at hcx
      subst hA
      rw [huy] at hou hcx
      obtain ⟨K, hK⟩ : ∃ K, K = k0 + sumL (xss.take t) := ⟨_, rfl⟩
      have HN : Hid (k0 + sumL (xss.take (t + 1)) = K + ys.length) := Lib.hid (by rw [hK, h2]; omega)
      have hKb : K ≤ 1073741824 := by omega
      have hmark := mark_any 2 lo u.1 ys.length u.2.1 K ys wr hou hsm hKb
      have hmat := marksSS_at k0 xss t ys hys
      rw [← hK] at hmat ⊢
      have HMAT := Lib.hid hmat
      have HU := Lib.hid hu
      have HUY := Lib.hid huy
      have HYS := Lib.hid hys
      obtain ⟨Q, hQ⟩ : ∃ Q, Q = ys.length := ⟨_, rfl⟩
      have HQ := Lib.hid hQ
      rw [← hQ] at hcx hmark HN
      have hQb : Q ≤ 1048576 := by omega
      obtain ⟨U, cu, us⟩ := u
      have hcx' : wr.cell? ⟨g, t, none⟩ = some (.slice U Q cu) := hcx
      have HUB := Lib.hid hub
      clear hys hu h2 h3 hK hQ hmat huy hou hub hsm hv hcx
      go_wp2_with fail
      refine hmark.mono ?_
      rintro e w4 ⟨rfl, hom, hgm⟩
      have HSET : Hid (OwnT w4 lo hi (some ⟨g, 0, none⟩) n c (ts.set t (U, cu, marks K Q))) := Lib.hid (ho.set_ HU.out (by rw [marks_len, HQ.out]; exact congrArg List.length HUY.out.symm) (by rw [marks_len]; exact hom) hgm)
      have htt2 := htt.grown hgm (fun r hr => ⟨((ho.2.2.2 t _ HU.out).1.lt r hr).1, (HUB.out r hr).1⟩)
      clear ho hom hgm htt hmark
      go_wp2_with fail
      go_roundw
      case rel => exact ⟨t + 1, ts.set t (U, cu, marks K Q), by omega, by go_num, by rw [HN.out, Int.natCast_add], by
        rw [List.map_set, HE.out]
        show (List.take t (marksSS k0 xss) ++ List.drop t xss).set t (marks K Q) = _
        have hl1 : (List.take t (marksSS k0 xss)).length = t := by rw [List.length_take, marksSS_len, HL.out]; omega
        rw [List.set_append, if_neg (by omega), hl1, Nat.sub_self]
        have hd1 : List.drop t xss = (xss[t]'(by rw [HL.out]; exact hlt)) :: List.drop (t + 1) xss := List.drop_eq_getElem_cons _
        rw [hd1, List.set_cons_zero, List.take_add_one, HMAT.out, ← HQ.out]
        simp, HSET.out, htt2⟩
      case measure => simp [intOf]; omega
    · obtain rfl : t = n := by omega
      have e9 : xss.take t = xss := List.take_of_length_le (by rw [HL.out]; exact Nat.le_refl _)
      rw [e9]
      clear e9
      go_wp2_with fail
      go_ret
      refine ⟨rfl, ⟨ts, ?_, ho⟩, htt⟩
      rw [HE.out, List.drop_of_length_le (by rw [HL.out]; exact Nat.le_refl _), List.append_nil, List.take_of_length_le (by rw [marksSS_len, HL.out]; exact Nat.le_refl _)]
set_option maxHeartbeats 1600000 in
theorem heldSS_any (A : Option Addr) (n c k0 : Nat) (xss : List (List Int)) (w : World) (h : RdSS w A n (marksSS k0 xss)) (hs : sumL xss ≤ 1048576) (hl : xss.length = n) (hn : n ≤ 1048576) (hk : k0 ≤ 1048576) :
    Calls Tryd.prog 35 #[.slice A n c, .int .i64 (k0 : Int)] w fun e w' => e = .returned (.int .i64 ((k0 + sumL xss : Nat) : Int)) ∧ w = w' := by
  obtain ⟨ts, e1, ht⟩ := h
  have HE := Lib.hid e1
  have HL := Lib.hid hl
  clear e1 hl
  go_enter Tryd.func35, Tryd.ntmps35
  go_wp2
  go_loop [1, 5] (fun q i => ∃ t : Nat, t ≤ n ∧ i = .int .i64 t ∧ q = .int .i64 ((k0 + sumL (xss.take t) : Nat) : Int)) (fun _ i => n - (intOf i).toNat)
  case atStart => exact ⟨0, Nat.zero_le _, rfl, rfl⟩
  case round =>
    obtain ⟨t, hle, rfl, rfl⟩ := hrel
    by_cases hlt : t < n
    · obtain ⟨b, off, C, q, c1, xs, rfl, hbs, hx, hcx, hrd, hq⟩ := ht.at_ hlt
      obtain ⟨ys, hys⟩ : ∃ ys, xss[t]? = some ys := ⟨_, List.getElem?_eq_getElem (by rw [HL.out]; exact hlt)⟩
      have h1 := marksSS_at k0 xss t ys hys
      rw [← HE.out, List.getElem?_map, hx] at h1
      injection h1 with h1
      have h1' : xs = marks (k0 + sumL (xss.take t)) ys.length := h1
      subst h1'
      have hq1 : q = ys.length := by have := hrd.1; rw [marks_len] at this; exact this.symm
      subst hq1
      have h2 := sumL_take xss t ys hys
      have h3 := sumL_le xss (t + 1)
      obtain ⟨K, hK⟩ : ∃ K, K = k0 + sumL (xss.take t) := ⟨_, rfl⟩
      have HN : Hid (k0 + sumL (xss.take (t + 1)) = K + ys.length) := Lib.hid (by rw [hK, h2]; omega)
      have hKb : K ≤ 1073741824 := by omega
      have hyl : ys.length ≤ 1048576 := by omega
      rw [← hK] at hrd ⊢
      have hheld := held_any C ys.length c1 K w hrd hyl hKb
      obtain ⟨Q, hQ⟩ : ∃ Q, Q = ys.length := ⟨_, rfl⟩
      rw [← hQ] at hcx hheld HN hyl
      have hge : decide (((K + Q : Nat) : Int) < 0) = false := decide_eq_false (by omega)
      have hge2 : decide ((K : Int) + (Q : Int) < 0) = false := decide_eq_false (by omega)
      clear hx hys h1 h2 h3 hK hQ hrd
      go_wp2_with fail
      refine hheld.mono ?_
      rintro e w' ⟨rfl, rfl⟩
      go_wp2_with fail
      go_round
      case rel => exact ⟨t + 1, by omega, by go_num, by rw [HN.out, Int.natCast_add]⟩
      case measure => simp [intOf]; omega
    · obtain rfl : t = n := by omega
      have e9 : xss.take t = xss := List.take_of_length_le (by rw [HL.out]; exact Nat.le_refl _)
      rw [e9]
      clear e9
      go_wp2_with fail
      go_ret
      exact ⟨rfl, rfl⟩
end Go.Proofs.YtcojodkcpemfdaaDoor
namespace Go.Proofs.YtcojodkcpemfdaaDoor
open Go.RowKit
set_option linter.unusedVariables false
set_option maxRecDepth 100000

set_option maxHeartbeats 800000 in
theorem likeInts_same (A B : Option Addr) (n c d : Nat) (xs ys : List Int) (w : World) (h : Rd w A n xs) (h2 : Rd w B n ys) (hn : n ≤ 9223372036854775807) :
    Calls Tryd.prog 51 #[.slice A n c, .slice B n d] w fun e w' => e = .returned (.bool (decide (xs = ys))) ∧ Below w.heap.size w w' := by
  go_enter Tryd.func51, Tryd.ntmps51
  go_wp2
  go_loopw [5] (fun i wr => ∃ k : Nat, k ≤ n ∧ i = .int .i64 k ∧ Below w.heap.size w wr ∧ xs.take k = ys.take k) (fun i _ => n - (intOf i).toNat)
  case atStart => exact ⟨0, Nat.zero_le _, rfl, Below.refl _ _, rfl⟩
  case round =>
    obtain ⟨k, hk, rfl, hb, hsame⟩ := hrel
    by_cases hlt : k < n
    · obtain ⟨b, off, x, rfl, hbs, hx, hcx⟩ := h.at_ hlt
      obtain ⟨b2, off2, y, rfl, hbs2, hy, hcy⟩ := h2.at_ hlt
      have hc1 : wr.cell? ⟨b, off + k, none⟩ = some (.int .i64 x) := (hb.cell (p := ⟨b, off + k, none⟩) hbs).trans hcx
      have hc2 : wr.cell? ⟨b2, off2 + k, none⟩ = some (.int .i64 y) := (hb.cell (p := ⟨b2, off2 + k, none⟩) hbs2).trans hcy
      have HX := Lib.hid hx
      have HY := Lib.hid hy
      have HS := Lib.hid hsame
      clear hx hy hcx hcy hsame
      by_cases hxy : x = y
      · subst hxy
        go_wp2
        go_quiet (fail)
        go_wp2
        go_roundw
        case rel => exact ⟨k + 1, by omega, by go_num, by first | exact below_drewN hb _ | exact hb.drew, take_same xs ys k x HS.out HX.out HY.out⟩
        case measure => simp [intOf]; omega
      · have hne1 : (x == y) = false := by simpa using hxy
        have hne2 : (x != y) = true := by simpa using hxy
        have HN : Hid (decide (xs = ys) = false) := Lib.hid (by
          apply decide_eq_false
          intro e
          apply hxy
          have h1 := HX.out
          rw [e, HY.out] at h1
          injection h1 with h1; exact h1.symm)
        clear hxy
        go_wp2
        go_quiet (fail)
        go_wp2
        go_ret
        exact ⟨ret_b _ _ HN.out.symm, by first | exact below_drewN hb _ | exact hb.drew⟩
    · obtain rfl : k = n := by omega
      have HN : Hid (decide (xs = ys) = true) := Lib.hid (by
        apply decide_eq_true
        rw [List.take_of_length_le (by have := h.1; omega), List.take_of_length_le (by have := h2.1; omega)] at hsame
        exact hsame)
      clear hsame
      go_wp2
      go_ret
      exact ⟨ret_b _ _ HN.out.symm, hb⟩
theorem likeInts_len (A B : Option Addr) (n m c d : Nat) (w : World) (hnm : n ≠ m) :
    Calls Tryd.prog 51 #[.slice A n c, .slice B m d] w fun e w' => e = .returned (.bool false) ∧ Below w.heap.size w w' := by
  have h1 : ((n : Int) != (m : Int)) = true := by simp; omega
  have h2 : ¬ ((n : Int) = (m : Int)) := by omega
  have h3 : ¬ (n = m) := hnm
  go_enter Tryd.func51, Tryd.ntmps51
  go_wp2
  go_ret
  exact ⟨rfl, Below.refl _ _⟩
theorem likeInts_any (A B : Option Addr) (n m c d : Nat) (xs ys : List Int) (w : World) (h : Rd w A n xs) (h2 : Rd w B m ys) (hn : n ≤ 9223372036854775807) :
    Calls Tryd.prog 51 #[.slice A n c, .slice B m d] w fun e w' => e = .returned (.bool (decide (xs = ys))) ∧ Below w.heap.size w w' := by
  by_cases e : n = m
  · subst e
    exact likeInts_same A B n c d xs ys w h h2 hn
  · have : decide (xs = ys) = false := decide_eq_false (fun e9 => e (by rw [← h.1, ← h2.1, e9]))
    rw [this]
    exact likeInts_len A B n m c d w e
theorem take_sameL (xs ys : List (List Int)) (k : Nat) (x : List Int) (h : xs.take k = ys.take k) (hx : xs[k]? = some x) (hy : ys[k]? = some x) : xs.take (k + 1) = ys.take (k + 1) := by
  rw [List.take_add_one, List.take_add_one, h, hx, hy]
set_option maxHeartbeats 1600000 in
theorem likeRows_same (A B : Option Addr) (n c d : Nat) (xss yss : List (List Int)) (w : World) (h : RdSS w A n xss) (h2 : RdSS w B n yss) (hn : n ≤ 9223372036854775807) :
    Calls Tryd.prog 52 #[.slice A n c, .slice B n d] w fun e w' => e = .returned (.bool (decide (xss = yss))) ∧ Below w.heap.size w w' := by
  obtain ⟨ts, e1, ht⟩ := h
  obtain ⟨us, e2, hu⟩ := h2
  have HE1 := Lib.hid e1
  have HE2 := Lib.hid e2
  clear e1 e2
  go_enter Tryd.func52, Tryd.ntmps52
  go_wp2
  go_loopw [5] (fun i wr => ∃ k : Nat, k ≤ n ∧ i = .int .i64 k ∧ Below w.heap.size w wr ∧ xss.take k = yss.take k) (fun i _ => n - (intOf i).toNat)
  case atStart => exact ⟨0, Nat.zero_le _, rfl, Below.refl _ _, rfl⟩
  case round =>
    obtain ⟨k, hk, rfl, hb, hsame⟩ := hrel
    have HS := Lib.hid hsame
    clear hsame
    by_cases hlt : k < n
    · obtain ⟨b, off, C, q, c1, xs, rfl, hbs, hx, hcx, hrd, hq⟩ := (ht.below hb).at_ hlt
      obtain ⟨b2, off2, C2, q2, c2, ys, rfl, hbs2, hx2, hcx2, hrd2, hq2⟩ := (hu.below hb).at_ hlt
      have HX : Hid (xss[k]? = some xs) := Lib.hid (by rw [← HE1.out, List.getElem?_map, hx]; rfl)
      have HY : Hid (yss[k]? = some ys) := Lib.hid (by rw [← HE2.out, List.getElem?_map, hx2]; rfl)
      have hq3 : q ≤ 9223372036854775807 := by unfold maxLen at hq; omega
      have hdw : Below wr.heap.size wr wr.drew := (Below.refl _ _).drew
      have HLI := Lib.hid (likeInts_any _ _ _ _ c1 c2 xs ys _ (hrd.below hdw) (hrd2.below hdw) hq3)
      clear hx hx2
      by_cases hxy : xs = ys
      · rw [decide_eq_true hxy] at HLI
        have HXY := Lib.hid hxy
        clear hxy
        go_wp2_with fail
        go_still_tail 8, (by kernel_rfl)
        change wpList _ _ _ _ _ wr.drew
        go_wp2_with fail
        refine HLI.out.mono ?_
        rintro e w4 ⟨rfl, hb4⟩
        have hb5 := hb.trans ((hdw.trans (hb4.mono hdw.size)).mono hb.size)
        go_wp2_with fail
        go_roundw
        case rel => exact ⟨k + 1, by omega, by go_num, hb5, take_sameL xss yss k xs HS.out HX.out (by rw [HXY.out]; exact HY.out)⟩
        case measure => simp [intOf]; omega
      · rw [decide_eq_false hxy] at HLI
        have HN : Hid (decide (xss = yss) = false) := Lib.hid (by
          apply decide_eq_false
          intro e
          apply hxy
          have h1 := HX.out
          rw [e, HY.out] at h1
          injection h1 with h1; exact h1.symm)
        clear hxy
        go_wp2_with fail
        go_still_tail 8, (by kernel_rfl)
        change wpList _ _ _ _ _ wr.drew
        go_wp2_with fail
        refine HLI.out.mono ?_
        rintro e w4 ⟨rfl, hb4⟩
        have hb5 := hb.trans ((hdw.trans (hb4.mono hdw.size)).mono hb.size)
        go_wp2_with fail
        go_ret
        exact ⟨ret_b _ _ HN.out.symm, hb5⟩
    · obtain rfl : k = n := by omega
      have HN : Hid (decide (xss = yss) = true) := Lib.hid (by
        apply decide_eq_true
        have h1 := HS.out
        rw [List.take_of_length_le (by rw [← HE1.out, List.length_map, ht.1]; exact Nat.le_refl _), List.take_of_length_le (by rw [← HE2.out, List.length_map, hu.1]; exact Nat.le_refl _)] at h1
        exact h1)
      go_wp2_with fail
      go_ret
      exact ⟨ret_b _ _ HN.out.symm, hb⟩
theorem likeRows_len (A B : Option Addr) (n m c d : Nat) (w : World) (hnm : n ≠ m) :
    Calls Tryd.prog 52 #[.slice A n c, .slice B m d] w fun e w' => e = .returned (.bool false) ∧ Below w.heap.size w w' := by
  have h1 : ((n : Int) != (m : Int)) = true := by simp; omega
  have h2 : ¬ ((n : Int) = (m : Int)) := by omega
  have h3 : ¬ (n = m) := hnm
  go_enter Tryd.func52, Tryd.ntmps52
  go_wp2
  go_ret
  exact ⟨rfl, Below.refl _ _⟩
theorem RdSS.len {w : World} {A : Option Addr} {n : Nat} {xss : List (List Int)} (h : RdSS w A n xss) : xss.length = n := by
  obtain ⟨ts, e1, ht⟩ := h
  rw [← e1, List.length_map, ht.1]
theorem likeRows_any (A B : Option Addr) (n m c d : Nat) (xss yss : List (List Int)) (w : World) (h : RdSS w A n xss) (h2 : RdSS w B m yss) (hn : n ≤ 9223372036854775807) :
    Calls Tryd.prog 52 #[.slice A n c, .slice B m d] w fun e w' => e = .returned (.bool (decide (xss = yss))) ∧ Below w.heap.size w w' := by
  by_cases e : n = m
  · subst e
    exact likeRows_same A B n c d xss yss w h h2 hn
  · have : decide (xss = yss) = false := decide_eq_false (fun e9 => e (by rw [← h.len, ← h2.len, e9]))
    rw [this]
    exact likeRows_len A B n m c d w e
end Go.Proofs.YtcojodkcpemfdaaDoor
namespace Go.Proofs.YtcojodkcpemfdaaDoor
open Go.RowKit
set_option linter.unusedVariables false
set_option maxRecDepth 100000

/-- The slice value '.slice A n _' reads as the bytes bs. -/
def RdB (w : World) (A : Option Addr) (n : Nat) (bs : List Int) : Prop :=
  bs.length = n ∧ (0 < n → ∃ b off, A = some ⟨b, off, none⟩ ∧ b < w.heap.size ∧ ∀ j x, bs[j]? = some x → w.cell? ⟨b, off + j, none⟩ = some (.int .u8 x))
def WfB (bs : List Int) : Prop := ∀ x ∈ bs, 0 ≤ x ∧ x ≤ 255
theorem RdB.at_ {w : World} {A : Option Addr} {n : Nat} {xs : List Int} (h : RdB w A n xs) (hw : WfB xs) {k : Nat} (hk : k < n) :
    ∃ b off x, A = some ⟨b, off, none⟩ ∧ b < w.heap.size ∧ (0 ≤ x ∧ x ≤ 255) ∧ w.cell? ⟨b, off + k, none⟩ = some (.int .u8 x) := by
  obtain ⟨b, off, e, hb, hc⟩ := h.2 (by omega)
  have hl : k < xs.length := by have := h.1; omega
  exact ⟨b, off, xs[k], e, hb, hw _ (List.getElem_mem hl), hc k _ (List.getElem?_eq_getElem hl)⟩
theorem RdB.keep {w w' : World} {A : Option Addr} {n : Nat} {xs : List Int} (h : RdB w A n xs) (hs : w.heap.size ≤ w'.heap.size) (hk : ∀ p : Addr, p.block < w.heap.size → w'.cell? p = w.cell? p) : RdB w' A n xs :=
  ⟨h.1, fun hn => by
    obtain ⟨b, off, e, hb, hc⟩ := h.2 hn
    exact ⟨b, off, e, by omega, fun j x hx => (hk ⟨b, off + j, none⟩ hb).trans (hc j x hx)⟩⟩
theorem RdB.below {w w' : World} {A : Option Addr} {n : Nat} {xs : List Int} (h : RdB w A n xs) (hb : Below w.heap.size w w') : RdB w' A n xs :=
  h.keep hb.size fun _ hp => hb.cell hp
theorem rdB_of_row {w : World} {a : Option Addr} {len cap : Nat} {zs : List Int}
    (h : (a = none ∧ len = 0 ∧ cap = 0 ∧ zs = []) ∨ ∃ x, a = some x ∧ len ≤ cap ∧ cap ≤ maxLen ∧ zs.length = cap ∧ (∀ i, i < zs.length → w.cell? (x.add i) = some (.int .u8 (zs.getD i 0))) ∧ ∀ n ∈ zs, (Lit.int .u8 n).wf = true) :
    ∃ xs, RdB w a len xs ∧ WfB xs ∧ len ≤ maxLen := by
  rcases h with ⟨rfl, rfl, rfl, rfl⟩ | ⟨x, rfl, hl, hm, hz, hcell, hwz⟩
  · exact ⟨[], ⟨rfl, fun h => absurd h (by omega)⟩, fun x hx => (by cases hx), Nat.zero_le _⟩
  · refine ⟨zs.take len, ⟨by rw [List.length_take]; omega, fun hn => ?_⟩, fun y hy => bounds_u8 (hwz y (List.mem_of_mem_take hy)), by omega⟩
    obtain ⟨b, off, spot⟩ := x
    have hc := hcell 0 (by omega)
    have hspot : spot = none := by simpa [Addr.add] using World.cell?_spot hc
    subst hspot
    have hc0 : w.cell? ⟨b, off, none⟩ = some (.int .u8 (zs.getD 0 0)) := by simpa [Addr.add] using hc
    refine ⟨b, off, rfl, block_lt_of_cell hc0, fun j y hy => ?_⟩
    have hj : j < len := by
      rcases Nat.lt_or_ge j len with h | h
      · exact h
      · rw [List.getElem?_eq_none (by rw [List.length_take]; omega)] at hy; cases hy
    have hc := hcell j (by omega)
    have e : (⟨b, off, none⟩ : Addr).add j = ⟨b, off + j, none⟩ := by
      unfold Addr.add
      by_cases h0 : j = 0 <;> simp [h0]
    rw [e] at hc
    rw [hc]
    rw [List.getElem?_take_of_lt hj] at hy
    rw [List.getD_eq_getElem?_getD, hy]; rfl

theorem cells3 {w : World} {g : Nat} {a b c : Value} {T : TypeId} (h : w.heap[g]? = some (.cells #[a, b, c] T (0, 0))) :
    w.cell? ⟨g, 0, none⟩ = some a ∧ w.cell? ⟨g, 1, none⟩ = some b ∧ w.cell? ⟨g, 2, none⟩ = some c ∧ (∀ k, w.frozen? ⟨g, k, none⟩ = false) := by
  refine ⟨?_, ?_, ?_, fun k => ?_⟩
  · simp [World.cell?, h]
  · simp [World.cell?, h]
  · simp [World.cell?, h]
  · simp [World.frozen?, h]
def andff (y : Int) : Nat := (BitVec.ofInt 64 y).toNat &&& 16777215
theorem andff_le (y : Int) : andff y ≤ 16777215 := Nat.and_le_right
theorem and_ff (y : Int) : bits .and .u64 y 16777215 = ((andff y : Nat) : Int) := by
  have hx := andff_le y
  show IntKind.u64.wrap ((BitVec.ofInt 64 y &&& BitVec.ofInt 64 16777215).toNat : Int) = _
  rw [BitVec.toNat_and]
  have e : (BitVec.ofInt 64 16777215).toNat = 16777215 := by decide
  rw [e]; show IntKind.u64.wrap ((andff y : Nat) : Int) = _
  rw [IntKind.wrap_u64]; omega
theorem u64_some (y : Int) : ∃ H : Nat, H < 18446744073709551616 ∧ IntKind.u64.wrap y = (H : Int) := by
  refine ⟨(y % 18446744073709551616).toNat, by omega, ?_⟩
  rw [IntKind.wrap_u64]; omega
theorem and_some (y : Int) : ∃ X : Nat, X ≤ 16777215 ∧ bits .and .u64 y 16777215 = (X : Int) := ⟨andff y, andff_le y, and_ff y⟩
theorem heap_set {w : World} {g k : Nat} {cs : Array Value} {T : TypeId} (h : w.heap[g]? = some (.cells cs T (0, 0))) (v : Value) : (w.setCell ⟨g, k, none⟩ v).heap[g]? = some (.cells (cs.setIfInBounds k v) T (0, 0)) := by
  simp [World.setCell, Array.getElem?_modify, h]
theorem grown_drewN {w w' : World} {row : Option Nat} (h : w.grownBy w' row) (k : Nat) : w.grownBy (w'.drewN k) row := ⟨h.os, h.tape, h.output, h.size, h.block⟩
/-- The bytes stay while the dice's block is written. -/
theorem RdB.apart {w w' : World} {B g n : Nat} {A : Option Addr} {bs : List Int} (h : RdB w A n bs) (hab : ∀ b, 0 < n → A.map (·.block) = some b → b < B) (hB : B ≤ g) (hg : w.grownBy w' (some g)) : RdB w' A n bs := by
  refine ⟨h.1, fun hn => ?_⟩
  obtain ⟨b, off, e, hb, hc⟩ := h.2 hn
  refine ⟨b, off, e, by have := hg.size; omega, fun j x hx => ?_⟩
  have hbB := hab b hn (by rw [e]; rfl)
  rw [World.cell?_of_block (w := w) (hg.block b hb (by intro e2; injection e2 with e2; omega))]
  exact hc j x hx
end Go.Proofs.YtcojodkcpemfdaaDoor
namespace Go.Proofs.YtcojodkcpemfdaaDoor
open Go.RowKit
set_option linter.unusedVariables false
set_option maxRecDepth 100000

/-- The dice lies in block g: its bytes, how many are used, its state. -/
def Sou (w : World) (B g : Nat) (A : Option Addr) (n c : Nat) (bs : List Int) : Prop :=
  B ≤ g ∧ RdB w A n bs ∧ (∀ b, 0 < n → A.map (·.block) = some b → b < B) ∧ ∃ i h : Nat, i ≤ n ∧ h < 18446744073709551616 ∧ w.heap[g]? = some (.cells #[.slice A n c, .int .i64 (i : Int), .int .u64 (h : Int)] 170 (0, 0))
theorem Sou.drewN {w : World} {B g n c : Nat} {A : Option Addr} {bs : List Int} (h : Sou w B g A n c bs) (k : Nat) : Sou (w.drewN k) B g A n c bs := h
set_option maxHeartbeats 1600000 in
theorem l01Next_any (B g : Nat) (A : Option Addr) (n c m : Nat) (bs : List Int) (w : World) (h : Sou w B g A n c bs) (hwf : WfB bs) (hn : n ≤ 4096) (hm : 1 ≤ m) (hm2 : m ≤ 1073741824) :
    Calls Tryd.prog 106 #[.pointer (some ⟨g, 0, none⟩), .int .i64 (m : Int)] w fun e w' => ∃ r : Nat, r < m ∧ e = .returned (.int .i64 (r : Int)) ∧ Sou w' B g A n c bs ∧ w.grownBy w' (some g) := by
  obtain ⟨hBg, hrd, hab, i, hh, hi, hhh, hblk⟩ := h
  obtain ⟨hc0, hc1, hc2, hfr⟩ := cells3 hblk
  have hf1 := hfr 1
  have hf2 := hfr 2
  obtain ⟨H1, _, hk0⟩ := u64_some ((hh : Int) * 6364136223846793005)
  obtain ⟨H2, hH2, hk1⟩ := u64_some ((H1 : Int) + 1442695040888963407)
  obtain ⟨X, hX, hk2⟩ := and_some ((H2 : Int) / 8589934592)
  have hb1 := heap_set (k := 2) hblk (.int .u64 (H2 : Int))
  have hg1 := grown_set (World.grownBy.refl w (some g)) 2 (.int .u64 (H2 : Int))
  have hglt : g < w.heap.size := block_lt_of_cell hc0
  by_cases hin : i < n
  · obtain ⟨b, off, x, hA, hbs, hx, hcx⟩ := hrd.at_ hwf hin
    have hbB := hab b (by omega) (by rw [hA]; rfl)
    have hbg : b ≠ g := by omega
    have HR := Lib.hid hrd
    have HAB := Lib.hid hab
    have HBK := Lib.hid hb1
    subst hA
    have hblt : ((i : Int) < (n : Int)) := by omega
    have hcx2 : (w.setCell ⟨g, 2, none⟩ (.int .u64 (H2 : Int))).cell? ⟨b, off + i, none⟩ = some (.int .u8 x) := by
      rw [World.cell?_setCell_other w _ _ _ (fun e => by injection e with e1 _ _; omega)]; exact hcx
    obtain ⟨hd0, hd1, hd2, hdf⟩ := cells3 (w := w.setCell ⟨g, 2, none⟩ (.int .u64 (H2 : Int))) hb1
    have hdf1 := hdf 1
    clear hblk hfr hrd hab hb1 hdf
    have hfin : ((((X : Int) + x) % (m : Int)).toNat : Int) = ((X : Int) + x) % (m : Int) ∧ (((X : Int) + x) % (m : Int)).toNat < m := by
      have h1 := Int.emod_nonneg ((X : Int) + x) (show (m : Int) ≠ 0 by omega)
      have h2 := Int.emod_lt_of_pos ((X : Int) + x) (show (0 : Int) < (m : Int) by omega)
      constructor <;> omega
    have HF := Lib.hid hfin
    clear hfin
    go_enter Tryd.func106, Tryd.ntmps106
    go_wp2
    go_quiet (fail)
    go_wp2
    go_quiet (fail)
    go_wp2
    go_ret
    refine ⟨(((X : Int) + x) % (m : Int)).toNat, HF.out.2, ret_i _ _ HF.out.1.symm, ?_, ?_⟩
    · refine ⟨hBg, ?_, HAB.out, i + 1, H2, by omega, hH2, ?_⟩
      · exact HR.out.apart HAB.out hBg (grown_set (grown_drewN hg1 _) 1 _)
      · have := heap_set (w := (w.setCell ⟨g, 2, none⟩ (.int .u64 (H2 : Int))).drewN 0) (k := 1) HBK.out (.int .i64 ((i : Int) + 1))
        exact this
    · exact grown_set (grown_drewN hg1 _) 1 _
  · have hblt : ¬ ((i : Int) < (n : Int)) := by omega
    have HR := Lib.hid hrd
    have HAB := Lib.hid hab
    have HBK := Lib.hid hb1
    obtain ⟨hd0, hd1, hd2, hdf⟩ := cells3 (w := w.setCell ⟨g, 2, none⟩ (.int .u64 (H2 : Int))) hb1
    clear hblk hfr hrd hab hb1 hdf
    have hfin : (((X : Int) % (m : Int)).toNat : Int) = (X : Int) % (m : Int) ∧ ((X : Int) % (m : Int)).toNat < m := by
      have h1 := Int.emod_nonneg (X : Int) (show (m : Int) ≠ 0 by omega)
      have h2 := Int.emod_lt_of_pos (X : Int) (show (0 : Int) < (m : Int) by omega)
      constructor <;> omega
    have HF := Lib.hid hfin
    clear hfin
    go_enter Tryd.func106, Tryd.ntmps106
    go_wp2
    go_quiet (fail)
    go_wp2
    go_ret
    refine ⟨((X : Int) % (m : Int)).toNat, HF.out.2, ret_i _ _ HF.out.1.symm, ?_, ?_⟩
    · refine ⟨hBg, ?_, HAB.out, i, H2, by omega, hH2, ?_⟩
      · exact HR.out.apart HAB.out hBg (grown_drewN hg1 _)
      · exact HBK.out
    · exact grown_drewN hg1 _
theorem l01Next_zero (g : Nat) (m : Int) (w : World) (hm : m < 1) :
    Calls Tryd.prog 106 #[.pointer (some ⟨g, 0, none⟩), .int .i64 m] w fun e w' => e = .returned (.int .i64 0) ∧ w = w' := by
  go_enter Tryd.func106, Tryd.ntmps106
  go_wp2
  go_ret
  exact ⟨rfl, rfl⟩
set_option maxHeartbeats 1600000 in
theorem l01From_any (A : Option Addr) (n c : Nat) (bs : List Int) (w : World) (h : RdB w A n bs) (hab : ∀ b, 0 < n → A.map (·.block) = some b → b < w.heap.size) (hwf : WfB bs) (hn : n ≤ 4096) :
    Calls Tryd.prog 162 #[.slice A n c] w fun e w' => ∃ g, e = .returned (.pointer (some ⟨g, 0, none⟩)) ∧ Sou w' w.heap.size g A n c bs ∧ Below w.heap.size w w' := by
  obtain ⟨H1, hH1, hk1⟩ := u64_some ((9341 : Int) + (n : Int))
  have hk2 : IntKind.u64.wrap (n : Int) = (n : Int) := IntWalk.u64_in _ (by omega)
  go_enter Tryd.func162, Tryd.ntmps162
  go_wp2
  go_loopw [4] (fun i wr => ∃ (k H : Nat), k ≤ n ∧ i = .int .i64 k ∧ H < 18446744073709551616 ∧ Hid (wr.heap[w.heap.size]? = some (.cells #[.slice A n c, .int .i64 0, .int .u64 (H : Int)] 170 (0, 0))) ∧ Below w.heap.size w wr) (fun i _ => n - (intOf i).toNat)
  case atStart => exact ⟨0, H1, Nat.zero_le _, rfl, hH1, Lib.hid (heap_alloc_new w _), (Below.refl _ _).alloc (Nat.le_refl _) _⟩
  case round =>
    obtain ⟨k, H, hk, rfl, hH, HB, hb⟩ := hrel
    obtain ⟨hc0, hc1, hc2, hfr⟩ := cells3 HB.out
    have hf2 := hfr 2
    by_cases hlt : k < n
    · obtain ⟨b, off, x, rfl, hbs, hx, hcx⟩ := (h.below hb).at_ hwf hlt
      have hbB := hab b (by omega) rfl
      obtain ⟨H3, hH3, hq0⟩ := u64_some ((H : Int) * 1099511628211)
      have hq1 : IntKind.u64.wrap x = x := IntWalk.u64_in _ (by omega)
      obtain ⟨H4, hH4, hq2⟩ := u64_some ((H3 : Int) + x)
      obtain ⟨H5, hH5, hq3⟩ := u64_some ((H4 : Int) + 11)
      have HB2 := Lib.hid (heap_set (k := 2) HB.out (.int .u64 (H5 : Int)))
      have hb2 := (hb.setCell (p := ⟨w.heap.size, 2, none⟩) (Nat.le_refl _) (.int .u64 (H5 : Int))).drew
      have hne : b ≠ w.heap.size := by omega
      clear hfr hk1 hk2
      go_wp2
      go_region
      all_goals go_wp2
      go_roundw
      case rel => exact ⟨k + 1, H5, by omega, by go_num, hH5, HB2, hb2⟩
      case measure => simp [intOf]; omega
    · obtain rfl : k = n := by omega
      clear hfr
      go_wp2
      go_ret
      exact ⟨w.heap.size, rfl, ⟨Nat.le_refl _, h.below hb, hab, 0, H, Nat.zero_le _, hH, HB.out⟩, hb⟩
end Go.Proofs.YtcojodkcpemfdaaDoor
namespace Go.Proofs.YtcojodkcpemfdaaDoor
open Go.RowKit
set_option linter.unusedVariables false
set_option maxRecDepth 100000

theorem ownBlock_map {A : Option Addr} {n c q : Nat} (h : (Value.slice A n c).ownBlock = some q) : A.map (·.block) = some q := by
  cases A with
  | none => cases h
  | some a => simpa [Value.ownBlock] using h
theorem size1 (w : World) (o : Obj) : (w.alloc o).heap.size = w.heap.size + 1 := by simp
theorem AlPost.from_ {w w1 w' : World} {VL : Int} {VN : Nat} {VX : List Int} {C : Int} {e : Ending} (h : AlPost w1 VL VN VX C e w') (hb : Below w.heap.size w w1) : AlPost w VL VN VX C e w' := by
  obtain ⟨A, c, rfl, ho, hb2⟩ := h
  exact ⟨A, c, rfl, ho.mono hb.size, hb.trans (hb2.mono hb.size)⟩
/-- What a maker of an alphabet leaves. -/
def MakesAl (w : World) (L : Int) (n : Nat) (xs : List Int) (e : Ending) (w' : World) : Prop :=
  ∃ A c, e = .returned (.agg #[.int .i64 L, .slice A n c]) ∧ Own 2 w' w.heap.size A n c xs ∧ Below w.heap.size w w'
theorem alphabetOf_any (A : Option Addr) (n c : Nat) (xs : List Int) (w : World) (h : Rd w A n xs) (hn : n ≤ 1048576) :
    Calls Tryd.prog 185 #[.slice A n c] w (MakesAl w (n : Int) n xs) := by
  have HB := Lib.hid (below1 w (.cells #[.int .i64 0, .slice none 0 0] 29))
  have hh := h.below HB.out
  go_enter Tryd.func185, Tryd.ntmps185
  go_wp2_with fail
  refine (masksOf_any _ _ _ _ _ hh hn).mono ?_
  rintro e w1 ⟨A1, c1, rfl, ho, hb⟩
  have x1 := (box_new 29 w 0 none 0 0).next hb
  have y0 := x1.c0
  have y1 := x1.c1
  have f0 := x1.fr 0
  have f1 := x1.fr 1
  have hs := size1 w (.cells #[.int .i64 0, .slice none 0 0] 29)
  go_wp2
  refine ret_gen (fun W => Box 29 W w.heap.size (n : Int) A1 n c1 ∧ Own 2 W w.heap.size A1 n c1 xs ∧ Below w.heap.size w W) ⟨x1.set _ _ _ _, ?_, ?_⟩ ?_
  · have ho2 := ho.mono HB.out.size
    have hne : ∀ q, A1.map (·.block) = some q → q ≠ w.heap.size := fun q hq => by have := (ho.lt q hq).1; omega
    exact own_other (own_other ho2 _ _ _ hne) _ _ _ hne
  · exact ((HB.out.trans (hb.mono HB.out.size)).setCell (p := ⟨w.heap.size, 0, none⟩) (Nat.le_refl _) _).setCell (p := ⟨w.heap.size, 1, none⟩) (Nat.le_refl _) _
  · rintro W ⟨x, o, b⟩
    have e0 := x.c0
    have e1 := x.c1
    exact bodyPost_ret (v := .agg #[.int .i64 (n : Int), .slice A1 n c1]) (by simp [results, Tryd.results185, go_sem, e0, e1]) rfl ⟨_, _, rfl, o, b⟩
set_option maxHeartbeats 1600000 in
theorem free_any (n : Nat) (w : World) (hn : n ≤ 62) :
    Calls Tryd.prog 200 #[.int .i64 (n : Int)] w (MakesAl w (n : Int) n (ints (freeM n))) := by
  obtain ⟨i0, hi, hz0, hz1, hz2⟩ := info_parts info_int
  go_enter Tryd.func200, Tryd.ntmps200
  go_wp2_with fail
  have hsz1 := size1 w (.cells #[.int .i64 0, .slice none 0 0] 29)
  obtain ⟨wA, hwA⟩ : ∃ wA, wA = w.alloc (.cells #[.int .i64 0, .slice none 0 0] 29) := ⟨_, rfl⟩
  have HBA := Lib.hid (show Below w.heap.size w wA by rw [hwA]; exact below1 _ _)
  have xA : Box 29 wA w.heap.size 0 none 0 0 := by rw [hwA]; exact box_new _ _ _ _ _ _
  rw [← hwA] at hsz1 ⊢
  have hsz2 := size1 wA (.cells #[] 2)
  have oA : Own 2 (wA.alloc (.cells #[] 2)) wA.heap.size (some ⟨wA.heap.size, 0, none⟩) 0 0 [] := World.ownsRow_lit wA #[] 0 (Nat.le_refl _) (by unfold maxLen; omega) rfl
  rw [hsz1] at oA
  clear hwA
  go_loopw [4] (fun i wr => ∃ (k : Nat) (A1 : Option Addr) (c1 : Nat), k ≤ n ∧ i = .int .i64 k ∧ Box 29 wr (w.heap.size + 1 + 1) (n : Int) A1 k c1 ∧ Box 29 wr w.heap.size 0 none 0 0 ∧ Own 2 wr (w.heap.size + 1) A1 k c1 (ints (freeM k)) ∧ (∀ q, A1.map (·.block) = some q → q ≠ w.heap.size + 1 + 1) ∧ Below w.heap.size w wr) (fun i _ => n - (intOf i).toNat)
  case atStart =>
    refine ⟨0, some ⟨w.heap.size + 1, 0, none⟩, 0, Nat.zero_le _, rfl, ?_, ?_, World.ownsRow.alloc oA _, by intro q hq; cases hq; show ¬ w.heap.size + 1 = _; omega, ?_⟩
    · have h9 := box_new 29 (wA.alloc (.cells #[] 2)) (n : Int) (some ⟨w.heap.size + 1, 0, none⟩) 0 0
      rw [hsz2, hsz1] at h9; exact h9
    · exact xA.next (below2 _ _ _)
    · exact HBA.out.trans ((below2 wA _ _).mono (by omega))
  case round =>
    clear oA xA hsz1 hsz2
    obtain ⟨k, A1, c1, hk, rfl, x1, x0, ho, hne, hb⟩ := hrel
    have y1 := x1.c1
    by_cases hlt : k < n
    · have hk62 : k ≤ 62 := by omega
      have hml : k + 1 ≤ maxLen := by unfold maxLen; omega
      have hby2 : (k + 1) * 8 ≤ 140737488355328 := by omega
      have hlt1 := x1.lt
      have hdr : ∀ o, Below wr.heap.size wr ((wr.alloc o).drew) := fun o => (below1 wr o).drew
      have y1' := fun o => (x1.next (hdr o)).c1
      obtain ⟨P, hP⟩ : ∃ P : Nat, P = 2 ^ k := ⟨_, rfl⟩
      have hone : ∀ ww : World, Calls Tryd.prog 76 #[.int .i64 (k : Int)] ww fun e w' => e = .returned (.int .i64 (P : Int)) ∧ ww = w' := by rw [hP]; exact fun ww => one_any k hk62 ww
      have HNX : Hid (ints (freeM (k + 1)) = ints (freeM k ++ [P])) := Lib.hid (by rw [freeM_next, hP])
      clear hP
      go_wp2_with fail
      go_region_law (first | (refine step_append_lies _ (by rfl) _ _ _ (by rfl) (w.heap.size + 1) 2 i0 _ 1 8 Tryd.underlying22 hi hz0 hz1 hz2 rfl (by omega) (.slice A1 k c1) k ((ints (freeM k)).map (Value.int .i64)) (by rfl) ((World.ownsRow.alloc ho _).drew) ⟨wr.heap.size, 0, none⟩ 1 1 [.int .i64 (P : Int)] (by rfl) (by rfl) (World.news_of_block (cs := #[.int .i64 (P : Int)]) (t := 2) (fr := (0, 0)) (heap_alloc_new wr _)) (by simp [Value.oneCell']) (by omega) hml hby2 (by simp; omega) (wr.heap.size + 1) (by simp) ?_; intro g cap w2 hown hg hat hlt9; have x12 : Box 29 w2 (w.heap.size + 1 + 1) (n : Int) A1 k c1 := (x1.next (hdr _)).apart hg (fun e => hne _ (ownBlock_map e) rfl); have x02 : Box 29 w2 w.heap.size 0 none 0 0 := (x0.next (hdr _)).apart hg (fun e => by have := (ho.lt _ (ownBlock_map e)).1; omega); have z1 := x12.c1; have zf := x12.fr 1) | (go_simp; go_at_call 76; refine (hone _).mono ?_; rintro e w' ⟨rfl, rfl⟩))
      all_goals
        rw [ints_snoc_map, ← HNX.out] at hown
        have hb2 : Below w.heap.size w w2 := (hb.trans ((hdr _).mono hb.size)).grown hg (by have := hb.size; simp; omega) (fun q hq => by have h9 := (World.ownsRow.lt ho q hq).1; omega)
        have hgne : g ≠ w.heap.size + 1 + 1 := by
          rcases hat with h9 | h9
          · exact hne g (ownBlock_map h9)
          · omega
        have x13 := x12.set1 (some ⟨g, 0, none⟩) (k + 1) cap
        have x03 := x02.other (w.heap.size + 1 + 1) 1 (.slice (some ⟨g, 0, none⟩) (k + 1) cap) (by omega)
        have ho3 := own_other (show Own 2 w2 (w.heap.size + 1) (some ⟨g, 0, none⟩) (k + 1) cap (ints (freeM (k + 1))) from hown) (w.heap.size + 1 + 1) 1 (.slice (some ⟨g, 0, none⟩) (k + 1) cap) (by intro q hq; cases hq; exact hgne)
        have hb3 := hb2.setCell (p := ⟨w.heap.size + 1 + 1, 1, none⟩) (by show w.heap.size ≤ w.heap.size + 1 + 1; omega) (.slice (some ⟨g, 0, none⟩) (k + 1) cap)
        clear hg hat hlt9 z1 zf y1' hown
        go_wp2_with fail
        go_roundw
        case rel => exact ⟨k + 1, _, cap, by omega, by go_num, x13, x03, ho3, by intro q hq; cases hq; exact hgne, hb3⟩
        case measure => simp [intOf]; omega
    · obtain rfl : k = n := by omega
      have y0 := x1.c0
      have v0 := x0.c0
      have v1 := x0.c1
      have f0 := x0.fr 0
      have f1 := x0.fr 1
      go_wp2
      refine ret_gen (fun W => Box 29 W w.heap.size (k : Int) A1 k c1 ∧ Own 2 W w.heap.size A1 k c1 (ints (freeM k)) ∧ Below w.heap.size w W) ⟨x0.set _ _ _ _, ?_, ?_⟩ ?_
      · have hnn : ∀ q, A1.map (·.block) = some q → q ≠ w.heap.size := fun q hq => by have := (ho.lt q hq).1; omega
        exact own_other (own_other (ho.mono (by omega)) _ _ _ hnn) _ _ _ hnn
      · exact (hb.setCell (p := ⟨w.heap.size, 0, none⟩) (Nat.le_refl _) _).setCell (p := ⟨w.heap.size, 1, none⟩) (Nat.le_refl _) _
      · rintro W ⟨x, o, b⟩
        have e0 := x.c0
        have e1 := x.c1
        exact bodyPost_ret (v := .agg #[.int .i64 (k : Int), .slice A1 k c1]) (by simp [results, Tryd.results200, go_sem, e0, e1]) rfl ⟨_, _, rfl, o, b⟩
end Go.Proofs.YtcojodkcpemfdaaDoor
namespace Go.Proofs.YtcojodkcpemfdaaDoor
open Go.RowKit
set_option linter.unusedVariables false
set_option maxRecDepth 100000

/-- What a function from an alphabet to an alphabet answers: the letters, the list, the code: for a dependence f of it, else ErrInvalid. -/
def alAns (f : List Nat → List Nat) (L : Int) (xs : List Int) : Int × List Int × Int :=
  if alphB L xs = true then ((((f (xs.map Int.toNat)).length : Nat) : Int), ints (f (xs.map Int.toNat)), 0) else (0, [], 1)
theorem alAns_no (f : List Nat → List Nat) (L : Int) (xs : List Int) (h : alphB L xs = false) : alAns f L xs = (0, [], 1) := by unfold alAns; rw [if_neg (by rw [h]; decide)]
theorem alAns_yes (f : List Nat → List Nat) (n : Nat) (rs : List Nat) (h : alphB (n : Int) (ints rs) = true) : alAns f (n : Int) (ints rs) = ((((f rs).length : Nat) : Int), ints (f rs), 0) := by unfold alAns; rw [if_pos h, ints_toNat]
theorem alAns_small (f : List Nat → List Nat) (b : Nat) (hf : ∀ rs, rs.length ≤ 8 → (f rs).length ≤ b) (L : Int) (xs : List Int) : (alAns f L xs).2.1.length ≤ b := by
  unfold alAns
  split
  · rename_i h
    obtain ⟨rs, rfl, rfl, h8, _, _, hl, _, e⟩ := alphB_nats L xs _ rfl h
    rw [e]
    show (ints _).length ≤ b
    rw [ints_len]; exact hf _ (by rw [hl]; exact h8)
  · exact Nat.zero_le _
theorem minus_n (a b : Nat) (ha : a < 9223372036854775808) (hb : b < 9223372036854775808) (w : World) :
    Calls Tryd.prog 186 #[.int .i64 (a : Int), .int .i64 (b : Int)] w fun e w' => e = .returned (.int .i64 ((dif a b : Nat) : Int)) ∧ w = w' := minus_nat a b ha hb w
set_option maxHeartbeats 1600000 in
theorem complement_any (A : Option Addr) (n c : Nat) (rs : List Nat) (w : World) (h : Rd w A n (ints rs)) (hn : n ≤ 24) (hr : ∀ i, rs.getD i 0 < 2 ^ n) :
    Calls Tryd.prog 214 #[.slice A n c] w (MakesE 84 w n (ints (cplM rs))) := by
  have hlen : rs.length = n := by have := h.1; rw [ints_len] at this; exact this
  have HL := Lib.hid hlen
  clear hlen
  obtain ⟨i0, hi, hz0, hz1, hz2⟩ := info_parts info_set
  have hml : n ≤ maxLen := by unfold maxLen; omega
  have hby : i0.bytes * n ≤ 281474976710656 := by rw [hz2]; omega
  have hn62 : n ≤ 62 := by omega
  have hf63 : 2 ^ n - 1 < 9223372036854775808 := by have := p24 n hn; omega
  go_enter Tryd.func214, Tryd.ntmps214
  go_wp2_with (first | (at_make; refine wpList_make_full _ rfl _ _ _ rfl w.heap.size 84 i0 (.int .i64 0) 1 Tryd.underlying73 hi hz0 hz1 _ _ (n : Int) (n : Int) n rfl rfl rfl rfl hby hml (Nat.le_refl _) ?_; intro w1 hown0 hg1))
  have hown := own_made hown0
  clear hown0
  have hb1 : Below w.heap.size w w1 := (Below.refl _ _).grown hg1 (Nat.le_refl _) (by simp)
  clear hg1
  go_loopw [11] (fun i wr => ∃ (k : Nat) (ds : List Nat), k ≤ n ∧ i = .int .i64 k ∧ ds.length = n ∧ Own 84 wr w.heap.size (some ⟨w.heap.size, 0, none⟩) n n (ints ds) ∧ Below w.heap.size w wr ∧ (∀ i, i < n → ds.getD i 0 = if i < k then cplRow n (rs.getD i 0) i else (List.replicate n 0).getD i 0)) (fun i _ => n - (intOf i).toNat)
  case atStart => exact ⟨0, List.replicate n 0, Nat.zero_le _, rfl, List.length_replicate, hown, hb1, fun i hi => by rw [if_neg (by omega)]⟩
  case round =>
    clear hown hb1
    obtain ⟨k, ds, hk, rfl, hdl, ho, hb, hdw⟩ := hrel
    have HC := Lib.hid hdl
    have HW := Lib.hid hdw
    clear hdl hdw
    by_cases hlt : k < n
    · obtain ⟨b, off, x, rfl, hbs, hx, hcx⟩ := (h.below hb).at_ hlt
      have hx2 := ints_getD rs k (by rw [HL.out]; exact hlt)
      rw [hx2] at hx
      injection hx with hx
      subst hx
      obtain ⟨g, e9, hgB, hcell, hfr, hset⟩ := own_stored ho hlt
      cases e9
      have hst := Lib.hid (set_step (fun i => cplRow n (rs.getD i 0) i) (List.replicate n 0) ds n k HC.out hlt HW.out)
      have hm1 := lt63 hn (hr k)
      have hk62 : k ≤ 62 := by omega
      have hd63 : dif (2 ^ n - 1) (rs.getD k 0) < 9223372036854775808 := Nat.lt_of_le_of_lt (dif_le _ _) hf63
      have ho4 := hset (cplRow n (rs.getD k 0) k)
      have hb4 := hb.setCell (p := ⟨w.heap.size, k, none⟩) (Nat.le_refl _) (.int .i64 ((cplRow n (rs.getD k 0) k : Nat) : Int))
      have hrow : cplRow n (rs.getD k 0) k = dif (2 ^ n - 1) (rs.getD k 0) ||| 2 ^ k := rfl
      obtain ⟨D, hD⟩ : ∃ D, D = rs.getD k 0 := ⟨_, rfl⟩
      rw [← hD] at hcx hm1 hd63 ho4 hb4 hrow
      obtain ⟨F, hF⟩ : ∃ F, F = 2 ^ n - 1 := ⟨_, rfl⟩
      obtain ⟨M, hM⟩ : ∃ M, M = dif F D := ⟨_, rfl⟩
      rw [← hF] at hd63 hrow hf63
      rw [← hM] at hd63 hrow
      have hfirst : ∀ ww : World, Calls Tryd.prog 159 #[.int .i64 (n : Int)] ww fun e w' => e = .returned (.int .i64 (F : Int)) ∧ ww = w' := by rw [hF]; exact fun ww => firstNumbers_any n hn62 ww
      have hminus : ∀ ww : World, Calls Tryd.prog 186 #[.int .i64 (F : Int), .int .i64 (D : Int)] ww fun e w' => e = .returned (.int .i64 (M : Int)) ∧ ww = w' := by rw [hM]; exact fun ww => minus_nat F D hf63 hm1 ww
      obtain ⟨Q, hQ⟩ : ∃ Q, Q = cplRow n D k := ⟨_, rfl⟩
      have hwith : ∀ ww : World, Calls Tryd.prog 77 #[.int .i64 (M : Int), .int .i64 (k : Int)] ww fun e w' => e = .returned (.int .i64 (Q : Int)) ∧ ww = w' := by rw [hQ, hrow]; exact fun ww => with_any M k hd63 hk62 ww
      have HST : Hid (∀ i, i < n → (ds.set k Q).getD i 0 = if i < k + 1 then cplRow n (rs.getD i 0) i else (List.replicate n 0).getD i 0) := by rw [hQ, hD]; exact hst
      rw [← hQ] at ho4 hb4
      clear hD hF hM hQ hset hst hrow
      go_wp2_with (first | (go_at_call 159; refine (hfirst _).mono ?_; rintro e w' ⟨rfl, rfl⟩) | (go_at_call 186; refine (hminus _).mono ?_; rintro e w' ⟨rfl, rfl⟩) | (go_at_call 77; refine (hwith _).mono ?_; rintro e w' ⟨rfl, rfl⟩))
      go_roundw
      case rel => exact ⟨k + 1, ds.set k Q, by omega, by go_num, by rw [List.length_set]; exact HC.out, ho4, hb4, HST.out⟩
      case measure => simp [intOf]; omega
    · obtain rfl : k = n := by omega
      go_wp2
      go_ret
      refine ⟨_, _, rfl, ?_, hb⟩
      rw [← list_eq_getD ds (cplM rs) k HC.out (by rw [cplM_len, HL.out]) (fun i hi => by rw [HW.out i hi, if_pos hi, cplM_at rs i (by have := HL.out; omega), HL.out])]
      exact ho
theorem AlPost.no {w w' : World} (code : Int) (hb : Below w.heap.size w w') : AlPost w 0 0 [] code (.returned (.tuple #[.agg #[.int .i64 0, .slice none 0 0], .int .i64 code])) w' := ⟨none, 0, rfl, Own.nil _ _ _, hb⟩
end Go.Proofs.YtcojodkcpemfdaaDoor
namespace Go.Proofs.YtcojodkcpemfdaaDoor
open Go.RowKit
set_option linter.unusedVariables false
set_option maxRecDepth 100000

theorem own_drew {E : TypeId} {w : World} {B : Nat} {A : Option Addr} {n c : Nat} {xs : List Int} (h : Own E w B A n c xs) : Own E w.drew B A n c xs := World.ownsRow.drew h
theorem grown_drewJ {w w' : World} {row : Option Nat} (h : w.grownBy w' row) : w.grownBy w'.drew row := ⟨h.os, h.tape, h.output, h.size, h.block⟩
theorem below_drew (w : World) : Below w.heap.size w w.drew := (Below.refl _ _).drew
set_option maxHeartbeats 1600000 in
theorem join_any (E B : Nat) (L : Int) (A : Option Addr) (n c a b : Nat) (zs : List Nat) (w : World) (h : Own E w B A n c (ints zs)) (hn : n ≤ 24) (ha : a < n) (hb : b < n) (hz : ∀ i, zs.getD i 0 < 2 ^ n) :
    Calls Tryd.prog 201 #[.agg #[.int .i64 L, .slice A n c], .int .i64 (a : Int), .int .i64 (b : Int)] w fun e w' => e = .returned (.tuple #[]) ∧ Own E w' B A n c (ints (joinM zs a b)) ∧ w.grownBy w' (A.map (·.block)) := by
  have hlen : zs.length = n := by have := h.len; rw [ints_len] at this; exact this
  obtain ⟨g, rfl, hgB, hglt⟩ := h.form (by omega)
  have HB := below1 w (.cells #[.int .i64 L, .slice (some ⟨g, 0, none⟩) n c] 29)
  have x0 := box_new 29 w L (some ⟨g, 0, none⟩) n c
  have o0 := h.below HB
  have hsz := size1 w (.cells #[.int .i64 L, .slice (some ⟨g, 0, none⟩) n c] 29)
  have G0 := Lib.hid (grown_any (grownBy_of_below HB) (some g))
  obtain ⟨w1, hw1⟩ : ∃ w1, w1 = w.alloc (.cells #[.int .i64 L, .slice (some ⟨g, 0, none⟩) n c] 29) := ⟨_, rfl⟩
  rw [← hw1] at x0 o0 G0
  have ha62 : a ≤ 62 := by omega
  have hb62 : b ≤ 62 := by omega
  have hpa63 := p2_lt a ha62
  have hpb63 := p2_lt b hb62
  have hpan : 2 ^ a < 2 ^ n := Nat.pow_lt_pow_right (by decide) ha
  have hpbn : 2 ^ b < 2 ^ n := Nat.pow_lt_pow_right (by decide) hb
  have hz63 : ∀ i, zs.getD i 0 < 9223372036854775808 := fun i => lt63 hn (hz i)
  obtain ⟨PA, hPA⟩ : ∃ PA, PA = 2 ^ a := ⟨_, rfl⟩
  obtain ⟨PB, hPB⟩ : ∃ PB, PB = 2 ^ b := ⟨_, rfl⟩
  have honea : ∀ ww : World, Calls Tryd.prog 76 #[.int .i64 (a : Int)] ww fun e w' => e = .returned (.int .i64 (PA : Int)) ∧ w' = ww := by rw [hPA]; exact fun ww => (one_any a ha62 ww).mono fun _ _ ⟨he, hw⟩ => ⟨he, hw.symm⟩
  have honeb : ∀ ww : World, Calls Tryd.prog 76 #[.int .i64 (b : Int)] ww fun e w' => e = .returned (.int .i64 (PB : Int)) ∧ w' = ww := by rw [hPB]; exact fun ww => (one_any b hb62 ww).mono fun _ _ ⟨he, hw⟩ => ⟨he, hw.symm⟩
  rw [← hPA] at hpa63 hpan
  rw [← hPB] at hpb63 hpbn
  obtain ⟨ys, hys⟩ : ∃ ys, ys = zs.set a (zs.getD a 0 ||| PB) := ⟨_, rfl⟩
  have hyl : ys.length = n := by rw [hys, List.length_set, hlen]
  have hy63 : ∀ i, ys.getD i 0 < 9223372036854775808 := fun i => by
    refine lt63 (n := n) hn ?_
    rw [hys, getD_set zs a _ i (by omega)]
    split
    · exact Nat.or_lt_two_pow (hz a) hpbn
    · exact hz i
  have HJ : Hid (ys.set b (ys.getD b 0 ||| PA) = joinM zs a b) := Lib.hid (by rw [hys, hPB, hPA]; rfl)
  obtain ⟨g', e9, hgB', hcell, hfr, hset⟩ := own_stored (own_drew o0) ha
  cases e9
  have hor1 := or63 (zs.getD a 0) PB (hz63 a) hpb63
  have o1 := hset (zs.getD a 0 ||| PB)
  rw [← hys] at o1
  have HY := Lib.hid hys
  obtain ⟨S, hS⟩ : ∃ S, S = zs.getD a 0 := ⟨_, rfl⟩
  rw [← hS] at hcell hor1 o1 HY
  obtain ⟨Q, hQ⟩ : ∃ Q, Q = S ||| PB := ⟨_, rfl⟩
  rw [← hQ] at hor1 o1
  have x1 := (x0.next (below_drew w1)).other g a (.int .i64 (Q : Int)) (by omega)
  have G1 := Lib.hid (grown_set (grown_drewJ G0.out) a (.int .i64 (Q : Int)))
  have y1 := x0.c1
  have hcellw : w1.cell? ⟨g, a, none⟩ = some (.int .i64 (S : Int)) := hcell
  have hltn : ((a : Int)) < (n : Int) := by omega
  have hltn2 : ((b : Int)) < (n : Int) := by omega
  clear hys hPA hPB hS hQ hset hlen o0 HB hsz hglt
  go_enter Tryd.func201, Tryd.ntmps201
  go_wp2_with fail
  rw [← hw1]
  clear hw1
  go_still_tail 12, (by kernel_rfl)
  still_call (honeb _)
  repeat still_step
  refine wpStill_nil ?_
  change wpList _ _ _ _ _ w1.drew
  go_wp2_with fail
  obtain ⟨W2, hW2⟩ : ∃ W2, W2 = (w1.setCell ⟨g, a, none⟩ (.int .i64 (Q : Int))).drew := ⟨_, rfl⟩
  have o1' : Own E (w1.setCell ⟨g, a, none⟩ (.int .i64 (Q : Int))).drew B (some ⟨g, 0, none⟩) n c (ints ys) := o1
  have x1' : Box 29 (w1.setCell ⟨g, a, none⟩ (.int .i64 (Q : Int))).drew w.heap.size L (some ⟨g, 0, none⟩) n c := x1
  have G1' : Hid (w.grownBy (w1.setCell ⟨g, a, none⟩ (.int .i64 (Q : Int))).drew (some g)) := G1
  clear o1 x1 G1
  rw [← hW2] at o1' x1' G1' ⊢
  clear hcell hfr hW2 y1 hcellw x0
  obtain ⟨g', e9, hgB'', hcell, hfr, hset⟩ := own_stored (own_drew o1') hb
  cases e9
  have hor2 := or63 (ys.getD b 0) PA (hy63 b) hpa63
  have o2 := hset (ys.getD b 0 ||| PA)
  rw [HJ.out] at o2
  have hj2 : ((ys.getD b 0 ||| PA : Nat) : Int) = ((ys.getD b 0 ||| PA : Nat) : Int) := rfl
  obtain ⟨S2, hS2⟩ : ∃ S2, S2 = ys.getD b 0 := ⟨_, rfl⟩
  rw [← hS2] at hcell hor2 o2
  obtain ⟨Q2, hQ2⟩ : ∃ Q2, Q2 = S2 ||| PA := ⟨_, rfl⟩
  rw [← hQ2] at hor2 o2
  have G2 := Lib.hid (grown_set (grown_drewJ G1'.out) b (.int .i64 (Q2 : Int)))
  have y1 := x1'.c1
  have hcellw : W2.cell? ⟨g, b, none⟩ = some (.int .i64 (S2 : Int)) := hcell
  clear hS2 hQ2 hset
  go_still_tail 12, (by kernel_rfl)
  still_call (honea _)
  repeat still_step
  refine wpStill_nil ?_
  change wpList _ _ _ _ _ W2.drew
  go_wp2_with fail
  exact bodyPost_end (results_none Tryd.results201 _ _ _) rfl ⟨rfl, o2, G2.out⟩
/-! ### plain: the part on a list of letters -/
def partD (rs ls : List Nat) (i k : Nat) : Bool := (rs.getD (ls.getD i 0) 0).testBit (ls.getD k 0)
def partM (rs ls : List Nat) : List Nat := relM ls.length (partD rs ls)
end Go.Proofs.YtcojodkcpemfdaaDoor
namespace Go.Proofs.YtcojodkcpemfdaaDoor
open Go.RowKit
set_option linter.unusedVariables false
set_option maxRecDepth 100000

theorem Sou.lt {w : World} {B g n c : Nat} {A : Option Addr} {bs : List Int} (h : Sou w B g A n c bs) : g < w.heap.size := by
  obtain ⟨_, _, _, i, hh, _, _, hblk⟩ := h
  exact block_lt_of_cell (cells3 hblk).1
theorem Sou.kept {w w' : World} {B g n c : Nat} {A : Option Addr} {bs : List Int} (h : Sou w B g A n c bs) {row : Option Nat} (hg : w.grownBy w' row) (hne : ∀ r, row = some r → B ≤ r ∧ r ≠ g) : Sou w' B g A n c bs := by
  have hl := h.lt
  obtain ⟨hBg, hrd, hab, i, hh, hi, hhh, hblk⟩ := h
  refine ⟨hBg, ⟨hrd.1, fun hn => ?_⟩, hab, i, hh, hi, hhh, ?_⟩
  · obtain ⟨b, off, e, hb, hc⟩ := hrd.2 hn
    refine ⟨b, off, e, by have := hg.size; omega, fun j x hx => ?_⟩
    have hbB := hab b hn (by rw [e]; rfl)
    rw [World.cell?_of_block (w := w) (hg.block b hb (fun e2 => by have := (hne b e2.symm).1; omega))]
    exact hc j x hx
  · rw [hg.block g hl (fun e2 => (hne g e2.symm).2 rfl)]; exact hblk
theorem Sou.below {w w' : World} {B g n c : Nat} {A : Option Addr} {bs : List Int} (h : Sou w B g A n c bs) (hb : Below w.heap.size w w') : Sou w' B g A n c bs :=
  h.kept (grownBy_of_below hb) (fun r e => by cases e)
section
variable {w w1 w2 : World} {g : Nat}
theorem gr_trans (h1 : w.grownBy w1 (some g)) (h2 : w1.grownBy w2 (some g)) : w.grownBy w2 (some g) :=
  ⟨h2.os.trans h1.os, h2.tape.trans h1.tape, h2.output.trans h1.output, Nat.le_trans h1.size h2.size, fun k hk hne => by rw [h2.block k (Nat.lt_of_lt_of_le hk h1.size) hne]; exact h1.block k hk hne⟩
theorem gr_row (h1 : w.grownBy w1 (some g)) {row : Option Nat} (h2 : w1.grownBy w2 row) (hr : ∀ r, row = some r → w.heap.size ≤ r) : w.grownBy w2 (some g) :=
  ⟨h2.os.trans h1.os, h2.tape.trans h1.tape, h2.output.trans h1.output, Nat.le_trans h1.size h2.size, fun k hk hne => by
    rw [h2.block k (Nat.lt_of_lt_of_le hk h1.size) (fun e => by have := hr k e.symm; omega)]; exact h1.block k hk hne⟩
theorem gr_below (h1 : w.grownBy w1 (some g)) (h2 : Below w1.heap.size w1 w2) : w.grownBy w2 (some g) := gr_row h1 (grownBy_of_below h2) (fun r e => by cases e)
theorem gr_set (h1 : w.grownBy w1 (some g)) {b k : Nat} (hb : w.heap.size ≤ b) (v : Value) : w.grownBy (w1.setCell ⟨b, k, none⟩ v) (some g) :=
  gr_row h1 (grown_set (World.grownBy.refl w1 (some b)) k v) (fun r e => by injection e with e; omega)
theorem gr_drew (h1 : w.grownBy w1 (some g)) : w.grownBy w1.drew (some g) := ⟨h1.os, h1.tape, h1.output, h1.size, h1.block⟩
theorem gr_of (h : Below w.heap.size w w1) : w.grownBy w1 (some g) := grown_any (grownBy_of_below h) (some g)
end
theorem Rd.apartD {w w' : World} {A : Option Addr} {n : Nat} {xs : List Int} (h : Rd w A n xs) {row : Option Nat} (hg : w.grownBy w' row) (hne : ∀ q, 0 < n → A.map (·.block) = some q → row ≠ some q) : Rd w' A n xs := by
  refine ⟨h.1, fun hn => ?_⟩
  obtain ⟨b, off, e, hb, hc⟩ := h.2 hn
  refine ⟨b, off, e, by have := hg.size; omega, fun j x hx => ?_⟩
  rw [World.cell?_of_block (w := w) (hg.block b hb (fun e2 => hne b hn (by rw [e]; rfl) e2.symm))]
  exact hc j x hx
/-- A draw below a number that may be 0. -/
theorem next_any (B g : Nat) (A : Option Addr) (n c m : Nat) (bs : List Int) (w : World) (h : Sou w B g A n c bs) (hwf : WfB bs) (hn : n ≤ 4096) (hm2 : m ≤ 1073741824) :
    Calls Tryd.prog 106 #[.pointer (some ⟨g, 0, none⟩), .int .i64 (m : Int)] w fun e w' => ∃ r : Nat, r ≤ m - 1 ∧ (1 ≤ m → r < m) ∧ e = .returned (.int .i64 (r : Int)) ∧ Sou w' B g A n c bs ∧ w.grownBy w' (some g) := by
  rcases Nat.lt_or_ge 0 m with h1 | h1
  · exact (l01Next_any B g A n c m bs w h hwf hn h1 hm2).mono fun e w' ⟨r, hr, he, hs, hg⟩ => ⟨r, by omega, fun _ => hr, he, hs, hg⟩
  · exact (l01Next_zero g m w (by omega)).mono fun e w' ⟨he, hw⟩ => ⟨0, by omega, fun h9 => by omega, he, by subst hw; exact h, by subst hw; exact World.grownBy.refl _ _⟩
set_option maxHeartbeats 800000 in
theorem pick_any (B g : Nat) (A : Option Addr) (n c : Nat) (bs : List Int) (C : Option Addr) (k d : Nat) (xs : List Int) (w : World) (h : Sou w B g A n c bs) (hwf : WfB bs) (hn : n ≤ 4096) (hr : Rd w C k xs) (hk : 1 ≤ k) (hk2 : k ≤ 1000) (hne : ∀ q, C.map (·.block) = some q → q ≠ g) :
    Calls Tryd.prog 179 #[.pointer (some ⟨g, 0, none⟩), .slice C k d] w fun e w' => ∃ v : Int, v ∈ xs ∧ e = .returned (.int .i64 v) ∧ Sou w' B g A n c bs ∧ w.grownBy w' (some g) := by
  have HN := Lib.hid (l01Next_any B g A n c k bs w h hwf hn hk (by omega))
  clear h
  go_enter Tryd.func179, Tryd.ntmps179
  go_wp2_with fail
  refine HN.out.mono ?_
  rintro e w1 ⟨r, hrk, rfl, hs, hg⟩
  have HS := Lib.hid hs
  have HG := Lib.hid hg
  have hr1 := hr.apartD hg (fun q _ hq e => by injection e with e; exact hne q hq e.symm)
  obtain ⟨b, off, x, rfl, hbs, hx, hcx⟩ := hr1.at_ hrk
  have HX := Lib.hid (List.mem_of_getElem? hx)
  clear hs hg hr hr1 hx
  go_wp2
  go_ret
  exact ⟨x, HX.out, rfl, HS.out, HG.out⟩
/-- An alphabet that has been drawn. -/
def DrPost (w : World) (B g : Nat) (A : Option Addr) (n c : Nat) (bs : List Int) (e : Ending) (w' : World) : Prop :=
  ∃ (N c1 : Nat) (A1 : Option Addr) (zs : List Nat), N ≤ 8 ∧ (∀ i, zs.getD i 0 < 2 ^ N) ∧ e = .returned (.agg #[.int .i64 (N : Int), .slice A1 N c1]) ∧ Own 2 w' w.heap.size A1 N c1 (ints zs) ∧ Sou w' B g A n c bs ∧ w.grownBy w' (some g)
theorem joinM_lt (ys : List Nat) (N a b : Nat) (hl : ys.length = N) (ha : a < N) (hb : b < N) (hy : ∀ i, ys.getD i 0 < 2 ^ N) : ∀ i, (joinM ys a b).getD i 0 < 2 ^ N := by
  intro i
  have hpa : 2 ^ a < 2 ^ N := Nat.pow_lt_pow_right (by decide) ha
  have hpb : 2 ^ b < 2 ^ N := Nat.pow_lt_pow_right (by decide) hb
  have h1 : ∀ j, (ys.set a (ys.getD a 0 ||| 2 ^ b)).getD j 0 < 2 ^ N := by
    intro j
    rw [getD_set _ _ _ _ (by omega)]
    split
    · exact Nat.or_lt_two_pow (hy a) hpb
    · exact hy j
  show ((ys.set a (ys.getD a 0 ||| 2 ^ b)).set b ((ys.set a (ys.getD a 0 ||| 2 ^ b)).getD b 0 ||| 2 ^ a)).getD i 0 < 2 ^ N
  rw [getD_set _ _ _ _ (by rw [List.length_set]; omega)]
  split
  · exact Nat.or_lt_two_pow (h1 b) hpa
  · exact h1 i
theorem square_lt (i : Nat) : ([11, 7, 14, 13] : List Nat).getD i 0 < 2 ^ 4 := by
  rcases i with _ | _ | _ | _ | i <;> simp
theorem of_picks {v : Int} (h : v ∈ ([2, 2, 3, 4] : List Int)) : ∃ p : Nat, v = (p : Int) ∧ 1 ≤ p ∧ p ≤ 4 := by
  simp only [List.mem_cons, List.not_mem_nil, or_false] at h
  rcases h with h | h | h | h
  · exact ⟨2, h, by omega, by omega⟩
  · exact ⟨2, h, by omega, by omega⟩
  · exact ⟨3, h, by omega, by omega⟩
  · exact ⟨4, h, by omega, by omega⟩
set_option maxHeartbeats 3200000 in
theorem draw_any (B g : Nat) (A : Option Addr) (n c m : Nat) (bs : List Int) (w : World) (h : Sou w B g A n c bs) (hwf : WfB bs) (hn : n ≤ 4096) (h4 : 4 ≤ m) (h8 : m ≤ 8) :
    Calls Tryd.prog 163 #[.pointer (some ⟨g, 0, none⟩), .int .i64 (m : Int)] w (DrPost w B g A n c bs) := by
  have hgl := h.lt
  have hge : ((m : Int) ≥ 4) := by omega
  have hge2 : decide ((4 : Int) ≤ (m : Int)) = true := by simpa using hge
  have HBg := Lib.hid h.1
  have HB1 := Lib.hid (below1 w (.cells #[.int .i64 0, .slice none 0 0] 29))
  have x4 := box_new 29 w 0 none 0 0
  have h1 := h.below HB1.out
  have hs1 := size1 w (.cells #[.int .i64 0, .slice none 0 0] 29)
  obtain ⟨w1, hw1⟩ : ∃ w1, w1 = w.alloc (.cells #[.int .i64 0, .slice none 0 0] 29) := ⟨_, rfl⟩
  have HW1 := Lib.hid hw1
  rw [← hw1] at h1 x4 hs1
  have HB1' : Hid (Below w.heap.size w w1) := Lib.hid (by rw [hw1]; exact HB1.out)
  have HN6 := Lib.hid (l01Next_any B g A n c 6 bs w1 h1 hwf hn (by omega) (by omega))
  clear hw1 HB1
  go_enter Tryd.func163, Tryd.ntmps163
  go_wp2_with fail
  rw [← HW1.out]
  refine HN6.out.mono ?_
  rintro e w2 ⟨r, hr6, rfl, s2, g2⟩
  have x42 := x4.apart g2 (fun e => by injection e with e; omega)
  have G2 : Hid (w.grownBy w2 (some g)) := Lib.hid (gr_trans (gr_of HB1'.out) g2)
  have HSZ2 := Lib.hid g2.size
  clear h1 x4 g2 HN6
  by_cases hr0 : r = 0
  · subst hr0
    have xo := fun o => x42.next (below1 w2 o)
    have y0 := fun o => (xo o).c0
    have y1 := fun o => (xo o).c1
    have f0 := fun o => (xo o).fr 0
    have f1 := fun o => (xo o).fr 1
    clear x42
    go_wp2_with fail
    refine ret_gen (fun W => Box 29 W w.heap.size 4 (some ⟨w2.heap.size, 0, none⟩) 4 4 ∧ Own 2 W w.heap.size (some ⟨w2.heap.size, 0, none⟩) 4 4 (ints [11, 7, 14, 13]) ∧ Sou W B g A n c bs ∧ w.grownBy W (some g)) ⟨(xo _).set _ _ _ _, ?_, ?_, ?_⟩ ?_
    · have hnn : ∀ q, (some ⟨w2.heap.size, 0, none⟩ : Option Addr).map (·.block) = some q → q ≠ w.heap.size := fun q hq => by cases hq; show w2.heap.size ≠ _; have := HSZ2.out; omega
      refine own_other (own_other (Own.mono (B := w2.heap.size) ?_ (by have := HSZ2.out; omega)) _ _ _ hnn) _ _ _ hnn
      exact World.ownsRow_lit w2 _ 4 (Nat.le_refl _) (by unfold maxLen; omega) rfl
    · exact ((s2.below (below1 _ _)).kept (grown_set (World.grownBy.refl _ (some w.heap.size)) 0 _) (fun r hr => by injection hr with hr; subst hr; exact ⟨by have := HBg.out; omega, by omega⟩)).kept (grown_set (World.grownBy.refl _ (some w.heap.size)) 1 _) (fun r hr => by injection hr with hr; subst hr; exact ⟨by have := HBg.out; omega, by omega⟩)
    · exact gr_set (gr_set (gr_below G2.out (below1 _ _)) (Nat.le_refl _) _) (Nat.le_refl _) _
    · rintro W ⟨x, o, s, gg⟩
      have e0 := x.c0
      have e1 := x.c1
      exact bodyPost_ret (v := .agg #[.int .i64 4, .slice (some ⟨w2.heap.size, 0, none⟩) 4 4]) (by simp [results, Tryd.results163, go_sem, e0, e1]) rfl ⟨4, 4, _, _, by omega, square_lt, rfl, o, s, gg⟩
  · have hr0' : ((r : Int) == 0) = false := by simp; omega
    have HNM : Hid (∀ ww, Sou ww B g A n c bs → Calls Tryd.prog 106 #[.pointer (some ⟨g, 0, none⟩), .int .i64 ((m : Int) + 1)] ww fun e w' => ∃ r : Nat, r < m + 1 ∧ e = .returned (.int .i64 (r : Int)) ∧ Sou w' B g A n c bs ∧ ww.grownBy w' (some g)) := Lib.hid (fun ww hs => by
      have h9 := l01Next_any B g A n c (m + 1) bs ww hs hwf hn (by omega) (by omega)
      exact h9)
    have HC := Lib.hid (HNM.out _ s2)
    go_wp2_with fail
    refine HC.out.mono ?_
    rintro e w3 ⟨N, hN, rfl, s3, g3⟩
    have x43 := x42.apart g3 (fun e => by injection e with e; omega)
    have G3 : Hid (w.grownBy w3 (some g)) := Lib.hid (gr_trans G2.out g3)
    have sz3 : w.heap.size + 1 ≤ w3.heap.size := by have := g3.size; have := HSZ2.out; omega
    clear x42 s2 g3 HC
    by_cases h2 : N < 2
    · have HC2 := Lib.hid (HNM.out _ s3)
      go_wp2_with fail
      refine HC2.out.mono ?_
      rintro e w6 ⟨N2, hN2, rfl, s6, g6⟩
      have x46 := x43.apart g6 (fun e => by injection e with e; omega)
      have G6 : Hid (w.grownBy w6 (some g)) := Lib.hid (gr_trans G3.out g6)
      have sz6 : w.heap.size + 1 ≤ w6.heap.size := by have := g6.size; omega
      clear x43 s3 g6 HC2
      have hN62 : N2 ≤ 62 := by omega
      have hN24 : N2 ≤ 24 := by omega
      go_wp2_with fail
      refine (free_any N2 w6 hN62).mono ?_
      rintro e w4 ⟨A1, c1, rfl, o4, b4⟩
      have s4 := s6.below b4
      have x44 := x46.next b4
      have G4 : Hid (w.grownBy w4 (some g)) := Lib.hid (gr_below G6.out b4)
      have sz4 := b4.size
      have HL := Lib.hid (below1 w4 (.cells #[.int .i64 2, .int .i64 2, .int .i64 3, .int .i64 4] 2))
      have hszL := size1 w4 (.cells #[.int .i64 2, .int .i64 2, .int .i64 3, .int .i64 4] 2)
      have sL := s4.below HL.out
      have xL := x44.next HL.out
      have oL := o4.below HL.out
      have hA1 : ∀ q, A1.map (·.block) = some q → w6.heap.size ≤ q ∧ q < w4.heap.size := o4.lt
      have GL : Hid (w.grownBy (w4.alloc (.cells #[.int .i64 2, .int .i64 2, .int .i64 3, .int .i64 4] 2)) (some g)) := Lib.hid (gr_below G4.out HL.out)
      have LR : Rd (w4.alloc (.cells #[.int .i64 2, .int .i64 2, .int .i64 3, .int .i64 4] 2)) (some ⟨w4.heap.size, 0, none⟩) 4 [2, 2, 3, 4] := Own.rd (show Own 2 (w4.alloc (.cells #[.int .i64 2, .int .i64 2, .int .i64 3, .int .i64 4] 2)) w4.heap.size (some ⟨w4.heap.size, 0, none⟩) 4 4 [2, 2, 3, 4] from World.ownsRow_lit w4 _ 4 (Nat.le_refl _) (by unfold maxLen; omega) rfl)
      have HP := Lib.hid (pick_any B g A n c bs (some ⟨w4.heap.size, 0, none⟩) 4 4 [2, 2, 3, 4] _ sL hwf hn LR (by omega) (by omega) (fun q hq => by cases hq; show w4.heap.size ≠ g; omega))
      clear s4 x44 o4 b4 LR s6 x46
      go_wp2_with fail
      refine HP.out.mono ?_
      rintro e w5 ⟨v, hv, rfl, s5, g5⟩
      obtain ⟨pt, rfl, hp1, hp4⟩ := of_picks hv
      have sz5 := g5.size
      have x45 := xL.apart g5 (fun e => by injection e with e; omega)
      have o5 := oL.apart g5 (fun q hq e => by injection e with e; have := (hA1 q hq).1; omega)
      have G5 : Hid (w.grownBy w5 (some g)) := Lib.hid (gr_trans GL.out g5)
      have HB5 := Lib.hid (below1 w5 (.cells #[.int .i64 (N2 : Int), .slice A1 N2 c1] 29))
      have s6z := s5.below HB5.out
      have x46z := x45.next HB5.out
      have o6 := o5.below HB5.out
      have x66 := box_new 29 w5 (N2 : Int) A1 N2 c1
      have G6z : Hid (w.grownBy (w5.alloc (.cells #[.int .i64 (N2 : Int), .slice A1 N2 c1] 29)) (some g)) := Lib.hid (gr_below G5.out HB5.out)
      have HNE : Hid (∀ q, A1.map (·.block) = some q → q ≠ w5.heap.size ∧ q ≠ w.heap.size ∧ w.heap.size ≤ q ∧ q ≠ g ∧ B ≤ q) := Lib.hid (fun q hq => by have := hA1 q hq; have := HBg.out; refine ⟨?_, ?_, ?_, ?_, ?_⟩ <;> omega)
      have hW5 : w.heap.size < w5.heap.size := by omega
      have hgw5 : g ≠ w5.heap.size := by omega
      have HNX : Hid (∀ ww, Sou ww B g A n c bs → Calls Tryd.prog 106 #[.pointer (some ⟨g, 0, none⟩), .int .i64 (pt : Int)] ww fun e w' => ∃ r : Nat, r < pt ∧ e = .returned (.int .i64 (r : Int)) ∧ Sou w' B g A n c bs ∧ ww.grownBy w' (some g)) := Lib.hid (fun ww hs => l01Next_any B g A n c pt bs ww hs hwf hn hp1 (by omega))
      have HLO : Hid (w.heap.size ≤ w6.heap.size) := Lib.hid (by omega)
      clear hv s5 g5 xL oL x45 o5 sL HP hszL hA1 sz4 sz5
      go_wp2_with fail
      go_loopw [8] (fun i wr => ∃ (a : Nat) (zs : List Nat), a ≤ N2 ∧ i = .int .i64 (a : Int) ∧ Box 29 wr w5.heap.size (N2 : Int) A1 N2 c1 ∧ Box 29 wr w.heap.size 0 none 0 0 ∧ Own 2 wr w6.heap.size A1 N2 c1 (ints zs) ∧ (∀ i, zs.getD i 0 < 2 ^ N2) ∧ Sou wr B g A n c bs ∧ w.grownBy wr (some g)) (fun i _ => N2 - (intOf i).toNat)
      case atStart => exact ⟨0, freeM N2, Nat.zero_le _, rfl, x66, x46z, o6, freeM_lt N2, s6z, G6z.out⟩
      case round =>
        clear s6z x46z o6 x66
        obtain ⟨a, zs, ha, rfl, y6, y4, oz, hz, sz, gz⟩ := hrel
        have HZ := Lib.hid hz
        have HGZ := Lib.hid gz
        clear hz gz
        by_cases hlt : a < N2
        · go_wp2_with fail
          go_loopw [9] (fun i wr => ∃ (b : Nat) (zs : List Nat), b ≤ a ∧ i = .int .i64 (b : Int) ∧ Box 29 wr w5.heap.size (N2 : Int) A1 N2 c1 ∧ Box 29 wr w.heap.size 0 none 0 0 ∧ Own 2 wr w6.heap.size A1 N2 c1 (ints zs) ∧ (∀ i, zs.getD i 0 < 2 ^ N2) ∧ Sou wr B g A n c bs ∧ w.grownBy wr (some g)) (fun i _ => a - (intOf i).toNat)
          case atStart => exact ⟨0, zs, Nat.zero_le _, rfl, y6, y4, oz, HZ.out, sz, HGZ.out⟩
          case round =>
            clear y6 y4 oz sz HZ HGZ zs
            rename_i wq
            obtain ⟨b, ys, hb, rfl, z6, z4, oy, hy, sy, gy⟩ := hrel
            have HY := Lib.hid hy
            have HGY := Lib.hid gy
            have HNY := Lib.hid (HNX.out _ sy)
            clear hy gy
            by_cases hlb : b < a
            · go_wp2_with fail
              refine HNY.out.mono ?_
              rintro e w7 ⟨r7, hr7, rfl, s7, g7⟩
              have q6 := z6.apart g7 (fun e => by injection e with e; omega)
              have q4 := z4.apart g7 (fun e => by injection e with e; omega)
              have oq := oy.apart g7 (fun q hq e => by injection e with e; exact (HNE.out q hq).2.2.2.1 e.symm)
              have HG7 := Lib.hid (gr_trans HGY.out g7)
              clear z6 z4 oy sy g7 HNY
              by_cases h70 : r7 = 0
              · subst h70
                have v6 := q6.c0
                have v61 := q6.c1
                have hJ := Lib.hid (join_any 2 w6.heap.size (N2 : Int) A1 N2 c1 a b ys w7 oq hN24 hlt (by omega) HY.out)
                have hlen : ys.length = N2 := by have := oq.len; rw [ints_len] at this; exact this
                have HYL : Hid (∀ i, (joinM ys a b).getD i 0 < 2 ^ N2) := Lib.hid (joinM_lt ys N2 a b hlen hlt (by omega) HY.out)
                clear hlen
                go_wp2_with fail
                refine hJ.out.mono ?_
                rintro e w8 ⟨rfl, o8, g8⟩
                have u6 := q6.apart g8 (fun e => (HNE.out _ e).1 rfl)
                have u4 := q4.apart g8 (fun e => (HNE.out _ e).2.1 rfl)
                have s8 := s7.kept g8 (fun r hr => ⟨(HNE.out r hr).2.2.2.2, (HNE.out r hr).2.2.2.1⟩)
                have HG8 := Lib.hid (gr_row HG7.out g8 (fun r hr => (HNE.out r hr).2.2.1))
                clear hJ q6 q4 oq s7 v6 v61 g8
                go_wp2_with fail
                go_roundw
                case rel => exact ⟨b + 1, joinM ys a b, by omega, by go_num, u6, u4, o8, HYL.out, s8, HG8.out⟩
                case measure => simp [intOf]; omega
              · have h71 : ((r7 : Int) == 0) = false := by simp; omega
                go_wp2_with fail
                go_roundw
                case rel => exact ⟨b + 1, ys, by omega, by go_num, q6, q4, oq, HY.out, s7, HG7.out⟩
                case measure => simp [intOf]; omega
            · obtain rfl : b = a := by omega
              go_wp2_with fail
              go_roundw
              case rel => exact ⟨b + 1, ys, by omega, by go_num, z6, z4, oy, HY.out, sy, HGY.out⟩
              case measure => simp [intOf]; omega
        · obtain rfl : a = N2 := by omega
          have v0 := y6.c0
          have v1 := y6.c1
          have u0 := y4.c0
          have u1 := y4.c1
          have f0 := y4.fr 0
          have f1 := y4.fr 1
          go_wp2_with fail
          refine ret_gen (fun W => Box 29 W w.heap.size (a : Int) A1 a c1 ∧ Own 2 W w.heap.size A1 a c1 (ints zs) ∧ Sou W B g A n c bs ∧ w.grownBy W (some g)) ⟨y4.set _ _ _ _, ?_, ?_, ?_⟩ ?_
          · have hnn : ∀ q, A1.map (·.block) = some q → q ≠ w.heap.size := fun q hq => (HNE.out q hq).2.1
            exact own_other (own_other (oz.mono HLO.out) _ _ _ hnn) _ _ _ hnn
          · exact (sz.kept (grown_set (World.grownBy.refl _ (some w.heap.size)) 0 _) (fun r hr => by injection hr with hr; subst hr; exact ⟨by have := HBg.out; omega, by omega⟩)).kept (grown_set (World.grownBy.refl _ (some w.heap.size)) 1 _) (fun r hr => by injection hr with hr; subst hr; exact ⟨by have := HBg.out; omega, by omega⟩)
          · exact gr_set (gr_set HGZ.out (Nat.le_refl _) _) (Nat.le_refl _) _
          · rintro W ⟨x, o, s, gg⟩
            have e0 := x.c0
            have e1 := x.c1
            exact bodyPost_ret (v := .agg #[.int .i64 (a : Int), .slice A1 a c1]) (by simp [results, Tryd.results163, go_sem, e0, e1]) rfl ⟨_, _, _, _, by omega, HZ.out, rfl, o, s, gg⟩
    · have h2' : ¬ (N : Int) < 2 := by omega
      have hN62 : N ≤ 62 := by omega
      have hN24 : N ≤ 24 := by omega
      go_wp2_with fail
      refine (free_any N w3 hN62).mono ?_
      rintro e w4 ⟨A1, c1, rfl, o4, b4⟩
      have s4 := s3.below b4
      have x44 := x43.next b4
      have G4 : Hid (w.grownBy w4 (some g)) := Lib.hid (gr_below G3.out b4)
      have sz4 := b4.size
      have HL := Lib.hid (below1 w4 (.cells #[.int .i64 2, .int .i64 2, .int .i64 3, .int .i64 4] 2))
      have hszL := size1 w4 (.cells #[.int .i64 2, .int .i64 2, .int .i64 3, .int .i64 4] 2)
      have sL := s4.below HL.out
      have xL := x44.next HL.out
      have oL := o4.below HL.out
      have hA1 : ∀ q, A1.map (·.block) = some q → w3.heap.size ≤ q ∧ q < w4.heap.size := o4.lt
      have GL : Hid (w.grownBy (w4.alloc (.cells #[.int .i64 2, .int .i64 2, .int .i64 3, .int .i64 4] 2)) (some g)) := Lib.hid (gr_below G4.out HL.out)
      have LR : Rd (w4.alloc (.cells #[.int .i64 2, .int .i64 2, .int .i64 3, .int .i64 4] 2)) (some ⟨w4.heap.size, 0, none⟩) 4 [2, 2, 3, 4] := Own.rd (show Own 2 (w4.alloc (.cells #[.int .i64 2, .int .i64 2, .int .i64 3, .int .i64 4] 2)) w4.heap.size (some ⟨w4.heap.size, 0, none⟩) 4 4 [2, 2, 3, 4] from World.ownsRow_lit w4 _ 4 (Nat.le_refl _) (by unfold maxLen; omega) rfl)
      have HP := Lib.hid (pick_any B g A n c bs (some ⟨w4.heap.size, 0, none⟩) 4 4 [2, 2, 3, 4] _ sL hwf hn LR (by omega) (by omega) (fun q hq => by cases hq; show w4.heap.size ≠ g; omega))
      clear s4 x44 o4 b4 LR s3 x43
      go_wp2_with fail
      refine HP.out.mono ?_
      rintro e w5 ⟨v, hv, rfl, s5, g5⟩
      obtain ⟨pt, rfl, hp1, hp4⟩ := of_picks hv
      have sz5 := g5.size
      have x45 := xL.apart g5 (fun e => by injection e with e; omega)
      have o5 := oL.apart g5 (fun q hq e => by injection e with e; have := (hA1 q hq).1; omega)
      have G5 : Hid (w.grownBy w5 (some g)) := Lib.hid (gr_trans GL.out g5)
      have HB5 := Lib.hid (below1 w5 (.cells #[.int .i64 (N : Int), .slice A1 N c1] 29))
      have s6 := s5.below HB5.out
      have x46 := x45.next HB5.out
      have o6 := o5.below HB5.out
      have x66 := box_new 29 w5 (N : Int) A1 N c1
      have G6 : Hid (w.grownBy (w5.alloc (.cells #[.int .i64 (N : Int), .slice A1 N c1] 29)) (some g)) := Lib.hid (gr_below G5.out HB5.out)
      have HNE : Hid (∀ q, A1.map (·.block) = some q → q ≠ w5.heap.size ∧ q ≠ w.heap.size ∧ w.heap.size ≤ q ∧ q ≠ g ∧ B ≤ q) := Lib.hid (fun q hq => by have := hA1 q hq; have := HBg.out; refine ⟨?_, ?_, ?_, ?_, ?_⟩ <;> omega)
      have hW5 : w.heap.size < w5.heap.size := by omega
      have hgw5 : g ≠ w5.heap.size := by omega
      have HNX : Hid (∀ ww, Sou ww B g A n c bs → Calls Tryd.prog 106 #[.pointer (some ⟨g, 0, none⟩), .int .i64 (pt : Int)] ww fun e w' => ∃ r : Nat, r < pt ∧ e = .returned (.int .i64 (r : Int)) ∧ Sou w' B g A n c bs ∧ ww.grownBy w' (some g)) := Lib.hid (fun ww hs => l01Next_any B g A n c pt bs ww hs hwf hn hp1 (by omega))
      have HLO : Hid (w.heap.size ≤ w3.heap.size) := Lib.hid (by omega)
      clear hv s5 g5 xL oL x45 o5 sL HP hszL hA1 sz4 sz5
      go_wp2_with fail
      go_loopw [8] (fun i wr => ∃ (a : Nat) (zs : List Nat), a ≤ N ∧ i = .int .i64 (a : Int) ∧ Box 29 wr w5.heap.size (N : Int) A1 N c1 ∧ Box 29 wr w.heap.size 0 none 0 0 ∧ Own 2 wr w3.heap.size A1 N c1 (ints zs) ∧ (∀ i, zs.getD i 0 < 2 ^ N) ∧ Sou wr B g A n c bs ∧ w.grownBy wr (some g)) (fun i _ => N - (intOf i).toNat)
      case atStart => exact ⟨0, freeM N, Nat.zero_le _, rfl, x66, x46, o6, freeM_lt N, s6, G6.out⟩
      case round =>
        clear s6 x46 o6 x66
        obtain ⟨a, zs, ha, rfl, y6, y4, oz, hz, sz, gz⟩ := hrel
        have HZ := Lib.hid hz
        have HGZ := Lib.hid gz
        clear hz gz
        by_cases hlt : a < N
        · go_wp2_with fail
          go_loopw [9] (fun i wr => ∃ (b : Nat) (zs : List Nat), b ≤ a ∧ i = .int .i64 (b : Int) ∧ Box 29 wr w5.heap.size (N : Int) A1 N c1 ∧ Box 29 wr w.heap.size 0 none 0 0 ∧ Own 2 wr w3.heap.size A1 N c1 (ints zs) ∧ (∀ i, zs.getD i 0 < 2 ^ N) ∧ Sou wr B g A n c bs ∧ w.grownBy wr (some g)) (fun i _ => a - (intOf i).toNat)
          case atStart => exact ⟨0, zs, Nat.zero_le _, rfl, y6, y4, oz, HZ.out, sz, HGZ.out⟩
          case round =>
            clear y6 y4 oz sz HZ HGZ zs
            rename_i wq
            obtain ⟨b, ys, hb, rfl, z6, z4, oy, hy, sy, gy⟩ := hrel
            have HY := Lib.hid hy
            have HGY := Lib.hid gy
            have HNY := Lib.hid (HNX.out _ sy)
            clear hy gy
            by_cases hlb : b < a
            · go_wp2_with fail
              refine HNY.out.mono ?_
              rintro e w7 ⟨r7, hr7, rfl, s7, g7⟩
              have q6 := z6.apart g7 (fun e => by injection e with e; omega)
              have q4 := z4.apart g7 (fun e => by injection e with e; omega)
              have oq := oy.apart g7 (fun q hq e => by injection e with e; exact (HNE.out q hq).2.2.2.1 e.symm)
              have HG7 := Lib.hid (gr_trans HGY.out g7)
              clear z6 z4 oy sy g7 HNY
              by_cases h70 : r7 = 0
              · subst h70
                have v6 := q6.c0
                have v61 := q6.c1
                have hJ := Lib.hid (join_any 2 w3.heap.size (N : Int) A1 N c1 a b ys w7 oq hN24 hlt (by omega) HY.out)
                have hlen : ys.length = N := by have := oq.len; rw [ints_len] at this; exact this
                have HYL : Hid (∀ i, (joinM ys a b).getD i 0 < 2 ^ N) := Lib.hid (joinM_lt ys N a b hlen hlt (by omega) HY.out)
                clear hlen
                go_wp2_with fail
                refine hJ.out.mono ?_
                rintro e w8 ⟨rfl, o8, g8⟩
                have u6 := q6.apart g8 (fun e => (HNE.out _ e).1 rfl)
                have u4 := q4.apart g8 (fun e => (HNE.out _ e).2.1 rfl)
                have s8 := s7.kept g8 (fun r hr => ⟨(HNE.out r hr).2.2.2.2, (HNE.out r hr).2.2.2.1⟩)
                have HG8 := Lib.hid (gr_row HG7.out g8 (fun r hr => (HNE.out r hr).2.2.1))
                clear hJ q6 q4 oq s7 v6 v61 g8
                go_wp2_with fail
                go_roundw
                case rel => exact ⟨b + 1, joinM ys a b, by omega, by go_num, u6, u4, o8, HYL.out, s8, HG8.out⟩
                case measure => simp [intOf]; omega
              · have h71 : ((r7 : Int) == 0) = false := by simp; omega
                go_wp2_with fail
                go_roundw
                case rel => exact ⟨b + 1, ys, by omega, by go_num, q6, q4, oq, HY.out, s7, HG7.out⟩
                case measure => simp [intOf]; omega
            · obtain rfl : b = a := by omega
              go_wp2_with fail
              go_roundw
              case rel => exact ⟨b + 1, ys, by omega, by go_num, z6, z4, oy, HY.out, sy, HGY.out⟩
              case measure => simp [intOf]; omega
        · obtain rfl : a = N := by omega
          have v0 := y6.c0
          have v1 := y6.c1
          have u0 := y4.c0
          have u1 := y4.c1
          have f0 := y4.fr 0
          have f1 := y4.fr 1
          go_wp2_with fail
          refine ret_gen (fun W => Box 29 W w.heap.size (a : Int) A1 a c1 ∧ Own 2 W w.heap.size A1 a c1 (ints zs) ∧ Sou W B g A n c bs ∧ w.grownBy W (some g)) ⟨y4.set _ _ _ _, ?_, ?_, ?_⟩ ?_
          · have hnn : ∀ q, A1.map (·.block) = some q → q ≠ w.heap.size := fun q hq => (HNE.out q hq).2.1
            exact own_other (own_other (oz.mono HLO.out) _ _ _ hnn) _ _ _ hnn
          · exact (sz.kept (grown_set (World.grownBy.refl _ (some w.heap.size)) 0 _) (fun r hr => by injection hr with hr; subst hr; exact ⟨by have := HBg.out; omega, by omega⟩)).kept (grown_set (World.grownBy.refl _ (some w.heap.size)) 1 _) (fun r hr => by injection hr with hr; subst hr; exact ⟨by have := HBg.out; omega, by omega⟩)
          · exact gr_set (gr_set HGZ.out (Nat.le_refl _) _) (Nat.le_refl _) _
          · rintro W ⟨x, o, s, gg⟩
            have e0 := x.c0
            have e1 := x.c1
            exact bodyPost_ret (v := .agg #[.int .i64 (a : Int), .slice A1 a c1]) (by simp [results, Tryd.results163, go_sem, e0, e1]) rfl ⟨_, _, _, _, by omega, HZ.out, rfl, o, s, gg⟩
end Go.Proofs.YtcojodkcpemfdaaDoor
namespace Go.Proofs.YtcojodkcpemfdaaDoor
open Go
set_option linter.unusedVariables false

section
variable {P : Program} {ops : Array Oper} {Q : Exit → Act → World → Prop} {md : Region.Mode} {S : World → Prop} {z : Nat}
/-- Any order from here on, S behind each operation but number z. -/
def anyZ (P : Program) (md : Region.Mode) (ops : Array Oper) (Q : Exit → Act → World → Prop) (z : Nat) (S : World → Prop) : Nat → Array Bool → Act → World → Prop
  | 0, l, a, w => Region.ready md ops l = [] ∧ Q .normal a w
  | f + 1, l, a, w => (Region.ready md ops l = [] → Q .normal a w) ∧ ∀ k, k ∈ Region.ready md ops l → wpOp P ops Q k (fun b u => (k ≠ z → S u) ∧ anyZ P md ops Q z S f (l.setIfInBounds k true) b u) a w
theorem wpAny_of_Z : ∀ (f : Nat) (l : Array Bool) (a : Act) (w : World), anyZ P md ops Q z S f l a w → wpAny P md ops Q f l a w
  | 0, _, _, _, h => h
  | f + 1, _, _, _, h => ⟨h.1, fun k hk => wpOp_mono (fun b u hu => wpAny_of_Z f _ b u hu.2) (h.2 k hk)⟩
theorem getD_of_done {l : Array Bool} {k : Nat} (h1 : l.getD k true = false) (h2 : l.getD k false = true) : False := by
  rcases Nat.lt_or_ge k l.size with hk | hk
  · simp [hk] at h1 h2; simp [h1] at h2
  · simp [Array.getElem?_eq_none hk] at h1
/-- Each of a chain of operations waits for the one ahead of it. -/
def linkB (md : Region.Mode) (ops : Array Oper) : Nat → List Nat → Nat → Bool
  | k, [], z => Region.waitsFor md ops z k
  | k, m :: r, z => Region.waitsFor md ops m k && linkB md ops m r z
def idleB (l : Array Bool) (ch : List Nat) : Bool := ch.all fun m => !(l.getD m true)
theorem no_wait {l : Array Bool} {j p : Nat} (hj : j ∈ Region.ready md ops l) (hw : Region.waitsFor md ops j p = true) (hp : l.getD p true = false) : False := by
  obtain ⟨_, q, hq, hall⟩ := mem_ready.1 hj
  obtain ⟨q2, hq2, e, he, hb, hon⟩ := Region.waitsFor_spec hw
  rw [hq] at hq2
  injection hq2 with hq2
  subst hq2
  exact getD_of_done hp (hon ▸ hall e he hb)
theorem link_idle {l : Array Bool} {j : Nat} (hj : j ∈ Region.ready md ops l) : ∀ (ch : List Nat) (k : Nat), linkB md ops k ch z = true → l.getD k true = false → idleB l ch = true → j ≠ z ∧ ∀ m ∈ ch, j ≠ m
  | [], k, h1, h2, _ => ⟨fun e => no_wait hj (e ▸ h1) h2, fun m hm => by cases hm⟩
  | m :: r, k, h1, h2, h3 => by
    simp only [linkB, Bool.and_eq_true] at h1
    simp only [idleB, List.all_cons, Bool.and_eq_true, Bool.not_eq_true'] at h3
    obtain ⟨h4, h5⟩ := link_idle hj r m h1.2 h3.1 h3.2
    refine ⟨h4, fun q hq => ?_⟩
    rcases List.mem_cons.1 hq with rfl | hq
    · exact fun e => no_wait hj (e ▸ h1.1) h2
    · exact h5 q hq
theorem idle_set {l : Array Bool} {j : Nat} {ch : List Nat} (h : idleB l ch = true) (hne : ∀ m ∈ ch, j ≠ m) : idleB (l.setIfInBounds j true) ch = true := by
  unfold idleB at *
  rw [List.all_eq_true] at *
  intro m hm
  have h9 := h m hm
  rw [getD_set_ne true (hne m hm)]
  exact h9
/-- Number k is taken first, if number z waits for it in the end and S holds in the world at hand. -/
theorem anyZ_first {k : Nat} {o : Oper} {v : Value} (ch : List Nat) (ho : ops[k]? = some o) (hsel : ∀ (j : Nat) (p : Oper) cs b, ops[j]? = some p → p.op ≠ .select cs b) (hz : linkB md ops k ch z = true)
    (hQ : ∀ c a w, Q (.panic c) (a.put o.dst v) w → Q (.panic c) a w) : ∀ (f : Nat) (l : Array Bool) (a : Act) (w : World),
    (∀ j p, ops[j]? = some p → j ≠ k → l.getD j true = false → (∀ e ∈ p.after, Region.binds md e = true → e.on ≠ k) → o.apart ops p = true) → idleB l ch = true →
    k ∈ Region.ready md ops l → YieldsIf P ops S o v a → S w → anyZ P md ops Q z S f (l.setIfInBounds k true) (a.put o.dst v) w → anyZ P md ops Q z S (f + 1) l a w
  | f, l, a, w, hap, hid, hr, hy, hS, hrest => by
    refine ⟨fun e => absurd hr (by rw [e]; exact List.not_mem_nil), fun j hj => ?_⟩
    rcases Nat.decEq j k with hjk | hjk
    · cases f with
      | zero =>
        have h9 := ready_mono hj hjk
        rw [hrest.1] at h9
        exact absurd h9 List.not_mem_nil
      | succ f =>
        obtain ⟨hju, p, hp, hall⟩ := mem_ready.1 hj
        have hku := (mem_ready.1 hr).1
        have hno : ∀ e ∈ p.after, Region.binds md e = true → e.on ≠ k := fun e he hb hek => getD_of_done hku (hek ▸ hall e he hb)
        obtain ⟨hjz, hjm⟩ := link_idle hj ch k hz hku hid
        have hstep := wpOp_putIf hp (hap j p hp hjk hju hno) (fun cs b => hsel k o cs b ho) (fun cs b => hsel j p cs b hp) hQ hy (hrest.2 j (ready_mono hj hjk))
        refine wpOp_mono (fun b u hu => ?_) hstep
        have hSu := hu.2.1 hjz
        refine ⟨fun _ => hSu, anyZ_first ch ho hsel hz hQ f _ b u (fun i q hq hik hiu hin => hap i q hq hik ?_ hin) (idle_set hid hjm) (ready_mono hr (Ne.symm hjk)) hu.1 hSu (by rw [Array.setIfInBounds_comm _ _ hjk]; exact hu.2.2)⟩
        rcases Nat.decEq j i with hji | hji
        · rw [getD_set_ne true hji] at hiu; exact hiu
        · subst hji; exact hju
    · subst hjk
      exact hy.wpOp ho hS ⟨fun _ => hS, hrest⟩
theorem anyZ_take {k : Nat} (ch : List Nat) {o : Oper} {v : Value} {f : Nat} {l : Array Bool} {a : Act} {w : World} (ho : ops[k]? = some o) (hs : Region.noSelect ops = true) (hf : Region.free md ops l k = true) (hr : (Region.ready md ops l).contains k = true) (hz : linkB md ops k ch z = true) (hi : idleB l ch = true)
    (hQ : ∀ c a w, Q (.panic c) (a.put o.dst v) w → Q (.panic c) a w) (hy : YieldsIf P ops S o v a) (hS : S w) (h : anyZ P md ops Q z S f (l.setIfInBounds k true) (a.put o.dst v) w) : anyZ P md ops Q z S (f + 1) l a w :=
  anyZ_first ch ho (Region.noSelect_spec hs) hz hQ f l a w (Region.free_spec ho hf) hi (by simpa using hr) hy hS h
/-- One operation alone can come up. -/
theorem anyZ_one {k : Nat} {o : Oper} {f : Nat} {l : Array Bool} {a : Act} {w : World} (hr : Region.ready md ops l = [k]) (ho : ops[k]? = some o)
    (h : ∀ K : Act → World → Prop, Shut (∀ b u, (k ≠ z → S u) → anyZ P md ops Q z S f (l.setIfInBounds k true) b u → K b u) → if Region.wanted o (yielded ops a.tmps) = true then Oper.wp P o a w K Q else K (a.put o.dst undef) w) : anyZ P md ops Q z S (f + 1) l a w := by
  refine ⟨fun e => (by rw [hr] at e; cases e), fun j hj => ?_⟩
  rw [hr] at hj
  obtain rfl := List.mem_singleton.1 hj
  exact wpOp_step ho (fun K hK => h K (fun b u h1 h2 => hK b u ⟨h1, h2⟩))
theorem anyZ_done {l : Array Bool} {a : Act} {w : World} (hr : Region.ready md ops l = []) (h : Q .normal a w) : ∀ f, anyZ P md ops Q z S f l a w
  | 0 => ⟨hr, h⟩
  | _ + 1 => ⟨fun _ => h, fun k hk => by rw [hr] at hk; cases hk⟩
theorem wp_region_Z (z : Nat) (S : World → Prop) {id : Nat} {a : Act} {w : World} (hm : P.follows .mixedOrders = true) (h : anyZ P .any ops Q z S ops.size (Array.replicate ops.size false) a w.drew) : (Code.region id ops true).wp P Q a w :=
  wp_region_any hm (wpAny_of_Z _ _ _ _ h)
end
end Go.Proofs.YtcojodkcpemfdaaDoor
