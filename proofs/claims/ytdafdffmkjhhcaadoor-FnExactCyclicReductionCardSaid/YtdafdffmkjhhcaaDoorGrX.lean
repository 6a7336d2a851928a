/-
  Slices of slices of numbers, words read from their end (for graph groups).
-/
import Derived.Test.YtdafdffmkjhhcaaDoorM2
import Derived.Test.YtdafdffmkjhhcaaDoorM3
import Derived.Maps.AppendAt
import Derived.StillTailTactics
namespace Go.Proofs.YtdafdffmkjhhcaaDoor
open Go Go.RowKit
set_option linter.unusedVariables false
set_option linter.unusedSimpArgs false
set_option maxRecDepth 100000

/-- A row of slices of the call's own: address, capacity and numbers of each. -/
def valsT (ts : List (Option Addr × Nat × List Int)) : List Value := ts.map fun t => Value.slice t.1 t.2.2.length t.2.1
def OwnT (w : World) (lo hi : Nat) (A : Option Addr) (n c : Nat) (ts : List (Option Addr × Nat × List Int)) : Prop :=
  ts.length = n ∧ w.ownsRow lo 22 1 (.slice A n c) n (valsT ts) ∧ (∀ q, A.map (·.block) = some q → q < hi) ∧
  ∀ (j : Nat) (t : Option Addr × Nat × List Int), ts[j]? = some t → Own 2 w lo t.1 t.2.2.length t.2.1 t.2.2 ∧ ∀ q, t.1.map (·.block) = some q → q < hi ∧ A.map (·.block) ≠ some q ∧ ∀ (l : Nat) (u : Option Addr × Nat × List Int), l ≠ j → ts[l]? = some u → u.1.map (·.block) ≠ some q
def OwnSS (w : World) (lo hi : Nat) (A : Option Addr) (n c : Nat) (xss : List (List Int)) : Prop := ∃ ts, ts.map (fun t => t.2.2) = xss ∧ OwnT w lo hi A n c ts
theorem row_block {w : World} {lo n c : Nat} {E : TypeId} {A : Option Addr} {vs : List Value} (h : w.ownsRow lo E 1 (.slice A n c) n vs) (q : Nat) (hq : A.map (·.block) = some q) : lo ≤ q ∧ q < w.heap.size := by
  refine World.ownsRow.lt h q ?_
  cases A with
  | none => cases hq
  | some a => simpa [Value.ownBlock] using hq
theorem row_kept {w w' : World} {lo n c : Nat} {E : TypeId} {A : Option Addr} {vs : List Value} (h : w.ownsRow lo E 1 (.slice A n c) n vs) {row : Option Nat} (hg : w.grownBy w' row) (hne : ∀ q, A.map (·.block) = some q → row ≠ some q) : w'.ownsRow lo E 1 (.slice A n c) n vs := by
  refine World.ownsRow.kept h hg ?_
  cases A with
  | none => exact .inl rfl
  | some a =>
    refine .inr ?_
    intro e
    exact hne a.block rfl (by simpa [Value.ownBlock] using e.symm)
theorem OwnT.lt {w : World} {lo hi n c : Nat} {A : Option Addr} {ts : List (Option Addr × Nat × List Int)} (h : OwnT w lo hi A n c ts) (q : Nat) (hq : A.map (·.block) = some q) : lo ≤ q ∧ q < hi := ⟨(row_block h.2.1 q hq).1, h.2.2.1 q hq⟩
theorem OwnT.apart {w w' : World} {lo hi n c : Nat} {A : Option Addr} {ts : List (Option Addr × Nat × List Int)} (h : OwnT w lo hi A n c ts) {row : Option Nat} (hg : w.grownBy w' row) (hne : ∀ r, row = some r → r < lo ∨ hi ≤ r) : OwnT w' lo hi A n c ts := by
  refine ⟨h.1, row_kept h.2.1 hg (fun q hq e => ?_), h.2.2.1, fun j t ht => ⟨((h.2.2.2 j t ht).1).apart hg (fun q hq e => ?_), (h.2.2.2 j t ht).2⟩⟩
  · have h1 := h.lt q hq
    rcases hne q e with h2 | h2 <;> omega
  · have h1 := ((h.2.2.2 j t ht).1).lt q hq
    have h3 := ((h.2.2.2 j t ht).2 q hq).1
    rcases hne q e with h2 | h2 <;> omega
theorem OwnSS.apart {w w' : World} {lo hi n c : Nat} {A : Option Addr} {xss : List (List Int)} (h : OwnSS w lo hi A n c xss) {row : Option Nat} (hg : w.grownBy w' row) (hne : ∀ r, row = some r → r < lo ∨ hi ≤ r) : OwnSS w' lo hi A n c xss := by
  obtain ⟨ts, e, ho⟩ := h
  exact ⟨ts, e, ho.apart hg hne⟩
theorem OwnSS.below {w w' : World} {lo hi n c : Nat} {A : Option Addr} {xss : List (List Int)} (h : OwnSS w lo hi A n c xss) (hb : Below w.heap.size w w') : OwnSS w' lo hi A n c xss :=
  h.apart (grownBy_of_below hb) (fun r e => by cases e)
theorem OwnSS.len {w : World} {lo hi n c : Nat} {A : Option Addr} {xss : List (List Int)} (h : OwnSS w lo hi A n c xss) : xss.length = n := by
  obtain ⟨ts, e, ho⟩ := h
  rw [← e, List.length_map]; exact ho.1
/-- What a row of slices reads as. -/
def RdSS (w : World) (A : Option Addr) (n : Nat) (xss : List (List Int)) : Prop := ∃ ts, ts.map (fun t => t.2.2.2) = xss ∧ RdT w A n ts
theorem RdSS.below {w w' : World} {A : Option Addr} {n : Nat} {xss : List (List Int)} (h : RdSS w A n xss) (hb : Below w.heap.size w w') : RdSS w' A n xss := by
  obtain ⟨ts, e, ho⟩ := h
  exact ⟨ts, e, ho.below hb⟩
theorem OwnT.rdT {w : World} {lo hi n c : Nat} {A : Option Addr} {ts : List (Option Addr × Nat × List Int)} (h : OwnT w lo hi A n c ts) (hs : ∀ t, t ∈ ts → t.2.2.length ≤ maxLen) : RdT w A n (ts.map fun t => (t.1, t.2.2.length, t.2.1, t.2.2)) := by
  refine ⟨by rw [List.length_map]; exact h.1, fun t ht => ?_, fun hn => ?_⟩
  · obtain ⟨u, hu, rfl⟩ := List.mem_map.1 ht
    obtain ⟨j, hj⟩ := List.mem_iff_getElem?.1 hu
    exact ⟨(h.2.2.2 j u hj).1.rd, hs u hu⟩
  · obtain ⟨g, cap, hv, hbg, hlt⟩ := World.ownsRow.form h.2.1 hn
    have hA : A = some ⟨g, 0, none⟩ := by injection hv
    subst hA
    refine ⟨g, 0, rfl, hlt, fun j t ht => ?_⟩
    rw [List.getElem?_map] at ht
    cases hu : ts[j]? with
    | none => rw [hu] at ht; cases ht
    | some u =>
      rw [hu] at ht
      injection ht with ht
      subst ht
      have := World.ownsRow.cells h.2.1 (g := g) rfl j (Value.slice u.1 u.2.2.length u.2.1) (by unfold valsT; rw [List.getElem?_map, hu]; rfl)
      rw [add_zero_off] at this
      rw [Nat.zero_add]; exact this
theorem OwnSS.rd {w : World} {lo hi n c : Nat} {A : Option Addr} {xss : List (List Int)} (h : OwnSS w lo hi A n c xss) (hs : ∀ xs, xs ∈ xss → xs.length ≤ maxLen) : RdSS w A n xss := by
  obtain ⟨ts, e, ho⟩ := h
  refine ⟨_, ?_, ho.rdT (fun t ht => hs _ (by rw [← e]; exact List.mem_map_of_mem ht))⟩
  rw [List.map_map, ← e]; rfl
/-- An element's numbers are turned in place. -/
theorem OwnT.set_ {w w' : World} {lo hi n c j : Nat} {A : Option Addr} {ts : List (Option Addr × Nat × List Int)} {t : Option Addr × Nat × List Int} {ys : List Int} (h : OwnT w lo hi A n c ts) (ht : ts[j]? = some t) (hl : ys.length = t.2.2.length) (ho : Own 2 w' lo t.1 ys.length t.2.1 ys) (hg : w.grownBy w' (t.1.map (·.block))) : OwnT w' lo hi A n c (ts.set j (t.1, t.2.1, ys)) := by
  have hj : j < ts.length := by
    rcases Nat.lt_or_ge j ts.length with h9 | h9
    · exact h9
    · rw [List.getElem?_eq_none h9] at ht; cases ht
  have hv : valsT (ts.set j (t.1, t.2.1, ys)) = valsT ts := by
    unfold valsT
    refine List.ext_getElem? fun k => ?_
    rw [List.getElem?_map, List.getElem?_map, List.getElem?_set]
    by_cases e : j = k
    · subst e
      rw [if_pos rfl, if_pos hj, ht]
      show some (Value.slice t.1 ys.length t.2.1) = _
      rw [hl]; rfl
    · rw [if_neg e]
  have ht2 := (h.2.2.2 j t ht).2
  refine ⟨by rw [List.length_set]; exact h.1, ?_, h.2.2.1, fun k u hu => ?_⟩
  · rw [hv]
    exact row_kept h.2.1 hg (fun q hq e => (ht2 q e).2.1 hq)
  · rw [List.getElem?_set] at hu
    by_cases e : j = k
    · subst e
      rw [if_pos rfl, if_pos hj] at hu
      injection hu with hu
      subst hu
      refine ⟨ho, fun q hq => ⟨(ht2 q hq).1, (ht2 q hq).2.1, fun l v hlj hv9 => ?_⟩⟩
      rw [List.getElem?_set, if_neg (fun e => hlj e.symm)] at hv9
      exact (ht2 q hq).2.2 l v hlj hv9
    · rw [if_neg e] at hu
      have h9 := h.2.2.2 k u hu
      refine ⟨h9.1.apart hg (fun q hq e9 => (ht2 q e9).2.2 k u (fun e2 => e e2.symm) hu hq), fun q hq => ⟨(h9.2 q hq).1, (h9.2 q hq).2.1, fun l v hlk hv9 => ?_⟩⟩
      rw [List.getElem?_set] at hv9
      by_cases e2 : j = l
      · subst e2
        rw [if_pos rfl, if_pos hj] at hv9
        injection hv9 with hv9
        subst hv9
        exact (h9.2 q hq).2.2 j t hlk ht
      · rw [if_neg e2] at hv9
        exact (h9.2 q hq).2.2 l v hlk hv9
/-- The marks that the laws put into a row of slices. -/
def marksSS (k : Nat) : List (List Int) → List (List Int)
  | [] => []
  | xs :: r => marks k xs.length :: marksSS (k + xs.length) r
def sumL (xss : List (List Int)) : Nat := (xss.map List.length).sum
theorem marksSS_len (k : Nat) (xss : List (List Int)) : (marksSS k xss).length = xss.length := by
  induction xss generalizing k with
  | nil => rfl
  | cons x r ih => show (marksSS _ r).length + 1 = _; rw [ih]; rfl
theorem sumL_take (xss : List (List Int)) (j : Nat) (xs : List Int) (h : xss[j]? = some xs) : sumL (xss.take (j + 1)) = sumL (xss.take j) + xs.length := by
  unfold sumL
  rw [List.take_add_one, h, List.map_append, List.sum_append]; simp
theorem sumL_le (xss : List (List Int)) (j : Nat) : sumL (xss.take j) ≤ sumL xss := by
  have e := List.take_append_drop j xss
  have : sumL xss = sumL (xss.take j) + sumL (xss.drop j) := by
    unfold sumL
    rw [← List.sum_append, ← List.map_append, e]
  omega
theorem marksSS_at (k : Nat) (xss : List (List Int)) (j : Nat) (xs : List Int) (h : xss[j]? = some xs) : (marksSS k xss)[j]? = some (marks (k + sumL (xss.take j)) xs.length) := by
  induction xss generalizing k j with
  | nil => cases h
  | cons x r ih =>
    cases j with
    | zero =>
      injection h with h
      subst h
      show some _ = _
      simp [sumL]
    | succ j =>
      have := ih (k + x.length) j h
      show (marksSS (k + x.length) r)[j]? = _
      rw [this]
      have e : sumL ((x :: r).take (j + 1)) = x.length + sumL (r.take j) := by simp [sumL]
      rw [e, Nat.add_assoc]
theorem len_sumL (xss : List (List Int)) (xs : List Int) (h : xs ∈ xss) : xs.length ≤ sumL xss := by
  obtain ⟨j, hj⟩ := List.mem_iff_getElem?.1 h
  have h1 := sumL_take xss j xs hj
  have h2 := sumL_le xss (j + 1)
  omega
/-- Nothing has been turned but blocks from lo on, ahead of hi. -/
structure Touched (lo hi : Nat) (w w' : World) : Prop where
  os : w'.os = w.os
  tape : w'.tape = w.tape
  output : w'.output = w.output
  size : w.heap.size ≤ w'.heap.size
  block : ∀ k, k < w.heap.size → (k < lo ∨ hi ≤ k) → w'.heap[k]? = w.heap[k]?
theorem Touched.refl (lo hi : Nat) (w : World) : Touched lo hi w w := ⟨rfl, rfl, rfl, Nat.le_refl _, fun _ _ _ => rfl⟩
theorem Touched.grown {lo hi : Nat} {w w1 w' : World} {row : Option Nat} (h : Touched lo hi w w1) (hg : w1.grownBy w' row) (hr : ∀ r, row = some r → lo ≤ r ∧ r < hi) : Touched lo hi w w' :=
  ⟨hg.os.trans h.os, hg.tape.trans h.tape, hg.output.trans h.output, Nat.le_trans h.size hg.size, fun k hk hne => by
    rw [hg.block k (Nat.lt_of_lt_of_le hk h.size) (fun e => by have := hr k e.symm; omega)]
    exact h.block k hk hne⟩
set_option maxHeartbeats 1600000 in
theorem eqSS_true (A B : Option Addr) (n c d : Nat) (xss : List (List Int)) (w : World) (h : RdSS w A n xss) (h2 : RdSS w B n xss) (hn : n ≤ 9223372036854775807) :
    Calls Tryd.prog 20 #[.slice A n c, .slice B n d] w fun e w' => e = .returned (.bool true) ∧ Below w.heap.size w w' := by
  obtain ⟨ts, e1, ht⟩ := h
  obtain ⟨us, e2, hu⟩ := h2
  have HE : Hid (ts.map (fun t => t.2.2.2) = us.map (fun t => t.2.2.2)) := Lib.hid (e1.trans e2.symm)
  clear e1 e2
  go_enter Tryd.func20, Tryd.ntmps20
  go_wp2
  go_loopw [5] (fun i wr => ∃ k : Nat, k ≤ n ∧ i = .int .i64 k ∧ Below w.heap.size w wr) (fun i _ => n - (intOf i).toNat)
  case atStart => exact ⟨0, Nat.zero_le _, rfl, Below.refl _ _⟩
  case round =>
    obtain ⟨k, hk, rfl, hb⟩ := hrel
    by_cases hlt : k < n
    · obtain ⟨b, off, C, q, c1, xs, rfl, hbs, hx, hcx, hrd, hq⟩ := (ht.below hb).at_ hlt
      obtain ⟨b2, off2, C2, q2, c2, ys, rfl, hbs2, hx2, hcx2, hrd2, hq2⟩ := (hu.below hb).at_ hlt
      have e9 : xs = ys := by
        have := congrArg (fun l => l[k]?) HE.out
        simp only [List.getElem?_map, hx, hx2] at this
        injection this
      subst e9
      have e8 : q2 = q := hrd2.1.symm.trans hrd.1
      subst e8
      have hq3 : q2 ≤ 9223372036854775807 := by unfold maxLen at hq; omega
      have hdw : Below wr.heap.size wr wr.drew := (Below.refl _ _).drew
      clear hx hx2
      go_wp2_with fail
      go_still_tail 8, (by kernel_rfl)
      change wpList _ _ _ _ _ wr.drew
      go_wp2_with fail
      refine (eq_true _ _ _ _ _ xs _ (hrd.below hdw) (hrd2.below hdw) hq3).mono ?_
      rintro e w4 ⟨rfl, hb4⟩
      have hb5 := hb.trans ((hdw.trans (hb4.mono hdw.size)).mono hb.size)
      go_wp2_with fail
      go_roundw
      case rel => exact ⟨k + 1, by omega, by go_num, hb5⟩
      case measure => simp [intOf]; omega
    · obtain rfl : k = n := by omega
      go_wp2_with fail
      go_ret
      exact ⟨rfl, hb⟩
set_option maxHeartbeats 1600000 in
theorem markSS_any (lo hi : Nat) (A : Option Addr) (n c k0 : Nat) (xss : List (List Int)) (w : World) (h : OwnSS w lo hi A n c xss) (hs : sumL xss ≤ 1048576) (hn : n ≤ 1048576) (hk : k0 ≤ 1048576) :
    Calls Tryd.prog 26 #[.slice A n c, .int .i64 (k0 : Int)] w fun e w' => e = .returned (.int .i64 ((k0 + sumL xss : Nat) : Int)) ∧ OwnSS w' lo hi A n c (marksSS k0 xss) ∧ Touched lo hi w w' := by
  obtain ⟨ts0, e0, h0⟩ := h
  have hlen : xss.length = n := by rw [← e0, List.length_map]; exact h0.1
  have HL := Lib.hid hlen
  have HS : Hid (∀ xs, xs ∈ xss → xs.length ≤ 1048576) := Lib.hid (fun xs hx => Nat.le_trans (len_sumL xss xs hx) hs)
  have HE0 := Lib.hid e0
  clear hlen e0
  go_enter Tryd.func26, Tryd.ntmps26
  go_wp2
  go_loopw [1, 5] (fun q i wr => ∃ (t : Nat) (ts : List (Option Addr × Nat × List Int)), t ≤ n ∧ i = .int .i64 t ∧ q = .int .i64 ((k0 + sumL (xss.take t) : Nat) : Int) ∧ ts.map (fun t => t.2.2) = (marksSS k0 xss).take t ++ xss.drop t ∧ OwnT wr lo hi A n c ts ∧ Touched lo hi w wr) (fun _ i _ => n - (intOf i).toNat)
  case atStart => exact ⟨0, ts0, Nat.zero_le _, rfl, rfl, by rw [HE0.out]; rfl, h0, Touched.refl _ _ _⟩
  case round =>
    obtain ⟨t, ts, hle, rfl, rfl, he, ho, htt⟩ := hrel
    have HE := Lib.hid he
    clear he
    by_cases hlt : t < n
    · obtain ⟨ys, hys⟩ : ∃ ys, xss[t]? = some ys := ⟨_, List.getElem?_eq_getElem (by rw [HL.out]; exact hlt)⟩
      obtain ⟨u, hu⟩ : ∃ u, ts[t]? = some u := ⟨_, List.getElem?_eq_getElem (by rw [ho.1]; exact hlt)⟩
      have huy : u.2.2 = ys := by
        have h9 := congrArg (fun l => l[t]?) HE.out
        simp only [List.getElem?_map, hu] at h9
        rw [List.getElem?_append_right (by rw [List.length_take, marksSS_len, HL.out]; omega)] at h9
        rw [List.length_take, marksSS_len, HL.out, Nat.min_eq_left hle, Nat.sub_self, List.getElem?_drop, Nat.add_zero, hys] at h9
        injection h9
      have hou := (ho.2.2.2 t u hu).1
      have hub := (ho.2.2.2 t u hu).2
      have hsm := HS.out ys (List.mem_of_getElem? hys)
      have h2 := sumL_take xss t ys hys
      have h3 := sumL_le xss (t + 1)
      obtain ⟨g, cap, hv, hbg, hlt2⟩ := World.ownsRow.form ho.2.1 (by omega : 0 < n)
      have hA : A = some ⟨g, 0, none⟩ := by injection hv
      have hcx := World.ownsRow.cells ho.2.1 (g := g) (by rw [hA]; rfl) t (Value.slice u.1 u.2.2.length u.2.1) (by unfold valsT; rw [List.getElem?_map, hu]; rfl)
      rw [add_zero_off] at hcx
      subst hA
      rw [huy] at hou hcx
      obtain ⟨K, hK⟩ : ∃ K, K = k0 + sumL (xss.take t) := ⟨_, rfl⟩
      have HN : Hid (k0 + sumL (xss.take (t + 1)) = K + ys.length) := Lib.hid (by rw [hK, h2]; omega)
      have hKb : K ≤ 1073741824 := by omega
      have hmark := mark_any 2 lo u.1 ys.length u.2.1 K ys wr hou hsm hKb
      have hmat := marksSS_at k0 xss t ys hys
      rw [← hK] at hmat ⊢
      have HMAT := Lib.hid hmat
      have HU := Lib.hid hu
      have HUY := Lib.hid huy
      have HYS := Lib.hid hys
      obtain ⟨Q, hQ⟩ : ∃ Q, Q = ys.length := ⟨_, rfl⟩
      have HQ := Lib.hid hQ
      rw [← hQ] at hcx hmark HN
      have hQb : Q ≤ 1048576 := by omega
      obtain ⟨U, cu, us⟩ := u
      have hcx' : wr.cell? ⟨g, t, none⟩ = some (.slice U Q cu) := hcx
      have HUB := Lib.hid hub
      clear hys hu h2 h3 hK hQ hmat huy hou hub hsm hv hcx
      go_wp2_with fail
      refine hmark.mono ?_
      rintro e w4 ⟨rfl, hom, hgm⟩
      have HSET : Hid (OwnT w4 lo hi (some ⟨g, 0, none⟩) n c (ts.set t (U, cu, marks K Q))) := Lib.hid (ho.set_ HU.out (by rw [marks_len, HQ.out]; exact congrArg List.length HUY.out.symm) (by rw [marks_len]; exact hom) hgm)
      have htt2 := htt.grown hgm (fun r hr => ⟨((ho.2.2.2 t _ HU.out).1.lt r hr).1, (HUB.out r hr).1⟩)
      clear ho hom hgm htt hmark
      go_wp2_with fail
      go_roundw
      case rel => exact ⟨t + 1, ts.set t (U, cu, marks K Q), by omega, by go_num, by rw [HN.out, Int.natCast_add], by
        rw [List.map_set, HE.out]
        show (List.take t (marksSS k0 xss) ++ List.drop t xss).set t (marks K Q) = _
        have hl1 : (List.take t (marksSS k0 xss)).length = t := by rw [List.length_take, marksSS_len, HL.out]; omega
        rw [List.set_append, if_neg (by omega), hl1, Nat.sub_self]
        have hd1 : List.drop t xss = (xss[t]'(by rw [HL.out]; exact hlt)) :: List.drop (t + 1) xss := List.drop_eq_getElem_cons _
        rw [hd1, List.set_cons_zero, List.take_add_one, HMAT.out, ← HQ.out]
        simp, HSET.out, htt2⟩
      case measure => simp [intOf]; omega
    · obtain rfl : t = n := by omega
      have e9 : xss.take t = xss := List.take_of_length_le (by rw [HL.out]; exact Nat.le_refl _)
      rw [e9]
      clear e9
      go_wp2_with fail
      go_ret
      refine ⟨rfl, ⟨ts, ?_, ho⟩, htt⟩
      rw [HE.out, List.drop_of_length_le (by rw [HL.out]; exact Nat.le_refl _), List.append_nil, List.take_of_length_le (by rw [marksSS_len, HL.out]; exact Nat.le_refl _)]
set_option maxHeartbeats 1600000 in
theorem heldSS_any (A : Option Addr) (n c k0 : Nat) (xss : List (List Int)) (w : World) (h : RdSS w A n (marksSS k0 xss)) (hs : sumL xss ≤ 1048576) (hl : xss.length = n) (hn : n ≤ 1048576) (hk : k0 ≤ 1048576) :
    Calls Tryd.prog 33 #[.slice A n c, .int .i64 (k0 : Int)] w fun e w' => e = .returned (.int .i64 ((k0 + sumL xss : Nat) : Int)) ∧ w = w' := by
  obtain ⟨ts, e1, ht⟩ := h
  have HE := Lib.hid e1
  have HL := Lib.hid hl
  clear e1 hl
  go_enter Tryd.func33, Tryd.ntmps33
  go_wp2
  go_loop [1, 5] (fun q i => ∃ t : Nat, t ≤ n ∧ i = .int .i64 t ∧ q = .int .i64 ((k0 + sumL (xss.take t) : Nat) : Int)) (fun _ i => n - (intOf i).toNat)
  case atStart => exact ⟨0, Nat.zero_le _, rfl, rfl⟩
  case round =>
    obtain ⟨t, hle, rfl, rfl⟩ := hrel
    by_cases hlt : t < n
    · obtain ⟨b, off, C, q, c1, xs, rfl, hbs, hx, hcx, hrd, hq⟩ := ht.at_ hlt
      obtain ⟨ys, hys⟩ : ∃ ys, xss[t]? = some ys := ⟨_, List.getElem?_eq_getElem (by rw [HL.out]; exact hlt)⟩
      have h1 := marksSS_at k0 xss t ys hys
      rw [← HE.out, List.getElem?_map, hx] at h1
      injection h1 with h1
      have h1' : xs = marks (k0 + sumL (xss.take t)) ys.length := h1
      subst h1'
      have hq1 : q = ys.length := by have := hrd.1; rw [marks_len] at this; exact this.symm
      subst hq1
      have h2 := sumL_take xss t ys hys
      have h3 := sumL_le xss (t + 1)
      obtain ⟨K, hK⟩ : ∃ K, K = k0 + sumL (xss.take t) := ⟨_, rfl⟩
      have HN : Hid (k0 + sumL (xss.take (t + 1)) = K + ys.length) := Lib.hid (by rw [hK, h2]; omega)
      have hKb : K ≤ 1073741824 := by omega
      have hyl : ys.length ≤ 1048576 := by omega
      rw [← hK] at hrd ⊢
      have hheld := held_any C ys.length c1 K w hrd hyl hKb
      obtain ⟨Q, hQ⟩ : ∃ Q, Q = ys.length := ⟨_, rfl⟩
      rw [← hQ] at hcx hheld HN hyl
      have hge : decide (((K + Q : Nat) : Int) < 0) = false := decide_eq_false (by omega)
      have hge2 : decide ((K : Int) + (Q : Int) < 0) = false := decide_eq_false (by omega)
      clear hx hys h1 h2 h3 hK hQ hrd
      go_wp2_with fail
      refine hheld.mono ?_
      rintro e w' ⟨rfl, rfl⟩
      go_wp2_with fail
      go_round
      case rel => exact ⟨t + 1, by omega, by go_num, by rw [HN.out, Int.natCast_add]⟩
      case measure => simp [intOf]; omega
    · obtain rfl : t = n := by omega
      have e9 : xss.take t = xss := List.take_of_length_le (by rw [HL.out]; exact Nat.le_refl _)
      rw [e9]
      clear e9
      go_wp2_with fail
      go_ret
      exact ⟨rfl, rfl⟩

/-- What a function that answers a list of lists and a code leaves. -/
def LssPost (w : World) (VN : Nat) (VX : List (List Int)) (C : Int) (e : Ending) (w' : World) : Prop :=
  ∃ A c, e = .returned (.tuple #[.slice A VN c, .int .i64 C]) ∧ OwnSS w' w.heap.size w'.heap.size A VN c VX ∧ Below w.heap.size w w'
section
variable {w w' : World} {lo hi : Nat}
theorem Touched.under {w0 : World} (ht : Touched lo hi w w') (hb : Below w0.heap.size w0 w) (hl : w0.heap.size ≤ lo) : Below w0.heap.size w0 w' :=
  ⟨ht.os.trans hb.os, ht.tape.trans hb.tape, ht.output.trans hb.output, Nat.le_trans hb.size ht.size, fun k hk => (ht.block k (Nat.lt_of_lt_of_le hk hb.size) (.inl (Nat.lt_of_lt_of_le hk hl))).trans (hb.block k hk)⟩
theorem Box.touched {T : TypeId} {g : Nat} {L : Int} {A : Option Addr} {n c : Nat} (h : Box T w g L A n c) (ht : Touched lo hi w w') (hne : g < lo ∨ hi ≤ g) : Box T w' g L A n c := by
  unfold Box; rw [ht.block g h.lt hne]; exact h
theorem row_touched {b n c : Nat} {E : TypeId} {A : Option Addr} {vs : List Value} (h : w.ownsRow b E 1 (.slice A n c) n vs) (ht : Touched lo hi w w') (hne : ∀ q, A.map (·.block) = some q → q < lo ∨ hi ≤ q) : w'.ownsRow b E 1 (.slice A n c) n vs := by
  refine ⟨h.1, ?_⟩
  rcases h.2 with h0 | ⟨g, cap, cur, e, hb, hg, rest⟩
  · exact .inl h0
  · have hA : A = some ⟨g, 0, none⟩ := by injection e
    have hq : A.map (·.block) = some g := by rw [hA]; rfl
    refine .inr ⟨g, cap, cur, e, hb, ?_, rest⟩
    rw [ht.block g (row_block h g hq).2 (hne g hq)]; exact hg
theorem OwnSS.touched {l u n c : Nat} {A : Option Addr} {xss : List (List Int)} (h : OwnSS w l u A n c xss) (ht : Touched lo hi w w') (hne : u ≤ lo ∨ hi ≤ l) : OwnSS w' l u A n c xss := by
  obtain ⟨ts, e, ho⟩ := h
  refine ⟨ts, e, ho.1, row_touched ho.2.1 ht (fun q hq => ?_), ho.2.2.1, fun j t hj => ⟨row_touched (ho.2.2.2 j t hj).1 ht (fun q hq => ?_), (ho.2.2.2 j t hj).2⟩⟩
  · have h1 := ho.lt q hq
    rcases hne with h2 | h2
    · left; omega
    · right; omega
  · have h1 := ((ho.2.2.2 j t hj).1).lt q hq
    have h3 := ((ho.2.2.2 j t hj).2 q hq).1
    rcases hne with h2 | h2
    · left; omega
    · right; omega
theorem OwnSS.wide {l u l' u' n c : Nat} {A : Option Addr} {xss : List (List Int)} (h : OwnSS w l u A n c xss) (h1 : l' ≤ l) (h2 : u ≤ u') : OwnSS w l' u' A n c xss := by
  obtain ⟨ts, e, ho⟩ := h
  refine ⟨ts, e, ho.1, ?_, fun q hq => Nat.lt_of_lt_of_le (ho.2.2.1 q hq) h2, fun j t hj => ⟨((ho.2.2.2 j t hj).1).mono h1, fun q hq => ⟨Nat.lt_of_lt_of_le ((ho.2.2.2 j t hj).2 q hq).1 h2, ((ho.2.2.2 j t hj).2 q hq).2⟩⟩⟩
  refine ⟨ho.2.1.1, ?_⟩
  rcases ho.2.1.2 with h0 | ⟨g, cap, cur, e, hg, rest⟩
  · exact .inl h0
  · exact .inr ⟨g, cap, cur, e, by omega, rest⟩
theorem OwnSS.nil (l u : Nat) : OwnSS w l u none 0 0 [] :=
  ⟨[], rfl, rfl, World.ownsRow_nil w l _ _, fun q hq => (by cases hq), fun j t hj => (by cases hj)⟩
end
theorem small_of {VX : List (List Int)} {SV : Nat} (h : sumL VX = SV) (hs : SV ≤ 1048576) : ∀ xs, xs ∈ VX → xs.length ≤ maxLen := fun xs hx => by
  have := len_sumL VX xs hx
  unfold maxLen; omega
theorem marksSS_mem : ∀ (VX : List (List Int)) (k : Nat) (ys : List Int), ys ∈ marksSS k VX → ∃ xs, xs ∈ VX ∧ ys.length = xs.length
  | [], _, _, h => by cases h
  | x :: r, k, ys, h => by
    rcases List.mem_cons.1 h with h | h
    · exact ⟨x, List.mem_cons_self, by rw [h, marks_len]⟩
    · obtain ⟨xs, h1, h2⟩ := marksSS_mem r _ ys h
      exact ⟨xs, List.mem_cons_of_mem _ h1, h2⟩
theorem small_marks {VX : List (List Int)} {SV : Nat} (h : sumL VX = SV) (hs : SV ≤ 1048576) : ∀ xs, xs ∈ marksSS 1 VX → xs.length ≤ maxLen := fun ys hy => by
  obtain ⟨xs, h1, h2⟩ := marksSS_mem VX 1 ys hy
  rw [h2]; exact small_of h hs xs h1
theorem markSS_one (lo hi : Nat) (A : Option Addr) (n c : Nat) (xss : List (List Int)) (w : World) (h : OwnSS w lo hi A n c xss) {SV : Nat} (hv : sumL xss = SV) (hs : SV ≤ 1048576) (hn : n ≤ 1048576) :
    Calls Tryd.prog 26 #[.slice A n c, .int .i64 1] w fun e w' => e = .returned (.int .i64 ((1 + SV : Nat) : Int)) ∧ OwnSS w' lo hi A n c (marksSS 1 xss) ∧ Touched lo hi w w' := by
  rw [← hv]
  exact markSS_any lo hi A n c 1 xss w h (by omega) hn (by omega)
theorem heldSS_one (A : Option Addr) (n c : Nat) (xss : List (List Int)) (w : World) (h : RdSS w A n (marksSS 1 xss)) {SV : Nat} (hv : sumL xss = SV) (hs : SV ≤ 1048576) (hn : n ≤ 1048576) :
    Calls Tryd.prog 33 #[.slice A n c, .int .i64 1] w fun e w' => e = .returned (.int .i64 ((1 + SV : Nat) : Int)) ∧ w = w' := by
  have hl : xss.length = n := by
    obtain ⟨ts, e, ht⟩ := h
    have := congrArg List.length e
    rw [List.length_map, ht.1, marksSS_len] at this
    exact this.symm
  rw [← hv]
  exact heldSS_any A n c 1 xss w h (by omega) hl hn (by omega)
theorem info_sls : (Tryd.prog.info? 22).map (fun i => (i.zero, i.size, i.bytes)) = some (some (.slice none 0 0), 1, 24) := by kernel_rfl
theorem own_block (A : Option Addr) (n c : Nat) : (Value.slice A n c).ownBlock = A.map (·.block) := by cases A <;> rfl
theorem alloc_grown {w w' : World} {o : Obj} {row : Option Nat} (hg : (w.alloc o).grownBy w' row) : w.grownBy w' row := by
  have hb := below1 w o
  exact ⟨hg.os.trans hb.os, hg.tape.trans hb.tape, hg.output.trans hb.output, Nat.le_trans hb.size hg.size, fun k hk hne => (hg.block k (Nat.lt_of_lt_of_le hk hb.size) hne).trans (hb.block k hk)⟩
theorem OwnSS.snoc {w w1 w2 : World} {lo n N c : Nat} {A : Option Addr} {v' : Value} {At : Option Addr} {ct : Nat} {ys : List Int}
    {ts : List (Option Addr × Nat × List Int)} (h : OwnT w lo w.heap.size A n c ts) (hb : Below w.heap.size w w1) (ho : Own 2 w1 w.heap.size At N ct ys) (hlo : lo ≤ w.heap.size)
    (hrow : w2.ownsRow lo 22 1 v' (n + 1) (valsT ts ++ [.slice At N ct])) (hg : w1.grownBy w2 (A.map (·.block)))
    (hat : v'.ownBlock = A.map (·.block) ∨ ∃ g, v'.ownBlock = some g ∧ w1.heap.size ≤ g) :
    ∃ A' c', v' = .slice A' (n + 1) c' ∧ OwnSS w2 lo w2.heap.size A' (n + 1) c' (ts.map (fun t => t.2.2) ++ [ys]) := by
  obtain ⟨g9, c', rfl, _, _⟩ := World.ownsRow.form hrow (Nat.succ_pos n)
  obtain ⟨A', hA9⟩ : ∃ A', A' = some (⟨g9, 0, none⟩ : Addr) := ⟨_, rfl⟩
  rw [← hA9] at hrow hat ⊢
  have ht := h
  have hN : ys.length = N := ho.len
  have hsz : w.heap.size ≤ w1.heap.size := hb.size
  have hsz2 : w1.heap.size ≤ w2.heap.size := hg.size
  have hA : ∀ q, A.map (·.block) = some q → lo ≤ q ∧ q < w.heap.size := fun q hq => row_block ht.2.1 q hq
  have hAt : ∀ q, At.map (·.block) = some q → w.heap.size ≤ q ∧ q < w1.heap.size := fun q hq => ho.lt q hq
  have hA' : ∀ q, A'.map (·.block) = some q → A.map (·.block) = some q ∨ w1.heap.size ≤ q := fun q hq => by
    rw [own_block] at hat
    rcases hat with h9 | ⟨g, h9, h8⟩
    · exact .inl (h9 ▸ hq)
    · rw [hq] at h9; injection h9 with h9; exact .inr (by omega)
  refine ⟨A', c', rfl, ts ++ [(At, ct, ys)], by rw [List.map_append]; rfl, by rw [List.length_append, ht.1]; rfl, ?_, fun q hq => (row_block hrow q hq).2, fun j t hj => ?_⟩
  · have : valsT (ts ++ [(At, ct, ys)]) = valsT ts ++ [.slice At N ct] := by unfold valsT; rw [List.map_append, ← hN]; rfl
    rw [this]; exact hrow
  · rcases Nat.lt_or_ge j ts.length with hlt | hge
    · rw [List.getElem?_append_left hlt] at hj
      have h9 := ht.2.2.2 j t hj
      have hblk : ∀ q, t.1.map (·.block) = some q → q < w.heap.size := fun q hq => (h9.1.lt q hq).2
      refine ⟨(h9.1.below hb).apart hg (fun q hq e9 => (h9.2 q hq).2.1 e9), fun q hq => ⟨by have := hblk q hq; omega, fun e9 => ?_, fun l u hl hu => ?_⟩⟩
      · rcases hA' q e9 with h8 | h8
        · exact (h9.2 q hq).2.1 h8
        · have := hblk q hq; omega
      · rcases Nat.lt_or_ge l ts.length with hl2 | hl2
        · rw [List.getElem?_append_left hl2] at hu
          exact (h9.2 q hq).2.2 l u hl hu
        · rw [List.getElem?_append_right hl2] at hu
          cases hd : l - ts.length with
          | zero =>
            rw [hd] at hu
            injection hu with hu
            subst hu
            intro e8
            have := (hAt q e8).1; have := hblk q hq; omega
          | succ k => rw [hd] at hu; cases hu
    · rw [List.getElem?_append_right hge] at hj
      cases hd : j - ts.length with
      | zero =>
        rw [hd] at hj
        injection hj with hj
        subst hj
        have hjl : j = ts.length := by omega
        refine ⟨?_, fun q hq => ⟨by have := (hAt q hq).2; omega, fun e9 => ?_, fun l u hl hu e8 => ?_⟩⟩
        · show Own 2 w2 lo At ys.length ct ys
          rw [hN]
          exact (ho.mono hlo).apart hg (fun q hq e9 => by have := (hA q e9).2; have := (hAt q hq).1; omega)
        · have h7 := hAt q hq
          rcases hA' q e9 with h8 | h8
          · have := (hA q h8).2; omega
          · omega
        · rcases Nat.lt_or_ge l ts.length with hl2 | hl2
          · rw [List.getElem?_append_left hl2] at hu
            have := ((ht.2.2.2 l u hu).1.lt q e8).2
            have := (hAt q hq).1; omega
          · rw [List.getElem?_append_right hl2] at hu
            have : l - ts.length ≠ 0 := by omega
            cases hk : l - ts.length with
            | zero => exact this hk
            | succ k => rw [hk] at hu; cases hu
      | succ k => rw [hd] at hj; cases hj
def revM (ds : List Nat) (i : Nat) : List Nat := (List.range ds.length).map fun p => ds.getD (if p < i ∨ ds.length - i ≤ p then ds.length - 1 - p else p) 0
theorem revM_len (ds : List Nat) (i : Nat) : (revM ds i).length = ds.length := by simp [revM]
theorem revM_at (ds : List Nat) (i p : Nat) (hp : p < ds.length) : (revM ds i).getD p 0 = ds.getD (if p < i ∨ ds.length - i ≤ p then ds.length - 1 - p else p) 0 := getD_range_map _ _ _ hp
theorem revM_zero (ds : List Nat) : revM ds 0 = ds := by
  refine list_eq_getD _ _ ds.length (revM_len _ _) rfl fun p hp => ?_
  rw [revM_at _ _ _ hp, if_neg (by omega)]
theorem revM_next (ds : List Nat) (i j : Nat) (hij : i < j) (hj : i + j + 1 = ds.length) : ((revM ds i).set i ((revM ds i).getD j 0)).set j ((revM ds i).getD i 0) = revM ds (i + 1) := by
  refine list_eq_getD _ _ ds.length (by rw [List.length_set, List.length_set, revM_len]) (revM_len _ _) fun p hp => ?_
  rw [getD_set _ _ _ _ (by rw [List.length_set, revM_len]; omega), getD_set _ _ _ _ (by rw [revM_len]; omega), revM_at _ _ i (by omega), revM_at _ _ j (by omega), revM_at _ _ p hp, revM_at _ (i + 1) p hp]
  by_cases h1 : p = j
  · subst h1
    rw [if_pos rfl, if_neg (by omega), if_pos (by omega)]
    congr 1; omega
  · rw [if_neg h1]
    by_cases h2 : p = i
    · subst h2
      rw [if_pos rfl, if_neg (by omega), if_pos (by omega)]
      congr 1; omega
    · rw [if_neg h2]
      by_cases h3 : p < i ∨ ds.length - i ≤ p
      · rw [if_pos h3, if_pos (by omega)]
      · rw [if_neg h3, if_neg (by omega)]
theorem revM_end (ds : List Nat) (i : Nat) (h : ds.length ≤ 2 * i + 1) : revM ds i = ds.reverse := by
  refine list_eq_getD _ _ ds.length (revM_len _ _) List.length_reverse fun p hp => ?_
  rw [revM_at _ _ _ hp]
  have e : ds.reverse.getD p 0 = ds.getD (ds.length - 1 - p) 0 := by
    rw [List.getD_eq_getElem?_getD, List.getElem?_reverse hp, List.getD_eq_getElem?_getD]
  rw [e]
  split
  · rfl
  · congr 1; omega
set_option maxHeartbeats 1600000 in
theorem rev_some (B g n c : Nat) (ds : List Nat) (w : World) (h : Own 2 w B (some ⟨g, 0, none⟩) n c (ints ds)) (hn : n ≤ 1048576) :
    Calls Tryd.prog 180 #[.slice (some ⟨g, 0, none⟩) n c] w fun e w' => e = .returned (.tuple #[]) ∧ Own 2 w' B (some ⟨g, 0, none⟩) n c (ints ds.reverse) ∧ w.grownBy w' (some g) := by
  have hlen : ds.length = n := by have := h.len; rw [ints_len] at this; exact this
  have HL := Lib.hid hlen
  have mixed : Tryd.prog.follows .mixedOrders = true := by kernel_rfl
  have hw0 : wrap64 ((n : Int) - 1) = (n : Int) - 1 := by unfold wrap64; omega
  clear hlen
  go_enter Tryd.func180, Tryd.ntmps180
  go_wp2_with fail
  go_loopw [2, 3] (fun p q wr => ∃ k : Nat, 2 * k ≤ n + 1 ∧ p = .int .i64 (k : Int) ∧ q = .int .i64 ((n : Int) - 1 - (k : Int)) ∧ Own 2 wr B (some ⟨g, 0, none⟩) n c (ints (revM ds k)) ∧ w.grownBy wr (some g)) (fun p _ _ => n + 1 - (intOf p).toNat)
  case atStart => exact ⟨0, by omega, rfl, by simp, by rw [revM_zero]; exact h, World.grownBy.refl _ _⟩
  case round =>
    obtain ⟨k, hk, rfl, rfl, ho, hg⟩ := hrel
    by_cases hlt : 2 * k + 1 < n
    · obtain ⟨q, hq⟩ : ∃ q, q = n - 1 - k := ⟨_, rfl⟩
      have hqe : (n : Int) - 1 - (k : Int) = (q : Int) := by omega
      rw [hqe]
      have hnext := revM_next ds k q (by omega) (by rw [HL.out]; omega)
      obtain ⟨ga, ea, _, hca, hfa, hseta⟩ := own_stored ho (k := k) (by omega)
      cases ea
      obtain ⟨gb, eb, _, hcb, hfb, _⟩ := own_stored ho (k := q) (by omega)
      cases eb
      have h1 := hseta ((revM ds k).getD q 0)
      obtain ⟨gc, ec, _, _, _, hsetb⟩ := own_stored h1 (k := q) (by omega)
      cases ec
      have h2 := hsetb ((revM ds k).getD k 0)
      rw [hnext] at h2
      obtain ⟨X, hX⟩ : ∃ X, X = (revM ds k).getD k 0 := ⟨_, rfl⟩
      obtain ⟨Y, hY⟩ : ∃ Y, Y = (revM ds k).getD q 0 := ⟨_, rfl⟩
      rw [← hX] at hca h2
      rw [← hY] at hcb h2
      have hkn : k < n := by omega
      have hqn : q < n := by omega
      have hkq : (k : Int) < (q : Int) := by omega
      have hne1 : ¬ k = q := by omega
      have hne2 : ¬ q = k := by omega
      have H2 := Lib.hid h2
      have HQ := Lib.hid hqe
      have hg2 := grown_drew (grown_set (grown_set hg k (.int .i64 (Y : Int))) q (.int .i64 (X : Int)))
      have HG2 := Lib.hid hg2
      have hz1 : (0 : Int) ≤ (k : Int) := Int.natCast_nonneg _
      have hz2 : (0 : Int) ≤ (q : Int) := Int.natCast_nonneg _
      have hz3 : (k : Int) < (n : Int) := Int.ofNat_lt.2 hkn
      have hz4 : (q : Int) < (n : Int) := Int.ofNat_lt.2 hqn
      have ht1 : ((k : Int)).toNat = k := by simp
      have ht2 : ((q : Int)).toNat = q := by simp
      clear hX hY hq hseta hsetb h1 h2 hnext hg2 ho hg hqe hw0
      go_wp2_with fail
      go_big_region_o
      clear hz1 hz2 hz3 hz4 ht1 ht2 hca hcb hfa hfb
      go_wp2_with fail
      go_roundw
      case rel => exact ⟨k + 1, by omega, by go_num, by (have := HQ.out; go_num), H2.out, HG2.out⟩
      case measure => simp [intOf]; omega
    · have HEND : Hid (revM ds k = ds.reverse) := Lib.hid (revM_end ds k (by rw [HL.out]; omega))
      have hnl : ¬ ((k : Int) < (n : Int) - 1 - (k : Int)) := by omega
      have hd : decide ((k : Int) < (n : Int) - 1 - (k : Int)) = false := decide_eq_false hnl
      go_wp2_with fail
      exact bodyPost_end (results_none Tryd.results180 _ _ _) rfl ⟨rfl, by rw [← HEND.out]; exact ho, hg⟩
theorem rev_any (B n c : Nat) (A : Option Addr) (ds : List Nat) (w : World) (h : Own 2 w B A n c (ints ds)) (hn : n ≤ 1048576) :
    Calls Tryd.prog 180 #[.slice A n c] w fun e w' => e = .returned (.tuple #[]) ∧ Own 2 w' B A n c (ints ds.reverse) ∧ w.grownBy w' (A.map (·.block)) := by
  rcases Nat.eq_zero_or_pos n with h0 | h0
  · subst h0
    have hnil : ds = [] := List.eq_nil_of_length_eq_zero (by have := h.len; rw [ints_len] at this; exact this)
    subst hnil
    go_enter Tryd.func180, Tryd.ntmps180
    go_wp2_with fail
    go_loopw [2, 3] (fun p q wr => p = .int .i64 0 ∧ q = .int .i64 (-1) ∧ wr = w) (fun _ _ _ => 0)
    case atStart => exact ⟨rfl, rfl, rfl⟩
    case round =>
      obtain ⟨rfl, rfl, rfl⟩ := hrel
      go_wp2_with fail
      exact bodyPost_end (results_none Tryd.results180 _ _ _) rfl ⟨rfl, h, World.grownBy.refl _ _⟩
  · obtain ⟨g, rfl, _⟩ := h.form h0
    exact rev_some B g n c ds w h hn
theorem backwards_any (A : Option Addr) (n c : Nat) (us : List Nat) (w : World) (h : Rd w A n (ints us)) (hn : n ≤ 24) :
    Calls Tryd.prog 162 #[.slice A n c] w (MakesE 2 w n (ints us.reverse)) := by
  have HC := Lib.hid (clone64_any A n c (ints us) w h hn)
  go_enter Tryd.func162, Tryd.ntmps162
  go_wp2_with fail
  refine HC.out.mono ?_
  rintro e w2 ⟨A3, c3, rfl, ho3, hb3⟩
  have HREV := Lib.hid (rev_any w.heap.size n c3 A3 us w2 ho3 (by omega))
  go_wp2_with fail
  refine HREV.out.mono ?_
  rintro e w3 ⟨rfl, ho4, hg4⟩
  have hb4 : Below w.heap.size w w3 := hb3.grown hg4 hb3.size (fun r hr => (ho3.lt r hr).1)
  go_wp2_with fail
  go_ret
  exact ⟨A3, c3, rfl, ho4, hb4⟩
end Go.Proofs.YtdafdffmkjhhcaaDoor
