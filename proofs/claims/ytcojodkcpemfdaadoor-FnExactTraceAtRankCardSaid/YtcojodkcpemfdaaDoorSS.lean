/-
  Slices of slices of numbers: what is owned, and the laws' helpers by contracts.
-/
import Derived.Test.YtcojodkcpemfdaaDoorWord2
import Derived.StillTailTactics
namespace Go.Proofs.YtcojodkcpemfdaaDoor
open Go.RowKit
set_option linter.unusedVariables false
set_option linter.unusedSimpArgs false
set_option maxRecDepth 100000

/-- A row of slices of the call's own: address, capacity and numbers of each. -/
def valsT (ts : List (Option Addr × Nat × List Int)) : List Value := ts.map fun t => Value.slice t.1 t.2.2.length t.2.1
def OwnT (w : World) (lo hi : Nat) (A : Option Addr) (n c : Nat) (ts : List (Option Addr × Nat × List Int)) : Prop :=
  ts.length = n ∧ w.ownsRow lo 22 1 (.slice A n c) n (valsT ts) ∧ (∀ q, A.map (·.block) = some q → q < hi) ∧
  ∀ (j : Nat) (t : Option Addr × Nat × List Int), ts[j]? = some t → Own 2 w lo t.1 t.2.2.length t.2.1 t.2.2 ∧ ∀ q, t.1.map (·.block) = some q → q < hi ∧ A.map (·.block) ≠ some q ∧ ∀ (l : Nat) (u : Option Addr × Nat × List Int), l ≠ j → ts[l]? = some u → u.1.map (·.block) ≠ some q
def OwnSS (w : World) (lo hi : Nat) (A : Option Addr) (n c : Nat) (xss : List (List Int)) : Prop := ∃ ts, ts.map (fun t => t.2.2) = xss ∧ OwnT w lo hi A n c ts
theorem row_block {w : World} {lo n c : Nat} {E : TypeId} {A : Option Addr} {vs : List Value} (h : w.ownsRow lo E 1 (.slice A n c) n vs) (q : Nat) (hq : A.map (·.block) = some q) : lo ≤ q ∧ q < w.heap.size := by
  refine World.ownsRow.lt h q ?_
  cases A with
  | none => cases hq
  | some a => simpa [Value.ownBlock] using hq
theorem row_kept {w w' : World} {lo n c : Nat} {E : TypeId} {A : Option Addr} {vs : List Value} (h : w.ownsRow lo E 1 (.slice A n c) n vs) {row : Option Nat} (hg : w.grownBy w' row) (hne : ∀ q, A.map (·.block) = some q → row ≠ some q) : w'.ownsRow lo E 1 (.slice A n c) n vs := by
  refine World.ownsRow.kept h hg ?_
  cases A with
  | none => exact .inl rfl
  | some a =>
    refine .inr ?_
    intro e
    exact hne a.block rfl (by simpa [Value.ownBlock] using e.symm)
theorem OwnT.lt {w : World} {lo hi n c : Nat} {A : Option Addr} {ts : List (Option Addr × Nat × List Int)} (h : OwnT w lo hi A n c ts) (q : Nat) (hq : A.map (·.block) = some q) : lo ≤ q ∧ q < hi := ⟨(row_block h.2.1 q hq).1, h.2.2.1 q hq⟩
theorem OwnT.apart {w w' : World} {lo hi n c : Nat} {A : Option Addr} {ts : List (Option Addr × Nat × List Int)} (h : OwnT w lo hi A n c ts) {row : Option Nat} (hg : w.grownBy w' row) (hne : ∀ r, row = some r → r < lo ∨ hi ≤ r) : OwnT w' lo hi A n c ts := by
  refine ⟨h.1, row_kept h.2.1 hg (fun q hq e => ?_), h.2.2.1, fun j t ht => ⟨((h.2.2.2 j t ht).1).apart hg (fun q hq e => ?_), (h.2.2.2 j t ht).2⟩⟩
  · have h1 := h.lt q hq
    rcases hne q e with h2 | h2 <;> omega
  · have h1 := ((h.2.2.2 j t ht).1).lt q hq
    have h3 := ((h.2.2.2 j t ht).2 q hq).1
    rcases hne q e with h2 | h2 <;> omega
theorem OwnSS.apart {w w' : World} {lo hi n c : Nat} {A : Option Addr} {xss : List (List Int)} (h : OwnSS w lo hi A n c xss) {row : Option Nat} (hg : w.grownBy w' row) (hne : ∀ r, row = some r → r < lo ∨ hi ≤ r) : OwnSS w' lo hi A n c xss := by
  obtain ⟨ts, e, ho⟩ := h
  exact ⟨ts, e, ho.apart hg hne⟩
theorem OwnSS.below {w w' : World} {lo hi n c : Nat} {A : Option Addr} {xss : List (List Int)} (h : OwnSS w lo hi A n c xss) (hb : Below w.heap.size w w') : OwnSS w' lo hi A n c xss :=
  h.apart (grownBy_of_below hb) (fun r e => by cases e)
theorem OwnSS.len {w : World} {lo hi n c : Nat} {A : Option Addr} {xss : List (List Int)} (h : OwnSS w lo hi A n c xss) : xss.length = n := by
  obtain ⟨ts, e, ho⟩ := h
  rw [← e, List.length_map]; exact ho.1
/-- What a row of slices reads as. -/
def RdSS (w : World) (A : Option Addr) (n : Nat) (xss : List (List Int)) : Prop := ∃ ts, ts.map (fun t => t.2.2.2) = xss ∧ RdT w A n ts
theorem RdSS.below {w w' : World} {A : Option Addr} {n : Nat} {xss : List (List Int)} (h : RdSS w A n xss) (hb : Below w.heap.size w w') : RdSS w' A n xss := by
  obtain ⟨ts, e, ho⟩ := h
  exact ⟨ts, e, ho.below hb⟩
theorem OwnT.rdT {w : World} {lo hi n c : Nat} {A : Option Addr} {ts : List (Option Addr × Nat × List Int)} (h : OwnT w lo hi A n c ts) (hs : ∀ t, t ∈ ts → t.2.2.length ≤ maxLen) : RdT w A n (ts.map fun t => (t.1, t.2.2.length, t.2.1, t.2.2)) := by
  refine ⟨by rw [List.length_map]; exact h.1, fun t ht => ?_, fun hn => ?_⟩
  · obtain ⟨u, hu, rfl⟩ := List.mem_map.1 ht
    obtain ⟨j, hj⟩ := List.mem_iff_getElem?.1 hu
    exact ⟨(h.2.2.2 j u hj).1.rd, hs u hu⟩
  · obtain ⟨g, cap, hv, hbg, hlt⟩ := World.ownsRow.form h.2.1 hn
    have hA : A = some ⟨g, 0, none⟩ := by injection hv
    subst hA
    refine ⟨g, 0, rfl, hlt, fun j t ht => ?_⟩
    rw [List.getElem?_map] at ht
    cases hu : ts[j]? with
    | none => rw [hu] at ht; cases ht
    | some u =>
      rw [hu] at ht
      injection ht with ht
      subst ht
      have := World.ownsRow.cells h.2.1 (g := g) rfl j (Value.slice u.1 u.2.2.length u.2.1) (by unfold valsT; rw [List.getElem?_map, hu]; rfl)
      rw [add_zero_off] at this
      rw [Nat.zero_add]; exact this
theorem OwnSS.rd {w : World} {lo hi n c : Nat} {A : Option Addr} {xss : List (List Int)} (h : OwnSS w lo hi A n c xss) (hs : ∀ xs, xs ∈ xss → xs.length ≤ maxLen) : RdSS w A n xss := by
  obtain ⟨ts, e, ho⟩ := h
  refine ⟨_, ?_, ho.rdT (fun t ht => hs _ (by rw [← e]; exact List.mem_map_of_mem ht))⟩
  rw [List.map_map, ← e]; rfl
/-- An element's numbers are turned in place. -/
theorem OwnT.set_ {w w' : World} {lo hi n c j : Nat} {A : Option Addr} {ts : List (Option Addr × Nat × List Int)} {t : Option Addr × Nat × List Int} {ys : List Int} (h : OwnT w lo hi A n c ts) (ht : ts[j]? = some t) (hl : ys.length = t.2.2.length) (ho : Own 2 w' lo t.1 ys.length t.2.1 ys) (hg : w.grownBy w' (t.1.map (·.block))) : OwnT w' lo hi A n c (ts.set j (t.1, t.2.1, ys)) := by
  have hj : j < ts.length := by
    rcases Nat.lt_or_ge j ts.length with h9 | h9
    · exact h9
    · rw [List.getElem?_eq_none h9] at ht; cases ht
  have hv : valsT (ts.set j (t.1, t.2.1, ys)) = valsT ts := by
    unfold valsT
    refine List.ext_getElem? fun k => ?_
    rw [List.getElem?_map, List.getElem?_map, List.getElem?_set]
    by_cases e : j = k
    · subst e
      rw [if_pos rfl, if_pos hj, ht]
      show some (Value.slice t.1 ys.length t.2.1) = _
      rw [hl]; rfl
    · rw [if_neg e]
  have ht2 := (h.2.2.2 j t ht).2
  refine ⟨by rw [List.length_set]; exact h.1, ?_, h.2.2.1, fun k u hu => ?_⟩
  · rw [hv]
    exact row_kept h.2.1 hg (fun q hq e => (ht2 q e).2.1 hq)
  · rw [List.getElem?_set] at hu
    by_cases e : j = k
    · subst e
      rw [if_pos rfl, if_pos hj] at hu
      injection hu with hu
      subst hu
      refine ⟨ho, fun q hq => ⟨(ht2 q hq).1, (ht2 q hq).2.1, fun l v hlj hv9 => ?_⟩⟩
      rw [List.getElem?_set, if_neg (fun e => hlj e.symm)] at hv9
      exact (ht2 q hq).2.2 l v hlj hv9
    · rw [if_neg e] at hu
      have h9 := h.2.2.2 k u hu
      refine ⟨h9.1.apart hg (fun q hq e9 => (ht2 q e9).2.2 k u (fun e2 => e e2.symm) hu hq), fun q hq => ⟨(h9.2 q hq).1, (h9.2 q hq).2.1, fun l v hlk hv9 => ?_⟩⟩
      rw [List.getElem?_set] at hv9
      by_cases e2 : j = l
      · subst e2
        rw [if_pos rfl, if_pos hj] at hv9
        injection hv9 with hv9
        subst hv9
        exact (h9.2 q hq).2.2 j t hlk ht
      · rw [if_neg e2] at hv9
        exact (h9.2 q hq).2.2 l v hlk hv9
/-- The marks that the laws put into a row of slices. -/
def marksSS (k : Nat) : List (List Int) → List (List Int)
  | [] => []
  | xs :: r => marks k xs.length :: marksSS (k + xs.length) r
def sumL (xss : List (List Int)) : Nat := (xss.map List.length).sum
theorem marksSS_len (k : Nat) (xss : List (List Int)) : (marksSS k xss).length = xss.length := by
  induction xss generalizing k with
  | nil => rfl
  | cons x r ih => show (marksSS _ r).length + 1 = _; rw [ih]; rfl
theorem sumL_take (xss : List (List Int)) (j : Nat) (xs : List Int) (h : xss[j]? = some xs) : sumL (xss.take (j + 1)) = sumL (xss.take j) + xs.length := by
  unfold sumL
  rw [List.take_add_one, h, List.map_append, List.sum_append]; simp
theorem sumL_le (xss : List (List Int)) (j : Nat) : sumL (xss.take j) ≤ sumL xss := by
  have e := List.take_append_drop j xss
  have : sumL xss = sumL (xss.take j) + sumL (xss.drop j) := by
    unfold sumL
    rw [← List.sum_append, ← List.map_append, e]
  omega
theorem marksSS_at (k : Nat) (xss : List (List Int)) (j : Nat) (xs : List Int) (h : xss[j]? = some xs) : (marksSS k xss)[j]? = some (marks (k + sumL (xss.take j)) xs.length) := by
  induction xss generalizing k j with
  | nil => cases h
  | cons x r ih =>
    cases j with
    | zero =>
      injection h with h
      subst h
      show some _ = _
      simp [sumL]
    | succ j =>
      have := ih (k + x.length) j h
      show (marksSS (k + x.length) r)[j]? = _
      rw [this]
      have e : sumL ((x :: r).take (j + 1)) = x.length + sumL (r.take j) := by simp [sumL]
      rw [e, Nat.add_assoc]
theorem len_sumL (xss : List (List Int)) (xs : List Int) (h : xs ∈ xss) : xs.length ≤ sumL xss := by
  obtain ⟨j, hj⟩ := List.mem_iff_getElem?.1 h
  have h1 := sumL_take xss j xs hj
  have h2 := sumL_le xss (j + 1)
  omega
/-- Nothing has been turned but blocks from lo on, ahead of hi. -/
structure Touched (lo hi : Nat) (w w' : World) : Prop where
  os : w'.os = w.os
  tape : w'.tape = w.tape
  output : w'.output = w.output
  size : w.heap.size ≤ w'.heap.size
  block : ∀ k, k < w.heap.size → (k < lo ∨ hi ≤ k) → w'.heap[k]? = w.heap[k]?
theorem Touched.refl (lo hi : Nat) (w : World) : Touched lo hi w w := ⟨rfl, rfl, rfl, Nat.le_refl _, fun _ _ _ => rfl⟩
theorem Touched.grown {lo hi : Nat} {w w1 w' : World} {row : Option Nat} (h : Touched lo hi w w1) (hg : w1.grownBy w' row) (hr : ∀ r, row = some r → lo ≤ r ∧ r < hi) : Touched lo hi w w' :=
  ⟨hg.os.trans h.os, hg.tape.trans h.tape, hg.output.trans h.output, Nat.le_trans h.size hg.size, fun k hk hne => by
    rw [hg.block k (Nat.lt_of_lt_of_le hk h.size) (fun e => by have := hr k e.symm; omega)]
    exact h.block k hk hne⟩
set_option maxHeartbeats 1600000 in
theorem eqSS_true (A B : Option Addr) (n c d : Nat) (xss : List (List Int)) (w : World) (h : RdSS w A n xss) (h2 : RdSS w B n xss) (hn : n ≤ 9223372036854775807) :
    Calls Tryd.prog 22 #[.slice A n c, .slice B n d] w fun e w' => e = .returned (.bool true) ∧ Below w.heap.size w w' := by
  obtain ⟨ts, e1, ht⟩ := h
  obtain ⟨us, e2, hu⟩ := h2
  have HE : Hid (ts.map (fun t => t.2.2.2) = us.map (fun t => t.2.2.2)) := Lib.hid (e1.trans e2.symm)
  clear e1 e2
  go_enter Tryd.func22, Tryd.ntmps22
  go_wp2
  go_loopw [5] (fun i wr => ∃ k : Nat, k ≤ n ∧ i = .int .i64 k ∧ Below w.heap.size w wr) (fun i _ => n - (intOf i).toNat)
  case atStart => exact ⟨0, Nat.zero_le _, rfl, Below.refl _ _⟩
  case round =>
    obtain ⟨k, hk, rfl, hb⟩ := hrel
    by_cases hlt : k < n
    · obtain ⟨b, off, C, q, c1, xs, rfl, hbs, hx, hcx, hrd, hq⟩ := (ht.below hb).at_ hlt
      obtain ⟨b2, off2, C2, q2, c2, ys, rfl, hbs2, hx2, hcx2, hrd2, hq2⟩ := (hu.below hb).at_ hlt
      have e9 : xs = ys := by
        have := congrArg (fun l => l[k]?) HE.out
        simp only [List.getElem?_map, hx, hx2] at this
        injection this
      subst e9
      have e8 : q2 = q := hrd2.1.symm.trans hrd.1
      subst e8
      have hq3 : q2 ≤ 9223372036854775807 := by unfold maxLen at hq; omega
      have hdw : Below wr.heap.size wr wr.drew := (Below.refl _ _).drew
      clear hx hx2
      go_wp2_with fail
      go_still_tail 8, (by kernel_rfl)
      change wpList _ _ _ _ _ wr.drew
      go_wp2_with fail
      refine (eq_true _ _ _ _ _ xs _ (hrd.below hdw) (hrd2.below hdw) hq3).mono ?_
      rintro e w4 ⟨rfl, hb4⟩
      have hb5 := hb.trans ((hdw.trans (hb4.mono hdw.size)).mono hb.size)
      go_wp2_with fail
      go_roundw
      case rel => exact ⟨k + 1, by omega, by go_num, hb5⟩
      case measure => simp [intOf]; omega
    · obtain rfl : k = n := by omega
      go_wp2_with fail
      go_ret
      exact ⟨rfl, hb⟩
set_option maxHeartbeats 1600000 in
theorem markSS_any (lo hi : Nat) (A : Option Addr) (n c k0 : Nat) (xss : List (List Int)) (w : World) (h : OwnSS w lo hi A n c xss) (hs : sumL xss ≤ 1048576) (hn : n ≤ 1048576) (hk : k0 ≤ 1048576) :
    Calls Tryd.prog 28 #[.slice A n c, .int .i64 (k0 : Int)] w fun e w' => e = .returned (.int .i64 ((k0 + sumL xss : Nat) : Int)) ∧ OwnSS w' lo hi A n c (marksSS k0 xss) ∧ Touched lo hi w w' := by
  obtain ⟨ts0, e0, h0⟩ := h
  have hlen : xss.length = n := by rw [← e0, List.length_map]; exact h0.1
  have HL := Lib.hid hlen
  have HS : Hid (∀ xs, xs ∈ xss → xs.length ≤ 1048576) := Lib.hid (fun xs hx => Nat.le_trans (len_sumL xss xs hx) hs)
  have HE0 := Lib.hid e0
  clear hlen e0
  go_enter Tryd.func28, Tryd.ntmps28
  go_wp2
  go_loopw [1, 5] (fun q i wr => ∃ (t : Nat) (ts : List (Option Addr × Nat × List Int)), t ≤ n ∧ i = .int .i64 t ∧ q = .int .i64 ((k0 + sumL (xss.take t) : Nat) : Int) ∧ ts.map (fun t => t.2.2) = (marksSS k0 xss).take t ++ xss.drop t ∧ OwnT wr lo hi A n c ts ∧ Touched lo hi w wr) (fun _ i _ => n - (intOf i).toNat)
  case atStart => exact ⟨0, ts0, Nat.zero_le _, rfl, rfl, by rw [HE0.out]; rfl, h0, Touched.refl _ _ _⟩
  case round =>
    obtain ⟨t, ts, hle, rfl, rfl, he, ho, htt⟩ := hrel
    have HE := Lib.hid he
    clear he
    by_cases hlt : t < n
    · obtain ⟨ys, hys⟩ : ∃ ys, xss[t]? = some ys := ⟨_, List.getElem?_eq_getElem (by rw [HL.out]; exact hlt)⟩
      obtain ⟨u, hu⟩ : ∃ u, ts[t]? = some u := ⟨_, List.getElem?_eq_getElem (by rw [ho.1]; exact hlt)⟩
      have huy : u.2.2 = ys := by
        have h9 := congrArg (fun l => l[t]?) HE.out
        simp only [List.getElem?_map, hu] at h9
        rw [List.getElem?_append_right (by rw [List.length_take, marksSS_len, HL.out]; omega)] at h9
        rw [List.length_take, marksSS_len, HL.out, Nat.min_eq_left hle, Nat.sub_self, List.getElem?_drop, Nat.add_zero, hys] at h9
        injection h9
      have hou := (ho.2.2.2 t u hu).1
      have hub := (ho.2.2.2 t u hu).2
      have hsm := HS.out ys (List.mem_of_getElem? hys)
      have h2 := sumL_take xss t ys hys
      have h3 := sumL_le xss (t + 1)
      obtain ⟨g, cap, hv, hbg, hlt2⟩ := World.ownsRow.form ho.2.1 (by omega : 0 < n)
      have hA : A = some ⟨g, 0, none⟩ := by injection hv
      have hcx := World.ownsRow.cells ho.2.1 (g := g) (by rw [hA]; rfl) t (Value.slice u.1 u.2.2.length u.2.1) (by unfold valsT; rw [List.getElem?_map, hu]; rfl)
      rw [add_zero_off] at hcx
      subst hA
      rw [huy] at hou hcx
      obtain ⟨K, hK⟩ : ∃ K, K = k0 + sumL (xss.take t) := ⟨_, rfl⟩
      have HN : Hid (k0 + sumL (xss.take (t + 1)) = K + ys.length) := Lib.hid (by rw [hK, h2]; omega)
      have hKb : K ≤ 1073741824 := by omega
      have hmark := mark_any 2 lo u.1 ys.length u.2.1 K ys wr hou hsm hKb
      have hmat := marksSS_at k0 xss t ys hys
      rw [← hK] at hmat ⊢
      have HMAT := Lib.hid hmat
      have HU := Lib.hid hu
      have HUY := Lib.hid huy
      have HYS := Lib.hid hys
      obtain ⟨Q, hQ⟩ : ∃ Q, Q = ys.length := ⟨_, rfl⟩
      have HQ := Lib.hid hQ
      rw [← hQ] at hcx hmark HN
      have hQb : Q ≤ 1048576 := by omega
      obtain ⟨U, cu, us⟩ := u
      have hcx' : wr.cell? ⟨g, t, none⟩ = some (.slice U Q cu) := hcx
      have HUB := Lib.hid hub
      clear hys hu h2 h3 hK hQ hmat huy hou hub hsm hv hcx
      go_wp2_with fail
      refine hmark.mono ?_
      rintro e w4 ⟨rfl, hom, hgm⟩
      have HSET : Hid (OwnT w4 lo hi (some ⟨g, 0, none⟩) n c (ts.set t (U, cu, marks K Q))) := Lib.hid (ho.set_ HU.out (by rw [marks_len, HQ.out]; exact congrArg List.length HUY.out.symm) (by rw [marks_len]; exact hom) hgm)
      have htt2 := htt.grown hgm (fun r hr => ⟨((ho.2.2.2 t _ HU.out).1.lt r hr).1, (HUB.out r hr).1⟩)
      clear ho hom hgm htt hmark
      go_wp2_with fail
      go_roundw
      case rel => exact ⟨t + 1, ts.set t (U, cu, marks K Q), by omega, by go_num, by rw [HN.out, Int.natCast_add], by
        rw [List.map_set, HE.out]
        show (List.take t (marksSS k0 xss) ++ List.drop t xss).set t (marks K Q) = _
        have hl1 : (List.take t (marksSS k0 xss)).length = t := by rw [List.length_take, marksSS_len, HL.out]; omega
        rw [List.set_append, if_neg (by omega), hl1, Nat.sub_self]
        have hd1 : List.drop t xss = (xss[t]'(by rw [HL.out]; exact hlt)) :: List.drop (t + 1) xss := List.drop_eq_getElem_cons _
        rw [hd1, List.set_cons_zero, List.take_add_one, HMAT.out, ← HQ.out]
        simp, HSET.out, htt2⟩
      case measure => simp [intOf]; omega
    · obtain rfl : t = n := by omega
      have e9 : xss.take t = xss := List.take_of_length_le (by rw [HL.out]; exact Nat.le_refl _)
      rw [e9]
      clear e9
      go_wp2_with fail
      go_ret
      refine ⟨rfl, ⟨ts, ?_, ho⟩, htt⟩
      rw [HE.out, List.drop_of_length_le (by rw [HL.out]; exact Nat.le_refl _), List.append_nil, List.take_of_length_le (by rw [marksSS_len, HL.out]; exact Nat.le_refl _)]
set_option maxHeartbeats 1600000 in
theorem heldSS_any (A : Option Addr) (n c k0 : Nat) (xss : List (List Int)) (w : World) (h : RdSS w A n (marksSS k0 xss)) (hs : sumL xss ≤ 1048576) (hl : xss.length = n) (hn : n ≤ 1048576) (hk : k0 ≤ 1048576) :
    Calls Tryd.prog 35 #[.slice A n c, .int .i64 (k0 : Int)] w fun e w' => e = .returned (.int .i64 ((k0 + sumL xss : Nat) : Int)) ∧ w = w' := by
  obtain ⟨ts, e1, ht⟩ := h
  have HE := Lib.hid e1
  have HL := Lib.hid hl
  clear e1 hl
  go_enter Tryd.func35, Tryd.ntmps35
  go_wp2
  go_loop [1, 5] (fun q i => ∃ t : Nat, t ≤ n ∧ i = .int .i64 t ∧ q = .int .i64 ((k0 + sumL (xss.take t) : Nat) : Int)) (fun _ i => n - (intOf i).toNat)
  case atStart => exact ⟨0, Nat.zero_le _, rfl, rfl⟩
  case round =>
    obtain ⟨t, hle, rfl, rfl⟩ := hrel
    by_cases hlt : t < n
    · obtain ⟨b, off, C, q, c1, xs, rfl, hbs, hx, hcx, hrd, hq⟩ := ht.at_ hlt
      obtain ⟨ys, hys⟩ : ∃ ys, xss[t]? = some ys := ⟨_, List.getElem?_eq_getElem (by rw [HL.out]; exact hlt)⟩
      have h1 := marksSS_at k0 xss t ys hys
      rw [← HE.out, List.getElem?_map, hx] at h1
      injection h1 with h1
      have h1' : xs = marks (k0 + sumL (xss.take t)) ys.length := h1
      subst h1'
      have hq1 : q = ys.length := by have := hrd.1; rw [marks_len] at this; exact this.symm
      subst hq1
      have h2 := sumL_take xss t ys hys
      have h3 := sumL_le xss (t + 1)
      obtain ⟨K, hK⟩ : ∃ K, K = k0 + sumL (xss.take t) := ⟨_, rfl⟩
      have HN : Hid (k0 + sumL (xss.take (t + 1)) = K + ys.length) := Lib.hid (by rw [hK, h2]; omega)
      have hKb : K ≤ 1073741824 := by omega
      have hyl : ys.length ≤ 1048576 := by omega
      rw [← hK] at hrd ⊢
      have hheld := held_any C ys.length c1 K w hrd hyl hKb
      obtain ⟨Q, hQ⟩ : ∃ Q, Q = ys.length := ⟨_, rfl⟩
      rw [← hQ] at hcx hheld HN hyl
      have hge : decide (((K + Q : Nat) : Int) < 0) = false := decide_eq_false (by omega)
      have hge2 : decide ((K : Int) + (Q : Int) < 0) = false := decide_eq_false (by omega)
      clear hx hys h1 h2 h3 hK hQ hrd
      go_wp2_with fail
      refine hheld.mono ?_
      rintro e w' ⟨rfl, rfl⟩
      go_wp2_with fail
      go_round
      case rel => exact ⟨t + 1, by omega, by go_num, by rw [HN.out, Int.natCast_add]⟩
      case measure => simp [intOf]; omega
    · obtain rfl : t = n := by omega
      have e9 : xss.take t = xss := List.take_of_length_le (by rw [HL.out]; exact Nat.le_refl _)
      rw [e9]
      clear e9
      go_wp2_with fail
      go_ret
      exact ⟨rfl, rfl⟩
end Go.Proofs.YtcojodkcpemfdaaDoor
