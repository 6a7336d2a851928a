/-
  A list of lists as an argument of a law: its size, its copy's marks.
-/
import Derived.Test.YtdafdffmkjhhcaaDoorMn
import Derived.Test.YtdafdffmkjhhcaaDoorMp
namespace Go.Proofs.YtdafdffmkjhhcaaDoor
open Go Go.RowKit
set_option linter.unusedVariables false
set_option linter.unusedSimpArgs false
set_option maxRecDepth 100000

theorem sumT_mem (ts : List (Option Addr × Nat × Nat × List Int)) (t : Option Addr × Nat × Nat × List Int) (h : t ∈ ts) : t.2.1 ≤ sumT ts := by
  unfold sumT
  induction ts with
  | nil => cases h
  | cons u r ih =>
    rw [List.map_cons, List.sum_cons]
    rcases List.mem_cons.1 h with h | h
    · subst h; omega
    · have := ih h; omega
theorem sumL_sumT {w : World} {A : Option Addr} {n : Nat} {ts : List (Option Addr × Nat × Nat × List Int)} (h : RdT w A n ts) : sumL (ts.map fun t => t.2.2.2) = sumT ts := by
  have hl : ∀ t, t ∈ ts → t.2.2.2.length = t.2.1 := fun t ht => (h.2.1 t ht).1.1
  unfold sumL sumT
  rw [List.map_map]
  congr 1
  exact List.map_congr_left fun t ht => hl t ht
theorem own_touched {E : TypeId} {w w' : World} {lo hi b n c : Nat} {A : Option Addr} {xs : List Int} (h : Own E w b A n c xs) (ht : Touched lo hi w w') (hne : ∀ q, A.map (·.block) = some q → q < lo ∨ hi ≤ q) : Own E w' b A n c xs := row_touched h ht hne
theorem ss_small {X : List (List Int)} {S : Nat} (h : sumL X = S) (hs : S ≤ 1048576) : ∀ xs, xs ∈ X → xs.length ≤ maxLen := small_of h hs
set_option maxHeartbeats 1600000 in
theorem markSS4_any (lo hi : Nat) (A : Option Addr) (n c k0 : Nat) (xss : List (List Int)) (w : World) (h : OwnSS w lo hi A n c xss) (hs : sumL xss ≤ 1048576) (hn : n ≤ 1048576) (hk : k0 ≤ 4194304) :
    Calls Tryd.prog 26 #[.slice A n c, .int .i64 (k0 : Int)] w fun e w' => e = .returned (.int .i64 ((k0 + sumL xss : Nat) : Int)) ∧ OwnSS w' lo hi A n c (marksSS k0 xss) ∧ Touched lo hi w w' := by
  obtain ⟨ts0, e0, h0⟩ := h
  have hlen : xss.length = n := by rw [← e0, List.length_map]; exact h0.1
  have HL := Lib.hid hlen
  have HS : Hid (∀ xs, xs ∈ xss → xs.length ≤ 1048576) := Lib.hid (fun xs hx => Nat.le_trans (len_sumL xss xs hx) hs)
  have HE0 := Lib.hid e0
  clear hlen e0
  go_enter Tryd.func26, Tryd.ntmps26
  go_wp2
  go_loopw [1, 5] (fun q i wr => ∃ (t : Nat) (ts : List (Option Addr × Nat × List Int)), t ≤ n ∧ i = .int .i64 t ∧ q = .int .i64 ((k0 + sumL (xss.take t) : Nat) : Int) ∧ ts.map (fun t => t.2.2) = (marksSS k0 xss).take t ++ xss.drop t ∧ OwnT wr lo hi A n c ts ∧ Touched lo hi w wr) (fun _ i _ => n - (intOf i).toNat)
  case atStart => exact ⟨0, ts0, Nat.zero_le _, rfl, rfl, by rw [HE0.out]; rfl, h0, Touched.refl _ _ _⟩
  case round =>
    obtain ⟨t, ts, hle, rfl, rfl, he, ho, htt⟩ := hrel
    have HE := Lib.hid he
    clear he
    by_cases hlt : t < n
    · obtain ⟨ys, hys⟩ : ∃ ys, xss[t]? = some ys := ⟨_, List.getElem?_eq_getElem (by rw [HL.out]; exact hlt)⟩
      obtain ⟨u, hu⟩ : ∃ u, ts[t]? = some u := ⟨_, List.getElem?_eq_getElem (by rw [ho.1]; exact hlt)⟩
      have huy : u.2.2 = ys := by
        have h9 := congrArg (fun l => l[t]?) HE.out
        simp only [List.getElem?_map, hu] at h9
        rw [List.getElem?_append_right (by rw [List.length_take, marksSS_len, HL.out]; omega)] at h9
        rw [List.length_take, marksSS_len, HL.out, Nat.min_eq_left hle, Nat.sub_self, List.getElem?_drop, Nat.add_zero, hys] at h9
        injection h9
      have hou := (ho.2.2.2 t u hu).1
      have hub := (ho.2.2.2 t u hu).2
      have hsm := HS.out ys (List.mem_of_getElem? hys)
      have h2 := sumL_take xss t ys hys
      have h3 := sumL_le xss (t + 1)
      obtain ⟨g, cap, hv, hbg, hlt2⟩ := World.ownsRow.form ho.2.1 (by omega : 0 < n)
      have hA : A = some ⟨g, 0, none⟩ := by injection hv
      have hcx := World.ownsRow.cells ho.2.1 (g := g) (by rw [hA]; rfl) t (Value.slice u.1 u.2.2.length u.2.1) (by unfold valsT; rw [List.getElem?_map, hu]; rfl)
      rw [add_zero_off] at hcx
      subst hA
      rw [huy] at hou hcx
      obtain ⟨K, hK⟩ : ∃ K, K = k0 + sumL (xss.take t) := ⟨_, rfl⟩
      have HN : Hid (k0 + sumL (xss.take (t + 1)) = K + ys.length) := Lib.hid (by rw [hK, h2]; omega)
      have hKb : K ≤ 1073741824 := by omega
      have hmark := mark_any 2 lo u.1 ys.length u.2.1 K ys wr hou hsm hKb
      have hmat := marksSS_at k0 xss t ys hys
      rw [← hK] at hmat ⊢
      have HMAT := Lib.hid hmat
      have HU := Lib.hid hu
      have HUY := Lib.hid huy
      have HYS := Lib.hid hys
      obtain ⟨Q, hQ⟩ : ∃ Q, Q = ys.length := ⟨_, rfl⟩
      have HQ := Lib.hid hQ
      rw [← hQ] at hcx hmark HN
      have hQb : Q ≤ 1048576 := by omega
      obtain ⟨U, cu, us⟩ := u
      have hcx' : wr.cell? ⟨g, t, none⟩ = some (.slice U Q cu) := hcx
      have HUB := Lib.hid hub
      clear hys hu h2 h3 hK hQ hmat huy hou hub hsm hv hcx
      go_wp2_with fail
      refine hmark.mono ?_
      rintro e w4 ⟨rfl, hom, hgm⟩
      have HSET : Hid (OwnT w4 lo hi (some ⟨g, 0, none⟩) n c (ts.set t (U, cu, marks K Q))) := Lib.hid (ho.set_ HU.out (by rw [marks_len, HQ.out]; exact congrArg List.length HUY.out.symm) (by rw [marks_len]; exact hom) hgm)
      have htt2 := htt.grown hgm (fun r hr => ⟨((ho.2.2.2 t _ HU.out).1.lt r hr).1, (HUB.out r hr).1⟩)
      clear ho hom hgm htt hmark
      go_wp2_with fail
      go_roundw
      case rel => exact ⟨t + 1, ts.set t (U, cu, marks K Q), by omega, by go_num, by rw [HN.out, Int.natCast_add], by
        rw [List.map_set, HE.out]
        show (List.take t (marksSS k0 xss) ++ List.drop t xss).set t (marks K Q) = _
        have hl1 : (List.take t (marksSS k0 xss)).length = t := by rw [List.length_take, marksSS_len, HL.out]; omega
        rw [List.set_append, if_neg (by omega), hl1, Nat.sub_self]
        have hd1 : List.drop t xss = (xss[t]'(by rw [HL.out]; exact hlt)) :: List.drop (t + 1) xss := List.drop_eq_getElem_cons _
        rw [hd1, List.set_cons_zero, List.take_add_one, HMAT.out, ← HQ.out]
        simp, HSET.out, htt2⟩
      case measure => simp [intOf]; omega
    · obtain rfl : t = n := by omega
      have e9 : xss.take t = xss := List.take_of_length_le (by rw [HL.out]; exact Nat.le_refl _)
      rw [e9]
      clear e9
      go_wp2_with fail
      go_ret
      refine ⟨rfl, ⟨ts, ?_, ho⟩, htt⟩
      rw [HE.out, List.drop_of_length_le (by rw [HL.out]; exact Nat.le_refl _), List.append_nil, List.take_of_length_le (by rw [marksSS_len, HL.out]; exact Nat.le_refl _)]
end Go.Proofs.YtdafdffmkjhhcaaDoor
