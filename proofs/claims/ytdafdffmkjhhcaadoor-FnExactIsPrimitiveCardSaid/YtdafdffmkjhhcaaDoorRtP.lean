/-
  Roots of traces: the program's side.
-/
import Derived.Test.YtdafdffmkjhhcaaDoorRtM
import Derived.Test.YtdafdffmkjhhcaaDoorM3
import Derived.Deep.RegionWith
namespace Go.Proofs.YtdafdffmkjhhcaaDoor
open Go Go.RowKit
set_option linter.unusedVariables false
set_option maxRecDepth 100000

theorem take_count (us : List Nat) (i a : Nat) (hi : i < us.length) : (us.take (i + 1)).count a = (us.take i).count a + if us.getD i 0 = a then 1 else 0 := by
  rw [List.take_add_one, List.getElem?_eq_getElem hi, List.count_append, List.getD_eq_getElem?_getD, List.getElem?_eq_getElem hi]
  show _ + List.count a [us[i]] = _ + if us[i] = a then 1 else 0
  rw [List.count_singleton]
  by_cases e : us[i] = a <;> simp [e]
/-- A variable that holds 24 numbers. -/
def ABox (w : World) (g : Nat) (ds : List Nat) : Prop := ds.length = 24 ∧ w.heap[g]? = some (.cells ((ints ds).map (Value.int .i64)).toArray 167 (0, 0))
theorem ABox.cell {w : World} {g : Nat} {ds : List Nat} (h : ABox w g ds) {k : Nat} (hk : k < 24) : w.cell? ⟨g, k, none⟩ = some (.int .i64 ((ds.getD k 0 : Nat) : Int)) := by
  refine cell_row h.2 k _ ?_
  rw [List.getElem?_map, ints_getD ds k (by rw [h.1]; exact hk)]; rfl
theorem ABox.fr {w : World} {g : Nat} {ds : List Nat} (h : ABox w g ds) (k : Nat) : w.frozen? ⟨g, k, none⟩ = false := by
  have := h.2
  simp [World.frozen?, this]
theorem ABox.set {w : World} {g : Nat} {ds : List Nat} (h : ABox w g ds) (k m : Nat) : ABox (w.setCell ⟨g, k, none⟩ (.int .i64 (m : Int))) g (ds.set k m) := by
  refine ⟨by rw [List.length_set]; exact h.1, ?_⟩
  rw [heap_put h.2]
  congr 2
  rw [← ints_set]
  simp [List.map_set]
theorem ABox.other {w : World} {g : Nat} {ds : List Nat} (h : ABox w g ds) (q k : Nat) (v : Value) (hne : q ≠ g) : ABox (w.setCell ⟨q, k, none⟩ v) g ds := by
  refine ⟨h.1, ?_⟩
  exact (Below.heap_setCell _ _ _ _ (fun e => hne (by first | exact e | exact e.symm))).trans h.2
theorem ABox.lt {w : World} {g : Nat} {ds : List Nat} (h : ABox w g ds) : g < w.heap.size := (Array.getElem?_eq_some_iff.1 h.2).1
theorem ABox.apart {w w' : World} {g : Nat} {ds : List Nat} {row : Option Nat} (h : ABox w g ds) (hg : w.grownBy w' row) (hne : row ≠ some g) : ABox w' g ds := ⟨h.1, (hg.block g h.lt (fun e => hne e.symm)).trans h.2⟩
set_option maxHeartbeats 1600000 in
theorem share_any (A1 : Option Addr) (m d k : Nat) (vs : List Nat) (w : World) (h2 : Rd w A1 m (ints vs)) (hm : m ≤ 24) (hvs : ∀ x, x ∈ vs → x < 24) (hk : 1 ≤ k) (hk24 : k ≤ 24) :
    Calls Tryd.prog 136 #[.slice A1 m d, .int .i64 (k : Int)] w (MakesE 2 w (shF vs k).length (ints (shF vs k))) := by
  obtain ⟨i0, hi, hz0, hz1, hz2⟩ := info_parts info_int
  have HLV : Hid (vs.length = m) := Lib.hid (by have := h2.1; rw [ints_len] at this; exact this)
  have HVN := Lib.hid hvs
  have HNX : Hid (∀ i, i < m → shTo vs k (i + 1) = if (shTo vs k i).count (vs.getD i 0) < vs.count (vs.getD i 0) / k then shTo vs k i ++ [vs.getD i 0] else shTo vs k i) := Lib.hid fun i hi => rfl
  have HLE : Hid (∀ i, (shTo vs k i).length ≤ i) := Lib.hid (shTo_len vs k)
  have HCM : Hid (∀ a, vs.count a ≤ 24) := Lib.hid fun a => Nat.le_trans List.count_le_length (by have := HLV.out; omega)
  have HTC : Hid (∀ i a, (vs.take i).count a ≤ 24) := Lib.hid fun i a => Nat.le_trans List.count_le_length (by rw [List.length_take]; have := HLV.out; omega)
  have HXN : Hid (∀ i, i < m → vs.getD i 0 < 24) := Lib.hid fun i hi => hvs _ (by rw [List.getD_eq_getElem?_getD, List.getElem?_eq_getElem (by rw [HLV.out]; exact hi)]; exact List.getElem_mem _)
  have hZ : (ints (List.replicate 24 0)).map (Value.int .i64) = [.int .i64 0, .int .i64 0, .int .i64 0, .int .i64 0, .int .i64 0, .int .i64 0, .int .i64 0, .int .i64 0, .int .i64 0, .int .i64 0, .int .i64 0, .int .i64 0, .int .i64 0, .int .i64 0, .int .i64 0, .int .i64 0, .int .i64 0, .int .i64 0, .int .i64 0, .int .i64 0, .int .i64 0, .int .i64 0, .int .i64 0, .int .i64 0] := rfl
  obtain ⟨O8, hO8⟩ : ∃ O8 : Obj, (Obj.cells #[.int .i64 0, .int .i64 0, .int .i64 0, .int .i64 0, .int .i64 0, .int .i64 0, .int .i64 0, .int .i64 0, .int .i64 0, .int .i64 0, .int .i64 0, .int .i64 0, .int .i64 0, .int .i64 0, .int .i64 0, .int .i64 0, .int .i64 0, .int .i64 0, .int .i64 0, .int .i64 0, .int .i64 0, .int .i64 0, .int .i64 0, .int .i64 0] 167) = O8 := ⟨_, rfl⟩
  have b1 : ABox (w.alloc O8) w.heap.size (List.replicate 24 0) := ⟨rfl, by rw [← hO8]; exact World.alloc_heap_new w _⟩
  have b2 : ABox ((w.alloc O8).alloc O8) (w.heap.size + 1) (List.replicate 24 0) := ⟨rfl, by
    have e9 : (w.alloc O8).heap.size = w.heap.size + 1 := by simp
    rw [← e9, ← hO8]; exact World.alloc_heap_new _ _⟩
  have hb1 := below1 w O8
  have hb2 := below1 (w.alloc O8) O8
  have b1' : ABox ((w.alloc O8).alloc O8) w.heap.size (List.replicate 24 0) := b1.apart (grownBy_of_below hb2) (fun e => by cases e)
  have hbb := hb1.trans (hb2.mono hb1.size)
  have hsz2 : ((w.alloc O8).alloc O8).heap.size = w.heap.size + 2 := by simp
  obtain ⟨W2, hW2⟩ : ∃ W2, (w.alloc O8).alloc O8 = W2 := ⟨_, rfl⟩
  rw [hW2] at b2 b1' hbb hsz2
  have hr2 := h2.below hbb
  clear hvs hZ b1 hb1 hb2
  go_enter Tryd.func136, Tryd.ntmps136
  go_wp2_with fail
  go_loopw [14] (fun q wr => ∃ (i : Nat) (ds : List Nat), i ≤ m ∧ q = .int .i64 (i : Int) ∧ ABox wr w.heap.size ds ∧ ABox wr (w.heap.size + 1) (List.replicate 24 0) ∧ Hid (∀ a, a < 24 → ds.getD a 0 = (vs.take i).count a) ∧ Below w.heap.size w wr) (fun q _ => m - (intOf q).toNat)
  case atStart => exact ⟨0, List.replicate 24 0, Nat.zero_le _, rfl, b1', b2, Lib.hid (fun a _ => by rw [replicate_getD]; rfl), hbb⟩
  case round =>
    clear b1' b2 hbb hr2
    obtain ⟨i, ds, hi9, rfl, q1, q2, HD, hb⟩ := hrel
    by_cases hlt : i < m
    · obtain ⟨b, off, x, rfl, hbs, hx, hcx⟩ := (h2.below hb).at_ hlt
      rw [ints_getD vs i (by rw [HLV.out]; exact hlt)] at hx
      injection hx with hx
      have hx8 := HXN.out i hlt
      have HTK := Lib.hid fun a => take_count vs i a (by rw [HLV.out]; exact hlt)
      obtain ⟨X, hX⟩ : ∃ X, X = vs.getD i 0 := ⟨_, rfl⟩
      rw [← hX] at hx hx8 HTK
      subst hx
      have hcl := q1.cell hx8
      have hfr := q1.fr X
      have hdx : ds.getD X 0 ≤ 24 := by rw [HD.out X hx8]; exact HTC.out i X
      have HST : Hid (∀ a, a < 24 → (ds.set X (ds.getD X 0 + 1)).getD a 0 = (vs.take (i + 1)).count a) := Lib.hid fun a ha => by
        rw [getD_set ds X _ a (by rw [q1.1]; exact hx8), HTK.out]
        by_cases e : a = X
        · subst e; rw [if_pos rfl, if_pos rfl, HD.out a ha]
        · rw [if_neg e, if_neg (fun h9 => e h9.symm), HD.out a ha, Nat.add_zero]
      obtain ⟨C, hC⟩ : ∃ C, C = ds.getD X 0 := ⟨_, rfl⟩
      rw [← hC] at hcl hdx HST
      have hw : wrap64 ((C : Int) + 1) = ((C + 1 : Nat) : Int) := by unfold wrap64; omega
      have q1' := q1.set X (C + 1)
      have q2' := q2.other w.heap.size X (.int .i64 ((C + 1 : Nat) : Int)) (by omega)
      have hb' := hb.setCell (p := ⟨w.heap.size, X, none⟩) (Nat.le_refl _) (.int .i64 ((C + 1 : Nat) : Int))
      clear hX hC
      go_wp2_with fail
      go_roundw
      case rel => exact ⟨i + 1, ds.set X (C + 1), hlt, by go_num, q1', q2', HST, hb'⟩
      case measure => simp [intOf]; omega
    · have him : i = m := by omega
      subst him
      have HD2 : Hid (∀ a, a < 24 → ds.getD a 0 = vs.count a) := Lib.hid fun a ha => by rw [HD.out a ha, List.take_of_length_le (by rw [HLV.out]; exact Nat.le_refl _)]
      have hszr : w.heap.size + 2 ≤ wr.heap.size := by have := q2.lt; omega
      obtain ⟨wo, hwo⟩ : ∃ wo : World, wr = wo := ⟨_, rfl⟩
      rw [hwo] at q1 q2 hb hszr ⊢
      clear HD hwo
      go_wp2_with fail
      go_loopw [9, 26] (fun p q wr => ∃ (j N cA : Nat) (A : Option Addr) (ts : List Nat), j ≤ i ∧ q = .int .i64 (j : Int) ∧ p = .slice A N cA ∧ N ≤ j ∧ Hid (N = (shTo vs k j).length) ∧ Own 2 wr (w.heap.size + 2) A N cA (ints (shTo vs k j)) ∧ ABox wr w.heap.size ds ∧ ABox wr (w.heap.size + 1) ts ∧ Hid (∀ a, a < 24 → ts.getD a 0 = (shTo vs k j).count a) ∧ Below w.heap.size w wr) (fun _ q _ => i - (intOf q).toNat)
      case atStart => exact ⟨0, 0, 0, none, List.replicate 24 0, Nat.zero_le _, rfl, rfl, Nat.le_refl _, Lib.hid rfl, Own.nil _ _ _, q1, q2, Lib.hid (fun a _ => by rw [replicate_getD]; rfl), hb⟩
      case round =>
        clear q1 q2 hb
        obtain ⟨j, N, cA, A, ts, hj, rfl, rfl, hNj, HN, ho, q1, q2, HT, hb⟩ := hrel
        by_cases hlt2 : j < i
        · obtain ⟨b, off, x, rfl, hbs, hx, hcx⟩ := (h2.below hb).at_ hlt2
          rw [ints_getD vs j (by rw [HLV.out]; exact hlt2)] at hx
          injection hx with hx
          have hx8 := HXN.out j hlt2
          have HST := Lib.hid (HNX.out j hlt2)
          obtain ⟨X, hX⟩ : ∃ X, X = vs.getD j 0 := ⟨_, rfl⟩
          rw [← hX] at hx hx8 HST
          subst hx
          have hc1 := q1.cell hx8
          have hc2 := q2.cell hx8
          have hf2 := q2.fr X
          have HC1 := Lib.hid (HD2.out X hx8)
          have HC2 := Lib.hid (HT.out X hx8)
          have hC1m := HCM.out X
          have hTm : ts.getD X 0 ≤ 24 := by
            rw [HC2.out]
            exact Nat.le_trans List.count_le_length (Nat.le_trans (HLE.out j) (by omega))
          obtain ⟨C, hC⟩ : ∃ C, C = ds.getD X 0 := ⟨_, rfl⟩
          obtain ⟨T, hT⟩ : ∃ T, T = ts.getD X 0 := ⟨_, rfl⟩
          rw [← hC] at hc1 HC1
          rw [← hT] at hc2 HC2 hTm
          rw [← HC1.out] at hC1m
          rw [← HC1.out, ← HC2.out] at HST
          have HTS : Hid (∀ a, a < 24 → (ts.set X (T + 1)).getD a 0 = (shTo vs k j ++ [X]).count a) := Lib.hid fun a ha => by
            rw [getD_set ts X _ a (by rw [q2.1]; exact hx8), List.count_append, List.count_singleton]
            by_cases e : a = X
            · subst e; rw [if_pos rfl, HC2.out]; simp
            · have e2 : (X == a) = false := beq_false_of_ne (fun h9 => e h9.symm)
              rw [if_neg e, e2, HT.out a ha]; simp
          have hk0 : ¬ ((k : Int) = 0) := by omega
          have hdiv : (C : Int) / (k : Int) = ((C / k : Nat) : Int) := (Int.natCast_ediv C k).symm
          have hdiv2 : Int.tdiv (C : Int) (k : Int) = ((C / k : Nat) : Int) := by rw [Int.tdiv_eq_ediv_of_nonneg (by omega)]; exact hdiv
          have hCk : C / k ≤ 24 := Nat.le_trans (Nat.div_le_self _ _) hC1m
          obtain ⟨Q, hQ⟩ : ∃ Q, Q = C / k := ⟨_, rfl⟩
          rw [← hQ] at hdiv hdiv2 hCk HST
          clear hX hC hT hQ
          by_cases hTQ : T < Q
          · have HS2 : Hid (shTo vs k (j + 1) = shTo vs k j ++ [X]) := Lib.hid (by rw [HST.out, if_pos hTQ])
            have hI : (T : Int) < (Q : Int) := by omega
            have hw : wrap64 ((T : Int) + 1) = ((T + 1 : Nat) : Int) := by unfold wrap64; omega
            have hgne : ∀ q, A.map (·.block) = some q → w.heap.size + 2 ≤ q := fun q hq => (ho.lt q hq).1
            have hml : N + 1 ≤ maxLen := by unfold maxLen; omega
            have hby2 : (N + 1) * 8 ≤ 140737488355328 := by omega
            go_wp2_with fail
            go_quiet (fail)
            obtain ⟨wq, hwq⟩ : ∃ wq, wq = wr.drewN nq := ⟨_, rfl⟩
            have e1 : ABox wq w.heap.size ds := by rw [hwq]; exact q1
            have e2 : ABox wq (w.heap.size + 1) ts := by rw [hwq]; exact q2
            have e3 : Own 2 wq (w.heap.size + 2) A N cA (ints (shTo vs k j)) := by rw [hwq]; exact ho.below (below_drewN (Below.refl _ _) _)
            have e4 : Below w.heap.size w wq := by rw [hwq]; exact below_drewN hb _
            have e5 : wq.cell? ⟨w.heap.size + 1, X, none⟩ = some (.int .i64 (T : Int)) := by rw [hwq]; exact hc2
            have e6 : wq.frozen? ⟨w.heap.size + 1, X, none⟩ = false := by rw [hwq]; exact hf2
            rw [← hwq]
            clear hwq q1 q2 ho hb hc1 hc2 hf2 hcx hbs
            have q2' : ABox (wq.setCell ⟨w.heap.size + 1, X, none⟩ (.int .i64 ((T : Int) + 1))) (w.heap.size + 1) (ts.set X (T + 1)) := e2.set X (T + 1)
            have q1' : ABox (wq.setCell ⟨w.heap.size + 1, X, none⟩ (.int .i64 ((T : Int) + 1))) w.heap.size ds := e1.other (w.heap.size + 1) X _ (by omega)
            have hb' := e4.setCell (p := ⟨w.heap.size + 1, X, none⟩) (Nat.le_succ _) (.int .i64 ((T : Int) + 1))
            have ho' := e3.apart (grown_set (World.grownBy.refl wq (some (w.heap.size + 1))) X (.int .i64 ((T : Int) + 1))) (fun q hq e => by have := hgne q hq; injection e with e; omega)
            have hszq : (wq.setCell ⟨w.heap.size + 1, X, none⟩ (.int .i64 ((T : Int) + 1))).heap.size = wq.heap.size := by simp [World.setCell]
            have hszB : w.heap.size + 2 ≤ wq.heap.size := by have := e2.lt; omega
            clear e1 e2 e3
            go_wp2_with (at_builtin; refine wpList_append_own _ rfl _ _ 22 rfl (w.heap.size + 2) 2 i0 (.int .i64 0) 1 8 Tryd.underlying22 hi hz0 hz1 hz2 rfl (by decide) (.slice A N cA) N ((ints (shTo vs k j)).map (Value.int .i64)) rfl (World.ownsRow.alloc ho' _) ⟨_, 0, none⟩ 1 1 [.int .i64 (X : Int)] rfl rfl ?c1 ?c2 hml hby2 ?c5 ?_)
            case c1 => first | exact cell_one_new _ _ _ | (have h9 := cell_one_new (wq.setCell ⟨w.heap.size + 1, X, none⟩ (.int .i64 ((T : Int) + 1))) (.int .i64 (X : Int)) 2; rw [hszq] at h9; exact h9)
            case c2 => intro z hz; simp at hz; subst hz; rfl
            case c5 => simp; omega
            intro v' w5 hown hg _
            rw [ints_snoc_map, ← HS2.out] at hown
            have hb5 : Below w.heap.size w w5 := (hb'.alloc hb'.size _).grown hg (by have := hb'.size; simp; omega) (fun r hr => by have := hgne r (ownBlock_map' hr); omega)
            have k1 : ABox w5 w.heap.size ds := (q1'.apart (grownBy_of_below (below1 _ (.cells #[.int .i64 (X : Int)] 2))) (fun e => by cases e)).apart hg (fun e => by have := hgne _ (ownBlock_map' e); omega)
            have k2 : ABox w5 (w.heap.size + 1) (ts.set X (T + 1)) := (q2'.apart (grownBy_of_below (below1 _ (.cells #[.int .i64 (X : Int)] 2))) (fun e => by cases e)).apart hg (fun e => by have := hgne _ (ownBlock_map' e); omega)
            obtain ⟨A5, c5, hv, ho5⟩ := own_shape hown
            rw [hv]
            have HN5 : Hid (N + 1 = (shTo vs k (j + 1)).length) := Lib.hid (by rw [HS2.out, List.length_append, ← HN.out]; rfl)
            clear hg hown hv ho' q1' q2' hb'
            go_wp2_with fail
            go_roundw
            case rel => exact ⟨j + 1, N + 1, c5, A5, ts.set X (T + 1), hlt2, by go_num, rfl, by omega, HN5, ho5, k1, k2, Lib.hid (by rw [HS2.out]; exact HTS.out), hb5⟩
            case measure => simp [intOf]; omega
          · have HS2 : Hid (shTo vs k (j + 1) = shTo vs k j) := Lib.hid (by rw [HST.out, if_neg hTQ])
            have hI : ¬ (T : Int) < (Q : Int) := by omega
            have hbd := hb.drew
            go_wp2_with fail
            go_quiet (fail)
            go_wp2_with fail
            go_roundw
            case rel => exact ⟨j + 1, N, cA, A, ts, hlt2, by go_num, rfl, by omega, Lib.hid (by rw [HS2.out]; exact HN.out), by rw [HS2.out]; first | exact ho | exact ho.below hb.drew | exact World.ownsRow.drew ho, q1, q2, Lib.hid (by rw [HS2.out]; exact HT.out), by first | exact below_drewN hb _ | exact hb.drew⟩
            case measure => simp [intOf]; omega
        · have hji : j = i := by omega
          subst hji
          have HF : Hid (shTo vs k j = shF vs k) := Lib.hid (by unfold shF; rw [HLV.out])
          have hn := HN.out
          rw [HF.out] at ho hn
          go_wp2_with fail
          go_ret
          rw [← hn]
          exact ⟨A, cA, rfl, ho.mono (by omega), hb⟩
end Go.Proofs.YtdafdffmkjhhcaaDoor
