/-
  Roots of traces: the program's side. Roots of traces: the program's search.
-/
import Derived.Test.YtokikilfmglhhaaDoorRg1
import Derived.Test.YtokikilfmglhhaaDoorNfA
import Derived.Test.YtokikilfmglhhaaDoorEq64
import Derived.Deep.RegionWith
namespace Go.Proofs.YtokikilfmglhhaaDoor
open Go Go.RowKit
set_option linter.unusedVariables false
set_option maxRecDepth 100000

theorem take_count (us : List Nat) (i a : Nat) (hi : i < us.length) : (us.take (i + 1)).count a = (us.take i).count a + if us.getD i 0 = a then 1 else 0 := by
  rw [List.take_add_one, List.getElem?_eq_getElem hi, List.count_append, List.getD_eq_getElem?_getD, List.getElem?_eq_getElem hi]
  show _ + List.count a [us[i]] = _ + if us[i] = a then 1 else 0
  rw [List.count_singleton]
  by_cases e : us[i] = a <;> simp [e]
/-- A variable that holds eight numbers. -/
def ABox (w : World) (g : Nat) (ds : List Nat) : Prop := ds.length = 8 ∧ w.heap[g]? = some (.cells ((ints ds).map (Value.int .i64)).toArray 161 (0, 0))
theorem ABox.cell {w : World} {g : Nat} {ds : List Nat} (h : ABox w g ds) {k : Nat} (hk : k < 8) : w.cell? ⟨g, k, none⟩ = some (.int .i64 ((ds.getD k 0 : Nat) : Int)) := by
  refine cell_row h.2 k _ ?_
  rw [List.getElem?_map, ints_getD ds k (by rw [h.1]; exact hk)]; rfl
theorem ABox.fr {w : World} {g : Nat} {ds : List Nat} (h : ABox w g ds) (k : Nat) : w.frozen? ⟨g, k, none⟩ = false := by
  have := h.2
  simp [World.frozen?, this]
theorem ABox.set {w : World} {g : Nat} {ds : List Nat} (h : ABox w g ds) (k m : Nat) : ABox (w.setCell ⟨g, k, none⟩ (.int .i64 (m : Int))) g (ds.set k m) := by
  refine ⟨by rw [List.length_set]; exact h.1, ?_⟩
  rw [heap_put h.2]
  congr 2
  rw [← ints_set]
  simp [List.map_set]
theorem ABox.other {w : World} {g : Nat} {ds : List Nat} (h : ABox w g ds) (q k : Nat) (v : Value) (hne : q ≠ g) : ABox (w.setCell ⟨q, k, none⟩ v) g ds := by
  refine ⟨h.1, ?_⟩
  exact (Below.heap_setCell _ _ _ _ (fun e => hne (by first | exact e | exact e.symm))).trans h.2
theorem ABox.lt {w : World} {g : Nat} {ds : List Nat} (h : ABox w g ds) : g < w.heap.size := (Array.getElem?_eq_some_iff.1 h.2).1
theorem ABox.apart {w w' : World} {g : Nat} {ds : List Nat} {row : Option Nat} (h : ABox w g ds) (hg : w.grownBy w' row) (hne : row ≠ some g) : ABox w' g ds := ⟨h.1, (hg.block g h.lt (fun e => hne e.symm)).trans h.2⟩
set_option maxHeartbeats 1600000 in
theorem share_any (A1 : Option Addr) (m d k : Nat) (vs : List Nat) (w : World) (h2 : Rd w A1 m (ints vs)) (hm : m ≤ 24) (hvs : ∀ x, x ∈ vs → x < 8) (hk : 1 ≤ k) (hk24 : k ≤ 24) :
    Calls Tryd.prog 115 #[.slice A1 m d, .int .i64 (k : Int)] w (MakesE 2 w (shF vs k).length (ints (shF vs k))) := by
  obtain ⟨i0, hi, hz0, hz1, hz2⟩ := info_parts info_int
  have HLV : Hid (vs.length = m) := Lib.hid (by have := h2.1; rw [ints_len] at this; exact this)
  have HVN := Lib.hid hvs
  have HNX : Hid (∀ i, i < m → shTo vs k (i + 1) = if (shTo vs k i).count (vs.getD i 0) < vs.count (vs.getD i 0) / k then shTo vs k i ++ [vs.getD i 0] else shTo vs k i) := Lib.hid fun i hi => rfl
  have HLE : Hid (∀ i, (shTo vs k i).length ≤ i) := Lib.hid (shTo_len vs k)
  have HCM : Hid (∀ a, vs.count a ≤ 24) := Lib.hid fun a => Nat.le_trans List.count_le_length (by have := HLV.out; omega)
  have HTC : Hid (∀ i a, (vs.take i).count a ≤ 24) := Lib.hid fun i a => Nat.le_trans List.count_le_length (by rw [List.length_take]; have := HLV.out; omega)
  have HXN : Hid (∀ i, i < m → vs.getD i 0 < 8) := Lib.hid fun i hi => hvs _ (by rw [List.getD_eq_getElem?_getD, List.getElem?_eq_getElem (by rw [HLV.out]; exact hi)]; exact List.getElem_mem _)
  have hZ : (ints (List.replicate 8 0)).map (Value.int .i64) = [.int .i64 0, .int .i64 0, .int .i64 0, .int .i64 0, .int .i64 0, .int .i64 0, .int .i64 0, .int .i64 0] := rfl
  obtain ⟨O8, hO8⟩ : ∃ O8 : Obj, (Obj.cells #[.int .i64 0, .int .i64 0, .int .i64 0, .int .i64 0, .int .i64 0, .int .i64 0, .int .i64 0, .int .i64 0] 161) = O8 := ⟨_, rfl⟩
  have b1 : ABox (w.alloc O8) w.heap.size (List.replicate 8 0) := ⟨rfl, by rw [← hO8]; exact World.alloc_heap_new w _⟩
  have b2 : ABox ((w.alloc O8).alloc O8) (w.heap.size + 1) (List.replicate 8 0) := ⟨rfl, by
    have e9 : (w.alloc O8).heap.size = w.heap.size + 1 := by simp
    rw [← e9, ← hO8]; exact World.alloc_heap_new _ _⟩
  have hb1 := below1 w O8
  have hb2 := below1 (w.alloc O8) O8
  have b1' : ABox ((w.alloc O8).alloc O8) w.heap.size (List.replicate 8 0) := b1.apart (grownBy_of_below hb2) (fun e => by cases e)
  have hbb := hb1.trans (hb2.mono hb1.size)
  have hsz2 : ((w.alloc O8).alloc O8).heap.size = w.heap.size + 2 := by simp
  obtain ⟨W2, hW2⟩ : ∃ W2, (w.alloc O8).alloc O8 = W2 := ⟨_, rfl⟩
  rw [hW2] at b2 b1' hbb hsz2
  have hr2 := h2.below hbb
  clear hvs hZ b1 hb1 hb2
  go_enter Tryd.func115, Tryd.ntmps115
  go_wp2_with fail
  go_loopw [14] (fun q wr => ∃ (i : Nat) (ds : List Nat), i ≤ m ∧ q = .int .i64 (i : Int) ∧ ABox wr w.heap.size ds ∧ ABox wr (w.heap.size + 1) (List.replicate 8 0) ∧ Hid (∀ a, a < 8 → ds.getD a 0 = (vs.take i).count a) ∧ Below w.heap.size w wr) (fun q _ => m - (intOf q).toNat)
  case atStart => exact ⟨0, List.replicate 8 0, Nat.zero_le _, rfl, b1', b2, Lib.hid (fun a _ => by rw [replicate_getD]; rfl), hbb⟩
  case round =>
    clear b1' b2 hbb hr2
    obtain ⟨i, ds, hi9, rfl, q1, q2, HD, hb⟩ := hrel
    by_cases hlt : i < m
    · obtain ⟨b, off, x, rfl, hbs, hx, hcx⟩ := (h2.below hb).at_ hlt
      rw [ints_getD vs i (by rw [HLV.out]; exact hlt)] at hx
      injection hx with hx
      have hx8 := HXN.out i hlt
      have HTK := Lib.hid fun a => take_count vs i a (by rw [HLV.out]; exact hlt)
      obtain ⟨X, hX⟩ : ∃ X, X = vs.getD i 0 := ⟨_, rfl⟩
      rw [← hX] at hx hx8 HTK
      subst hx
      have hcl := q1.cell hx8
      have hfr := q1.fr X
      have hdx : ds.getD X 0 ≤ 24 := by rw [HD.out X hx8]; exact HTC.out i X
      have HST : Hid (∀ a, a < 8 → (ds.set X (ds.getD X 0 + 1)).getD a 0 = (vs.take (i + 1)).count a) := Lib.hid fun a ha => by
        rw [getD_set ds X _ a (by rw [q1.1]; exact hx8), HTK.out]
        by_cases e : a = X
        · subst e; rw [if_pos rfl, if_pos rfl, HD.out a ha]
        · rw [if_neg e, if_neg (fun h9 => e h9.symm), HD.out a ha, Nat.add_zero]
      obtain ⟨C, hC⟩ : ∃ C, C = ds.getD X 0 := ⟨_, rfl⟩
      rw [← hC] at hcl hdx HST
      have hw : wrap64 ((C : Int) + 1) = ((C + 1 : Nat) : Int) := by unfold wrap64; omega
      have q1' := q1.set X (C + 1)
      have q2' := q2.other w.heap.size X (.int .i64 ((C + 1 : Nat) : Int)) (by omega)
      have hb' := hb.setCell (p := ⟨w.heap.size, X, none⟩) (Nat.le_refl _) (.int .i64 ((C + 1 : Nat) : Int))
      clear hX hC
      go_wp2_with fail
      go_roundw
      case rel => exact ⟨i + 1, ds.set X (C + 1), hlt, by go_num, q1', q2', HST, hb'⟩
      case measure => simp [intOf]; omega
    · have him : i = m := by omega
      subst him
      have HD2 : Hid (∀ a, a < 8 → ds.getD a 0 = vs.count a) := Lib.hid fun a ha => by rw [HD.out a ha, List.take_of_length_le (by rw [HLV.out]; exact Nat.le_refl _)]
      have hszr : w.heap.size + 2 ≤ wr.heap.size := by have := q2.lt; omega
      obtain ⟨wo, hwo⟩ : ∃ wo : World, wr = wo := ⟨_, rfl⟩
      rw [hwo] at q1 q2 hb hszr ⊢
      clear HD hwo
      go_wp2_with fail
      go_loopw [9, 26] (fun p q wr => ∃ (j N cA : Nat) (A : Option Addr) (ts : List Nat), j ≤ i ∧ q = .int .i64 (j : Int) ∧ p = .slice A N cA ∧ N ≤ j ∧ Hid (N = (shTo vs k j).length) ∧ Own 2 wr (w.heap.size + 2) A N cA (ints (shTo vs k j)) ∧ ABox wr w.heap.size ds ∧ ABox wr (w.heap.size + 1) ts ∧ Hid (∀ a, a < 8 → ts.getD a 0 = (shTo vs k j).count a) ∧ Below w.heap.size w wr) (fun _ q _ => i - (intOf q).toNat)
      case atStart => exact ⟨0, 0, 0, none, List.replicate 8 0, Nat.zero_le _, rfl, rfl, Nat.le_refl _, Lib.hid rfl, Own.nil _ _ _, q1, q2, Lib.hid (fun a _ => by rw [replicate_getD]; rfl), hb⟩
      case round =>
        clear q1 q2 hb
        obtain ⟨j, N, cA, A, ts, hj, rfl, rfl, hNj, HN, ho, q1, q2, HT, hb⟩ := hrel
        by_cases hlt2 : j < i
        · obtain ⟨b, off, x, rfl, hbs, hx, hcx⟩ := (h2.below hb).at_ hlt2
          rw [ints_getD vs j (by rw [HLV.out]; exact hlt2)] at hx
          injection hx with hx
          have hx8 := HXN.out j hlt2
          have HST := Lib.hid (HNX.out j hlt2)
          obtain ⟨X, hX⟩ : ∃ X, X = vs.getD j 0 := ⟨_, rfl⟩
          rw [← hX] at hx hx8 HST
          subst hx
          have hc1 := q1.cell hx8
          have hc2 := q2.cell hx8
          have hf2 := q2.fr X
          have HC1 := Lib.hid (HD2.out X hx8)
          have HC2 := Lib.hid (HT.out X hx8)
          have hC1m := HCM.out X
          have hTm : ts.getD X 0 ≤ 24 := by
            rw [HC2.out]
            exact Nat.le_trans List.count_le_length (Nat.le_trans (HLE.out j) (by omega))
          obtain ⟨C, hC⟩ : ∃ C, C = ds.getD X 0 := ⟨_, rfl⟩
          obtain ⟨T, hT⟩ : ∃ T, T = ts.getD X 0 := ⟨_, rfl⟩
          rw [← hC] at hc1 HC1
          rw [← hT] at hc2 HC2 hTm
          rw [← HC1.out] at hC1m
          rw [← HC1.out, ← HC2.out] at HST
          have HTS : Hid (∀ a, a < 8 → (ts.set X (T + 1)).getD a 0 = (shTo vs k j ++ [X]).count a) := Lib.hid fun a ha => by
            rw [getD_set ts X _ a (by rw [q2.1]; exact hx8), List.count_append, List.count_singleton]
            by_cases e : a = X
            · subst e; rw [if_pos rfl, HC2.out]; simp
            · have e2 : (X == a) = false := beq_false_of_ne (fun h9 => e h9.symm)
              rw [if_neg e, e2, HT.out a ha]; simp
          have hk0 : ¬ ((k : Int) = 0) := by omega
          have hdiv : (C : Int) / (k : Int) = ((C / k : Nat) : Int) := (Int.natCast_ediv C k).symm
          have hdiv2 : Int.tdiv (C : Int) (k : Int) = ((C / k : Nat) : Int) := by rw [Int.tdiv_eq_ediv_of_nonneg (by omega)]; exact hdiv
          have hCk : C / k ≤ 24 := Nat.le_trans (Nat.div_le_self _ _) hC1m
          obtain ⟨Q, hQ⟩ : ∃ Q, Q = C / k := ⟨_, rfl⟩
          rw [← hQ] at hdiv hdiv2 hCk HST
          clear hX hC hT hQ
          by_cases hTQ : T < Q
          · have HS2 : Hid (shTo vs k (j + 1) = shTo vs k j ++ [X]) := Lib.hid (by rw [HST.out, if_pos hTQ])
            have hI : (T : Int) < (Q : Int) := by omega
            have hw : wrap64 ((T : Int) + 1) = ((T + 1 : Nat) : Int) := by unfold wrap64; omega
            have hgne : ∀ q, A.map (·.block) = some q → w.heap.size + 2 ≤ q := fun q hq => (ho.lt q hq).1
            have hml : N + 1 ≤ maxLen := by unfold maxLen; omega
            have hby2 : (N + 1) * 8 ≤ 140737488355328 := by omega
            go_wp2_with fail
            go_quiet (fail)
            obtain ⟨wq, hwq⟩ : ∃ wq, wq = wr.drewN nq := ⟨_, rfl⟩
            have e1 : ABox wq w.heap.size ds := by rw [hwq]; exact q1
            have e2 : ABox wq (w.heap.size + 1) ts := by rw [hwq]; exact q2
            have e3 : Own 2 wq (w.heap.size + 2) A N cA (ints (shTo vs k j)) := by rw [hwq]; exact ho.below (below_drewN (Below.refl _ _) _)
            have e4 : Below w.heap.size w wq := by rw [hwq]; exact below_drewN hb _
            have e5 : wq.cell? ⟨w.heap.size + 1, X, none⟩ = some (.int .i64 (T : Int)) := by rw [hwq]; exact hc2
            have e6 : wq.frozen? ⟨w.heap.size + 1, X, none⟩ = false := by rw [hwq]; exact hf2
            rw [← hwq]
            clear hwq q1 q2 ho hb hc1 hc2 hf2 hcx hbs
            have q2' : ABox (wq.setCell ⟨w.heap.size + 1, X, none⟩ (.int .i64 ((T : Int) + 1))) (w.heap.size + 1) (ts.set X (T + 1)) := e2.set X (T + 1)
            have q1' : ABox (wq.setCell ⟨w.heap.size + 1, X, none⟩ (.int .i64 ((T : Int) + 1))) w.heap.size ds := e1.other (w.heap.size + 1) X _ (by omega)
            have hb' := e4.setCell (p := ⟨w.heap.size + 1, X, none⟩) (Nat.le_succ _) (.int .i64 ((T : Int) + 1))
            have ho' := e3.apart (grown_set (World.grownBy.refl wq (some (w.heap.size + 1))) X (.int .i64 ((T : Int) + 1))) (fun q hq e => by have := hgne q hq; injection e with e; omega)
            have hszq : (wq.setCell ⟨w.heap.size + 1, X, none⟩ (.int .i64 ((T : Int) + 1))).heap.size = wq.heap.size := by simp [World.setCell]
            have hszB : w.heap.size + 2 ≤ wq.heap.size := by have := e2.lt; omega
            clear e1 e2 e3
            go_wp2_with (at_builtin; refine wpList_append_own _ rfl _ _ 22 rfl (w.heap.size + 2) 2 i0 (.int .i64 0) 1 8 Tryd.underlying22 hi hz0 hz1 hz2 rfl (by decide) (.slice A N cA) N ((ints (shTo vs k j)).map (Value.int .i64)) rfl (World.ownsRow.alloc ho' _) ⟨_, 0, none⟩ 1 1 [.int .i64 (X : Int)] rfl rfl ?c1 ?c2 hml hby2 ?c5 ?_)
            case c1 => first | exact cell_one_new _ _ _ | (have h9 := cell_one_new (wq.setCell ⟨w.heap.size + 1, X, none⟩ (.int .i64 ((T : Int) + 1))) (.int .i64 (X : Int)) 2; rw [hszq] at h9; exact h9)
            case c2 => intro z hz; simp at hz; subst hz; rfl
            case c5 => simp; omega
            intro v' w5 hown hg _
            rw [ints_snoc_map, ← HS2.out] at hown
            have hb5 : Below w.heap.size w w5 := (hb'.alloc hb'.size _).grown hg (by have := hb'.size; simp; omega) (fun r hr => by have := hgne r (ownBlock_map' hr); omega)
            have k1 : ABox w5 w.heap.size ds := (q1'.apart (grownBy_of_below (below1 _ (.cells #[.int .i64 (X : Int)] 2))) (fun e => by cases e)).apart hg (fun e => by have := hgne _ (ownBlock_map' e); omega)
            have k2 : ABox w5 (w.heap.size + 1) (ts.set X (T + 1)) := (q2'.apart (grownBy_of_below (below1 _ (.cells #[.int .i64 (X : Int)] 2))) (fun e => by cases e)).apart hg (fun e => by have := hgne _ (ownBlock_map' e); omega)
            obtain ⟨A5, c5, hv, ho5⟩ := own_shape hown
            rw [hv]
            have HN5 : Hid (N + 1 = (shTo vs k (j + 1)).length) := Lib.hid (by rw [HS2.out, List.length_append, ← HN.out]; rfl)
            clear hg hown hv ho' q1' q2' hb'
            go_wp2_with fail
            go_roundw
            case rel => exact ⟨j + 1, N + 1, c5, A5, ts.set X (T + 1), hlt2, by go_num, rfl, by omega, HN5, ho5, k1, k2, Lib.hid (by rw [HS2.out]; exact HTS.out), hb5⟩
            case measure => simp [intOf]; omega
          · have HS2 : Hid (shTo vs k (j + 1) = shTo vs k j) := Lib.hid (by rw [HST.out, if_neg hTQ])
            have hI : ¬ (T : Int) < (Q : Int) := by omega
            have hbd := hb.drew
            go_wp2_with fail
            go_quiet (fail)
            go_wp2_with fail
            go_roundw
            case rel => exact ⟨j + 1, N, cA, A, ts, hlt2, by go_num, rfl, by omega, Lib.hid (by rw [HS2.out]; exact HN.out), by rw [HS2.out]; first | exact ho | exact ho.below hb.drew | exact World.ownsRow.drew ho, q1, q2, Lib.hid (by rw [HS2.out]; exact HT.out), by first | exact below_drewN hb _ | exact hb.drew⟩
            case measure => simp [intOf]; omega
        · have hji : j = i := by omega
          subst hji
          have HF : Hid (shTo vs k j = shF vs k) := Lib.hid (by unfold shF; rw [HLV.out])
          have hn := HN.out
          rw [HF.out] at ho hn
          go_wp2_with fail
          go_ret
          rw [← hn]
          exact ⟨A, cA, rfl, ho.mono (by omega), hb⟩
end Go.Proofs.YtokikilfmglhhaaDoor
namespace Go.Proofs.YtokikilfmglhhaaDoor
open Go Go.RowKit
set_option linter.unusedVariables false
set_option maxRecDepth 100000

set_option maxHeartbeats 6400000 in
theorem root_any (R A1 : Option Addr) (n c m d : Nat) (rs vs : List Nat) (w : World) (h : Rd w R n (ints rs)) (hl : rs.length = n) (hn : n ≤ 8) (hr : ∀ i, rs.getD i 0 < 2 ^ n) (hdep : Dep rs) (h2 : Rd w A1 m (ints vs)) (hm : m ≤ 24) (hvs : ∀ x, x ∈ vs → x < n) (hT : Tab w) :
    Calls Tryd.prog 76 #[.slice R n c, .slice A1 m d] w fun e w' => ∃ A' c', e = .returned (.tuple #[.slice A' (rtF rs vs).1.length c', .int .i64 ((rtF rs vs).2 : Int)]) ∧ Own 2 w' w.heap.size A' (rtF rs vs).1.length c' (ints (rtF rs vs).1) ∧ Below w.heap.size w w' := by
  have HLV : Hid (vs.length = m) := Lib.hid (by have := h2.1; rw [ints_len] at this; exact this)
  have HVN := Lib.hid hvs
  have HR := Lib.hid hr
  have HLR := Lib.hid hl
  have HDEP := Lib.hid hdep
  have HR63 : Hid (∀ i, rs.getD i 0 < 9223372036854775808) := Lib.hid fun i => lt63 (by omega) (hr i)
  have HRK : Hid (∀ x, x < m → vs.getD x 0 < n) := Lib.hid fun x hx => in_getD HVN.out x (by rw [HLV.out]; exact hx)
  have HSL : Hid (∀ k, (shF vs k).length * k ≤ m ∧ (shF vs k).length ≤ m) := Lib.hid fun k => ⟨by rw [← HLV.out]; exact sh_len vs k, by rw [← HLV.out]; exact shTo_len vs k vs.length⟩
  have HSN : Hid (∀ k x, x ∈ shF vs k → x < n) := Lib.hid fun k => sh_lt vs k n hvs
  have HNL : Hid (∀ ws, (∀ x, x ∈ ws → x < n) → (nfR rs ws).length = ws.length) := Lib.hid fun ws hw => by
    have e : nfR rs ws = nfM (RDep rs) n ws := by unfold nfR; rw [hl]
    have hsym : ∀ a b, RDep rs a b = RDep rs b a := rdep_sym rs n hl hr hdep
    have href : ∀ a, a < n → RDep rs a a = true := fun a ha => hdep.1 a (by omega)
    rw [e]
    exact Eqv.len hsym href _ ws (fun x hx => by
      unfold nfM at hx
      exact nfGo_ltR _ _ _ _ x hx) hw (nfGo_eqv hsym href ws.length ws rfl hw)
  have HT0 := Lib.hid (traceOf_any R A1 n m c d rs vs w h h2 hm (by omega) HRK.out HR63.out hT)
  have HV0 : Hid (rtF rs vs = rtGo rs vs m) := Lib.hid (by unfold rtF; rw [HLV.out])
  have HN0L : Hid ((nfR rs vs).length = m) := Lib.hid (by rw [HNL.out vs HVN.out, HLV.out])
  obtain ⟨V, hV⟩ : ∃ V, V = rtF rs vs := ⟨_, rfl⟩
  rw [← hV] at HV0 ⊢
  clear hV hr hl hdep hvs
  go_enter Tryd.func76, Tryd.ntmps76
  go_wp2_with fail
  refine HT0.out.mono ?_
  rintro e v0 ⟨E0, g0, F0, k0, es0, rfl, hp0, hs0, hh1, hh2, -, -, ha0⟩
  have HNF0 := Lib.hid (nf_from E0 F0 g0 k0 m n rs vs es0 v0 HLR.out HR.out HDEP.out HLV.out HRK.out hm hp0 hs0 hh1 hh2 (hT.below ha0))
  clear hp0 hs0 hh1 hh2
  go_wp2_with fail
  refine HNF0.out.mono ?_
  rintro e u0 ⟨G0, l0, rfl, o0, hb0⟩
  have hb00 := ha0.trans (hb0.mono ha0.size)
  have o0' := o0.mono ha0.size
  clear o0 hb0 ha0
  go_wp2_with fail
  go_loopw [7] (fun p wr => ∃ k : Nat, k ≤ m ∧ p = .int .i64 (k : Int) ∧ Hid (V = rtGo rs vs k) ∧ Own 2 wr w.heap.size G0 m l0 (ints (nfR rs vs)) ∧ Below w.heap.size w wr) (fun p _ => (intOf p).toNat)
  case atStart => exact ⟨m, Nat.le_refl _, rfl, HV0, o0', hb00⟩
  case round =>
    clear o0' hb00
    obtain ⟨k, hk, rfl, HV, oN, hb⟩ := hrel
    by_cases hk1 : 1 < k
    · have hI : (1 : Int) < (k : Int) := by omega
      have hrR := h.below hb
      have hrA := h2.below hb
      have hTw := hT.below hb
      have HSH := Lib.hid (share_any A1 m d k vs wr hrA hm (fun x hx => Nat.lt_of_lt_of_le (HVN.out x hx) hn) (by omega) (by omega))
      have hs1 := (HSL.out k).1
      have hs2 := (HSL.out k).2
      have HYE := Lib.hid (rtGo_yes rs vs k hk1)
      have HNE := Lib.hid (rtGo_no rs vs k hk1)
      have HPN := Lib.hid (HSN.out k)
      have HRL : Hid ((repV k (shF vs k)).length = (shF vs k).length * k) := Lib.hid (repV_len k _)
      obtain ⟨p, hp⟩ : ∃ p, p = shF vs k := ⟨_, rfl⟩
      rw [← hp] at HSH hs1 hs2 HYE HNE HPN HRL
      obtain ⟨q, hq⟩ : ∃ q, q = p.length := ⟨_, rfl⟩
      have HLP : Hid (p.length = q) := Lib.hid hq.symm
      rw [← hq] at HSH hs1 hs2 HRL
      obtain ⟨Q, hQ⟩ : ∃ Q, Q = q * k := ⟨_, rfl⟩
      have HQ := Lib.hid hQ
      rw [← hQ] at HRL hs1
      have HRN : Hid (∀ x, x ∈ repV k p → x < n) := Lib.hid fun x hx => HPN.out x (repV_mem hx)
      have HK1 : Hid (∀ x, x < Q → (repV k p).getD x 0 < n) := Lib.hid fun x hx => in_getD HRN.out x (by rw [HRL.out]; exact hx)
      have HK2 : Hid (∀ x, x < q → p.getD x 0 < n) := Lib.hid fun x hx => in_getD HPN.out x (by rw [HLP.out]; exact hx)
      have hQ24 : Q ≤ 24 := by omega
      have hq24 : q ≤ 24 := by omega
      have hk24 : k ≤ 24 := by omega
      have hn24 : n ≤ 24 := by omega
      clear hp hq hQ hk1
      go_wp2_with fail
      refine HSH.out.mono ?_
      rintro e w2 ⟨A2, c2, rfl, o2, hb2⟩
      have HRP := Lib.hid (repeat_ints A2 q c2 k p w2 o2.rd hq24 hk24)
      rw [← HQ.out] at HRP
      have r2 := o2.rd
      have oN2 := oN.below hb2
      have hbB2 := hb.trans (hb2.mono hb.size)
      clear o2 oN
      go_wp2_with fail
      refine HRP.out.mono ?_
      rintro e w3 ⟨A3, c3, rfl, o3, hb3⟩
      have r23 := r2.below hb3
      have oN3 := oN2.below hb3
      have hbB3 := hbB2.trans (hb3.mono hbB2.size)
      have HT1 := Lib.hid (traceOf_any R A3 n Q c c3 rs (repV k p) w3 (h.below hbB3) o3.rd hQ24 hn24 HK1.out HR63.out (hT.below hbB3))
      clear o3 r2 oN2 hb3 hb2
      go_wp2_with fail
      refine HT1.out.mono ?_
      rintro e v1 ⟨E1, g1, F1, k1, es1, rfl, hp1, hs1', hh1, hh2, -, -, ha1⟩
      have r24 := r23.below ha1
      have oN4 := oN3.below ha1
      have hbB4 := hbB3.trans (ha1.mono hbB3.size)
      have HN1 := Lib.hid (nf_from E1 F1 g1 k1 Q n rs (repV k p) es1 v1 HLR.out HR.out HDEP.out HRL.out HK1.out hQ24 hp1 hs1' hh1 hh2 (hT.below hbB4))
      clear hp1 hs1' hh1 hh2 r23 oN3 ha1
      go_wp2_with fail
      refine HN1.out.mono ?_
      rintro e u1 ⟨G1, l1, rfl, o1, hb1⟩
      have r25 := r24.below hb1
      have oN5 := oN4.below hb1
      have hbB5 := hbB4.trans (hb1.mono hbB4.size)
      have HEQ := Lib.hid (equal64_two G1 G0 Q m l1 l0 (ints (nfR rs (repV k p))) (ints (nfR rs vs)) u1 o1.rd oN5.rd (by omega))
      clear o1 r24 oN4 hb1
      have HDE : Hid (decide (ints (nfR rs (repV k p)) = ints (nfR rs vs)) = decide (nfR rs (repV k p) = nfR rs vs)) := Lib.hid (by rw [decide_eq_decide]; exact ints_inj _ _)
      rw [HDE.out] at HEQ
      by_cases heq : nfR rs (repV k p) = nfR rs vs
      · rw [decide_eq_true heq] at HEQ
        have HVA : Hid (V = (nfR rs p, k)) := Lib.hid (by rw [HV.out, HYE.out heq])
        have hNP := HNL.out p HPN.out
        rw [HLP.out] at hNP
        have HNP := Lib.hid hNP
        clear heq hNP
        go_wp2_with fail
        refine HEQ.out.mono ?_
        rintro e w6 ⟨rfl, hb6⟩
        have r26 := r25.below hb6
        have hbB6 := hbB5.trans (hb6.mono hbB5.size)
        have HT2 := Lib.hid (traceOf_any R A2 n q c c2 rs p w6 (h.below hbB6) r26 hq24 hn24 HK2.out HR63.out (hT.below hbB6))
        go_wp2_with fail
        refine HT2.out.mono ?_
        rintro e v2 ⟨E2, g2, F2, k2, es2, rfl, hp2, hs2', hh1, hh2, -, -, ha2⟩
        have hbB7 := hbB6.trans (ha2.mono hbB6.size)
        have HN2 := Lib.hid (nf_from E2 F2 g2 k2 q n rs p es2 v2 HLR.out HR.out HDEP.out HLP.out HK2.out hq24 hp2 hs2' hh1 hh2 (hT.below hbB7))
        clear hp2 hs2' hh1 hh2
        go_wp2_with fail
        refine HN2.out.mono ?_
        rintro e u2 ⟨G2, l2, rfl, o2, hb2⟩
        have hwk : wrap64 (k : Int) = (k : Int) := by unfold wrap64; omega
        go_wp2_with fail
        go_ret2
        rw [HVA.out]
        refine ⟨G2, l2, ?_, ?_, hbB7.trans (hb2.mono hbB7.size)⟩
        · show _ = Ending.returned (.tuple #[.slice G2 (nfR rs p).length l2, .int .i64 (k : Int)])
          rw [HNP.out]; rfl
        · show Own _ _ _ G2 (nfR rs p).length l2 (ints (nfR rs p))
          rw [HNP.out]
          exact o2.mono hbB7.size
      · rw [decide_eq_false heq] at HEQ
        have HVA : Hid (V = rtGo rs vs (k - 1)) := Lib.hid (by rw [HV.out, HNE.out heq])
        have hsub : wrap64 ((k : Int) - 1) = ((k - 1 : Nat) : Int) := by unfold wrap64; omega
        have hsb2 : (k : Int) - 1 = ((k - 1 : Nat) : Int) := by omega
        clear heq
        go_wp2_with fail
        refine HEQ.out.mono ?_
        rintro e w6 ⟨rfl, hb6⟩
        have hbB6 := hbB5.trans (hb6.mono hbB5.size)
        have oN6 := oN5.below hb6
        go_wp2_with fail
        go_roundw
        case rel => exact ⟨k - 1, by omega, by first | rfl | (rw [← hsb2]; go_num) | go_num, HVA, oN6, hbB6⟩
        case measure => simp [intOf]; omega
    · have hI : ¬ (1 : Int) < (k : Int) := by omega
      have HVA : Hid (V = (nfR rs vs, 1)) := Lib.hid (by rw [HV.out, rtGo_end rs vs k (by omega)])
      go_wp2_with fail
      go_ret2
      rw [HVA.out]
      refine ⟨G0, l0, ?_, ?_, hb⟩
      · show _ = Ending.returned (.tuple #[.slice G0 (nfR rs vs).length l0, .int .i64 ((1 : Nat) : Int)])
        rw [HN0L.out]; rfl
      · show Own _ _ _ G0 (nfR rs vs).length l0 (ints (nfR rs vs))
        rw [HN0L.out]
        exact oN
end Go.Proofs.YtokikilfmglhhaaDoor
