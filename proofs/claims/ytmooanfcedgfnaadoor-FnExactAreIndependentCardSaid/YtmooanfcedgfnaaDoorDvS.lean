/-
  Division: the model's cutting and its test of independence, by contracts.
-/
import Derived.Test.YtmooanfcedgfnaaDoorDvM
import Derived.Test.YtmooanfcedgfnaaDoorStA
namespace Go.Proofs.YtmooanfcedgfnaaDoor
open Go Go.RowKit
set_option linter.unusedVariables false
set_option maxRecDepth 100000

theorem cut_no (D : Nat → Nat → Bool) (a : Nat) (u v : List Nat) (h : freeB D v a = false) : cutM D (a :: u) v = none := by
  show (if freeB D v a = true then _ else none) = none
  rw [h]; rfl
theorem cut_yes (D : Nat → Nat → Bool) (a : Nat) (u v : List Nat) (h : freeB D v a = true) : cutM D (a :: u) v = cutM D u (v.erase a) := by
  show (if freeB D v a = true then cutM D u (v.erase a) else none) = _
  rw [h, if_pos rfl]
def DCutP (V : Option (List Nat)) (w : World) (e : Ending) (w' : World) : Prop :=
  ∃ A N c, e = .returned (.tuple #[.slice A N c, .bool V.isSome]) ∧ Rd w' A N (ints (V.getD [])) ∧ N = (V.getD []).length ∧ N ≤ c ∧ Below w.heap.size w w'
def DCutPost (D : Nat → Nat → Bool) (us vs : List Nat) (w : World) (e : Ending) (w' : World) : Prop := DCutP (cutM D us vs) w e w'
set_option maxHeartbeats 3200000 in
theorem l05Cut_any (A B C : Option Addr) (n c m d q f : Nat) (rs us vs : List Nat) (w : World) (h : Rd w A n (ints rs)) (hn : n ≤ 24) (hr : ∀ i, rs.getD i 0 < 2 ^ n) (h2 : Rd w B m (ints us)) (hm : m ≤ 1048576) (h3 : Rd w C q (ints vs)) (hq : q ≤ 24) (hus : ∀ x, x ∈ us → x < n) (hvs : ∀ x, x ∈ vs → x < n) :
    Calls Tryd.prog 58 #[.agg #[.int .i64 (n : Int), .slice A n c], .slice B m d, .slice C q f] w (DCutPost (RDep rs) us vs w) := by
  have mixed : Tryd.prog.follows .mixedOrders = true := by kernel_rfl
  have HLU : Hid (us.length = m) := Lib.hid (by have := h2.1; rw [ints_len] at this; exact this)
  have HLV : Hid (vs.length = q) := Lib.hid (by have := h3.1; rw [ints_len] at this; exact this)
  have HR := Lib.hid hr
  have HUS := Lib.hid hus
  have HVS := Lib.hid hvs
  clear hr hus hvs
  have x0 := box_new 28 w (n : Int) A n c
  have hb0 : Below w.heap.size w (w.alloc (.cells #[.int .i64 (n : Int), .slice A n c] 28)) := below1 w _
  obtain ⟨W1, hW1⟩ : ∃ W1, w.alloc (.cells #[.int .i64 (n : Int), .slice A n c] 28) = W1 := ⟨_, rfl⟩
  rw [hW1] at x0 hb0
  have HOWN := Lib.hid (own_any C q f (ints vs) W1 (h3.below hb0) (by omega))
  obtain ⟨V, hV⟩ : ∃ V, V = cutM (RDep rs) us vs := ⟨_, rfl⟩
  have HV := Lib.hid hV
  have HPOST : Hid (∀ e w', DCutP V w e w' → DCutPost (RDep rs) us vs w e w') := Lib.hid (by unfold DCutPost; rw [← hV]; exact fun _ _ h => h)
  clear hV h3
  go_enter Tryd.func58, Tryd.ntmps58
  go_wp2_with fail
  refine HOWN.out.mono ?_
  rintro e w3 ⟨A3, c3, rfl, ho3, hb3⟩
  go_wp2_with fail
  go_loopw [8, 9] (fun p i wr => ∃ (k kr : Nat) (ts : List Nat) (Ar : Option Addr) (cr : Nat), k ≤ m ∧ kr ≤ 24 ∧ p = .slice Ar kr cr ∧ i = .int .i64 (k : Int) ∧ Own 2 wr W1.heap.size Ar kr cr (ints ts) ∧ V = cutM (RDep rs) (us.drop k) ts ∧ (∀ x, x ∈ ts → x < n) ∧ Below W1.heap.size W1 wr) (fun _ i _ => m - (intOf i).toNat)
  case atStart => exact ⟨0, q, vs, A3, c3, Nat.zero_le _, hq, rfl, rfl, ho3, HV.out, HVS.out, hb3⟩
  case round =>
    clear ho3 hb3
    obtain ⟨k, kr, ts, Ar, cr, hk, hkr, rfl, rfl, ho, hv, hts, hb⟩ := hrel
    have HVK := Lib.hid hv
    have HTS := Lib.hid hts
    have HLT : Hid (ts.length = kr) := Lib.hid (by have := ho.len; rw [ints_len] at this; exact this)
    clear hv hts
    have hx := x0.next hb
    have y0 := hx.c0
    have y1 := hx.c1
    have HB := Lib.hid (hb0.trans (hb.mono hb0.size))
    by_cases hlt : k < m
    · obtain ⟨gu, ou, x, eU, hgu, hxu, hcx⟩ := ((h2.below hb0).below hb).at_ hlt
      rw [ints_getD us k (by rw [HLU.out]; exact hlt)] at hxu
      injection hxu with hxu
      have hun : us.getD k 0 < n := HUS.out _ (by rw [List.getD_eq_getElem?_getD, List.getElem?_eq_getElem (by rw [HLU.out]; exact hlt)]; exact List.getElem_mem _)
      have hdrop := drop_at us k (by rw [HLU.out]; exact hlt)
      obtain ⟨u, hu⟩ : ∃ u, u = us.getD k 0 := ⟨_, rfl⟩
      rw [← hu] at hxu hun hdrop
      have HDR := Lib.hid hdrop
      subst hxu eU
      clear hu hdrop
      have hdw : Below wr.heap.size wr wr.drew := (Below.refl _ _).drew
      have hFI := l03First_any (n : Int) A Ar n c kr cr u rs ts wr.drew (((h.below hb0).below hb).below hdw) hn HR.out (ho.rd.below hdw) hkr (fun p hp => HTS.out _ (by rw [List.getD_eq_getElem?_getD, List.getElem?_eq_getElem (by rw [HLT.out]; exact hp)]; exact List.getElem_mem _)) hun
      cases hfree : freeB (RDep rs) ts u
      · have hfi : firstI (RDep rs) ts u = -1 := by unfold firstI; rw [hfree]; rfl
        rw [hfi] at hFI
        have HFI := Lib.hid hFI
        have HF : Hid (V = none) := Lib.hid (by rw [HVK.out, HDR.out]; exact cut_no _ _ _ _ hfree)
        clear hFI hfi hfree
        go_wp2_with fail
        go_still_tail 6, mixed
        change wpList _ _ _ _ _ wr.drew
        go_wp2_with fail
        refine HFI.out.mono ?_
        rintro e w4 ⟨rfl, hb4⟩
        go_wp2_with fail
        go_ret2
        exact HPOST.out _ _ (by rw [HF.out]; exact ⟨none, 0, 0, rfl, Rd.nil _ _, rfl, Nat.le_refl _, HB.out.trans ((hdw.trans (hb4.mono hdw.size)).mono HB.out.size)⟩)
      · have hmem := free_mem (RDep rs) u ts hfree
        have hidx : ts.idxOf u < kr := by rw [← HLT.out]; exact List.idxOf_lt_length_of_mem hmem
        have hfi : firstI (RDep rs) ts u = ((ts.idxOf u : Nat) : Int) := by unfold firstI; rw [hfree]; rfl
        rw [hfi] at hFI
        have HER := Lib.hid (erase_idx ts u hmem)
        have HVN : Hid (V = cutM (RDep rs) (us.drop (k + 1)) (ts.erase u)) := Lib.hid (by rw [HVK.out, HDR.out]; exact cut_yes _ _ _ _ hfree)
        obtain ⟨qi, hqi⟩ : ∃ qi, qi = ts.idxOf u := ⟨_, rfl⟩
        rw [← hqi] at hidx hFI HER
        have HFI := Lib.hid hFI
        obtain ⟨gr, rfl, _⟩ := ho.form (by omega)
        have HCAP := Lib.hid (own_cap ho)
        clear hFI hfi hfree hmem hqi
        go_wp2_with fail
        go_still_tail 6, mixed
        change wpList _ _ _ _ _ wr.drew
        go_wp2_with fail
        refine HFI.out.mono ?_
        rintro e w4 ⟨rfl, hb4⟩
        have hb04 : Below wr.heap.size wr w4 := hdw.trans (hb4.mono hdw.size)
        have HWI := Lib.hid (l03Without_any gr 0 kr cr qi ts w4 (ho.rd.below hb04) hkr hidx HCAP.out)
        go_wp2_with fail
        refine HWI.out.mono ?_
        rintro e w6 ⟨A6, c6, rfl, ho6, hb6⟩
        rw [HER.out] at ho6
        have hb06 := hb04.trans (hb6.mono hb04.size)
        have ho6' := ho6.mono (show W1.heap.size ≤ w4.heap.size by have := hb.size; have := hb04.size; omega)
        go_wp2_with fail
        go_roundw
        case rel => exact ⟨k + 1, kr - 1, ts.erase u, A6, c6, hlt, by omega, rfl, by go_num, ho6', HVN.out, fun x hx => HTS.out x (List.mem_of_mem_erase hx), hb.trans (hb06.mono hb.size)⟩
        case measure => simp [intOf]; omega
    · have hkm : k = m := by omega
      subst hkm
      have HE : Hid (V = some ts) := Lib.hid (by
        rw [HVK.out, List.drop_of_length_le (by rw [HLU.out]; exact Nat.le_refl _)]; rfl)
      have HRD := Lib.hid ho.rd
      have HCP := Lib.hid (own_cap ho)
      go_wp2_with fail
      go_ret2
      exact HPOST.out _ _ (by rw [HE.out]; exact ⟨Ar, kr, cr, rfl, HRD.out, HLT.out.symm, HCP.out, HB.out⟩)
set_option maxHeartbeats 1600000 in
theorem l05Independent_any (A B C : Option Addr) (n c m d q f : Nat) (rs us vs : List Nat) (w : World) (h : Rd w A n (ints rs)) (hn : n ≤ 24) (hr : ∀ i, rs.getD i 0 < 2 ^ n) (h2 : Rd w B m (ints us)) (hm : m ≤ 1048576) (h3 : Rd w C q (ints vs)) (hq : q ≤ 1048576) (hus : ∀ x, x ∈ us → x < n) (hvs : ∀ x, x ∈ vs → x < n) :
    Calls Tryd.prog 64 #[.agg #[.int .i64 (n : Int), .slice A n c], .slice B m d, .slice C q f] w fun e w' => e = .returned (.bool (indM (RDep rs) us vs)) ∧ Below w.heap.size w w' := by
  have mixed : Tryd.prog.follows .mixedOrders = true := by kernel_rfl
  have HLU : Hid (us.length = m) := Lib.hid (by have := h2.1; rw [ints_len] at this; exact this)
  have HLV : Hid (vs.length = q) := Lib.hid (by have := h3.1; rw [ints_len] at this; exact this)
  have HR := Lib.hid hr
  have HUS := Lib.hid hus
  have HVS := Lib.hid hvs
  clear hr hus hvs
  have x0 := box_new 28 w (n : Int) A n c
  have hb0 : Below w.heap.size w (w.alloc (.cells #[.int .i64 (n : Int), .slice A n c] 28)) := below1 w _
  obtain ⟨W1, hW1⟩ : ∃ W1, w.alloc (.cells #[.int .i64 (n : Int), .slice A n c] 28) = W1 := ⟨_, rfl⟩
  rw [hW1] at x0 hb0
  obtain ⟨V, hV⟩ : ∃ V, V = indM (RDep rs) us vs := ⟨_, rfl⟩
  have HV := Lib.hid hV
  rw [← hV]
  clear hV
  go_enter Tryd.func64, Tryd.ntmps64
  go_wp2_with fail
  go_loopw [7] (fun i wr => ∃ k : Nat, k ≤ m ∧ i = .int .i64 (k : Int) ∧ (∀ j, j < k → ∀ t, t < q → RDep rs (us.getD j 0) (vs.getD t 0) = false) ∧ Below W1.heap.size W1 wr) (fun i _ => m - (intOf i).toNat)
  case atStart => exact ⟨0, Nat.zero_le _, rfl, fun j hj => absurd hj (Nat.not_lt_zero _), Below.refl _ _⟩
  case round =>
    obtain ⟨k, hk, rfl, hall, hb⟩ := hrel
    have HAL := Lib.hid hall
    clear hall
    by_cases hlt : k < m
    · go_wp2_with fail
      go_loopw [8] (fun i wr => ∃ t : Nat, t ≤ q ∧ i = .int .i64 (t : Int) ∧ (∀ t', t' < t → RDep rs (us.getD k 0) (vs.getD t' 0) = false) ∧ Below W1.heap.size W1 wr) (fun i _ => q - (intOf i).toNat)
      case atStart => exact ⟨0, Nat.zero_le _, rfl, fun j hj => absurd hj (Nat.not_lt_zero _), hb⟩
      case round =>
        clear hb
        obtain ⟨t, ht, rfl, hall, hb⟩ := hrel
        have HAT := Lib.hid hall
        clear hall
        have hx := x0.next hb
        have y0 := hx.c0
        have y1 := hx.c1
        have HB := Lib.hid (hb0.trans (hb.mono hb0.size))
        by_cases htq : t < q
        · obtain ⟨gu, ou, x, eU, hgu, hxu, hcx⟩ := ((h2.below hb0).below hb).at_ hlt
          rw [ints_getD us k (by rw [HLU.out]; exact hlt)] at hxu
          injection hxu with hxu
          obtain ⟨gv, ov, y, eV, hgv, hxv, hcv⟩ := ((h3.below hb0).below hb).at_ htq
          rw [ints_getD vs t (by rw [HLV.out]; exact htq)] at hxv
          injection hxv with hxv
          have hun : us.getD k 0 < n := HUS.out _ (by rw [List.getD_eq_getElem?_getD, List.getElem?_eq_getElem (by rw [HLU.out]; exact hlt)]; exact List.getElem_mem _)
          have hvn : vs.getD t 0 < n := HVS.out _ (by rw [List.getD_eq_getElem?_getD, List.getElem?_eq_getElem (by rw [HLV.out]; exact htq)]; exact List.getElem_mem _)
          obtain ⟨T, hT⟩ : ∃ T, T = RDep rs (us.getD k 0) (vs.getD t 0) := ⟨_, rfl⟩
          have HT := Lib.hid hT
          have hdw : Below wr.heap.size wr wr.drew := (Below.refl _ _).drew
          have HD : Hid (Calls Tryd.prog 100 #[.agg #[.int .i64 (n : Int), .slice A n c], .int .i64 ((us.getD k 0 : Nat) : Int), .int .i64 ((vs.getD t 0 : Nat) : Int)] wr.drew fun e w' => e = .returned (.bool T) ∧ Below wr.drew.heap.size wr.drew w') := Lib.hid (by rw [hT]; exact dep_any (n : Int) A n c _ _ rs wr.drew (((h.below hb0).below hb).below hdw) hn HR.out hun hvn)
          obtain ⟨X, hX⟩ : ∃ X, X = us.getD k 0 := ⟨_, rfl⟩
          obtain ⟨Y, hY⟩ : ∃ Y, Y = vs.getD t 0 := ⟨_, rfl⟩
          have HX := Lib.hid hX
          have HY := Lib.hid hY
          rw [← hX] at hxu HD
          rw [← hY] at hxv HD
          subst hxu hxv eU eV
          clear hX hY hT hun hvn
          cases T
          · go_wp2_with fail
            go_still_tail 9, mixed
            change wpList _ _ _ _ _ wr.drew
            go_wp2_with fail
            refine HD.out.mono ?_
            rintro e w4 ⟨rfl, hb4⟩
            go_wp2_with fail
            go_roundw
            case rel => exact ⟨t + 1, htq, by go_num, fun t' h9 => (by
              rcases Nat.lt_or_ge t' t with h8 | h8
              · exact HAT.out t' h8
              · have e9 : t' = t := by omega
                rw [e9]; exact HT.out.symm), hb.trans ((hdw.trans (hb4.mono hdw.size)).mono hb.size)⟩
            case measure => simp [intOf]; omega
          · have HF : Hid (V = false) := Lib.hid (by
              rw [HV.out]
              cases e : indM (RDep rs) us vs with
              | false => rfl
              | true =>
                have := (indM_iff _ _ _).1 e (us.getD k 0) (by rw [List.getD_eq_getElem?_getD, List.getElem?_eq_getElem (by rw [HLU.out]; exact hlt)]; exact List.getElem_mem _) (vs.getD t 0) (by rw [List.getD_eq_getElem?_getD, List.getElem?_eq_getElem (by rw [HLV.out]; exact htq)]; exact List.getElem_mem _)
                rw [← HT.out] at this; cases this)
            go_wp2_with fail
            go_still_tail 9, mixed
            change wpList _ _ _ _ _ wr.drew
            go_wp2_with fail
            refine HD.out.mono ?_
            rintro e w4 ⟨rfl, hb4⟩
            go_wp2_with fail
            go_ret
            exact ⟨ret_b _ _ HF.out.symm, HB.out.trans ((hdw.trans (hb4.mono hdw.size)).mono HB.out.size)⟩
        · have htq' : t = q := by omega
          subst htq'
          go_wp2_with fail
          go_roundw
          case rel => exact ⟨k + 1, hlt, by go_num, fun j h9 t' ht' => (by
            rcases Nat.lt_or_ge j k with h8 | h8
            · exact HAL.out j h8 t' ht'
            · have e9 : j = k := by omega
              rw [e9]; exact HAT.out t' ht'), hb⟩
          case measure => simp [intOf]; omega
    · have hkm : k = m := by omega
      subst hkm
      have HE : Hid (V = true) := Lib.hid (by
        rw [HV.out, indM_iff]
        intro x hx y hy
        obtain ⟨j, hj, rfl⟩ := List.getElem_of_mem hx
        obtain ⟨t, ht, rfl⟩ := List.getElem_of_mem hy
        have := HAL.out j (by rw [← HLU.out]; exact hj) t (by rw [← HLV.out]; exact ht)
        rw [List.getD_eq_getElem?_getD, List.getElem?_eq_getElem hj, List.getD_eq_getElem?_getD, List.getElem?_eq_getElem ht] at this
        exact this)
      have HB := Lib.hid (hb0.trans (hb.mono hb0.size))
      go_wp2_with fail
      go_ret
      exact ⟨ret_b _ _ HE.out.symm, HB.out⟩
end Go.Proofs.YtmooanfcedgfnaaDoor
