/-
  The model's l03Same: each letter of a word is taken away from the front of the other one.
-/
import Derived.Test.YtokikilfmglhhaaDoorSameM
import Derived.Test.YtokikilfmglhhaaDoorNfS
import Derived.Test.YtokikilfmglhhaaDoorTrIn
namespace Go.Proofs.YtokikilfmglhhaaDoor
open Go Go.RowKit
set_option linter.unusedVariables false
set_option maxRecDepth 100000

theorem take_no (D : Nat → Nat → Bool) (a : Nat) (u v : List Nat) (h : freeB D v a = false) : takeB D (a :: u) v = false := by
  show (freeB D v a && _) = false
  rw [h]; rfl
theorem take_yes (D : Nat → Nat → Bool) (a : Nat) (u v : List Nat) (h : freeB D v a = true) : takeB D (a :: u) v = takeB D u (v.erase a) := by
  show (freeB D v a && _) = _
  rw [h]; rfl
theorem drop_at (us : List Nat) (k : Nat) (hk : k < us.length) : us.drop k = us.getD k 0 :: us.drop (k + 1) := by
  rw [List.getD_eq_getElem?_getD, List.getElem?_eq_getElem hk]; exact List.drop_eq_getElem_cons hk
theorem isEmpty_len (ts : List Nat) : ts.isEmpty = decide (ts.length = 0) := by cases ts <;> simp
set_option maxHeartbeats 3200000 in
theorem l03Same_any (A B C : Option Addr) (n c m d q f : Nat) (rs us vs : List Nat) (w : World) (h : Rd w A n (ints rs)) (hn : n ≤ 24) (hr : ∀ i, rs.getD i 0 < 2 ^ n) (h2 : Rd w B m (ints us)) (hm : m ≤ 24) (h3 : Rd w C q (ints vs)) (hq : q ≤ 24) (hus : ∀ x, x ∈ us → x < n) (hvs : ∀ x, x ∈ vs → x < n) :
    Calls Tryd.prog 57 #[.agg #[.int .i64 (n : Int), .slice A n c], .slice B m d, .slice C q f] w fun e w' => e = .returned (.bool (takeB (RDep rs) us vs)) ∧ Below w.heap.size w w' := by
  have mixed : Tryd.prog.follows .mixedOrders = true := by kernel_rfl
  have HLU : Hid (us.length = m) := Lib.hid (by have := h2.1; rw [ints_len] at this; exact this)
  have HLV : Hid (vs.length = q) := Lib.hid (by have := h3.1; rw [ints_len] at this; exact this)
  have HR := Lib.hid hr
  have HUS := Lib.hid hus
  have HVS := Lib.hid hvs
  clear hr hus hvs
  have x0 := box_new 24 w (n : Int) A n c
  have hb0 : Below w.heap.size w (w.alloc (.cells #[.int .i64 (n : Int), .slice A n c] 24)) := below1 w _
  obtain ⟨W1, hW1⟩ : ∃ W1, w.alloc (.cells #[.int .i64 (n : Int), .slice A n c] 24) = W1 := ⟨_, rfl⟩
  rw [hW1] at x0 hb0
  have HOWN := Lib.hid (own_any C q f (ints vs) W1 (h3.below hb0) (by omega))
  obtain ⟨V, hV⟩ : ∃ V, V = takeB (RDep rs) us vs := ⟨_, rfl⟩
  have HV := Lib.hid hV
  rw [← hV]
  clear hV h3
  go_enter Tryd.func57, Tryd.ntmps57
  go_wp2_with fail
  refine HOWN.out.mono ?_
  rintro e w3 ⟨A3, c3, rfl, ho3, hb3⟩
  go_wp2_with fail
  go_loopw [7, 8] (fun p i wr => ∃ (k kr : Nat) (ts : List Nat) (Ar : Option Addr) (cr : Nat), k ≤ m ∧ kr ≤ 24 ∧ p = .slice Ar kr cr ∧ i = .int .i64 (k : Int) ∧ Own 2 wr W1.heap.size Ar kr cr (ints ts) ∧ V = takeB (RDep rs) (us.drop k) ts ∧ (∀ x, x ∈ ts → x < n) ∧ Below W1.heap.size W1 wr) (fun _ i _ => m - (intOf i).toNat)
  case atStart => exact ⟨0, q, vs, A3, c3, Nat.zero_le _, hq, rfl, rfl, ho3, HV.out, HVS.out, hb3⟩
  case round =>
    clear ho3 hb3
    obtain ⟨k, kr, ts, Ar, cr, hk, hkr, rfl, rfl, ho, hv, hts, hb⟩ := hrel
    have HVK := Lib.hid hv
    have HTS := Lib.hid hts
    have HLT : Hid (ts.length = kr) := Lib.hid (by have := ho.len; rw [ints_len] at this; exact this)
    clear hv hts
    have hx := x0.next hb
    have y0 := hx.c0
    have y1 := hx.c1
    have HB := Lib.hid (hb0.trans (hb.mono hb0.size))
    by_cases hlt : k < m
    · obtain ⟨gu, ou, x, eU, hgu, hxu, hcx⟩ := ((h2.below hb0).below hb).at_ hlt
      rw [ints_getD us k (by rw [HLU.out]; exact hlt)] at hxu
      injection hxu with hxu
      have hun : us.getD k 0 < n := HUS.out _ (by rw [List.getD_eq_getElem?_getD, List.getElem?_eq_getElem (by rw [HLU.out]; exact hlt)]; exact List.getElem_mem _)
      have hdrop := drop_at us k (by rw [HLU.out]; exact hlt)
      obtain ⟨u, hu⟩ : ∃ u, u = us.getD k 0 := ⟨_, rfl⟩
      rw [← hu] at hxu hun hdrop
      have HDR := Lib.hid hdrop
      subst hxu eU
      clear hu hdrop
      have hdw : Below wr.heap.size wr wr.drew := (Below.refl _ _).drew
      have hFI := l03First_any (n : Int) A Ar n c kr cr u rs ts wr.drew (((h.below hb0).below hb).below hdw) hn HR.out (ho.rd.below hdw) hkr (fun p hp => HTS.out _ (by rw [List.getD_eq_getElem?_getD, List.getElem?_eq_getElem (by rw [HLT.out]; exact hp)]; exact List.getElem_mem _)) hun
      cases hfree : freeB (RDep rs) ts u
      · have hfi : firstI (RDep rs) ts u = -1 := by unfold firstI; rw [hfree]; rfl
        rw [hfi] at hFI
        have HFI := Lib.hid hFI
        have HF : Hid (V = false) := Lib.hid (by rw [HVK.out, HDR.out]; exact take_no _ _ _ _ hfree)
        clear hFI hfi hfree
        go_wp2_with fail
        go_still_tail 6, mixed
        change wpList _ _ _ _ _ wr.drew
        go_wp2_with fail
        refine HFI.out.mono ?_
        rintro e w4 ⟨rfl, hb4⟩
        go_wp2_with fail
        go_ret
        exact ⟨ret_b _ _ HF.out.symm, HB.out.trans ((hdw.trans (hb4.mono hdw.size)).mono HB.out.size)⟩
      · have hmem := free_mem (RDep rs) u ts hfree
        have hidx : ts.idxOf u < kr := by rw [← HLT.out]; exact List.idxOf_lt_length_of_mem hmem
        have hfi : firstI (RDep rs) ts u = ((ts.idxOf u : Nat) : Int) := by unfold firstI; rw [hfree]; rfl
        rw [hfi] at hFI
        have HER := Lib.hid (erase_idx ts u hmem)
        have HVN : Hid (V = takeB (RDep rs) (us.drop (k + 1)) (ts.erase u)) := Lib.hid (by rw [HVK.out, HDR.out]; exact take_yes _ _ _ _ hfree)
        obtain ⟨qi, hqi⟩ : ∃ qi, qi = ts.idxOf u := ⟨_, rfl⟩
        rw [← hqi] at hidx hFI HER
        have HFI := Lib.hid hFI
        obtain ⟨gr, rfl, _⟩ := ho.form (by omega)
        have HCAP := Lib.hid (own_cap ho)
        clear hFI hfi hfree hmem hqi
        go_wp2_with fail
        go_still_tail 6, mixed
        change wpList _ _ _ _ _ wr.drew
        go_wp2_with fail
        refine HFI.out.mono ?_
        rintro e w4 ⟨rfl, hb4⟩
        have hb04 : Below wr.heap.size wr w4 := hdw.trans (hb4.mono hdw.size)
        have HWI := Lib.hid (l03Without_any gr 0 kr cr qi ts w4 (ho.rd.below hb04) hkr hidx HCAP.out)
        go_wp2_with fail
        refine HWI.out.mono ?_
        rintro e w6 ⟨A6, c6, rfl, ho6, hb6⟩
        rw [HER.out] at ho6
        have hb06 := hb04.trans (hb6.mono hb04.size)
        have ho6' := ho6.mono (show W1.heap.size ≤ w4.heap.size by have := hb.size; have := hb04.size; omega)
        go_wp2_with fail
        go_roundw
        case rel => exact ⟨k + 1, kr - 1, ts.erase u, A6, c6, hlt, by omega, rfl, by go_num, ho6', HVN.out, fun x hx => HTS.out x (List.mem_of_mem_erase hx), hb.trans (hb06.mono hb.size)⟩
        case measure => simp [intOf]; omega
    · have hkm : k = m := by omega
      subst hkm
      have HE : Hid (V = decide (kr = 0)) := Lib.hid (by
        rw [HVK.out, List.drop_of_length_le (by rw [HLU.out]; exact Nat.le_refl _)]
        show ts.isEmpty = decide (kr = 0)
        rw [isEmpty_len, HLT.out])
      go_wp2_with fail
      go_ret
      exact ⟨ret_b _ _ (by rw [HE.out]; by_cases h0 : kr = 0 <;> simp [h0]), HB.out⟩
end Go.Proofs.YtokikilfmglhhaaDoor
