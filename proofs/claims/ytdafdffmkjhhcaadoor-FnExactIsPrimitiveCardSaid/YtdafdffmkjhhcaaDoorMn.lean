/-
  The model's l03First, l03Without, l03Same for words of up to 96 letters. An append of numbers behind an own row, with the row's place afterwards; a literal of one number. AreCommuting: both sides, whatever the capacities are. The product of any words; the image of a word by a symmetry: the program's side. The size of a list of lists, as the statements count it. A list of lists as an argument: what the statement's reading of it says of the memory. The copy of a list of lists, as the statements make it.
-/
import Derived.Test.YtdafdffmkjhhcaaDoorM3
import Derived.Test.YtdafdffmkjhhcaaDoorMp
import Derived.Maps.AppendAt
import Derived.Deep.RegionLaw
import Derived.Conc.MuLone
import Derived.Test.YtdafdffmkjhhcaaDoorM2
import Derived.Test.YtdafdffmkjhhcaaDoorM1
import Derived.ChangeSlices
namespace Go.Proofs.YtdafdffmkjhhcaaDoor
open Go Go.RowKit
set_option linter.unusedVariables false
set_option maxRecDepth 100000

set_option maxHeartbeats 1600000 in
theorem l03FirstW_any (L : Int) (A B : Option Addr) (n c m d a : Nat) (rs us : List Nat) (w : World) (h : Rd w A n (ints rs)) (hn : n ≤ 24) (hr : ∀ i, rs.getD i 0 < 2 ^ n) (h2 : Rd w B m (ints us)) (hm : m ≤ 96) (hus : ∀ p, p < m → us.getD p 0 < n) (ha : a < n) :
    Calls Tryd.prog 96 #[.agg #[.int .i64 L, .slice A n c], .slice B m d, .int .i64 (a : Int)] w fun e w' => e = .returned (.int .i64 (firstI (RDep rs) us a)) ∧ Below w.heap.size w w' := by
  have mixed : Tryd.prog.follows .mixedOrders = true := by kernel_rfl
  have hlen : us.length = m := by have := h2.1; rw [ints_len] at this; exact this
  have HLEN := Lib.hid hlen
  have HR := Lib.hid hr
  have HUS := Lib.hid hus
  clear hlen hr hus
  have x0 := box_new 29 w L A n c
  have hb0 : Below w.heap.size w (w.alloc (.cells #[.int .i64 L, .slice A n c] 29)) := below1 w _
  obtain ⟨W1, hW1⟩ : ∃ W1, w.alloc (.cells #[.int .i64 L, .slice A n c] 29) = W1 := ⟨_, rfl⟩
  rw [hW1] at x0 hb0
  go_enter Tryd.func96, Tryd.ntmps96
  go_wp2_with fail
  go_loopw [7] (fun q wr => ∃ k, k ≤ m ∧ q = .int .i64 ((k : Nat) : Int) ∧ Below W1.heap.size W1 wr ∧ freeB (RDep rs) us a = freeB (RDep rs) (us.drop k) a ∧ ∀ j, j < k → us.getD j 0 ≠ a) (fun q _ => m - (intOf q).toNat)
  case atStart => exact ⟨0, Nat.zero_le _, rfl, Below.refl _ _, rfl, fun j hj => absurd hj (by omega)⟩
  case round =>
    obtain ⟨k, hk, rfl, hb, hf, hne⟩ := hrel
    have HF := Lib.hid hf
    have HNE := Lib.hid hne
    clear hf hne
    have x1 := x0.next hb
    have y0 := x1.c0
    have y1 := x1.c1
    have hr1 := (h.below hb0).below hb
    have hu1 := (h2.below hb0).below hb
    have HB := Lib.hid (hb0.trans (hb.mono hb0.size))
    by_cases hlt : k < m
    · obtain ⟨gu, ou, x, eU, hgu, hx, hcx⟩ := hu1.at_ hlt
      rw [ints_getD us k (by rw [HLEN.out]; exact hlt)] at hx
      injection hx with hx
      have hun := HUS.out k hlt
      obtain ⟨u, hu⟩ : ∃ u, u = us.getD k 0 := ⟨_, rfl⟩
      rw [← hu] at hx hun
      have HU := Lib.hid hu
      subst hx eU
      clear hu
      by_cases hua : u = a
      · have HAN : Hid (firstI (RDep rs) us a = (k : Int)) := Lib.hid (first_at _ us a k (by rw [HLEN.out]; exact hlt) HF.out (by rw [← HU.out]; exact hua) HNE.out)
        have hd : ((u : Int) == (a : Int)) = true := by rw [hua]; simp
        go_wp2_with fail
        go_ret
        exact ⟨ret_i _ _ HAN.out.symm, HB.out⟩
      · have hd : ((u : Int) == (a : Int)) = false := by simp; omega
        obtain ⟨b, hbv⟩ : ∃ b, b = (rs.getD u 0).testBit a := ⟨_, rfl⟩
        have HDEP : Hid (∀ ww : World, Below _ _ ww → Calls Tryd.prog 103 #[.agg #[.int .i64 L, .slice A n c], .int .i64 (u : Int), .int .i64 (a : Int)] ww fun e w' => e = .returned (.bool b) ∧ Below ww.heap.size ww w') := Lib.hid fun ww hww => by
          rw [hbv]; exact dep_any L A n c u a rs ww (hr1.below hww) hn HR.out hun ha
        have HBV : Hid (RDep rs u a = b) := Lib.hid hbv.symm
        clear hbv
        have hdw : Below wr.heap.size wr wr.drew := (Below.refl _ _).drew
        have HD1 := HDEP.out _ hdw
        have HD2 := Lib.hid HD1
        clear HD1
        go_wp2_with fail
        go_still_tail 6, mixed
        change wpList _ _ _ _ _ wr.drew
        cases b
        · go_wp2_with fail
          refine HD2.out.mono ?_
          rintro e w3 ⟨rfl, hb3⟩
          go_wp2_with fail
          go_roundw
          case rel => exact ⟨k + 1, hlt, by go_num, hb.trans ((hdw.trans (hb3.mono hdw.size)).mono hb.size), HF.out.trans (free_drop _ us a k (by rw [HLEN.out]; exact hlt) (by rw [← HU.out]; exact hua) (by rw [← HU.out]; exact HBV.out)), fun j hj => by
            by_cases e9 : j = k
            · subst e9; rw [← HU.out]; exact hua
            · exact HNE.out j (by omega)⟩
          case measure => simp [intOf]; omega
        · have HAN : Hid (firstI (RDep rs) us a = -1) := Lib.hid (first_dep _ us a k (by rw [HLEN.out]; exact hlt) HF.out (by rw [← HU.out]; exact hua) (by rw [← HU.out]; exact HBV.out))
          go_wp2_with fail
          refine HD2.out.mono ?_
          rintro e w3 ⟨rfl, hb3⟩
          go_wp2_with fail
          go_ret
          exact ⟨ret_i _ _ HAN.out.symm, HB.out.trans ((hdw.trans (hb3.mono hdw.size)).mono HB.out.size)⟩
    · have hke : k = m := by omega
      subst hke
      have HAN : Hid (firstI (RDep rs) us a = -1) := Lib.hid (first_none _ us a (by rw [HLEN.out]; exact HF.out))
      go_wp2_with fail
      go_ret
      exact ⟨ret_i _ _ HAN.out.symm, HB.out⟩
set_option maxHeartbeats 1600000 in
theorem l03WithoutW_any (b off m d k : Nat) (us : List Nat) (w : World) (h : Rd w (some ⟨b, off, none⟩) m (ints us)) (hm : m ≤ 96) (hk : k < m) (hd : m ≤ d) :
    Calls Tryd.prog 97 #[.slice (some ⟨b, off, none⟩) m d, .int .i64 (k : Int)] w (MakesE 2 w (m - 1) (ints (us.eraseIdx k))) := by
  obtain ⟨i0, hi, hz0, hz1, hz2⟩ := info_parts info_int
  have hlen : us.length = m := by have := h.1; rw [ints_len] at this; exact this
  have h1 : Rd w (some ⟨b, off, none⟩) k (ints (us.take k)) := h.take_ k (by omega)
  have h2 := h.drop_ (k + 1)
  have HOWN : Hid (∀ ww : World, Below w.heap.size w ww → Calls Tryd.prog 80 #[.slice (some ⟨b, off, none⟩) k d] ww (MakesE 2 ww k (ints (us.take k)))) := Lib.hid fun ww hw => own_any _ _ _ _ ww (h1.below hw) (by omega)
  have hkd : k ≤ d := by omega
  have hkd1 : k + 1 ≤ d := by omega
  have hkm1 : k + 1 ≤ m := by omega
  have hdr : Below w.heap.size w w.drew := (Below.refl _ _).drew
  have hw1 : IntKind.i64.wrap ((k : Int) + 1) = (k : Int) + 1 := by rw [IntWalk.i64_left]; unfold wrap64; omega
  have hI2 : (0 : Int) ≤ (k : Int) + 1 := by omega
  have hI3 : (k : Int) + 1 ≤ (m : Int) := by omega
  have HER : Hid (us.take k ++ us.drop (k + 1) = us.eraseIdx k) := Lib.hid (List.eraseIdx_eq_take_drop_succ ..).symm
  have fin : ∀ (w2 : World) (A2 : Option Addr) (c2 q : Nat) (v' : Value) (w3 : World), Own 2 w2 w.heap.size A2 k c2 (ints (us.take k)) → Below w.heap.size w w2 → q = m - 1 → w3.ownsRow w.heap.size 2 1 v' q ((ints (us.take k)).map (Value.int .i64) ++ (ints (us.drop (k + 1))).map (Value.int .i64)) → w2.grownBy w3 (Value.slice A2 k c2).ownBlock → ∃ A3 c3, v' = .slice A3 (m - 1) c3 ∧ Own 2 w3 w.heap.size A3 (m - 1) c3 (ints (us.eraseIdx k)) ∧ Below w.heap.size w w3 := by
    intro w2 A2 c2 q v' w3 ho hb hq hown hg
    subst hq
    rw [← List.map_append] at hown
    have e9 : ints (us.take k) ++ ints (us.drop (k + 1)) = ints (us.eraseIdx k) := by rw [← HER.out]; unfold ints; rw [List.map_append]
    rw [e9] at hown
    obtain ⟨A3, c3, rfl, ho3⟩ := own_shape hown
    exact ⟨A3, c3, rfl, ho3, hb.grown hg hb.size (fun r hr => (World.ownsRow.lt ho r hr).1)⟩
  have HFIN := Lib.hid fin
  clear fin
  by_cases hdk : d = k + 1
  · have hmk : m = k + 1 := by omega
    subst hdk hmk
    have hI1 : (k : Int) ≤ (k : Int) + 1 := by omega
    have hml : k + 0 ≤ maxLen := by unfold maxLen; omega
    have hby : (k + 0) * 8 ≤ 140737488355328 := by omega
    have hnil : Hid (us.drop (k + 1) = []) := Lib.hid (List.drop_eq_nil_of_le (by omega))
    clear hlen
    go_enter Tryd.func97, Tryd.ntmps97
    go_wp2_with fail
    go_region_law (first | (refine step_append_own' (by rfl) _ _ _ (by rfl) w.heap.size 2 i0 _ 1 8 Tryd.underlying22 hi hz0 hz1 hz2 rfl (by omega) (.slice A2 k c2) k ((ints (us.take k)).map (Value.int .i64)) (by rfl) ho2 ⟨b, off, none⟩ 0 0 [] (by rfl) (by rfl) (by intro j u hu; simp at hu) (by simp) hml hby (by have := hb2.size; exact this) ?_; intro v3 w3 hown hg) | (go_simp; go_at_call 80; refine (HOWN.out _ hdr).mono ?_; rintro e w2 ⟨A2, c2, rfl, ho2, hb2⟩))
    all_goals (
      obtain ⟨A3, c3, rfl, ho3, hb3⟩ := HFIN.out w2 A2 c2 (k + 0) v3 w3 ho2 (hdr.trans hb2) (by omega) (by rw [hnil.out]; exact hown) hg
      clear hown hg
      go_wp2_with fail
      go_ret
      exact ⟨A3, c3, rfl, ho3, hb3⟩)
  · have hI1 : (k : Int) ≤ (d : Int) := by omega
    have hml : k + (m - (k + 1)) ≤ maxLen := by unfold maxLen; omega
    have hby : (k + (m - (k + 1))) * 8 ≤ 140737488355328 := by omega
    have hl2 : ((ints (us.drop (k + 1))).map (Value.int .i64)).length = (m - (k + 1)) * 1 := by rw [List.length_map, h2.1, Nat.mul_one]
    have HN2 : Hid (∀ wx : World, Below w.heap.size w wx → ∀ j u, ((ints (us.drop (k + 1))).map (Value.int .i64))[j]? = some u → wx.cell? ((⟨b, off + (k + 1), none⟩ : Addr).add j) = some u) := Lib.hid fun wx hwx => rd_news2 h2 (fun p hp => hwx.cell hp) hwx.size
    have HL2 := Lib.hid hl2
    have HMQ : Hid (k + (m - (k + 1)) = m - 1) := Lib.hid (by omega)
    clear hlen hl2 h2
    go_enter Tryd.func97, Tryd.ntmps97
    go_wp2_with fail
    go_region_law (first | (refine step_append_own' (by rfl) _ _ _ (by rfl) w.heap.size 2 i0 _ 1 8 Tryd.underlying22 hi hz0 hz1 hz2 rfl (by omega) (.slice A2 k c2) k ((ints (us.take k)).map (Value.int .i64)) (by rfl) ho2 ⟨b, off + (k + 1), none⟩ (m - (k + 1)) (d - (k + 1)) ((ints (us.drop (k + 1))).map (Value.int .i64)) (by rfl) HL2.out (HN2.out _ (hdr.trans hb2)) (ints_oneCell .i64 _) hml hby (by have := hb2.size; exact this) ?_; intro v3 w3 hown hg) | (go_simp; go_at_call 80; refine (HOWN.out _ hdr).mono ?_; rintro e w2 ⟨A2, c2, rfl, ho2, hb2⟩))
    all_goals (
      obtain ⟨A3, c3, rfl, ho3, hb3⟩ := HFIN.out w2 A2 c2 (k + (m - (k + 1))) v3 w3 ho2 (hdr.trans hb2) HMQ.out hown hg
      clear hown hg
      go_wp2_with fail
      go_ret
      exact ⟨A3, c3, rfl, ho3, hb3⟩)
set_option maxHeartbeats 3200000 in
theorem l03SameW_any (A B C : Option Addr) (n c m d q f : Nat) (rs us vs : List Nat) (w : World) (h : Rd w A n (ints rs)) (hn : n ≤ 24) (hr : ∀ i, rs.getD i 0 < 2 ^ n) (h2 : Rd w B m (ints us)) (hm : m ≤ 96) (h3 : Rd w C q (ints vs)) (hq : q ≤ 96) (hus : ∀ x, x ∈ us → x < n) (hvs : ∀ x, x ∈ vs → x < n) :
    Calls Tryd.prog 104 #[.agg #[.int .i64 (n : Int), .slice A n c], .slice B m d, .slice C q f] w fun e w' => e = .returned (.bool (takeB (RDep rs) us vs)) ∧ Below w.heap.size w w' := by
  have mixed : Tryd.prog.follows .mixedOrders = true := by kernel_rfl
  have HLU : Hid (us.length = m) := Lib.hid (by have := h2.1; rw [ints_len] at this; exact this)
  have HLV : Hid (vs.length = q) := Lib.hid (by have := h3.1; rw [ints_len] at this; exact this)
  have HR := Lib.hid hr
  have HUS := Lib.hid hus
  have HVS := Lib.hid hvs
  clear hr hus hvs
  have x0 := box_new 29 w (n : Int) A n c
  have hb0 : Below w.heap.size w (w.alloc (.cells #[.int .i64 (n : Int), .slice A n c] 29)) := below1 w _
  obtain ⟨W1, hW1⟩ : ∃ W1, w.alloc (.cells #[.int .i64 (n : Int), .slice A n c] 29) = W1 := ⟨_, rfl⟩
  rw [hW1] at x0 hb0
  have HOWN := Lib.hid (own_any C q f (ints vs) W1 (h3.below hb0) (by omega))
  obtain ⟨V, hV⟩ : ∃ V, V = takeB (RDep rs) us vs := ⟨_, rfl⟩
  have HV := Lib.hid hV
  rw [← hV]
  clear hV h3
  go_enter Tryd.func104, Tryd.ntmps104
  go_wp2_with fail
  refine HOWN.out.mono ?_
  rintro e w3 ⟨A3, c3, rfl, ho3, hb3⟩
  go_wp2_with fail
  go_loopw [7, 8] (fun p i wr => ∃ (k kr : Nat) (ts : List Nat) (Ar : Option Addr) (cr : Nat), k ≤ m ∧ kr ≤ 96 ∧ p = .slice Ar kr cr ∧ i = .int .i64 (k : Int) ∧ Own 2 wr W1.heap.size Ar kr cr (ints ts) ∧ V = takeB (RDep rs) (us.drop k) ts ∧ (∀ x, x ∈ ts → x < n) ∧ Below W1.heap.size W1 wr) (fun _ i _ => m - (intOf i).toNat)
  case atStart => exact ⟨0, q, vs, A3, c3, Nat.zero_le _, hq, rfl, rfl, ho3, HV.out, HVS.out, hb3⟩
  case round =>
    clear ho3 hb3
    obtain ⟨k, kr, ts, Ar, cr, hk, hkr, rfl, rfl, ho, hv, hts, hb⟩ := hrel
    have HVK := Lib.hid hv
    have HTS := Lib.hid hts
    have HLT : Hid (ts.length = kr) := Lib.hid (by have := ho.len; rw [ints_len] at this; exact this)
    clear hv hts
    have hx := x0.next hb
    have y0 := hx.c0
    have y1 := hx.c1
    have HB := Lib.hid (hb0.trans (hb.mono hb0.size))
    by_cases hlt : k < m
    · obtain ⟨gu, ou, x, eU, hgu, hxu, hcx⟩ := ((h2.below hb0).below hb).at_ hlt
      rw [ints_getD us k (by rw [HLU.out]; exact hlt)] at hxu
      injection hxu with hxu
      have hun : us.getD k 0 < n := HUS.out _ (by rw [List.getD_eq_getElem?_getD, List.getElem?_eq_getElem (by rw [HLU.out]; exact hlt)]; exact List.getElem_mem _)
      have hdrop := drop_at us k (by rw [HLU.out]; exact hlt)
      obtain ⟨u, hu⟩ : ∃ u, u = us.getD k 0 := ⟨_, rfl⟩
      rw [← hu] at hxu hun hdrop
      have HDR := Lib.hid hdrop
      subst hxu eU
      clear hu hdrop
      have hdw : Below wr.heap.size wr wr.drew := (Below.refl _ _).drew
      have hFI := l03FirstW_any (n : Int) A Ar n c kr cr u rs ts wr.drew (((h.below hb0).below hb).below hdw) hn HR.out (ho.rd.below hdw) hkr (fun p hp => HTS.out _ (by rw [List.getD_eq_getElem?_getD, List.getElem?_eq_getElem (by rw [HLT.out]; exact hp)]; exact List.getElem_mem _)) hun
      cases hfree : freeB (RDep rs) ts u
      · have hfi : firstI (RDep rs) ts u = -1 := by unfold firstI; rw [hfree]; rfl
        rw [hfi] at hFI
        have HFI := Lib.hid hFI
        have HF : Hid (V = false) := Lib.hid (by rw [HVK.out, HDR.out]; exact take_no _ _ _ _ hfree)
        clear hFI hfi hfree
        go_wp2_with fail
        go_still_tail 6, mixed
        change wpList _ _ _ _ _ wr.drew
        go_wp2_with fail
        refine HFI.out.mono ?_
        rintro e w4 ⟨rfl, hb4⟩
        go_wp2_with fail
        go_ret
        exact ⟨ret_b _ _ HF.out.symm, HB.out.trans ((hdw.trans (hb4.mono hdw.size)).mono HB.out.size)⟩
      · have hmem := free_mem (RDep rs) u ts hfree
        have hidx : ts.idxOf u < kr := by rw [← HLT.out]; exact List.idxOf_lt_length_of_mem hmem
        have hfi : firstI (RDep rs) ts u = ((ts.idxOf u : Nat) : Int) := by unfold firstI; rw [hfree]; rfl
        rw [hfi] at hFI
        have HER := Lib.hid (erase_idx ts u hmem)
        have HVN : Hid (V = takeB (RDep rs) (us.drop (k + 1)) (ts.erase u)) := Lib.hid (by rw [HVK.out, HDR.out]; exact take_yes _ _ _ _ hfree)
        obtain ⟨qi, hqi⟩ : ∃ qi, qi = ts.idxOf u := ⟨_, rfl⟩
        rw [← hqi] at hidx hFI HER
        have HFI := Lib.hid hFI
        obtain ⟨gr, rfl, _⟩ := ho.form (by omega)
        have HCAP := Lib.hid (own_cap ho)
        clear hFI hfi hfree hmem hqi
        go_wp2_with fail
        go_still_tail 6, mixed
        change wpList _ _ _ _ _ wr.drew
        go_wp2_with fail
        refine HFI.out.mono ?_
        rintro e w4 ⟨rfl, hb4⟩
        have hb04 : Below wr.heap.size wr w4 := hdw.trans (hb4.mono hdw.size)
        have HWI := Lib.hid (l03WithoutW_any gr 0 kr cr qi ts w4 (ho.rd.below hb04) hkr hidx HCAP.out)
        go_wp2_with fail
        refine HWI.out.mono ?_
        rintro e w6 ⟨A6, c6, rfl, ho6, hb6⟩
        rw [HER.out] at ho6
        have hb06 := hb04.trans (hb6.mono hb04.size)
        have ho6' := ho6.mono (show W1.heap.size ≤ w4.heap.size by have := hb.size; have := hb04.size; omega)
        go_wp2_with fail
        go_roundw
        case rel => exact ⟨k + 1, kr - 1, ts.erase u, A6, c6, hlt, by omega, rfl, by go_num, ho6', HVN.out, fun x hx => HTS.out x (List.mem_of_mem_erase hx), hb.trans (hb06.mono hb.size)⟩
        case measure => simp [intOf]; omega
    · have hkm : k = m := by omega
      subst hkm
      have HE : Hid (V = decide (kr = 0)) := Lib.hid (by
        rw [HVK.out, List.drop_of_length_le (by rw [HLU.out]; exact Nat.le_refl _)]
        show ts.isEmpty = decide (kr = 0)
        rw [isEmpty_len, HLT.out])
      go_wp2_with fail
      go_ret
      exact ⟨ret_b _ _ (by rw [HE.out]; by_cases h0 : kr = 0 <;> simp [h0]), HB.out⟩
end Go.Proofs.YtdafdffmkjhhcaaDoor
namespace Go.Proofs.YtdafdffmkjhhcaaDoor
open Go Go.RowKit
set_option linter.unusedVariables false
set_option maxRecDepth 100000

theorem own_blockV (A : Option Addr) (n c : Nat) : (Value.slice A n c).ownBlock = A.map (·.block) := by cases A <;> rfl
/-- An append of numbers behind an own row, with the row's place afterwards. -/
theorem step_append_at {w : World} {ops : Array Oper} {o : Oper} {a : Act} {K : Act → World → Prop} {Q : Exit → Act → World → Prop} {E : Prop} (hgd : o.guard = none) (s x : Operand)
    (ho : o.op = .call { callee := .builtin .append, args := #[s, x], argTypes := #[22, 22] }) (base : Nat) (A : Option Addr) (N cA : Nat) (all : List Nat) (hs : a.eval s = .slice A N cA) (hown : Own 2 w base A N cA (ints all))
    (A2 : Option Addr) (m c2 : Nat) (ss : List Nat) (hx : a.eval x = .slice A2 m c2) (h2 : Rd w A2 m (ints ss)) (h63 : N + m ≤ maxLen) (hby : (N + m) * 8 ≤ 140737488355328) (hbase : base ≤ w.heap.size)
    (h : ∀ v' w', (∃ A' c', v' = .slice A' (N + m) c' ∧ Own 2 w' base A' (N + m) c' (ints (all ++ ss)) ∧ (A'.map (·.block) = A.map (·.block) ∨ A'.map (·.block) = some w.heap.size)) → w.grownBy w' (A.map (·.block)) → K (a.put o.dst v') w') :
    if Region.wanted o (yielded ops a.tmps) = true then Oper.wp Tryd.prog o a w K Q else E := by
  have hw : Region.wanted o (yielded ops a.tmps) = true := by simp [Region.wanted, hgd]
  rw [if_pos hw]
  obtain ⟨i0, hi, hz0, hz1, hz2⟩ := info_parts info_int
  cases A2 with
  | none =>
    have hm0 : m = 0 := by
      rcases Nat.eq_zero_or_pos m with h0 | h0
      · exact h0
      · obtain ⟨b, off, e9, _⟩ := h2.2 h0; cases e9
    subst hm0
    have hs0 : ss = [] := List.eq_nil_of_length_eq_zero (by have := h2.1; rw [ints_len] at this; exact this)
    subst hs0
    have hrun := run_append_nothing (P := Tryd.prog) w 22 22 o.type 2 i0 Tryd.underlying22 hi A N cA (own_cap hown) (.slice none 0 c2) (Src.ofNil w Tryd.underlying22 c2)
    unfold Oper.wp
    simp [execOp, ho, resolve, invoke, builtin, hs, hx, hrun, Result.andThen]
    exact h (.slice A N cA) w ⟨A, cA, rfl, by rw [List.append_nil]; exact hown, .inl rfl⟩ (World.grownBy.refl _ _)
  | some ad =>
    have hl2 : ((ints ss).map (Value.int .i64)).length = m * 1 := by rw [List.length_map, h2.1, Nat.mul_one]
    obtain ⟨v', w', hr, hown', hg, _, hat⟩ := run_append_own_at (P := Tryd.prog) w base 22 o.type 2 i0 (.int .i64 0) 1 8 Tryd.underlying22 hi hz0 hz1 hz2 rfl (by decide) (.slice A N cA) N ((ints all).map (Value.int .i64)) hown ad m c2 ((ints ss).map (Value.int .i64)) hl2 (by
      intro j u hu
      have hj : 0 < m := by
        rcases Nat.eq_zero_or_pos m with h0 | h0
        · have h8 : (ints ss).map (Value.int .i64) = [] := List.eq_nil_of_length_eq_zero (by rw [hl2, h0])
          rw [h8] at hu; simp at hu
        · exact h0
      obtain ⟨b, off, e9, _⟩ := h2.2 hj
      injection e9 with e9
      subst e9
      exact rd_news h2 hj j u hu) (ints_oneCell .i64 _) h63 hby hbase
    unfold Oper.wp execOp
    simp only [ho, resolve, invoke, builtin, Sem.run_bind, Sem.run_pure, Result.andThen_ok, List.map_toArray, List.map_cons, List.map_nil, hs, hx, hr]
    have e8 : (ints all).map (Value.int .i64) ++ (ints ss).map (Value.int .i64) = (ints (all ++ ss)).map (Value.int .i64) := by rw [ints_app, List.map_append]
    rw [e8] at hown'
    obtain ⟨A3, c3, rfl, ho3⟩ := own_shape hown'
    rw [own_blockV] at hg
    rw [own_blockV, own_blockV] at hat
    exact h _ w' ⟨A3, c3, rfl, ho3, hat⟩ hg
theorem rd_lit (w : World) (a : Nat) (T : TypeId) : Rd (w.alloc (.cells #[.int .i64 (a : Int)] T)) (some ⟨w.heap.size, 0, none⟩) 1 (ints [a]) := by
  refine ⟨rfl, fun _ => ⟨w.heap.size, 0, rfl, (Array.getElem?_eq_some_iff.1 (World.alloc_heap_new w _)).1, fun j x hx => ?_⟩⟩
  have h1 : j = 0 := by
    rcases Nat.eq_zero_or_pos j with h | h
    · exact h
    · rw [List.getElem?_eq_none (by show 1 ≤ j; exact h)] at hx; cases hx
  subst h1
  injection hx with hx
  subst hx
  exact cell_one_new w (.int .i64 (a : Int)) T 0 _ rfl
end Go.Proofs.YtdafdffmkjhhcaaDoor
namespace Go.Proofs.YtdafdffmkjhhcaaDoor
open Go Go.RowKit
set_option linter.unusedVariables false
set_option maxRecDepth 100000

/-- Two words with equally many letters: the one can be cut off the other one exactly if they are words of one trace. -/
theorem cut_same (D : Nat → Nat → Bool) (n : Nat) (hsym : ∀ a b, D a b = D b a) (href : ∀ a, a < n → D a a = true) (u v : List Nat) (hu : ∀ x, x ∈ u → x < n) (hv : ∀ x, x ∈ v → x < n) (hl : u.length = v.length) : (cutM D u v).isSome = takeB D u v := by
  have key : (cutM D u v).isSome = true ↔ takeB D u v = true := by
    rw [same_iff hsym href u v hu hv]
    constructor
    · intro h
      cases hc : cutM D u v with
      | none => rw [hc] at h; cases h
      | some r =>
        have h1 := cut_eqv D hsym u v r hc
        have hr := (cut_len D u v r hc).2
        have h2 := Eqv.len hsym href (u ++ r) v (fun x hx => (List.mem_append.1 hx).elim (hu x) (fun h => hv x (hr x h))) hv h1
        rw [List.length_append] at h2
        have : r = [] := List.eq_nil_of_length_eq_zero (by omega)
        rw [this, List.append_nil] at h1
        exact h1
    · intro h
      obtain ⟨r, hr, _⟩ := cut_some D n hsym href u [] v hu (by rw [List.append_nil]; exact h)
      rw [hr]; rfl
  cases h1 : (cutM D u v).isSome <;> cases h2 : takeB D u v
  · rfl
  · exact absurd (key.2 h2) (by rw [h1]; decide)
  · exact absurd (key.1 h1) (by rw [h2]; decide)
  · rfl
def oaBlk {E : TypeId} {w : World} {B n c : Nat} {A : Option Addr} {xs : List Int} (_ : Own E w B A n c xs) : Option Nat := A.map (·.block)
def acF (rs us ts : List Nat) : Bool := takeB (RDep rs) (us ++ ts) (ts ++ us)
set_option maxHeartbeats 6400000 in
theorem implAreCommuting (L : Int) (A : Option Addr) (n c : Nat) (xs : List Int) (A1 : Option Addr) (m d : Nat) (us : List Int) (B1 : Option Addr) (q f : Nat) (ts : List Int) (w : World) (h : Rd w A n xs) (hwf : Wf xs) (hL1 : -9223372036854775808 ≤ L) (hL2 : L ≤ 9223372036854775807) (hn : n ≤ maxLen) (h2 : Rd w A1 m us) (hwf2 : Wf us) (hm : m ≤ maxLen) (h3 : Rd w B1 q ts) (hwf3 : Wf ts) (hq : q ≤ maxLen) (hT : Tab w) :
    Calls Tryd.prog 144 #[.agg #[.int .i64 L, .slice A n c], .slice A1 m d, .slice B1 q f] w (fun e w' => e = .returned (.tuple #[.bool (dB acF L xs us ts).1, .int .i64 (dB acF L xs us ts).2]) ∧ Below w.heap.size w w') := by
  have hn2 : n ≤ 9223372036854775807 := by unfold maxLen at hn; omega
  have hn1 := h.1
  have hm1 := h2.1
  have hq1 := h3.1
  have HB := Lib.hid (below2 w (.cells #[.int .i64 L, .slice A n c] 29) (.cells #[.slice A1 m d, .slice B1 q f] 22))
  have hh := h.below HB.out
  have ht := rdT_box2 w (.cells #[.int .i64 L, .slice A n c] 29) A1 B1 m d q f us ts 22 h2 hm h3 hq
  have hh2 := h2.below HB.out
  have hh3 := h3.below HB.out
  have hT1 := hT.below HB.out
  cases ha : alphB L xs
  · rw [show dB acF L xs us ts = _ from dB_no acF L xs us ts ha]
    have HA := Lib.hid ha
    clear ha ht hn1
    go_enter Tryd.func144, Tryd.ntmps144
    go_wp2_with fail
    refine (dependenceWith_no L _ _ _ _ _ _ xs [] _ hh hwf hL1 hL2 hn2 HA.out hT1).mono ?_
    rintro e w1 ⟨rfl, hb⟩
    go_wp2_with fail
    go_ret2
    exact ⟨rfl, HB.out.trans (hb.mono HB.out.size)⟩
  · cases hu : (wordB L us && wordB L ts)
    · rw [show dB acF L xs us ts = _ from dB_bad acF L xs us ts ha hu]
      obtain ⟨rs, rfl, rfl, h8, hr, hrel, hl, hd, _⟩ := alphB_nats L xs n hn1 ha
      have HU := Lib.hid hu
      clear ha hu
      go_enter Tryd.func144, Tryd.ntmps144
      go_wp2_with fail
      refine (dependenceWith_any _ _ _ _ _ _ rs _ _ hh hwf h8 hr hrel hd ht (by omega) hT1).mono ?_
      rw [okT_pair, HU.out]
      rintro e w1 (⟨hok, _⟩ | ⟨hok, rfl, hb⟩)
      · cases hok
      go_wp2_with fail
      go_ret2
      exact ⟨rfl, HB.out.trans (hb.mono HB.out.size)⟩
    · obtain ⟨rs, rfl, rfl, h8, hr, hrel, hl, hd, _⟩ := alphB_nats L xs n hn1 ha
      have hu' := hu
      rw [Bool.and_eq_true] at hu'
      obtain ⟨vs, rfl, hv24, hvn⟩ := wordB_nats n us hu'.1
      obtain ⟨ys, rfl, hy24, hyn⟩ := wordB_nats n ts hu'.2
      rw [show dB acF (n : Int) (ints rs) (ints vs) (ints ys) = _ from dB_yes acF (n : Int) rs vs ys ha hu]
      have HU := Lib.hid hu
      have HDEP := Lib.hid ((depB_iff rs n hl hr).1 hd)
      rw [ints_len] at hm1 hq1
      have hm24 : m ≤ 24 := by omega
      have hq24 : q ≤ 24 := by omega
      have HLU := Lib.hid hm1
      have HLQ := Lib.hid hq1
      have HLR := Lib.hid hl
      have HR := Lib.hid hr
      have HVM := Lib.hid hvn
      have HYM := Lib.hid hyn
      have HSY : Hid (∀ a b, RDep rs a b = RDep rs b a) := Lib.hid (rdep_sym rs n hl hr HDEP.out)
      have HRE : Hid (∀ a, a < n → RDep rs a a = true) := Lib.hid fun a ha9 => HDEP.out.1 a (by rw [HLR.out]; exact ha9)
      have HR63 : Hid (∀ i, rs.getD i 0 < 9223372036854775808) := Lib.hid fun i => lt63 (by omega) (hr i)
      clear ha hu hu' hl hm1 hq1
      go_enter Tryd.func144, Tryd.ntmps144
      go_wp2_with fail
      refine (dependenceWith_any _ _ _ _ _ _ rs _ _ hh hwf h8 hr hrel hd ht (by omega) hT1).mono ?_
      rw [okT_pair, HU.out]
      rintro e w1 (⟨hok, A2, c2, rfl, ho, hb⟩ | ⟨hok, _⟩)
      rotate_left
      · cases hok
      have HB1 := Lib.hid (HB.out.trans (hb.mono HB.out.size))
      have hr2 := hh2.below hb
      have hr3 := hh3.below hb
      have hrd := ho.rd
      have hT2 := hT1.below hb
      have h24 : n ≤ 24 := by omega
      clear ho hb hok ht hh hh2 hh3 hT1 hT h h2 h3 hr hvn hyn hd hrel
      have HCS : Hid ((cutM (RDep rs) (vs ++ ys) (ys ++ vs)).isSome = acF rs vs ys) := Lib.hid (cut_same (RDep rs) n HSY.out HRE.out _ _ (fun x hx => (List.mem_append.1 hx).elim (HVM.out x) (HYM.out x)) (fun x hx => (List.mem_append.1 hx).elim (HYM.out x) (HVM.out x)) (by rw [List.length_append, List.length_append]; omega))
      have HP1 : Hid (∀ x, x ∈ vs ++ ys → x < n) := Lib.hid fun x hx => (List.mem_append.1 hx).elim (HVM.out x) (HYM.out x)
      have HP2 : Hid (∀ x, x ∈ ys ++ vs → x < n) := Lib.hid fun x hx => (List.mem_append.1 hx).elim (HYM.out x) (HVM.out x)
      have hl1 : (vs ++ ys).length = m + q := by rw [List.length_append, HLU.out, HLQ.out]
      have hl2 : (ys ++ vs).length = m + q := by rw [List.length_append, HLU.out, HLQ.out]; omega
      have HC1 : Hid (∀ (ww : World) (T : Option Addr) (cT : Nat), RdT ww T 2 [(A1, m, d, ints vs), (B1, q, f, ints ys)] → Calls Tryd.prog 146 #[.slice T 2 cT] ww (MakesE 2 ww (m + q) (ints (vs ++ ys)))) := Lib.hid fun ww T cT ht => by
        have := concat_any T 2 cT _ [vs, ys] ww ht (by omega) rfl (fun k t hk => by
          match k, hk with
          | 0, hk => injection hk with hk; subst hk; rfl
          | 1, hk => injection hk with hk; subst hk; rfl
          | k + 2, hk => simp at hk) (fun k => by
          match k with
          | 0 => show vs.length ≤ 24; have := HLU.out; omega
          | 1 => show ys.length ≤ 24; have := HLQ.out; omega
          | k + 2 => simp)
        rw [show [vs, ys].flatten = vs ++ ys by simp, hl1] at this
        exact this
      have HC2 : Hid (∀ (ww : World) (T : Option Addr) (cT : Nat), RdT ww T 2 [(B1, q, f, ints ys), (A1, m, d, ints vs)] → Calls Tryd.prog 146 #[.slice T 2 cT] ww (MakesE 2 ww (m + q) (ints (ys ++ vs)))) := Lib.hid fun ww T cT ht => by
        have := concat_any T 2 cT _ [ys, vs] ww ht (by omega) rfl (fun k t hk => by
          match k, hk with
          | 0, hk => injection hk with hk; subst hk; rfl
          | 1, hk => injection hk with hk; subst hk; rfl
          | k + 2, hk => simp at hk) (fun k => by
          match k with
          | 0 => show ys.length ≤ 24; have := HLQ.out; omega
          | 1 => show vs.length ≤ 24; have := HLU.out; omega
          | k + 2 => simp)
        rw [show [ys, vs].flatten = ys ++ vs by simp, hl2] at this
        exact this
      obtain ⟨P, hP⟩ : ∃ P, P = vs ++ ys := ⟨_, rfl⟩
      obtain ⟨Q, hQ⟩ : ∃ Q, Q = ys ++ vs := ⟨_, rfl⟩
      rw [← hP, ← hQ] at HCS
      rw [← hP] at HC1 HP1 hl1
      rw [← hQ] at HC2 HP2 hl2
      obtain ⟨K, hK⟩ : ∃ K, K = m + q := ⟨_, rfl⟩
      rw [← hK] at HC1 HC2 hl1 hl2
      have hK48 : K ≤ 48 := by omega
      have hnx := below1 w1 (.cells #[.slice A1 m d, .slice B1 q f] 22)
      have HC1' := Lib.hid (HC1.out _ _ 2 (rdT_two w1 A1 B1 m d q f (ints vs) (ints ys) 22 hr2 (by omega) hr3 (by omega)))
      clear hP hQ hK hl1 hl2
      go_wp2_with fail
      refine HC1'.out.mono ?_
      rintro e w2 ⟨A3, c3, rfl, o3, hb2⟩
      have hb02 := hnx.trans (hb2.mono hnx.size)
      have hr2' := hr2.below hb02
      have hr3' := hr3.below hb02
      have hrd2 := hrd.below hb02
      have r3 := o3.rd
      have hnx2 := below1 w2 (.cells #[.slice B1 q f, .slice A1 m d] 22)
      have HC2' := Lib.hid (HC2.out _ _ 2 (rdT_two w2 B1 A1 q f m d (ints ys) (ints vs) 22 hr3' (by omega) hr2' (by omega)))
      have HBB := Lib.hid (HB1.out.trans (hb02.mono HB1.out.size))
      clear hb2 hb02 hr2 hr3 hrd hr2' hr3' o3 hnx
      go_wp2_with fail
      refine HC2'.out.mono ?_
      rintro e w3 ⟨A4, c4, rfl, o4, hb3⟩
      have hb23 := hnx2.trans (hb3.mono hnx2.size)
      have HBC := Lib.hid (HBB.out.trans (hb23.mono HBB.out.size))
      have hcap := own_cap o4
      have HQU := Lib.hid (quotient_any A2 A3 A4 n c2 K c3 K c4 rs P Q w3 (hrd2.below hb23) h24 HR.out HSY.out HRE.out (r3.below hb23) (by omega) HP1.out o4.rd (by omega) hcap HP2.out)
      unfold QuoPost at HQU
      rw [HCS.out] at HQU
      go_wp2_with fail
      refine HQU.out.mono ?_
      rintro e w4 ⟨A5, c5, rfl, hr4, hle4, hb4⟩
      go_wp2_with fail
      go_ret2
      exact ⟨rfl, HBC.out.trans (hb4.mono HBC.out.size)⟩
end Go.Proofs.YtdafdffmkjhhcaaDoor
namespace Go.Proofs.YtdafdffmkjhhcaaDoor
open Go Go.RowKit
set_option linter.unusedVariables false
set_option maxRecDepth 100000

def poF (rs W : List Nat) : List Nat × Int := if 24 < W.length then ([], 3) else (nfR rs W, 0)
theorem poF_long (rs W : List Nat) (h : 24 < W.length) : poF rs W = ([], 3) := if_pos h
theorem poF_yes (rs W : List Nat) (h : W.length ≤ 24) : poF rs W = (nfR rs W, 0) := if_neg (by omega)
set_option maxHeartbeats 1600000 in
theorem product_any (A2 T : Option Addr) (n c2 nT cT : Nat) (rs : List Nat) (ts : List (Option Addr × Nat × Nat × List Int)) (Ws : List (List Nat)) (w : World) (hrd : Rd w A2 n (ints rs)) (h24 : n ≤ 24) (hl : rs.length = n) (hr : ∀ i, rs.getD i 0 < 2 ^ n) (hdep : Dep rs)
    (hRT : RdT w T nT ts) (hnT : nT ≤ 24) (hlW : Ws.length = nT) (hW : ∀ k t, ts[k]? = some t → t.2.2.2 = ints (Ws.getD k [])) (hWm : ∀ k, (Ws.getD k []).length ≤ 24) (hWn : ∀ x, x ∈ Ws.flatten → x < n) (hT : Tab w) :
    Calls Tryd.prog 100 #[.slice A2 n c2, .slice T nT cT] w (LsPost w (ints (poF rs Ws.flatten).1).length (ints (poF rs Ws.flatten).1) (poF rs Ws.flatten).2) := by
  have HLR := Lib.hid hl
  have HR := Lib.hid hr
  have HDEP := Lib.hid hdep
  have HR63 : Hid (∀ i, rs.getD i 0 < 9223372036854775808) := Lib.hid fun i => lt63 h24 (hr i)
  have HCO := Lib.hid (concat_any T nT cT ts Ws w hRT hnT hlW hW hWm)
  have HWM := Lib.hid hWn
  obtain ⟨W, hWe⟩ : ∃ W, W = Ws.flatten := ⟨_, rfl⟩
  rw [← hWe] at HCO HWM ⊢
  obtain ⟨k, hk⟩ : ∃ k, k = W.length := ⟨_, rfl⟩
  rw [← hk] at HCO
  have HLK : Hid (W.length = k) := Lib.hid hk.symm
  have HRK : Hid (∀ x, x < k → W.getD x 0 < n) := Lib.hid fun x hx => in_getD HWM.out x (by rw [HLK.out]; exact hx)
  by_cases hlong : 24 < k
  · have HA := Lib.hid (poF_long rs W (by omega))
    have hI : (24 : Int) < (k : Int) := by omega
    clear hk hWe hlong hl hr hlW hW hWm hWn
    go_enter Tryd.func100, Tryd.ntmps100
    go_wp2_with fail
    refine HCO.out.mono ?_
    rintro e w1 ⟨A3, c3, rfl, o3, hb⟩
    go_wp2_with fail
    go_ret2
    rw [HA.out]
    exact LsPost.of_ans (ans_no 3 hb)
  · have HA : Hid (poF rs W = (nfR rs W, 0)) := Lib.hid (poF_yes rs W (by omega))
    have hk24 : k ≤ 24 := by omega
    have hI : (k : Int) ≤ 24 := by omega
    clear hk hWe hlong hl hr hlW hW hWm hWn
    go_enter Tryd.func100, Tryd.ntmps100
    go_wp2_with fail
    refine HCO.out.mono ?_
    rintro e w1 ⟨A3, c3, rfl, o3, hb⟩
    have hrd1 := hrd.below hb
    have hW1 := o3.rd
    have hT1 := hT.below hb
    have HT1 := Lib.hid (traceOf_any A2 A3 n k c2 c3 rs W _ hrd1 hW1 hk24 h24 HRK.out HR63.out hT1)
    go_wp2_with fail
    refine HT1.out.mono ?_
    rintro e v1 ⟨E1, g1, F1, k1, es1, rfl, hp, hs, h1, h2, -, -, ha1⟩
    have HN1 := Lib.hid (nf_from E1 F1 g1 k1 k n rs W es1 v1 HLR.out HR.out HDEP.out HLK.out HRK.out hk24 hp hs h1 h2 ((hT1).below ha1))
    clear hp hs h1 h2
    go_wp2_with fail
    refine HN1.out.mono ?_
    rintro e u1 ⟨G1, l1, rfl, ho1, hb1⟩
    go_wp2_with fail
    go_ret2
    rw [HA.out]
    have HZ := hb.trans (ha1.mono hb.size)
    exact LsPost.of_ans (ans_yes ho1.len (ho1.mono HZ.size) (HZ.trans (hb1.mono HZ.size)))
theorem rdT_of_row {w : World} {lo k cT : Nat} {E : TypeId} {T : Option Addr} {vs : List Value} (h : w.ownsRow lo E 1 (.slice T k cT) k vs) (ts : List (Option Addr × Nat × Nat × List Int)) (hv : vs = ts.map fun t => Value.slice t.1 t.2.1 t.2.2.1) (hl : ts.length = k) (hr : ∀ t, t ∈ ts → Rd w t.1 t.2.1 t.2.2.2 ∧ t.2.1 ≤ maxLen) : RdT w T k ts := by
  refine ⟨hl, hr, fun hn => ?_⟩
  obtain ⟨g, cap, hvg, hbg, hlt⟩ := World.ownsRow.form h hn
  have hA : T = some ⟨g, 0, none⟩ := by injection hvg
  subst hA
  refine ⟨g, 0, rfl, hlt, fun j t ht => ?_⟩
  have := World.ownsRow.cells h (g := g) rfl j (Value.slice t.1 t.2.1 t.2.2.1) (by rw [hv, List.getElem?_map, ht]; rfl)
  rw [add_zero_off] at this
  rw [Nat.zero_add]; exact this
/-- The parts of a symmetry that the letters of a word name. -/
def symVs (b off c : Nat) (us : List Nat) : List Value := us.map fun a => Value.slice (some ⟨b, off + a, none⟩) 1 (c - a)
def symTs (b off c : Nat) (zs us : List Nat) : List (Option Addr × Nat × Nat × List Int) := us.map fun a => (some ⟨b, off + a, none⟩, 1, c - a, ints [zs.getD a 0])
theorem symVs_ts (b off c : Nat) (zs us : List Nat) : symVs b off c us = (symTs b off c zs us).map fun t => Value.slice t.1 t.2.1 t.2.2.1 := by
  unfold symVs symTs; rw [List.map_map]; rfl
theorem rd_part {w : World} {b off n : Nat} {zs : List Nat} (h : Rd w (some ⟨b, off, none⟩) n (ints zs)) (a : Nat) (ha : a < n) : Rd w (some ⟨b, off + a, none⟩) 1 (ints [zs.getD a 0]) := by
  have hl : zs.length = n := by have := h.1; rw [ints_len] at this; exact this
  obtain ⟨b2, off2, e, hb, hc⟩ := h.2 (by omega)
  injection e with e
  injection e with e1 e2
  subst e1 e2
  refine ⟨rfl, fun _ => ⟨b, off + a, rfl, hb, fun j x hx => ?_⟩⟩
  have hj : j = 0 := by
    rcases Nat.eq_zero_or_pos j with h0 | h0
    · exact h0
    · rw [List.getElem?_eq_none (by show 1 ≤ j; exact h0)] at hx; cases hx
  subst hj
  injection hx with hx
  have := hc a _ (ints_getD zs a (by omega))
  rw [← hx]; exact this
/-- Whether a letter can come next in the beginning of a symmetry. -/
def fitB (rs zs : List Nat) (b : Nat) : Bool := (List.range zs.length).all fun a => !(zs.getD a 0 == b) && (RDep rs a zs.length == RDep rs (zs.getD a 0) b)
/-- Whether a list of letters is a symmetry. -/
def symB (rs zs : List Nat) : Bool := (List.range zs.length).all fun a => fitB rs (zs.take a) (zs.getD a 0)
theorem rd_take {w : World} {b off n : Nat} {zs : List Nat} (h : Rd w (some ⟨b, off, none⟩) n (ints zs)) (k : Nat) (hk : k ≤ n) : Rd w (some ⟨b, off, none⟩) k (ints (zs.take k)) := by
  have hl : zs.length = n := by have := h.1; rw [ints_len] at this; exact this
  refine ⟨by rw [ints_len, List.length_take, hl, Nat.min_eq_left hk], fun hk0 => ?_⟩
  obtain ⟨b2, off2, e, hb, hc⟩ := h.2 (by omega)
  refine ⟨b2, off2, e, hb, fun j x hx => hc j x ?_⟩
  have hjk : j < k := by
    rcases Nat.lt_or_ge j k with h9 | h9
    · exact h9
    · rw [List.getElem?_eq_none (by rw [ints_len, List.length_take, hl, Nat.min_eq_left hk]; exact h9)] at hx; cases hx
  unfold ints at hx ⊢
  rw [List.getElem?_map, List.getElem?_take_of_lt hjk] at hx
  rw [List.getElem?_map]; exact hx
end Go.Proofs.YtdafdffmkjhhcaaDoor
namespace Go.Proofs.YtdafdffmkjhhcaaDoor
open Go Go.RowKit
set_option linter.unusedVariables false
set_option maxRecDepth 100000

def sumT (ts : List (Option Addr × Nat × Nat × List Int)) : Nat := (ts.map fun t => t.2.1).sum
theorem sumT_next (ts : List (Option Addr × Nat × Nat × List Int)) (j : Nat) (t : Option Addr × Nat × Nat × List Int) (h : ts[j]? = some t) : sumT (ts.take (j + 1)) = sumT (ts.take j) + t.2.1 := by
  unfold sumT; rw [List.take_add_one, h, List.map_append, List.sum_append]; simp
theorem sumT_le (ts : List (Option Addr × Nat × Nat × List Int)) (j : Nat) : sumT (ts.take j) ≤ sumT ts := by
  have h : sumT ts = sumT (ts.take j) + sumT (ts.drop j) := by
    unfold sumT; rw [← List.sum_append, ← List.map_append, List.take_append_drop]
  omega
theorem szS_no (A : Option Addr) (n c m : Nat) (w : World) (hn : m < n) (hm : m ≤ 1048576) (hn2 : n ≤ maxLen) :
    Calls Tryd.prog 49 #[.slice A n c, .int .i64 (m : Int)] w fun e w' => e = .returned (.int .i64 (-1)) ∧ w = w' := by
  have hn3 : n ≤ 9223372036854775807 := by unfold maxLen at hn2; omega
  have h2 : wrap64 ((m : Int) - (n : Int)) = (m : Int) - (n : Int) := by unfold wrap64; omega
  have h3 : (m : Int) - (n : Int) < 0 := by omega
  go_enter Tryd.func49, Tryd.ntmps49
  go_wp2
  go_ret
  first | exact ⟨rfl, rfl⟩ | exact ⟨ret_i _ _ (by omega), rfl⟩
set_option maxHeartbeats 1600000 in
theorem szSS_any (A : Option Addr) (n c m : Nat) (ts : List (Option Addr × Nat × Nat × List Int)) (w : World) (h : RdT w A n ts) (hm : m ≤ 1048576) (hn : n ≤ maxLen) :
    Calls Tryd.prog 14 #[.slice A n c, .int .i64 (m : Int)] w fun e w' => e = .returned (.int .i64 (if n + sumT ts ≤ m then ((m - (n + sumT ts) : Nat) : Int) else -1)) ∧ w = w' := by
  have hn3 : n ≤ 9223372036854775807 := by unfold maxLen at hn; omega
  have hwr : wrap64 ((m : Int) - (n : Int)) = (m : Int) - (n : Int) := by unfold wrap64; omega
  obtain ⟨V, hV⟩ : ∃ V : Int, V = if n + sumT ts ≤ m then ((m - (n + sumT ts) : Nat) : Int) else -1 := ⟨_, rfl⟩
  have HV1 : Hid (n + sumT ts ≤ m → V = ((m - (n + sumT ts) : Nat) : Int)) := Lib.hid fun h => by rw [hV, if_pos h]
  have HV2 : Hid (¬ (n + sumT ts ≤ m) → V = -1) := Lib.hid fun h => by rw [hV, if_neg h]
  rw [← hV]
  clear hV
  by_cases hnm : n ≤ m
  · have hwr2 : IntKind.i64.wrap ((m : Int) - (n : Int)) = ((m - n : Nat) : Int) := by rw [IntKind.wrap_i64]; omega
    have HT := Lib.hid h
    have HLT : Hid (ts.length = n) := Lib.hid h.1
    obtain ⟨R, hR⟩ : ∃ R, R = m - n := ⟨_, rfl⟩
    rw [← hR] at hwr2
    have HR : Hid (R + n = m) := Lib.hid (by omega)
    have hR2 : R ≤ 1048576 := by omega
    clear hR h hwr
    go_enter Tryd.func14, Tryd.ntmps14
    go_wp2_with fail
    go_loopw [1, 5] (fun p q wr => ∃ i r : Nat, i ≤ n ∧ p = .int .i64 (r : Int) ∧ q = .int .i64 (i : Int) ∧ Hid (r + n + sumT (ts.take i) = m) ∧ w = wr) (fun _ q _ => n - (intOf q).toNat)
    case atStart => exact ⟨0, R, Nat.zero_le _, rfl, rfl, Lib.hid (by have := HR.out; have e : sumT (ts.take 0) = 0 := rfl; omega), rfl⟩
    case round =>
      obtain ⟨i, r, hi, rfl, rfl, HS, rfl⟩ := hrel
      have hr2 : r ≤ 1048576 := by have := HS.out; omega
      by_cases hlt : i < n
      · obtain ⟨b, off, C, q, cq, xs, rfl, hbs, hts, hcell, hrd, hq⟩ := HT.out.at_ hlt
        have HNX := Lib.hid (sumT_next ts i _ hts)
        have HLE := Lib.hid (sumT_le ts (i + 1))
        by_cases hqr : q ≤ r
        · have HSZ := Lib.hid (sz1_any C q cq r w hqr hr2)
          obtain ⟨r', hr'⟩ : ∃ r', r' = r - q := ⟨_, rfl⟩
          rw [← hr'] at HSZ
          have HS2 : Hid (r' + n + sumT (ts.take (i + 1)) = m) := Lib.hid (by
            have h1 := HS.out
            have h2 := HNX.out
            have h3 : (C, q, cq, xs).2.1 = q := rfl
            rw [h3] at h2
            omega)
          clear hr' hts hrd
          go_wp2_with fail
          refine HSZ.out.mono ?_
          rintro e w' ⟨rfl, rfl⟩
          go_wp2_with fail
          go_roundw
          case rel => exact ⟨i + 1, r', hlt, rfl, by go_num, HS2, by first | rfl | trivial⟩
          case measure => simp [intOf]; omega
        · have HSZ := Lib.hid (szS_no C q cq r w (by omega) hr2 hq)
          have HNO : Hid (¬ (n + sumT ts ≤ m)) := Lib.hid (by
            have h1 := HS.out
            have h2 := HNX.out
            have h4 := HLE.out
            have h3 : (C, q, cq, xs).2.1 = q := rfl
            rw [h3] at h2
            omega)
          clear hts hrd
          go_wp2_with fail
          refine HSZ.out.mono ?_
          rintro e w' ⟨rfl, rfl⟩
          go_wp2_with fail
          go_ret
          rw [HV2.out HNO.out]
          first | exact ⟨rfl, rfl⟩ | exact ⟨ret_i _ _ rfl, rfl⟩
      · obtain rfl : i = n := by omega
        have HA : Hid (i + sumT ts ≤ m ∧ m - (i + sumT ts) = r) := Lib.hid (by
          have h1 := HS.out
          rw [List.take_of_length_le (by rw [HLT.out]; exact Nat.le_refl _)] at h1
          omega)
        go_wp2_with fail
        go_ret
        rw [HV1.out HA.out.1, HA.out.2]
        first | exact ⟨rfl, rfl⟩ | exact ⟨ret_i _ _ rfl, rfl⟩
  · have hwr2 : IntKind.i64.wrap ((m : Int) - (n : Int)) = (m : Int) - (n : Int) := by rw [IntKind.wrap_i64]; omega
    have h3 : (m : Int) - (n : Int) < 0 := by omega
    have HNO : Hid (¬ (n + sumT ts ≤ m)) := Lib.hid (by omega)
    clear h
    go_enter Tryd.func14, Tryd.ntmps14
    go_wp2_with fail
    go_ret
    rw [HV2.out HNO.out]
    first | exact ⟨rfl, rfl⟩ | exact ⟨ret_i _ _ rfl, rfl⟩
end Go.Proofs.YtdafdffmkjhhcaaDoor
namespace Go.Proofs.YtdafdffmkjhhcaaDoor
open Go Go.RowKit Go.ChangeShapes
set_option linter.unusedVariables false

theorem list_of {α : Type} {Q : Nat → α → Prop} : ∀ n : Nat, (∀ i, i < n → ∃ t, Q i t) → ∃ ts : List α, ts.length = n ∧ ∀ j t, ts[j]? = some t → Q j t
  | 0, _ => ⟨[], rfl, fun j t h => by cases h⟩
  | n + 1, h => by
    obtain ⟨ts, hl, hq⟩ := list_of n fun i hi => h i (by omega)
    obtain ⟨t, ht⟩ := h n (by omega)
    refine ⟨ts ++ [t], by rw [List.length_append, hl]; rfl, fun j u hu => ?_⟩
    rcases Nat.lt_or_ge j n with h9 | h9
    · rw [List.getElem?_append_left (by omega)] at hu; exact hq j u hu
    · rw [List.getElem?_append_right (by omega)] at hu
      cases hd : j - ts.length with
      | zero => rw [hd] at hu; injection hu with hu; subst hu; have : j = n := by omega
                subst this; exact ht
      | succ k => rw [hd] at hu; cases hu
theorem open_lists {P : Program} {H : Type} {enc : TypeId × Value → H} {w : World} {base : Nat} {spare : Nat → Bool} {held : _} {t e ei : TypeId} {fuel : Nat} {cs : List Value} {x : DataW H × List MemPlace}
    (ht : P.underlying t = some (.slice e)) (he : P.underlying e = some (.slice ei)) (hei : P.underlying ei = some (.int .i64)) (hc : P.cellsOf e = 1) (hci : P.cellsOf ei = 1) (h : DataW.trod enc P w base spare held fuel t cs = some x) :
    ∃ (A : Option Addr) (len cap : Nat) (ts : List (Option Addr × Nat × Nat × List Int)), cs = [.slice A len cap] ∧ RdT w A len ts ∧ (∀ t, t ∈ ts → Wf t.2.2.2) ∧ len ≤ maxLen := by
  rcases DataW.trod_slice ht h with ⟨rfl, _⟩ | ⟨a, len, cap, elems, rest, n, _, rfl, rfl, hb, hl, hm, hlen, hel, _, _⟩
  · exact ⟨none, 0, 0, [], rfl, ⟨rfl, fun t ht => (by cases ht), fun h9 => absurd h9 (by omega)⟩, fun t ht => (by cases ht), Nat.zero_le _⟩
  · have each : ∀ i, i < len → ∃ t : Option Addr × Nat × Nat × List Int, w.cell? (a.add i) = some (.slice t.1 t.2.1 t.2.2.1) ∧ (Rd w t.1 t.2.1 t.2.2.2 ∧ t.2.1 ≤ maxLen) ∧ Wf t.2.2.2 := fun i hi => by
      have hb' := hel i hi
      rw [List.getElem?_eq_getElem (by omega), hc, Nat.mul_one, Option.bind_eq_some_iff] at hb'
      obtain ⟨cs', hcs, hy⟩ := hb'
      rcases open_ints he hei hci hy with ⟨rfl, _⟩ | ⟨a', len', cap', zs, rfl, _, hl', hm', hz, _, hcell, hwz⟩
      · exact ⟨(none, 0, 0, []), cell_of_cells?_one hcs, ⟨Rd.nil _ _, Nat.zero_le _⟩, fun y hy => by cases hy⟩
      · have hlz : len' ≤ zs.length := by rw [hz]; split <;> omega
        obtain ⟨xs, h1, h2, h3⟩ := rd_of_row (w := w) (a := some a') (len := len') (cap := len') (zs := zs.take len') (.inr ⟨a', rfl, Nat.le_refl _, by omega, by rw [List.length_take]; omega, fun j hj => by
          rw [List.length_take] at hj
          rw [hcell j (by omega), List.getD_eq_getElem?_getD, List.getD_eq_getElem?_getD, List.getElem?_take_of_lt (by omega)], fun n hn => hwz n (List.mem_of_mem_take hn)⟩)
        exact ⟨(some a', len', cap', xs), cell_of_cells?_one hcs, ⟨h1, h3⟩, h2⟩
    obtain ⟨ts, htl, htq⟩ := list_of len each
    refine ⟨some a, len, cap, ts, rfl, ⟨htl, fun t ht => ?_, fun hn => ?_⟩, fun t ht => ?_, by omega⟩
    · obtain ⟨j, hj⟩ := List.getElem?_of_mem ht
      exact (htq j t hj).2.1
    · obtain ⟨b, off, spot⟩ := a
      have h0 : ts[0]? = some (ts[0]'(by omega)) := List.getElem?_eq_getElem _
      have hc0 := (htq 0 _ h0).1
      have hspot : spot = none := by simpa [Addr.add] using World.cell?_spot hc0
      subst hspot
      refine ⟨b, off, rfl, block_lt_of_cell (by simpa [Addr.add] using hc0), fun j t ht => ?_⟩
      have h9 := (htq j t ht).1
      have e9 : (⟨b, off, none⟩ : Addr).add j = ⟨b, off + j, none⟩ := by
        unfold Addr.add
        by_cases h0 : j = 0 <;> simp [h0]
      rw [e9] at h9
      exact h9
    · obtain ⟨j, hj⟩ := List.getElem?_of_mem ht
      exact (htq j t hj).2.2
end Go.Proofs.YtdafdffmkjhhcaaDoor
namespace Go.Proofs.YtdafdffmkjhhcaaDoor
open Go Go.RowKit
set_option linter.unusedVariables false
set_option maxRecDepth 100000

theorem OwnT.put {w w1 : World} {lo hi n c j g ct : Nat} {At : Option Addr} {ys : List Int} {ts : List (Option Addr × Nat × List Int)} (h : OwnT w lo hi (some ⟨g, 0, none⟩) n c ts) (hhi : hi ≤ w.heap.size) (hlo : lo ≤ w.heap.size) (hb : Below w.heap.size w w1)
    (ho : Own 2 w1 w.heap.size At ys.length ct ys) (hj : j < n) : OwnT (w1.setCell ⟨g, j, none⟩ (.slice At ys.length ct)) lo w1.heap.size (some ⟨g, 0, none⟩) n c (ts.set j (At, ct, ys)) := by
  have hgl : g < hi := h.2.2.1 g rfl
  have hsz := hb.size
  have hjt : j < ts.length := by rw [h.1]; exact hj
  have hAt : ∀ q, At.map (·.block) = some q → w.heap.size ≤ q ∧ q < w1.heap.size := fun q hq => ho.lt q hq
  have hrow := row_kept h.2.1 (grownBy_of_below hb) (fun q _ e => by cases e)
  refine ⟨by rw [List.length_set]; exact h.1, ?_, fun q hq => by have e : g = q := Option.some.inj hq; omega, fun k t hk => ?_⟩
  · have := (World.ownsRow.stored hrow j (.slice At ys.length ct)).1
    unfold valsT at this ⊢
    rw [List.map_set]; exact this
  · rw [List.getElem?_set] at hk
    by_cases e : j = k
    · subst e
      rw [if_pos rfl, if_pos hjt] at hk
      injection hk with hk
      subst hk
      refine ⟨own_other (ho.mono hlo) g j _ (fun q hq => by have := (hAt q hq).1; omega), fun q hq => ⟨(hAt q hq).2, fun e9 => ?_, fun l u hl hu => ?_⟩⟩
      · have e8 : g = q := Option.some.inj e9
        have := (hAt q hq).1; omega
      · rw [List.getElem?_set, if_neg (fun e => hl e.symm)] at hu
        intro e9
        have := ((h.2.2.2 l u hu).2 q e9).1
        have := (hAt q hq).1; omega
    · rw [if_neg e] at hk
      have h9 := h.2.2.2 k t hk
      refine ⟨own_other (h9.1.below hb) g j _ (fun q hq e9 => (h9.2 q hq).2.1 (by rw [e9]; rfl)), fun q hq => ⟨by have := (h9.2 q hq).1; omega, (h9.2 q hq).2.1, fun l u hl hu => ?_⟩⟩
      rw [List.getElem?_set] at hu
      by_cases e2 : j = l
      · subst e2
        rw [if_pos rfl, if_pos hjt] at hu
        injection hu with hu
        subst hu
        intro e9
        have := (hAt q e9).1
        have := (h9.2 q hq).1
        omega
      · rw [if_neg e2] at hu
        exact (h9.2 q hq).2.2 l u hl hu
theorem info_slsT : (Tryd.prog.info? 22).map (fun i => (i.zero, i.size, i.bytes)) = some (some (.slice none 0 0), 1, 24) := by kernel_rfl
theorem made_rows (n : Nat) : (madeCells (Value.slice none 0 0).cells (n * 1)).toList = valsT (List.replicate n (none, 0, [])) := by
  have : (Value.slice none 0 0).cells = #[Value.slice none 0 0] := rfl
  rw [this, toList_madeCells_one, Nat.mul_one]
  unfold valsT
  rw [List.map_replicate]; rfl
set_option maxHeartbeats 1600000 in
theorem toSS_any (A : Option Addr) (n c : Nat) (ts : List (Option Addr × Nat × Nat × List Int)) (w : World) (h : RdT w A n ts) (hn : n ≤ 1048576) (hs : ∀ t, t ∈ ts → t.2.1 ≤ 1048576) :
    Calls Tryd.prog 17 #[.slice A n c] w fun e w' => ∃ A' c', e = .returned (.slice A' n c') ∧ OwnSS w' w.heap.size w'.heap.size A' n c' (ts.map fun t => t.2.2.2) ∧ Below w.heap.size w w' := by
  obtain ⟨i1, hi1, hy0, hy1, hy2⟩ := info_parts info_slsT
  have hml : n ≤ maxLen := by unfold maxLen; omega
  have hby : i1.bytes * n ≤ 281474976710656 := by rw [hy2]; omega
  have HLT : Hid (ts.length = n) := Lib.hid h.1
  have HSM := Lib.hid hs
  clear hs
  go_enter Tryd.func17, Tryd.ntmps17
  go_wp2_with (first | (at_make; refine wpList_make_full _ rfl _ _ _ rfl w.heap.size 22 i1 (.slice none 0 0) 1 Tryd.underlying25 hi1 hy0 hy1 _ _ (n : Int) (n : Int) n rfl rfl rfl rfl hby hml (Nat.le_refl _) ?_; intro w1 hown0 hg1))
  rw [made_rows] at hown0
  have hb1 : Below w.heap.size w w1 := (Below.refl _ _).grown hg1 (Nat.le_refl _) (by simp)
  have hot : OwnT w1 w.heap.size w1.heap.size (some ⟨w.heap.size, 0, none⟩) n n (List.replicate n (none, 0, [])) := ⟨List.length_replicate, hown0, fun q hq => (row_block hown0 q hq).2, fun j t hj => by
    have ht : t = (none, 0, []) := (List.mem_replicate.1 (List.mem_of_getElem? hj)).2
    subst ht
    exact ⟨Own.nil _ _ _, fun q hq => by cases hq⟩⟩
  clear hg1 hown0
  go_loopw [4] (fun i wr => ∃ (k : Nat) (us : List (Option Addr × Nat × List Int)), k ≤ n ∧ i = .int .i64 k ∧ OwnT wr w.heap.size wr.heap.size (some ⟨w.heap.size, 0, none⟩) n n us ∧ Below w.heap.size w wr ∧ Hid ((us.take k).map (fun t => t.2.2) = (ts.take k).map fun t => t.2.2.2)) (fun i _ => n - (intOf i).toNat)
  case atStart => exact ⟨0, _, Nat.zero_le _, rfl, hot, hb1, Lib.hid rfl⟩
  case round =>
    obtain ⟨k, us, hk, rfl, ho, hb, HEQ⟩ := hrel
    have HUL : Hid (us.length = n) := Lib.hid ho.1
    by_cases hlt : k < n
    · obtain ⟨b, off, C, q, cq, xs, rfl, hbs, hts, hcell, hrd, hq⟩ := h.at_ hlt
      have hq2 : q ≤ 1048576 := HSM.out _ (List.mem_of_getElem? hts)
      have hcell9 := (hb.cell (p := ⟨b, off + k, none⟩) hbs).trans hcell
      have hTO := Lib.hid (toInt_any C q cq xs wr (hrd.below hb) hq2)
      have hxl : xs.length = q := hrd.1
      have hus : us[k]? = some (us[k]'(by rw [HUL.out]; exact hlt)) := List.getElem?_eq_getElem _
      obtain ⟨u, hu⟩ : ∃ u, u = us[k]'(by rw [HUL.out]; exact hlt) := ⟨_, rfl⟩
      rw [← hu] at hus
      have HTX : Hid (ts[k]? = some (C, q, cq, xs)) := Lib.hid hts
      have HOT := Lib.hid ho
      have HXL := Lib.hid hxl
      have HUS := Lib.hid hus
      clear hu hus hts hcell hrd ho hxl
      go_wp2_with fail
      refine hTO.out.mono ?_
      rintro e w2 ⟨c9, rfl, o9, b9⟩
      obtain ⟨At, hAt⟩ : ∃ At : Option Addr, At = some ⟨wr.heap.size, 0, none⟩ := ⟨_, rfl⟩
      rw [← hAt] at o9 ⊢
      clear hAt
      have hrow := row_kept HOT.out.2.1 (grownBy_of_below b9) (fun q _ e => by cases e)
      have hc9 := World.ownsRow.cells hrow (g := w.heap.size) rfl k (Value.slice u.1 u.2.2.length u.2.1) (by unfold valsT; rw [List.getElem?_map, HUS.out]; rfl)
      rw [add_zero_off] at hc9
      have hf9 : w2.frozen? ⟨w.heap.size, k, none⟩ = false := World.ownsRow.frozenAt hrow k
      have hnew := OwnT.put (ys := xs) HOT.out (Nat.le_refl _) hb.size b9 (by rw [HXL.out]; exact o9) hlt
      rw [HXL.out] at hnew
      have hb2 : Below w.heap.size w (w2.setCell ⟨w.heap.size, k, none⟩ (.slice At q c9)) := (hb.trans (b9.mono hb.size)).setCell (p := ⟨w.heap.size, k, none⟩) (Nat.le_refl _) _
      have HN9 : Hid (((us.set k (At, c9, xs)).take (k + 1)).map (fun t => t.2.2) = (ts.take (k + 1)).map fun t => t.2.2.2) := Lib.hid (by
        rw [List.take_add_one, List.take_add_one, HTX.out, List.getElem?_set, if_pos rfl, if_pos (by rw [HUL.out]; exact hlt), List.map_append, List.map_append, List.take_set_of_le (Nat.le_refl _), HEQ.out]; rfl)
      have HNEW := Lib.hid hnew
      clear hnew hrow o9 b9
      go_wp2_with fail
      go_roundw
      case rel => exact ⟨k + 1, _, hlt, by go_num, by simpa using HNEW.out, hb2, HN9⟩
      case measure => simp [intOf]; omega
    · obtain rfl : k = n := by omega
      have HF : Hid (us.map (fun t => t.2.2) = ts.map fun t => t.2.2.2) := Lib.hid (by
        have h9 := HEQ.out
        rw [List.take_of_length_le (by rw [HUL.out]; exact Nat.le_refl _), List.take_of_length_le (by rw [HLT.out]; exact Nat.le_refl _)] at h9
        exact h9)
      go_wp2_with fail
      go_ret
      exact ⟨_, _, rfl, ⟨us, HF.out, ho⟩, hb⟩
end Go.Proofs.YtdafdffmkjhhcaaDoor
