/-
  Normal forms, the model's side, for words of up to 1024 letters.
-/
import Derived.Test.YtdafdffmkjhhcaaDoorM3
namespace Go.Proofs.YtdafdffmkjhhcaaDoor
open Go Go.RowKit
set_option linter.unusedVariables false
set_option maxRecDepth 100000
set_option maxHeartbeats 1600000 in
theorem l03FirstL_any (L : Int) (A B : Option Addr) (n c m d a : Nat) (rs us : List Nat) (w : World) (h : Rd w A n (ints rs)) (hn : n ≤ 24) (hr : ∀ i, rs.getD i 0 < 2 ^ n) (h2 : Rd w B m (ints us)) (hm : m ≤ 1024) (hus : ∀ p, p < m → us.getD p 0 < n) (ha : a < n) :
    Calls Tryd.prog 96 #[.agg #[.int .i64 L, .slice A n c], .slice B m d, .int .i64 (a : Int)] w fun e w' => e = .returned (.int .i64 (firstI (RDep rs) us a)) ∧ Below w.heap.size w w' := by
  have mixed : Tryd.prog.follows .mixedOrders = true := by kernel_rfl
  have hlen : us.length = m := by have := h2.1; rw [ints_len] at this; exact this
  have HLEN := Lib.hid hlen
  have HR := Lib.hid hr
  have HUS := Lib.hid hus
  clear hlen hr hus
  have x0 := box_new 29 w L A n c
  have hb0 : Below w.heap.size w (w.alloc (.cells #[.int .i64 L, .slice A n c] 29)) := below1 w _
  obtain ⟨W1, hW1⟩ : ∃ W1, w.alloc (.cells #[.int .i64 L, .slice A n c] 29) = W1 := ⟨_, rfl⟩
  rw [hW1] at x0 hb0
  go_enter Tryd.func96, Tryd.ntmps96
  go_wp2_with fail
  go_loopw [7] (fun q wr => ∃ k, k ≤ m ∧ q = .int .i64 ((k : Nat) : Int) ∧ Below W1.heap.size W1 wr ∧ freeB (RDep rs) us a = freeB (RDep rs) (us.drop k) a ∧ ∀ j, j < k → us.getD j 0 ≠ a) (fun q _ => m - (intOf q).toNat)
  case atStart => exact ⟨0, Nat.zero_le _, rfl, Below.refl _ _, rfl, fun j hj => absurd hj (by omega)⟩
  case round =>
    obtain ⟨k, hk, rfl, hb, hf, hne⟩ := hrel
    have HF := Lib.hid hf
    have HNE := Lib.hid hne
    clear hf hne
    have x1 := x0.next hb
    have y0 := x1.c0
    have y1 := x1.c1
    have hr1 := (h.below hb0).below hb
    have hu1 := (h2.below hb0).below hb
    have HB := Lib.hid (hb0.trans (hb.mono hb0.size))
    by_cases hlt : k < m
    · obtain ⟨gu, ou, x, eU, hgu, hx, hcx⟩ := hu1.at_ hlt
      rw [ints_getD us k (by rw [HLEN.out]; exact hlt)] at hx
      injection hx with hx
      have hun := HUS.out k hlt
      obtain ⟨u, hu⟩ : ∃ u, u = us.getD k 0 := ⟨_, rfl⟩
      rw [← hu] at hx hun
      have HU := Lib.hid hu
      subst hx eU
      clear hu
      by_cases hua : u = a
      · have HAN : Hid (firstI (RDep rs) us a = (k : Int)) := Lib.hid (first_at _ us a k (by rw [HLEN.out]; exact hlt) HF.out (by rw [← HU.out]; exact hua) HNE.out)
        have hd : ((u : Int) == (a : Int)) = true := by rw [hua]; simp
        go_wp2_with fail
        go_ret
        exact ⟨ret_i _ _ HAN.out.symm, HB.out⟩
      · have hd : ((u : Int) == (a : Int)) = false := by simp; omega
        obtain ⟨b, hbv⟩ : ∃ b, b = (rs.getD u 0).testBit a := ⟨_, rfl⟩
        have HDEP : Hid (∀ ww : World, Below _ _ ww → Calls Tryd.prog 103 #[.agg #[.int .i64 L, .slice A n c], .int .i64 (u : Int), .int .i64 (a : Int)] ww fun e w' => e = .returned (.bool b) ∧ Below ww.heap.size ww w') := Lib.hid fun ww hww => by
          rw [hbv]; exact dep_any L A n c u a rs ww (hr1.below hww) hn HR.out hun ha
        have HBV : Hid (RDep rs u a = b) := Lib.hid hbv.symm
        clear hbv
        have hdw : Below wr.heap.size wr wr.drew := (Below.refl _ _).drew
        have HD1 := HDEP.out _ hdw
        have HD2 := Lib.hid HD1
        clear HD1
        go_wp2_with fail
        go_still_tail 6, mixed
        change wpList _ _ _ _ _ wr.drew
        cases b
        · go_wp2_with fail
          refine HD2.out.mono ?_
          rintro e w3 ⟨rfl, hb3⟩
          go_wp2_with fail
          go_roundw
          case rel => exact ⟨k + 1, hlt, by go_num, hb.trans ((hdw.trans (hb3.mono hdw.size)).mono hb.size), HF.out.trans (free_drop _ us a k (by rw [HLEN.out]; exact hlt) (by rw [← HU.out]; exact hua) (by rw [← HU.out]; exact HBV.out)), fun j hj => by
            by_cases e9 : j = k
            · subst e9; rw [← HU.out]; exact hua
            · exact HNE.out j (by omega)⟩
          case measure => simp [intOf]; omega
        · have HAN : Hid (firstI (RDep rs) us a = -1) := Lib.hid (first_dep _ us a k (by rw [HLEN.out]; exact hlt) HF.out (by rw [← HU.out]; exact hua) (by rw [← HU.out]; exact HBV.out))
          go_wp2_with fail
          refine HD2.out.mono ?_
          rintro e w3 ⟨rfl, hb3⟩
          go_wp2_with fail
          go_ret
          exact ⟨ret_i _ _ HAN.out.symm, HB.out.trans ((hdw.trans (hb3.mono hdw.size)).mono HB.out.size)⟩
    · have hke : k = m := by omega
      subst hke
      have HAN : Hid (firstI (RDep rs) us a = -1) := Lib.hid (first_none _ us a (by rw [HLEN.out]; exact HF.out))
      go_wp2_with fail
      go_ret
      exact ⟨ret_i _ _ HAN.out.symm, HB.out⟩
set_option maxHeartbeats 1600000 in
theorem l03WithoutL_any (b off m d k : Nat) (us : List Nat) (w : World) (h : Rd w (some ⟨b, off, none⟩) m (ints us)) (hm : m ≤ 1024) (hk : k < m) (hd : m ≤ d) :
    Calls Tryd.prog 97 #[.slice (some ⟨b, off, none⟩) m d, .int .i64 (k : Int)] w (MakesE 2 w (m - 1) (ints (us.eraseIdx k))) := by
  obtain ⟨i0, hi, hz0, hz1, hz2⟩ := info_parts info_int
  have hlen : us.length = m := by have := h.1; rw [ints_len] at this; exact this
  have h1 : Rd w (some ⟨b, off, none⟩) k (ints (us.take k)) := h.take_ k (by omega)
  have h2 := h.drop_ (k + 1)
  have HOWN : Hid (∀ ww : World, Below w.heap.size w ww → Calls Tryd.prog 80 #[.slice (some ⟨b, off, none⟩) k d] ww (MakesE 2 ww k (ints (us.take k)))) := Lib.hid fun ww hw => own_any _ _ _ _ ww (h1.below hw) (by omega)
  have hkd : k ≤ d := by omega
  have hkd1 : k + 1 ≤ d := by omega
  have hkm1 : k + 1 ≤ m := by omega
  have hdr : Below w.heap.size w w.drew := (Below.refl _ _).drew
  have hw1 : IntKind.i64.wrap ((k : Int) + 1) = (k : Int) + 1 := by rw [IntWalk.i64_left]; unfold wrap64; omega
  have hI2 : (0 : Int) ≤ (k : Int) + 1 := by omega
  have hI3 : (k : Int) + 1 ≤ (m : Int) := by omega
  have HER : Hid (us.take k ++ us.drop (k + 1) = us.eraseIdx k) := Lib.hid (List.eraseIdx_eq_take_drop_succ ..).symm
  have fin : ∀ (w2 : World) (A2 : Option Addr) (c2 q : Nat) (v' : Value) (w3 : World), Own 2 w2 w.heap.size A2 k c2 (ints (us.take k)) → Below w.heap.size w w2 → q = m - 1 → w3.ownsRow w.heap.size 2 1 v' q ((ints (us.take k)).map (Value.int .i64) ++ (ints (us.drop (k + 1))).map (Value.int .i64)) → w2.grownBy w3 (Value.slice A2 k c2).ownBlock → ∃ A3 c3, v' = .slice A3 (m - 1) c3 ∧ Own 2 w3 w.heap.size A3 (m - 1) c3 (ints (us.eraseIdx k)) ∧ Below w.heap.size w w3 := by
    intro w2 A2 c2 q v' w3 ho hb hq hown hg
    subst hq
    rw [← List.map_append] at hown
    have e9 : ints (us.take k) ++ ints (us.drop (k + 1)) = ints (us.eraseIdx k) := by rw [← HER.out]; unfold ints; rw [List.map_append]
    rw [e9] at hown
    obtain ⟨A3, c3, rfl, ho3⟩ := own_shape hown
    exact ⟨A3, c3, rfl, ho3, hb.grown hg hb.size (fun r hr => (World.ownsRow.lt ho r hr).1)⟩
  have HFIN := Lib.hid fin
  clear fin
  by_cases hdk : d = k + 1
  · have hmk : m = k + 1 := by omega
    subst hdk hmk
    have hI1 : (k : Int) ≤ (k : Int) + 1 := by omega
    have hml : k + 0 ≤ maxLen := by unfold maxLen; omega
    have hby : (k + 0) * 8 ≤ 140737488355328 := by omega
    have hnil : Hid (us.drop (k + 1) = []) := Lib.hid (List.drop_eq_nil_of_le (by omega))
    clear hlen
    go_enter Tryd.func97, Tryd.ntmps97
    go_wp2_with fail
    go_region_law (first | (refine step_append_own' (by rfl) _ _ _ (by rfl) w.heap.size 2 i0 _ 1 8 Tryd.underlying22 hi hz0 hz1 hz2 rfl (by omega) (.slice A2 k c2) k ((ints (us.take k)).map (Value.int .i64)) (by rfl) ho2 ⟨b, off, none⟩ 0 0 [] (by rfl) (by rfl) (by intro j u hu; simp at hu) (by simp) hml hby (by have := hb2.size; exact this) ?_; intro v3 w3 hown hg) | (go_simp; go_at_call 80; refine (HOWN.out _ hdr).mono ?_; rintro e w2 ⟨A2, c2, rfl, ho2, hb2⟩))
    all_goals (
      obtain ⟨A3, c3, rfl, ho3, hb3⟩ := HFIN.out w2 A2 c2 (k + 0) v3 w3 ho2 (hdr.trans hb2) (by omega) (by rw [hnil.out]; exact hown) hg
      clear hown hg
      go_wp2_with fail
      go_ret
      exact ⟨A3, c3, rfl, ho3, hb3⟩)
  · have hI1 : (k : Int) ≤ (d : Int) := by omega
    have hml : k + (m - (k + 1)) ≤ maxLen := by unfold maxLen; omega
    have hby : (k + (m - (k + 1))) * 8 ≤ 140737488355328 := by omega
    have hl2 : ((ints (us.drop (k + 1))).map (Value.int .i64)).length = (m - (k + 1)) * 1 := by rw [List.length_map, h2.1, Nat.mul_one]
    have HN2 : Hid (∀ wx : World, Below w.heap.size w wx → ∀ j u, ((ints (us.drop (k + 1))).map (Value.int .i64))[j]? = some u → wx.cell? ((⟨b, off + (k + 1), none⟩ : Addr).add j) = some u) := Lib.hid fun wx hwx => rd_news2 h2 (fun p hp => hwx.cell hp) hwx.size
    have HL2 := Lib.hid hl2
    have HMQ : Hid (k + (m - (k + 1)) = m - 1) := Lib.hid (by omega)
    clear hlen hl2 h2
    go_enter Tryd.func97, Tryd.ntmps97
    go_wp2_with fail
    go_region_law (first | (refine step_append_own' (by rfl) _ _ _ (by rfl) w.heap.size 2 i0 _ 1 8 Tryd.underlying22 hi hz0 hz1 hz2 rfl (by omega) (.slice A2 k c2) k ((ints (us.take k)).map (Value.int .i64)) (by rfl) ho2 ⟨b, off + (k + 1), none⟩ (m - (k + 1)) (d - (k + 1)) ((ints (us.drop (k + 1))).map (Value.int .i64)) (by rfl) HL2.out (HN2.out _ (hdr.trans hb2)) (ints_oneCell .i64 _) hml hby (by have := hb2.size; exact this) ?_; intro v3 w3 hown hg) | (go_simp; go_at_call 80; refine (HOWN.out _ hdr).mono ?_; rintro e w2 ⟨A2, c2, rfl, ho2, hb2⟩))
    all_goals (
      obtain ⟨A3, c3, rfl, ho3, hb3⟩ := HFIN.out w2 A2 c2 (k + (m - (k + 1))) v3 w3 ho2 (hdr.trans hb2) HMQ.out hown hg
      clear hown hg
      go_wp2_with fail
      go_ret
      exact ⟨A3, c3, rfl, ho3, hb3⟩)
set_option maxHeartbeats 3200000 in
theorem l03NormalL_any (A B : Option Addr) (n c m d : Nat) (rs us : List Nat) (w : World) (h : Rd w A n (ints rs)) (hn : n ≤ 24) (hr : ∀ i, rs.getD i 0 < 2 ^ n) (h2 : Rd w B m (ints us)) (hm : m ≤ 1024) (hus : ∀ p, p < m → us.getD p 0 < n) :
    Calls Tryd.prog 53 #[.agg #[.int .i64 (n : Int), .slice A n c], .slice B m d] w (MakesE 2 w m (ints (nfM (RDep rs) n us))) := by
  obtain ⟨i0, hi, hz0, hz1, hz2⟩ := info_parts info_int
  have hlen : us.length = m := by have := h2.1; rw [ints_len] at this; exact this
  have HUS : Hid (∀ x, x ∈ us → x < n) := Lib.hid fun x hx => by
    obtain ⟨j, hj, e⟩ := List.getElem_of_mem hx
    have := hus j (by omega)
    rw [List.getD_eq_getElem?_getD, List.getElem?_eq_getElem hj] at this
    rw [← e]; exact this
  have HNF : Hid (nfM (RDep rs) n us = nfGo (RDep rs) n m us) := Lib.hid (by unfold nfM; rw [hlen])
  have HR := Lib.hid hr
  have HLEN := Lib.hid hlen
  obtain ⟨NF, hNF⟩ : ∃ NF, NF = nfM (RDep rs) n us := ⟨_, rfl⟩
  rw [← hNF] at HNF ⊢
  clear hNF hlen hr hus
  have x0 := box_new 29 w (n : Int) A n c
  have hb0 : Below w.heap.size w (w.alloc (.cells #[.int .i64 (n : Int), .slice A n c] 29)) := below1 w _
  obtain ⟨W1, hW1⟩ : ∃ W1, w.alloc (.cells #[.int .i64 (n : Int), .slice A n c] 29) = W1 := ⟨_, rfl⟩
  rw [hW1] at x0 hb0
  have h21 := h2.below hb0
  have HOWN : Hid (∀ ww : World, Below W1.heap.size W1 ww → Calls Tryd.prog 80 #[.slice B m d] ww (MakesE 2 ww m (ints us))) := Lib.hid fun ww hw => own_any _ _ _ _ ww (h21.below hw) (by omega)
  go_enter Tryd.func53, Tryd.ntmps53
  go_wp2_with fail
  refine (HOWN.out _ ((Below.refl _ W1).alloc (Nat.le_refl _) _)).mono ?_
  rintro e w3 ⟨A3, c3, rfl, ho3, hb3⟩
  have hb13 : Below W1.heap.size W1 w3 := ((Below.refl _ W1).alloc (Nat.le_refl _) _).trans (hb3.mono (by simp))
  have hor : Own 2 w3 W1.heap.size A3 m c3 (ints us) := ho3.mono (by simp)
  have hoo : Own 2 w3 W1.heap.size (some ⟨W1.heap.size, 0, none⟩) 0 0 (ints []) := Own.below (show Own 2 (W1.alloc (.cells #[] 2)) W1.heap.size (some ⟨W1.heap.size, 0, none⟩) 0 0 (ints []) from World.ownsRow_lit W1 #[] 0 (Nat.le_refl _) (by unfold maxLen; omega) rfl) hb3
  have hap : ∀ q, (some (⟨W1.heap.size, 0, none⟩ : Addr)).map (·.block) = some q → A3.map (·.block) ≠ some q := fun q hq e => by
    have h1 := (ho3.lt q e).1
    cases hq
    simp at h1
    omega
  clear HOWN h21 hb3 ho3
  go_wp2_with fail
  go_loopw [5, 6] (fun p q wr => ∃ (k : Nat) (pre vs : List Nat) (Ao Ar : Option Addr) (co cr : Nat), p = .slice Ao pre.length co ∧ q = .slice Ar k cr ∧ vs.length = k ∧ pre.length + k = m ∧ Own 2 wr W1.heap.size Ao pre.length co (ints pre) ∧ Own 2 wr W1.heap.size Ar k cr (ints vs) ∧ (∀ q, Ao.map (·.block) = some q → Ar.map (·.block) ≠ some q) ∧ Below W1.heap.size W1 wr ∧ pre ++ nfGo (RDep rs) n k vs = NF ∧ ∀ x, x ∈ vs → x < n) (fun _ q _ => sliceLen q)
  case atStart => exact ⟨m, [], us, _, A3, 0, c3, rfl, rfl, HLEN.out, by simp, hoo, hor, hap, hb13, HNF.out.symm, HUS.out⟩
  case round =>
    clear hoo hor hap hb13
    obtain ⟨k, pre, vs, Ao, Ar, co, cr, rfl, rfl, hvl, hpk, hoo, hor, hap, hb, hnf, hvn⟩ := hrel
    have HVL := Lib.hid hvl
    have HPK := Lib.hid hpk
    have HNFK := Lib.hid hnf
    have HVN := Lib.hid hvn
    obtain ⟨pl, hpl⟩ : ∃ pl, pl = pre.length := ⟨_, rfl⟩
    rw [← hpl] at hoo HPK ⊢
    have HPL := Lib.hid hpl
    clear hvl hpk hnf hvn hpl
    by_cases hk0 : 0 < k
    · obtain ⟨gr, rfl, _⟩ := hor.form hk0
      have hrd := hor.rd
      have HCAP := Lib.hid (own_cap hor)
      have hap2 : ∀ q, Ao.map (·.block) = some q → gr ≠ q := fun q hq e => hap q hq (by rw [← e]; rfl)
      have HAP := Lib.hid hap2
      clear hap hap2
      have hx := x0.next hb
      have HV0 : Hid (∃ v0, v0 < n ∧ freeB (RDep rs) vs v0 = true) := Lib.hid (by
        cases hvs : vs with
        | nil => have := HVL.out; rw [hvs] at this; simp at this; omega
        | cons v0 us' => exact ⟨v0, HVN.out v0 (by rw [hvs]; exact List.mem_cons_self), free_head _ _ _⟩)
      have hn0 : 0 < n := by obtain ⟨v0, h1, _⟩ := HV0.out; omega
      go_wp2_with fail
      go_loopw [5, 6, 7] (fun p5 p6 q wx => ∃ a, p5 = .slice Ao pl co ∧ p6 = .slice (some ⟨gr, 0, none⟩) k cr ∧ a < n ∧ q = .int .i64 ((a : Nat) : Int) ∧ (∀ b, b < a → freeB (RDep rs) vs b = false) ∧ Below wr.heap.size wr wx) (fun _ _ q _ => n - (intOf q).toNat)
      case atStart => exact ⟨0, rfl, rfl, hn0, rfl, fun b hb9 => absurd hb9 (by omega), Below.refl _ _⟩
      case round =>
        obtain ⟨a, rfl, rfl, han, rfl, hnf, hbx⟩ := hrel
        have HNO := Lib.hid hnf
        clear hnf
        have hxx := hx.next hbx
        have y0 := hxx.c0
        have y1 := hxx.c1
        have hFI := l03FirstL_any (n : Int) A (some ⟨gr, 0, none⟩) n c k cr a rs vs wr ((h.below hb0).below (hb.trans (hbx.mono hb.size))) hn HR.out (hrd.below hbx) (by have := HPK.out; omega) (fun p hp => HVN.out _ (by rw [List.getD_eq_getElem?_getD, List.getElem?_eq_getElem (by rw [HVL.out]; exact hp)]; exact List.getElem_mem _)) han
        cases hfree : freeB (RDep rs) vs a
        · have hfi : firstI (RDep rs) vs a = -1 := by unfold firstI; rw [hfree]; rfl
          rw [hfi] at hFI
          have HFI := Lib.hid hFI
          have HNX : Hid (a + 1 < n ∧ ∀ b, b < a + 1 → freeB (RDep rs) vs b = false) := Lib.hid (by
            have hall : ∀ b, b < a + 1 → freeB (RDep rs) vs b = false := fun b hb9 => by
              by_cases e9 : b = a
              · rw [e9]; exact hfree
              · exact HNO.out b (by omega)
            refine ⟨?_, hall⟩
            obtain ⟨v0, h1, h2⟩ := HV0.out
            rcases Nat.lt_or_ge (a + 1) n with h3 | h3
            · exact h3
            · have := hall v0 (by omega); rw [h2] at this; cases this)
          clear hFI hfi hfree
          go_wp2_with fail
          refine HFI.out.mono ?_
          rintro e w4 ⟨rfl, hb4⟩
          go_wp2_with fail
          go_roundw
          case rel => exact ⟨a + 1, rfl, rfl, HNX.out.1, by go_num, HNX.out.2, hbx.trans (hb4.mono hbx.size)⟩
          case measure => simp [intOf]; omega
        · have hmem := free_mem (RDep rs) a vs hfree
          have hidx : vs.idxOf a < k := by rw [← HVL.out]; exact List.idxOf_lt_length_of_mem hmem
          have hfi : firstI (RDep rs) vs a = ((vs.idxOf a : Nat) : Int) := by unfold firstI; rw [hfree]; rfl
          rw [hfi] at hFI
          have HLF : Hid (leastFree (RDep rs) n vs = some a) := Lib.hid ((leastFree_iff _ _ _ _).2 ⟨han, hfree, HNO.out⟩)
          have HER := Lib.hid (erase_idx vs a hmem)
          have HLE : Hid ((vs.erase a).length = k - 1) := Lib.hid (by rw [List.length_erase_of_mem hmem, HVL.out])
          obtain ⟨q, hq⟩ : ∃ q, q = vs.idxOf a := ⟨_, rfl⟩
          rw [← hq] at hidx hFI HER
          have HFI := Lib.hid hFI
          clear hFI hfi hfree hmem hq
          go_wp2_with fail
          refine HFI.out.mono ?_
          rintro e w4 ⟨rfl, hb4⟩
          have hb04 : Below W1.heap.size W1 w4 := hb.trans ((hbx.trans (hb4.mono hbx.size)).mono hb.size)
          have hoo4 := (hoo.below hbx).below hb4
          have hor4 := (hor.below hbx).below hb4
          have hmlx : pl + 1 ≤ maxLen := by have := HPK.out; unfold maxLen; omega
          have hby2 : (pl + 1) * 8 ≤ 140737488355328 := by have := HPK.out; omega
          clear hxx y0 y1 hbx hb4 hoo hor hrd hx HFI
          go_wp2_with (at_builtin; refine wpList_append_lies _ rfl _ _ 22 rfl W1.heap.size 2 i0 (.int .i64 0) 1 8 Tryd.underlying22 hi hz0 hz1 hz2 rfl (by decide) (.slice Ao pl co) pl ((ints pre).map (Value.int .i64)) rfl (World.ownsRow.alloc hoo4 _) ⟨w4.heap.size, 0, none⟩ 1 1 [.int .i64 (a : Int)] rfl rfl ?c1 ?c2 (by decide) hmlx hby2 ?c5 (w4.heap.size + 1) (by simp) ?_)
          case c1 => exact cell_one_new _ _ _
          case c2 => intro u hu; simp at hu; subst hu; rfl
          case c5 => have := hb04.size; simp; omega
          intro g9 cap w5 hown hg hat hlt9
          rw [ints_snoc_map] at hown
          have hgr4 := (hor4.lt gr rfl).2
          have hgne : g9 ≠ gr := by
            rcases hat with h9 | h9
            · exact fun e9 => HAP.out g9 (ownBlock_map' h9) e9.symm
            · omega
          have hb5 : Below W1.heap.size W1 w5 := (hb04.alloc hb04.size _).grown hg (by have := hb04.size; simp; omega) (fun r hr => (hoo4.lt _ (ownBlock_map' hr)).1)
          have hoo5 : Own 2 w5 W1.heap.size (some ⟨g9, 0, none⟩) (pl + 1) cap (ints (pre ++ [a])) := hown
          have hor5 : Own 2 w5 W1.heap.size (some ⟨gr, 0, none⟩) k cr (ints vs) := Own.apart (hor4.below ((Below.refl _ w4).alloc (Nat.le_refl _) _)) hg (fun r hr e9 => by cases hr; exact HAP.out _ (ownBlock_map' e9) rfl)
          have HWI := Lib.hid (l03WithoutL_any gr 0 k cr q vs w5 hor5.rd (by have := HPK.out; omega) hidx HCAP.out)
          clear hown hg hat hlt9 hoo4 hor4 hgr4
          go_wp2_with fail
          refine HWI.out.mono ?_
          rintro e w6 ⟨A6, c6, rfl, ho6, hb6⟩
          rw [HER.out] at ho6
          have hoo6 := hoo5.below hb6
          have hap6 : ∀ r, (some (⟨g9, 0, none⟩ : Addr)).map (·.block) = some r → A6.map (·.block) ≠ some r := fun r hr e9 => by
            have h1 := (ho6.lt r e9).1
            have h2 := (hoo5.lt r hr).2
            omega
          have HPL1 : Hid (pl + 1 = (pre ++ [a]).length) := Lib.hid (by rw [List.length_append, HPL.out]; rfl)
          have HNF1 : Hid ((pre ++ [a]) ++ nfGo (RDep rs) n (k - 1) (vs.erase a) = NF) := Lib.hid (by
            have := nf_step (RDep rs) n (k - 1) a pre vs HLF.out
            rw [show k - 1 + 1 = k by omega] at this
            rw [this]; exact HNFK.out)
          have HLEN1 : Hid ((pre ++ [a]).length + (k - 1) = m) := Lib.hid (by rw [← HPL1.out]; have := HPK.out; omega)
          have hb16 := hb5.trans (hb6.mono hb5.size)
          have ho6' := ho6.mono hb5.size
          clear hgne
          go_wp2_with fail
          go_roundw
          case rel => exact ⟨k - 1, pre ++ [a], vs.erase a, some ⟨g9, 0, none⟩, A6, cap, c6, by rw [HPL1.out], rfl, HLE.out, HLEN1.out, by rw [← HPL1.out]; exact hoo6, ho6', hap6, hb16, HNF1.out, fun x hx => HVN.out x (List.mem_of_mem_erase hx)⟩
          case measure => simp [sliceLen]; omega
    · have hk : k = 0 := by omega
      subst hk
      have HFIN : Hid (pre = NF) := Lib.hid (by have := HNFK.out; rw [show nfGo (RDep rs) n 0 vs = [] from rfl, List.append_nil] at this; exact this)
      go_wp2_with fail
      go_ret
      have h1 := HPK.out
      have e9 : pl = m := by omega
      subst e9
      refine ⟨Ao, co, rfl, ?_, hb0.trans (hb.mono hb0.size)⟩
      rw [← HFIN.out]
      exact hoo.mono hb0.size
end Go.Proofs.YtdafdffmkjhhcaaDoor
