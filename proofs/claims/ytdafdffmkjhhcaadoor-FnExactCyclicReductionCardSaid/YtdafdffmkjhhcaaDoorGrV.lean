/-
  The reduction of the model: cancelling pairs are taken out, one after the other.
-/
import Derived.Test.YtdafdffmkjhhcaaDoorGrU
namespace Go.Proofs.YtdafdffmkjhhcaaDoor
open Go Go.RowKit
set_option linter.unusedVariables false
set_option linter.unusedSimpArgs false
set_option maxRecDepth 100000

theorem nfR_sameG (rs : List Nat) (n : Nat) (hl : rs.length = n) (hsym : ∀ a b, RDep rs a b = RDep rs b a) (href : ∀ a, a < n → RDep rs a a = true) (us vs : List Nat) (hu : ∀ x, x ∈ us → x < n) (hv : ∀ x, x ∈ vs → x < n) (h : Eqv (RDep rs) us vs) : nfR rs us = nfR rs vs := by
  unfold nfR; rw [hl]; exact (eqv_iff_nf hsym href us vs hu hv).1 h
theorem nfR_ltG (rs us : List Nat) (x : Nat) (h : x ∈ nfR rs us) : x < rs.length := by
  have key : ∀ (k : Nat) (us : List Nat) (x : Nat), x ∈ nfGo (RDep rs) rs.length k us → x < rs.length := by
    intro k
    induction k with
    | zero => intro us x h; cases h
    | succ k ih =>
      intro us x h
      have h' : x ∈ (match leastFree (RDep rs) rs.length us with | none => [] | some a => a :: nfGo (RDep rs) rs.length k (us.erase a)) := h
      cases hl : leastFree (RDep rs) rs.length us with
      | none => rw [hl] at h'; cases h'
      | some a =>
        rw [hl] at h'
        rcases List.mem_cons.1 h' with e | e
        · rw [e]; exact ((leastFree_iff _ _ us a).1 hl).1
        · exact ih _ x e
  exact key _ _ x h
theorem erase2 (a : Nat) : ∀ (vs : List Nat) (i k : Nat), i < k → k < vs.length → vs.getD k 0 = a → (∀ j, i < j → j < k → vs.getD j 0 ≠ a) → (vs.eraseIdx k).eraseIdx i = vs.take i ++ (vs.drop (i + 1)).erase a
  | [], i, k, _, hk, _, _ => by simp at hk
  | v :: t, 0, k, hi, hk, he, hn => by
    obtain ⟨q, rfl⟩ := Nat.exists_eq_succ_of_ne_zero (show k ≠ 0 by omega)
    have e1 : t.idxOf a = q := idxOf_is a t q (by simpa using hk) (by simpa using he) (fun j hj => by simpa using hn (j + 1) (by omega) (by omega))
    have hm : a ∈ t := by
      have h9 : q < t.length := by simpa using hk
      have : t.getD q 0 = a := by simpa using he
      rw [List.getD_eq_getElem?_getD, List.getElem?_eq_getElem h9] at this
      rw [← this]; exact List.getElem_mem _
    have := erase_idx t a hm
    rw [e1] at this
    simpa using this
  | v :: t, i + 1, k, hi, hk, he, hn => by
    obtain ⟨q, rfl⟩ := Nat.exists_eq_succ_of_ne_zero (show k ≠ 0 by omega)
    have ih := erase2 a t i q (by omega) (by simpa using hk) (by simpa using he) (fun j h1 h2 => by simpa using hn (j + 1) (by omega) (by omega))
    simpa using ih
/-- What stands at the head of a round of the model's outer loop. -/
structure RedO (D : Nat → Nat → Bool) (N : Nat) (us vs : List Nat) (i : Nat) : Prop where
  eqv : Eqv D (redW D us) (redW D vs)
  lt : ∀ x, x ∈ vs → x < N
  le : vs.length ≤ us.length
  no : ∀ j, j < i → freeB D (vs.drop (j + 1)) (opp (vs.getD j 0)) = false
theorem RedO.next {D : Nat → Nat → Bool} {N : Nat} {us vs : List Nat} {i : Nat} (h : RedO D N us vs i) (hf : freeB D (vs.drop (i + 1)) (opp (vs.getD i 0)) = false) : RedO D N us vs (i + 1) :=
  ⟨h.eqv, h.lt, h.le, fun j hj => by
    by_cases e : j = i
    · rw [e]; exact hf
    · exact h.no j (by omega)⟩
theorem RedO.cut {D : Nat → Nat → Bool} {N : Nat} (g : GD D N) {us vs : List Nat} {i : Nat} (h : RedO D N us vs i) (hi : i < vs.length) (hf : freeB D (vs.drop (i + 1)) (opp (vs.getD i 0)) = true) :
    RedO D N us (vs.take i ++ (vs.drop (i + 1)).erase (opp (vs.getD i 0))) 0 := by
  obtain ⟨h1, h2, h3⟩ := stp_some g vs _ h.lt (stp_at i vs hi h.no hf)
  exact ⟨h.eqv.trans h1, fun x hx => h.lt x (h3 x hx), by have := h.le; omega, fun j hj => absurd hj (by omega)⟩
theorem RedO.done {D : Nat → Nat → Bool} {N : Nat} {us vs : List Nat} {i : Nat} (h : RedO D N us vs i) (hi : vs.length ≤ i) : Eqv D (redW D us) vs := by
  have := stp_none vs (stp_no vs (fun j hj => h.no j (by omega)))
  rw [← this]; exact h.eqv
set_option maxHeartbeats 6400000 in
theorem l09Reduce_any (A B : Option Addr) (N c m d : Nat) (ds us : List Nat) (w : World) (h : Rd w A N (ints ds)) (hN : N ≤ 16) (hl : ds.length = N) (hr : ∀ i, ds.getD i 0 < 2 ^ N) (hgd : GD (RDep ds) N) (h2 : Rd w B m (ints us)) (hm : m ≤ 900) (hus : ∀ x, x ∈ us → x < N) :
    Calls Tryd.prog 71 #[.agg #[.int .i64 (N : Int), .slice A N c], .slice B m d] w (MakesE 2 w (nfR ds (redW (RDep ds) us)).length (ints (nfR ds (redW (RDep ds) us)))) := by
  have mixed : Tryd.prog.follows .mixedOrders = true := by kernel_rfl
  have HLU : Hid (us.length = m) := Lib.hid (by have := h2.1; rw [ints_len] at this; exact this)
  have HL := Lib.hid hl
  have HR := Lib.hid hr
  have HGD := Lib.hid hgd
  have HFIN : Hid (∀ vs : List Nat, (∀ x, x ∈ vs → x < N) → Eqv (RDep ds) (redW (RDep ds) us) vs → nfM (RDep ds) N vs = nfR ds (redW (RDep ds) us)) := Lib.hid (fun vs hv he => by
    rw [nfR_sameG ds N hl hgd.sym hgd.ref _ vs (redW_lt hus) hv he]; unfold nfR; rw [hl])
  have HST : Hid (RedO (RDep ds) N us us 0) := Lib.hid ⟨Eqv.refl _ _, hus, Nat.le_refl _, fun j hj => absurd hj (by omega)⟩
  clear hl hr hgd hus
  have x0 := box_new 29 w (N : Int) A N c
  have hb0 : Below w.heap.size w (w.alloc (.cells #[.int .i64 (N : Int), .slice A N c] 29)) := below1 w _
  obtain ⟨W1, hW1⟩ : ∃ W1, w.alloc (.cells #[.int .i64 (N : Int), .slice A N c] 29) = W1 := ⟨_, rfl⟩
  rw [hW1] at x0 hb0
  have HOW := Lib.hid (own_any B m d (ints us) W1 (h2.below hb0) (by omega))
  obtain ⟨NF, hNF⟩ : ∃ NF, NF = nfR ds (redW (RDep ds) us) := ⟨_, rfl⟩
  rw [← hNF] at HFIN ⊢
  clear hNF
  go_enter Tryd.func71, Tryd.ntmps71
  go_wp2_with fail
  refine HOW.out.mono ?_
  rintro e w1 ⟨A0, c0, rfl, o0, hb1⟩
  go_wp2_with fail
  go_loopw [5, 6] (fun p q wr => ∃ (vs : List Nat) (n : Nat) (A1 : Option Addr) (c1 i : Nat), vs.length = n ∧ p = .slice A1 n c1 ∧ q = .int .i64 (i : Int) ∧ i ≤ n ∧ n ≤ m ∧ RedO (RDep ds) N us vs i ∧ Own 2 wr w.heap.size A1 n c1 (ints vs) ∧ Below W1.heap.size W1 wr) (fun p q _ => sliceLen p * 2000 + (1000 - (intOf q).toNat))
  case atStart => exact ⟨us, m, A0, c0, 0, HLU.out, rfl, rfl, Nat.zero_le _, Nat.le_refl _, HST.out, o0.mono hb0.size, hb1⟩
  case round =>
    clear o0 hb1
    obtain ⟨vs, n, A1, c1, i, hvl, rfl, rfl, hin, hnm, hro, ho, hb⟩ := hrel
    have HVL := Lib.hid hvl
    have HRO := Lib.hid hro
    have HB := Lib.hid (hb0.trans (hb.mono hb0.size))
    clear hvl hro
    obtain ⟨wo, hwo⟩ : ∃ wo, wo = wr := ⟨_, rfl⟩
    rw [← hwo] at ho hb HB ⊢
    clear hwo
    by_cases hlt : i < n
    · obtain ⟨g, rfl, hgB, hgl⟩ := ho.form (by omega)
      obtain ⟨a, ha⟩ : ∃ a, a = vs.getD i 0 := ⟨_, rfl⟩
      have haN : a < N := by rw [ha]; exact in_getD HRO.out.lt i (by rw [HVL.out]; exact hlt)
      have hai : (ints vs)[i]? = some (a : Int) := by rw [ints_getD vs i (by rw [HVL.out]; exact hlt), ha]
      have hca := ho.cell hai
      have HA := Lib.hid ha
      have HGET : Hid (∀ k, k < n → (ints vs)[k]? = some ((vs.getD k 0 : Nat) : Int) ∧ vs.getD k 0 < N) := Lib.hid (fun k hk => ⟨ints_getD vs k (by rw [HVL.out]; exact hk), in_getD HRO.out.lt k (by rw [HVL.out]; exact hk)⟩)
      clear ha hai
      go_wp2_with fail
      go_loopw [5, 6, 7] (fun pv iv q wr => ∃ k : Nat, pv = .slice (some ⟨g, 0, none⟩) n c1 ∧ iv = .int .i64 (i : Int) ∧ i < k ∧ k ≤ n ∧ q = .int .i64 (k : Int) ∧ Below wo.heap.size wo wr ∧ freeB (RDep ds) (vs.drop (i + 1)) (opp a) = freeB (RDep ds) (vs.drop k) (opp a) ∧ ∀ j, i < j → j < k → vs.getD j 0 ≠ opp a) (fun _ _ q _ => n - (intOf q).toNat)
      case atStart => exact ⟨i + 1, rfl, rfl, by omega, hlt, by go_num, Below.refl _ _, rfl, fun j h1 h2 => absurd h2 (by omega)⟩
      case round =>
        obtain ⟨k, rfl, rfl, hik, hkn, rfl, hbb, hfr, hne⟩ := hrel
        have HFR := Lib.hid hfr
        have HNE := Lib.hid hne
        clear hfr hne
        have hca2 := (hbb.cell (p := ⟨g, i, none⟩) hgl).trans hca
        by_cases hlt2 : k < n
        · obtain ⟨hxk, hxN⟩ := HGET.out k hlt2
          obtain ⟨x, hx⟩ : ∃ x, x = vs.getD k 0 := ⟨_, rfl⟩
          rw [← hx] at hxk hxN
          have HX := Lib.hid hx
          have hck := (hbb.cell (p := ⟨g, k, none⟩) hgl).trans (ho.cell hxk)
          obtain ⟨oa, hoa⟩ : ∃ oa, oa = opp a := ⟨_, rfl⟩
          have HOA := Lib.hid hoa
          have HOPQ : Hid (∀ jq : Nat, Calls Tryd.prog 120 #[.int .i64 (a : Int)] (wr.drewN jq) fun e w'' => e = .returned (.int .i64 (oa : Int)) ∧ ∃ m', w'' = wr.drewN m') := Lib.hid (fun jq => by rw [hoa]; exact (l09Opposite_any a (by omega) (wr.drewN jq)).mono fun _ _ ⟨he, hw⟩ => ⟨he, jq, hw.symm⟩)
          rw [← hoa] at HFR HNE
          clear hx hxk hoa
          go_wp2_with fail
          go_quiet ((go_at_call 120; exact HOPQ.out _))
          have hb05 : Below wr.heap.size wr (wr.drewN nq) := below_drewN (Below.refl _ _) _
          have hbb5 : Below wo.heap.size wo (wr.drewN nq) := hbb.trans (hb05.mono hbb.size)
          generalize wr.drewN nq = w5 at hb05 hbb5 ⊢
          have hca5 := (hbb5.cell (p := ⟨g, i, none⟩) hgl).trans hca
          have hck5 : w5.cell? ⟨g, k, none⟩ = some (.int .i64 (x : Int)) := (hb05.cell (p := ⟨g, k, none⟩) (Nat.lt_of_lt_of_le hgl hbb.size)).trans hck
          have HDE := Lib.hid (fun (ww : World) (hww : Below w5.heap.size w5 ww) => dep_any (N : Int) A N c a x ds ww (h.below ((HB.out.trans (hbb5.mono HB.out.size)).trans (hww.mono (HB.out.trans (hbb5.mono HB.out.size)).size))) (by omega) HR.out haN hxN)
          have xb := x0.next (hb.trans (hbb5.mono hb.size))
          have z0 := xb.c0
          have z1 := xb.c1
          by_cases hxa : x = oa
          · have hd : ((x : Int) == (oa : Int)) = true := by rw [hxa]; simp
            have HFT : Hid (freeB (RDep ds) (vs.drop (i + 1)) (opp (vs.getD i 0)) = true) := Lib.hid (by
              rw [← HA.out, ← HOA.out, HFR.out, List.drop_eq_getElem_cons (by rw [HVL.out]; exact hlt2), free_cons, if_pos]
              have e9 := HX.out
              rw [List.getD_eq_getElem?_getD, List.getElem?_eq_getElem (by rw [HVL.out]; exact hlt2)] at e9
              rw [← hxa, e9]; rfl)
            have HCUT := Lib.hid (HRO.out.cut HGD.out (by rw [HVL.out]; exact hlt) HFT.out)
            have HER : Hid ((vs.eraseIdx k).eraseIdx i = vs.take i ++ (vs.drop (i + 1)).erase (opp (vs.getD i 0))) := Lib.hid (erase2 _ vs i k hik (by rw [HVL.out]; exact hlt2) (by rw [← HX.out, hxa, HOA.out, HA.out]) (by rw [← HA.out, ← HOA.out]; exact HNE.out))
            rw [← HER.out] at HCUT
            have ho3 := ho.below hbb5
            have hW1 := Lib.hid (l03WithoutL_any g 0 n c1 k vs w5 ho3.rd (by omega) hlt2 (own_cap ho3))
            go_wp2_with fail
            refine hW1.out.mono ?_
            rintro e w4 ⟨A4, c4, rfl, o4, hb4⟩
            obtain ⟨g4, rfl, hg4, hg4l⟩ := o4.form (by omega)
            have hW2 := Lib.hid (l03WithoutL_any g4 0 (n - 1) c4 i (vs.eraseIdx k) w4 o4.rd (by omega) (by omega) (own_cap o4))
            go_wp2_with fail
            refine hW2.out.mono ?_
            rintro e w6 ⟨A5, c5, rfl, o5, hb5⟩
            have hlen5 : ((vs.eraseIdx k).eraseIdx i).length = n - 1 - 1 := by have := o5.len; rwa [ints_len] at this
            have hB5 : Below wo.heap.size wo w6 := (hbb5.trans (hb4.mono hbb5.size)).trans (hb5.mono (Nat.le_trans hbb5.size hb4.size))
            have HO5 := Lib.hid (o5.mono (B' := w.heap.size) (Nat.le_trans (HB.out.trans (hbb5.mono HB.out.size)).size hb4.size))
            have HB5 := Lib.hid hB5
            clear o5 hB5
            go_wp2_with fail
            go_roundw
            case rel => exact ⟨(vs.eraseIdx k).eraseIdx i, n - 1 - 1, A5, c5, 0, hlen5, rfl, by go_num, Nat.zero_le _, by omega, HCUT.out, HO5.out, hb.trans (HB5.out.mono hb.size)⟩
            case measure => simp [sliceLen, intOf]; omega
          · have hd : ((x : Int) == (oa : Int)) = false := by simp; omega
            have hdw : Below w5.heap.size w5 w5.drew := (Below.refl _ _).drew
            obtain ⟨dd, hdd⟩ : ∃ dd, dd = (ds.getD a 0).testBit x := ⟨_, rfl⟩
            have HDD : Hid (RDep ds a x = dd) := Lib.hid hdd.symm
            have HD2 := Lib.hid (HDE.out _ hdw)
            rw [← hdd] at HD2
            clear hdd
            have HRX : Hid (RDep ds x oa = dd) := Lib.hid (by rw [HOA.out, HGD.out.op2, HGD.out.sym]; exact HDD.out)
            go_wp2_with fail
            go_still_tail 9, mixed
            change wpList _ _ _ _ _ w5.drew
            cases dd
            · go_wp2_with fail
              refine HD2.out.mono ?_
              rintro e w3 ⟨rfl, hb3⟩
              go_wp2_with fail
              go_roundw
              case rel => exact ⟨k + 1, rfl, rfl, by omega, hlt2, by go_num, hbb5.trans ((hdw.trans (hb3.mono hdw.size)).mono hbb5.size), by
                rw [← HOA.out, HFR.out]; exact free_drop _ vs oa k (by rw [HVL.out]; exact hlt2) (by rw [← HX.out]; exact hxa) (by rw [← HX.out]; exact HRX.out), fun j h1 h2 => by
                by_cases e9 : j = k
                · subst e9; rw [← HX.out, ← HOA.out]; exact hxa
                · rw [← HOA.out]; exact HNE.out j h1 (by omega)⟩
              case measure => simp [intOf]; omega
            · have HNO : Hid (freeB (RDep ds) (vs.drop (i + 1)) (opp (vs.getD i 0)) = false) := Lib.hid (by
                rw [← HA.out, ← HOA.out, HFR.out, List.drop_eq_getElem_cons (by rw [HVL.out]; exact hlt2), free_cons]
                have e9 := HX.out
                rw [List.getD_eq_getElem?_getD, List.getElem?_eq_getElem (by rw [HVL.out]; exact hlt2)] at e9
                have e8 : vs[k]'(by rw [HVL.out]; exact hlt2) = x := by rw [e9]; rfl
                rw [e8, if_neg hxa, HRX.out]; rfl)
              go_wp2_with fail
              refine HD2.out.mono ?_
              rintro e w3 ⟨rfl, hb3⟩
              have hB3 : Below wo.heap.size wo w3 := hbb5.trans ((hdw.trans (hb3.mono hdw.size)).mono hbb5.size)
              have HO3 := Lib.hid (ho.below hB3)
              go_wp2_with fail
              go_roundw
              case rel => exact ⟨vs, n, _, c1, i + 1, HVL.out, rfl, by go_num, hlt, hnm, HRO.out.next HNO.out, HO3.out, hb.trans (hB3.mono hb.size)⟩
              case measure => simp [sliceLen, intOf]; omega
        · have hke : k = n := by omega
          subst hke
          have HNO : Hid (freeB (RDep ds) (vs.drop (i + 1)) (opp (vs.getD i 0)) = false) := Lib.hid (by rw [← HA.out, HFR.out, List.drop_eq_nil_of_le (by rw [HVL.out]; exact Nat.le_refl _)]; rfl)
          have ho3 := ho.below hbb
          go_wp2_with fail
          go_roundw
          case rel => exact ⟨vs, k, _, c1, i + 1, HVL.out, rfl, by go_num, hlt, hnm, HRO.out.next HNO.out, ho3, hb.trans (hbb.mono hb.size)⟩
          case measure => simp [sliceLen, intOf]; omega
    · have hie : i = n := by omega
      subst hie
      have xb := x0.next hb
      have z0 := xb.c0
      have z1 := xb.c1
      have HNFE := Lib.hid (HFIN.out vs HRO.out.lt (HRO.out.done (by rw [HVL.out]; exact Nat.le_refl _)))
      have HNO := Lib.hid (l03NormalL_any A A1 N c i c1 ds vs wo (h.below HB.out) (by omega) HR.out ho.rd (by omega) (fun p hp => in_getD HRO.out.lt p (by rw [HVL.out]; exact hp)))
      rw [HNFE.out] at HNO
      go_wp2_with fail
      refine HNO.out.mono ?_
      rintro e w4 ⟨A4, c4, rfl, o4, hb4⟩
      go_wp2_with fail
      go_ret
      have hlen : NF.length = i := by have := o4.len; rwa [ints_len] at this
      rw [hlen]
      exact ⟨A4, c4, rfl, o4.mono HB.out.size, HB.out.trans (hb4.mono HB.out.size)⟩
end Go.Proofs.YtdafdffmkjhhcaaDoor
