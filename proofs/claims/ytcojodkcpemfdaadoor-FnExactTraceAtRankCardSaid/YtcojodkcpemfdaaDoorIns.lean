/-
  slices.insertionSortCmpFunc at []int64: a segment comes into order, equals keep theirs.
-/
import Derived.Test.YtcojodkcpemfdaaDoorSymR
import Derived.Deep.RegionHeld3
namespace Go.Proofs.YtcojodkcpemfdaaDoor
open Go.RowKit
set_option linter.unusedVariables false
set_option linter.unusedSimpArgs false
set_option maxRecDepth 100000

theorem rot_swap (ds : List Nat) (q : Nat) (hq : q + 1 < ds.length) : (ds.set (q + 1) (ds.getD q 0)).set q (ds.getD (q + 1) 0) = rot ds q (q + 1) (q + 2) := by
  refine list_eq_getD _ _ ds.length (by rw [List.length_set, List.length_set]) (rot_len _ _ _ _) fun p hp => ?_
  rw [getD_set _ _ _ _ (by rw [List.length_set]; omega), getD_set _ _ _ _ (by omega), rot_at _ _ _ _ p hp]
  by_cases h1 : p = q
  · rw [if_pos h1]; congr 1; (repeat' split) <;> omega
  · rw [if_neg h1]
    by_cases h2 : p = q + 1
    · rw [if_pos h2]; congr 1; (repeat' split) <;> omega
    · rw [if_neg h2]; congr 1; (repeat' split) <;> omega
/-- All but the number at j are in order from a to i; those behind j are above it. -/
def InsAt (key : Nat → Nat) (ds : List Nat) (a i j : Nat) : Prop := (∀ p q, a ≤ p → p < q → q ≤ i → p ≠ j → q ≠ j → key (ds.getD p 0) ≤ key (ds.getD q 0)) ∧ ∀ q, j < q → q ≤ i → key (ds.getD j 0) < key (ds.getD q 0)
theorem ins_start {key : Nat → Nat} {ds : List Nat} {a i : Nat} (h : Srt key ds a i) : InsAt key ds a i i := ⟨fun p q h1 h2 h3 h4 h5 => h p q h1 h2 (by omega), fun q h1 h2 => by omega⟩
theorem ins_stop {key : Nat → Nat} {ds : List Nat} {a i j : Nat} (h : InsAt key ds a i j) (hj : a ≤ j) (hs : j = a ∨ ∃ q, j = q + 1 ∧ ¬ key (ds.getD j 0) < key (ds.getD q 0)) : Srt key ds a (i + 1) := by
  intro p q hp hpq hq
  by_cases e1 : p = j
  · subst e1; exact Nat.le_of_lt (h.2 q hpq (by omega))
  · by_cases e2 : q = j
    · subst e2
      rcases hs with hs | ⟨t, ht, hs⟩
      · omega
      · by_cases e3 : p = t
        · subst e3; omega
        · have := h.1 p t hp (by omega) (by omega) e1 (by omega)
          omega
    · exact h.1 p q hp hpq (by omega) e1 e2
theorem ins_next {key : Nat → Nat} {ds : List Nat} {a i q : Nat} (h : InsAt key ds a i (q + 1)) (hq : a ≤ q) (hi : q + 1 ≤ i) (hl : i < ds.length) (hk : key (ds.getD (q + 1) 0) < key (ds.getD q 0)) : InsAt key (rot ds q (q + 1) (q + 2)) a i q := by
  have at1 : ∀ p, p ≠ q → p ≠ q + 1 → p < ds.length → (rot ds q (q + 1) (q + 2)).getD p 0 = ds.getD p 0 := fun p h1 h2 h3 => by
    rw [rot_at _ _ _ _ _ h3]; congr 1; (repeat' split) <;> omega
  have at2 : (rot ds q (q + 1) (q + 2)).getD q 0 = ds.getD (q + 1) 0 := by rw [rot_at _ _ _ _ _ (by omega)]; congr 1; (repeat' split) <;> omega
  have at3 : (rot ds q (q + 1) (q + 2)).getD (q + 1) 0 = ds.getD q 0 := by rw [rot_at _ _ _ _ _ (by omega)]; congr 1; (repeat' split) <;> omega
  constructor
  · intro p r hp hpr hr h1 h2
    by_cases e1 : p = q + 1
    · rw [e1, at3, at1 r h2 (by omega) (by omega)]; exact h.1 q r hq (by omega) hr (by omega) (by omega)
    · by_cases e2 : r = q + 1
      · rw [e2, at3, at1 p h1 e1 (by omega)]; exact h.1 p q hp (by omega) (by omega) e1 (by omega)
      · rw [at1 p h1 e1 (by omega), at1 r h2 e2 (by omega)]; exact h.1 p r hp hpr hr e1 e2
  · intro r h1 h2
    rw [at2]
    by_cases e2 : r = q + 1
    · rw [e2, at3]; exact hk
    · rw [at1 r (by omega) e2 (by omega)]; exact h.2 r (by omega) h2
set_option maxHeartbeats 6400000 in
theorem ins_any (B g n c a b N : Nat) (ds : List Nat) (key : Nat → Nat) (cf : Nat → Nat → Int) (f : FuncId) (lb : Array Value) (w0 w : World) (h : Own 2 w B (some ⟨g, 0, none⟩) n c (ints ds)) (hw : w0.grownBy w (some g)) (hn : n ≤ 1048576) (hb : b ≤ n) (hab : a ≤ b)
    (eg : ∀ args w, (callFunc f args).run Tryd.prog w = .ok (.enter f args) w) (hcmp : CmpOk w0 g N key cf f lb) (hds : ∀ x, x ∈ ds → x < N) (hst : St key ds) :
    Calls Tryd.prog 218 #[.slice (some ⟨g, 0, none⟩) n c, .int .i64 (a : Int), .int .i64 (b : Int), .func (.func f) #[] lb] w (SymPost key w B g n c a b ds) := by
  have hlen : ds.length = n := by have := h.len; rw [ints_len] at this; exact this
  have HL := Lib.hid hlen
  have HC := Lib.hid hcmp
  have HD := Lib.hid hds
  have HST := Lib.hid hst
  have mixed : Tryd.prog.follows .mixedOrders = true := by kernel_rfl
  clear hlen hcmp hds hst
  go_enter Tryd.func218, Tryd.ntmps218
  go_wp2_with fail
  go_loopw [8] (fun q wr => ∃ (i : Nat) (es : List Nat), a + 1 ≤ i ∧ (i ≤ b ∨ i = a + 1) ∧ q = .int .i64 i ∧ Own 2 wr B (some ⟨g, 0, none⟩) n c (ints es) ∧ w.grownBy wr (some g) ∧ es.Perm ds ∧ St key es ∧ Same ds es a b ∧ Srt key es a i) (fun q _ => b - (intOf q).toNat)
  case atStart => exact ⟨a + 1, ds, Nat.le_refl _, .inr rfl, by go_num, h, World.grownBy.refl _ _, List.Perm.refl _, HST.out, Same.refl _ _ _, Srt.one _ _ _ _ (Nat.le_refl _)⟩
  case round =>
    obtain ⟨i, es, hi, hib, rfl, ho, hg, hp, hs, hsm, hsr⟩ := hrel
    have HIB := Lib.hid hib
    clear h hib
    by_cases hlt : i < b
    · have hin := ins_start hsr
      obtain ⟨wo, rfl⟩ : ∃ wo : World, wo = wr := ⟨_, rfl⟩
      have HSTART := Lib.hid (show es.Perm ds ∧ St key es ∧ Same ds es a b ∧ InsAt key es a i i from ⟨hp, hs, hsm, hin⟩)
      clear hp hs hsm hsr hin
      go_wp2_with fail
      go_loopw [9] (fun q wr => ∃ (j : Nat) (fs : List Nat), a ≤ j ∧ j ≤ i ∧ q = .int .i64 j ∧ Own 2 wr B (some ⟨g, 0, none⟩) n c (ints fs) ∧ w.grownBy wr (some g) ∧ fs.Perm ds ∧ St key fs ∧ Same ds fs a b ∧ InsAt key fs a i j) (fun q _ => (intOf q).toNat)
      case atStart => exact ⟨i, es, by omega, Nat.le_refl _, rfl, ho, hg, HSTART.out⟩
      case round =>
        clear ho hg
        obtain ⟨j, fs, hj, hji, rfl, ho, hg, hp, hs, hsm, hin⟩ := hrel
        have HP := Lib.hid hp
        have HS := Lib.hid hs
        have HSM := Lib.hid hsm
        have HIN := Lib.hid hin
        have hfl : fs.length = n := by rw [← hsm.1, HL.out]
        have HFL := Lib.hid hfl
        clear hp hs hsm hin hfl
        by_cases hja : a < j
        · obtain ⟨q, hq⟩ : ∃ q, j = q + 1 := ⟨j - 1, by omega⟩
          have HQ := Lib.hid hq
          obtain ⟨g1, e1, _, hcj, hfj, _⟩ := own_stored ho (k := j) (by omega)
          cases e1
          obtain ⟨g2, e2, _, hcq, hfq, _⟩ := own_stored ho (k := q) (by omega)
          cases e2
          have hxj : fs.getD j 0 < N := HD.out _ (HP.out.mem_iff.1 (getD_mem' fs j (by rw [HFL.out]; omega)))
          have hxq : fs.getD q 0 < N := HD.out _ (HP.out.mem_iff.1 (getD_mem' fs q (by rw [HFL.out]; omega)))
          have hc := fun k => HC.out.2 (fs.getD j 0) (fs.getD q 0) (wr.drewN k) hxj hxq (grown_drewN' (hw.trans hg) k)
          have hz := HC.out.1 (fs.getD j 0) (fs.getD q 0)
          obtain ⟨Z, hZ⟩ : ∃ Z, Z = cf (fs.getD j 0) (fs.getD q 0) := ⟨_, rfl⟩
          rw [← hZ] at hc hz
          have HZ := Lib.hid hz
          obtain ⟨X, hX⟩ : ∃ X, X = fs.getD j 0 := ⟨_, rfl⟩
          obtain ⟨Y, hY⟩ : ∃ Y, Y = fs.getD q 0 := ⟨_, rfl⟩
          rw [← hX] at hcj hc
          rw [← hY] at hcq hc
          have HX := Lib.hid hX
          have HY := Lib.hid hY
          have hqn : q < n := by omega
          have hjn : j < n := by omega
          have hne1 : ¬ j = q := by omega
          have hne2 : ¬ q = j := by omega
          have hq1 : q + 1 ≤ j := by omega
          have hq2 : j ≤ q + 1 := by omega
          have hz1 : (0 : Int) ≤ (j : Int) := Int.natCast_nonneg _
          have hz2 : (0 : Int) ≤ (q : Int) := Int.natCast_nonneg _
          have hz3 : (j : Int) < (n : Int) := Int.ofNat_lt.2 hjn
          have hz4 : (q : Int) < (n : Int) := Int.ofNat_lt.2 hqn
          have ht1 : ((j : Int)).toNat = j := by simp
          have ht2 : ((q : Int)).toNat = q := by simp
          clear hq hxj hxq hz hZ hX hY
          by_cases hzz : Z < 0
          · have hd : decide (Z < 0) = true := decide_eq_true hzz
            have hw2 : IntKind.i64.wrap ((j : Int) - 1) = (q : Int) := by rw [IntKind.wrap_i64]; omega
            go_wp2_with fail
            go_quiet_o (first | (go_at_fn f; refine Calls.quiet_of (hc _)))
            have hoD : Own 2 (wr.drewN nq) B (some ⟨g, 0, none⟩) n c (ints fs) := ho
            have HG2 : Hid (w.grownBy (wr.drewN nq) (some g)) := Lib.hid (grown_drewN' hg nq)
            clear hcj hcq hfj hfq hc hd ho hg hw2
            generalize wr.drewN nq = wq at hoD HG2 ⊢
            obtain ⟨g3, e3, _, cj2, fj2, hset⟩ := own_stored hoD (k := j) (by omega)
            cases e3
            obtain ⟨g4, e4, _, cq2, fq2, _⟩ := own_stored hoD (k := q) (by omega)
            cases e4
            have k1 := hset (fs.getD q 0)
            obtain ⟨g5, e5, _, _, _, hset2⟩ := own_stored k1 (k := q) (by omega)
            cases e5
            have k2 := hset2 (fs.getD j 0)
            have hrs : (fs.set j (fs.getD q 0)).set q (fs.getD j 0) = rot fs q (q + 1) (q + 2) := by rw [HQ.out]; exact rot_swap fs q (by rw [HFL.out]; omega)
            rw [hrs, ← HX.out, ← HY.out] at k2
            rw [← HX.out] at cj2
            rw [← HY.out] at cq2
            have HO2 := Lib.hid k2
            have hw2 : IntKind.i64.wrap ((j : Int) - 1) = (q : Int) := by rw [IntKind.wrap_i64]; omega
            clear k1 k2 hset hset2 hrs hoD
            go_wp2_with fail
            go_big_region_o
            clear hw2 hz1 hz2 hz3 hz4 ht1 ht2 cj2 cq2 fj2 fq2
            have hkey : key (fs.getD (q + 1) 0) < key (fs.getD q 0) := by
              have := HZ.out.1 hzz
              rw [HQ.out] at this; exact this
            have HFIN := Lib.hid (show (rot fs q (q + 1) (q + 2)).Perm ds ∧ St key (rot fs q (q + 1) (q + 2)) ∧ Same ds (rot fs q (q + 1) (q + 2)) a b ∧ InsAt key (rot fs q (q + 1) (q + 2)) a i q from
              ⟨(rot_perm _ _ _ _ (by rw [HFL.out]; omega) (by omega) (by omega)).trans HP.out,
               rot_st HS.out (fun p r h1 h2 h3 h4 => by
                 have e1 : p = q := by omega
                 have e2 : r = q + 1 := by omega
                 rw [e1, e2]; exact hkey) (by rw [HFL.out]; omega) (by omega) (by omega),
               HSM.out.trans ((rot_same _ _ _ _ (by rw [HFL.out]; omega) (by omega) (by omega)).wide (by omega) (by omega)),
               ins_next (by have := HIN.out; rw [HQ.out] at this; exact this) (by omega) (by omega) (by rw [HFL.out]; omega) hkey⟩)
            clear hkey
            go_wp2_with fail
            go_roundw
            case rel => exact ⟨q, rot fs q (q + 1) (q + 2), by omega, by omega, by congr 1; omega, HO2.out, grown_drew (grown_set (grown_set HG2.out j _) q _), HFIN.out⟩
            case measure => simp [intOf]; omega
          · have hd : decide (Z < 0) = false := decide_eq_false hzz
            have HSTOP := Lib.hid (ins_stop HIN.out hj (.inr ⟨q, HQ.out, fun h => by have := HZ.out.2 h; omega⟩))
            have hw2 : IntKind.i64.wrap ((j : Int) - 1) = (q : Int) := by rw [IntKind.wrap_i64]; omega
            go_wp2_with fail
            go_quiet_o (first | (go_at_fn f; refine Calls.quiet_of (hc _)))
            have HG2 : Hid (w.grownBy (wr.drewN nq) (some g)) := Lib.hid (grown_drewN' hg nq)
            clear hw2 hz1 hz2 hz3 hz4 ht1 ht2 hcj hcq hfj hfq hc hd hg
            go_wp2_with fail
            go_roundw
            case rel => exact ⟨i + 1, fs, by omega, .inl (by omega), by go_num, ho, HG2.out, HP.out, HS.out, HSM.out, HSTOP.out⟩
            case measure => simp [intOf]; omega
        · obtain rfl : j = a := by omega
          have HSTOP := Lib.hid (ins_stop HIN.out hj (.inl rfl))
          go_wp2_with fail
          refine wp_region_held_drew (S := (fun ww => Below wr.heap.size wr ww)) (by kernel_rfl) ((Below.refl _ _).drew) (fun hHeld => ?_)
          refine wpAnyH_take (i := 0) (oi := ⟨some 18, _, _, _, _, _⟩) (v := ?_) rfl (by kernel_rfl) (by kernel_rfl) (by kernel_rfl) (fun _ _ _ h => h) (Or.inl ⟨by kernel_rfl, ?_⟩) (by assumption) ?_
          rotate_left
          · (intro w9 hS9; (try dsimp only at hS9); go_simp; try with_reducible rfl)
          try simp only [Act.put, List.setIfInBounds_toArray, List.set_cons_zero, List.set_cons_succ]
          refine wpAnyH_take (i := 1) (oi := ⟨some 19, _, _, _, _, _⟩) (v := ?_) rfl (by kernel_rfl) (by kernel_rfl) (by kernel_rfl) (fun _ _ _ h => h) (Or.inl ⟨by kernel_rfl, ?_⟩) (by assumption) ?_
          rotate_left
          · (intro w9 hS9; (try dsimp only at hS9); go_simp; try with_reducible rfl)
          try simp only [Act.put, List.setIfInBounds_toArray, List.set_cons_zero, List.set_cons_succ]
          refine wpAnyH_take (i := 2) (oi := ⟨some 20, _, _, _, _, _⟩) (v := ?_) rfl (by kernel_rfl) (by kernel_rfl) (by kernel_rfl) (fun _ _ _ h => h) (Or.inl ⟨by kernel_rfl, ?_⟩) (by assumption) ?_
          rotate_left
          · (intro w9 hS9; (try dsimp only at hS9); go_simp; try with_reducible rfl)
          try simp only [Act.put, List.setIfInBounds_toArray, List.set_cons_zero, List.set_cons_succ]
          refine wpAnyH_take (i := 3) (oi := ⟨some 21, _, _, _, _, _⟩) (v := ?_) rfl (by kernel_rfl) (by kernel_rfl) (by kernel_rfl) (fun _ _ _ h => h) (Or.inl ⟨by kernel_rfl, ?_⟩) (by assumption) ?_
          rotate_left
          · (intro w9 hS9; (try dsimp only at hS9); go_simp; try with_reducible rfl)
          try simp only [Act.put, List.setIfInBounds_toArray, List.set_cons_zero, List.set_cons_succ]
          refine wpAnyH_take (i := 4) (oi := ⟨some 22, _, _, _, _, _⟩) (v := undef) rfl (by kernel_rfl) (by kernel_rfl) (by kernel_rfl) (fun _ _ _ h => h) (Or.inr ⟨by kernel_rfl, rfl⟩) (by assumption) ?_
          try simp only [Act.put, List.setIfInBounds_toArray, List.set_cons_zero, List.set_cons_succ]
          refine wpAnyH_take (i := 5) (oi := ⟨some 23, _, _, _, _, _⟩) (v := undef) rfl (by kernel_rfl) (by kernel_rfl) (by kernel_rfl) (fun _ _ _ h => h) (Or.inr ⟨by kernel_rfl, rfl⟩) (by assumption) ?_
          try simp only [Act.put, List.setIfInBounds_toArray, List.set_cons_zero, List.set_cons_succ]
          refine wpAnyH_take (i := 6) (oi := ⟨some 24, _, _, _, _, _⟩) (v := undef) rfl (by kernel_rfl) (by kernel_rfl) (by kernel_rfl) (fun _ _ _ h => h) (Or.inr ⟨by kernel_rfl, rfl⟩) (by assumption) ?_
          try simp only [Act.put, List.setIfInBounds_toArray, List.set_cons_zero, List.set_cons_succ]
          refine wpAnyH_take (i := 7) (oi := ⟨some 25, _, _, _, _, _⟩) (v := undef) rfl (by kernel_rfl) (by kernel_rfl) (by kernel_rfl) (fun _ _ _ h => h) (Or.inr ⟨by kernel_rfl, rfl⟩) (by assumption) ?_
          try simp only [Act.put, List.setIfInBounds_toArray, List.set_cons_zero, List.set_cons_succ]
          refine wpAnyH_take (i := 8) (oi := ⟨some 26, _, _, _, _, _⟩) (v := undef) rfl (by kernel_rfl) (by kernel_rfl) (by kernel_rfl) (fun _ _ _ h => h) (Or.inr ⟨by kernel_rfl, rfl⟩) (by assumption) ?_
          try simp only [Act.put, List.setIfInBounds_toArray, List.set_cons_zero, List.set_cons_succ]
          refine wpAnyH_take (i := 9) (oi := ⟨some 27, _, _, _, _, _⟩) (v := undef) rfl (by kernel_rfl) (by kernel_rfl) (by kernel_rfl) (fun _ _ _ h => h) (Or.inr ⟨by kernel_rfl, rfl⟩) (by assumption) ?_
          try simp only [Act.put, List.setIfInBounds_toArray, List.set_cons_zero, List.set_cons_succ]
          refine wpAnyH_take (i := 10) (oi := ⟨some 28, _, _, _, _, _⟩) (v := undef) rfl (by kernel_rfl) (by kernel_rfl) (by kernel_rfl) (fun _ _ _ h => h) (Or.inr ⟨by kernel_rfl, rfl⟩) (by assumption) ?_
          try simp only [Act.put, List.setIfInBounds_toArray, List.set_cons_zero, List.set_cons_succ]
          refine wpAnyH_take (i := 11) (oi := ⟨some 29, _, _, _, _, _⟩) (v := undef) rfl (by kernel_rfl) (by kernel_rfl) (by kernel_rfl) (fun _ _ _ h => h) (Or.inr ⟨by kernel_rfl, rfl⟩) (by assumption) ?_
          try simp only [Act.put, List.setIfInBounds_toArray, List.set_cons_zero, List.set_cons_succ]
          refine wpAnyH_take (i := 12) (oi := ⟨some 30, _, _, _, _, _⟩) (v := undef) rfl (by kernel_rfl) (by kernel_rfl) (by kernel_rfl) (fun _ _ _ h => h) (Or.inr ⟨by kernel_rfl, rfl⟩) (by assumption) ?_
          try simp only [Act.put, List.setIfInBounds_toArray, List.set_cons_zero, List.set_cons_succ]
          refine wpAnyH_take (i := 13) (oi := ⟨some 31, _, _, _, _, _⟩) (v := undef) rfl (by kernel_rfl) (by kernel_rfl) (by kernel_rfl) (fun _ _ _ h => h) (Or.inr ⟨by kernel_rfl, rfl⟩) (by assumption) ?_
          try simp only [Act.put, List.setIfInBounds_toArray, List.set_cons_zero, List.set_cons_succ]
          refine wpAnyH_take (i := 14) (oi := ⟨some 32, _, _, _, _, _⟩) (v := undef) rfl (by kernel_rfl) (by kernel_rfl) (by kernel_rfl) (fun _ _ _ h => h) (Or.inr ⟨by kernel_rfl, rfl⟩) (by assumption) ?_
          try simp only [Act.put, List.setIfInBounds_toArray, List.set_cons_zero, List.set_cons_succ]
          refine wpAnyH_take (i := 15) (oi := ⟨some 33, _, _, _, _, _⟩) (v := undef) rfl (by kernel_rfl) (by kernel_rfl) (by kernel_rfl) (fun _ _ _ h => h) (Or.inr ⟨by kernel_rfl, rfl⟩) (by assumption) ?_
          try simp only [Act.put, List.setIfInBounds_toArray, List.set_cons_zero, List.set_cons_succ]
          refine wpAnyH_take (i := 16) (oi := ⟨some 34, _, _, _, _, _⟩) (v := ?_) rfl (by kernel_rfl) (by kernel_rfl) (by kernel_rfl) (fun _ _ _ h => h) (Or.inl ⟨by kernel_rfl, ?_⟩) (by assumption) ?_
          rotate_left
          · (intro w9 hS9; (try dsimp only at hS9); go_simp; try with_reducible rfl)
          try simp only [Act.put, List.setIfInBounds_toArray, List.set_cons_zero, List.set_cons_succ]
          refine wpAnyH_done (by kernel_rfl) ?_ _
          have HG2 : Hid (w.grownBy wr.drew (some g)) := Lib.hid (grown_drew hg)
          clear hg
          go_wp2_with fail
          go_roundw
          case rel => exact ⟨i + 1, fs, by omega, .inl (by omega), by go_num, ho, HG2.out, HP.out, HS.out, HSM.out, HSTOP.out⟩
          case measure => simp [intOf]; omega
    · have hfin : Srt key es a b := hsr.sub (Nat.le_refl _) (by omega)
      have HFIN := Lib.hid (show es.Perm ds ∧ St key es ∧ Same ds es a b ∧ Srt key es a b from ⟨hp, hs, hsm, hfin⟩)
      clear hp hs hsm hsr hfin
      go_wp2_with fail
      exact bodyPost_end (results_none Tryd.results218 _ _ _) rfl ⟨rfl, es, ho, hg, HFIN.out⟩
end Go.Proofs.YtcojodkcpemfdaaDoor
