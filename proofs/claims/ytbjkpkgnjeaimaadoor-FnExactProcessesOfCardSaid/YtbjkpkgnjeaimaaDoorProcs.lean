/-
  ProcessesOf: both sides.
-/
import Derived.Test.YtbjkpkgnjeaimaaDoorAlProc
import Derived.Test.YtbjkpkgnjeaimaaDoorParts
import Derived.Test.YtbjkpkgnjeaimaaDoorSteps
import Derived.Conc.MuLone
import Derived.Lib.SliceRun
import Derived.BigFrame
namespace Go.Proofs.YtbjkpkgnjeaimaaDoor
open Go.RowKit
set_option linter.unusedVariables false
set_option maxRecDepth 100000

def procAns (L : Int) (xs : List Int) : List Int × Int :=
  if alphB L xs = true then (if (procM (xs.map Int.toNat)).length ≤ 16 then (ints (procM (xs.map Int.toNat)), 0) else ([], 3)) else ([], 1)
theorem procAns_small (L : Int) (xs : List Int) : (procAns L xs).1.length ≤ 16 := by
  unfold procAns
  split
  · split
    · rename_i h
      show (ints _).length ≤ 16
      rw [ints_len]; exact h
    · exact Nat.zero_le _
  · exact Nat.zero_le _
theorem procAns_no (L : Int) (xs : List Int) (h : alphB L xs = false) : procAns L xs = ([], 1) := by unfold procAns; rw [if_neg (by rw [h]; decide)]
theorem procAns_big (n : Nat) (rs : List Nat) (h : alphB (n : Int) (ints rs) = true) (h2 : 16 < (procM rs).length) : procAns (n : Int) (ints rs) = ([], 3) := by unfold procAns; rw [if_pos h, ints_toNat, if_neg (by omega)]
theorem procAns_yes (n : Nat) (rs : List Nat) (h : alphB (n : Int) (ints rs) = true) (h2 : (procM rs).length ≤ 16) : procAns (n : Int) (ints rs) = (ints (procM rs), 0) := by unfold procAns; rw [if_pos h, ints_toNat, if_pos h2]
theorem max_nozero (rs : List Nat) (n : Nat) (hn : rs.length = n) (h0 : 0 < n) (h24 : n ≤ 24) : ∀ s, s ∈ maxM rs → s ≠ 0 := by
  rintro s hs rfl
  unfold maxM at hs
  have h1 := (List.mem_filter.1 hs).2
  unfold maxC at h1
  rw [beq_iff_eq, hn] at h1
  have e : bitsOf 0 = [] := by decide
  rw [e] at h1
  have e2 : comM (mutM rs) n [] = 2 ^ n - 1 := rfl
  have hp := p24 n h24
  rw [e2, dif_zero _ _ (by omega) (by omega)] at h1
  have := h1 0 (by rw [Nat.testBit_two_pow_sub_one]; simpa using h0)
  simp at this
theorem max_filter (rs : List Nat) (h : ∀ s, s ∈ maxM rs → s ≠ 0) : (maxM rs).filter (fun m => decide (m ≠ 0)) = maxM rs := by
  rw [List.filter_eq_self]
  intro a ha
  simpa using h a ha
theorem isZero_any (m : Nat) (w : World) : Calls Tryd.prog 83 #[.int .i64 (m : Int)] w fun e w' => e = .returned (.bool ((m : Int) == 0)) ∧ w = w' := by
  go_enter Tryd.func83, Tryd.ntmps83
  go_wp2
  go_ret
  exact ⟨rfl, rfl⟩
set_option maxHeartbeats 800000 in
theorem indexFunc_none (A : Option Addr) (n c : Nat) (fs : List Nat) (w : World) (h : Rd w A n (ints fs)) (hn : n ≤ 1048576) (hz : ∀ s, s ∈ fs → s ≠ 0) :
    Calls Tryd.prog 105 #[.slice A n c, .func (.func 83) #[] #[]] w fun e w' => e = .returned (.int .i64 (-1)) ∧ w = w' := by
  have hlen : fs.length = n := by have := h.1; rw [ints_len] at this; exact this
  have HL := Lib.hid hlen
  clear hlen
  have eg : ∀ args w, (callFunc 83 args).run Tryd.prog w = .ok (.enter 83 args) w := fun args w => Go.MuLone.run_callFunc_enter (P := Tryd.prog) Tryd.func83 (by kernel_rfl) rfl args w
  go_enter Tryd.func105, Tryd.ntmps105
  go_wp2
  go_loop [8] (fun q => ∃ k : Nat, k ≤ n ∧ q = .int .i64 k) (fun q => n - (intOf q).toNat)
  case atStart => exact ⟨0, Nat.zero_le _, rfl⟩
  case round =>
    obtain ⟨k, hk, rfl⟩ := hrel
    by_cases hlt : k < n
    · obtain ⟨b, off, x, rfl, hbs, hx, hcx⟩ := h.at_ hlt
      have hx2 := ints_getD fs k (by rw [HL.out]; exact hlt)
      rw [hx2] at hx
      injection hx with hx
      subst hx
      have hmem : fs.getD k 0 ∈ fs := by rw [List.getD_eq_getElem?_getD, List.getElem?_eq_getElem (by rw [HL.out]; exact hlt)]; exact List.getElem_mem _
      have hnz := hz _ hmem
      obtain ⟨D, hD⟩ : ∃ D, D = fs.getD k 0 := ⟨_, rfl⟩
      rw [← hD] at hcx hnz
      have HZ : Hid (((D : Int) == 0) = false) := Lib.hid (by simp; omega)
      clear hx2 hD hmem hnz
      go_wp2_with fail
      refine (isZero_any D _).mono ?_
      rintro e w' ⟨rfl, rfl⟩
      rw [HZ.out]
      go_wp2
      go_round
      case rel => exact ⟨k + 1, by omega, by go_num⟩
      case measure => simp [intOf]; omega
    · obtain rfl : k = n := by omega
      go_wp2
      go_ret
      exact ⟨rfl, rfl⟩
set_option maxHeartbeats 800000 in
theorem indexFunc_first (A : Option Addr) (c : Nat) (w : World) (h : Rd w A 1 (ints [0])) :
    Calls Tryd.prog 105 #[.slice A 1 c, .func (.func 83) #[] #[]] w fun e w' => e = .returned (.int .i64 0) ∧ w = w' := by
  obtain ⟨b, off, x, rfl, hbs, hx, hcx⟩ := h.at_ (k := 0) (by decide)
  have hx0 : (ints [0])[0]? = some 0 := rfl
  rw [hx0] at hx
  injection hx with hx
  subst hx
  have hcx' : w.cell? ⟨b, off, none⟩ = some (.int .i64 0) := by simpa using hcx
  have hz : ∀ ww : World, Calls Tryd.prog 83 #[.int .i64 0] ww fun e w' => e = .returned (.bool true) ∧ ww = w' := fun ww => isZero_any 0 ww
  clear hcx
  have eg : ∀ args w, (callFunc 83 args).run Tryd.prog w = .ok (.enter 83 args) w := fun args w => Go.MuLone.run_callFunc_enter (P := Tryd.prog) Tryd.func83 (by kernel_rfl) rfl args w
  go_enter Tryd.func105, Tryd.ntmps105
  go_wp2
  go_loop [8] (fun q => q = .int .i64 0) (fun q => 1)
  case atStart => rfl
  case round =>
    subst hrel
    go_wp2_with fail
    refine (hz _).mono ?_
    rintro e w' ⟨rfl, rfl⟩
    go_wp2
    go_ret
    exact ⟨rfl, rfl⟩
theorem deleteFunc_none (A : Option Addr) (n c : Nat) (fs : List Nat) (w : World) (h : Rd w A n (ints fs)) (hn : n ≤ 1048576) (hz : ∀ s, s ∈ fs → s ≠ 0) :
    Calls Tryd.prog 82 #[.slice A n c, .func (.func 83) #[] #[]] w fun e w' => e = .returned (.slice A n c) ∧ w = w' := by
  go_enter Tryd.func82, Tryd.ntmps82
  go_wp2_with fail
  refine (indexFunc_none _ _ _ fs _ h hn hz).mono ?_
  rintro e w' ⟨rfl, rfl⟩
  go_wp2
  go_ret
  exact ⟨rfl, rfl⟩
set_option maxHeartbeats 800000 in
theorem deleteFunc_first (E B : Nat) (A : Option Addr) (c : Nat) (w : World) (h : Own E w B A 1 c (ints [0])) (hc : 1 ≤ c) :
    Calls Tryd.prog 82 #[.slice A 1 c, .func (.func 83) #[] #[]] w fun e w' => (∃ A', e = .returned (.slice A' 0 c)) ∧ Below B w w' := by
  obtain ⟨g, rfl, hgB, hglt⟩ := h.form (by decide)
  have hcell := h.cell (k := 0) (x := 0) rfl
  have hfr := h.frozen 0
  have hrd := h.rd
  have zs : ∀ w : World, (zeroValue 57).run Tryd.prog w = .ok (.int .i64 0) w := fun w => by kernel_rfl
  have hc1 : ∀ j, j < 1 → (w.cell? ⟨g, 0 + j, none⟩).isSome = true := fun j hj => by
    have e : j = 0 := by omega
    subst e
    rw [Nat.add_zero, hcell]; rfl
  have hf1 : ∀ j, j < 1 → w.frozen? ⟨g, 0 + j, none⟩ = false := fun j hj => by
    have e : j = 0 := by omega
    subst e
    exact hfr
  have hcl : ∀ ty, (Builtin.clear_ #[50] ty #[.slice (some ⟨g, 0, none⟩) 1 c]).run Tryd.prog w = .ok (.tuple #[]) (w.setCells g 0 (List.replicate 1 (.int .i64 0))) :=
    fun ty => Lib.run_clear_slice w 50 57 ty (.int .i64 0) Tryd.underlying50 zs rfl rfl g 0 1 c (by decide) hc1 hf1
  have HBW : Hid (Below B w (w.setCells g 0 (List.replicate 1 (.int .i64 0)))) := Lib.hid (by
    have e : w.setCells g 0 (List.replicate 1 (.int .i64 0)) = w.setCell ⟨g, 0, none⟩ (.int .i64 0) := by first | rfl | simp [World.setCells]
    rw [e]; exact (Below.refl _ _).setCell (p := ⟨g, 0, none⟩) hgB _)
  clear zs hc1 hf1
  go_enter Tryd.func82, Tryd.ntmps82
  go_wp2_with fail
  refine (indexFunc_first _ _ _ hrd).mono ?_
  rintro e w' ⟨rfl, rfl⟩
  go_wp2_with fail
  go_loop [5, 6] (fun i q => i = .int .i64 0 ∧ q = .int .i64 1) (fun i q => 1)
  case atStart => exact ⟨rfl, rfl⟩
  case round =>
    obtain ⟨rfl, rfl⟩ := hrel
    go_wp2_with (simp only [hcl])
    go_ret
    exact ⟨⟨_, rfl⟩, HBW.out⟩
set_option maxHeartbeats 1600000 in
theorem implProcessesOf (L : Int) (A : Option Addr) (n c : Nat) (xs : List Int) (w : World) (h : Rd w A n xs) (hwf : Wf xs) (hL1 : -9223372036854775808 ≤ L) (hL2 : L ≤ 9223372036854775807) (hn : n ≤ 9223372036854775807) (hT : Tab w) :
    Calls Tryd.prog 47 #[.agg #[.int .i64 L, .slice A n c]] w (LsPost w (procAns L xs).1.length (procAns L xs).1 (procAns L xs).2) := by
  have HB := Lib.hid (below1 w (.cells #[.int .i64 L, .slice A n c] 27))
  have hh := h.below HB.out
  have hT1 := hT.below HB.out
  cases ha : alphB L xs
  · rw [procAns_no L xs ha]
    have HA := Lib.hid ha
    clear ha
    go_enter Tryd.func47, Tryd.ntmps47
    go_wp2_with fail
    refine (dependenceOf_no L _ _ _ xs _ hh hwf hL1 hL2 hn HA.out hT1).mono ?_
    rintro e w1 ⟨rfl, hb⟩
    go_wp2_with fail
    go_ret2
    exact LsPost.of_ans (ans_no 1 (HB.out.trans (hb.mono HB.out.size)))
  · obtain ⟨rs, rfl, rfl, h8, hr, hrel, hl, hd, _⟩ := alphB_nats L xs n h.1 ha
    have h24 : n ≤ 24 := by omega
    have hdep := (depB_iff rs n hl hr).1 hd
    have hmf : maxF rs = maxM rs := by unfold maxF; rw [if_pos (cliq_small rs (by omega))]
    have HMF := Lib.hid hmf
    have hpe := proc_eq rs n hl h8 hr hdep
    by_cases h0 : n = 0
    · subst h0
      obtain rfl : rs = [] := List.length_eq_zero_iff.1 hl
      have hm1 : maxM [] = [0] := by decide
      have HM1 := Lib.hid hm1
      rw [procAns_yes 0 [] ha (by decide)]
      have hp0 : procM [] = [] := by decide
      rw [hp0]
      clear ha hl hdep hmf hpe hm1 hp0
      go_enter Tryd.func47, Tryd.ntmps47
      go_wp2_with fail
      refine (dependenceOf_yes _ _ _ _ [] _ hh hwf h8 rfl hr hrel hd hT1).mono ?_
      rintro e w1 ⟨A1, c1, rfl, ho1, hb1⟩
      have HB1 := Lib.hid (HB.out.trans (hb1.mono HB.out.size))
      have hT2 := hT1.below hb1
      go_wp2_with fail
      refine (maximalCliques_any _ _ _ [] _ ho1.rd h24 hr hT2).mono ?_
      rw [HMF.out, HM1.out]
      rintro e w2 (⟨_, A2, c2, rfl, ho2, hb2⟩ | ⟨h9, _⟩)
      · have HB2 := Lib.hid (HB1.out.trans (hb2.mono HB1.out.size))
        have ho2' : Own 57 w2 w.heap.size A2 1 c2 (ints [0]) := ho2.mono HB1.out.size
        have hc2 : 1 ≤ c2 := by
          rcases ho2'.2 with ⟨_, h9⟩ | ⟨g, cap, cur, hv, _, _, hle, _⟩
          · cases h9
          · injection hv with _ _ hv
            subst hv
            omega
        go_wp2_with fail
        refine (deleteFunc_first _ _ _ _ _ ho2' hc2).mono ?_
        rintro e w3 ⟨⟨A3, rfl⟩, hb3⟩
        have hb3' := HB2.out.trans hb3
        go_wp2_with fail
        refine (masksOf_any A3 0 c2 (ints []) _ (Rd.nil _ _) (by omega)).mono ?_
        rintro e w4 ⟨A4, c4, rfl, ho4, hb4⟩
        go_wp2_with fail
        go_ret2
        exact LsPost.of_ans (ans_yes rfl (ho4.mono hb3'.size) (hb3'.trans (hb4.mono hb3'.size)))
      · exact absurd h9 (by decide)
    · have hnz := max_nozero rs n hl (by omega) h24
      rw [max_filter rs hnz] at hpe
      have HPE := Lib.hid hpe
      have hcl := procM_len rs (by omega)
      have HANS : Hid (procAns (n : Int) (ints rs) = if (procM rs).length ≤ 16 then (ints (procM rs), 0) else ([], 3)) := Lib.hid (by
        split
        · exact procAns_yes n rs ha (by assumption)
        · exact procAns_big n rs ha (by omega))
      rw [hpe] at hnz
      obtain ⟨an, han⟩ : ∃ an, an = procAns (n : Int) (ints rs) := ⟨_, rfl⟩
      rw [← han]
      have HAN : Hid (an = if (procM rs).length ≤ 16 then (ints (procM rs), 0) else ([], 3)) := Lib.hid (by rw [han]; exact HANS.out)
      clear han HANS
      clear ha hl hdep hmf hpe h0
      go_enter Tryd.func47, Tryd.ntmps47
      go_wp2_with fail
      refine (dependenceOf_yes _ _ _ _ rs _ hh hwf h8 rfl hr hrel hd hT1).mono ?_
      rintro e w1 ⟨A1, c1, rfl, ho1, hb1⟩
      have HB1 := Lib.hid (HB.out.trans (hb1.mono HB.out.size))
      have hT2 := hT1.below hb1
      go_wp2_with fail
      refine (maximalCliques_any _ _ _ rs _ ho1.rd h24 hr hT2).mono ?_
      rw [HMF.out, HPE.out]
      rintro e w2 (⟨_, A2, c2, rfl, ho2, hb2⟩ | ⟨h9, _⟩)
      · have HB2 := Lib.hid (HB1.out.trans (hb2.mono HB1.out.size))
        have hK3 : (procM rs).length ≤ 1048576 := by omega
        obtain ⟨fs, hfs⟩ : ∃ fs, fs = procM rs := ⟨_, rfl⟩
        have HFS := Lib.hid hfs
        rw [← hfs] at ho2 hnz hK3 hcl ⊢
        obtain ⟨K, hK⟩ : ∃ K, K = fs.length := ⟨_, rfl⟩
        have HK := Lib.hid hK
        rw [← hK] at ho2 hK3 hcl ⊢
        clear hfs hK
        go_wp2_with fail
        refine (deleteFunc_none _ _ _ fs _ ho2.rd hK3 hnz).mono ?_
        rintro e w' ⟨rfl, rfl⟩
        by_cases h16 : K ≤ 16
        · go_wp2_with fail
          refine (masksOf_any _ _ _ _ _ ho2.rd hK3).mono ?_
          rintro e w4 ⟨A4, c4, rfl, ho4, hb4⟩
          go_wp2_with fail
          go_ret2
          show LsPost w an.1.length an.1 an.2 _ _
          rw [HAN.out, if_pos (by rw [← HFS.out, ← HK.out]; exact h16), ← HFS.out]
          exact LsPost.of_ans (ans_yes (by rw [ints_len, HK.out]) (ho4.mono HB2.out.size) (HB2.out.trans (hb4.mono HB2.out.size)))
        · go_wp2_with fail
          go_ret2
          show LsPost w an.1.length an.1 an.2 _ _
          rw [HAN.out, if_neg (by rw [← HFS.out, ← HK.out]; exact h16)]
          exact LsPost.of_ans (ans_no 3 HB2.out)
      · omega
/-- What the letters of m up to k have in common. -/
def comTo (rs : List Nat) (n m : Nat) : Nat → Nat
  | 0 => 2 ^ n - 1
  | k + 1 => if m.testBit k = true then comTo rs n m k &&& rs.getD k 0 else comTo rs n m k
theorem comTo_lt (rs : List Nat) (n m k : Nat) : comTo rs n m k ≤ 2 ^ n - 1 := by
  induction k with
  | zero => exact Nat.le_refl _
  | succ k ih =>
    unfold comTo
    split
    · exact Nat.le_trans Nat.and_le_left ih
    · exact ih
theorem comTo_bit (rs : List Nat) (n m k b : Nat) : (comTo rs n m k).testBit b = true ↔ b < n ∧ ∀ q, q < k → m.testBit q = true → (rs.getD q 0).testBit b = true := by
  induction k with
  | zero =>
    unfold comTo
    rw [Nat.testBit_two_pow_sub_one]
    simp
  | succ k ih =>
    unfold comTo
    split
    · rename_i h
      rw [Nat.testBit_and, Bool.and_eq_true, ih]
      constructor
      · rintro ⟨⟨h1, h2⟩, h3⟩
        refine ⟨h1, fun q hq hm => ?_⟩
        by_cases e : q = k
        · subst e; exact h3
        · exact h2 q (by omega) hm
      · rintro ⟨h1, h2⟩
        exact ⟨⟨h1, fun q hq hm => h2 q (by omega) hm⟩, h2 k (by omega) h⟩
    · rename_i h
      rw [ih]
      constructor
      · rintro ⟨h1, h2⟩
        refine ⟨h1, fun q hq hm => ?_⟩
        by_cases e : q = k
        · subst e; exact absurd hm h
        · exact h2 q (by omega) hm
      · rintro ⟨h1, h2⟩; exact ⟨h1, fun q hq hm => h2 q (by omega) hm⟩
theorem comTo_end (rs : List Nat) (n m : Nat) (h24 : n ≤ 24) (hm : m < 2 ^ n) : comTo rs n m n = comM rs n (bitsOf m) := by
  have hp0 := p2_pos n
  have h1 := comTo_lt rs n m n
  have h2 := comM_le rs n (bitsOf m)
  refine nat_ext (n := n) (by omega) (by omega) fun b hb => ?_
  rw [comTo_bit, comM_bit]
  constructor
  · rintro ⟨h3, h4⟩
    exact ⟨h3, fun k hk => h4 k (bit_lt hm ((bitsOf_mem m k).1 hk).2) ((bitsOf_mem m k).1 hk).2⟩
  · rintro ⟨h3, h4⟩
    exact ⟨h3, fun q hq hmq => h4 q ((bitsOf_mem m q).2 ⟨by omega, hmq⟩)⟩
def procTo (rs : List Nat) (n m : Nat) : List Nat := (List.range m).filter (procB rs n)
theorem procTo_yes (rs : List Nat) (n m : Nat) (h : procB rs n m = true) : procTo rs n (m + 1) = procTo rs n m ++ [m] := by
  unfold procTo; rw [List.range_succ, List.filter_append]; simp [h]
theorem procTo_no (rs : List Nat) (n m : Nat) (h : procB rs n m = false) : procTo rs n (m + 1) = procTo rs n m := by
  unfold procTo; rw [List.range_succ, List.filter_append]; simp [h]
theorem procTo_len (rs : List Nat) (n m : Nat) : (procTo rs n m).length ≤ m := by
  have := List.length_filter_le (procB rs n) (List.range m)
  rw [List.length_range] at this; exact this
set_option maxHeartbeats 3200000 in
theorem specProcessesOf (L : Int) (A : Option Addr) (n c : Nat) (xs : List Int) (w : World) (h : Rd w A n xs) (hwf : Wf xs) (hL1 : -9223372036854775808 ≤ L) (hL2 : L ≤ 9223372036854775807) (hn : n ≤ 9223372036854775807) :
    Calls Tryd.prog 46 #[.agg #[.int .i64 L, .slice A n c]] w (LsPost w (procAns L xs).1.length (procAns L xs).1 (procAns L xs).2) := by
  have HB := Lib.hid (below1 w (.cells #[.int .i64 L, .slice A n c] 27))
  have hh := h.below HB.out
  have x0 := box_new 27 w L A n c
  cases ha : alphB L xs
  · rw [procAns_no L xs ha]
    have HA := Lib.hid ha
    clear ha
    go_enter Tryd.func46, Tryd.ntmps46
    go_wp2_with fail
    refine (l02Is_any L _ _ _ xs _ hh hn).mono ?_
    rintro e w1 ⟨rfl, hb⟩
    rw [HA.out]
    go_wp2_with fail
    go_ret2
    exact LsPost.of_ans (ans_no 1 (HB.out.trans (hb.mono HB.out.size)))
  · obtain ⟨rs, rfl, rfl, h8, hr, hrel, hl, hd, _⟩ := alphB_nats L xs n h.1 ha
    have HANS : Hid (procAns (n : Int) (ints rs) = if (procM rs).length ≤ 16 then (ints (procM rs), 0) else ([], 3)) := Lib.hid (by
      split
      · exact procAns_yes n rs ha (by assumption)
      · exact procAns_big n rs ha (by omega))
    have h24 : n ≤ 24 := by omega
    have hn62 : n ≤ 62 := by omega
    have HA := Lib.hid ha
    have HL := Lib.hid hl
    have HP : Hid (procTo rs n (2 ^ n) = procM rs) := Lib.hid (by unfold procTo procM; rw [hl])
    have HCE : Hid (∀ m, m < 2 ^ n → comTo rs n m n = comM rs n (bitsOf m)) := Lib.hid (fun m hm => comTo_end rs n m h24 hm)
    have hp8 := p8 n h8
    have hp0 := p2_pos n
    obtain ⟨F, hF⟩ : ∃ F, F = 2 ^ n - 1 := ⟨_, rfl⟩
    have hFP : Hid (F + 1 = 2 ^ n) := Lib.hid (by omega)
    have hF8 : F ≤ 255 := by omega
    have HCL : Hid (∀ m k, comTo rs n m k ≤ F) := Lib.hid (fun m k => by rw [hF]; exact comTo_lt rs n m k)
    have HC0 : Hid (∀ m, comTo rs n m 0 = F) := Lib.hid (fun m => hF.symm)
    have hfull : ∀ ww : World, Calls Tryd.prog 68 #[.int .i64 (n : Int)] ww fun e w' => e = .returned (.int .i64 (F : Int)) ∧ ww = w' := by rw [hF]; exact fun ww => full_any n hn62 ww
    obtain ⟨an, han⟩ : ∃ an, an = procAns (n : Int) (ints rs) := ⟨_, rfl⟩
    rw [← han]
    have HAN : Hid (an = if (procM rs).length ≤ 16 then (ints (procM rs), 0) else ([], 3)) := Lib.hid (by rw [han]; exact HANS.out)
    clear han HANS
    obtain ⟨i0, hi, hz0, hz1, hz2⟩ := info_parts info_int
    clear ha hl hp8 hp0 hF
    go_enter Tryd.func46, Tryd.ntmps46
    go_wp2_with fail
    refine (l02Is_any _ _ _ _ _ _ hh hn).mono ?_
    rintro e w1 ⟨rfl, hb⟩
    rw [HA.out]
    have x1 := x0.next hb
    have hh1 := hh.below hb
    have HB1 := Lib.hid (HB.out.trans (hb.mono HB.out.size))
    go_wp2_with fail
    go_loopw [4, 5] (fun v i wr => ∃ (m : Nat) (A1 : Option Addr) (c1 : Nat), 1 ≤ m ∧ m ≤ F + 1 ∧ i = .int .i64 m ∧ v = .slice A1 (procTo rs n m).length c1 ∧ Own 2 wr w1.heap.size A1 (procTo rs n m).length c1 (ints (procTo rs n m)) ∧ Below w1.heap.size w1 wr) (fun _ i _ => F + 1 - (intOf i).toNat)
    case atStart => exact ⟨1, some ⟨w1.heap.size, 0, none⟩, 0, Nat.le_refl _, by omega, rfl, rfl, World.ownsRow_lit w1 #[] 0 (Nat.le_refl _) (by unfold maxLen; omega) rfl, below1 _ _⟩
    case round =>
      obtain ⟨m, A1, c1, hm1, hm, rfl, rfl, ho, hb9⟩ := hrel
      have hle := procTo_len rs n m
      have y0 := (x1.next hb9).c0
      have y1 := (x1.next hb9).c1
      by_cases hlt : m ≤ F
      · have hm63 : m < 9223372036854775808 := by omega
        have hm2n : m < 2 ^ n := by have := hFP.out; omega
        obtain ⟨K, hK⟩ : ∃ K, K = (procTo rs n m).length := ⟨_, rfl⟩
        have HK := Lib.hid hK
        rw [← hK] at ho hle ⊢
        clear hK
        obtain ⟨wo, rfl⟩ : ∃ wo : World, wo = wr := ⟨_, rfl⟩
        have HW := Lib.hid hb9.size
        go_wp2_with fail
        refine (hfull _).mono ?_
        rintro e w' ⟨rfl, rfl⟩
        go_wp2_with fail
        refine (hfull _).mono ?_
        rintro e w' ⟨rfl, rfl⟩
        go_wp2_with fail
        go_loop [6, 7] (fun q i => ∃ k : Nat, k ≤ n ∧ i = .int .i64 k ∧ q = .int .i64 (comTo rs n m k : Nat)) (fun _ i => n - (intOf i).toNat)
        case atStart => exact ⟨0, Nat.zero_le _, rfl, by rw [HC0.out m]⟩
        case round =>
          obtain ⟨k, hk, rfl, rfl⟩ := hrel
          have hcl := HCL.out m k
          by_cases hlt2 : k < n
          · obtain ⟨b, off, x, rfl, hbs, hx, hcx⟩ := (hh1.below hb9).at_ hlt2
            have hx2 := ints_getD rs k (by rw [HL.out]; exact hlt2)
            rw [hx2] at hx
            injection hx with hx
            subst hx
            have hk62 : k ≤ 62 := by omega
            have hD63 := lt63 h24 (hr k)
            have e1 : comTo rs n m (k + 1) = if m.testBit k = true then comTo rs n m k &&& rs.getD k 0 else comTo rs n m k := rfl
            obtain ⟨S, hS⟩ : ∃ S, S = comTo rs n m k := ⟨_, rfl⟩
            obtain ⟨D, hD⟩ : ∃ D, D = rs.getD k 0 := ⟨_, rfl⟩
            rw [← hS] at hcl e1 ⊢
            rw [← hD] at hcx hD63 e1
            have hand := and63 S D (by omega) hD63
            have HE := Lib.hid e1
            clear e1 hS hD hx2
            cases hbt : m.testBit k
            · have HT := Lib.hid hbt
              clear hbt
              go_wp2_with (go_at_call 57; refine (bit_any m k hm63 hk62 _).mono ?_; rintro e w' ⟨rfl, rfl⟩; rw [HT.out])
              go_round
              case rel => exact ⟨k + 1, by omega, by go_num, by rw [HE.out, if_neg (by rw [HT.out]; decide)]⟩
              case measure => simp [intOf]; omega
            · have HT := Lib.hid hbt
              clear hbt
              go_wp2_with (go_at_call 57; refine (bit_any m k hm63 hk62 _).mono ?_; rintro e w' ⟨rfl, rfl⟩; rw [HT.out])
              go_round
              case rel => exact ⟨k + 1, by omega, by go_num, by rw [HE.out, if_pos HT.out]⟩
              case measure => simp [intOf]; omega
          · obtain rfl : k = n := by omega
            have hce := HCE.out m hm2n
            obtain ⟨S, hS⟩ : ∃ S, S = comTo rs k m k := ⟨_, rfl⟩
            rw [← hS] at hce hcl ⊢
            have HPB : Hid (procB rs k m = decide (S = m)) := Lib.hid (by unfold procB; rw [← hce, decide_eq_true (show m ≠ 0 by omega), Bool.true_and])
            clear hce hS
            by_cases hsm : S = m
            · have hyes := procTo_yes rs k m (by rw [HPB.out]; exact decide_eq_true hsm)
              have HYES := Lib.hid hyes
              have hml : K + 1 ≤ maxLen := by unfold maxLen; omega
              have hby2 : (K + 1) * 8 ≤ 140737488355328 := by omega
              have HLN : Hid ((procTo rs k (m + 1)).length = K + 1) := Lib.hid (by rw [hyes, List.length_append, ← HK.out]; rfl)
              have heq : ((S : Int) == (m : Int)) = true := by simp; omega
              obtain ⟨ys, hys⟩ : ∃ ys, ys = procTo rs k m := ⟨_, rfl⟩
              rw [← hys] at ho HYES
              subst hsm
              clear hyes hys
              go_wp2_with (at_builtin; refine wpList_append_own _ rfl _ _ 22 rfl w1.heap.size 2 i0 (.int .i64 0) 1 8 Tryd.underlying22 hi hz0 hz1 hz2 rfl (by decide) (.slice A1 K c1) K ((ints ys).map (Value.int .i64)) rfl (World.ownsRow.alloc ho _) ⟨wo.heap.size, 0, none⟩ 1 1 [.int .i64 (S : Int)] rfl rfl ?s1 ?s2 hml hby2 ?s5 ?_)
              case s2 => rfl
              case s5 => have := hb9.size; simp; omega
              intro v' w3 hown hg _
              rw [ints_snoc_map, ← HYES.out] at hown
              have hb3 : Below w1.heap.size w1 w3 := (hb9.alloc hb9.size _).grown hg (by have := hb9.size; simp; omega) (fun g hgr => (World.ownsRow.lt ho g hgr).1)
              obtain ⟨A2, c2, hv, ho3⟩ := own_shape hown
              rw [hv]
              clear hg hown hv
              go_wp2_with fail
              go_roundw
              case rel => exact ⟨S + 1, A2, c2, by omega, by omega, by go_num, by rw [HLN.out], by rw [HLN.out]; exact ho3, hb3⟩
              case measure => simp [intOf]; omega
            · have hno := procTo_no rs k m (by rw [HPB.out]; exact decide_eq_false hsm)
              have HNO := Lib.hid hno
              have hne : ((S : Int) == (m : Int)) = false := by simp; omega
              clear hno
              go_wp2_with fail
              go_roundw
              case rel => exact ⟨m + 1, A1, c1, by omega, by omega, by go_num, by rw [HNO.out, ← HK.out], by rw [HNO.out, ← HK.out]; exact ho, hb9⟩
              case measure => simp [intOf]; omega
      · obtain rfl : m = F + 1 := by omega
        have e9 : procTo rs n (F + 1) = procM rs := by rw [hFP.out]; exact HP.out
        rw [e9] at ho ⊢
        clear e9
        obtain ⟨K, hK⟩ : ∃ K, K = (procM rs).length := ⟨_, rfl⟩
        have HK := Lib.hid hK
        rw [← hK] at ho ⊢
        clear hK hle
        by_cases h16 : K ≤ 16
        · go_wp2_with fail
          refine (hfull _).mono ?_
          rintro e w' ⟨rfl, rfl⟩
          go_wp2_with fail
          go_ret2
          show LsPost w an.1.length an.1 an.2 _ _
          rw [HAN.out, if_pos (by rw [← HK.out]; exact h16)]
          exact LsPost.of_ans (ans_yes (by rw [ints_len, HK.out]) (ho.mono HB1.out.size) (HB1.out.trans (hb9.mono HB1.out.size)))
        · go_wp2_with fail
          refine (hfull _).mono ?_
          rintro e w' ⟨rfl, rfl⟩
          go_wp2_with fail
          go_ret2
          show LsPost w an.1.length an.1 an.2 _ _
          rw [HAN.out, if_neg (by rw [← HK.out]; exact h16)]
          exact LsPost.of_ans (ans_no 3 (HB1.out.trans (hb9.mono HB1.out.size)))
end Go.Proofs.YtbjkpkgnjeaimaaDoor
