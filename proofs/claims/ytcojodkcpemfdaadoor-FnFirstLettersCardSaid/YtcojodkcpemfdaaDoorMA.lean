/-
  The steps of the trace of a word: the program's side. FoataForm: both sides. Lists read from their end: slices.Reverse, and the model's l03Back. The model's l03Back: a list read from its end. ReverseOf: both sides. Plain mathematics for FnFirstLetters: a letter is a first one exactly if it stands in the first step, and exactly if it is a prefix.
-/
import Derived.Test.YtcojodkcpemfdaaDoorM2
import Derived.Deep.CutRange
import Derived.Test.YtcojodkcpemfdaaDoorM1
import Derived.Test.YtcojodkcpemfdaaDoorM3
import Derived.Deep.RegionWith
import Derived.Test.YtcojodkcpemfdaaDoorM5
import Derived.Test.YtcojodkcpemfdaaDoorM4
namespace Go.Proofs.YtcojodkcpemfdaaDoor
open Go.RowKit
set_option linter.unusedVariables false
set_option maxRecDepth 100000

theorem info_gint : (Tryd.prog.info? 3).map (fun i => (i.zero, i.size, i.bytes)) = some (some (.int .i64 0), 1, 8) := by kernel_rfl
theorem max_nat (a b : Nat) : (if a < b then (b : Int) else (a : Int)) = ((max a b : Nat) : Int) := by split <;> omega
set_option maxHeartbeats 6400000 in
theorem steps_prog (A A1 : Option Addr) (n c m d : Nat) (rs us : List Nat) (w : World) (h : Rd w A n (ints rs)) (hn : n ≤ 8) (hr : ∀ i, rs.getD i 0 < 2 ^ n) (hd : Dep rs) (h2 : Rd w A1 m (ints us)) (hm : m ≤ 24) (hu : ∀ u, u ∈ us → u < n) (hT : Tab w) :
    Calls Tryd.prog 115 #[.slice A n c, .slice A1 m d] w (MakesE 84 w (foM rs us).length (ints (foM rs us))) := by
  have hlen : rs.length = n := by have := h.1; rw [ints_len] at this; exact this
  have hmlen : us.length = m := by have := h2.1; rw [ints_len] at this; exact this
  have HL := Lib.hid hlen
  have HM := Lib.hid hmlen
  have HU := Lib.hid hu
  have HDEP := Lib.hid hd
  obtain ⟨i0, hi, hz0, hz1, hz2⟩ := info_parts info_set
  obtain ⟨i1, hi1, hy0, hy1, hy2⟩ := info_parts info_gint
  have hml : n ≤ maxLen := by unfold maxLen; omega
  have hby : i1.bytes * n ≤ 281474976710656 := by rw [hy2]; omega
  clear hlen hmlen hu hd
  go_enter Tryd.func115, Tryd.ntmps115
  go_wp2_with (first | (at_make; refine wpList_make_full _ rfl _ _ _ rfl w.heap.size 3 i1 (.int .i64 0) 1 Tryd.underlying177 hi1 hy0 hy1 _ _ (n : Int) (n : Int) n rfl rfl rfl rfl hby hml (Nat.le_refl _) ?_; intro w1 hown0 hg1))
  have hown := own_made hown0
  clear hown0
  have HSZ : Hid (w.heap.size < w1.heap.size) := Lib.hid (hown.lt w.heap.size rfl).2
  have hb1 : Below w.heap.size w w1 := (Below.refl _ _).grown hg1 (Nat.le_refl _) (by simp)
  clear hg1
  go_loopw [5, 17] (fun v q wr => ∃ (i : Nat) (hb : List Nat) (A5 : Option Addr) (c5 : Nat), i ≤ m ∧ q = .int .i64 i ∧ v = .slice A5 (foTo rs us i).length c5 ∧ Own 84 wr w1.heap.size A5 (foTo rs us i).length c5 (ints (foTo rs us i)) ∧ Own 3 wr w.heap.size (some ⟨w.heap.size, 0, none⟩) n n (ints hb) ∧ HInv rs us n i hb ∧ Below w.heap.size w wr ∧ w1.heap.size ≤ wr.heap.size) (fun _ q _ => m - (intOf q).toNat)
  case atStart => exact ⟨0, List.replicate n 0, none, 0, Nat.zero_le _, rfl, rfl, Own.nil _ _ _, hown, hinv_zero rs us n, hb1, Nat.le_refl _⟩
  case round =>
    clear hown hb1
    obtain ⟨i, hb, A5, c5, hi5, rfl, rfl, ho, hoh, hinv, hbw, hsz⟩ := hrel
    have HI := Lib.hid hinv
    by_cases hlt : i < m
    · obtain ⟨b, off, x, rfl, hbs, hx, hcx⟩ := (h2.below hbw).at_ hlt
      obtain ⟨a, ha, rfl⟩ := ints_at? us i x hx
      have han := HU.out a (List.mem_of_getElem? ha)
      have hag : us.getD i 0 = a := by rw [List.getD_eq_getElem?_getD, ha]; rfl
      obtain ⟨b2, off2, x2, rfl, hbs2, hx2, hcx2⟩ := (h.below hbw).at_ han
      have hx3 := ints_getD rs a (by rw [HL.out]; exact han)
      rw [hx3] at hx2
      injection hx2 with hx2
      subst hx2
      have hmx := hgt_mx rs us hb n i HL.out (by omega) hr HDEP.out HU.out (by rw [HM.out]; exact hlt) hinv
      have hnx := hinv_next HL.out HDEP.out HU.out (by rw [HM.out]; exact hlt) hinv
      have h1 := hgt_one rs us i
      have hlt24 := hr a
      have hlen5 := foTo_len rs us i
      rw [hag] at hmx hnx
      obtain ⟨D, hD⟩ : ∃ D, D = rs.getD a 0 := ⟨_, rfl⟩
      rw [← hD] at hcx2 hmx hlt24
      have hD24 : D < 16777216 := by have := p24 n (by omega); omega
      have hmsn : ∀ b, b ∈ bitsOf D → b < n := fun b hb => bit_lt hlt24 ((bitsOf_mem D b).1 hb).2
      obtain ⟨ms, hms⟩ : ∃ ms, ms = bitsOf D := ⟨_, rfl⟩
      have hmem := members_any D hD24
      have hml24 := bitsOf_len D
      rw [← hms] at hmx hmsn hmem hml24
      have hmll : ms.length ≤ 24 := hml24
      have HMX := Lib.hid hmx
      have HNX := Lib.hid hnx
      have HMSN := Lib.hid hmsn
      have HMEM := Lib.hid hmem
      clear hx ha hx3 hD hms hmsn hmem hinv hmx hnx
      obtain ⟨wo, rfl⟩ : ∃ wo : World, wo = wr := ⟨_, rfl⟩
      go_wp2_with fail
      refine (HMEM.out _ (hT.below hbw)).mono ?_
      rintro e w3 ⟨A3, c3, rfl, ho3, hb3⟩
      have hr3 := ho3.rd
      have hoh3 := hoh.below hb3
      have ho5 := ho.below hb3
      have hbw3 := hbw.trans (hb3.mono hbw.size)
      have hsz3 : w1.heap.size ≤ w3.heap.size := Nat.le_trans hsz hb3.size
      clear ho3 hb3 ho hoh hcx hcx2
      go_wp2_with fail
      go_loop [9, 27] (fun v q => ∃ t : Nat, t ≤ ms.length ∧ q = .int .i64 t ∧ v = .int .i64 (mxTo hb ms t)) (fun _ q => ms.length - (intOf q).toNat)
      case atStart => exact ⟨0, Nat.zero_le _, rfl, rfl⟩
      case round =>
        obtain ⟨t, ht, rfl, rfl⟩ := hrel
        by_cases hlt2 : t < ms.length
        · obtain ⟨b3, off3, x3, e3, hbs3, hx3, hcx3⟩ := hr3.at_ hlt2
          subst e3
          have hx4 := ints_getD ms t hlt2
          rw [hx4] at hx3
          injection hx3 with hx3
          subst hx3
          have hbn := HMSN.out _ (getD_mem ms t hlt2)
          obtain ⟨gh, eh, _, hcellh, _, _⟩ := own_stored hoh3 hbn
          cases eh
          have hmn : mxTo hb ms (t + 1) = max (mxTo hb ms t) (hb.getD (ms.getD t 0) 0) := rfl
          obtain ⟨Y, hY⟩ : ∃ Y, Y = hb.getD (ms.getD t 0) 0 := ⟨_, rfl⟩
          rw [← hY] at hmn hcellh
          obtain ⟨b9, hb9⟩ : ∃ b9, b9 = ms.getD t 0 := ⟨_, rfl⟩
          rw [← hb9] at hcx3 hbn hcellh
          obtain ⟨Z, hZ⟩ : ∃ Z, Z = mxTo hb ms t := ⟨_, rfl⟩
          rw [← hZ] at hmn ⊢
          obtain ⟨V, hV⟩ : ∃ V, V = mxTo hb ms (t + 1) := ⟨_, rfl⟩
          rw [← hV] at hmn
          have HV := Lib.hid hV
          have HMN := Lib.hid hmn
          clear hx4 hY hb9 hZ hV hmn
          go_wp2_with fail
          go_round
          case rel => exact ⟨t + 1, by omega, by go_num, by rw [← HV.out]; congr 1; have := HMN.out; split <;> omega⟩
          case measure => simp [intOf]; omega
        · obtain rfl : t = ms.length := by omega
          obtain ⟨H, hH⟩ : ∃ H, H = mxTo hb ms ms.length := ⟨_, rfl⟩
          have HH : Hid (hgt rs us i = H + 1) := Lib.hid (by rw [HMX.out, hH])
          rw [← hH]
          have HLTo := Lib.hid (foTo_lt rs us n HU.out i (by rw [HM.out]; omega))
          have HFO1 : Hid (foTo rs us (i + 1) = foPut (foTo rs us i) (H + 1) a) := Lib.hid (by rw [← HH.out, ← hag]; rfl)
          rw [HH.out] at h1
          obtain ⟨FO, hFO⟩ : ∃ FO, FO = foTo rs us i := ⟨_, rfl⟩
          rw [← hFO] at ho5 h1 hlen5 HFO1 HLTo ⊢
          obtain ⟨K, hK⟩ : ∃ K, K = FO.length := ⟨_, rfl⟩
          rw [← hK] at ho5 h1 hlen5 ⊢
          have HK := Lib.hid hK
          clear hH hFO hK hr3 HMEM
          by_cases hq : H = K
          · subst hq
            have hq1 : ((H : Int) == (H : Int)) = true := by simp
            have HPAD : Hid (padTo FO (H + 1) = FO ++ [0]) := Lib.hid (by rw [padTo_next _ _ (by rw [← HK.out]; omega), padTo_same _ _ (by rw [List.length_append, ← HK.out]; exact Nat.le_refl _)])
            have HLT2 := Lib.hid (fun k => by have := padTo_lt FO (H + 1) n HLTo.out k; rw [HPAD.out] at this; exact this)
            have hml2 : H + 1 ≤ maxLen := by unfold maxLen; omega
            have hby2 : (H + 1) * 8 ≤ 140737488355328 := by omega
            have HKA : Hid ((FO ++ [0]).length = H + 1) := Lib.hid (by rw [List.length_append, ← HK.out]; rfl)
            go_wp2_with (at_builtin; refine wpList_append_own _ rfl _ _ 72 rfl w1.heap.size 84 i0 (.int .i64 0) 1 8 Tryd.underlying72 hi hz0 hz1 hz2 rfl (by decide) (.slice A5 H c5) H ((ints FO).map (Value.int .i64)) rfl (World.ownsRow.alloc ho5 _) ⟨w3.heap.size, 0, none⟩ 1 1 [.int .i64 0] rfl rfl ?s1 ?s2 hml2 hby2 ?s5 ?_)
            case s2 => first | rfl | (intro u hu; simp at hu; subst hu; rfl)
            case s5 => first | omega | (simp; omega)
            intro v' w4 hown hg _
            have hz : (Value.int .i64 0) = Value.int .i64 ((0 : Nat) : Int) := rfl
            rw [hz, ints_snoc_map] at hown
            obtain ⟨A6, c6, hv, ho6⟩ := own_shape hown
            rw [hv]
            have hapart0 : ∀ q, (some (⟨w.heap.size, 0, none⟩ : Addr)).map (·.block) = some q → (Value.slice A5 H c5).ownBlock = some q → False := fun q hq e9 => by
              have h9 := (World.ownsRow.lt ho5 q e9).1
              have hq2 : w.heap.size = q := by injection hq
              have := HSZ.out; omega
            have hoh6 := (hoh3.below (below1 w3 _)).apart hg (fun q hq e9 => hapart0 q hq e9)
            have hbw6 : Below w.heap.size w w4 := (hbw3.alloc hbw3.size _).grown hg (by have := hbw3.size; simp; omega) (fun q hq => by have h9 := (World.ownsRow.lt ho5 q hq).1; have := HSZ.out; omega)
            have hsz6 : w1.heap.size ≤ w4.heap.size := by have := hg.size; simp at this; omega
            clear hown hg hv hz ho5 hoh3 hbw3 hapart0
            obtain ⟨g5, e5, hg5, hcell, hfr, hset⟩ := own_stored ho6 (k := H) (by omega)
            subst e5
            have hvv := HLT2.out H
            obtain ⟨X, hX⟩ : ∃ X, X = (FO ++ [0]).getD H 0 := ⟨_, rfl⟩
            rw [← hX] at hcell hvv
            have HPUT : Hid (foPut FO (H + 1) a = (FO ++ [0]).set H (X ||| 2 ^ a)) := Lib.hid (by unfold foPut; rw [HPAD.out, hX]; rfl)
            have hX63 : X < 9223372036854775808 := by have := p24 n (by omega); omega
            have ha62 : a ≤ 62 := by omega
            have hwith := with_any X a hX63 ha62
            obtain ⟨V, hV⟩ : ∃ V, V = X ||| 2 ^ a := ⟨_, rfl⟩
            rw [← hV] at HPUT hwith
            have ho7 := hset V
            rw [← HPUT.out] at ho7
            have HWITH := Lib.hid hwith
            clear hset hX hV hwith
            have hapart1 : ∀ q, (some (⟨w.heap.size, 0, none⟩ : Addr)).map (·.block) = some q → some g5 = some q → False := fun q hq e9 => by
              have hq2 : w.heap.size = q := by injection hq
              have hq3 : g5 = q := by injection e9
              have := HSZ.out; omega
            have hapart2 : ∀ q, (some (⟨g5, 0, none⟩ : Addr)).map (·.block) = some q → some w.heap.size = some q → False := fun q hq e9 => by
              have hq2 : g5 = q := by injection hq
              have hq3 : w.heap.size = q := by injection e9
              have := HSZ.out; omega
            have hoh7 := hoh6.apart (grown_set (World.grownBy.refl w4 (some g5)) H (.int .i64 (V : Int))) (fun q hq e9 => hapart1 q hq e9)
            have hb7 := hbw6.setCell (p := ⟨g5, H, none⟩) (by show w.heap.size ≤ g5; have := HSZ.out; omega) (.int .i64 (V : Int))
            obtain ⟨gh', eh', _, hcell3, hfr3, hset3⟩ := own_stored hoh7 (k := a) han
            cases eh'
            have hoh8 := hset3 (H + 1)
            rw [Int.natCast_succ] at hoh8
            have ho8 := ho7.apart (grown_set (World.grownBy.refl (w4.setCell ⟨g5, H, none⟩ (.int .i64 (V : Int))) (some w.heap.size)) a (.int .i64 ((H : Int) + 1))) (fun q hq e9 => hapart2 q hq e9)
            have hb8 := hb7.setCell (p := ⟨w.heap.size, a, none⟩) (Nat.le_refl _) (.int .i64 ((H : Int) + 1))
            have hH63 : H ≤ 24 := by omega
            have HFL : Hid ((foTo rs us (i + 1)).length = H + 1) := Lib.hid (by rw [HFO1.out, HPUT.out, List.length_set]; exact HKA.out)
            obtain ⟨w5, hw5⟩ : ∃ w5, w5 = w4.setCell ⟨g5, H, none⟩ (.int .i64 (V : Int)) := ⟨_, rfl⟩
            rw [← hw5] at hcell3 hfr3 hoh8 ho8 hb8
            have hsz8 : w1.heap.size ≤ (w5.setCell ⟨w.heap.size, a, none⟩ (.int .i64 ((H : Int) + 1))).heap.size := by rw [World.size_setCell, hw5, World.size_setCell]; exact hsz6
            clear hset3 hoh6 ho6 hoh7 hb7 ho7 hapart1 hapart2
            go_wp2_with fail
            refine (HWITH.out _).mono ?_
            rintro e w' ⟨rfl, rfl⟩
            go_upto_region 15 with fail
            rw [← hw5]
            clear hw5 hcell hfr
            go_wp2_with fail
            go_roundw
            case rel => exact ⟨i + 1, hb.set a (H + 1), _, _, by omega, by go_num, by rw [HFL.out], by rw [HFL.out, HFO1.out]; exact ho8, hoh8, by rw [← HH.out]; exact HNX.out, hb8, hsz8⟩
            case measure => simp [intOf]; omega
          · have hq1 : ((H : Int) == (K : Int)) = false := by simp; omega
            have hq9 : H < K := by omega
            clear hq
            have HPAD : Hid (padTo FO (H + 1) = FO) := Lib.hid (padTo_same _ _ (by rw [← HK.out]; omega))
            have HLT2 := HLTo
            have HKA : Hid (FO.length = K) := Lib.hid HK.out.symm
            obtain ⟨w4, rfl⟩ : ∃ w4 : World, w4 = w3 := ⟨_, rfl⟩
            have ho6 := ho5
            have hoh6 := hoh3
            have hbw6 := hbw3
            have hsz6 := hsz3
            clear ho5 hoh3 hbw3
            obtain ⟨g5, e5, hg5, hcell, hfr, hset⟩ := own_stored ho6 (k := H) (by omega)
            subst e5
            have hvv := HLT2.out H
            obtain ⟨X, hX⟩ : ∃ X, X = FO.getD H 0 := ⟨_, rfl⟩
            rw [← hX] at hcell hvv
            have HPUT : Hid (foPut FO (H + 1) a = FO.set H (X ||| 2 ^ a)) := Lib.hid (by unfold foPut; rw [HPAD.out, hX]; rfl)
            have hX63 : X < 9223372036854775808 := by have := p24 n (by omega); omega
            have ha62 : a ≤ 62 := by omega
            have hwith := with_any X a hX63 ha62
            obtain ⟨V, hV⟩ : ∃ V, V = X ||| 2 ^ a := ⟨_, rfl⟩
            rw [← hV] at HPUT hwith
            have ho7 := hset V
            rw [← HPUT.out] at ho7
            have HWITH := Lib.hid hwith
            clear hset hX hV hwith
            have hapart1 : ∀ q, (some (⟨w.heap.size, 0, none⟩ : Addr)).map (·.block) = some q → some g5 = some q → False := fun q hq e9 => by
              have hq2 : w.heap.size = q := by injection hq
              have hq3 : g5 = q := by injection e9
              have := HSZ.out; omega
            have hapart2 : ∀ q, (some (⟨g5, 0, none⟩ : Addr)).map (·.block) = some q → some w.heap.size = some q → False := fun q hq e9 => by
              have hq2 : g5 = q := by injection hq
              have hq3 : w.heap.size = q := by injection e9
              have := HSZ.out; omega
            have hoh7 := hoh6.apart (grown_set (World.grownBy.refl w4 (some g5)) H (.int .i64 (V : Int))) (fun q hq e9 => hapart1 q hq e9)
            have hb7 := hbw6.setCell (p := ⟨g5, H, none⟩) (by show w.heap.size ≤ g5; have := HSZ.out; omega) (.int .i64 (V : Int))
            obtain ⟨gh', eh', _, hcell3, hfr3, hset3⟩ := own_stored hoh7 (k := a) han
            cases eh'
            have hoh8 := hset3 (H + 1)
            rw [Int.natCast_succ] at hoh8
            have ho8 := ho7.apart (grown_set (World.grownBy.refl (w4.setCell ⟨g5, H, none⟩ (.int .i64 (V : Int))) (some w.heap.size)) a (.int .i64 ((H : Int) + 1))) (fun q hq e9 => hapart2 q hq e9)
            have hb8 := hb7.setCell (p := ⟨w.heap.size, a, none⟩) (Nat.le_refl _) (.int .i64 ((H : Int) + 1))
            have hH63 : H ≤ 24 := by omega
            have HFL : Hid ((foTo rs us (i + 1)).length = K) := Lib.hid (by rw [HFO1.out, HPUT.out, List.length_set]; exact HKA.out)
            obtain ⟨w5, hw5⟩ : ∃ w5, w5 = w4.setCell ⟨g5, H, none⟩ (.int .i64 (V : Int)) := ⟨_, rfl⟩
            rw [← hw5] at hcell3 hfr3 hoh8 ho8 hb8
            have hsz8 : w1.heap.size ≤ (w5.setCell ⟨w.heap.size, a, none⟩ (.int .i64 ((H : Int) + 1))).heap.size := by rw [World.size_setCell, hw5, World.size_setCell]; exact hsz6
            clear hset3 hoh6 ho6 hoh7 hb7 ho7 hapart1 hapart2
            go_wp2_with fail
            refine (HWITH.out _).mono ?_
            rintro e w' ⟨rfl, rfl⟩
            go_upto_region 15 with fail
            rw [← hw5]
            clear hw5 hcell hfr
            go_wp2_with fail
            go_roundw
            case rel => exact ⟨i + 1, hb.set a (H + 1), _, _, by omega, by go_num, by rw [HFL.out], by rw [HFL.out, HFO1.out]; exact ho8, hoh8, by rw [← HH.out]; exact HNX.out, hb8, hsz8⟩
            case measure => simp [intOf]; omega
    · obtain rfl : i = m := by omega
      have e9 : foTo rs us i = foM rs us := by unfold foM; rw [HM.out]
      rw [e9] at ho ⊢
      clear e9
      obtain ⟨K, hK⟩ : ∃ K, K = (foM rs us).length := ⟨_, rfl⟩
      have HK := Lib.hid hK
      rw [← hK] at ho ⊢
      clear hK hinv
      go_wp2_with fail
      go_ret
      rw [HK.out] at ho ⊢
      exact ⟨_, _, rfl, ho.mono (by have := HSZ.out; omega), hbw⟩
end Go.Proofs.YtcojodkcpemfdaaDoor
namespace Go.Proofs.YtcojodkcpemfdaaDoor
open Go.RowKit
set_option linter.unusedVariables false
set_option maxRecDepth 100000

def foAns (L : Int) (xs us : List Int) : List Int × Int := wAns foM L xs us
theorem foAns_small (L : Int) (xs us : List Int) : (foAns L xs us).1.length ≤ 24 := wAns_small _ 24 (fun rs us _ h => Nat.le_trans (foM_len rs us) h) L xs us
set_option maxHeartbeats 3200000 in
theorem implFoataForm (L : Int) (A : Option Addr) (n c : Nat) (xs : List Int) (A1 : Option Addr) (m d : Nat) (us : List Int) (w : World) (h : Rd w A n xs) (hwf : Wf xs) (hL1 : -9223372036854775808 ≤ L) (hL2 : L ≤ 9223372036854775807) (hn : n ≤ maxLen) (h2 : Rd w A1 m us) (hwf2 : Wf us) (hm : m ≤ maxLen) (hT : Tab w) :
    Calls Tryd.prog 49 #[.agg #[.int .i64 L, .slice A n c], .slice A1 m d] w (LsPost w (foAns L xs us).1.length (foAns L xs us).1 (foAns L xs us).2) := by
  have hn2 : n ≤ 9223372036854775807 := by unfold maxLen at hn; omega
  have hn1 := h.1
  have hm1 := h2.1
  have HB := Lib.hid (below2 w (.cells #[.int .i64 L, .slice A n c] 29) (.cells #[.slice A1 m d] 22))
  have hh := h.below HB.out
  have ht := rdT_box w (.cells #[.int .i64 L, .slice A n c] 29) A1 m d us 22 h2 hm
  have hh2 := h2.below HB.out
  have hT1 := hT.below HB.out
  cases ha : alphB L xs
  · rw [show foAns L xs us = _ from wAns_no _ L xs us ha]
    have HA := Lib.hid ha
    clear ha ht hn1
    go_enter Tryd.func49, Tryd.ntmps49
    go_wp2_with fail
    refine (dependenceWith_no L _ _ _ _ _ _ xs [] _ hh hwf hL1 hL2 hn2 HA.out hT1).mono ?_
    rintro e w1 ⟨rfl, hb⟩
    go_wp2_with fail
    go_ret2
    exact LsPost.of_ans (ans_no 1 (HB.out.trans (hb.mono HB.out.size)))
  · cases hu : wordB L us
    · rw [show foAns L xs us = _ from wAns_bad _ L xs us ha hu]
      obtain ⟨rs, rfl, rfl, h8, hr, hrel, hl, hd, _⟩ := alphB_nats L xs n hn1 ha
      have HU := Lib.hid hu
      clear ha hu
      go_enter Tryd.func49, Tryd.ntmps49
      go_wp2_with fail
      refine (dependenceWith_any _ _ _ _ _ _ rs _ _ hh hwf h8 hr hrel hd ht (by omega) hT1).mono ?_
      rw [okT_one, HU.out]
      rintro e w1 (⟨hok, _⟩ | ⟨hok, rfl, hb⟩)
      · cases hok
      go_wp2_with fail
      go_ret2
      exact LsPost.of_ans (ans_no 2 (HB.out.trans (hb.mono HB.out.size)))
    · obtain ⟨rs, rfl, rfl, h8, hr, hrel, hl, hd, _⟩ := alphB_nats L xs n hn1 ha
      obtain ⟨vs, rfl, hv24, hvn⟩ := wordB_nats n us hu
      rw [show foAns (n : Int) (ints rs) (ints vs) = _ from wAns_yes _ (n : Int) rs vs ha hu]
      have HU := Lib.hid hu
      have HDEP := Lib.hid ((depB_iff rs n hl hr).1 hd)
      rw [ints_len] at hm1
      have hm24 : m ≤ 24 := by omega
      have HM := Lib.hid hm1
      clear ha hu hl hm1
      go_enter Tryd.func49, Tryd.ntmps49
      go_wp2_with fail
      refine (dependenceWith_any _ _ _ _ _ _ rs _ _ hh hwf h8 hr hrel hd ht (by omega) hT1).mono ?_
      rw [okT_one, HU.out]
      rintro e w1 (⟨hok, A2, c2, rfl, ho, hb⟩ | ⟨hok, _⟩)
      rotate_left
      · cases hok
      have HB1 := Lib.hid (HB.out.trans (hb.mono HB.out.size))
      have hr2 := hh2.below hb
      have hrd := ho.rd
      have hT2 := hT1.below hb
      clear ho hb hok ht hh hh2 hT1 hT h h2
      go_wp2_with fail
      refine (steps_prog _ _ _ _ _ _ rs vs _ hrd h8 hr HDEP.out hr2 hm24 hvn hT2).mono ?_
      rintro e w2 ⟨A3, c3, rfl, ho3, hb3⟩
      have hlen := foM_len rs vs
      have HB2 := Lib.hid (HB1.out.trans (hb3.mono HB1.out.size))
      obtain ⟨K, hK⟩ : ∃ K, K = (foM rs vs).length := ⟨_, rfl⟩
      have HK := Lib.hid hK
      rw [← hK] at ho3 hlen ⊢
      have hn3 : K ≤ 1048576 := by omega
      clear hK
      go_wp2_with fail
      refine (masksOf_any _ _ _ _ _ ho3.rd hn3).mono ?_
      rintro e w4 ⟨A4, c4, rfl, ho4, hb4⟩
      go_wp2_with fail
      go_ret2
      exact LsPost.of_ans (ans_yes (by rw [ints_len, HK.out]) (ho4.mono HB2.out.size) (HB2.out.trans (hb4.mono HB2.out.size)))
end Go.Proofs.YtcojodkcpemfdaaDoor
namespace Go.Proofs.YtcojodkcpemfdaaDoor
open Go.RowKit
set_option linter.unusedVariables false
set_option maxRecDepth 100000

def revM (ds : List Nat) (i : Nat) : List Nat := (List.range ds.length).map fun p => ds.getD (if p < i ∨ ds.length - i ≤ p then ds.length - 1 - p else p) 0
theorem revM_len (ds : List Nat) (i : Nat) : (revM ds i).length = ds.length := by simp [revM]
theorem revM_at (ds : List Nat) (i p : Nat) (hp : p < ds.length) : (revM ds i).getD p 0 = ds.getD (if p < i ∨ ds.length - i ≤ p then ds.length - 1 - p else p) 0 := getD_range_map _ _ _ hp
theorem revM_zero (ds : List Nat) : revM ds 0 = ds := by
  refine list_eq_getD _ _ ds.length (revM_len _ _) rfl fun p hp => ?_
  rw [revM_at _ _ _ hp, if_neg (by omega)]
theorem revM_next (ds : List Nat) (i j : Nat) (hij : i < j) (hj : i + j + 1 = ds.length) : ((revM ds i).set i ((revM ds i).getD j 0)).set j ((revM ds i).getD i 0) = revM ds (i + 1) := by
  refine list_eq_getD _ _ ds.length (by rw [List.length_set, List.length_set, revM_len]) (revM_len _ _) fun p hp => ?_
  rw [getD_set _ _ _ _ (by rw [List.length_set, revM_len]; omega), getD_set _ _ _ _ (by rw [revM_len]; omega), revM_at _ _ i (by omega), revM_at _ _ j (by omega), revM_at _ _ p hp, revM_at _ (i + 1) p hp]
  by_cases h1 : p = j
  · subst h1
    rw [if_pos rfl, if_neg (by omega), if_pos (by omega)]
    congr 1; omega
  · rw [if_neg h1]
    by_cases h2 : p = i
    · subst h2
      rw [if_pos rfl, if_neg (by omega), if_pos (by omega)]
      congr 1; omega
    · rw [if_neg h2]
      by_cases h3 : p < i ∨ ds.length - i ≤ p
      · rw [if_pos h3, if_pos (by omega)]
      · rw [if_neg h3, if_neg (by omega)]
theorem revM_end (ds : List Nat) (i : Nat) (h : ds.length ≤ 2 * i + 1) : revM ds i = ds.reverse := by
  refine list_eq_getD _ _ ds.length (revM_len _ _) List.length_reverse fun p hp => ?_
  rw [revM_at _ _ _ hp]
  have e : ds.reverse.getD p 0 = ds.getD (ds.length - 1 - p) 0 := by
    rw [List.getD_eq_getElem?_getD, List.getElem?_reverse hp, List.getD_eq_getElem?_getD]
  rw [e]
  split
  · rfl
  · congr 1; omega
set_option maxHeartbeats 1600000 in
theorem rev_some (B g n c : Nat) (ds : List Nat) (w : World) (h : Own 2 w B (some ⟨g, 0, none⟩) n c (ints ds)) (hn : n ≤ 1048576) :
    Calls Tryd.prog 132 #[.slice (some ⟨g, 0, none⟩) n c] w fun e w' => e = .returned (.tuple #[]) ∧ Own 2 w' B (some ⟨g, 0, none⟩) n c (ints ds.reverse) ∧ w.grownBy w' (some g) := by
  have hlen : ds.length = n := by have := h.len; rw [ints_len] at this; exact this
  have HL := Lib.hid hlen
  have mixed : Tryd.prog.follows .mixedOrders = true := by kernel_rfl
  have hw0 : wrap64 ((n : Int) - 1) = (n : Int) - 1 := by unfold wrap64; omega
  clear hlen
  go_enter Tryd.func132, Tryd.ntmps132
  go_wp2_with fail
  go_loopw [2, 3] (fun p q wr => ∃ k : Nat, 2 * k ≤ n + 1 ∧ p = .int .i64 (k : Int) ∧ q = .int .i64 ((n : Int) - 1 - (k : Int)) ∧ Own 2 wr B (some ⟨g, 0, none⟩) n c (ints (revM ds k)) ∧ w.grownBy wr (some g)) (fun p _ _ => n + 1 - (intOf p).toNat)
  case atStart => exact ⟨0, by omega, rfl, by simp, by rw [revM_zero]; exact h, World.grownBy.refl _ _⟩
  case round =>
    obtain ⟨k, hk, rfl, rfl, ho, hg⟩ := hrel
    by_cases hlt : 2 * k + 1 < n
    · obtain ⟨q, hq⟩ : ∃ q, q = n - 1 - k := ⟨_, rfl⟩
      have hqe : (n : Int) - 1 - (k : Int) = (q : Int) := by omega
      rw [hqe]
      have hnext := revM_next ds k q (by omega) (by rw [HL.out]; omega)
      obtain ⟨ga, ea, _, hca, hfa, hseta⟩ := own_stored ho (k := k) (by omega)
      cases ea
      obtain ⟨gb, eb, _, hcb, hfb, _⟩ := own_stored ho (k := q) (by omega)
      cases eb
      have h1 := hseta ((revM ds k).getD q 0)
      obtain ⟨gc, ec, _, _, _, hsetb⟩ := own_stored h1 (k := q) (by omega)
      cases ec
      have h2 := hsetb ((revM ds k).getD k 0)
      rw [hnext] at h2
      obtain ⟨X, hX⟩ : ∃ X, X = (revM ds k).getD k 0 := ⟨_, rfl⟩
      obtain ⟨Y, hY⟩ : ∃ Y, Y = (revM ds k).getD q 0 := ⟨_, rfl⟩
      rw [← hX] at hca h2
      rw [← hY] at hcb h2
      have hkn : k < n := by omega
      have hqn : q < n := by omega
      have hkq : (k : Int) < (q : Int) := by omega
      have hne1 : ¬ k = q := by omega
      have hne2 : ¬ q = k := by omega
      have H2 := Lib.hid h2
      have HQ := Lib.hid hqe
      have hg2 := grown_drew (grown_set (grown_set hg k (.int .i64 (Y : Int))) q (.int .i64 (X : Int)))
      have HG2 := Lib.hid hg2
      have hz1 : (0 : Int) ≤ (k : Int) := Int.natCast_nonneg _
      have hz2 : (0 : Int) ≤ (q : Int) := Int.natCast_nonneg _
      have hz3 : (k : Int) < (n : Int) := Int.ofNat_lt.2 hkn
      have hz4 : (q : Int) < (n : Int) := Int.ofNat_lt.2 hqn
      have ht1 : ((k : Int)).toNat = k := by simp
      have ht2 : ((q : Int)).toNat = q := by simp
      clear hX hY hq hseta hsetb h1 h2 hnext hg2 ho hg hqe hw0
      go_wp2_with fail
      go_big_region_o
      clear hz1 hz2 hz3 hz4 ht1 ht2 hca hcb hfa hfb
      go_wp2_with fail
      go_roundw
      case rel => exact ⟨k + 1, by omega, by go_num, by (have := HQ.out; go_num), H2.out, HG2.out⟩
      case measure => simp [intOf]; omega
    · have HEND : Hid (revM ds k = ds.reverse) := Lib.hid (revM_end ds k (by rw [HL.out]; omega))
      have hnl : ¬ ((k : Int) < (n : Int) - 1 - (k : Int)) := by omega
      have hd : decide ((k : Int) < (n : Int) - 1 - (k : Int)) = false := decide_eq_false hnl
      go_wp2_with fail
      exact bodyPost_end (results_none Tryd.results132 _ _ _) rfl ⟨rfl, by rw [← HEND.out]; exact ho, hg⟩
theorem rev_any (B n c : Nat) (A : Option Addr) (ds : List Nat) (w : World) (h : Own 2 w B A n c (ints ds)) (hn : n ≤ 1048576) :
    Calls Tryd.prog 132 #[.slice A n c] w fun e w' => e = .returned (.tuple #[]) ∧ Own 2 w' B A n c (ints ds.reverse) ∧ w.grownBy w' (A.map (·.block)) := by
  rcases Nat.eq_zero_or_pos n with h0 | h0
  · subst h0
    have hnil : ds = [] := List.eq_nil_of_length_eq_zero (by have := h.len; rw [ints_len] at this; exact this)
    subst hnil
    go_enter Tryd.func132, Tryd.ntmps132
    go_wp2_with fail
    go_loopw [2, 3] (fun p q wr => p = .int .i64 0 ∧ q = .int .i64 (-1) ∧ wr = w) (fun _ _ _ => 0)
    case atStart => exact ⟨rfl, rfl, rfl⟩
    case round =>
      obtain ⟨rfl, rfl, rfl⟩ := hrel
      go_wp2_with fail
      exact bodyPost_end (results_none Tryd.results132 _ _ _) rfl ⟨rfl, h, World.grownBy.refl _ _⟩
  · obtain ⟨g, rfl, _⟩ := h.form h0
    exact rev_some B g n c ds w h hn
end Go.Proofs.YtcojodkcpemfdaaDoor
namespace Go.Proofs.YtcojodkcpemfdaaDoor
open Go Go.RowKit
set_option linter.unusedVariables false
set_option maxRecDepth 100000

theorem rev_take (us : List Nat) (k : Nat) (hk : k < us.length) : (us.reverse).take (us.length - k) = (us.reverse).take (us.length - (k + 1)) ++ [us.getD k 0] := by
  have e : us.length - k = us.length - (k + 1) + 1 := by omega
  rw [e, List.take_add_one, List.getElem?_reverse (by omega)]
  have e2 : us.length - 1 - (us.length - (k + 1)) = k := by omega
  rw [e2, List.getD_eq_getElem?_getD, List.getElem?_eq_getElem hk]; rfl
end Go.Proofs.YtcojodkcpemfdaaDoor
namespace Go.Proofs.YtcojodkcpemfdaaDoor
open Go Go.RowKit
set_option linter.unusedVariables false
set_option maxRecDepth 100000

def rvR (rs us : List Nat) : List Nat := nfR rs us.reverse
def rvAns (L : Int) (xs us : List Int) : List Int × Int := wAns rvR L xs us
theorem rvAns_small (L : Int) (xs us : List Int) : (rvAns L xs us).1.length ≤ 24 := wAns_small _ 24 (fun rs us _ h => Nat.le_trans (nfR_len rs us.reverse) (by rw [List.length_reverse]; exact h)) L xs us
set_option maxHeartbeats 3200000 in
theorem implReverseOf (L : Int) (A : Option Addr) (n c : Nat) (xs : List Int) (A1 : Option Addr) (m d : Nat) (us : List Int) (w : World) (h : Rd w A n xs) (hwf : Wf xs) (hL1 : -9223372036854775808 ≤ L) (hL2 : L ≤ 9223372036854775807) (hn : n ≤ maxLen) (h2 : Rd w A1 m us) (hwf2 : Wf us) (hm : m ≤ maxLen) (hT : Tab w) :
    Calls Tryd.prog 66 #[.agg #[.int .i64 L, .slice A n c], .slice A1 m d] w (LsPost w (rvAns L xs us).1.length (rvAns L xs us).1 (rvAns L xs us).2) := by
  have hn2 : n ≤ 9223372036854775807 := by unfold maxLen at hn; omega
  have hn1 := h.1
  have hm1 := h2.1
  have HB := Lib.hid (below2 w (.cells #[.int .i64 L, .slice A n c] 29) (.cells #[.slice A1 m d] 22))
  have hh := h.below HB.out
  have ht := rdT_box w (.cells #[.int .i64 L, .slice A n c] 29) A1 m d us 22 h2 hm
  have hh2 := h2.below HB.out
  have hT1 := hT.below HB.out
  cases ha : alphB L xs
  · rw [show rvAns L xs us = _ from wAns_no _ L xs us ha]
    have HA := Lib.hid ha
    clear ha ht hn1
    go_enter Tryd.func66, Tryd.ntmps66
    go_wp2_with fail
    refine (dependenceWith_no L _ _ _ _ _ _ xs [] _ hh hwf hL1 hL2 hn2 HA.out hT1).mono ?_
    rintro e w1 ⟨rfl, hb⟩
    go_wp2_with fail
    go_ret2
    exact LsPost.of_ans (ans_no 1 (HB.out.trans (hb.mono HB.out.size)))
  · cases hu : wordB L us
    · rw [show rvAns L xs us = _ from wAns_bad _ L xs us ha hu]
      obtain ⟨rs, rfl, rfl, h8, hr, hrel, hl, hd, _⟩ := alphB_nats L xs n hn1 ha
      have HU := Lib.hid hu
      clear ha hu
      go_enter Tryd.func66, Tryd.ntmps66
      go_wp2_with fail
      refine (dependenceWith_any _ _ _ _ _ _ rs _ _ hh hwf h8 hr hrel hd ht (by omega) hT1).mono ?_
      rw [okT_one, HU.out]
      rintro e w1 (⟨hok, _⟩ | ⟨hok, rfl, hb⟩)
      · cases hok
      go_wp2_with fail
      go_ret2
      exact LsPost.of_ans (ans_no 2 (HB.out.trans (hb.mono HB.out.size)))
    · obtain ⟨rs, rfl, rfl, h8, hr, hrel, hl, hd, _⟩ := alphB_nats L xs n hn1 ha
      obtain ⟨vs, rfl, hv24, hvn⟩ := wordB_nats n us hu
      rw [show rvAns (n : Int) (ints rs) (ints vs) = _ from wAns_yes _ (n : Int) rs vs ha hu]
      have HU := Lib.hid hu
      have HDEP := Lib.hid ((depB_iff rs n hl hr).1 hd)
      rw [ints_len] at hm1
      have hm24 : m ≤ 24 := by omega
      have HM := Lib.hid hm1
      clear ha hu hl hm1
      go_enter Tryd.func66, Tryd.ntmps66
      go_wp2_with fail
      refine (dependenceWith_any _ _ _ _ _ _ rs _ _ hh hwf h8 hr hrel hd ht (by omega) hT1).mono ?_
      rw [okT_one, HU.out]
      rintro e w1 (⟨hok, A2, c2, rfl, ho, hb⟩ | ⟨hok, _⟩)
      rotate_left
      · cases hok
      have HB1 := Lib.hid (HB.out.trans (hb.mono HB.out.size))
      have hr2 := hh2.below hb
      have hrd := ho.rd
      have hT2 := hT1.below hb
      clear ho hb hok ht hh hh2 hT1 hT h h2
      have HLR : Hid (rs.length = n) := Lib.hid (by have := hrd.1; rw [ints_len] at this; exact this)
      have HLU : Hid (vs.reverse.length = m) := Lib.hid (by rw [List.length_reverse]; exact HM.out)
      have HVR : Hid (∀ p, p < m → vs.reverse.getD p 0 < n) := Lib.hid fun p hp => in_getD (n := n) (vs := vs.reverse) (fun u hu => hvn u (List.mem_reverse.1 hu)) p (by rw [HLU.out]; exact hp)
      have HR63 : Hid (∀ i, rs.getD i 0 < 9223372036854775808) := Lib.hid fun i => lt63 (by omega) (hr i)
      go_wp2_with fail
      refine (clone64_any A1 m d (ints vs) _ hr2 hm24).mono ?_
      rintro e w2 ⟨A3, c3, rfl, ho3, hb3⟩
      have HREV := Lib.hid (rev_any w1.heap.size m c3 A3 vs w2 ho3 (by omega))
      go_wp2_with fail
      refine HREV.out.mono ?_
      rintro e w3 ⟨rfl, ho4, hg4⟩
      have hb4 : Below w1.heap.size w1 w3 := hb3.grown hg4 hb3.size (fun r hr => (ho3.lt r hr).1)
      have HRD := Lib.hid (hrd.below hb4)
      have HRW := Lib.hid ho4.rd
      have HTT := Lib.hid (hT2.below hb4)
      have HBW := Lib.hid (HB1.out.trans (hb4.mono HB1.out.size))
      clear hb3 ho3 hg4 hb4 ho4 hrd hr2 hT2
      go_wp2_with fail
      refine (traceOf_any A2 A3 n m c2 c3 rs vs.reverse _ HRD.out HRW.out hm24 (by omega) HVR.out HR63.out HTT.out).mono ?_
      rintro e w5 ⟨A5, c5, B5, d5, es, rfl, hp, hs, h1, h2, -, -, hb5⟩
      have HNF := Lib.hid (nf_from A5 B5 c5 d5 m n rs vs.reverse es w5 HLR.out hr HDEP.out HLU.out HVR.out hm24 hp hs h1 h2 (HTT.out.below hb5))
      have HB5 := Lib.hid (HBW.out.trans (hb5.mono HBW.out.size))
      clear hp hs h1 h2 hb5
      go_wp2_with fail
      refine HNF.out.mono ?_
      rintro e w6 ⟨A6, c6, rfl, ho6, hb6⟩
      go_wp2_with fail
      go_ret2
      exact LsPost.of_ans (ans_yes ho6.len (ho6.mono HB5.out.size) (HB5.out.trans (hb6.mono HB5.out.size)))
end Go.Proofs.YtcojodkcpemfdaaDoor
namespace Go.Proofs.YtcojodkcpemfdaaDoor
open Go Go.RowKit
set_option linter.unusedVariables false

theorem free_at (D : Nat → Nat → Bool) (c : Nat) : ∀ us : List Nat, freeB D us c = true ↔ ∃ k, k < us.length ∧ us.getD k 0 = c ∧ ∀ j, j < k → us.getD j 0 ≠ c ∧ D (us.getD j 0) c = false
  | [] => ⟨fun h => by simp [freeB] at h, fun ⟨k, h, _⟩ => by simp at h⟩
  | b :: us => by
    by_cases hb : b = c
    · refine ⟨fun _ => ⟨0, by simp, by simpa using hb, fun j hj => absurd hj (by omega)⟩, fun _ => ?_⟩
      show (if b = c then true else if D b c then false else freeB D us c) = true
      rw [if_pos hb]
    · have e : freeB D (b :: us) c = if D b c then false else freeB D us c := by
        show (if b = c then true else if D b c then false else freeB D us c) = _
        rw [if_neg hb]
      rw [e]
      cases hd : D b c with
      | true =>
        refine ⟨fun h => by simp at h, fun ⟨k, hk, hkc, hall⟩ => ?_⟩
        rcases k with _ | k
        · exact absurd (by simpa using hkc) hb
        · have := (hall 0 (by omega)).2
          simp [hd] at this
      | false =>
        rw [if_neg (by decide), free_at D c us]
        constructor
        · rintro ⟨k, hk, hkc, hall⟩
          refine ⟨k + 1, by simp; omega, by simpa using hkc, fun j hj => ?_⟩
          rcases j with _ | j
          · exact ⟨by simpa using hb, by simpa using hd⟩
          · have := hall j (by omega)
            simpa using this
        · rintro ⟨k, hk, hkc, hall⟩
          rcases k with _ | k
          · exact absurd (by simpa using hkc) hb
          · refine ⟨k, by simp at hk; omega, by simpa using hkc, fun j hj => ?_⟩
            have := hall (j + 1) (by omega)
            simpa using this
theorem padTo_zero (out : List Nat) (h : Nat) : (padTo out h).getD 0 0 = out.getD 0 0 := by
  unfold padTo
  cases out with
  | nil =>
    rw [List.nil_append, List.getD_eq_getElem?_getD, List.getElem?_replicate]
    split <;> rfl
  | cons b r => rfl
theorem hgt_first (rs us : List Nat) (k : Nat) : hgt rs us k = 1 ↔ ∀ j, j < k → RDep rs (us.getD j 0) (us.getD k 0) = false := by
  constructor
  · intro h j hj
    cases hd : RDep rs (us.getD j 0) (us.getD k 0) with
    | false => rfl
    | true =>
      have h1 := hgt_ge rs us k j hj hd
      have h2 := hgt_pos rs us j
      omega
  · intro h
    rcases hgt_or rs us k with h1 | ⟨j, hj, hd, _⟩
    · exact h1
    · have := h j hj
      unfold RDep at this
      rw [hd] at this; cases this
theorem foTo_first (rs us : List Nat) (c : Nat) : ∀ i, i ≤ us.length → (((foTo rs us i).getD 0 0).testBit c = true ↔ ∃ k, k < i ∧ us.getD k 0 = c ∧ hgt rs us k = 1)
  | 0, _ => ⟨fun h => by simp [foTo] at h, fun ⟨k, h, _⟩ => by omega⟩
  | i + 1, hi => by
    have ih := foTo_first rs us c i (by omega)
    have hp := hgt_pos rs us i
    have e : (foTo rs us (i + 1)).getD 0 0 = if hgt rs us i = 1 then (foTo rs us i).getD 0 0 ||| 2 ^ us.getD i 0 else (foTo rs us i).getD 0 0 := by
      show (foPut (foTo rs us i) (hgt rs us i) (us.getD i 0)).getD 0 0 = _
      unfold foPut
      have hpl : hgt rs us i - 1 < (padTo (foTo rs us i) (hgt rs us i)).length := by rw [padTo_len]; omega
      rw [getD_set _ _ _ _ hpl]
      by_cases h1 : hgt rs us i = 1
      · rw [if_pos (by omega), if_pos h1, show hgt rs us i - 1 = 0 by omega, padTo_zero]
      · rw [if_neg (by omega), if_neg h1, padTo_zero]
    rw [e]
    by_cases h1 : hgt rs us i = 1
    · rw [if_pos h1, Nat.testBit_or, Bool.or_eq_true, ih, Nat.testBit_two_pow]
      constructor
      · rintro (⟨k, hk, h2, h3⟩ | h2)
        · exact ⟨k, by omega, h2, h3⟩
        · exact ⟨i, by omega, by simpa using h2, h1⟩
      · rintro ⟨k, hk, h2, h3⟩
        by_cases hki : k = i
        · subst hki; right; simpa using h2
        · left; exact ⟨k, by omega, h2, h3⟩
    · rw [if_neg h1, ih]
      constructor
      · rintro ⟨k, hk, h2, h3⟩; exact ⟨k, by omega, h2, h3⟩
      · rintro ⟨k, hk, h2, h3⟩
        by_cases hki : k = i
        · subst hki; exact absurd h3 h1
        · exact ⟨k, by omega, h2, h3⟩
/-- The first step of the Foata form holds the first letters. -/
theorem foM_first (rs us : List Nat) (n : Nat) (hl : rs.length = n) (href : ∀ a, a < n → RDep rs a a = true) (hu : ∀ x, x ∈ us → x < n) : (foM rs us).getD 0 0 = flN rs us := by
  refine nat_ext (n := n) ?_ ?_ fun c hc => ?_
  · exact foTo_lt rs us n hu us.length (Nat.le_refl _) 0
  · have := firstM_lt (RDep rs) rs.length us
    rw [hl] at this
    unfold flN
    rw [hl]; exact this
  · have h1 := foTo_first rs us c us.length (Nat.le_refl _)
    have h2 : (flN rs us).testBit c = true ↔ c < n ∧ freeB (RDep rs) us c = true := by
      unfold flN firstM
      rw [mkM_bit, hl]
    show ((foTo rs us us.length).getD 0 0).testBit c = true ↔ _
    rw [h1, h2, free_at]
    constructor
    · rintro ⟨k, hk, h3, h4⟩
      refine ⟨hc, k, hk, h3, fun j hj => ?_⟩
      have h5 := (hgt_first rs us k).1 h4 j hj
      rw [h3] at h5
      refine ⟨fun e => ?_, h5⟩
      rw [e, href c hc] at h5; cases h5
    · rintro ⟨_, k, hk, h3, h4⟩
      refine ⟨k, hk, h3, (hgt_first rs us k).2 fun j hj => ?_⟩
      rw [h3]; exact (h4 j hj).2
theorem firstM_eqv (D : Nat → Nat → Bool) (n : Nat) (href : ∀ a, a < n → D a a = true) (u v : List Nat) (h : Eqv D u v) : firstM D n u = firstM D n v := by
  refine nat_ext (n := n) (firstM_lt _ _ _) (firstM_lt _ _ _) fun c hc => ?_
  unfold firstM
  rw [mkM_bit, mkM_bit, h.free (href c hc)]
theorem cut_one (D : Nat → Nat → Bool) (a : Nat) (us : List Nat) : (cutM D [a] us).isSome = freeB D us a := by
  cases h : freeB D us a with
  | false => rw [cut_no D a [] us h]; rfl
  | true => rw [cut_yes D a [] us h]; rfl
/-- The last letters are the first letters of the reverse. -/
theorem last_rev (rs us : List Nat) (n : Nat) (hl : rs.length = n) (hdep : Dep rs) (hr : ∀ i, rs.getD i 0 < 2 ^ n) (hu : ∀ x, x ∈ us → x < n) : flN rs (rvR rs us) = llN rs us := by
  have hsym : ∀ a b, RDep rs a b = RDep rs b a := rdep_sym rs n hl hr hdep
  have href : ∀ a, a < n → RDep rs a a = true := fun a ha => hdep.1 a (by omega)
  unfold flN llN rvR
  rw [hl]
  exact firstM_eqv _ n href _ _ (nfR_eqv2 rs n hl hsym href us.reverse (fun x hx => hu x (List.mem_reverse.1 hx)))
end Go.Proofs.YtcojodkcpemfdaaDoor
