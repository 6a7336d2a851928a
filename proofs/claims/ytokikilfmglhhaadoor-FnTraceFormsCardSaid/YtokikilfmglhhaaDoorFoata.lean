/-
  The steps of the trace of a word: the program's side.
-/
import Derived.Test.YtokikilfmglhhaaDoorFoM
import Derived.Deep.CutRange
namespace Go.Proofs.YtokikilfmglhhaaDoor
open Go.RowKit
set_option linter.unusedVariables false
set_option maxRecDepth 100000

theorem info_gint : (Tryd.prog.info? 3).map (fun i => (i.zero, i.size, i.bytes)) = some (some (.int .i64 0), 1, 8) := by kernel_rfl
theorem max_nat (a b : Nat) : (if a < b then (b : Int) else (a : Int)) = ((max a b : Nat) : Int) := by split <;> omega
set_option maxHeartbeats 6400000 in
theorem steps_prog (A A1 : Option Addr) (n c m d : Nat) (rs us : List Nat) (w : World) (h : Rd w A n (ints rs)) (hn : n ≤ 8) (hr : ∀ i, rs.getD i 0 < 2 ^ n) (hd : Dep rs) (h2 : Rd w A1 m (ints us)) (hm : m ≤ 24) (hu : ∀ u, u ∈ us → u < n) (hT : Tab w) :
    Calls Tryd.prog 60 #[.slice A n c, .slice A1 m d] w (MakesE 102 w (foM rs us).length (ints (foM rs us))) := by
  have hlen : rs.length = n := by have := h.1; rw [ints_len] at this; exact this
  have hmlen : us.length = m := by have := h2.1; rw [ints_len] at this; exact this
  have HL := Lib.hid hlen
  have HM := Lib.hid hmlen
  have HU := Lib.hid hu
  have HDEP := Lib.hid hd
  obtain ⟨i0, hi, hz0, hz1, hz2⟩ := info_parts info_set
  obtain ⟨i1, hi1, hy0, hy1, hy2⟩ := info_parts info_gint
  have hml : n ≤ maxLen := by unfold maxLen; omega
  have hby : i1.bytes * n ≤ 281474976710656 := by rw [hy2]; omega
  clear hlen hmlen hu hd
  go_enter Tryd.func60, Tryd.ntmps60
  go_wp2_with (first | (at_make; refine wpList_make_full _ rfl _ _ _ rfl w.heap.size 3 i1 (.int .i64 0) 1 Tryd.underlying113 hi1 hy0 hy1 _ _ (n : Int) (n : Int) n rfl rfl rfl rfl hby hml (Nat.le_refl _) ?_; intro w1 hown0 hg1))
  have hown := own_made hown0
  clear hown0
  have HSZ : Hid (w.heap.size < w1.heap.size) := Lib.hid (hown.lt w.heap.size rfl).2
  have hb1 : Below w.heap.size w w1 := (Below.refl _ _).grown hg1 (Nat.le_refl _) (by simp)
  clear hg1
  go_loopw [5, 17] (fun v q wr => ∃ (i : Nat) (hb : List Nat) (A5 : Option Addr) (c5 : Nat), i ≤ m ∧ q = .int .i64 i ∧ v = .slice A5 (foTo rs us i).length c5 ∧ Own 102 wr w1.heap.size A5 (foTo rs us i).length c5 (ints (foTo rs us i)) ∧ Own 3 wr w.heap.size (some ⟨w.heap.size, 0, none⟩) n n (ints hb) ∧ HInv rs us n i hb ∧ Below w.heap.size w wr ∧ w1.heap.size ≤ wr.heap.size) (fun _ q _ => m - (intOf q).toNat)
  case atStart => exact ⟨0, List.replicate n 0, none, 0, Nat.zero_le _, rfl, rfl, Own.nil _ _ _, hown, hinv_zero rs us n, hb1, Nat.le_refl _⟩
  case round =>
    clear hown hb1
    obtain ⟨i, hb, A5, c5, hi5, rfl, rfl, ho, hoh, hinv, hbw, hsz⟩ := hrel
    have HI := Lib.hid hinv
    by_cases hlt : i < m
    · obtain ⟨b, off, x, rfl, hbs, hx, hcx⟩ := (h2.below hbw).at_ hlt
      obtain ⟨a, ha, rfl⟩ := ints_at? us i x hx
      have han := HU.out a (List.mem_of_getElem? ha)
      have hag : us.getD i 0 = a := by rw [List.getD_eq_getElem?_getD, ha]; rfl
      obtain ⟨b2, off2, x2, rfl, hbs2, hx2, hcx2⟩ := (h.below hbw).at_ han
      have hx3 := ints_getD rs a (by rw [HL.out]; exact han)
      rw [hx3] at hx2
      injection hx2 with hx2
      subst hx2
      have hmx := hgt_mx rs us hb n i HL.out (by omega) hr HDEP.out HU.out (by rw [HM.out]; exact hlt) hinv
      have hnx := hinv_next HL.out HDEP.out HU.out (by rw [HM.out]; exact hlt) hinv
      have h1 := hgt_one rs us i
      have hlt24 := hr a
      have hlen5 := foTo_len rs us i
      rw [hag] at hmx hnx
      obtain ⟨D, hD⟩ : ∃ D, D = rs.getD a 0 := ⟨_, rfl⟩
      rw [← hD] at hcx2 hmx hlt24
      have hD24 : D < 16777216 := by have := p24 n (by omega); omega
      have hmsn : ∀ b, b ∈ bitsOf D → b < n := fun b hb => bit_lt hlt24 ((bitsOf_mem D b).1 hb).2
      obtain ⟨ms, hms⟩ : ∃ ms, ms = bitsOf D := ⟨_, rfl⟩
      have hmem := members_any D hD24
      have hml24 := bitsOf_len D
      rw [← hms] at hmx hmsn hmem hml24
      have hmll : ms.length ≤ 24 := hml24
      have HMX := Lib.hid hmx
      have HNX := Lib.hid hnx
      have HMSN := Lib.hid hmsn
      have HMEM := Lib.hid hmem
      clear hx ha hx3 hD hms hmsn hmem hinv hmx hnx
      obtain ⟨wo, rfl⟩ : ∃ wo : World, wo = wr := ⟨_, rfl⟩
      go_wp2_with fail
      refine (HMEM.out _ (hT.below hbw)).mono ?_
      rintro e w3 ⟨A3, c3, rfl, ho3, hb3⟩
      have hr3 := ho3.rd
      have hoh3 := hoh.below hb3
      have ho5 := ho.below hb3
      have hbw3 := hbw.trans (hb3.mono hbw.size)
      have hsz3 : w1.heap.size ≤ w3.heap.size := Nat.le_trans hsz hb3.size
      clear ho3 hb3 ho hoh hcx hcx2
      go_wp2_with fail
      go_loop [9, 27] (fun v q => ∃ t : Nat, t ≤ ms.length ∧ q = .int .i64 t ∧ v = .int .i64 (mxTo hb ms t)) (fun _ q => ms.length - (intOf q).toNat)
      case atStart => exact ⟨0, Nat.zero_le _, rfl, rfl⟩
      case round =>
        obtain ⟨t, ht, rfl, rfl⟩ := hrel
        by_cases hlt2 : t < ms.length
        · obtain ⟨b3, off3, x3, e3, hbs3, hx3, hcx3⟩ := hr3.at_ hlt2
          subst e3
          have hx4 := ints_getD ms t hlt2
          rw [hx4] at hx3
          injection hx3 with hx3
          subst hx3
          have hbn := HMSN.out _ (getD_mem ms t hlt2)
          obtain ⟨gh, eh, _, hcellh, _, _⟩ := own_stored hoh3 hbn
          cases eh
          have hmn : mxTo hb ms (t + 1) = max (mxTo hb ms t) (hb.getD (ms.getD t 0) 0) := rfl
          obtain ⟨Y, hY⟩ : ∃ Y, Y = hb.getD (ms.getD t 0) 0 := ⟨_, rfl⟩
          rw [← hY] at hmn hcellh
          obtain ⟨b9, hb9⟩ : ∃ b9, b9 = ms.getD t 0 := ⟨_, rfl⟩
          rw [← hb9] at hcx3 hbn hcellh
          obtain ⟨Z, hZ⟩ : ∃ Z, Z = mxTo hb ms t := ⟨_, rfl⟩
          rw [← hZ] at hmn ⊢
          obtain ⟨V, hV⟩ : ∃ V, V = mxTo hb ms (t + 1) := ⟨_, rfl⟩
          rw [← hV] at hmn
          have HV := Lib.hid hV
          have HMN := Lib.hid hmn
          clear hx4 hY hb9 hZ hV hmn
          go_wp2_with fail
          go_round
          case rel => exact ⟨t + 1, by omega, by go_num, by rw [← HV.out]; congr 1; have := HMN.out; split <;> omega⟩
          case measure => simp [intOf]; omega
        · obtain rfl : t = ms.length := by omega
          obtain ⟨H, hH⟩ : ∃ H, H = mxTo hb ms ms.length := ⟨_, rfl⟩
          have HH : Hid (hgt rs us i = H + 1) := Lib.hid (by rw [HMX.out, hH])
          rw [← hH]
          have HLTo := Lib.hid (foTo_lt rs us n HU.out i (by rw [HM.out]; omega))
          have HFO1 : Hid (foTo rs us (i + 1) = foPut (foTo rs us i) (H + 1) a) := Lib.hid (by rw [← HH.out, ← hag]; rfl)
          rw [HH.out] at h1
          obtain ⟨FO, hFO⟩ : ∃ FO, FO = foTo rs us i := ⟨_, rfl⟩
          rw [← hFO] at ho5 h1 hlen5 HFO1 HLTo ⊢
          obtain ⟨K, hK⟩ : ∃ K, K = FO.length := ⟨_, rfl⟩
          rw [← hK] at ho5 h1 hlen5 ⊢
          have HK := Lib.hid hK
          clear hH hFO hK hr3 HMEM
          by_cases hq : H = K
          · subst hq
            have hq1 : ((H : Int) == (H : Int)) = true := by simp
            have HPAD : Hid (padTo FO (H + 1) = FO ++ [0]) := Lib.hid (by rw [padTo_next _ _ (by rw [← HK.out]; omega), padTo_same _ _ (by rw [List.length_append, ← HK.out]; exact Nat.le_refl _)])
            have HLT2 := Lib.hid (fun k => by have := padTo_lt FO (H + 1) n HLTo.out k; rw [HPAD.out] at this; exact this)
            have hml2 : H + 1 ≤ maxLen := by unfold maxLen; omega
            have hby2 : (H + 1) * 8 ≤ 140737488355328 := by omega
            have HKA : Hid ((FO ++ [0]).length = H + 1) := Lib.hid (by rw [List.length_append, ← HK.out]; rfl)
            go_wp2_with (at_builtin; refine wpList_append_own _ rfl _ _ 58 rfl w1.heap.size 102 i0 (.int .i64 0) 1 8 Tryd.underlying58 hi hz0 hz1 hz2 rfl (by decide) (.slice A5 H c5) H ((ints FO).map (Value.int .i64)) rfl (World.ownsRow.alloc ho5 _) ⟨w3.heap.size, 0, none⟩ 1 1 [.int .i64 0] rfl rfl ?s1 ?s2 hml2 hby2 ?s5 ?_)
            case s2 => first | rfl | (intro u hu; simp at hu; subst hu; rfl)
            case s5 => first | omega | (simp; omega)
            intro v' w4 hown hg _
            have hz : (Value.int .i64 0) = Value.int .i64 ((0 : Nat) : Int) := rfl
            rw [hz, ints_snoc_map] at hown
            obtain ⟨A6, c6, hv, ho6⟩ := own_shape hown
            rw [hv]
            have hapart0 : ∀ q, (some (⟨w.heap.size, 0, none⟩ : Addr)).map (·.block) = some q → (Value.slice A5 H c5).ownBlock = some q → False := fun q hq e9 => by
              have h9 := (World.ownsRow.lt ho5 q e9).1
              have hq2 : w.heap.size = q := by injection hq
              have := HSZ.out; omega
            have hoh6 := (hoh3.below (below1 w3 _)).apart hg (fun q hq e9 => hapart0 q hq e9)
            have hbw6 : Below w.heap.size w w4 := (hbw3.alloc hbw3.size _).grown hg (by have := hbw3.size; simp; omega) (fun q hq => by have h9 := (World.ownsRow.lt ho5 q hq).1; have := HSZ.out; omega)
            have hsz6 : w1.heap.size ≤ w4.heap.size := by have := hg.size; simp at this; omega
            clear hown hg hv hz ho5 hoh3 hbw3 hapart0
            obtain ⟨g5, e5, hg5, hcell, hfr, hset⟩ := own_stored ho6 (k := H) (by omega)
            subst e5
            have hvv := HLT2.out H
            obtain ⟨X, hX⟩ : ∃ X, X = (FO ++ [0]).getD H 0 := ⟨_, rfl⟩
            rw [← hX] at hcell hvv
            have HPUT : Hid (foPut FO (H + 1) a = (FO ++ [0]).set H (X ||| 2 ^ a)) := Lib.hid (by unfold foPut; rw [HPAD.out, hX]; rfl)
            have hX63 : X < 9223372036854775808 := by have := p24 n (by omega); omega
            have ha62 : a ≤ 62 := by omega
            have hwith := with_any X a hX63 ha62
            obtain ⟨V, hV⟩ : ∃ V, V = X ||| 2 ^ a := ⟨_, rfl⟩
            rw [← hV] at HPUT hwith
            have ho7 := hset V
            rw [← HPUT.out] at ho7
            have HWITH := Lib.hid hwith
            clear hset hX hV hwith
            have hapart1 : ∀ q, (some (⟨w.heap.size, 0, none⟩ : Addr)).map (·.block) = some q → some g5 = some q → False := fun q hq e9 => by
              have hq2 : w.heap.size = q := by injection hq
              have hq3 : g5 = q := by injection e9
              have := HSZ.out; omega
            have hapart2 : ∀ q, (some (⟨g5, 0, none⟩ : Addr)).map (·.block) = some q → some w.heap.size = some q → False := fun q hq e9 => by
              have hq2 : g5 = q := by injection hq
              have hq3 : w.heap.size = q := by injection e9
              have := HSZ.out; omega
            have hoh7 := hoh6.apart (grown_set (World.grownBy.refl w4 (some g5)) H (.int .i64 (V : Int))) (fun q hq e9 => hapart1 q hq e9)
            have hb7 := hbw6.setCell (p := ⟨g5, H, none⟩) (by show w.heap.size ≤ g5; have := HSZ.out; omega) (.int .i64 (V : Int))
            obtain ⟨gh', eh', _, hcell3, hfr3, hset3⟩ := own_stored hoh7 (k := a) han
            cases eh'
            have hoh8 := hset3 (H + 1)
            rw [Int.natCast_succ] at hoh8
            have ho8 := ho7.apart (grown_set (World.grownBy.refl (w4.setCell ⟨g5, H, none⟩ (.int .i64 (V : Int))) (some w.heap.size)) a (.int .i64 ((H : Int) + 1))) (fun q hq e9 => hapart2 q hq e9)
            have hb8 := hb7.setCell (p := ⟨w.heap.size, a, none⟩) (Nat.le_refl _) (.int .i64 ((H : Int) + 1))
            have hH63 : H ≤ 24 := by omega
            have HFL : Hid ((foTo rs us (i + 1)).length = H + 1) := Lib.hid (by rw [HFO1.out, HPUT.out, List.length_set]; exact HKA.out)
            obtain ⟨w5, hw5⟩ : ∃ w5, w5 = w4.setCell ⟨g5, H, none⟩ (.int .i64 (V : Int)) := ⟨_, rfl⟩
            rw [← hw5] at hcell3 hfr3 hoh8 ho8 hb8
            have hsz8 : w1.heap.size ≤ (w5.setCell ⟨w.heap.size, a, none⟩ (.int .i64 ((H : Int) + 1))).heap.size := by rw [World.size_setCell, hw5, World.size_setCell]; exact hsz6
            clear hset3 hoh6 ho6 hoh7 hb7 ho7 hapart1 hapart2
            go_wp2_with fail
            refine (HWITH.out _).mono ?_
            rintro e w' ⟨rfl, rfl⟩
            go_upto_region 15 with fail
            rw [← hw5]
            clear hw5 hcell hfr
            go_wp2_with fail
            go_roundw
            case rel => exact ⟨i + 1, hb.set a (H + 1), _, _, by omega, by go_num, by rw [HFL.out], by rw [HFL.out, HFO1.out]; exact ho8, hoh8, by rw [← HH.out]; exact HNX.out, hb8, hsz8⟩
            case measure => simp [intOf]; omega
          · have hq1 : ((H : Int) == (K : Int)) = false := by simp; omega
            have hq9 : H < K := by omega
            clear hq
            have HPAD : Hid (padTo FO (H + 1) = FO) := Lib.hid (padTo_same _ _ (by rw [← HK.out]; omega))
            have HLT2 := HLTo
            have HKA : Hid (FO.length = K) := Lib.hid HK.out.symm
            obtain ⟨w4, rfl⟩ : ∃ w4 : World, w4 = w3 := ⟨_, rfl⟩
            have ho6 := ho5
            have hoh6 := hoh3
            have hbw6 := hbw3
            have hsz6 := hsz3
            clear ho5 hoh3 hbw3
            obtain ⟨g5, e5, hg5, hcell, hfr, hset⟩ := own_stored ho6 (k := H) (by omega)
            subst e5
            have hvv := HLT2.out H
            obtain ⟨X, hX⟩ : ∃ X, X = FO.getD H 0 := ⟨_, rfl⟩
            rw [← hX] at hcell hvv
            have HPUT : Hid (foPut FO (H + 1) a = FO.set H (X ||| 2 ^ a)) := Lib.hid (by unfold foPut; rw [HPAD.out, hX]; rfl)
            have hX63 : X < 9223372036854775808 := by have := p24 n (by omega); omega
            have ha62 : a ≤ 62 := by omega
            have hwith := with_any X a hX63 ha62
            obtain ⟨V, hV⟩ : ∃ V, V = X ||| 2 ^ a := ⟨_, rfl⟩
            rw [← hV] at HPUT hwith
            have ho7 := hset V
            rw [← HPUT.out] at ho7
            have HWITH := Lib.hid hwith
            clear hset hX hV hwith
            have hapart1 : ∀ q, (some (⟨w.heap.size, 0, none⟩ : Addr)).map (·.block) = some q → some g5 = some q → False := fun q hq e9 => by
              have hq2 : w.heap.size = q := by injection hq
              have hq3 : g5 = q := by injection e9
              have := HSZ.out; omega
            have hapart2 : ∀ q, (some (⟨g5, 0, none⟩ : Addr)).map (·.block) = some q → some w.heap.size = some q → False := fun q hq e9 => by
              have hq2 : g5 = q := by injection hq
              have hq3 : w.heap.size = q := by injection e9
              have := HSZ.out; omega
            have hoh7 := hoh6.apart (grown_set (World.grownBy.refl w4 (some g5)) H (.int .i64 (V : Int))) (fun q hq e9 => hapart1 q hq e9)
            have hb7 := hbw6.setCell (p := ⟨g5, H, none⟩) (by show w.heap.size ≤ g5; have := HSZ.out; omega) (.int .i64 (V : Int))
            obtain ⟨gh', eh', _, hcell3, hfr3, hset3⟩ := own_stored hoh7 (k := a) han
            cases eh'
            have hoh8 := hset3 (H + 1)
            rw [Int.natCast_succ] at hoh8
            have ho8 := ho7.apart (grown_set (World.grownBy.refl (w4.setCell ⟨g5, H, none⟩ (.int .i64 (V : Int))) (some w.heap.size)) a (.int .i64 ((H : Int) + 1))) (fun q hq e9 => hapart2 q hq e9)
            have hb8 := hb7.setCell (p := ⟨w.heap.size, a, none⟩) (Nat.le_refl _) (.int .i64 ((H : Int) + 1))
            have hH63 : H ≤ 24 := by omega
            have HFL : Hid ((foTo rs us (i + 1)).length = K) := Lib.hid (by rw [HFO1.out, HPUT.out, List.length_set]; exact HKA.out)
            obtain ⟨w5, hw5⟩ : ∃ w5, w5 = w4.setCell ⟨g5, H, none⟩ (.int .i64 (V : Int)) := ⟨_, rfl⟩
            rw [← hw5] at hcell3 hfr3 hoh8 ho8 hb8
            have hsz8 : w1.heap.size ≤ (w5.setCell ⟨w.heap.size, a, none⟩ (.int .i64 ((H : Int) + 1))).heap.size := by rw [World.size_setCell, hw5, World.size_setCell]; exact hsz6
            clear hset3 hoh6 ho6 hoh7 hb7 ho7 hapart1 hapart2
            go_wp2_with fail
            refine (HWITH.out _).mono ?_
            rintro e w' ⟨rfl, rfl⟩
            go_upto_region 15 with fail
            rw [← hw5]
            clear hw5 hcell hfr
            go_wp2_with fail
            go_roundw
            case rel => exact ⟨i + 1, hb.set a (H + 1), _, _, by omega, by go_num, by rw [HFL.out], by rw [HFL.out, HFO1.out]; exact ho8, hoh8, by rw [← HH.out]; exact HNX.out, hb8, hsz8⟩
            case measure => simp [intOf]; omega
    · obtain rfl : i = m := by omega
      have e9 : foTo rs us i = foM rs us := by unfold foM; rw [HM.out]
      rw [e9] at ho ⊢
      clear e9
      obtain ⟨K, hK⟩ : ∃ K, K = (foM rs us).length := ⟨_, rfl⟩
      have HK := Lib.hid hK
      rw [← hK] at ho ⊢
      clear hK hinv
      go_wp2_with fail
      go_ret
      rw [HK.out] at ho ⊢
      exact ⟨_, _, rfl, ho.mono (by have := HSZ.out; omega), hbw⟩
end Go.Proofs.YtokikilfmglhhaaDoor
