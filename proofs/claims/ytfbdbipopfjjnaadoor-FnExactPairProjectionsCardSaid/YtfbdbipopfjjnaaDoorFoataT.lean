/-
  The steps of a word: the model's side.
-/
import Derived.Test.YtfbdbipopfjjnaaDoorFoataS
import Derived.StillTailTactics
namespace Go.Proofs.YtfbdbipopfjjnaaDoor
open Go.RowKit
set_option linter.unusedVariables false
set_option linter.unusedSimpArgs false
set_option maxRecDepth 100000

theorem Rd.far2 {w w' : World} {A : Option Addr} {n : Nat} {xs : List Int} (h : Rd w A n xs) {row : Option Nat} (hg : w.grownBy w' row) (hne : ∀ b, 0 < n → A.map (·.block) = some b → row ≠ some b) : Rd w' A n xs :=
  ⟨h.1, fun hn => by
    obtain ⟨b, off, e, hb, hc⟩ := h.2 hn
    refine ⟨b, off, e, Nat.lt_of_lt_of_le hb hg.size, fun j x hx => ?_⟩
    have h1 := hg.block b hb (fun e2 => hne b hn (by rw [e]; rfl) e2.symm)
    rw [← hc j x hx]
    unfold World.cell?
    rw [h1]⟩
def lenOf : Value → Nat
  | .slice _ n _ => n
  | _ => 0
set_option maxHeartbeats 6400000 in
theorem foata_spec (A A1 : Option Addr) (n c m d : Nat) (rs us : List Nat) (w : World) (h : Rd w A n (ints rs)) (hn : n ≤ 8) (hr : ∀ i, rs.getD i 0 < 2 ^ n) (h2 : Rd w A1 m (ints us)) (hm : m ≤ 24) (hu : ∀ u, u ∈ us → u < n) :
    Calls Tryd.prog 52 #[.agg #[.int .i64 (n : Int), .slice A n c], .slice A1 m d] w (MakesE 2 w (foM rs us).length (ints (foM rs us))) := by
  have hmlen : us.length = m := by have := h2.1; rw [ints_len] at this; exact this
  have HM := Lib.hid hmlen
  have HU := Lib.hid hu
  have HFM : Hid (foTo rs us m = foM rs us) := Lib.hid (by unfold foM; rw [hmlen])
  clear hmlen
  obtain ⟨i0, hi, hz0, hz1, hz2⟩ := info_parts info_int
  have HB := Lib.hid (below1 w (.cells #[.int .i64 (n : Int), .slice A n c] 28))
  have hh := h.below HB.out
  have hh2 := h2.below HB.out
  have x0 := box_new 28 w (n : Int) A n c
  have hsz := size1' w (.cells #[.int .i64 (n : Int), .slice A n c] 28)
  obtain ⟨w1, hw1⟩ : ∃ w1, w1 = w.alloc (.cells #[.int .i64 (n : Int), .slice A n c] 28) := ⟨_, rfl⟩
  rw [← hw1] at hh hh2 x0 hsz
  have HB1 := Lib.hid (show Below w.heap.size w w1 by rw [hw1]; exact HB.out)
  have h9 : Own 2 (w1.alloc (.cells #[] 2)) w1.heap.size (some ⟨w1.heap.size, 0, none⟩) 0 0 [] := World.ownsRow_lit w1 #[] 0 (Nat.le_refl _) (by unfold maxLen; omega) rfl
  have hbl := below1 w1 (.cells #[] 2)
  obtain ⟨w2, hw2⟩ : ∃ w2, w2 = w1.alloc (.cells #[] 2) := ⟨_, rfl⟩
  rw [← hw2] at h9 hbl
  have hht := heights_spec A A1 n c m d rs us w2 (hh.below hbl) hn hr (hh2.below hbl) hm hu
  have hblk := (h9.lt w1.heap.size rfl).2
  rw [show (⟨w1.heap.size, 0, none⟩ : Addr) = ⟨w.heap.size + 1, 0, none⟩ by rw [hsz]] at h9
  have x2 := x0.next hbl
  have y0 := x2.c0
  have y1 := x2.c1
  have HBL := Lib.hid hbl
  have HSZ := Lib.hid hsz
  clear HB hsz h h2 hbl
  go_enter Tryd.func52, Tryd.ntmps52
  go_wp2_with fail
  rw [← hw1, ← hw2]
  clear hw1 hw2
  refine hht.mono ?_
  clear hht
  rintro e w3 ⟨AH, cH, rfl, hoH, hb3⟩
  have hrH := hoH.rd
  have hb13 := HBL.out.trans (hb3.mono HBL.out.size)
  have h93 := h9.below hb3
  have hr13 := hh2.below hb13
  have HBW : Hid (∀ q, 0 < m → A1.map (·.block) = some q → q < w3.heap.size) := Lib.hid (fun q hm0 hq => by
    obtain ⟨b, off, e, hb9, _⟩ := hr13.2 hm0
    rw [e] at hq
    injection hq with hq
    exact hq ▸ hb9)
  have HLTH : Hid (∀ q, AH.map (·.block) = some q → w2.heap.size ≤ q ∧ q < w3.heap.size) := Lib.hid (fun q hq => hoH.lt q hq)
  have HB13 := Lib.hid hb13
  have hs13 := hb3.size
  clear hoH hb3 y0 y1 hb13
  go_wp2_with fail
  go_loopw [5, 7] (fun v q wr => ∃ (i : Nat) (A5 : Option Addr) (c5 : Nat), i ≤ m ∧ q = .int .i64 i ∧ v = .slice A5 (foTo rs us i).length c5 ∧ ((i = 0 ∧ A5 = some ⟨w.heap.size + 1, 0, none⟩ ∧ c5 = 0 ∧ Own 2 wr w1.heap.size A5 0 0 []) ∨ (Own 2 wr w3.heap.size A5 (foTo rs us i).length c5 (ints (foTo rs us i)))) ∧ Rd wr AH m (ints (hgts rs us m)) ∧ Rd wr A1 m (ints us) ∧ Below w1.heap.size w1 wr ∧ w3.heap.size ≤ wr.heap.size) (fun _ q _ => m - (intOf q).toNat)
  case atStart => exact ⟨0, some ⟨w.heap.size + 1, 0, none⟩, 0, Nat.zero_le _, rfl, rfl, .inl ⟨rfl, rfl, rfl, h93⟩, hrH, hr13, HB13.out, Nat.le_refl _⟩
  case round =>
    obtain ⟨i, A5, c5, hi5, rfl, rfl, ho, hrh, hrw, hb, hs⟩ := hrel
    by_cases hlt : i < m
    · obtain ⟨b, off, x, rfl, hbs, hx, hcx⟩ := hrw.at_ hlt
      obtain ⟨a, ha, rfl⟩ := ints_at? us i x hx
      have han := HU.out a (List.mem_of_getElem? ha)
      have hag : us.getD i 0 = a := by rw [List.getD_eq_getElem?_getD, ha]; rfl
      obtain ⟨b2, off2, x2, rfl, hbs2, hx2, hcx2⟩ := hrh.at_ hlt
      have hx3 := ints_getD (hgts rs us m) i (by rw [hgts_len]; exact hlt)
      rw [hx3, hgts_get rs us m i hlt] at hx2
      injection hx2 with hx2
      subst hx2
      have hpos := hgt_pos rs us i
      have hone := hgt_one rs us i
      have hlen := foTo_len rs us i
      have hlt2 := foTo_lt rs us n HU.out i (by rw [HM.out]; omega)
      have hnext : foTo rs us (i + 1) = foPut (foTo rs us i) (hgt rs us i) a := by rw [← hag]; rfl
      obtain ⟨H, hH⟩ : ∃ H, hgt rs us i = H + 1 := ⟨hgt rs us i - 1, by omega⟩
      have HH := Lib.hid hH
      have HAU := Lib.hid hx
      rw [hH] at hcx2 hone hnext
      obtain ⟨FO, hFO⟩ : ∃ FO, FO = foTo rs us i := ⟨_, rfl⟩
      rw [← hFO] at ho hone hlen hlt2 hnext ⊢
      have hFO0 : i = 0 → FO = [] := fun e => by rw [hFO, e]; rfl
      have HF0 := Lib.hid hFO0
      have HN := Lib.hid hnext
      have HL2 := Lib.hid hlt2
      rw [Int.natCast_succ] at hcx2
      clear hx ha hag hx3 hpos hH hFO hFO0 hnext hlt2
      have hH24 : H ≤ 24 := by omega
      have hbw3 := HBW.out b (by omega) rfl
      have hbh3 := (HLTH.out b2 rfl).2
      clear hcx hcx2
      have ho1 : (i = 0 ∧ A5 = some ⟨w.heap.size + 1, 0, none⟩ ∧ c5 = 0 ∧ FO = []) ∨ (Own 2 wr w3.heap.size A5 FO.length c5 (ints FO)) := by
        rcases ho with ⟨e1, e2, e3, _⟩ | h1
        · exact .inl ⟨e1, e2, e3, HF0.out e1⟩
        · exact .inr h1
      clear ho
      obtain ⟨wo, rfl⟩ : ∃ wo : World, wo = wr := ⟨_, rfl⟩
      go_wp2_with fail
      go_loopw [5] (fun v wr => ∃ (cs : List Nat) (A6 : Option Addr) (c6 : Nat), v = .slice A6 cs.length c6 ∧ ((i = 0 ∧ A6 = some ⟨w.heap.size + 1, 0, none⟩ ∧ c6 = 0 ∧ cs = []) ∨ (Own 2 wr w3.heap.size A6 cs.length c6 (ints cs))) ∧ padTo cs (H + 1) = padTo FO (H + 1) ∧ cs.length ≤ 25 ∧ Rd wr (some ⟨b2, off2, none⟩) m (ints (hgts rs us m)) ∧ Rd wr (some ⟨b, off, none⟩) m (ints us) ∧ Below w1.heap.size w1 wr ∧ w3.heap.size ≤ wr.heap.size) (fun v _ => H + 1 - lenOf v)
      case atStart => exact ⟨FO, A5, c5, rfl, ho1, rfl, by omega, hrh, hrw, hb, hs⟩
      case round =>
        clear ho1 hrh hrw hb hs hbs hbs2
        obtain ⟨cs, A6, c6, rfl, ho, hpad, hcl, hrh, hrw, hb, hs⟩ := hrel
        have HPAD := Lib.hid hpad
        obtain ⟨b2', off2', x2, e9, hbs2, hx2, hcx2⟩ := hrh.at_ hlt
        cases e9
        have hx3 := ints_getD (hgts rs us m) i (by rw [hgts_len]; exact hlt)
        rw [hx3, hgts_get rs us m i hlt, HH.out] at hx2
        injection hx2 with hx2
        subst hx2
        rw [Int.natCast_succ] at hcx2
        obtain ⟨b', off', x, e9, hbs, hx, hcx⟩ := hrw.at_ hlt
        cases e9
        rw [HAU.out] at hx
        injection hx with hx
        subst hx
        clear hx3 hpad
        obtain ⟨K, hK⟩ : ∃ K, K = cs.length := ⟨_, rfl⟩
        rw [← hK] at ho hcl ⊢
        have HK := Lib.hid hK
        clear hK
        by_cases hq : K < H + 1
        · have hc9 : decide (K < H + 1) = true := decide_eq_true hq
          have hc10 : decide ((K : Int) < (H : Int) + 1) = true := decide_eq_true (by omega)
          have hml2 : K + 1 ≤ maxLen := by unfold maxLen; omega
          have hby2 : (K + 1) * 8 ≤ 140737488355328 := by omega
          have HP2 : Hid (padTo (cs ++ [0]) (H + 1) = padTo FO (H + 1)) := Lib.hid (by rw [← padTo_next _ _ (by rw [← HK.out]; exact hq)]; exact HPAD.out)
          have HL3 : Hid ((cs ++ [0]).length = K + 1) := Lib.hid (by rw [List.length_append, ← HK.out]; rfl)
          rcases ho with ⟨hi0, rfl, rfl, rfl⟩ | ho
          · clear hi0
            have hlo : (([] : List Value)).length = 0 * 1 := rfl
            have holds : ∀ b, some (⟨w.heap.size + 1, 0, none⟩ : Addr) = some b → ∀ j u, (([] : List Value))[j]? = some u → (wr.alloc (.cells #[.int .i64 0] 2)).cell? (b.add j) = some u := fun b _ j u hu => by simp at hu
            have hgrow : 0 < K + 1 := by omega
            have hK0 : K = 0 := HK.out
            subst hK0
            go_wp2_with (at_builtin; refine wpList_append_grows _ rfl _ _ 22 rfl 2 i0 (.int .i64 0) 1 8 Tryd.underlying22 hi hz0 hz1 hz2 rfl (by decide) (some ⟨w.heap.size + 1, 0, none⟩) 0 0 [] rfl (fun e9 => by cases e9) hlo holds ⟨wr.heap.size, 0, none⟩ 1 1 [.int .i64 0] rfl rfl ?s1 ?s2 hgrow hml2 hby2 ?_)
            case s1 => exact cell_one_new _ _ _
            case s2 => first | rfl | (intro u hu; simp at hu; subst hu; rfl)
            intro v' w4 hown hg
            have hz : [Value.int .i64 0] = (ints [0]).map (Value.int .i64) := rfl
            rw [hz] at hown
            obtain ⟨A7, c7, hv, ho6⟩ := own_shape hown
            rw [hv]
            have ho7 := ho6.mono (B' := w3.heap.size) (by first | omega | (simp; omega))
            have hrh6 := (hrh.below (below1 wr _)).far2 hg (fun q _ hq e9 => by cases e9)
            have hrw6 := (hrw.below (below1 wr _)).far2 hg (fun q _ hq e9 => by cases e9)
            have hb6 : Below w1.heap.size w1 w4 := (hb.alloc hb.size _).grown hg (by have := hb.size; simp; omega) (fun q hq => by cases hq)
            have hs6 : w3.heap.size ≤ w4.heap.size := by have := hg.size; simp at this; omega
            clear hown hg hv hz hrh hrw hb hs ho6 holds hlo
            go_wp2_with fail
            go_roundw
            case rel => exact ⟨[0], A7, c7, rfl, .inr ho7, HP2.out, by decide, hrh6, hrw6, hb6, hs6⟩
            case measure => first | (simp [lenOf]; done) | (simp [lenOf]; omega)
          · go_wp2_with (at_builtin; refine wpList_append_own _ rfl _ _ 22 rfl w3.heap.size 2 i0 (.int .i64 0) 1 8 Tryd.underlying22 hi hz0 hz1 hz2 rfl (by decide) (.slice A6 K c6) K ((ints cs).map (Value.int .i64)) rfl (World.ownsRow.alloc ho _) ⟨wr.heap.size, 0, none⟩ 1 1 [.int .i64 0] rfl rfl ?s1 ?s2 hml2 hby2 ?s5 ?_)
            case s1 => exact cell_one_new _ _ _
            case s2 => first | rfl | (intro u hu; simp at hu; subst hu; rfl)
            case s5 => first | omega | (simp; omega)
            intro v' w4 hown hg _
            have hz : (Value.int .i64 0) = Value.int .i64 ((0 : Nat) : Int) := rfl
            rw [hz, ints_snoc_map] at hown
            obtain ⟨A7, c7, hv, ho6⟩ := own_shape hown
            rw [hv]
            have hrow : ∀ q, (Value.slice A6 K c6).ownBlock = some q → w3.heap.size ≤ q := fun q hq => (World.ownsRow.lt ho q hq).1
            have hrh6 := (hrh.below (below1 wr _)).far2 hg (fun q _ hq e9 => by have := hrow q e9; have hq2 : b2 = q := by injection hq
                                                                                omega)
            have hrw6 := (hrw.below (below1 wr _)).far2 hg (fun q _ hq e9 => by have := hrow q e9; have hq2 : b = q := by injection hq
                                                                                omega)
            have hb6 : Below w1.heap.size w1 w4 := (hb.alloc hb.size _).grown hg (by have := hb.size; simp; omega) (fun q hq => by have := hrow q hq; omega)
            have hs6 : w3.heap.size ≤ w4.heap.size := by have := hg.size; simp at this; omega
            clear hown hg hv hz ho hrh hrw hb hrow hs
            go_wp2_with fail
            go_roundw
            case rel => exact ⟨cs ++ [0], A7, c7, by rw [HL3.out], .inr (by rw [HL3.out]; exact ho6), HP2.out, by rw [HL3.out]; omega, hrh6, hrw6, hb6, hs6⟩
            case measure => simp [lenOf]; omega
        · have hc9 : decide (K < H + 1) = false := decide_eq_false hq
          have hc10 : decide ((K : Int) < (H : Int) + 1) = false := decide_eq_false (by omega)
          rcases ho with ⟨rfl, rfl, rfl, rfl⟩ | ho
          · exact absurd HK.out (by show ¬ K = 0; omega)
          have hput : foTo rs us (i + 1) = cs.set H (cs.getD H 0 ||| 2 ^ a) := by
            rw [HN.out]
            unfold foPut
            rw [← HPAD.out, padTo_same _ _ (by rw [← HK.out]; omega)]; rfl
          have hX : cs.getD H 0 < 2 ^ n := by
            have := padTo_lt FO (H + 1) n HL2.out H
            rw [← HPAD.out, padTo_same _ _ (by rw [← HK.out]; omega)] at this; exact this
          obtain ⟨g5, e5, hg5, hcell, hfr, hset⟩ := own_stored ho (k := H) (by omega)
          subst e5
          obtain ⟨X, hXX⟩ : ∃ X, X = cs.getD H 0 := ⟨_, rfl⟩
          rw [← hXX] at hX hput hcell
          have hX63 : X < 9223372036854775808 := by have := p24 n (by omega); omega
          have ha62 : a ≤ 62 := by omega
          have hpa : 2 ^ a < 9223372036854775808 := p2_lt a ha62
          have hone := one_any a ha62
          have hor := or63 X (2 ^ a) hX63 hpa
          have hset2 := hset (X ||| 2 ^ a)
          obtain ⟨P, hP⟩ : ∃ P, P = 2 ^ a := ⟨_, rfl⟩
          rw [← hP] at hone hor hput hset2
          obtain ⟨V, hV⟩ : ∃ V, V = X ||| P := ⟨_, rfl⟩
          rw [← hV] at hor hput hset2
          rw [← hput] at hset2
          have HONE := Lib.hid hone
          have HLN : Hid ((foTo rs us (i + 1)).length = K) := Lib.hid (by rw [hput, List.length_set]; exact HK.out.symm)
          have hHK : H < K := by omega
          clear hP hV hput hpa hXX hset hone hX
          go_wp2_with fail
          have hwr : IntKind.i64.wrap (H : Int) = (H : Int) := i64_nat H (by omega)
          have hwn : ((H : Int)).toNat = H := by simp
          have hh0 : (0 : Int) ≤ (H : Int) := Int.natCast_nonneg _
          have hhk : (H : Int) < (K : Int) := Int.ofNat_lt.2 hHK
          go_still_tail 21, (by kernel_rfl)
          still_call ((HONE.out _).mono fun _ _ ⟨he, hw⟩ => ⟨he, hw.symm⟩)
          repeat still_step
          refine wpStill_nil ?_
          change wpList _ _ _ _ _ wr.drew
          clear hwr hwn hh0 hhk
          have hfr2 : wr.drew.frozen? ⟨g5, H, none⟩ = false := hfr
          have hcell2 : wr.drew.cell? ⟨g5, H, none⟩ = some (.int .i64 (X : Int)) := hcell
          have hdw : Below wr.heap.size wr wr.drew := (Below.refl _ _).drew
          have ho5 : Own 2 (wr.drew.setCell ⟨g5, H, none⟩ (.int .i64 (V : Int))) w3.heap.size (some ⟨g5, 0, none⟩) K c6 (ints (foTo rs us (i + 1))) := hset2
          have hrh5 := (hrh.below hdw).far2 (grown_set (World.grownBy.refl wr.drew (some g5)) H (.int .i64 (V : Int))) (fun q _ hq e9 => by
            have hq2 : b2 = q := by injection hq
            have hq3 : g5 = q := by injection e9
            omega)
          have hrw5 := (hrw.below hdw).far2 (grown_set (World.grownBy.refl wr.drew (some g5)) H (.int .i64 (V : Int))) (fun q _ hq e9 => by
            have hq2 : b = q := by injection hq
            have hq3 : g5 = q := by injection e9
            omega)
          have hb5 := (hb.drew).setCell (p := ⟨g5, H, none⟩) (by have := HB13.out.size; show w1.heap.size ≤ g5; omega) (.int .i64 (V : Int))
          have hs5 : w3.heap.size ≤ (wr.drew.setCell ⟨g5, H, none⟩ (.int .i64 (V : Int))).heap.size := by rw [World.size_setCell]; exact hs
          clear hset2 hrh hrw hb ho
          go_wp2_with fail
          go_roundw
          case rel => exact ⟨i + 1, some ⟨g5, 0, none⟩, c6, by omega, by go_num, by rw [HLN.out], .inr (by rw [HLN.out]; exact ho5), hrh5, hrw5, hb5, hs5⟩
          case measure => simp [intOf]; omega
    · obtain rfl : i = m := by omega
      rw [HFM.out] at ho ⊢
      have hho : Own 2 wr w1.heap.size A5 (foM rs us).length c5 (ints (foM rs us)) := by
        rcases ho with ⟨e1, e2, e3, h1⟩ | h1
        · have e : foM rs us = [] := by rw [← HFM.out, e1]; rfl
          rw [e, e3]; exact h1
        · exact h1.mono HB13.out.size
      clear ho
      obtain ⟨K, hK⟩ : ∃ K, K = (foM rs us).length := ⟨_, rfl⟩
      have HK := Lib.hid hK
      rw [← hK] at hho ⊢
      clear hK
      go_wp2_with fail
      go_ret
      rw [HK.out] at hho ⊢
      exact ⟨_, _, rfl, hho.mono HB1.out.size, HB1.out.trans (hb.mono HB1.out.size)⟩
end Go.Proofs.YtfbdbipopfjjnaaDoor
