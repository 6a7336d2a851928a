/-
  The letters that may come first: what firsts$1 does for a round that says 'no more'.
-/
import Derived.Test.YtcojodkcpemfdaaDoorStT
import Derived.Test.YtcojodkcpemfdaaDoorNfM
import Derived.Test.YtcojodkcpemfdaaDoorTrCmp
namespace Go.Proofs.YtcojodkcpemfdaaDoor
open Go Go.RowKit
set_option linter.unusedVariables false
set_option maxRecDepth 100000

theorem find_at {α : Type} (p : α → Bool) (xs : List α) (k : Nat) (x : α) (hx : xs[k]? = some x) (hp : p x = true) (hb : ∀ j y, j < k → xs[j]? = some y → p y = false) : xs.find? p = some x := by
  obtain ⟨hk, e⟩ := List.getElem?_eq_some_iff.1 hx
  rw [List.find?_eq_some_iff_getElem]
  refine ⟨hp, k, hk, e, fun j hj => ?_⟩
  rw [hb j _ hj (List.getElem?_eq_getElem (by omega))]; rfl
theorem find_no {α : Type} (p : α → Bool) (xs : List α) (hb : ∀ (j : Nat) y, j < xs.length → xs[j]? = some y → p y = false) : xs.find? p = none := by
  rw [List.find?_eq_none]
  intro y hy
  obtain ⟨j, hj, e⟩ := List.getElem_of_mem hy
  rw [hb j y hj (by rw [List.getElem?_eq_getElem hj, e])]; decide
def firstEnc (x : Nat × Nat) : Array Value := #[.int .i64 (x.1 : Int), .int .i64 (x.2 : Int)]
set_option maxHeartbeats 800000 in
theorem firsts1_first (bl bt left m c d e : Nat) (A B : Option Addr) (ls bs : List Nat) (w : World) (hcl : w.cell? ⟨bl, 0, none⟩ = some (.int .i64 (left : Int))) (hct0 : w.cell? ⟨bt, 0, none⟩ = some (.slice A m c)) (hct1 : w.cell? ⟨bt, 1, none⟩ = some (.slice B m d))
    (hA : Rd w A m (ints ls)) (hB : Rd w B m (ints bs)) (hm : m ≤ 24) (hleft : left < 2 ^ m) (hbs : ∀ i, bs.getD i 0 < 2 ^ m) (hT : Tab w) (hpick : pickB (fun e => bs.getD e 0) left = some e) :
    FirstSeq Tryd.prog 220 #[.pointer (some ⟨bl, 0, none⟩), .pointer (some ⟨bt, 0, none⟩)] firstEnc (fun x _ _ => x = (ls.getD e 0, dif left (2 ^ e))) (fun _ => 0) w := by
  intro l J W hW hJ hY
  have h24 : (2:Nat) ^ m ≤ 2 ^ 24 := Nat.pow_le_pow_right (by decide) hm
  have hl63 : left < 16777216 := by omega
  have hlenA : ls.length = m := by have := hA.1; rw [ints_len] at this; exact this
  have hlenB : bs.length = m := by have := hB.1; rw [ints_len] at this; exact this
  have hcl2 : W.cell? ⟨bl, 0, none⟩ = some (.int .i64 (left : Int)) := (hW.cell (block_lt_of_cell hcl)).trans hcl
  have hc02 : W.cell? ⟨bt, 0, none⟩ = some (.slice A m c) := (hW.cell (block_lt_of_cell hct0)).trans hct0
  have hc12 : W.cell? ⟨bt, 1, none⟩ = some (.slice B m d) := (hW.cell (block_lt_of_cell hct0)).trans hct1
  have hA2 := hA.below hW
  have hB2 := hB.below hW
  have hT2 := hT.below hW
  have HMEM : Hid (∀ ww : World, Tab ww → Calls Tryd.prog 157 #[.int .i64 (left : Int)] ww (MakesE 2 ww (bitsOf left).length (ints (bitsOf left)))) := Lib.hid fun ww ht => members_any left hl63 ww ht
  have HMLT : Hid (∀ q, q < (bitsOf left).length → (bitsOf left).getD q 0 < m) := Lib.hid fun q hq => by
    have h1 : (bitsOf left).getD q 0 ∈ bitsOf left := by
      rw [List.getD_eq_getElem?_getD, List.getElem?_eq_getElem hq]; exact List.getElem_mem hq
    have h2 := (bitsOf_mem left _).1 h1
    exact bit_lt hleft h2.2
  have HPICK : Hid ((bitsOf left).find? (fun e => bs.getD e 0 &&& left == 0) = some e) := Lib.hid hpick
  have HHP : Hid (∀ q, q < 24 → (2:Nat) ^ q < 9223372036854775808) := Lib.hid fun q hq => Nat.lt_of_le_of_lt (Nat.pow_le_pow_right (by decide) (show q ≤ 24 by omega)) (by decide)
  have HLS := Lib.hid hlenA
  have HLB := Lib.hid hlenB
  have HBS : Hid (∀ i, bs.getD i 0 < 9223372036854775808) := Lib.hid fun i => by have := hbs i; omega
  have HY := Lib.hid hY
  have HJ := Lib.hid hJ
  have HL63 : Hid (left < 9223372036854775808) := Lib.hid (by omega)
  obtain ⟨ms, hms⟩ : ∃ ms, ms = bitsOf left := ⟨_, rfl⟩
  have hml := bitsOf_len left
  rw [← hms] at HMEM HMLT HPICK hml
  clear hms hpick hlenA hlenB hbs hY hJ hleft h24 hl63 hA hB hT hcl hct0 hct1 hW
  have mixed : Tryd.prog.follows .mixedOrders = true := by kernel_rfl
  show Calls _ _ #[.func (.yield l) #[] #[], .pointer (some ⟨bl, 0, none⟩), .pointer (some ⟨bt, 0, none⟩)] W _
  go_enter Tryd.func220, Tryd.ntmps220
  go_wp2_with fail
  refine (HMEM.out _ hT2).mono ?_
  rintro e9 w1 ⟨A3, c3, rfl, ho3, hb3⟩
  have hr3 := ho3.rd
  have hcl3 := (hb3.cell (block_lt_of_cell hcl2)).trans hcl2
  have hc03 := (hb3.cell (block_lt_of_cell hc02)).trans hc02
  have hc13 := (hb3.cell (block_lt_of_cell hc02)).trans hc12
  have hA3 := hA2.below hb3
  have hB3 := hB2.below hb3
  go_wp2_with fail
  go_loopw [9] (fun q wr => ∃ t a, t ≤ ms.length ∧ q = .int .i64 ((t : Nat) : Int) ∧ wr = w1.drewN a ∧ ∀ (j : Nat) y, j < t → ms[j]? = some y → (bs.getD y 0 &&& left == 0) = false) (fun q _ => ms.length - (intOf q).toNat)
  case atStart => exact ⟨0, 0, Nat.zero_le _, rfl, rfl, fun j y hj => absurd hj (by omega)⟩
  case round =>
    obtain ⟨t, a, ht, rfl, hwr, hbef⟩ := hrel
    have HWR := Lib.hid hwr
    have HBR : Hid (Below w1.heap.size w1 wr) := Lib.hid (by rw [hwr]; exact below_drewN (Below.refl _ _) a)
    have HBEF := Lib.hid hbef
    have HLE := Lib.hid ht
    clear hwr hbef
    have ncl := (HBR.out.cell (block_lt_of_cell hcl3)).trans hcl3
    have nct0 := (HBR.out.cell (block_lt_of_cell hc03)).trans hc03
    have nct1 := (HBR.out.cell (block_lt_of_cell hc03)).trans hc13
    have nA := hA3.below HBR.out
    have nB := hB3.below HBR.out
    have hr4 := hr3.below HBR.out
    by_cases hlt : t < ms.length
    · obtain ⟨bm, om, xm, em, hbm, hxm, hcm⟩ := hr4.at_ hlt
      rw [ints_getD ms t hlt] at hxm
      injection hxm with hxm
      have h9m := HMLT.out t hlt
      obtain ⟨b9, hb9⟩ : ∃ b9, b9 = ms.getD t 0 := ⟨_, rfl⟩
      rw [← hb9] at hxm h9m
      have HB9 := Lib.hid hb9
      subst hxm em
      obtain ⟨bv, ov, xv, ev, hbv, hxv, hcv⟩ := nB.at_ h9m
      obtain ⟨ba, oa, xa, ea, hba, hxa, hca⟩ := nA.at_ h9m
      rw [ints_getD bs b9 (by have := HLB.out; omega)] at hxv
      rw [ints_getD ls b9 (by have := HLS.out; omega)] at hxa
      injection hxv with hxv
      injection hxa with hxa
      obtain ⟨V, hV⟩ : ∃ V, V = bs.getD b9 0 := ⟨_, rfl⟩
      obtain ⟨Lt, hLt⟩ : ∃ Lt, Lt = ls.getD b9 0 := ⟨_, rfl⟩
      rw [← hV] at hxv
      rw [← hLt] at hxa
      have HVD := Lib.hid hV
      have HLT := Lib.hid hLt
      subst hxv hxa ev ea
      have hV63 : V < 9223372036854775808 := by have := HBS.out b9; rw [← HVD.out] at this; exact this
      have hl63 := HL63.out
      obtain ⟨Z, hZ⟩ : ∃ Z, Z = V &&& left := ⟨_, rfl⟩
      have hand : bits .and .i64 (V : Int) (left : Int) = (Z : Int) := by rw [hZ]; exact i64_and_nat V left hV63 hl63
      have HZ := Lib.hid hZ
      have HMT : Hid (ms[t]? = some b9) := Lib.hid (by rw [List.getElem?_eq_getElem hlt, HB9.out, List.getD_eq_getElem?_getD, List.getElem?_eq_getElem hlt]; rfl)
      have h0m : 0 < m := by omega
      have hb24 : b9 < 24 := by omega
      have hltm := hlt
      clear hZ hV hLt hb9 hV63 hl63 hA3 hB3 hr3 hA2 hB2
      have HHQ : Hid (IntKind.i64.wrap (2 ^ b9 : Int) = ((2 ^ b9 : Nat) : Int)) := Lib.hid ((IntWalk.i64_left _).trans (w64_p2 b9 (by omega)))
      by_cases hz0 : Z = 0
      · subst hz0
        have hz2 : (((0 : Nat) : Int) == 0) = true := rfl
        have he : e = b9 := by
          have := find_at (fun e => bs.getD e 0 &&& left == 0) ms t b9 HMT.out (by show (bs.getD b9 0 &&& left == 0) = true; rw [← HVD.out, ← HZ.out]; rfl) HBEF.out
          rw [HPICK.out] at this; injection this
        obtain ⟨P2, hP2⟩ : ∃ P2, P2 = 2 ^ b9 := ⟨_, rfl⟩
        have hP63 : P2 < 9223372036854775808 := by rw [hP2]; exact HHP.out b9 hb24
        have HPW : Hid (IntKind.i64.wrap (2 ^ b9 : Int) = (P2 : Int)) := Lib.hid (by rw [hP2]; exact HHQ.out)
        have HMI : Hid (∀ ww : World, Calls Tryd.prog 186 #[.int .i64 (left : Int), .int .i64 (P2 : Int)] ww fun e w'' => e = .returned (.int .i64 ((dif left P2 : Nat) : Int)) ∧ w'' = ww) := Lib.hid fun ww => (minus_nat left P2 HL63.out hP63 ww).mono fun _ _ h => ⟨h.1, h.2.symm⟩
        obtain ⟨fn, tmps, assign, body, hy, hR⟩ := HY.out (Lt, dif left P2) wr.drew (by rw [he, ← HLT.out, hP2]) ((hb3.trans (HBR.out.mono hb3.size)).drew)
        dsimp only [firstEnc] at hy
        have hR2 := Lib.hid hR
        clear hR hP2 hP63 he
        go_wp2_with fail
        refine wp_region_still_tail_in 19 (by kernel_rfl) (by kernel_rfl) ?_
        simp only [List.take_succ_cons, List.take_zero, List.drop_succ_cons, List.drop_zero]
        iterate 9 still_step
        iterate 8 ((with_reducible refine wpStill_want ?_ ?_); kernel_rfl; intro K hK; go_simp; refine hK _ ?_; clear hK K)
        (with_reducible refine wpStill_want ?_ ?_); kernel_rfl; intro K hK; go_simp; rw [HPW.out]; refine hK _ ?_; clear hK K
        (with_reducible refine wpStill_want ?_ ?_); kernel_rfl; intro K hK; go_simp
        refine ⟨_, HMI.out _, hK _ ?_⟩; clear hK K
        refine wpStill_nil ?_
        change wpListIn _ _ _ _ _ _ _ wr.drew
        (with_reducible refine wpListIn_want ?_ ?_); kernel_rfl; intro K hK; go_simp
        refine ⟨rfl, hR2.out.mono ?_⟩
        rintro e9 W3 ⟨rfl, hj, _⟩
        refine hK _ _ ?_
        clear hK K
        (with_reducible refine wpListIn_want ?_ ?_); kernel_rfl; intro K hK; go_simp
        refine hK _ _ ?_
        clear hK K
        (with_reducible refine wpListIn_want ?_ ?_); kernel_rfl; intro K hK; go_simp
        refine hK _ _ ?_
        clear hK K
        simp only [wpListIn]
        go_wp2_with fail
        refine bodyPost_ret (results_none rfl _ _ _) rfl ?_
        exact ⟨⟨_, rfl⟩, _, hj⟩
      · have hz2 : ((Z : Int) == 0) = false := by simp; omega
        go_wp2_with fail
        refine wp_region_still_lit (by kernel_rfl) (by kernel_rfl) ?_
        iterate 9 still_step
        iterate 12 ((with_reducible refine wpStill_skip ?_ ?_); kernel_rfl; simp only [Act.put, List.setIfInBounds_toArray, List.set_cons_zero, List.set_cons_succ])
        still_step
        refine wpStill_nil ?_
        go_wp2_with fail
        go_roundw
        case rel => exact ⟨t + 1, a + 1, hlt, by go_num, by rw [HWR.out]; rfl, fun j y hj hy => by
          by_cases hjt : j = t
          · subst hjt
            rw [HMT.out] at hy
            injection hy with hy
            subst hy
            rw [← HVD.out, ← HZ.out]
            simpa using hz0
          · exact HBEF.out j y (by omega) hy⟩
        case measure => simp [intOf]; omega
    · have hte : t = ms.length := by omega
      exfalso
      have h1 := HPICK.out
      rw [find_no _ ms (fun j y hj hy => HBEF.out j y (by omega) hy)] at h1
      cases h1
end Go.Proofs.YtcojodkcpemfdaaDoor
