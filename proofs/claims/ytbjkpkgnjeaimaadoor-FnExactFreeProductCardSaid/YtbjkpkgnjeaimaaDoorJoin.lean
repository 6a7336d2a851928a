/-
  Joining two letters; the part of an alphabet on a list of letters: by contracts.
-/
import Derived.Test.YtbjkpkgnjeaimaaDoorCpl
import Derived.Test.YtbjkpkgnjeaimaaDoorAreDep
import Derived.Test.YtbjkpkgnjeaimaaDoorAlJoin
import Derived.StillTailTactics
namespace Go.Proofs.YtbjkpkgnjeaimaaDoor
open Go.RowKit
set_option linter.unusedVariables false
set_option maxRecDepth 100000

theorem own_drew {E : TypeId} {w : World} {B : Nat} {A : Option Addr} {n c : Nat} {xs : List Int} (h : Own E w B A n c xs) : Own E w.drew B A n c xs := World.ownsRow.drew h
theorem grown_drew {w w' : World} {row : Option Nat} (h : w.grownBy w' row) : w.grownBy w'.drew row := ⟨h.os, h.tape, h.output, h.size, h.block⟩
theorem below_drew (w : World) : Below w.heap.size w w.drew := (Below.refl _ _).drew
set_option maxHeartbeats 1600000 in
theorem join_any (E B : Nat) (L : Int) (A : Option Addr) (n c a b : Nat) (zs : List Nat) (w : World) (h : Own E w B A n c (ints zs)) (hn : n ≤ 24) (ha : a < n) (hb : b < n) (hz : ∀ i, zs.getD i 0 < 2 ^ n) :
    Calls Tryd.prog 97 #[.agg #[.int .i64 L, .slice A n c], .int .i64 (a : Int), .int .i64 (b : Int)] w fun e w' => e = .returned (.tuple #[]) ∧ Own E w' B A n c (ints (joinM zs a b)) ∧ w.grownBy w' (A.map (·.block)) := by
  have hlen : zs.length = n := by have := h.len; rw [ints_len] at this; exact this
  obtain ⟨g, rfl, hgB, hglt⟩ := h.form (by omega)
  have HB := below1 w (.cells #[.int .i64 L, .slice (some ⟨g, 0, none⟩) n c] 27)
  have x0 := box_new 27 w L (some ⟨g, 0, none⟩) n c
  have o0 := h.below HB
  have hsz := size1 w (.cells #[.int .i64 L, .slice (some ⟨g, 0, none⟩) n c] 27)
  have G0 := Lib.hid (grown_any (grownBy_of_below HB) (some g))
  obtain ⟨w1, hw1⟩ : ∃ w1, w1 = w.alloc (.cells #[.int .i64 L, .slice (some ⟨g, 0, none⟩) n c] 27) := ⟨_, rfl⟩
  rw [← hw1] at x0 o0 G0
  have ha62 : a ≤ 62 := by omega
  have hb62 : b ≤ 62 := by omega
  have hpa63 := p2_lt a ha62
  have hpb63 := p2_lt b hb62
  have hpan : 2 ^ a < 2 ^ n := Nat.pow_lt_pow_right (by decide) ha
  have hpbn : 2 ^ b < 2 ^ n := Nat.pow_lt_pow_right (by decide) hb
  have hz63 : ∀ i, zs.getD i 0 < 9223372036854775808 := fun i => lt63 hn (hz i)
  obtain ⟨PA, hPA⟩ : ∃ PA, PA = 2 ^ a := ⟨_, rfl⟩
  obtain ⟨PB, hPB⟩ : ∃ PB, PB = 2 ^ b := ⟨_, rfl⟩
  have honea : ∀ ww : World, Calls Tryd.prog 62 #[.int .i64 (a : Int)] ww fun e w' => e = .returned (.int .i64 (PA : Int)) ∧ w' = ww := by rw [hPA]; exact fun ww => (one_any a ha62 ww).mono fun _ _ ⟨he, hw⟩ => ⟨he, hw.symm⟩
  have honeb : ∀ ww : World, Calls Tryd.prog 62 #[.int .i64 (b : Int)] ww fun e w' => e = .returned (.int .i64 (PB : Int)) ∧ w' = ww := by rw [hPB]; exact fun ww => (one_any b hb62 ww).mono fun _ _ ⟨he, hw⟩ => ⟨he, hw.symm⟩
  rw [← hPA] at hpa63 hpan
  rw [← hPB] at hpb63 hpbn
  obtain ⟨ys, hys⟩ : ∃ ys, ys = zs.set a (zs.getD a 0 ||| PB) := ⟨_, rfl⟩
  have hyl : ys.length = n := by rw [hys, List.length_set, hlen]
  have hy63 : ∀ i, ys.getD i 0 < 9223372036854775808 := fun i => by
    refine lt63 (n := n) hn ?_
    rw [hys, getD_set zs a _ i (by omega)]
    split
    · exact Nat.or_lt_two_pow (hz a) hpbn
    · exact hz i
  have HJ : Hid (ys.set b (ys.getD b 0 ||| PA) = joinM zs a b) := Lib.hid (by rw [hys, hPB, hPA]; rfl)
  obtain ⟨g', e9, hgB', hcell, hfr, hset⟩ := own_stored (own_drew o0) ha
  cases e9
  have hor1 := or63 (zs.getD a 0) PB (hz63 a) hpb63
  have o1 := hset (zs.getD a 0 ||| PB)
  rw [← hys] at o1
  have HY := Lib.hid hys
  obtain ⟨S, hS⟩ : ∃ S, S = zs.getD a 0 := ⟨_, rfl⟩
  rw [← hS] at hcell hor1 o1 HY
  obtain ⟨Q, hQ⟩ : ∃ Q, Q = S ||| PB := ⟨_, rfl⟩
  rw [← hQ] at hor1 o1
  have x1 := (x0.next (below_drew w1)).other g a (.int .i64 (Q : Int)) (by omega)
  have G1 := Lib.hid (grown_set (grown_drew G0.out) a (.int .i64 (Q : Int)))
  have y1 := x0.c1
  have hcellw : w1.cell? ⟨g, a, none⟩ = some (.int .i64 (S : Int)) := hcell
  have hltn : ((a : Int)) < (n : Int) := by omega
  have hltn2 : ((b : Int)) < (n : Int) := by omega
  clear hys hPA hPB hS hQ hset hlen o0 HB hsz hglt
  go_enter Tryd.func97, Tryd.ntmps97
  go_wp2_with fail
  rw [← hw1]
  clear hw1
  go_still_tail 12, (by kernel_rfl)
  still_call (honeb _)
  repeat still_step
  refine wpStill_nil ?_
  change wpList _ _ _ _ _ w1.drew
  go_wp2_with fail
  obtain ⟨W2, hW2⟩ : ∃ W2, W2 = (w1.setCell ⟨g, a, none⟩ (.int .i64 (Q : Int))).drew := ⟨_, rfl⟩
  have o1' : Own E (w1.setCell ⟨g, a, none⟩ (.int .i64 (Q : Int))).drew B (some ⟨g, 0, none⟩) n c (ints ys) := o1
  have x1' : Box 27 (w1.setCell ⟨g, a, none⟩ (.int .i64 (Q : Int))).drew w.heap.size L (some ⟨g, 0, none⟩) n c := x1
  have G1' : Hid (w.grownBy (w1.setCell ⟨g, a, none⟩ (.int .i64 (Q : Int))).drew (some g)) := G1
  clear o1 x1 G1
  rw [← hW2] at o1' x1' G1' ⊢
  clear hcell hfr hW2 y1 hcellw x0
  obtain ⟨g', e9, hgB'', hcell, hfr, hset⟩ := own_stored (own_drew o1') hb
  cases e9
  have hor2 := or63 (ys.getD b 0) PA (hy63 b) hpa63
  have o2 := hset (ys.getD b 0 ||| PA)
  rw [HJ.out] at o2
  have hj2 : ((ys.getD b 0 ||| PA : Nat) : Int) = ((ys.getD b 0 ||| PA : Nat) : Int) := rfl
  obtain ⟨S2, hS2⟩ : ∃ S2, S2 = ys.getD b 0 := ⟨_, rfl⟩
  rw [← hS2] at hcell hor2 o2
  obtain ⟨Q2, hQ2⟩ : ∃ Q2, Q2 = S2 ||| PA := ⟨_, rfl⟩
  rw [← hQ2] at hor2 o2
  have G2 := Lib.hid (grown_set (grown_drew G1'.out) b (.int .i64 (Q2 : Int)))
  have y1 := x1'.c1
  have hcellw : W2.cell? ⟨g, b, none⟩ = some (.int .i64 (S2 : Int)) := hcell
  clear hS2 hQ2 hset
  go_still_tail 12, (by kernel_rfl)
  still_call (honea _)
  repeat still_step
  refine wpStill_nil ?_
  change wpList _ _ _ _ _ W2.drew
  go_wp2_with fail
  exact bodyPost_end (results_none Tryd.results97 _ _ _) rfl ⟨rfl, o2, G2.out⟩
/-! ### plain: the part on a list of letters -/
def partD (rs ls : List Nat) (i k : Nat) : Bool := (rs.getD (ls.getD i 0) 0).testBit (ls.getD k 0)
def partM (rs ls : List Nat) : List Nat := relM ls.length (partD rs ls)
set_option maxHeartbeats 3200000 in
theorem specPart_any (A A' : Option Addr) (n c N c' : Nat) (rs ls : List Nat) (w : World) (h : Rd w A n (ints rs)) (hl : Rd w A' N (ints ls)) (hn : n ≤ 8) (hN : N ≤ 24) (hr : ∀ i, rs.getD i 0 < 2 ^ n) (hls : ∀ i, i < N → ls.getD i 0 < n) (hd : Dep rs) :
    Calls Tryd.prog 69 #[.agg #[.int .i64 (n : Int), .slice A n c], .slice A' N c'] w (MakesAl w (N : Int) N (ints (partM rs ls))) := by
  have hlen : rs.length = n := by have := h.1; rw [ints_len] at this; exact this
  have hll : ls.length = N := by have := hl.1; rw [ints_len] at this; exact this
  have HD1 : Hid (∀ i, i < N → partD rs ls i i = true) := Lib.hid (fun i hi => hd.1 _ (by rw [hlen]; exact hls i hi))
  have HD2 : Hid (∀ i k, i < N → k < N → partD rs ls i k = partD rs ls k i) := Lib.hid (fun i k hi hk => Bool.eq_iff_iff.2 (hd.2 _ _ (by rw [hlen]; exact hls i hi) (by rw [hlen]; exact hls k hk)))
  have HPM : Hid (partM rs ls = relM N (partD rs ls)) := Lib.hid (by unfold partM; rw [hll])
  have HLL := Lib.hid hll
  clear hlen hll
  have h24 : n ≤ 24 := by omega
  have hN62 : N ≤ 62 := by omega
  have HB := Lib.hid (below2 w (.cells #[.int .i64 (n : Int), .slice A n c] 27) (.cells #[.int .i64 0, .slice none 0 0] 27))
  have hh := h.below HB.out
  have hhl := hl.below HB.out
  have x0 := (box_new 27 w (n : Int) A n c).next (below1 _ (.cells #[.int .i64 0, .slice none 0 0] 27))
  have r0 := box_new 27 (w.alloc (.cells #[.int .i64 (n : Int), .slice A n c] 27)) 0 none 0 0
  have hsz1 := size1 w (.cells #[.int .i64 (n : Int), .slice A n c] 27)
  have hsz2 := size1 (w.alloc (.cells #[.int .i64 (n : Int), .slice A n c] 27)) (.cells #[.int .i64 0, .slice none 0 0] 27)
  rw [hsz1] at r0 hsz2
  obtain ⟨w1, hw1⟩ : ∃ w1, w1 = (w.alloc (.cells #[.int .i64 (n : Int), .slice A n c] 27)).alloc (.cells #[.int .i64 0, .slice none 0 0] 27) := ⟨_, rfl⟩
  rw [← hw1] at hh hhl x0 r0 hsz2
  have HB1 := Lib.hid (show Below w.heap.size w w1 by rw [hw1]; exact HB.out)
  have HSZ := Lib.hid hsz2
  clear hsz1 hsz2
  go_enter Tryd.func69, Tryd.ntmps69
  go_wp2_with fail
  rw [← hw1]
  clear HB hw1
  refine (free_any N _ hN62).mono ?_
  rintro e w2 ⟨A2, c2, rfl, ho2, hb2⟩
  have HLT := Lib.hid (fun q hq => ho2.lt q hq)
  have hs2 := hb2.size
  have x2 := x0.next hb2
  have r2 := r0.next hb2
  have k2 := below1 w2 (.cells #[.int .i64 (N : Int), .slice A2 N c2] 27)
  go_wp2_with fail
  go_loopw [6] (fun i wr => ∃ (k : Nat) (zs : List Nat), k ≤ N ∧ i = .int .i64 k ∧ Own 2 wr w1.heap.size A2 N c2 (ints zs) ∧ Box 27 wr w2.heap.size (N : Int) A2 N c2 ∧ Box 27 wr w.heap.size (n : Int) A n c ∧ Box 27 wr (w.heap.size + 1) 0 none 0 0 ∧ Below w1.heap.size w1 wr ∧ Joined zs N (partD rs ls) k 0) (fun i _ => N - (intOf i).toNat)
  case atStart => exact ⟨0, freeM N, Nat.zero_le _, rfl, ho2.below k2, box_new _ _ _ _ _ _, x2.next k2, r2.next k2, hb2.trans (k2.mono hs2), joined_start N _⟩
  case round =>
    clear ho2 x2 r2 k2 x0 r0
    obtain ⟨k, zs, hk, rfl, ho, y, x, r, hb9, hj⟩ := hrel
    have HJ := Lib.hid hj
    clear hj
    by_cases hlt : k < N
    · obtain ⟨wo, rfl⟩ : ∃ wo : World, wo = wr := ⟨_, rfl⟩
      go_wp2_with fail
      go_loopw [7] (fun i wr => ∃ (t : Nat) (zs : List Nat), t ≤ N ∧ i = .int .i64 t ∧ Own 2 wr w1.heap.size A2 N c2 (ints zs) ∧ Box 27 wr w2.heap.size (N : Int) A2 N c2 ∧ Box 27 wr w.heap.size (n : Int) A n c ∧ Box 27 wr (w.heap.size + 1) 0 none 0 0 ∧ Below w1.heap.size w1 wr ∧ Joined zs N (partD rs ls) k t) (fun i _ => N - (intOf i).toNat)
      case atStart => exact ⟨0, zs, Nat.zero_le _, rfl, ho, y, x, r, hb9, HJ.out⟩
      case round =>
        clear ho y x r hb9 HJ
        obtain ⟨t, zs, ht, rfl, ho, y, x, r, hb9, hj⟩ := hrel
        have HJ := Lib.hid hj
        clear hj
        by_cases hlt2 : t < N
        · obtain ⟨b, off, v, rfl, hbs, hx, hcx⟩ := (hhl.below hb9).at_ hlt
          have hx2 := ints_getD ls k (by rw [HLL.out]; exact hlt)
          rw [hx2] at hx
          injection hx with hx
          subst hx
          obtain ⟨b2, off2, v2, e9, hbs2, hx', hcx2⟩ := (hhl.below hb9).at_ hlt2
          cases e9
          have hx2' := ints_getD ls t (by rw [HLL.out]; exact hlt2)
          rw [hx2'] at hx'
          injection hx' with hx'
          subst hx'
          have hlk := hls k hlt
          have hlt' := hls t hlt2
          have hDD : partD rs ls k t = (rs.getD (ls.getD k 0) 0).testBit (ls.getD t 0) := rfl
          obtain ⟨a1, ha1⟩ : ∃ a1, a1 = ls.getD k 0 := ⟨_, rfl⟩
          obtain ⟨a2, ha2⟩ : ∃ a2, a2 = ls.getD t 0 := ⟨_, rfl⟩
          rw [← ha1] at hcx hlk hDD
          rw [← ha2] at hcx2 hlt' hDD
          have HDD := Lib.hid hDD
          have hdr := below_drew wr
          have xd := x.next hdr
          have v0 := x.c0
          have v1 := x.c1
          clear ha1 ha2 hx2 hx2' hDD
          go_wp2_with fail
          go_still_tail 9, (by kernel_rfl)
          change wpList _ _ _ _ _ wr.drew
          go_wp2_with fail
          refine (dep_any _ _ _ _ a1 a2 rs _ (((hh.below hb9).below hdr)) h24 hr hlk hlt').mono ?_
          rintro e w4 ⟨rfl, hb4⟩
          have hb4' := hdr.trans (hb4.mono hdr.size)
          have ho4 := ho.below hb4'
          have y4 := y.next hb4'
          have x4 := x.next hb4'
          have r4 := r.next hb4'
          have hb94 := hb9.trans (hb4'.mono hb9.size)
          rw [← HDD.out]
          cases hp : partD rs ls k t
          · have HN := Lib.hid (joined_no HJ.out hp)
            clear hp HJ
            go_wp2_with fail
            go_roundw
            case rel => exact ⟨t + 1, zs, by omega, by go_num, ho4, y4, x4, r4, hb94, HN.out⟩
            case measure => simp [intOf]; omega
          · have HN := Lib.hid (joined_yes HJ.out hp hlt hlt2)
            have hz := HJ.out.2.1
            have u0 := y4.c0
            have u1 := y4.c1
            clear hp HJ
            go_wp2_with fail
            refine (join_any _ _ _ _ _ _ k t zs _ ho4 hN hlt hlt2 hz).mono ?_
            rintro e w5 ⟨rfl, ho5, hg5⟩
            have y5 := y4.apart hg5 (fun e => by have := (HLT.out _ e).2; omega)
            have x5 := x4.apart hg5 (fun e => by have := (HLT.out _ e).1; have := HSZ.out; omega)
            have r5 := r4.apart hg5 (fun e => by have := (HLT.out _ e).1; have := HSZ.out; omega)
            have hb5 := hb94.grown hg5 hb94.size (fun q hq => (HLT.out q hq).1)
            go_wp2_with fail
            go_roundw
            case rel => exact ⟨t + 1, joinM zs k t, by omega, by go_num, ho5, y5, x5, r5, hb5, HN.out⟩
            case measure => simp [intOf]; omega
        · obtain rfl : t = N := by omega
          have HN := Lib.hid (joined_row HJ.out)
          go_wp2_with fail
          go_roundw
          case rel => exact ⟨k + 1, zs, by omega, by go_num, ho, y, x, r, hb9, HN.out⟩
          case measure => simp [intOf]; omega
    · obtain rfl : k = N := by omega
      have e9 : zs = partM rs ls := by rw [HPM.out]; exact joined_end HJ.out HD1.out HD2.out
      rw [e9] at ho
      clear e9
      have f0 := r.fr 0
      have f1 := r.fr 1
      have z0 := r.c0
      have z1 := r.c1
      have y0 := y.c0
      have y1 := y.c1
      go_wp2
      refine ret_gen (fun W => Box 27 W (w.heap.size + 1) (k : Int) A2 k c2 ∧ Own 2 W w.heap.size A2 k c2 (ints (partM rs ls)) ∧ Below w.heap.size w W) ⟨r.set _ _ _ _, ?_, ?_⟩ ?_
      · have hnn : ∀ q, A2.map (·.block) = some q → q ≠ w.heap.size + 1 := fun q hq => by have := (HLT.out q hq).1; have := HSZ.out; omega
        exact own_other (own_other (ho.mono (by have := HSZ.out; omega)) _ _ _ hnn) _ _ _ hnn
      · exact ((HB1.out.trans (hb9.mono HB1.out.size)).setCell (p := ⟨w.heap.size + 1, 0, none⟩) (by show w.heap.size ≤ w.heap.size + 1; omega) _).setCell (p := ⟨w.heap.size + 1, 1, none⟩) (by show w.heap.size ≤ w.heap.size + 1; omega) _
      · rintro W ⟨x, o, b⟩
        have e0 := x.c0
        have e1 := x.c1
        exact bodyPost_ret (v := .agg #[.int .i64 (k : Int), .slice A2 k c2]) (by simp [results, Tryd.results69, go_sem, e0, e1]) rfl ⟨_, _, rfl, o, b⟩
end Go.Proofs.YtbjkpkgnjeaimaaDoor
