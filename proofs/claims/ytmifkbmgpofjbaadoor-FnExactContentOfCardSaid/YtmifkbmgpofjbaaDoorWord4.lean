/-
  ContentOf: the model's side.
-/
import Derived.Test.YtmifkbmgpofjbaaDoorWord3
namespace Go.Proofs.YtmifkbmgpofjbaaDoor
open Go.RowKit
set_option linter.unusedVariables false
set_option maxRecDepth 100000

set_option maxHeartbeats 3200000 in
theorem l03Content_any (A : Option Addr) (n c : Nat) (rs : List Nat) (A1 : Option Addr) (m d : Nat) (vs : List Nat) (w : World) (h : Rd w A n (ints rs)) (hn : n ≤ 8) (h2 : Rd w A1 m (ints vs)) (hv24 : vs.length ≤ 24) (hvn : ∀ u, u ∈ vs → u < n) :
    Calls Tryd.prog 48 #[.agg #[.int .i64 (n : Int), .slice A n c], .slice A1 m d] w (MakesE 2 w n (ints (contM n vs))) := by
  have hm1 := h2.1
  rw [ints_len] at hm1
  have hm24 : m ≤ 24 := by omega
  have HM := Lib.hid hm1
  have HVN := Lib.hid hvn
  clear hm1 hvn
  obtain ⟨i0, hi, hz0, hz1, hz2⟩ := info_parts info_int
  have hml : n ≤ maxLen := by unfold maxLen; omega
  have hby : i0.bytes * n ≤ 281474976710656 := by rw [hz2]; omega
  have x0 := box_new 27 w (n : Int) A n c
  have hsz := size1' w (.cells #[.int .i64 (n : Int), .slice A n c] 27)
  have HB := Lib.hid (below1 w (.cells #[.int .i64 (n : Int), .slice A n c] 27))
  have hh2 := h2.below HB.out
  obtain ⟨w1, hw1⟩ : ∃ w1, w1 = w.alloc (.cells #[.int .i64 (n : Int), .slice A n c] 27) := ⟨_, rfl⟩
  rw [← hw1] at x0 hsz hh2
  have HB1 := Lib.hid (show Below w.heap.size w w1 by rw [hw1]; exact HB.out)
  have y0 := x0.c0
  have HSZ := Lib.hid hsz
  clear HB h h2 hsz
  go_enter Tryd.func48, Tryd.ntmps48
  go_wp2_with (first | (at_make; rw [← hw1]; clear hw1; refine wpList_make_full _ rfl _ _ _ rfl w1.heap.size 2 i0 (.int .i64 0) 1 Tryd.underlying22 hi hz0 hz1 _ _ (n : Int) (n : Int) n rfl rfl rfl rfl hby hml (Nat.le_refl _) ?_; intro w2 hown0 hg2))
  have hown := own_made hown0
  rw [← contM_nil] at hown
  clear hown0
  have hb2 : Below w1.heap.size w1 w2 := (Below.refl _ _).grown hg2 (Nat.le_refl _) (by simp)
  clear hg2
  go_loopw [6] (fun i wr => ∃ k : Nat, k ≤ m ∧ i = .int .i64 k ∧ Own 2 wr w1.heap.size (some ⟨w1.heap.size, 0, none⟩) n n (ints (contM n (vs.take k))) ∧ Below w1.heap.size w1 wr) (fun i _ => m - (intOf i).toNat)
  case atStart => exact ⟨0, Nat.zero_le _, rfl, hown, hb2⟩
  case round =>
    clear hown hb2
    obtain ⟨k, hk, rfl, ho, hb⟩ := hrel
    by_cases hlt : k < m
    · obtain ⟨b, off, x, rfl, hbs, hx, hcx⟩ := (hh2.below hb).at_ hlt
      obtain ⟨u, hu, rfl⟩ := ints_at? vs k x hx
      have hun := HVN.out u (List.mem_of_getElem? hu)
      have HS : Hid (contM n (vs.take (k + 1)) = (contM n (vs.take k)).set u ((contM n (vs.take k)).getD u 0 + 1)) := Lib.hid (by rw [take_snoc vs k u hu, contM_snoc n _ u hun])
      have hle := contM_le n (vs.take k) u (by rw [List.length_take]; omega)
      obtain ⟨g, hg, _, hcell, hfr, hset⟩ := own_stored ho hun
      cases hg
      obtain ⟨X, hX⟩ : ∃ X, X = (contM n (vs.take k)).getD u 0 := ⟨_, rfl⟩
      rw [← hX] at hle hcell HS
      have ho2 := hset (X + 1)
      rw [← HS.out, Int.natCast_succ] at ho2
      have hb2 := hb.setCell (p := ⟨w1.heap.size, u, none⟩) (Nat.le_refl _) (.int .i64 ((X : Int) + 1))
      clear hx hu hX hset
      go_wp2_with fail
      go_roundw
      case rel => exact ⟨k + 1, by omega, by go_num, ho2, hb2⟩
      case measure => simp [intOf]; omega
    · obtain rfl : k = m := by omega
      have e9 : vs.take k = vs := List.take_of_length_le (by have := HM.out; omega)
      rw [e9] at ho
      clear e9
      go_wp2_with fail
      go_ret
      exact ⟨_, _, rfl, ho.mono HB1.out.size, HB1.out.trans (hb.mono HB1.out.size)⟩
set_option maxHeartbeats 1600000 in
theorem specContentOf (L : Int) (A : Option Addr) (n c : Nat) (xs : List Int) (A1 : Option Addr) (m d : Nat) (us : List Int) (w : World) (h : Rd w A n xs) (hwf : Wf xs) (hL1 : -9223372036854775808 ≤ L) (hL2 : L ≤ 9223372036854775807) (hn : n ≤ maxLen) (h2 : Rd w A1 m us) (hwf2 : Wf us) (hm : m ≤ maxLen) :
    Calls Tryd.prog 20 #[.agg #[.int .i64 L, .slice A n c], .slice A1 m d] w (LsPost w (contAns L xs us).1.length (contAns L xs us).1 (contAns L xs us).2) := by
  have hn2 : n ≤ 9223372036854775807 := by unfold maxLen at hn; omega
  have hm2 : m ≤ 9223372036854775807 := by unfold maxLen at hm; omega
  have hn1 := h.1
  have hm1 := h2.1
  have HB := Lib.hid (below1 w (.cells #[.int .i64 L, .slice A n c] 27))
  have x0 := box_new 27 w L A n c
  have hh := h.below HB.out
  have hh2 := h2.below HB.out
  have HC := Lib.hid (wCode_two L xs us)
  cases ha : alphB L xs
  · rw [show contAns L xs us = _ from wAns_no _ L xs us ha]
    have HD := Lib.hid (wCode_no L xs us ha)
    clear ha hn1
    go_enter Tryd.func20, Tryd.ntmps20
    go_wp2_with fail
    refine (l03Code_any L _ _ _ _ _ _ _ _ _ xs us us _ hh hn2 hh2 hm2 hh2 hm2).mono ?_
    rintro e w1 ⟨rfl, hb⟩
    rw [HC.out, HD.out]
    go_wp2_with fail
    go_ret2
    exact LsPost.of_ans (ans_no 1 (HB.out.trans (hb.mono HB.out.size)))
  · cases hu : wordB L us
    · rw [show contAns L xs us = _ from wAns_bad _ L xs us ha hu]
      have HD := Lib.hid (wCode_bad L xs us ha hu)
      clear ha hu hn1
      go_enter Tryd.func20, Tryd.ntmps20
      go_wp2_with fail
      refine (l03Code_any L _ _ _ _ _ _ _ _ _ xs us us _ hh hn2 hh2 hm2 hh2 hm2).mono ?_
      rintro e w1 ⟨rfl, hb⟩
      rw [HC.out, HD.out]
      go_wp2_with fail
      go_ret2
      exact LsPost.of_ans (ans_no 2 (HB.out.trans (hb.mono HB.out.size)))
    · have HD := Lib.hid (wCode_yes L xs us ha hu)
      obtain ⟨rs, rfl, rfl, h8, hr, hrel, hl, hd, _⟩ := alphB_nats L xs n hn1 ha
      obtain ⟨vs, rfl, hv24, hvn⟩ := wordB_nats n us hu
      rw [show contAns (n : Int) (ints rs) (ints vs) = _ from wAns_yes _ (n : Int) rs vs ha hu]
      show Calls _ _ _ _ (LsPost w (ints (contM rs.length vs)).length (ints (contM rs.length vs)) 0)
      rw [hl]
      clear ha hu hl hm1
      go_enter Tryd.func20, Tryd.ntmps20
      go_wp2_with fail
      refine (l03Code_any (n : Int) _ _ _ _ _ _ _ _ _ (ints rs) (ints vs) (ints vs) _ hh hn2 hh2 hm2 hh2 hm2).mono ?_
      rintro e w1 ⟨rfl, hb⟩
      rw [HC.out, HD.out]
      have y0 := (x0.next hb).c0
      have y1 := (x0.next hb).c1
      have HB1 := Lib.hid (HB.out.trans (hb.mono HB.out.size))
      go_wp2_with fail
      refine (l03Content_any _ _ _ rs _ _ _ vs _ (hh.below hb) h8 (hh2.below hb) hv24 hvn).mono ?_
      rintro e w2 ⟨A2, c2, rfl, ho, hb2⟩
      go_wp2_with fail
      go_ret2
      exact LsPost.of_ans (ans_yes (by rw [ints_len, contM_len]) (ho.mono HB1.out.size) (HB1.out.trans (hb2.mono HB1.out.size)))
end Go.Proofs.YtmifkbmgpofjbaaDoor
