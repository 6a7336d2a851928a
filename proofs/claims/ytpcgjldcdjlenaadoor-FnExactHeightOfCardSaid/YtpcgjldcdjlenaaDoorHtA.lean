/-
  HeightOf: both sides.
-/
import Derived.Test.YtpcgjldcdjlenaaDoorWInt
import Derived.Test.YtpcgjldcdjlenaaDoorFoata
import Derived.Test.YtpcgjldcdjlenaaDoorFoataT
namespace Go.Proofs.YtpcgjldcdjlenaaDoor
open Go.RowKit
set_option linter.unusedVariables false
set_option maxRecDepth 100000

def htR (rs us : List Nat) : Int := ((foM rs us).length : Int)
def htAns (L : Int) (xs us : List Int) : Int × Int := wInt htR L xs us
set_option maxHeartbeats 3200000 in
theorem implHeightOf (L : Int) (A : Option Addr) (n c : Nat) (xs : List Int) (A1 : Option Addr) (m d : Nat) (us : List Int) (w : World) (h : Rd w A n xs) (hwf : Wf xs) (hL1 : -9223372036854775808 ≤ L) (hL2 : L ≤ 9223372036854775807) (hn : n ≤ maxLen) (h2 : Rd w A1 m us) (hwf2 : Wf us) (hm : m ≤ maxLen) (hT : Tab w) :
    Calls Tryd.prog 36 #[.agg #[.int .i64 L, .slice A n c], .slice A1 m d] w (fun e w' => e = .returned (.tuple #[.int .i64 (htAns L xs us).1, .int .i64 (htAns L xs us).2]) ∧ Below w.heap.size w w') := by
  have hn2 : n ≤ 9223372036854775807 := by unfold maxLen at hn; omega
  have hn1 := h.1
  have hm1 := h2.1
  have HB := Lib.hid (below2 w (.cells #[.int .i64 L, .slice A n c] 28) (.cells #[.slice A1 m d] 22))
  have hh := h.below HB.out
  have ht := rdT_box w (.cells #[.int .i64 L, .slice A n c] 28) A1 m d us 22 h2 hm
  have hh2 := h2.below HB.out
  have hT1 := hT.below HB.out
  cases ha : alphB L xs
  · rw [show htAns L xs us = _ from wInt_no _ L xs us ha]
    have HA := Lib.hid ha
    clear ha ht hn1
    go_enter Tryd.func36, Tryd.ntmps36
    go_wp2_with fail
    refine (dependenceWith_no L _ _ _ _ _ _ xs [] _ hh hwf hL1 hL2 hn2 HA.out hT1).mono ?_
    rintro e w1 ⟨rfl, hb⟩
    go_wp2_with fail
    go_ret2
    exact ⟨rfl, (HB.out.trans (hb.mono HB.out.size))⟩
  · cases hu : wordB L us
    · rw [show htAns L xs us = _ from wInt_bad _ L xs us ha hu]
      obtain ⟨rs, rfl, rfl, h8, hr, hrel, hl, hd, _⟩ := alphB_nats L xs n hn1 ha
      have HU := Lib.hid hu
      clear ha hu
      go_enter Tryd.func36, Tryd.ntmps36
      go_wp2_with fail
      refine (dependenceWith_any _ _ _ _ _ _ rs _ _ hh hwf h8 hr hrel hd ht (by omega) hT1).mono ?_
      rw [okT_one, HU.out]
      rintro e w1 (⟨hok, _⟩ | ⟨hok, rfl, hb⟩)
      · cases hok
      go_wp2_with fail
      go_ret2
      exact ⟨rfl, (HB.out.trans (hb.mono HB.out.size))⟩
    · obtain ⟨rs, rfl, rfl, h8, hr, hrel, hl, hd, _⟩ := alphB_nats L xs n hn1 ha
      obtain ⟨vs, rfl, hv24, hvn⟩ := wordB_nats n us hu
      rw [show htAns (n : Int) (ints rs) (ints vs) = _ from wInt_yes _ (n : Int) rs vs ha hu]
      have HU := Lib.hid hu
      have HDEP := Lib.hid ((depB_iff rs n hl hr).1 hd)
      rw [ints_len] at hm1
      have hm24 : m ≤ 24 := by omega
      have HM := Lib.hid hm1
      clear ha hu hl hm1
      go_enter Tryd.func36, Tryd.ntmps36
      go_wp2_with fail
      refine (dependenceWith_any _ _ _ _ _ _ rs _ _ hh hwf h8 hr hrel hd ht (by omega) hT1).mono ?_
      rw [okT_one, HU.out]
      rintro e w1 (⟨hok, A2, c2, rfl, ho, hb⟩ | ⟨hok, _⟩)
      rotate_left
      · cases hok
      have HB1 := Lib.hid (HB.out.trans (hb.mono HB.out.size))
      have hr2 := hh2.below hb
      have hrd := ho.rd
      have hT2 := hT1.below hb
      clear ho hb hok ht hh hh2 hT1 hT h h2
      go_wp2_with fail
      refine (steps_prog _ _ _ _ _ _ rs vs _ hrd h8 hr HDEP.out hr2 hm24 hvn hT2).mono ?_
      rintro e w2 ⟨A3, c3, rfl, ho3, hb3⟩
      have HB2 := Lib.hid (HB1.out.trans (hb3.mono HB1.out.size))
      have HH : Hid (htR rs vs = ((foM rs vs).length : Int)) := Lib.hid rfl
      obtain ⟨K, hK⟩ : ∃ K, K = (foM rs vs).length := ⟨_, rfl⟩
      rw [← hK] at HH ho3 ⊢
      clear hK
      go_wp2_with fail
      go_ret2
      rw [HH.out]
      exact ⟨rfl, HB2.out⟩
set_option maxHeartbeats 1600000 in
theorem specHeightOf (L : Int) (A : Option Addr) (n c : Nat) (xs : List Int) (A1 : Option Addr) (m d : Nat) (us : List Int) (w : World) (h : Rd w A n xs) (hwf : Wf xs) (hL1 : -9223372036854775808 ≤ L) (hL2 : L ≤ 9223372036854775807) (hn : n ≤ maxLen) (h2 : Rd w A1 m us) (hwf2 : Wf us) (hm : m ≤ maxLen) :
    Calls Tryd.prog 35 #[.agg #[.int .i64 L, .slice A n c], .slice A1 m d] w (fun e w' => e = .returned (.tuple #[.int .i64 (htAns L xs us).1, .int .i64 (htAns L xs us).2]) ∧ Below w.heap.size w w') := by
  have hn2 : n ≤ 9223372036854775807 := by unfold maxLen at hn; omega
  have hm2 : m ≤ 9223372036854775807 := by unfold maxLen at hm; omega
  have hn1 := h.1
  have hm1 := h2.1
  have HB := Lib.hid (below1 w (.cells #[.int .i64 L, .slice A n c] 28))
  have x0 := box_new 28 w L A n c
  have hh := h.below HB.out
  have hh2 := h2.below HB.out
  have HC := Lib.hid (wCode_two L xs us)
  cases ha : alphB L xs
  · rw [show htAns L xs us = _ from wInt_no _ L xs us ha]
    have HD := Lib.hid (wCode_no L xs us ha)
    clear ha hn1
    go_enter Tryd.func35, Tryd.ntmps35
    go_wp2_with fail
    refine (l03Code_any L _ _ _ _ _ _ _ _ _ xs us us _ hh hn2 hh2 hm2 hh2 hm2).mono ?_
    rintro e w1 ⟨rfl, hb⟩
    rw [HC.out, HD.out]
    go_wp2_with fail
    go_ret2
    exact ⟨rfl, (HB.out.trans (hb.mono HB.out.size))⟩
  · cases hu : wordB L us
    · rw [show htAns L xs us = _ from wInt_bad _ L xs us ha hu]
      have HD := Lib.hid (wCode_bad L xs us ha hu)
      clear ha hu hn1
      go_enter Tryd.func35, Tryd.ntmps35
      go_wp2_with fail
      refine (l03Code_any L _ _ _ _ _ _ _ _ _ xs us us _ hh hn2 hh2 hm2 hh2 hm2).mono ?_
      rintro e w1 ⟨rfl, hb⟩
      rw [HC.out, HD.out]
      go_wp2_with fail
      go_ret2
      exact ⟨rfl, (HB.out.trans (hb.mono HB.out.size))⟩
    · have HD := Lib.hid (wCode_yes L xs us ha hu)
      obtain ⟨rs, rfl, rfl, h8, hr, hrel, hl, hd, _⟩ := alphB_nats L xs n hn1 ha
      obtain ⟨vs, rfl, hv24, hvn⟩ := wordB_nats n us hu
      rw [show htAns (n : Int) (ints rs) (ints vs) = _ from wInt_yes _ (n : Int) rs vs ha hu]
      rw [ints_len] at hm1
      have hm24 : m ≤ 24 := by omega
      have HDEP := Lib.hid ((depB_iff rs n hl hr).1 hd)
      clear ha hu hl hm1
      go_enter Tryd.func35, Tryd.ntmps35
      go_wp2_with fail
      refine (l03Code_any (n : Int) _ _ _ _ _ _ _ _ _ (ints rs) (ints vs) (ints vs) _ hh hn2 hh2 hm2 hh2 hm2).mono ?_
      rintro e w1 ⟨rfl, hb⟩
      rw [HC.out, HD.out]
      have y0 := (x0.next hb).c0
      have y1 := (x0.next hb).c1
      have HB1 := Lib.hid (HB.out.trans (hb.mono HB.out.size))
      have HH : Hid (htR rs vs = ((foM rs vs).length : Int)) := Lib.hid rfl
      have HFS := Lib.hid (foata_spec _ _ _ c _ d rs vs _ (hh.below hb) h8 hr (hh2.below hb) hm24 hvn)
      obtain ⟨K, hK⟩ : ∃ K, K = (foM rs vs).length := ⟨_, rfl⟩
      rw [← hK] at HH HFS
      clear hK
      go_wp2_with fail
      refine HFS.out.mono ?_
      rintro e w2 ⟨A2, c2, rfl, ho, hb2⟩
      go_wp2_with fail
      go_ret2
      rw [HH.out]
      exact ⟨rfl, HB1.out.trans (hb2.mono HB1.out.size)⟩
end Go.Proofs.YtpcgjldcdjlenaaDoor
