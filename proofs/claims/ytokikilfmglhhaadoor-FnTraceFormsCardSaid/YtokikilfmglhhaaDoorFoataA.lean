/-
  FoataForm: both sides.
-/
import Derived.Test.YtokikilfmglhhaaDoorFoata
import Derived.Test.YtokikilfmglhhaaDoorFoataT
namespace Go.Proofs.YtokikilfmglhhaaDoor
open Go.RowKit
set_option linter.unusedVariables false
set_option maxRecDepth 100000

def foAns (L : Int) (xs us : List Int) : List Int × Int := wAns foM L xs us
theorem foAns_small (L : Int) (xs us : List Int) : (foAns L xs us).1.length ≤ 24 := wAns_small _ 24 (fun rs us _ h => Nat.le_trans (foM_len rs us) h) L xs us
set_option maxHeartbeats 3200000 in
theorem implFoataForm (L : Int) (A : Option Addr) (n c : Nat) (xs : List Int) (A1 : Option Addr) (m d : Nat) (us : List Int) (w : World) (h : Rd w A n xs) (hwf : Wf xs) (hL1 : -9223372036854775808 ≤ L) (hL2 : L ≤ 9223372036854775807) (hn : n ≤ maxLen) (h2 : Rd w A1 m us) (hwf2 : Wf us) (hm : m ≤ maxLen) (hT : Tab w) :
    Calls Tryd.prog 17 #[.agg #[.int .i64 L, .slice A n c], .slice A1 m d] w (LsPost w (foAns L xs us).1.length (foAns L xs us).1 (foAns L xs us).2) := by
  have hn2 : n ≤ 9223372036854775807 := by unfold maxLen at hn; omega
  have hn1 := h.1
  have hm1 := h2.1
  have HB := Lib.hid (below2 w (.cells #[.int .i64 L, .slice A n c] 24) (.cells #[.slice A1 m d] 22))
  have hh := h.below HB.out
  have ht := rdT_box w (.cells #[.int .i64 L, .slice A n c] 24) A1 m d us 22 h2 hm
  have hh2 := h2.below HB.out
  have hT1 := hT.below HB.out
  cases ha : alphB L xs
  · rw [show foAns L xs us = _ from wAns_no _ L xs us ha]
    have HA := Lib.hid ha
    clear ha ht hn1
    go_enter Tryd.func17, Tryd.ntmps17
    go_wp2_with fail
    refine (dependenceWith_no L _ _ _ _ _ _ xs [] _ hh hwf hL1 hL2 hn2 HA.out hT1).mono ?_
    rintro e w1 ⟨rfl, hb⟩
    go_wp2_with fail
    go_ret2
    exact LsPost.of_ans (ans_no 1 (HB.out.trans (hb.mono HB.out.size)))
  · cases hu : wordB L us
    · rw [show foAns L xs us = _ from wAns_bad _ L xs us ha hu]
      obtain ⟨rs, rfl, rfl, h8, hr, hrel, hl, hd, _⟩ := alphB_nats L xs n hn1 ha
      have HU := Lib.hid hu
      clear ha hu
      go_enter Tryd.func17, Tryd.ntmps17
      go_wp2_with fail
      refine (dependenceWith_any _ _ _ _ _ _ rs _ _ hh hwf h8 hr hrel hd ht (by omega) hT1).mono ?_
      rw [okT_one, HU.out]
      rintro e w1 (⟨hok, _⟩ | ⟨hok, rfl, hb⟩)
      · cases hok
      go_wp2_with fail
      go_ret2
      exact LsPost.of_ans (ans_no 2 (HB.out.trans (hb.mono HB.out.size)))
    · obtain ⟨rs, rfl, rfl, h8, hr, hrel, hl, hd, _⟩ := alphB_nats L xs n hn1 ha
      obtain ⟨vs, rfl, hv24, hvn⟩ := wordB_nats n us hu
      rw [show foAns (n : Int) (ints rs) (ints vs) = _ from wAns_yes _ (n : Int) rs vs ha hu]
      have HU := Lib.hid hu
      have HDEP := Lib.hid ((depB_iff rs n hl hr).1 hd)
      rw [ints_len] at hm1
      have hm24 : m ≤ 24 := by omega
      have HM := Lib.hid hm1
      clear ha hu hl hm1
      go_enter Tryd.func17, Tryd.ntmps17
      go_wp2_with fail
      refine (dependenceWith_any _ _ _ _ _ _ rs _ _ hh hwf h8 hr hrel hd ht (by omega) hT1).mono ?_
      rw [okT_one, HU.out]
      rintro e w1 (⟨hok, A2, c2, rfl, ho, hb⟩ | ⟨hok, _⟩)
      rotate_left
      · cases hok
      have HB1 := Lib.hid (HB.out.trans (hb.mono HB.out.size))
      have hr2 := hh2.below hb
      have hrd := ho.rd
      have hT2 := hT1.below hb
      clear ho hb hok ht hh hh2 hT1 hT h h2
      go_wp2_with fail
      refine (steps_prog _ _ _ _ _ _ rs vs _ hrd h8 hr HDEP.out hr2 hm24 hvn hT2).mono ?_
      rintro e w2 ⟨A3, c3, rfl, ho3, hb3⟩
      have hlen := foM_len rs vs
      have HB2 := Lib.hid (HB1.out.trans (hb3.mono HB1.out.size))
      obtain ⟨K, hK⟩ : ∃ K, K = (foM rs vs).length := ⟨_, rfl⟩
      have HK := Lib.hid hK
      rw [← hK] at ho3 hlen ⊢
      have hn3 : K ≤ 1048576 := by omega
      clear hK
      go_wp2_with fail
      refine (masksOf_any _ _ _ _ _ ho3.rd hn3).mono ?_
      rintro e w4 ⟨A4, c4, rfl, ho4, hb4⟩
      go_wp2_with fail
      go_ret2
      exact LsPost.of_ans (ans_yes (by rw [ints_len, HK.out]) (ho4.mono HB2.out.size) (HB2.out.trans (hb4.mono HB2.out.size)))
end Go.Proofs.YtokikilfmglhhaaDoor
