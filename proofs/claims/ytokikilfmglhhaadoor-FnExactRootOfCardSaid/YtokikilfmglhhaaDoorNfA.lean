/-
  NormalForm: both sides.
-/
import Derived.Test.YtokikilfmglhhaaDoorTrIn
import Derived.Test.YtokikilfmglhhaaDoorNfS
namespace Go.Proofs.YtokikilfmglhhaaDoor
open Go Go.RowKit
set_option linter.unusedVariables false
set_option maxRecDepth 100000

def nfAns (L : Int) (xs us : List Int) : List Int × Int := wAns nfR L xs us
theorem nfAns_small (L : Int) (xs us : List Int) : (nfAns L xs us).1.length ≤ 24 := wAns_small _ 24 (fun rs us _ h => Nat.le_trans (nfR_len rs us) h) L xs us
theorem in_getD {n : Nat} {vs : List Nat} (h : ∀ u, u ∈ vs → u < n) : ∀ p, p < vs.length → vs.getD p 0 < n := fun p hp => h _ (by rw [List.getD_eq_getElem?_getD, List.getElem?_eq_getElem hp]; exact List.getElem_mem _)
set_option maxHeartbeats 3200000 in
theorem implNormalForm (L : Int) (A : Option Addr) (n c : Nat) (xs : List Int) (A1 : Option Addr) (m d : Nat) (us : List Int) (w : World) (h : Rd w A n xs) (hwf : Wf xs) (hL1 : -9223372036854775808 ≤ L) (hL2 : L ≤ 9223372036854775807) (hn : n ≤ maxLen) (h2 : Rd w A1 m us) (hwf2 : Wf us) (hm : m ≤ maxLen) (hT : Tab w) :
    Calls Tryd.prog 16 #[.agg #[.int .i64 L, .slice A n c], .slice A1 m d] w (LsPost w (nfAns L xs us).1.length (nfAns L xs us).1 (nfAns L xs us).2) := by
  have hn1 := h.1
  have hm1 := h2.1
  have HB := Lib.hid (below1 w (.cells #[.int .i64 L, .slice A n c] 24))
  have hh := h.below HB.out
  have hh2 := h2.below HB.out
  have hT1 := hT.below HB.out
  cases ha : alphB L xs
  · rw [show nfAns L xs us = _ from wAns_no _ L xs us ha]
    have HTI := Lib.hid (traceIn_no L A n c xs A1 m d us _ hh hwf hL1 hL2 hn hh2 hwf2 hm hT1 ha)
    clear ha hn1
    go_enter Tryd.func16, Tryd.ntmps16
    go_wp2_with fail
    refine HTI.out.mono ?_
    rintro e w1 ⟨rfl, hb⟩
    go_wp2_with fail
    go_ret2
    exact LsPost.of_ans (ans_no 1 ((HB.out.trans (hb.mono HB.out.size)).alloc (by have := HB.out.size; have := hb.size; omega) _))
  · cases hu : wordB L us
    · rw [show nfAns L xs us = _ from wAns_bad _ L xs us ha hu]
      have HTI := Lib.hid (traceIn_bad L A n c xs A1 m d us _ hh hwf hL1 hL2 hn hh2 hwf2 hm hT1 ha hu)
      clear ha hu hn1
      go_enter Tryd.func16, Tryd.ntmps16
      go_wp2_with fail
      refine HTI.out.mono ?_
      rintro e w1 ⟨rfl, hb⟩
      go_wp2_with fail
      go_ret2
      exact LsPost.of_ans (ans_no 2 ((HB.out.trans (hb.mono HB.out.size)).alloc (by have := HB.out.size; have := hb.size; omega) _))
    · obtain ⟨rs, rfl, rfl, h8, hr, hrel, hl, hd, _⟩ := alphB_nats L xs n hn1 ha
      obtain ⟨vs, rfl, hv24, hvn⟩ := wordB_nats n us hu
      rw [show nfAns (n : Int) (ints rs) (ints vs) = _ from wAns_yes _ (n : Int) rs vs ha hu]
      rw [ints_len] at hm1
      have hm24 : m ≤ 24 := by omega
      have hvp : ∀ p, p < m → vs.getD p 0 < n := fun p hp => in_getD hvn p (by omega)
      have HTI := Lib.hid (traceIn_yes A n c rs A1 m d vs _ hh hwf h8 hr hrel hl hd hh2 hm24 hvp hu hT1)
      have HNF : Hid (∀ (A5 B5 : Option Addr) (c5 d5 : Nat) (es : List Nat) (ww : World), es.Perm (List.range m) → Srt (fun p => vs.getD p 0) es 0 m → Rd ww A5 m (ints (letM vs es m m)) → Rd ww B5 m (ints (befM rs vs es m m 0)) → Tab ww → Calls Tryd.prog 55 #[.agg #[.slice A5 m c5, .slice B5 m d5]] ww (MakesE 2 ww m (ints (nfR rs vs)))) := Lib.hid fun A5 B5 c5 d5 es ww hp hs h1 h2 hT' => nf_from A5 B5 c5 d5 m n rs vs es ww hl hr ((depB_iff rs n hl hr).1 hd) hm1 hvp hm24 hp hs h1 h2 hT'
      clear ha hu hl hm1 hvp hd hr hrel
      go_enter Tryd.func16, Tryd.ntmps16
      go_wp2_with fail
      refine HTI.out.mono ?_
      rintro e w1 ⟨A5, c5, B5, d5, es, rfl, hp, hs, h1, h2, hb⟩
      have hx := below1 w1 (.cells #[.slice A5 m c5, .slice B5 m d5] 63)
      have HNF1 := Lib.hid (HNF.out A5 B5 c5 d5 es _ hp hs (h1.below hx) (h2.below hx) ((hT1.below hb).below hx))
      have HB1 := Lib.hid ((HB.out.trans (hb.mono HB.out.size)).trans (hx.mono (by have := HB.out.size; have := hb.size; omega)))
      clear hp hs h1 h2 hb hx hh hh2 hT1
      go_wp2_with fail
      refine HNF1.out.mono ?_
      rintro e w6 ⟨A6, c6, rfl, ho6, hb6⟩
      go_wp2_with fail
      go_ret2
      exact LsPost.of_ans (ans_yes ho6.len (ho6.mono HB1.out.size) (HB1.out.trans (hb6.mono HB1.out.size)))
end Go.Proofs.YtokikilfmglhhaaDoor
