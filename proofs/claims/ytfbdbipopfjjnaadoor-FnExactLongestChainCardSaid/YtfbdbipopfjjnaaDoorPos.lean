/-
  The positions of a word's trace: positionsIn, positionsWith, order, all, concurrent; l04Code: by contracts.
-/
import Derived.Test.YtfbdbipopfjjnaaDoorOrd
import Derived.Test.YtfbdbipopfjjnaaDoorOrdS
import Derived.Test.YtfbdbipopfjjnaaDoorNfA
namespace Go.Proofs.YtfbdbipopfjjnaaDoor
open Go Go.RowKit
set_option linter.unusedVariables false
set_option maxRecDepth 100000

theorem wCode_zero {L : Int} {xs us : List Int} (h : wCode L xs us = 0) : alphB L xs = true ∧ wordB L us = true := by
  unfold wCode at h
  split at h
  · rename_i h1
    split at h
    · rename_i h2; exact ⟨h1, h2⟩
    · cases h
  · cases h
theorem wCode_cases (L : Int) (xs us : List Int) : wCode L xs us = 0 ∨ wCode L xs us = 1 ∨ wCode L xs us = 2 := by
  unfold wCode
  split
  · split
    · exact .inl rfl
    · exact .inr (.inr rfl)
  · exact .inr (.inl rfl)
theorem nfGo_lt (D : Nat → Nat → Bool) (n : Nat) : ∀ (k : Nat) (us : List Nat) (x : Nat), x ∈ nfGo D n k us → x < n
  | 0, _, _, h => by cases h
  | k + 1, us, x, h => by
    have e : nfGo D n (k + 1) us = match leastFree D n us with | none => [] | some a => a :: nfGo D n k (us.erase a) := rfl
    rw [e] at h
    cases hl : leastFree D n us with
    | none => rw [hl] at h; cases h
    | some a =>
      rw [hl] at h
      rcases List.mem_cons.1 h with rfl | h
      · exact ((leastFree_iff D n us x).1 hl).1
      · exact nfGo_lt D n k _ x h
theorem nfR_lt (rs us : List Nat) (x : Nat) (h : x ∈ nfR rs us) : x < rs.length := nfGo_lt _ _ _ _ _ h
def PosPost (D : Nat → Nat → Bool) (nf : List Nat) (m : Nat) (w : World) (e : Ending) (w' : World) : Prop :=
  ∃ g A5 c5, e = .returned (.tuple #[.pointer (some ⟨g, 0, none⟩), .int .i64 0]) ∧ w.heap.size ≤ g ∧ OBox w' g A5 m c5 (dnF D nf m) (upW D nf m) ∧ Rd w' A5 m (ints nf) ∧ Below w.heap.size w w'
set_option maxHeartbeats 1600000 in
theorem positionsIn_no (L : Int) (A : Option Addr) (n c : Nat) (xs : List Int) (A1 : Option Addr) (m d : Nat) (us : List Int) (w : World) (h : Rd w A n xs) (hwf : Wf xs) (hL1 : -9223372036854775808 ≤ L) (hL2 : L ≤ 9223372036854775807) (hn : n ≤ maxLen) (h2 : Rd w A1 m us) (hwf2 : Wf us) (hm : m ≤ maxLen) (hT : Tab w) (hc : ¬ wCode L xs us = 0) :
    Calls Tryd.prog 50 #[.agg #[.int .i64 L, .slice A n c], .slice A1 m d] w (fun e w' => e = .returned (.tuple #[.pointer none, .int .i64 (wCode L xs us)]) ∧ Below w.heap.size w w') := by
  have hn2 : n ≤ 9223372036854775807 := by unfold maxLen at hn; omega
  have hn1 := h.1
  have HB := Lib.hid (below2 w (.cells #[.int .i64 L, .slice A n c] 28) (.cells #[.slice A1 m d] 22))
  have hh := h.below HB.out
  have ht := rdT_box w (.cells #[.int .i64 L, .slice A n c] 28) A1 m d us 22 h2 hm
  have hT1 := hT.below HB.out
  cases ha : alphB L xs
  · rw [wCode_no L xs us ha]
    have HA := Lib.hid ha
    clear ha ht hn1 hc
    go_enter Tryd.func50, Tryd.ntmps50
    go_wp2_with fail
    refine (dependenceWith_no L _ _ _ _ _ _ xs [] _ hh hwf hL1 hL2 hn2 HA.out hT1).mono ?_
    rintro e w1 ⟨rfl, hb⟩
    go_wp2_with fail
    go_ret2
    exact ⟨rfl, HB.out.trans (hb.mono HB.out.size)⟩
  · cases hu : wordB L us
    · rw [wCode_bad L xs us ha hu]
      obtain ⟨rs, rfl, rfl, h8, hr, hrel, hl, hd, _⟩ := alphB_nats L xs n hn1 ha
      have HU := Lib.hid hu
      clear ha hu hc
      go_enter Tryd.func50, Tryd.ntmps50
      go_wp2_with fail
      refine (dependenceWith_any _ _ _ _ _ _ rs _ _ hh hwf h8 hr hrel hd ht (by omega) hT1).mono ?_
      rw [okT_one, HU.out]
      rintro e w1 (⟨hok, _⟩ | ⟨hok, rfl, hb⟩)
      · cases hok
      go_wp2_with fail
      go_ret2
      exact ⟨rfl, HB.out.trans (hb.mono HB.out.size)⟩
    · exact absurd (wCode_yes L xs us ha hu) hc
set_option maxHeartbeats 1600000 in
theorem positionsIn_yes (A : Option Addr) (n c : Nat) (rs : List Nat) (A1 : Option Addr) (m d : Nat) (vs : List Nat) (w : World) (h : Rd w A n (ints rs)) (hwf : Wf (ints rs)) (h8 : n ≤ 8) (hr : ∀ i, rs.getD i 0 < 2 ^ n) (hrel : relB (ints rs) = true) (hl : rs.length = n) (hd : depB rs = true) (h2 : Rd w A1 m (ints vs)) (hm24 : m ≤ 24) (hvn : ∀ u, u ∈ vs → u < n) (hu : wordB (n : Int) (ints vs) = true) (hT : Tab w) :
    Calls Tryd.prog 50 #[.agg #[.int .i64 (n : Int), .slice A n c], .slice A1 m d] w (PosPost (RDep rs) (nfR rs vs) m w) := by
  have hm : m ≤ maxLen := by unfold maxLen; omega
  have hm1 : vs.length = m := by have := h2.1; rw [ints_len] at this; exact this
  have HB := Lib.hid (below2 w (.cells #[.int .i64 (n : Int), .slice A n c] 28) (.cells #[.slice A1 m d] 22))
  have hh := h.below HB.out
  have ht := rdT_box w (.cells #[.int .i64 (n : Int), .slice A n c] 28) A1 m d (ints vs) 22 h2 hm
  have hh2 := h2.below HB.out
  have hT1 := hT.below HB.out
  have HU := Lib.hid hu
  have hdep := (depB_iff rs n hl hr).1 hd
  have HSYM := Lib.hid (rdep_sym rs n hl hr hdep)
  have HDEP := Lib.hid hdep
  have HVR : Hid (∀ p, p < m → vs.getD p 0 < n) := Lib.hid fun p hp => in_getD hvn p (by omega)
  have HR63 : Hid (∀ i, rs.getD i 0 < 9223372036854775808) := Lib.hid fun i => lt63 (by omega) (hr i)
  have HNL : Hid (∀ x, x ∈ nfR rs vs → x < n) := Lib.hid fun x hx => by have := nfR_lt rs vs x hx; omega
  have HLR : Hid (rs.length = n) := Lib.hid hl
  have HLU : Hid (vs.length = m) := Lib.hid hm1
  clear hu hl hm1 hdep
  go_enter Tryd.func50, Tryd.ntmps50
  go_wp2_with fail
  refine (dependenceWith_any _ _ _ _ _ _ rs _ _ hh hwf h8 hr hrel hd ht (by omega) hT1).mono ?_
  rw [okT_one, HU.out]
  rintro e w1 (⟨hok, A2, c2, rfl, ho, hb⟩ | ⟨hok, _⟩)
  rotate_left
  · cases hok
  have HB1 := Lib.hid (HB.out.trans (hb.mono HB.out.size))
  have HRW := Lib.hid (hh2.below hb)
  have HRD := Lib.hid ho.rd
  have HTT := Lib.hid (hT1.below hb)
  clear ho hb hok ht hh hh2 hT1 hT h h2 hd hrel
  go_wp2_with fail
  refine (traceOf_any A2 A1 n m c2 d rs vs _ HRD.out HRW.out hm24 (by omega) HVR.out HR63.out HTT.out).mono ?_
  rintro e w5 ⟨A5, c5, B5, d5, es, rfl, hp, hs, h1, h2, -, -, hb5⟩
  have HNF := Lib.hid (nf_from A5 B5 c5 d5 m n rs vs es w5 HLR.out hr HDEP.out HLU.out HVR.out hm24 hp hs h1 h2 (HTT.out.below hb5))
  have HB5 := Lib.hid (HB1.out.trans (hb5.mono HB1.out.size))
  have HRD5 := Lib.hid (HRD.out.below hb5)
  have HT5 := Lib.hid (HTT.out.below hb5)
  clear hp hs h1 h2 hb5
  go_wp2_with fail
  refine HNF.out.mono ?_
  rintro e w6 ⟨A6, c6, rfl, ho6, hb6⟩
  have hnl : (nfR rs vs).length = m := by have := ho6.len; rw [ints_len] at this; exact this
  have HORD := Lib.hid (ordered_any A2 A6 n m c2 c6 rs (nfR rs vs) w6 (HRD5.out.below hb6) ho6.rd hm24 ho6.le (by omega) (fun p hp => in_getD HNL.out p (by omega)) HR63.out HSYM.out (HT5.out.below hb6))
  have HB6 := Lib.hid (HB5.out.trans (hb6.mono HB5.out.size))
  have HR6 := Lib.hid ho6.rd
  clear ho6 hb6 hnl
  go_wp2_with fail
  refine HORD.out.mono ?_
  rintro e w7 ⟨g, rfl, hg, x, hb7⟩
  go_wp2_with fail
  go_ret2
  exact ⟨g, A6, c6, rfl, Nat.le_trans HB6.out.size hg, x, HR6.out.below hb7, HB6.out.trans (hb7.mono HB6.out.size)⟩
set_option maxHeartbeats 1600000 in
theorem l04Code_no (L : Int) (A : Option Addr) (n c : Nat) (xs : List Int) (A1 : Option Addr) (m d : Nat) (us : List Int) (w : World) (h : Rd w A n xs) (hn : n ≤ maxLen) (h2 : Rd w A1 m us) (hm : m ≤ maxLen) (hc : ¬ wCode L xs us = 0) :
    Calls Tryd.prog 47 #[.agg #[.int .i64 L, .slice A n c], .slice A1 m d] w (fun e w' => e = .returned (.tuple #[.slice none 0 0, .slice none 0 0, .int .i64 (wCode L xs us)]) ∧ Below w.heap.size w w') := by
  have hn2 : n ≤ 9223372036854775807 := by unfold maxLen at hn; omega
  have hm2 : m ≤ 9223372036854775807 := by unfold maxLen at hm; omega
  have HB := Lib.hid (below1 w (.cells #[.int .i64 L, .slice A n c] 28))
  have x0 := box_new 28 w L A n c
  have hh := h.below HB.out
  have hh2 := h2.below HB.out
  have HC := Lib.hid (wCode_two L xs us)
  obtain ⟨C, hC⟩ : ∃ C, C = wCode L xs us := ⟨_, rfl⟩
  rw [← hC] at hc HC ⊢
  have hq1 : (C != 0) = true := by simpa using hc
  have hq2 : (C == 0) = false := by simpa using hc
  clear hC hc
  go_enter Tryd.func47, Tryd.ntmps47
  go_wp2_with fail
  refine (l03Code_any L _ _ _ _ _ _ _ _ _ xs us us _ hh hn2 hh2 hm2 hh2 hm2).mono ?_
  rintro e w1 ⟨rfl, hb⟩
  rw [HC.out]
  go_wp2_with fail
  go_ret3
  exact ⟨rfl, HB.out.trans (hb.mono HB.out.size)⟩
def CodePost (D : Nat → Nat → Bool) (nf : List Nat) (m : Nat) (w : World) (e : Ending) (w' : World) : Prop :=
  ∃ A5 c5 A6 c6, e = .returned (.tuple #[.slice A5 m c5, .slice A6 m c6, .int .i64 0]) ∧ Own 2 w' w.heap.size A5 m c5 (ints nf) ∧ Own 2 w' w.heap.size A6 m c6 (ints (ordM D nf m)) ∧ Below w.heap.size w w'
set_option maxHeartbeats 1600000 in
theorem l04Code_yes (A : Option Addr) (n c : Nat) (rs : List Nat) (A1 : Option Addr) (m d : Nat) (vs : List Nat) (w : World) (h : Rd w A n (ints rs)) (h8 : n ≤ 8) (hr : ∀ i, rs.getD i 0 < 2 ^ n) (hl : rs.length = n) (h2 : Rd w A1 m (ints vs)) (hm24 : m ≤ 24) (hvn : ∀ u, u ∈ vs → u < n) (hc : wCode (n : Int) (ints rs) (ints vs) = 0) :
    Calls Tryd.prog 47 #[.agg #[.int .i64 (n : Int), .slice A n c], .slice A1 m d] w (CodePost (RDep rs) (nfR rs vs) m w) := by
  have hm1 : vs.length = m := by have := h2.1; rw [ints_len] at this; exact this
  have HB := Lib.hid (below1 w (.cells #[.int .i64 (n : Int), .slice A n c] 28))
  have x0 := box_new 28 w (n : Int) A n c
  have hh := h.below HB.out
  have hh2 := h2.below HB.out
  have HC : Hid (wCode2 (n : Int) (ints rs) (ints vs) (ints vs) = 0) := Lib.hid (by rw [wCode_two]; exact hc)
  have HNR : Hid (nfM (RDep rs) n vs = nfR rs vs) := Lib.hid (by unfold nfR; rw [hl])
  have HVR : Hid (∀ p, p < m → vs.getD p 0 < n) := Lib.hid fun p hp => in_getD hvn p (by omega)
  have HNL : Hid (∀ x, x ∈ nfR rs vs → x < n) := Lib.hid fun x hx => by have := nfR_lt rs vs x hx; omega
  clear hc hm1 hl
  go_enter Tryd.func47, Tryd.ntmps47
  go_wp2_with fail
  refine (l03Code_any (n : Int) _ _ _ _ _ _ _ _ _ (ints rs) (ints vs) (ints vs) _ hh (by omega) hh2 (by omega) hh2 (by omega)).mono ?_
  rintro e w1 ⟨rfl, hb⟩
  rw [HC.out]
  have x1 := x0.next hb
  have y0 := x1.c0
  have y1 := x1.c1
  have HB1 := Lib.hid (HB.out.trans (hb.mono HB.out.size))
  have HNO := Lib.hid (l03Normal_any A A1 n c m d rs vs w1 (hh.below hb) (by omega) hr (hh2.below hb) hm24 HVR.out)
  have hh1 := hh.below hb
  clear hh hh2 h h2 hb x0
  go_wp2_with fail
  refine HNO.out.mono ?_
  rintro e w2 ⟨A5, c5, rfl, ho5, hb5⟩
  rw [HNR.out] at ho5
  have hnl : (nfR rs vs).length = m := by have := ho5.len; rw [ints_len] at this; exact this
  have HOR := Lib.hid (l04Order_any (n : Int) A A5 n c m c5 rs (nfR rs vs) w2 (hh1.below hb5) (by omega) hr ho5.rd hm24 (fun p hp => in_getD HNL.out p (by omega)))
  have x2 := x1.next hb5
  have z0 := x2.c0
  have z1 := x2.c1
  have HB2 := Lib.hid (HB1.out.trans (hb5.mono HB1.out.size))
  have HO5 := Lib.hid (ho5.mono HB1.out.size)
  clear hnl ho5 hb5 y0 y1 x1 hh1
  go_wp2_with fail
  refine HOR.out.mono ?_
  rintro e w3 ⟨A6, c6, rfl, ho6, hb6⟩
  go_wp2_with fail
  go_ret3
  exact ⟨A5, c5, A6, c6, rfl, HO5.out.below hb6, ho6.mono HB2.out.size, HB2.out.trans (hb6.mono HB2.out.size)⟩
section
variable {w : World} {g m c : Nat} {A : Option Addr} {f h : Nat → Nat}
theorem OBox.rdh (x : OBox w g A m c f h) (k : Nat) (hk : k ≤ 24) : Rd w (some ⟨g, 25, none⟩) k (ints ((List.range k).map h)) := by
  refine ⟨by rw [ints_len]; simp, fun _ => ⟨g, 25, rfl, x.lt, fun j y hy => ?_⟩⟩
  have hj : j < k := by
    rcases Nat.lt_or_ge j k with h1 | h1
    · exact h1
    · rw [List.getElem?_eq_none (by rw [ints_len]; simpa using h1)] at hy; cases hy
  rw [ints_getD _ j (by simpa using hj), getD_range_map _ _ _ hj] at hy
  injection hy with hy
  rw [← hy]
  exact x.ch j (by omega)
end
end Go.Proofs.YtfbdbipopfjjnaaDoor
