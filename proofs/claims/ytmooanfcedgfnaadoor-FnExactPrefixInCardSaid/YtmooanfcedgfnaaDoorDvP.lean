/-
  PrefixIn: both sides.
-/
import Derived.Test.YtmooanfcedgfnaaDoorDvB
import Derived.Test.YtmooanfcedgfnaaDoorPrA
namespace Go.Proofs.YtmooanfcedgfnaaDoor
open Go Go.RowKit
set_option linter.unusedVariables false
set_option maxRecDepth 100000

def pnR (rs us : List Nat) (k : Nat) : List Nat := nfR rs (inGo (RDep rs) (fun a => k.testBit a) us [] []).1
def pnAns (L : Int) (xs us : List Int) (a : Int) : List Int × Int := if wCode L xs us = 0 then (if isMaskB a L = true then (ints (pnR (xs.map Int.toNat) (us.map Int.toNat) a.toNat), 0) else ([], 2)) else ([], wCode L xs us)
theorem pnAns_no (L : Int) (xs us : List Int) (a : Int) (h : alphB L xs = false) : pnAns L xs us a = ([], 1) := by
  have e := wCode_no L xs us h
  unfold pnAns; rw [e]; rfl
theorem pnAns_bad (L : Int) (xs us : List Int) (a : Int) (h : alphB L xs = true) (h2 : wordB L us = false) : pnAns L xs us a = ([], 2) := by
  have e := wCode_bad L xs us h h2
  unfold pnAns; rw [e]; rfl
theorem pnAns_out (L : Int) (xs us : List Int) (a : Int) (h : alphB L xs = true) (h2 : wordB L us = true) (h3 : isMaskB a L = false) : pnAns L xs us a = ([], 2) := by
  have e := wCode_yes L xs us h h2
  unfold pnAns; rw [if_pos e, if_neg (by rw [h3]; decide)]
theorem pnAns_yes (L : Int) (rs us : List Nat) (a : Nat) (h : alphB L (ints rs) = true) (h2 : wordB L (ints us) = true) (h3 : isMaskB (a : Int) L = true) : pnAns L (ints rs) (ints us) (a : Int) = (ints (pnR rs us a), 0) := by
  have e := wCode_yes L (ints rs) (ints us) h h2
  unfold pnAns; rw [if_pos e, if_pos h3, ints_toNat, ints_toNat]; rfl
theorem inGo_len (D : Nat → Nat → Bool) (P : Nat → Bool) : ∀ u p f : List Nat, (inGo D P u p f).1.length ≤ p.length + u.length ∧ ∀ x, x ∈ (inGo D P u p f).1 → x ∈ p ∨ x ∈ u
  | [], p, f => ⟨by simp [inGo], fun x hx => .inl hx⟩
  | a :: u, p, f => by
    by_cases h : (P a && !depL D f a) = true
    · have e : inGo D P (a :: u) p f = inGo D P u (p ++ [a]) f := if_pos h
      rw [e]
      obtain ⟨h1, h2⟩ := inGo_len D P u (p ++ [a]) f
      refine ⟨by simp at h1 ⊢; omega, fun x hx => ?_⟩
      rcases h2 x hx with h | h
      · rcases List.mem_append.1 h with h | h
        · exact .inl h
        · simp at h; subst h; exact .inr List.mem_cons_self
      · exact .inr (List.mem_cons_of_mem _ h)
    · have e : inGo D P (a :: u) p f = inGo D P u p (f ++ [a]) := if_neg h
      rw [e]
      obtain ⟨h1, h2⟩ := inGo_len D P u p (f ++ [a])
      refine ⟨by simp at h1 ⊢; omega, fun x hx => ?_⟩
      rcases h2 x hx with h | h
      · exact .inl h
      · exact .inr (List.mem_cons_of_mem _ h)
theorem pnAns_small (L : Int) (xs us : List Int) (a : Int) : (pnAns L xs us a).1.length ≤ 24 := by
  unfold pnAns
  by_cases h : wCode L xs us = 0
  · rw [if_pos h]
    by_cases h2 : isMaskB a L = true
    · rw [if_pos h2, ints_len]
      have hw : wordB L us = true := by
        unfold wCode at h
        split at h
        · split at h
          · assumption
          · cases h
        · cases h
      unfold wordB at hw
      rw [Bool.and_eq_true, decide_eq_true_eq] at hw
      have := (inGo_len (RDep (xs.map Int.toNat)) (fun b => a.toNat.testBit b) (us.map Int.toNat) [] []).1
      simp at this
      exact Nat.le_trans (nfR_len _ _) (by omega)
    · rw [if_neg h2]; exact Nat.zero_le _
  · rw [if_neg h]; exact Nat.zero_le _
theorem inGo_in (D : Nat → Nat → Bool) (P : Nat → Bool) (a : Nat) (u p f : List Nat) (h : P a = true) (h2 : depL D f a = false) : inGo D P (a :: u) p f = inGo D P u (p ++ [a]) f := by
  show (if (P a && !depL D f a) = true then _ else _) = _
  rw [h, h2]; rfl
theorem inGo_no (D : Nat → Nat → Bool) (P : Nat → Bool) (a : Nat) (u p f : List Nat) (h : P a = false) : inGo D P (a :: u) p f = inGo D P u p (f ++ [a]) := by
  show (if (P a && !depL D f a) = true then _ else _) = _
  rw [h]; rfl
theorem inGo_dep (D : Nat → Nat → Bool) (P : Nat → Bool) (a : Nat) (u p f : List Nat) (h2 : depL D f a = true) : inGo D P (a :: u) p f = inGo D P u p (f ++ [a]) := by
  show (if (P a && !depL D f a) = true then _ else _) = _
  rw [h2, if_neg (by simp)]
theorem ind_one (D : Nat → Nat → Bool) (hsym : ∀ a b, D a b = D b a) (X : Nat) (f : List Nat) : indM D [X] f = !depL D f X := by
  unfold indM depL
  congr 1
  congr 1
  funext y
  show (D X y || false) = D y X
  rw [Bool.or_false, hsym]
theorem rd_lit (w : World) (X : Int) (T : TypeId) : Rd (w.alloc (.cells #[.int .i64 X] T)) (some ⟨w.heap.size, 0, none⟩) 1 [X] :=
  ⟨rfl, fun _ => ⟨w.heap.size, 0, rfl, by simp, fun j x hx => by
    have hj : j = 0 := by
      rcases Nat.eq_zero_or_pos j with h | h
      · exact h
      · rw [List.getElem?_eq_none (by simp; omega)] at hx; cases hx
    subst hj
    simp at hx
    subst hx
    have h9 := World.alloc_heap_new w (.cells #[.int .i64 X] T)
    show World.cell? _ ⟨w.heap.size, 0, none⟩ = _
    unfold World.cell?
    rw [h9]; rfl⟩⟩
theorem two_app {w w4 : World} {o : Obj} {B g cap a n0 c0 n1 c1 : Nat} {A0 A1 : Option Addr} {p f : List Nat} (o0 : Own 2 w B A0 n0 c0 (ints p)) (o1 : Own 2 w B A1 n1 c1 (ints f)) (s : ∀ k, A0.map (·.block) = some k → A1.map (·.block) ≠ some k) (hB : B ≤ w.heap.size)
    (hown : w4.ownsRow B 2 1 (.slice (some ⟨g, 0, none⟩) (n0 + 1) cap) (n0 + 1) ((ints p).map (Value.int .i64) ++ [.int .i64 (a : Int)])) (hg : (w.alloc o).grownBy w4 (Value.slice A0 n0 c0).ownBlock) (hat : (Value.slice A0 n0 c0).ownBlock = some g ∨ g = w.heap.size + 1) :
    Own 2 w4 B (some ⟨g, 0, none⟩) (n0 + 1) cap (ints (p ++ [a])) ∧ Own 2 w4 B A1 n1 c1 (ints f) ∧ (∀ k, (some (⟨g, 0, none⟩ : Addr)).map (·.block) = some k → A1.map (·.block) ≠ some k) ∧ Below B w w4 := by
  rw [ints_snoc_map] at hown
  refine ⟨hown, (o1.below (below1 w o)).apart hg (fun k hk e => s k (ownBlock_map' e) hk), fun k hk e => ?_, (((Below.refl B w).alloc hB o).grown hg (by simp; omega) (fun r e => (o0.lt r (ownBlock_map' e)).1))⟩
  injection hk with hk
  have h9 : g = k := hk
  subst h9
  rcases hat with h | h
  · exact s g (ownBlock_map' h) e
  · have := (o1.lt g e).2; omega
/-- The program's comparison of a word with its projection takes what the model takes. -/
theorem pn_cmp (rs us : List Nat) (k n : Nat) (href : ∀ a, a < n → RDep rs a a = true) (hu : ∀ x, x ∈ us → x < n) : (cmpM (RDep rs) us (prjS us k)).1 = (inGo (RDep rs) (fun a => k.testBit a) us [] []).1 := by
  have := in_cmp (RDep rs) (fun a => k.testBit a) n href us [] [] hu
  rw [List.filter_nil, List.nil_append] at this
  exact this
set_option maxHeartbeats 3200000 in
theorem implPrefixIn (L : Int) (A : Option Addr) (n c : Nat) (xs : List Int) (A1 : Option Addr) (m d : Nat) (us : List Int) (a : Int) (w : World) (h : Rd w A n xs) (hwf : Wf xs) (hL1 : -9223372036854775808 ≤ L) (hL2 : L ≤ 9223372036854775807) (hn : n ≤ maxLen) (h2 : Rd w A1 m us) (hwf2 : Wf us) (hm : m ≤ maxLen) (ha1 : -9223372036854775808 ≤ a) (ha2 : a ≤ 9223372036854775807) (hT : Tab w) :
    Calls Tryd.prog 40 #[.agg #[.int .i64 L, .slice A n c], .slice A1 m d, .int .i64 a] w (LsPost w (pnAns L xs us a).1.length (pnAns L xs us a).1 (pnAns L xs us a).2) := by
  have hn2 : n ≤ 9223372036854775807 := by unfold maxLen at hn; omega
  have hn1 := h.1
  have hm1 := h2.1
  have x0 := box_new 28 w L A n c
  have HB := Lib.hid (below2 w (.cells #[.int .i64 L, .slice A n c] 28) (.cells #[.slice A1 m d] 22))
  have hh := h.below HB.out
  have ht := rdT_box w (.cells #[.int .i64 L, .slice A n c] 28) A1 m d us 22 h2 hm
  have hh2 := h2.below HB.out
  have hT1 := hT.below HB.out
  have x1 := x0.next (below1 (w.alloc (.cells #[.int .i64 L, .slice A n c] 28)) (.cells #[.slice A1 m d] 22))
  cases ha : alphB L xs
  · rw [show pnAns L xs us a = _ from pnAns_no L xs us a ha]
    have HA := Lib.hid ha
    clear ha ht hn1
    go_enter Tryd.func40, Tryd.ntmps40
    go_wp2_with fail
    refine (dependenceWith_no L _ _ _ _ _ _ xs [] _ hh hwf hL1 hL2 hn2 HA.out hT1).mono ?_
    rintro e w1 ⟨rfl, hb⟩
    go_wp2_with fail
    go_ret2
    exact LsPost.of_ans (ans_no 1 (HB.out.trans (hb.mono HB.out.size)))
  · cases hu : wordB L us
    · rw [show pnAns L xs us a = _ from pnAns_bad L xs us a ha hu]
      obtain ⟨rs, rfl, rfl, h8, hr, hrel, hl, hd, _⟩ := alphB_nats L xs n hn1 ha
      have HU := Lib.hid hu
      clear ha hu
      go_enter Tryd.func40, Tryd.ntmps40
      go_wp2_with fail
      refine (dependenceWith_any _ _ _ _ _ _ rs _ _ hh hwf h8 hr hrel hd ht (by omega) hT1).mono ?_
      rw [okT_one, HU.out]
      rintro e w1 (⟨hok, _⟩ | ⟨hok, rfl, hb⟩)
      · cases hok
      go_wp2_with fail
      go_ret2
      exact LsPost.of_ans (ans_no 2 (HB.out.trans (hb.mono HB.out.size)))
    · obtain ⟨rs, rfl, rfl, h8, hr, hrel, hl, hd, _⟩ := alphB_nats L xs n hn1 ha
      obtain ⟨vs, rfl, hv24, hvn⟩ := wordB_nats n us hu
      have HU := Lib.hid hu
      have HDEP := Lib.hid ((depB_iff rs n hl hr).1 hd)
      rw [ints_len] at hm1
      have hm24 : m ≤ 24 := by omega
      cases hmk : isMaskB a (n : Int)
      · rw [show pnAns (n : Int) (ints rs) (ints vs) a = _ from pnAns_out (n : Int) (ints rs) (ints vs) a ha hu hmk]
        have HMK := Lib.hid hmk
        clear ha hu hmk
        go_enter Tryd.func40, Tryd.ntmps40
        go_wp2_with fail
        refine (dependenceWith_any _ _ _ _ _ _ rs _ _ hh hwf h8 hr hrel hd ht (by omega) hT1).mono ?_
        rw [okT_one, HU.out]
        rintro e w1 (⟨hok, A2, c2, rfl, ho, hb⟩ | ⟨hok, _⟩)
        rotate_left
        · cases hok
        have y0 := (x1.next hb).c0
        go_wp2_with fail
        refine (isMask_any a (n : Int) ha1 ha2 _).mono ?_
        rintro e w' ⟨rfl, rfl⟩
        rw [HMK.out]
        go_wp2_with fail
        go_ret2
        exact LsPost.of_ans (ans_no 2 (HB.out.trans (hb.mono HB.out.size)))
      · have HMK := Lib.hid hmk
        rw [isMaskB_in a n (by omega), decide_eq_true_eq] at hmk
        obtain ⟨k, rfl⟩ := Int.eq_ofNat_of_zero_le hmk.1
        have hk63 : k < 9223372036854775808 := by have := p8 n h8; omega
        rw [show pnAns (n : Int) (ints rs) (ints vs) (k : Int) = _ from pnAns_yes (n : Int) rs vs k ha hu HMK.out]
        have HVP : Hid (∀ p, p < m → vs.getD p 0 < 8) := Lib.hid fun p hp => Nat.lt_of_lt_of_le (in_getD hvn p (by omega)) h8
        have hqn : ∀ x, x ∈ prjS vs k → x < n := fun x hx => hvn x (List.mem_filter.1 hx).1
        have hql : (prjS vs k).length ≤ 24 := Nat.le_trans (prjS_len vs k) (by omega)
        have HLR : Hid (rs.length = n) := Lib.hid hl
        have HR := Lib.hid hr
        have HSY : Hid (∀ a b, RDep rs a b = RDep rs b a) := Lib.hid (rdep_sym rs n hl hr HDEP.out)
        have HRE : Hid (∀ a, a < n → RDep rs a a = true) := Lib.hid fun a ha9 => HDEP.out.1 a (by rw [HLR.out]; exact ha9)
        have HQN := Lib.hid hqn
        have HVM := Lib.hid hvn
        have hcl := cmp_len (RDep rs) vs (prjS vs k)
        have HA : Hid (pnR rs vs k = nfR rs (cmpM (RDep rs) vs (prjS vs k)).1) := Lib.hid (by unfold pnR; rw [pn_cmp rs vs k n HRE.out hvn])
        have h24 : n ≤ 24 := by omega
        have HR63 : Hid (∀ i, rs.getD i 0 < 9223372036854775808) := Lib.hid fun i => lt63 (by omega) (hr i)
        obtain ⟨w9, hw9⟩ : ∃ w9, w9 = (cmpM (RDep rs) vs (prjS vs k)).1 := ⟨_, rfl⟩
        have HW9 := Lib.hid hw9
        rw [← hw9] at hcl HA
        obtain ⟨q, hq⟩ : ∃ q, q = w9.length := ⟨_, rfl⟩
        have HLK : Hid (w9.length = q) := Lib.hid hq.symm
        have hk24 : q ≤ 24 := by have := hcl.1; omega
        have HRK : Hid (∀ x, x < q → w9.getD x 0 < n) := Lib.hid fun x hx => in_getD (fun z hz => HVM.out z (hcl.2.2.1 z hz)) x (by rw [HLK.out]; exact hx)
        have HPL := Lib.hid hql
        clear ha hu hmk hl hq hql hm1 hcl hqn hw9
        go_enter Tryd.func40, Tryd.ntmps40
        go_wp2_with fail
        refine (dependenceWith_any _ _ _ _ _ _ rs _ _ hh hwf h8 hr hrel hd ht (by omega) hT1).mono ?_
        rw [okT_one, HU.out]
        rintro e w1 (⟨hok, A2, c2, rfl, ho, hb⟩ | ⟨hok, _⟩)
        rotate_left
        · cases hok
        have y0 := (x1.next hb).c0
        have HB1 := Lib.hid (HB.out.trans (hb.mono HB.out.size))
        have hr2 := hh2.below hb
        have HPJ := Lib.hid (projection_any A1 m d k vs w1 hr2 hm24 hk63 HVP.out)
        have hrd := ho.rd
        have hT2 := hT1.below hb
        clear ho hb hok ht hh hh2 hT1 hT h h2 x0 x1 hr hd hrel hvn
        go_wp2_with fail
        refine (isMask_any (k : Int) (n : Int) ha1 ha2 _).mono ?_
        rintro e w' ⟨rfl, rfl⟩
        rw [HMK.out]
        go_wp2_with fail
        refine HPJ.out.mono ?_
        rintro e w2 ⟨A3, c3, rfl, ho3, hb3⟩
        have HQU := Lib.hid (cmpare_any A2 A1 A3 n c2 m d (prjS vs k).length c3 rs vs (prjS vs k) w2 (hrd.below hb3) h24 HR.out HSY.out HRE.out (hr2.below hb3) (by omega) HVM.out ho3.rd (by have := HPL.out; omega) (own_cap ho3) HQN.out)
        unfold CmpPost at HQU
        rw [← HW9.out, HLK.out] at HQU
        have HB2 := Lib.hid (HB1.out.trans (hb3.mono HB1.out.size))
        have hrd2 := hrd.below hb3
        have hT3 := hT2.below hb3
        obtain ⟨lf, hlf⟩ : ∃ lf, lf = (cmpM (RDep rs) vs (prjS vs k)).2.1.length := ⟨_, rfl⟩
        obtain ⟨ls, hls⟩ : ∃ ls, ls = (cmpM (RDep rs) vs (prjS vs k)).2.2.length := ⟨_, rfl⟩
        rw [← hlf, ← hls] at HQU
        clear hlf hls hb3 ho3 hrd hT2 HPJ hr2
        go_wp2_with fail
        refine HQU.out.mono ?_
        rintro e w3 ⟨A4, c4, A5, c5, A6, c6, rfl, hr4, -, -, -, hb4⟩
        have hfd : ∀ ww : World, (Instr.field 66 (.agg #[.slice A4 q c4, .slice A5 lf c5, .slice A6 ls c6]) 0).run Tryd.prog ww = .ok (.slice A4 q c4) ww := fun _ => by kernel_rfl
        have HB3 := Lib.hid (HB2.out.trans (hb4.mono HB2.out.size))
        have hrd3 := hrd2.below hb4
        have hT4 := hT3.below hb4
        clear hb4 hrd2 hT3 HQU
        have HT1 := Lib.hid (traceOf_any A2 A4 n q c2 c4 rs w9 _ hrd3 hr4 hk24 h24 HRK.out HR63.out hT4)
        go_wp2_with fail
        refine HT1.out.mono ?_
        rintro e v1 ⟨E1, g1, F1, k1, es1, rfl, hp, hs, h1, h2, -, -, ha1_⟩
        have HN1 := Lib.hid (nf_from E1 F1 g1 k1 q n rs w9 es1 v1 HLR.out HR.out HDEP.out HLK.out HRK.out hk24 hp hs h1 h2 ((hT4).below ha1_))
        clear hp hs h1 h2
        go_wp2_with fail
        refine HN1.out.mono ?_
        rintro e u1 ⟨G1, l1, rfl, ho1, hb1⟩
        go_wp2_with fail
        go_ret2
        rw [HA.out]
        have HZ := HB3.out.trans (ha1_.mono HB3.out.size)
        exact LsPost.of_ans (ans_yes ho1.len (ho1.mono HZ.size) (HZ.trans (hb1.mono HZ.size)))
set_option maxHeartbeats 25600000 in
theorem specPrefixIn (L : Int) (A : Option Addr) (n c : Nat) (xs : List Int) (A1 : Option Addr) (m d : Nat) (us : List Int) (a : Int) (w : World) (h : Rd w A n xs) (hwf : Wf xs) (hL1 : -9223372036854775808 ≤ L) (hL2 : L ≤ 9223372036854775807) (hn : n ≤ maxLen) (h2 : Rd w A1 m us) (hwf2 : Wf us) (hm : m ≤ maxLen) (ha1 : -9223372036854775808 ≤ a) (ha2 : a ≤ 9223372036854775807) :
    Calls Tryd.prog 39 #[.agg #[.int .i64 L, .slice A n c], .slice A1 m d, .int .i64 a] w (LsPost w (pnAns L xs us a).1.length (pnAns L xs us a).1 (pnAns L xs us a).2) := by
  have hn2 : n ≤ 9223372036854775807 := by unfold maxLen at hn; omega
  have hm2 : m ≤ 9223372036854775807 := by unfold maxLen at hm; omega
  have hn1 := h.1
  have hm1 := h2.1
  have HB := Lib.hid (below1 w (.cells #[.int .i64 L, .slice A n c] 28))
  have x0 := box_new 28 w L A n c
  have hh := h.below HB.out
  have hh2 := h2.below HB.out
  have HC := Lib.hid (wCode_two L xs us)
  cases ha : alphB L xs
  · rw [show pnAns L xs us a = _ from pnAns_no L xs us a ha]
    have HD := Lib.hid (wCode_no L xs us ha)
    clear ha hn1
    go_enter Tryd.func39, Tryd.ntmps39
    go_wp2_with fail
    refine (l03Code_any L _ _ _ _ _ _ _ _ _ xs us us _ hh hn2 hh2 hm2 hh2 hm2).mono ?_
    rintro e w1 ⟨rfl, hb⟩
    rw [HC.out, HD.out]
    go_wp2_with fail
    go_ret2
    exact LsPost.of_ans (ans_no 1 (HB.out.trans (hb.mono HB.out.size)))
  · cases hu : wordB L us
    · rw [show pnAns L xs us a = _ from pnAns_bad L xs us a ha hu]
      have HD := Lib.hid (wCode_bad L xs us ha hu)
      clear ha hu hn1
      go_enter Tryd.func39, Tryd.ntmps39
      go_wp2_with fail
      refine (l03Code_any L _ _ _ _ _ _ _ _ _ xs us us _ hh hn2 hh2 hm2 hh2 hm2).mono ?_
      rintro e w1 ⟨rfl, hb⟩
      rw [HC.out, HD.out]
      go_wp2_with fail
      go_ret2
      exact LsPost.of_ans (ans_no 2 (HB.out.trans (hb.mono HB.out.size)))
    · have HD := Lib.hid (wCode_yes L xs us ha hu)
      obtain ⟨rs, rfl, rfl, h8, hr, hrel, hl, hd, _⟩ := alphB_nats L xs n hn1 ha
      obtain ⟨vs, rfl, hv24, hvn⟩ := wordB_nats n us hu
      rw [ints_len] at hm1
      have hm24 : m ≤ 24 := by omega
      have hn62 : n ≤ 62 := by omega
      obtain ⟨P, hP⟩ : ∃ P, P = 2 ^ n - 1 := ⟨_, rfl⟩
      have HFU : Hid (∀ ww : World, Calls Tryd.prog 71 #[.int .i64 (n : Int)] ww fun e w' => e = .returned (.int .i64 (P : Int)) ∧ ww = w') := Lib.hid (by rw [hP]; exact fun ww => full_any n hn62 ww)
      have HIM : Hid (decide ((0 : Int) ≤ a ∧ a ≤ (P : Int)) = isMaskB a (n : Int)) := Lib.hid (by rw [isMaskB_in a n (by omega), decide_eq_decide, hP]; have := p2_pos n; omega)
      clear hP
      cases hmk : isMaskB a (n : Int)
      · rw [show pnAns (n : Int) (ints rs) (ints vs) a = _ from pnAns_out (n : Int) (ints rs) (ints vs) a ha hu hmk]
        have HMK := Lib.hid hmk
        clear ha hu hmk
        go_enter Tryd.func39, Tryd.ntmps39
        go_wp2_with fail
        refine (l03Code_any (n : Int) _ _ _ _ _ _ _ _ _ (ints rs) (ints vs) (ints vs) _ hh hn2 hh2 hm2 hh2 hm2).mono ?_
        rintro e w1 ⟨rfl, hb⟩
        rw [HC.out, HD.out]
        have y0 := (x0.next hb).c0
        have y1 := (x0.next hb).c1
        go_wp2_with fail
        refine (HFU.out _).mono ?_
        rintro e w' ⟨rfl, rfl⟩
        go_wp2_with fail
        refine (in_any a 0 (P : Int) _).mono ?_
        rintro e w' ⟨rfl, rfl⟩
        rw [HIM.out, HMK.out]
        go_wp2_with fail
        go_ret2
        exact LsPost.of_ans (ans_no 2 (HB.out.trans (hb.mono HB.out.size)))
      · have HMK := Lib.hid hmk
        rw [isMaskB_in a n (by omega), decide_eq_true_eq] at hmk
        obtain ⟨k, rfl⟩ := Int.eq_ofNat_of_zero_le hmk.1
        have hk63 : k < 9223372036854775808 := by have := p8 n h8; omega
        rw [show pnAns (n : Int) (ints rs) (ints vs) (k : Int) = _ from pnAns_yes (n : Int) rs vs k ha hu HMK.out]
        have HLR : Hid (rs.length = n) := Lib.hid hl
        have HNR : Hid (∀ ps, nfM (RDep rs) n ps = nfR rs ps) := Lib.hid fun ps => by unfold nfR; rw [hl]
        have HLU : Hid (vs.length = m) := Lib.hid hm1
        have HVM := Lib.hid hvn
        have HR := Lib.hid hr
        have h24 : n ≤ 24 := by omega
        obtain ⟨V, hV⟩ : ∃ V, V = (inGo (RDep rs) (fun a => k.testBit a) vs [] []).1 := ⟨_, rfl⟩
        have HV := Lib.hid hV
        have HVL := Lib.hid (inGo_len (RDep rs) (fun a => k.testBit a) vs [] [])
        have HA : Hid (pnR rs vs k = nfR rs V) := Lib.hid (by rw [hV]; rfl)
        obtain ⟨i0, hi, hz0, hz1, hz2⟩ := info_parts info_int
        have mixed : Tryd.prog.follows .mixedOrders = true := by kernel_rfl
        clear ha hu hmk hl hm1 hr hvn hV
        go_enter Tryd.func39, Tryd.ntmps39
        go_wp2_with fail
        refine (l03Code_any (n : Int) _ _ _ _ _ _ _ _ _ (ints rs) (ints vs) (ints vs) _ hh hn2 hh2 hm2 hh2 hm2).mono ?_
        rintro e w1 ⟨rfl, hb⟩
        rw [HC.out, HD.out]
        have hx1 := x0.next hb
        have y0 := hx1.c0
        have y1 := hx1.c1
        have HB1 := Lib.hid (HB.out.trans (hb.mono HB.out.size))
        have hh1 := hh.below hb
        have hu1 := hh2.below hb
        clear hb hh hh2 h h2
        go_wp2_with fail
        refine (HFU.out _).mono ?_
        rintro e w' ⟨rfl, rfl⟩
        go_wp2_with fail
        refine (in_any (k : Int) 0 (P : Int) _).mono ?_
        rintro e w' ⟨rfl, rfl⟩
        rw [HIM.out, HMK.out]
        go_wp2_with fail
        obtain ⟨W2, hW2⟩ : ∃ W2, (w1.alloc (.cells #[] 2)).alloc (.cells #[] 2) = W2 := ⟨_, rfl⟩
        have ol0 : Own 2 W2 w1.heap.size (some ⟨w1.heap.size, 0, none⟩) 0 0 (ints []) := by
          rw [← hW2]
          exact Own.below (show Own 2 (w1.alloc (.cells #[] 2)) w1.heap.size (some ⟨w1.heap.size, 0, none⟩) 0 0 (ints []) from World.ownsRow_lit w1 #[] 0 (Nat.le_refl _) (by unfold maxLen; omega) rfl) (below1 _ _)
        have ol1 : Own 2 W2 w1.heap.size (some ⟨w1.heap.size + 1, 0, none⟩) 0 0 (ints []) := by
          rw [← hW2]
          have h9 : Own 2 ((w1.alloc (.cells #[] 2)).alloc (.cells #[] 2)) (w1.alloc (.cells #[] 2)).heap.size (some ⟨(w1.alloc (.cells #[] 2)).heap.size, 0, none⟩) 0 0 (ints []) := World.ownsRow_lit _ #[] 0 (Nat.le_refl _) (by unfold maxLen; omega) rfl
          rw [World.size_alloc] at h9
          exact h9.mono (Nat.le_succ _)
        have HL2 : Hid (Below w1.heap.size w1 W2) := Lib.hid (by rw [← hW2]; exact below2 w1 _ _)
        rw [hW2]
        obtain ⟨bz, hbz'⟩ : ∃ bz, bz = w1.heap.size := ⟨_, rfl⟩
        rw [← hbz'] at ol0 ol1 HL2 ⊢
        have HBZ := Lib.hid hbz'
        clear hbz' hW2
        have HSY := Lib.hid (rdep_sym rs n HLR.out HR.out ((depB_iff rs n HLR.out HR.out).1 hd))
        have HRE : Hid (∀ a, a < n → RDep rs a a = true) := Lib.hid fun a ha9 => ((depB_iff rs n HLR.out HR.out).1 hd).1 a (by rw [HLR.out]; exact ha9)
        go_loopw [9, 10, 11] (fun ov fv iv wr => ∃ (j n0 c0 n1 c1 : Nat) (A0 A1 : Option Addr) (p f : List Nat), j ≤ m ∧ ov = .slice A0 n0 c0 ∧ fv = .slice A1 n1 c1 ∧ iv = .int .i64 (j : Int) ∧ Own 2 wr bz A0 n0 c0 (ints p) ∧ Own 2 wr bz A1 n1 c1 (ints f) ∧ (∀ k, A0.map (·.block) = some k → A1.map (·.block) ≠ some k) ∧ n0 + n1 = j ∧ V = (inGo (RDep rs) (fun a => k.testBit a) (vs.drop j) p f).1 ∧ (∀ x, x ∈ p → x < n) ∧ (∀ x, x ∈ f → x < n) ∧ Below bz w1 wr) (fun _ _ iv _ => m - (intOf iv).toNat)
        case atStart => exact ⟨0, 0, 0, 0, 0, _, _, [], [], Nat.zero_le _, rfl, rfl, rfl, ol0, ol1, (fun k hk e => by
          injection hk with hk
          injection e with e
          have h8 : bz = k := hk
          have h9 : bz + 1 = k := e
          omega), rfl, HV.out, (fun x hx => by cases hx), (fun x hx => by cases hx), HL2.out⟩
        case round =>
          clear ol0 ol1
          obtain ⟨j, n0, c0, n1, c1, A0, A1, p, f, hj, rfl, rfl, rfl, ow0, ow1, s01, hnk, hv, hpn, hfn, hb⟩ := hrel
          have HNK := Lib.hid hnk
          have HVK := Lib.hid hv
          have HPN := Lib.hid hpn
          have HFN := Lib.hid hfn
          clear hnk hv hpn hfn
          have s10 : ∀ k, A1.map (·.block) = some k → A0.map (·.block) ≠ some k := fun k hk e => s01 k e hk
          have hbw : Below w1.heap.size w1 wr := hb.mono (by rw [HBZ.out]; exact Nat.le_refl _)
          have hxr := hx1.next hbw
          have z0 := hxr.c0
          have z1 := hxr.c1
          have hU := hu1.below hbw
          have hR := hh1.below hbw
          have hbz : bz ≤ wr.heap.size := by rw [HBZ.out]; exact hbw.size
          by_cases hlt : j < m
          · obtain ⟨gu, ou, x, eU, hgu, hxu, hcx⟩ := hU.at_ hlt
            rw [ints_getD vs j (by rw [HLU.out]; exact hlt)] at hxu
            injection hxu with hxu
            have hun : vs.getD j 0 < n := HVM.out _ (by rw [List.getD_eq_getElem?_getD, List.getElem?_eq_getElem (by rw [HLU.out]; exact hlt)]; exact List.getElem_mem _)
            have HDR := Lib.hid (drop_at vs j (by rw [HLU.out]; exact hlt))
            obtain ⟨X, hX⟩ : ∃ X, X = vs.getD j 0 := ⟨_, rfl⟩
            rw [← hX] at hxu hun HDR
            subst hxu eU
            have hml0 : n0 + 1 ≤ maxLen := by have := HNK.out; unfold maxLen; omega
            have hml1 : n1 + 1 ≤ maxLen := by have := HNK.out; unfold maxLen; omega
            have hby0 : (n0 + 1) * 8 ≤ 140737488355328 := by have := HNK.out; omega
            have hby1 : (n1 + 1) * 8 ≤ 140737488355328 := by have := HNK.out; omega
            have HXP : Hid (∀ x, x ∈ p ++ [X] → x < n) := Lib.hid (fun x hx => by
              rcases List.mem_append.1 hx with h | h
              · exact HPN.out x h
              · simp at h; subst h; exact hun)
            have HXF : Hid (∀ x, x ∈ f ++ [X] → x < n) := Lib.hid (fun x hx => by
              rcases List.mem_append.1 hx with h | h
              · exact HFN.out x h
              · simp at h; subst h; exact hun)
            have HBIT : Hid (∀ ww : World, Calls Tryd.prog 72 #[.int .i64 (k : Int), .int .i64 (X : Int)] ww fun e w' => e = .returned (.bool (k.testBit X)) ∧ ww = w') := Lib.hid fun ww => bit_any k X hk63 (by omega) ww
            have hdw : Below wr.heap.size wr wr.drew := (Below.refl _ _).drew
            have hda : Below wr.heap.size wr ((wr.alloc (.cells #[.int .i64 (X : Int)] 2)).drew) := (below1 wr _).drew
            have q0 := (hxr.next (below1 wr (.cells #[.int .i64 (X : Int)] 2))).c0
            have q1 := (hxr.next (below1 wr (.cells #[.int .i64 (X : Int)] 2))).c1
            have HIN : Hid (Calls Tryd.prog 64 #[.agg #[.int .i64 (n : Int), .slice A n c], .slice (some ⟨wr.heap.size, 0, none⟩) 1 1, .slice A1 n1 c1] ((wr.alloc (.cells #[.int .i64 (X : Int)] 2)).drew) fun e w' => e = .returned (.bool (!depL (RDep rs) f X)) ∧ Below ((wr.alloc (.cells #[.int .i64 (X : Int)] 2)).drew).heap.size ((wr.alloc (.cells #[.int .i64 (X : Int)] 2)).drew) w') := Lib.hid (by
              rw [← ind_one (RDep rs) HSY.out X f]
              exact l05Independent_any A (some ⟨wr.heap.size, 0, none⟩) A1 n c 1 1 n1 c1 rs [X] f ((wr.alloc (.cells #[.int .i64 (X : Int)] 2)).drew) (hR.below hda) h24 HR.out (show Rd ((wr.alloc (.cells #[.int .i64 (X : Int)] 2)).drew) _ _ _ from rd_lit wr (X : Int) 2) (by omega) (ow1.rd.below hda) (by have := HNK.out; omega) (fun x hx => by simp at hx; subst hx; exact hun) HFN.out)
            clear hX hR
            cases hbit : k.testBit X
            · have HVN : Hid (V = (inGo (RDep rs) (fun a => k.testBit a) (vs.drop (j + 1)) p (f ++ [X])).1) := Lib.hid (by rw [HVK.out, HDR.out, inGo_no _ _ _ _ _ _ hbit])
              have HBF : Hid (k.testBit X = false) := Lib.hid hbit
              have hX62 : X ≤ 62 := by omega
              clear hbit
              go_wp2_with fail
              go_quiet ((go_at_call 72; with_reducible exact bitq_is k X false HBF.out hk63 hX62 _ _))
              have hb05 : Below wr.heap.size wr (wr.drewN nq) := below_drewN (Below.refl _ _) _
              generalize wr.drewN nq = w5 at hb05 ⊢
              have o0 := ow0.below hb05
              have o1 := ow1.below hb05
              have HBB := Lib.hid (hb.trans ((hb05).mono hbz))
              have hbz5 : bz ≤ w5.heap.size := Nat.le_trans hbz (hb05).size
              have hbase : bz ≤ (w5.alloc (.cells #[.int .i64 (X : Int)] 2)).heap.size := by simp; omega
              have hUw := hU.below hb05
              have hcx5 : w5.cell? ⟨gu, ou + j, none⟩ = some (.int .i64 (X : Int)) := ((hb05).cell (p := ⟨gu, ou + j, none⟩) hgu).trans hcx
              go_wp2_with (at_builtin; refine wpList_append_lies _ rfl _ _ 22 rfl bz 2 i0 (.int .i64 0) 1 8 Tryd.underlying22 hi hz0 hz1 hz2 rfl (by decide) (.slice A1 n1 c1) n1 ((ints f).map (Value.int .i64)) rfl (World.ownsRow.alloc o1 _) ⟨w5.heap.size, 0, none⟩ 1 1 [.int .i64 (X : Int)] rfl rfl (cell_one_new _ _ _) (by intro v hv; simp at hv; subst hv; rfl) (by decide) hml1 hby1 hbase (w5.heap.size + 1) (by simp) ?_; intro g cap w6 hown hg hat hlt4; have H6 := Lib.hid (two_app o1 o0 s10 hbz5 hown hg hat); clear hown hg hat)
              go_wp2_with fail
              go_roundw
              case rel => exact ⟨j + 1, n0, c0, n1 + 1, cap, A0, some ⟨g, 0, none⟩, p, f ++ [X], hlt, rfl, rfl, by go_num, H6.out.2.1, H6.out.1, (fun k hk e => H6.out.2.2.1 k e hk), by have := HNK.out; omega, HVN.out, HPN.out, HXF.out, HBB.out.trans H6.out.2.2.2⟩
              case measure => simp [intOf]; omega
            · rw [hbit] at HBIT
              cases hdep : depL (RDep rs) f X
              · have HVN : Hid (V = (inGo (RDep rs) (fun a => k.testBit a) (vs.drop (j + 1)) (p ++ [X]) f).1) := Lib.hid (by rw [HVK.out, HDR.out, inGo_in _ _ _ _ _ _ hbit hdep])
                rw [hdep] at HIN
                clear hbit hdep
                go_wp2_with fail
                go_region_law (first
                  | (go_simp; go_at_call 72; refine (HBIT.out _).mono ?_; rintro e w' ⟨rfl, rfl⟩)
                  | (go_simp; go_at_call 64; refine HIN.out.mono ?_; rintro e w5 ⟨rfl, hb5⟩; have hb05 := hda.trans (hb5.mono hda.size)))
                all_goals (
                  have o0 := ow0.below hb05
                  have o1 := ow1.below hb05
                  have HBB := Lib.hid (hb.trans ((hb05).mono hbz))
                  have hbz5 : bz ≤ w5.heap.size := Nat.le_trans hbz (hb05).size
                  have hbase : bz ≤ (w5.alloc (.cells #[.int .i64 (X : Int)] 2)).heap.size := by simp; omega
                  have hUw := hU.below hb05
                  have hcx5 : w5.cell? ⟨gu, ou + j, none⟩ = some (.int .i64 (X : Int)) := ((hb05).cell (p := ⟨gu, ou + j, none⟩) hgu).trans hcx
                  go_wp2_with (at_builtin; refine wpList_append_lies _ rfl _ _ 22 rfl bz 2 i0 (.int .i64 0) 1 8 Tryd.underlying22 hi hz0 hz1 hz2 rfl (by decide) (.slice A0 n0 c0) n0 ((ints p).map (Value.int .i64)) rfl (World.ownsRow.alloc o0 _) ⟨w5.heap.size, 0, none⟩ 1 1 [.int .i64 (X : Int)] rfl rfl (cell_one_new _ _ _) (by intro v hv; simp at hv; subst hv; rfl) (by decide) hml0 hby0 hbase (w5.heap.size + 1) (by simp) ?_; intro g cap w6 hown hg hat hlt4; have H6 := Lib.hid (two_app o0 o1 s01 hbz5 hown hg hat); clear hown hg hat)
                  go_wp2_with fail
                  go_roundw
                  case rel => exact ⟨j + 1, n0 + 1, cap, n1, c1, some ⟨g, 0, none⟩, A1, p ++ [X], f, hlt, rfl, rfl, by go_num, H6.out.1, H6.out.2.1, H6.out.2.2.1, by have := HNK.out; omega, HVN.out, HXP.out, HFN.out, HBB.out.trans H6.out.2.2.2⟩
                  case measure => simp [intOf]; omega)
              · have HVN : Hid (V = (inGo (RDep rs) (fun a => k.testBit a) (vs.drop (j + 1)) p (f ++ [X])).1) := Lib.hid (by rw [HVK.out, HDR.out, inGo_dep _ _ _ _ _ _ hdep])
                rw [hdep] at HIN
                clear hbit hdep
                go_wp2_with fail
                go_region_law (first
                  | (go_simp; go_at_call 72; refine (HBIT.out _).mono ?_; rintro e w' ⟨rfl, rfl⟩)
                  | (go_simp; go_at_call 64; refine HIN.out.mono ?_; rintro e w5 ⟨rfl, hb5⟩; have hb05 := hda.trans (hb5.mono hda.size)))
                all_goals (
                  have o0 := ow0.below hb05
                  have o1 := ow1.below hb05
                  have HBB := Lib.hid (hb.trans ((hb05).mono hbz))
                  have hbz5 : bz ≤ w5.heap.size := Nat.le_trans hbz (hb05).size
                  have hbase : bz ≤ (w5.alloc (.cells #[.int .i64 (X : Int)] 2)).heap.size := by simp; omega
                  have hUw := hU.below hb05
                  have hcx5 : w5.cell? ⟨gu, ou + j, none⟩ = some (.int .i64 (X : Int)) := ((hb05).cell (p := ⟨gu, ou + j, none⟩) hgu).trans hcx
                  go_wp2_with (at_builtin; refine wpList_append_lies _ rfl _ _ 22 rfl bz 2 i0 (.int .i64 0) 1 8 Tryd.underlying22 hi hz0 hz1 hz2 rfl (by decide) (.slice A1 n1 c1) n1 ((ints f).map (Value.int .i64)) rfl (World.ownsRow.alloc o1 _) ⟨w5.heap.size, 0, none⟩ 1 1 [.int .i64 (X : Int)] rfl rfl (cell_one_new _ _ _) (by intro v hv; simp at hv; subst hv; rfl) (by decide) hml1 hby1 hbase (w5.heap.size + 1) (by simp) ?_; intro g cap w6 hown hg hat hlt4; have H6 := Lib.hid (two_app o1 o0 s10 hbz5 hown hg hat); clear hown hg hat)
                  go_wp2_with fail
                  go_roundw
                  case rel => exact ⟨j + 1, n0, c0, n1 + 1, cap, A0, some ⟨g, 0, none⟩, p, f ++ [X], hlt, rfl, rfl, by go_num, H6.out.2.1, H6.out.1, (fun k hk e => H6.out.2.2.1 k e hk), by have := HNK.out; omega, HVN.out, HPN.out, HXF.out, HBB.out.trans H6.out.2.2.2⟩
                  case measure => simp [intOf]; omega)
          · have hjm : j = m := by omega
            subst hjm
            have HE : Hid (V = p) := Lib.hid (by rw [HVK.out, List.drop_of_length_le (by rw [HLU.out]; exact Nat.le_refl _)]; rfl)
            have HLP : Hid (p.length = n0) := Lib.hid (by have := ow0.len; rw [ints_len] at this; exact this)
            have HNO := Lib.hid (l03Normal_any A A0 n c n0 c0 rs p wr hR h24 HR.out ow0.rd (by have := HNK.out; omega) (fun x hx => in_getD HPN.out x (by rw [HLP.out]; exact hx)))
            rw [HNR.out] at HNO
            have HBF := Lib.hid (HB1.out.trans (hbw.mono HB1.out.size))
            go_wp2_with fail
            refine HNO.out.mono ?_
            rintro e w6 ⟨A6, c6, rfl, o6, hb6⟩
            go_wp2_with fail
            go_ret2
            rw [HA.out, HE.out]
            exact LsPost.of_ans (ans_yes o6.len (o6.mono HBF.out.size) (HBF.out.trans (hb6.mono HBF.out.size)))
end Go.Proofs.YtmooanfcedgfnaaDoor
