/-
  IsWord and ContentOf: both sides.
-/
import Derived.Test.YtmifkbmgpofjbaaDoorWord2
import Derived.Test.YtmifkbmgpofjbaaDoorParts
namespace Go.Proofs.YtmifkbmgpofjbaaDoor
open Go.RowKit
set_option linter.unusedVariables false
set_option maxRecDepth 100000

def isWordAns (L : Int) (xs us : List Int) : Bool := decide (wCode L xs us = 0)
/-- The answer of a list function of an alphabet and a word. -/
def wAns (f : List Nat → List Nat → List Nat) (L : Int) (xs us : List Int) : List Int × Int := if wCode L xs us = 0 then (ints (f (xs.map Int.toNat) (us.map Int.toNat)), 0) else ([], wCode L xs us)
theorem wAns_no (f : List Nat → List Nat → List Nat) (L : Int) (xs us : List Int) (h : alphB L xs = false) : wAns f L xs us = ([], 1) := by
  have e : wCode L xs us = 1 := by unfold wCode; rw [if_neg (by rw [h]; decide)]
  unfold wAns; rw [e]; rfl
theorem wAns_bad (f : List Nat → List Nat → List Nat) (L : Int) (xs us : List Int) (h : alphB L xs = true) (h2 : wordB L us = false) : wAns f L xs us = ([], 2) := by
  have e : wCode L xs us = 2 := by unfold wCode; rw [if_pos h, if_neg (by rw [h2]; decide)]
  unfold wAns; rw [e]; rfl
theorem wAns_yes (f : List Nat → List Nat → List Nat) (L : Int) (rs us : List Nat) (h : alphB L (ints rs) = true) (h2 : wordB L (ints us) = true) : wAns f L (ints rs) (ints us) = (ints (f rs us), 0) := by
  have e : wCode L (ints rs) (ints us) = 0 := by unfold wCode; rw [if_pos h, if_pos h2]
  unfold wAns; rw [if_pos e, ints_toNat, ints_toNat]
theorem wAns_small (f : List Nat → List Nat → List Nat) (b : Nat) (hf : ∀ rs us, rs.length ≤ 8 → us.length ≤ 24 → (f rs us).length ≤ b) (L : Int) (xs us : List Int) : (wAns f L xs us).1.length ≤ b := by
  unfold wAns
  split
  · rename_i h
    unfold wCode at h
    split at h
    · rename_i ha
      split at h
      · rename_i hw
        show (ints _).length ≤ b
        rw [ints_len]
        refine hf _ _ ?_ ?_
        · rw [List.length_map]
          unfold alphB at ha
          rw [Bool.and_eq_true, decide_eq_true_eq] at ha
          omega
        · rw [List.length_map]
          unfold wordB at hw
          rw [Bool.and_eq_true, decide_eq_true_eq] at hw
          exact hw.1
      · omega
    · omega
  · exact Nat.zero_le _
theorem wCode_no (L : Int) (xs us : List Int) (h : alphB L xs = false) : wCode L xs us = 1 := by unfold wCode; rw [if_neg (by rw [h]; decide)]
theorem wCode_bad (L : Int) (xs us : List Int) (h : alphB L xs = true) (h2 : wordB L us = false) : wCode L xs us = 2 := by unfold wCode; rw [if_pos h, if_neg (by rw [h2]; decide)]
theorem wCode_yes (L : Int) (xs us : List Int) (h : alphB L xs = true) (h2 : wordB L us = true) : wCode L xs us = 0 := by unfold wCode; rw [if_pos h, if_pos h2]
theorem okT_one (L : Int) (A : Option Addr) (n c : Nat) (xs : List Int) : okT L [(A, n, c, xs)] = wordB L xs := by unfold okT; simp
theorem okT_two (L : Int) (A B : Option Addr) (n c m d : Nat) (xs ys : List Int) : okT L [(A, n, c, xs), (B, m, d, ys)] = (wordB L xs && wordB L ys) := by unfold okT; simp
set_option maxHeartbeats 1600000 in
theorem implIsWord (L : Int) (A : Option Addr) (n c : Nat) (xs : List Int) (A1 : Option Addr) (m d : Nat) (us : List Int) (w : World) (h : Rd w A n xs) (hwf : Wf xs) (hL1 : -9223372036854775808 ≤ L) (hL2 : L ≤ 9223372036854775807) (hn : n ≤ maxLen) (h2 : Rd w A1 m us) (hwf2 : Wf us) (hm : m ≤ maxLen) (hT : Tab w) :
    Calls Tryd.prog 17 #[.agg #[.int .i64 L, .slice A n c], .slice A1 m d] w fun e w' => e = .returned (.bool (isWordAns L xs us)) ∧ Below w.heap.size w w' := by
  have hn2 : n ≤ 9223372036854775807 := by unfold maxLen at hn; omega
  have hn1 := h.1
  have HB := Lib.hid (below2 w (.cells #[.int .i64 L, .slice A n c] 27) (.cells #[.slice A1 m d] 22))
  have hh := h.below HB.out
  have ht := rdT_box w (.cells #[.int .i64 L, .slice A n c] 27) A1 m d us 22 h2 hm
  have hT1 := hT.below HB.out
  cases ha : alphB L xs
  · have HA := Lib.hid ha
    have HC : Hid (isWordAns L xs us = false) := Lib.hid (by unfold isWordAns; rw [wCode_no _ _ _ ha]; rfl)
    clear ha ht hn1
    go_enter Tryd.func17, Tryd.ntmps17
    go_wp2_with fail
    refine (dependenceWith_no L _ _ _ _ _ _ xs [] _ hh hwf hL1 hL2 hn2 HA.out hT1).mono ?_
    rintro e w1 ⟨rfl, hb⟩
    go_wp2_with fail
    go_ret
    exact ⟨ret_b _ _ HC.out.symm, HB.out.trans (hb.mono HB.out.size)⟩
  · have HANS : Hid (isWordAns L xs us = wordB L us) := Lib.hid (by
      unfold isWordAns
      cases hu : wordB L us
      · rw [wCode_bad _ _ _ ha hu]; rfl
      · rw [wCode_yes _ _ _ ha hu]; rfl)
    obtain ⟨rs, rfl, rfl, h8, hr, hrel, hl, hd, _⟩ := alphB_nats L xs n hn1 ha
    clear ha
    go_enter Tryd.func17, Tryd.ntmps17
    go_wp2_with fail
    refine (dependenceWith_any _ _ _ _ _ _ rs _ _ hh hwf h8 hr hrel hd ht (by omega) hT1).mono ?_
    rw [okT_one, ← HANS.out]
    rintro e w1 (⟨hok, A2, c2, rfl, ho, hb⟩ | ⟨hok, rfl, hb⟩)
    · go_wp2_with fail
      go_ret
      exact ⟨ret_b _ _ hok.symm, HB.out.trans (hb.mono HB.out.size)⟩
    · go_wp2_with fail
      go_ret
      exact ⟨ret_b _ _ hok.symm, HB.out.trans (hb.mono HB.out.size)⟩
set_option maxHeartbeats 1600000 in
theorem specIsWord (L : Int) (A : Option Addr) (n c : Nat) (xs : List Int) (A1 : Option Addr) (m d : Nat) (us : List Int) (w : World) (h : Rd w A n xs) (hwf : Wf xs) (hL1 : -9223372036854775808 ≤ L) (hL2 : L ≤ 9223372036854775807) (hn : n ≤ maxLen) (h2 : Rd w A1 m us) (hwf2 : Wf us) (hm : m ≤ maxLen) :
    Calls Tryd.prog 14 #[.agg #[.int .i64 L, .slice A n c], .slice A1 m d] w fun e w' => e = .returned (.bool (isWordAns L xs us)) ∧ Below w.heap.size w w' := by
  have hn2 : n ≤ 9223372036854775807 := by unfold maxLen at hn; omega
  have hm2 : m ≤ 9223372036854775807 := by unfold maxLen at hm; omega
  have HB := Lib.hid (below2 w (.cells #[.int .i64 L, .slice A n c] 27) (.cells #[.int .i64 L, .slice A n c] 27))
  have x0 := box_new 27 (w.alloc (.cells #[.int .i64 L, .slice A n c] 27)) L A n c
  rw [size1'] at x0
  have hh := h.below HB.out
  have hh2 := h2.below HB.out
  have hin : Calls Tryd.prog 45 #[.agg #[.int .i64 L, .slice A n c], .slice A1 m d] (w.alloc (.cells #[.int .i64 L, .slice A n c] 27)) fun e w' => e = .returned (.bool (isWordAns L xs us)) ∧ Below w.heap.size w w' := by
    cases ha : alphB L xs
    · have HA := Lib.hid ha
      have HC : Hid (isWordAns L xs us = false) := Lib.hid (by unfold isWordAns; rw [wCode_no _ _ _ ha]; rfl)
      clear ha
      go_enter Tryd.func45, Tryd.ntmps45
      go_wp2_with fail
      refine (l02Is_any L _ _ _ xs _ hh hn2).mono ?_
      rintro e w1 ⟨rfl, hb⟩
      rw [HA.out]
      go_wp2_with fail
      go_ret
      exact ⟨ret_b _ _ HC.out.symm, HB.out.trans (hb.mono HB.out.size)⟩
    · have HA := Lib.hid ha
      obtain ⟨hl0, hl8⟩ := alphB_L8 L xs ha
      have HANS : Hid (isWordAns L xs us = wordB L us) := Lib.hid (by
        unfold isWordAns
        cases hu : wordB L us
        · rw [wCode_bad _ _ _ ha hu]; rfl
        · rw [wCode_yes _ _ _ ha hu]; rfl)
      clear ha
      go_enter Tryd.func45, Tryd.ntmps45
      go_wp2_with fail
      refine (l02Is_any L _ _ _ xs _ hh hn2).mono ?_
      rintro e w1 ⟨rfl, hb⟩
      rw [HA.out]
      have y0 := (x0.next hb).c0
      go_wp2_with fail
      refine (l03Word_any L _ _ _ us _ (hh2.below hb) hm2 hl0 hl8).mono ?_
      rintro e w' ⟨rfl, rfl⟩
      go_wp2_with fail
      go_ret
      exact ⟨ret_b _ _ HANS.out.symm, HB.out.trans (hb.mono HB.out.size)⟩
  have HIN := Lib.hid hin
  clear hin
  go_enter Tryd.func14, Tryd.ntmps14
  go_wp2_with fail
  refine HIN.out.mono ?_
  rintro e w1 ⟨rfl, hb⟩
  go_wp2_with fail
  go_ret
  exact ⟨rfl, hb⟩
/-- How often each of n letters occurs. -/
def contM (n : Nat) (us : List Nat) : List Nat := (List.range n).map fun a => us.count a
theorem contM_len (n : Nat) (us : List Nat) : (contM n us).length = n := by simp [contM]
theorem contM_at (n : Nat) (us : List Nat) (a : Nat) (h : a < n) : (contM n us).getD a 0 = us.count a := getD_range_map _ _ _ h
theorem contM_le (n : Nat) (us : List Nat) (a : Nat) (h : us.length ≤ 24) : (contM n us).getD a 0 ≤ 24 := by
  rcases Nat.lt_or_ge a n with h1 | h1
  · rw [contM_at n us a h1]; exact Nat.le_trans List.count_le_length h
  · rw [getD_past _ n a (contM_len n us) h1]; omega
theorem contM_snoc (n : Nat) (us : List Nat) (a : Nat) (h : a < n) : contM n (us ++ [a]) = (contM n us).set a ((contM n us).getD a 0 + 1) := by
  refine list_eq_getD _ _ n (contM_len _ _) (by rw [List.length_set, contM_len]) fun i hi => ?_
  rw [contM_at _ _ _ hi, getD_set _ _ _ _ (by rw [contM_len]; exact h), List.count_append, List.count_singleton]
  by_cases e : i = a
  · subst e; rw [if_pos rfl, contM_at _ _ _ h]; simp
  · rw [if_neg e, contM_at _ _ _ hi]; simp; exact fun h => e h.symm
theorem contM_nil (n : Nat) : contM n [] = List.replicate n 0 := by
  refine list_eq_getD _ _ n (contM_len _ _) List.length_replicate fun i hi => ?_
  rw [contM_at _ _ _ hi, replicate_getD]; rfl
def contAns (L : Int) (xs us : List Int) : List Int × Int := wAns (fun rs us => contM rs.length us) L xs us
theorem contAns_small (L : Int) (xs us : List Int) : (contAns L xs us).1.length ≤ 8 := wAns_small _ 8 (fun rs us h _ => by rw [contM_len]; exact h) L xs us
theorem take_snoc (us : List Nat) (k u : Nat) (h : us[k]? = some u) : us.take (k + 1) = us.take k ++ [u] := by rw [List.take_add_one, h]; rfl
theorem ints_at? (us : List Nat) (k : Nat) (x : Int) (h : (ints us)[k]? = some x) : ∃ u, us[k]? = some u ∧ x = (u : Int) := by
  unfold ints at h
  rw [List.getElem?_map] at h
  cases e : us[k]? with
  | none => rw [e] at h; cases h
  | some u => rw [e] at h; injection h with h; exact ⟨u, rfl, h.symm⟩
set_option maxHeartbeats 3200000 in
theorem implContentOf (L : Int) (A : Option Addr) (n c : Nat) (xs : List Int) (A1 : Option Addr) (m d : Nat) (us : List Int) (w : World) (h : Rd w A n xs) (hwf : Wf xs) (hL1 : -9223372036854775808 ≤ L) (hL2 : L ≤ 9223372036854775807) (hn : n ≤ maxLen) (h2 : Rd w A1 m us) (hwf2 : Wf us) (hm : m ≤ maxLen) (hT : Tab w) :
    Calls Tryd.prog 21 #[.agg #[.int .i64 L, .slice A n c], .slice A1 m d] w (LsPost w (contAns L xs us).1.length (contAns L xs us).1 (contAns L xs us).2) := by
  have hn2 : n ≤ 9223372036854775807 := by unfold maxLen at hn; omega
  have hn1 := h.1
  have hm1 := h2.1
  have HB := Lib.hid (below2 w (.cells #[.int .i64 L, .slice A n c] 27) (.cells #[.slice A1 m d] 22))
  have hh := h.below HB.out
  have ht := rdT_box w (.cells #[.int .i64 L, .slice A n c] 27) A1 m d us 22 h2 hm
  have hh2 := h2.below HB.out
  have hT1 := hT.below HB.out
  cases ha : alphB L xs
  · rw [show contAns L xs us = _ from wAns_no _ L xs us ha]
    have HA := Lib.hid ha
    clear ha ht hn1
    go_enter Tryd.func21, Tryd.ntmps21
    go_wp2_with fail
    refine (dependenceWith_no L _ _ _ _ _ _ xs [] _ hh hwf hL1 hL2 hn2 HA.out hT1).mono ?_
    rintro e w1 ⟨rfl, hb⟩
    go_wp2_with fail
    go_ret2
    exact LsPost.of_ans (ans_no 1 (HB.out.trans (hb.mono HB.out.size)))
  · cases hu : wordB L us
    · rw [show contAns L xs us = _ from wAns_bad _ L xs us ha hu]
      obtain ⟨rs, rfl, rfl, h8, hr, hrel, hl, hd, _⟩ := alphB_nats L xs n hn1 ha
      have HU := Lib.hid hu
      clear ha hu
      go_enter Tryd.func21, Tryd.ntmps21
      go_wp2_with fail
      refine (dependenceWith_any _ _ _ _ _ _ rs _ _ hh hwf h8 hr hrel hd ht (by omega) hT1).mono ?_
      rw [okT_one, HU.out]
      rintro e w1 (⟨hok, _⟩ | ⟨hok, rfl, hb⟩)
      · cases hok
      go_wp2_with fail
      go_ret2
      exact LsPost.of_ans (ans_no 2 (HB.out.trans (hb.mono HB.out.size)))
    · obtain ⟨rs, rfl, rfl, h8, hr, hrel, hl, hd, _⟩ := alphB_nats L xs n hn1 ha
      obtain ⟨vs, rfl, hv24, hvn⟩ := wordB_nats n us hu
      rw [show contAns (n : Int) (ints rs) (ints vs) = _ from wAns_yes _ (n : Int) rs vs ha hu]
      have HU := Lib.hid hu
      have HL := Lib.hid hl
      rw [ints_len] at hm1
      have hm24 : m ≤ 24 := by omega
      have HM := Lib.hid hm1
      have HVN := Lib.hid hvn
      obtain ⟨i0, hi, hz0, hz1, hz2⟩ := info_parts info_int
      have hml : n ≤ maxLen := by unfold maxLen; omega
      have hby : i0.bytes * n ≤ 281474976710656 := by rw [hz2]; omega
      show Calls _ _ _ _ (LsPost w (ints (contM rs.length vs)).length (ints (contM rs.length vs)) 0)
      rw [hl]
      clear ha hu hl hm1 hvn
      go_enter Tryd.func21, Tryd.ntmps21
      go_wp2_with fail
      refine (dependenceWith_any _ _ _ _ _ _ rs _ _ hh hwf h8 hr hrel hd ht (by omega) hT1).mono ?_
      rw [okT_one, HU.out]
      rintro e w1 (⟨hok, A2, c2, rfl, ho, hb⟩ | ⟨hok, _⟩)
      rotate_left
      · cases hok
      have HB1 := Lib.hid (HB.out.trans (hb.mono HB.out.size))
      have hr2 := hh2.below hb
      clear ho hb hok ht hh hh2 hT1 hT h h2
      go_wp2_with (first | (at_make; refine wpList_make_full _ rfl _ _ _ rfl w1.heap.size 2 i0 (.int .i64 0) 1 Tryd.underlying22 hi hz0 hz1 _ _ (n : Int) (n : Int) n rfl rfl rfl rfl hby hml (Nat.le_refl _) ?_; intro w2 hown0 hg2))
      have hown := own_made hown0
      rw [← contM_nil] at hown
      clear hown0
      have hb2 : Below w1.heap.size w1 w2 := (Below.refl _ _).grown hg2 (Nat.le_refl _) (by simp)
      clear hg2
      go_loopw [26] (fun i wr => ∃ k : Nat, k ≤ m ∧ i = .int .i64 k ∧ Own 2 wr w1.heap.size (some ⟨w1.heap.size, 0, none⟩) n n (ints (contM n (vs.take k))) ∧ Below w1.heap.size w1 wr) (fun i _ => m - (intOf i).toNat)
      case atStart => exact ⟨0, Nat.zero_le _, rfl, hown, hb2⟩
      case round =>
        clear hown hb2
        obtain ⟨k, hk, rfl, ho, hb⟩ := hrel
        by_cases hlt : k < m
        · obtain ⟨b, off, x, rfl, hbs, hx, hcx⟩ := (hr2.below hb).at_ hlt
          obtain ⟨u, hu, rfl⟩ := ints_at? vs k x hx
          have hun := HVN.out u (List.mem_of_getElem? hu)
          have HS : Hid (contM n (vs.take (k + 1)) = (contM n (vs.take k)).set u ((contM n (vs.take k)).getD u 0 + 1)) := Lib.hid (by rw [take_snoc vs k u hu, contM_snoc n _ u hun])
          have hle := contM_le n (vs.take k) u (by rw [List.length_take]; omega)
          obtain ⟨g, hg, _, hcell, hfr, hset⟩ := own_stored ho hun
          cases hg
          obtain ⟨X, hX⟩ : ∃ X, X = (contM n (vs.take k)).getD u 0 := ⟨_, rfl⟩
          rw [← hX] at hle hcell HS
          have ho2 := hset (X + 1)
          rw [← HS.out, Int.natCast_succ] at ho2
          have hb2 := hb.setCell (p := ⟨w1.heap.size, u, none⟩) (Nat.le_refl _) (.int .i64 ((X : Int) + 1))
          clear hx hu hX hset
          go_wp2_with fail
          go_roundw
          case rel => exact ⟨k + 1, by omega, by go_num, ho2, hb2⟩
          case measure => simp [intOf]; omega
        · obtain rfl : k = m := by omega
          have e9 : vs.take k = vs := List.take_of_length_le (by have := HM.out; omega)
          rw [e9] at ho
          clear e9
          go_wp2_with fail
          go_ret2
          refine LsPost.of_ans (ans_yes (by rw [ints_len, contM_len]) (ho.mono HB1.out.size) (HB1.out.trans (hb.mono HB1.out.size)))
end Go.Proofs.YtmifkbmgpofjbaaDoor
