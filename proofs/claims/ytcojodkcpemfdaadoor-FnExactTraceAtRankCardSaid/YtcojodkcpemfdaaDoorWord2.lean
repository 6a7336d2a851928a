/-
  The dependence with words; the code of an alphabet and words; IsWord: by contracts.
-/
import Derived.Test.YtcojodkcpemfdaaDoorWord
namespace Go.Proofs.YtcojodkcpemfdaaDoor
open Go.RowKit
set_option linter.unusedVariables false
set_option maxRecDepth 100000

/-- A slice of slices: each element as it reads. -/
def RdT (w : World) (A : Option Addr) (n : Nat) (ts : List (Option Addr × Nat × Nat × List Int)) : Prop :=
  ts.length = n ∧ (∀ t, t ∈ ts → Rd w t.1 t.2.1 t.2.2.2 ∧ t.2.1 ≤ maxLen) ∧ (0 < n → ∃ b off, A = some ⟨b, off, none⟩ ∧ b < w.heap.size ∧ ∀ j t, ts[j]? = some t → w.cell? ⟨b, off + j, none⟩ = some (.slice t.1 t.2.1 t.2.2.1))
theorem RdT.at_ {w : World} {A : Option Addr} {n : Nat} {ts : List (Option Addr × Nat × Nat × List Int)} (h : RdT w A n ts) {k : Nat} (hk : k < n) :
    ∃ b off C m c xs, A = some ⟨b, off, none⟩ ∧ b < w.heap.size ∧ ts[k]? = some (C, m, c, xs) ∧ w.cell? ⟨b, off + k, none⟩ = some (.slice C m c) ∧ Rd w C m xs ∧ m ≤ maxLen := by
  obtain ⟨b, off, e, hb, hc⟩ := h.2.2 (by omega)
  have hl : k < ts.length := by have := h.1; omega
  obtain ⟨⟨C, m, c, xs⟩, ht⟩ : ∃ t, t = ts[k] := ⟨_, rfl⟩
  have h9 : ts[k]? = some (C, m, c, xs) := by rw [List.getElem?_eq_getElem hl, ht]
  have hm := h.2.1 _ (List.mem_of_getElem? h9)
  exact ⟨b, off, C, m, c, xs, e, hb, h9, hc k _ h9, hm.1, hm.2⟩
theorem RdT.keep {w w' : World} {A : Option Addr} {n : Nat} {ts : List (Option Addr × Nat × Nat × List Int)} (h : RdT w A n ts) (hs : w.heap.size ≤ w'.heap.size) (hk : ∀ p : Addr, p.block < w.heap.size → w'.cell? p = w.cell? p) : RdT w' A n ts :=
  ⟨h.1, fun t ht => ⟨(h.2.1 t ht).1.keep hs hk, (h.2.1 t ht).2⟩, fun hn => by
    obtain ⟨b, off, e, hb, hc⟩ := h.2.2 hn
    exact ⟨b, off, e, by omega, fun j x hx => (hk ⟨b, off + j, none⟩ hb).trans (hc j x hx)⟩⟩
theorem RdT.below {w w' : World} {A : Option Addr} {n : Nat} {ts : List (Option Addr × Nat × Nat × List Int)} (h : RdT w A n ts) (hb : Below w.heap.size w w') : RdT w' A n ts :=
  h.keep hb.size fun _ hp => hb.cell hp
theorem rdT_one (w : World) (A : Option Addr) (n c : Nat) (xs : List Int) (T : TypeId) (h : Rd w A n xs) (hn : n ≤ maxLen) : RdT (w.alloc (.cells #[.slice A n c] T)) (some ⟨w.heap.size, 0, none⟩) 1 [(A, n, c, xs)] := by
  refine ⟨rfl, fun t ht => ?_, fun _ => ⟨w.heap.size, 0, rfl, by simp, fun j t hj => ?_⟩⟩
  · simp at ht; subst ht
    exact ⟨h.below (below1 w _), hn⟩
  · match j, hj with
    | 0, hj => simp at hj; subst hj; exact cell_new0 w _ _
    | j + 1, hj => simp at hj
theorem rdT_two (w : World) (A B : Option Addr) (n c m d : Nat) (xs ys : List Int) (T : TypeId) (h : Rd w A n xs) (hn : n ≤ maxLen) (h2 : Rd w B m ys) (hm : m ≤ maxLen) : RdT (w.alloc (.cells #[.slice A n c, .slice B m d] T)) (some ⟨w.heap.size, 0, none⟩) 2 [(A, n, c, xs), (B, m, d, ys)] := by
  refine ⟨rfl, fun t ht => ?_, fun _ => ⟨w.heap.size, 0, rfl, by simp, fun j t hj => ?_⟩⟩
  · simp at ht
    rcases ht with rfl | rfl
    · exact ⟨h.below (below1 w _), hn⟩
    · exact ⟨h2.below (below1 w _), hm⟩
  · have e := heap_alloc_new w (.cells #[.slice A n c, .slice B m d] T)
    match j, hj with
    | 0, hj => simp at hj; subst hj; unfold World.cell?; simp only [Nat.zero_add]; rw [e]; rfl
    | 1, hj => simp at hj; subst hj; unfold World.cell?; simp only [Nat.zero_add]; rw [e]; rfl
    | j + 2, hj => simp at hj
theorem size1' (w : World) (o : Obj) : (w.alloc o).heap.size = w.heap.size + 1 := by simp
theorem rdT_box (w : World) (o : Obj) (A : Option Addr) (n c : Nat) (xs : List Int) (T : TypeId) (h : Rd w A n xs) (hn : n ≤ maxLen) : RdT ((w.alloc o).alloc (.cells #[.slice A n c] T)) (some ⟨w.heap.size + 1, 0, none⟩) 1 [(A, n, c, xs)] := by
  have := rdT_one (w.alloc o) A n c xs T (h.below (below1 w o)) hn
  rw [size1'] at this; exact this
theorem rdT_box2 (w : World) (o : Obj) (A B : Option Addr) (n c m d : Nat) (xs ys : List Int) (T : TypeId) (h : Rd w A n xs) (hn : n ≤ maxLen) (h2 : Rd w B m ys) (hm : m ≤ maxLen) : RdT ((w.alloc o).alloc (.cells #[.slice A n c, .slice B m d] T)) (some ⟨w.heap.size + 1, 0, none⟩) 2 [(A, n, c, xs), (B, m, d, ys)] := by
  have := rdT_two (w.alloc o) A B n c m d xs ys T (h.below (below1 w o)) hn (h2.below (below1 w o)) hm
  rw [size1'] at this; exact this
def okT (L : Int) (ts : List (Option Addr × Nat × Nat × List Int)) : Bool := ts.all fun t => wordB L t.2.2.2
set_option maxHeartbeats 1600000 in
theorem dependenceWith_no (L : Int) (A B : Option Addr) (n c m d : Nat) (xs : List Int) (ts : List (Option Addr × Nat × Nat × List Int)) (w : World) (h : Rd w A n xs) (hwf : Wf xs) (hL1 : -9223372036854775808 ≤ L) (hL2 : L ≤ 9223372036854775807) (hn : n ≤ 9223372036854775807) (ha : alphB L xs = false) (hT : Tab w) :
    Calls Tryd.prog 86 #[.agg #[.int .i64 L, .slice A n c], .slice B m d] w fun e w' => e = .returned (.tuple #[.slice none 0 0, .int .i64 1]) ∧ Below w.heap.size w w' := by
  have HB := Lib.hid (below1 w (.cells #[.int .i64 L, .slice A n c] 29))
  have hh := h.below HB.out
  have hT1 := hT.below HB.out
  have HA := Lib.hid ha
  clear ha
  go_enter Tryd.func86, Tryd.ntmps86
  go_wp2_with fail
  refine (dependenceOf_no L _ _ _ xs _ hh hwf hL1 hL2 hn HA.out hT1).mono ?_
  rintro e w1 ⟨rfl, hb⟩
  go_wp2_with fail
  go_ret2
  exact ⟨rfl, HB.out.trans (hb.mono HB.out.size)⟩
theorem okT_take (L : Int) (ts : List (Option Addr × Nat × Nat × List Int)) (k : Nat) (t : Option Addr × Nat × Nat × List Int) (h : ts[k]? = some t) : okT L (ts.take (k + 1)) = (okT L (ts.take k) && wordB L t.2.2.2) := by
  unfold okT
  rw [List.take_add_one, h, List.all_append]; simp
theorem okT_no (L : Int) (ts : List (Option Addr × Nat × Nat × List Int)) (k : Nat) (t : Option Addr × Nat × Nat × List Int) (h : ts[k]? = some t) (hw : wordB L t.2.2.2 = false) : okT L ts = false := by
  unfold okT
  rw [Bool.eq_false_iff]
  intro e
  have := List.all_eq_true.1 e t (List.mem_of_getElem? h)
  rw [hw] at this; cases this
/-- What the dependence with words answers to an alphabet. -/
def DwPost (w : World) (n : Nat) (rs : List Nat) (ok : Bool) (e : Ending) (w' : World) : Prop :=
  (ok = true ∧ ∃ A c, e = .returned (.tuple #[.slice A n c, .int .i64 0]) ∧ Own 84 w' w.heap.size A n c (ints rs) ∧ Below w.heap.size w w') ∨ (ok = false ∧ e = .returned (.tuple #[.slice none 0 0, .int .i64 2]) ∧ Below w.heap.size w w')
set_option maxHeartbeats 3200000 in
theorem dependenceWith_any (A B : Option Addr) (n c m d : Nat) (rs : List Nat) (ts : List (Option Addr × Nat × Nat × List Int)) (w : World) (h : Rd w A n (ints rs)) (hwf : Wf (ints rs)) (hn : n ≤ 8) (hr : ∀ i, rs.getD i 0 < 2 ^ n) (hrel : relB (ints rs) = true) (hd : depB rs = true) (ht : RdT w B m ts) (hm : m ≤ 1048576) (hT : Tab w) :
    Calls Tryd.prog 86 #[.agg #[.int .i64 (n : Int), .slice A n c], .slice B m d] w (DwPost w n rs (okT (n : Int) ts)) := by
  have HB := Lib.hid (below1 w (.cells #[.int .i64 (n : Int), .slice A n c] 29))
  have x0 := box_new 29 w (n : Int) A n c
  have hh := h.below HB.out
  have hT1 := hT.below HB.out
  have ht1 := ht.below HB.out
  go_enter Tryd.func86, Tryd.ntmps86
  go_wp2_with fail
  refine (dependenceOf_yes _ _ _ _ rs _ hh hwf hn rfl hr hrel hd hT1).mono ?_
  rintro e w1 ⟨A1, c1, rfl, ho1, hb1⟩
  have x1 := x0.next hb1
  have ht2 := ht1.below hb1
  have HB1 := Lib.hid (HB.out.trans (hb1.mono HB.out.size))
  have ho2 := ho1.mono HB.out.size
  clear x0 hh hT1 ht1 h hT ht ho1 hb1
  go_wp2_with fail
  go_loopw [19] (fun i wr => ∃ k : Nat, k ≤ m ∧ i = .int .i64 k ∧ Below w1.heap.size w1 wr ∧ okT (n : Int) (ts.take k) = true) (fun i _ => m - (intOf i).toNat)
  case atStart => exact ⟨0, Nat.zero_le _, rfl, Below.refl _ _, rfl⟩
  case round =>
    obtain ⟨k, hk, rfl, hb, hok⟩ := hrel
    have HOK := Lib.hid hok
    clear hok
    have y0 := (x1.next hb).c0
    by_cases hlt : k < m
    · obtain ⟨b, off, C, q, d', ws, rfl, hbs, hx, hcx, hrd, hq⟩ := (ht2.below hb).at_ hlt
      have hq2 : q ≤ 9223372036854775807 := by unfold maxLen at hq; omega
      have HNX := Lib.hid (okT_take (n : Int) ts k _ hx)
      have HNO := Lib.hid (okT_no (n : Int) ts k _ hx)
      clear hx
      cases hwb : wordB (n : Int) ws
      · have HW := Lib.hid hwb
        clear hwb
        go_wp2_with fail
        refine (isWordOf_any _ _ _ _ ws _ hrd hq2).mono ?_
        rintro e w2 ⟨rfl, hb2⟩
        rw [HW.out]
        go_wp2_with fail
        go_ret2
        exact .inr ⟨HNO.out HW.out, rfl, HB1.out.trans ((hb.trans (hb2.mono hb.size)).mono HB1.out.size)⟩
      · have HW := Lib.hid hwb
        clear hwb
        go_wp2_with fail
        refine (isWordOf_any _ _ _ _ ws _ hrd hq2).mono ?_
        rintro e w2 ⟨rfl, hb2⟩
        rw [HW.out]
        go_wp2_with fail
        go_roundw
        case rel => exact ⟨k + 1, by omega, by go_num, hb.trans (hb2.mono hb.size), by rw [HNX.out, HOK.out, HW.out]; rfl⟩
        case measure => simp [intOf]; omega
    · obtain rfl : k = m := by omega
      have e9 : okT (n : Int) ts = true := by have := HOK.out; rw [List.take_of_length_le (by have := ht2.1; omega)] at this; exact this
      have HE := Lib.hid e9
      clear e9
      go_wp2_with fail
      go_ret2
      exact .inl ⟨HE.out, A1, c1, rfl, ho2.below (hb.mono (by omega)) , HB1.out.trans (hb.mono HB1.out.size)⟩
set_option maxHeartbeats 1600000 in
theorem l03Word_any (L : Int) (A : Option Addr) (n c : Nat) (xs : List Int) (w : World) (h : Rd w A n xs) (hn : n ≤ 9223372036854775807) (h0 : 0 ≤ L) (h8 : L ≤ 8) :
    Calls Tryd.prog 83 #[.int .i64 L, .slice A n c] w fun e w' => e = .returned (.bool (wordB L xs)) ∧ w = w' := by
  have hlen := h.1
  by_cases h24 : n ≤ 24
  · have HW : Hid (wordB L xs = xs.all (letB L)) := Lib.hid (by unfold wordB; rw [hlen, decide_eq_true h24]; rfl)
    have HL := Lib.hid hlen
    have hlet : ∀ a : Int, letB L a = decide (0 ≤ a ∧ a ≤ L - 1) := fun a => by unfold letB; rw [decide_eq_decide]; omega
    have HLET := Lib.hid hlet
    have hw1 : wrap64 (L - 1) = L - 1 := by unfold wrap64; omega
    clear hlen hlet
    go_enter Tryd.func83, Tryd.ntmps83
    go_wp2_with fail
    go_loop [5] (fun i => ∃ k : Nat, k ≤ n ∧ i = .int .i64 k ∧ (xs.take k).all (letB L) = true) (fun i => n - (intOf i).toNat)
    case atStart => exact ⟨0, Nat.zero_le _, rfl, rfl⟩
    case round =>
      obtain ⟨k, hk, rfl, hall⟩ := hrel
      have HA := Lib.hid hall
      clear hall
      by_cases hlt : k < n
      · obtain ⟨b, off, x, rfl, hbs, hx, hcx⟩ := h.at_ hlt
        have HN := Lib.hid (all_next (letB L) xs k x hx)
        have HX := Lib.hid hx
        clear hx
        cases hlx : letB L x
        · have HF := Lib.hid hlx
          clear hlx
          go_wp2_with fail
          refine (in_any x 0 (L - 1) _).mono ?_
          rintro e w' ⟨rfl, rfl⟩
          rw [← HLET.out x, HF.out]
          go_wp2
          go_ret
          refine ⟨ret_b _ _ ?_, rfl⟩
          symm
          rw [HW.out, Bool.eq_false_iff]
          intro e
          have := List.all_eq_true.1 e x (List.mem_of_getElem? HX.out)
          rw [HF.out] at this; cases this
        · have HF := Lib.hid hlx
          clear hlx
          go_wp2_with fail
          refine (in_any x 0 (L - 1) _).mono ?_
          rintro e w' ⟨rfl, rfl⟩
          rw [← HLET.out x, HF.out]
          go_wp2
          go_round
          case rel => exact ⟨k + 1, by omega, by go_num, by rw [HN.out, HA.out, HF.out]; rfl⟩
          case measure => simp [intOf]; omega
      · obtain rfl : k = n := by omega
        go_wp2
        go_ret
        refine ⟨ret_b _ _ ?_, rfl⟩
        rw [HW.out]
        have := HA.out
        rw [List.take_of_length_le (by rw [HL.out]; omega)] at this
        exact this.symm
  · have HW := Lib.hid (wordB_long L xs (by omega))
    clear hlen
    go_enter Tryd.func83, Tryd.ntmps83
    go_wp2_with fail
    go_ret
    exact ⟨ret_b _ _ HW.out.symm, rfl⟩
theorem alphB_L8 (L : Int) (xs : List Int) (h : alphB L xs = true) : 0 ≤ L ∧ L ≤ 8 := by
  unfold alphB at h
  rw [Bool.and_eq_true, decide_eq_true_eq] at h
  exact ⟨h.1.1, h.1.2.1⟩
/-- The code of an alphabet and two words. -/
def wCode2 (L : Int) (xs us vs : List Int) : Int := if alphB L xs = true then (if (wordB L us && wordB L vs) = true then 0 else 2) else 1
def wCode (L : Int) (xs us : List Int) : Int := if alphB L xs = true then (if wordB L us = true then 0 else 2) else 1
theorem wCode_two (L : Int) (xs us : List Int) : wCode2 L xs us us = wCode L xs us := by unfold wCode2 wCode; rw [Bool.and_self]
set_option maxHeartbeats 1600000 in
theorem l03Code_any (L : Int) (A B C : Option Addr) (n c m d q f : Nat) (xs us vs : List Int) (w : World) (h : Rd w A n xs) (hn : n ≤ 9223372036854775807) (h2 : Rd w B m us) (hm : m ≤ 9223372036854775807) (h3 : Rd w C q vs) (hq : q ≤ 9223372036854775807) :
    Calls Tryd.prog 111 #[.agg #[.int .i64 L, .slice A n c], .slice B m d, .slice C q f] w fun e w' => e = .returned (.int .i64 (wCode2 L xs us vs)) ∧ Below w.heap.size w w' := by
  have HB := Lib.hid (below1 w (.cells #[.int .i64 L, .slice A n c] 29))
  have x0 := box_new 29 w L A n c
  have hh := h.below HB.out
  have hh2 := h2.below HB.out
  have hh3 := h3.below HB.out
  cases ha : alphB L xs
  · have HA := Lib.hid ha
    have HC : Hid (wCode2 L xs us vs = 1) := Lib.hid (by unfold wCode2; rw [ha]; rfl)
    clear ha
    go_enter Tryd.func111, Tryd.ntmps111
    go_wp2_with fail
    refine (l02Is_any L _ _ _ xs _ hh hn).mono ?_
    rintro e w1 ⟨rfl, hb⟩
    rw [HA.out]
    go_wp2_with fail
    go_ret
    exact ⟨ret_i _ _ HC.out.symm, HB.out.trans (hb.mono HB.out.size)⟩
  · have HA := Lib.hid ha
    obtain ⟨hl0, hl8⟩ := alphB_L8 L xs ha
    cases hu : wordB L us
    · have HU := Lib.hid hu
      have HC : Hid (wCode2 L xs us vs = 2) := Lib.hid (by unfold wCode2; rw [ha, hu]; rfl)
      clear ha hu
      go_enter Tryd.func111, Tryd.ntmps111
      go_wp2_with fail
      refine (l02Is_any L _ _ _ xs _ hh hn).mono ?_
      rintro e w1 ⟨rfl, hb⟩
      rw [HA.out]
      have y0 := (x0.next hb).c0
      have HB1 := Lib.hid (HB.out.trans (hb.mono HB.out.size))
      go_wp2_with fail
      refine (l03Word_any L _ _ _ us _ (hh2.below hb) hm hl0 hl8).mono ?_
      rintro e w' ⟨rfl, rfl⟩
      rw [HU.out]
      go_wp2_with fail
      go_ret
      exact ⟨ret_i _ _ HC.out.symm, HB1.out⟩
    · have HU := Lib.hid hu
      cases hv : wordB L vs
      · have HV := Lib.hid hv
        have HC : Hid (wCode2 L xs us vs = 2) := Lib.hid (by unfold wCode2; rw [ha, hu, hv]; rfl)
        clear ha hu hv
        go_enter Tryd.func111, Tryd.ntmps111
        go_wp2_with fail
        refine (l02Is_any L _ _ _ xs _ hh hn).mono ?_
        rintro e w1 ⟨rfl, hb⟩
        rw [HA.out]
        have y0 := (x0.next hb).c0
        have HB1 := Lib.hid (HB.out.trans (hb.mono HB.out.size))
        go_wp2_with fail
        refine (l03Word_any L _ _ _ us _ (hh2.below hb) hm hl0 hl8).mono ?_
        rintro e w' ⟨rfl, rfl⟩
        rw [HU.out]
        go_wp2_with fail
        refine (l03Word_any L _ _ _ vs _ (hh3.below hb) hq hl0 hl8).mono ?_
        rintro e w' ⟨rfl, rfl⟩
        rw [HV.out]
        go_wp2_with fail
        go_ret
        exact ⟨ret_i _ _ HC.out.symm, HB1.out⟩
      · have HV := Lib.hid hv
        have HC : Hid (wCode2 L xs us vs = 0) := Lib.hid (by unfold wCode2; rw [ha, hu, hv]; rfl)
        clear ha hu hv
        go_enter Tryd.func111, Tryd.ntmps111
        go_wp2_with fail
        refine (l02Is_any L _ _ _ xs _ hh hn).mono ?_
        rintro e w1 ⟨rfl, hb⟩
        rw [HA.out]
        have y0 := (x0.next hb).c0
        have HB1 := Lib.hid (HB.out.trans (hb.mono HB.out.size))
        go_wp2_with fail
        refine (l03Word_any L _ _ _ us _ (hh2.below hb) hm hl0 hl8).mono ?_
        rintro e w' ⟨rfl, rfl⟩
        rw [HU.out]
        go_wp2_with fail
        refine (l03Word_any L _ _ _ vs _ (hh3.below hb) hq hl0 hl8).mono ?_
        rintro e w' ⟨rfl, rfl⟩
        rw [HV.out]
        go_wp2_with fail
        go_ret
        exact ⟨ret_i _ _ HC.out.symm, HB1.out⟩
end Go.Proofs.YtcojodkcpemfdaaDoor
