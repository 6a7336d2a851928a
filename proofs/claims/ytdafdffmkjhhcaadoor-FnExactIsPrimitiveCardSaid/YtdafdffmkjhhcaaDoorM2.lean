/-
  The dependence with words; the code of an alphabet and words; IsWord: by contracts. PartsOfAlphabet: both sides. IsWord and ContentOf: both sides. Plain mathematics of heights and steps. AreDependent: both sides. Heights and steps of a word: the model's side. The steps of a word: the model's side. How the places of a word are compared: cmp.Compare of their letters. The letters that may come first: what firsts$1 does for a round that says 'no more'. slices.Clone of a slice of numbers. The words of a trace, the first one: what words$1$1 (extend) does where the round says 'no more'. The words of a trace, the first one: the recursion whole, and what words$1 does where the round says 'no more'. The normal form of a trace: the first one of its words.
-/
import Derived.Test.YtdafdffmkjhhcaaDoorM1
import Derived.Test.YtdafdffmkjhhcaaDoorB2
import Derived.Deep.RegionHeld3
import Derived.StillTailTactics
import Derived.Test.YtdafdffmkjhhcaaDoorB1
namespace Go.Proofs.YtdafdffmkjhhcaaDoor
open Go.RowKit
set_option linter.unusedVariables false
set_option maxRecDepth 100000

/-- A slice of slices: each element as it reads. -/
def RdT (w : World) (A : Option Addr) (n : Nat) (ts : List (Option Addr × Nat × Nat × List Int)) : Prop :=
  ts.length = n ∧ (∀ t, t ∈ ts → Rd w t.1 t.2.1 t.2.2.2 ∧ t.2.1 ≤ maxLen) ∧ (0 < n → ∃ b off, A = some ⟨b, off, none⟩ ∧ b < w.heap.size ∧ ∀ j t, ts[j]? = some t → w.cell? ⟨b, off + j, none⟩ = some (.slice t.1 t.2.1 t.2.2.1))
theorem RdT.at_ {w : World} {A : Option Addr} {n : Nat} {ts : List (Option Addr × Nat × Nat × List Int)} (h : RdT w A n ts) {k : Nat} (hk : k < n) :
    ∃ b off C m c xs, A = some ⟨b, off, none⟩ ∧ b < w.heap.size ∧ ts[k]? = some (C, m, c, xs) ∧ w.cell? ⟨b, off + k, none⟩ = some (.slice C m c) ∧ Rd w C m xs ∧ m ≤ maxLen := by
  obtain ⟨b, off, e, hb, hc⟩ := h.2.2 (by omega)
  have hl : k < ts.length := by have := h.1; omega
  obtain ⟨⟨C, m, c, xs⟩, ht⟩ : ∃ t, t = ts[k] := ⟨_, rfl⟩
  have h9 : ts[k]? = some (C, m, c, xs) := by rw [List.getElem?_eq_getElem hl, ht]
  have hm := h.2.1 _ (List.mem_of_getElem? h9)
  exact ⟨b, off, C, m, c, xs, e, hb, h9, hc k _ h9, hm.1, hm.2⟩
theorem RdT.keep {w w' : World} {A : Option Addr} {n : Nat} {ts : List (Option Addr × Nat × Nat × List Int)} (h : RdT w A n ts) (hs : w.heap.size ≤ w'.heap.size) (hk : ∀ p : Addr, p.block < w.heap.size → w'.cell? p = w.cell? p) : RdT w' A n ts :=
  ⟨h.1, fun t ht => ⟨(h.2.1 t ht).1.keep hs hk, (h.2.1 t ht).2⟩, fun hn => by
    obtain ⟨b, off, e, hb, hc⟩ := h.2.2 hn
    exact ⟨b, off, e, by omega, fun j x hx => (hk ⟨b, off + j, none⟩ hb).trans (hc j x hx)⟩⟩
theorem RdT.below {w w' : World} {A : Option Addr} {n : Nat} {ts : List (Option Addr × Nat × Nat × List Int)} (h : RdT w A n ts) (hb : Below w.heap.size w w') : RdT w' A n ts :=
  h.keep hb.size fun _ hp => hb.cell hp
theorem rdT_one (w : World) (A : Option Addr) (n c : Nat) (xs : List Int) (T : TypeId) (h : Rd w A n xs) (hn : n ≤ maxLen) : RdT (w.alloc (.cells #[.slice A n c] T)) (some ⟨w.heap.size, 0, none⟩) 1 [(A, n, c, xs)] := by
  refine ⟨rfl, fun t ht => ?_, fun _ => ⟨w.heap.size, 0, rfl, by simp, fun j t hj => ?_⟩⟩
  · simp at ht; subst ht
    exact ⟨h.below (below1 w _), hn⟩
  · match j, hj with
    | 0, hj => simp at hj; subst hj; exact cell_new0 w _ _
    | j + 1, hj => simp at hj
theorem rdT_two (w : World) (A B : Option Addr) (n c m d : Nat) (xs ys : List Int) (T : TypeId) (h : Rd w A n xs) (hn : n ≤ maxLen) (h2 : Rd w B m ys) (hm : m ≤ maxLen) : RdT (w.alloc (.cells #[.slice A n c, .slice B m d] T)) (some ⟨w.heap.size, 0, none⟩) 2 [(A, n, c, xs), (B, m, d, ys)] := by
  refine ⟨rfl, fun t ht => ?_, fun _ => ⟨w.heap.size, 0, rfl, by simp, fun j t hj => ?_⟩⟩
  · simp at ht
    rcases ht with rfl | rfl
    · exact ⟨h.below (below1 w _), hn⟩
    · exact ⟨h2.below (below1 w _), hm⟩
  · have e := heap_alloc_new w (.cells #[.slice A n c, .slice B m d] T)
    match j, hj with
    | 0, hj => simp at hj; subst hj; unfold World.cell?; simp only [Nat.zero_add]; rw [e]; rfl
    | 1, hj => simp at hj; subst hj; unfold World.cell?; simp only [Nat.zero_add]; rw [e]; rfl
    | j + 2, hj => simp at hj
theorem size1' (w : World) (o : Obj) : (w.alloc o).heap.size = w.heap.size + 1 := by simp
theorem rdT_box (w : World) (o : Obj) (A : Option Addr) (n c : Nat) (xs : List Int) (T : TypeId) (h : Rd w A n xs) (hn : n ≤ maxLen) : RdT ((w.alloc o).alloc (.cells #[.slice A n c] T)) (some ⟨w.heap.size + 1, 0, none⟩) 1 [(A, n, c, xs)] := by
  have := rdT_one (w.alloc o) A n c xs T (h.below (below1 w o)) hn
  rw [size1'] at this; exact this
theorem rdT_box2 (w : World) (o : Obj) (A B : Option Addr) (n c m d : Nat) (xs ys : List Int) (T : TypeId) (h : Rd w A n xs) (hn : n ≤ maxLen) (h2 : Rd w B m ys) (hm : m ≤ maxLen) : RdT ((w.alloc o).alloc (.cells #[.slice A n c, .slice B m d] T)) (some ⟨w.heap.size + 1, 0, none⟩) 2 [(A, n, c, xs), (B, m, d, ys)] := by
  have := rdT_two (w.alloc o) A B n c m d xs ys T (h.below (below1 w o)) hn (h2.below (below1 w o)) hm
  rw [size1'] at this; exact this
def okT (L : Int) (ts : List (Option Addr × Nat × Nat × List Int)) : Bool := ts.all fun t => wordB L t.2.2.2
set_option maxHeartbeats 1600000 in
theorem dependenceWith_no (L : Int) (A B : Option Addr) (n c m d : Nat) (xs : List Int) (ts : List (Option Addr × Nat × Nat × List Int)) (w : World) (h : Rd w A n xs) (hwf : Wf xs) (hL1 : -9223372036854775808 ≤ L) (hL2 : L ≤ 9223372036854775807) (hn : n ≤ 9223372036854775807) (ha : alphB L xs = false) (hT : Tab w) :
    Calls Tryd.prog 81 #[.agg #[.int .i64 L, .slice A n c], .slice B m d] w fun e w' => e = .returned (.tuple #[.slice none 0 0, .int .i64 1]) ∧ Below w.heap.size w w' := by
  have HB := Lib.hid (below1 w (.cells #[.int .i64 L, .slice A n c] 29))
  have hh := h.below HB.out
  have hT1 := hT.below HB.out
  have HA := Lib.hid ha
  clear ha
  go_enter Tryd.func81, Tryd.ntmps81
  go_wp2_with fail
  refine (dependenceOf_no L _ _ _ xs _ hh hwf hL1 hL2 hn HA.out hT1).mono ?_
  rintro e w1 ⟨rfl, hb⟩
  go_wp2_with fail
  go_ret2
  exact ⟨rfl, HB.out.trans (hb.mono HB.out.size)⟩
theorem okT_take (L : Int) (ts : List (Option Addr × Nat × Nat × List Int)) (k : Nat) (t : Option Addr × Nat × Nat × List Int) (h : ts[k]? = some t) : okT L (ts.take (k + 1)) = (okT L (ts.take k) && wordB L t.2.2.2) := by
  unfold okT
  rw [List.take_add_one, h, List.all_append]; simp
theorem okT_no (L : Int) (ts : List (Option Addr × Nat × Nat × List Int)) (k : Nat) (t : Option Addr × Nat × Nat × List Int) (h : ts[k]? = some t) (hw : wordB L t.2.2.2 = false) : okT L ts = false := by
  unfold okT
  rw [Bool.eq_false_iff]
  intro e
  have := List.all_eq_true.1 e t (List.mem_of_getElem? h)
  rw [hw] at this; cases this
/-- What the dependence with words answers to an alphabet. -/
def DwPost (w : World) (n : Nat) (rs : List Nat) (ok : Bool) (e : Ending) (w' : World) : Prop :=
  (ok = true ∧ ∃ A c, e = .returned (.tuple #[.slice A n c, .int .i64 0]) ∧ Own 77 w' w.heap.size A n c (ints rs) ∧ Below w.heap.size w w') ∨ (ok = false ∧ e = .returned (.tuple #[.slice none 0 0, .int .i64 2]) ∧ Below w.heap.size w w')
set_option maxHeartbeats 3200000 in
theorem dependenceWith_any (A B : Option Addr) (n c m d : Nat) (rs : List Nat) (ts : List (Option Addr × Nat × Nat × List Int)) (w : World) (h : Rd w A n (ints rs)) (hwf : Wf (ints rs)) (hn : n ≤ 8) (hr : ∀ i, rs.getD i 0 < 2 ^ n) (hrel : relB (ints rs) = true) (hd : depB rs = true) (ht : RdT w B m ts) (hm : m ≤ 1048576) (hT : Tab w) :
    Calls Tryd.prog 81 #[.agg #[.int .i64 (n : Int), .slice A n c], .slice B m d] w (DwPost w n rs (okT (n : Int) ts)) := by
  have HB := Lib.hid (below1 w (.cells #[.int .i64 (n : Int), .slice A n c] 29))
  have x0 := box_new 29 w (n : Int) A n c
  have hh := h.below HB.out
  have hT1 := hT.below HB.out
  have ht1 := ht.below HB.out
  go_enter Tryd.func81, Tryd.ntmps81
  go_wp2_with fail
  refine (dependenceOf_yes _ _ _ _ rs _ hh hwf hn rfl hr hrel hd hT1).mono ?_
  rintro e w1 ⟨A1, c1, rfl, ho1, hb1⟩
  have x1 := x0.next hb1
  have ht2 := ht1.below hb1
  have HB1 := Lib.hid (HB.out.trans (hb1.mono HB.out.size))
  have ho2 := ho1.mono HB.out.size
  clear x0 hh hT1 ht1 h hT ht ho1 hb1
  go_wp2_with fail
  go_loopw [19] (fun i wr => ∃ k : Nat, k ≤ m ∧ i = .int .i64 k ∧ Below w1.heap.size w1 wr ∧ okT (n : Int) (ts.take k) = true) (fun i _ => m - (intOf i).toNat)
  case atStart => exact ⟨0, Nat.zero_le _, rfl, Below.refl _ _, rfl⟩
  case round =>
    obtain ⟨k, hk, rfl, hb, hok⟩ := hrel
    have HOK := Lib.hid hok
    clear hok
    have y0 := (x1.next hb).c0
    by_cases hlt : k < m
    · obtain ⟨b, off, C, q, d', ws, rfl, hbs, hx, hcx, hrd, hq⟩ := (ht2.below hb).at_ hlt
      have hq2 : q ≤ 9223372036854775807 := by unfold maxLen at hq; omega
      have HNX := Lib.hid (okT_take (n : Int) ts k _ hx)
      have HNO := Lib.hid (okT_no (n : Int) ts k _ hx)
      clear hx
      cases hwb : wordB (n : Int) ws
      · have HW := Lib.hid hwb
        clear hwb
        go_wp2_with fail
        refine (isWordOf_any _ _ _ _ ws _ hrd hq2).mono ?_
        rintro e w2 ⟨rfl, hb2⟩
        rw [HW.out]
        go_wp2_with fail
        go_ret2
        exact .inr ⟨HNO.out HW.out, rfl, HB1.out.trans ((hb.trans (hb2.mono hb.size)).mono HB1.out.size)⟩
      · have HW := Lib.hid hwb
        clear hwb
        go_wp2_with fail
        refine (isWordOf_any _ _ _ _ ws _ hrd hq2).mono ?_
        rintro e w2 ⟨rfl, hb2⟩
        rw [HW.out]
        go_wp2_with fail
        go_roundw
        case rel => exact ⟨k + 1, by omega, by go_num, hb.trans (hb2.mono hb.size), by rw [HNX.out, HOK.out, HW.out]; rfl⟩
        case measure => simp [intOf]; omega
    · obtain rfl : k = m := by omega
      have e9 : okT (n : Int) ts = true := by have := HOK.out; rw [List.take_of_length_le (by have := ht2.1; omega)] at this; exact this
      have HE := Lib.hid e9
      clear e9
      go_wp2_with fail
      go_ret2
      exact .inl ⟨HE.out, A1, c1, rfl, ho2.below (hb.mono (by omega)) , HB1.out.trans (hb.mono HB1.out.size)⟩
set_option maxHeartbeats 1600000 in
theorem l03Word_any (L : Int) (A : Option Addr) (n c : Nat) (xs : List Int) (w : World) (h : Rd w A n xs) (hn : n ≤ 9223372036854775807) (h0 : 0 ≤ L) (h8 : L ≤ 8) :
    Calls Tryd.prog 63 #[.int .i64 L, .slice A n c] w fun e w' => e = .returned (.bool (wordB L xs)) ∧ w = w' := by
  have hlen := h.1
  by_cases h24 : n ≤ 24
  · have HW : Hid (wordB L xs = xs.all (letB L)) := Lib.hid (by unfold wordB; rw [hlen, decide_eq_true h24]; rfl)
    have HL := Lib.hid hlen
    have hlet : ∀ a : Int, letB L a = decide (0 ≤ a ∧ a ≤ L - 1) := fun a => by unfold letB; rw [decide_eq_decide]; omega
    have HLET := Lib.hid hlet
    have hw1 : wrap64 (L - 1) = L - 1 := by unfold wrap64; omega
    clear hlen hlet
    go_enter Tryd.func63, Tryd.ntmps63
    go_wp2_with fail
    go_loop [5] (fun i => ∃ k : Nat, k ≤ n ∧ i = .int .i64 k ∧ (xs.take k).all (letB L) = true) (fun i => n - (intOf i).toNat)
    case atStart => exact ⟨0, Nat.zero_le _, rfl, rfl⟩
    case round =>
      obtain ⟨k, hk, rfl, hall⟩ := hrel
      have HA := Lib.hid hall
      clear hall
      by_cases hlt : k < n
      · obtain ⟨b, off, x, rfl, hbs, hx, hcx⟩ := h.at_ hlt
        have HN := Lib.hid (all_next (letB L) xs k x hx)
        have HX := Lib.hid hx
        clear hx
        cases hlx : letB L x
        · have HF := Lib.hid hlx
          clear hlx
          go_wp2_with fail
          refine (in_any x 0 (L - 1) _).mono ?_
          rintro e w' ⟨rfl, rfl⟩
          rw [← HLET.out x, HF.out]
          go_wp2
          go_ret
          refine ⟨ret_b _ _ ?_, rfl⟩
          symm
          rw [HW.out, Bool.eq_false_iff]
          intro e
          have := List.all_eq_true.1 e x (List.mem_of_getElem? HX.out)
          rw [HF.out] at this; cases this
        · have HF := Lib.hid hlx
          clear hlx
          go_wp2_with fail
          refine (in_any x 0 (L - 1) _).mono ?_
          rintro e w' ⟨rfl, rfl⟩
          rw [← HLET.out x, HF.out]
          go_wp2
          go_round
          case rel => exact ⟨k + 1, by omega, by go_num, by rw [HN.out, HA.out, HF.out]; rfl⟩
          case measure => simp [intOf]; omega
      · obtain rfl : k = n := by omega
        go_wp2
        go_ret
        refine ⟨ret_b _ _ ?_, rfl⟩
        rw [HW.out]
        have := HA.out
        rw [List.take_of_length_le (by rw [HL.out]; omega)] at this
        exact this.symm
  · have HW := Lib.hid (wordB_long L xs (by omega))
    clear hlen
    go_enter Tryd.func63, Tryd.ntmps63
    go_wp2_with fail
    go_ret
    exact ⟨ret_b _ _ HW.out.symm, rfl⟩
theorem alphB_L8 (L : Int) (xs : List Int) (h : alphB L xs = true) : 0 ≤ L ∧ L ≤ 8 := by
  unfold alphB at h
  rw [Bool.and_eq_true, decide_eq_true_eq] at h
  exact ⟨h.1.1, h.1.2.1⟩
/-- The code of an alphabet and two words. -/
def wCode2 (L : Int) (xs us vs : List Int) : Int := if alphB L xs = true then (if (wordB L us && wordB L vs) = true then 0 else 2) else 1
def wCode (L : Int) (xs us : List Int) : Int := if alphB L xs = true then (if wordB L us = true then 0 else 2) else 1
theorem wCode_two (L : Int) (xs us : List Int) : wCode2 L xs us us = wCode L xs us := by unfold wCode2 wCode; rw [Bool.and_self]
set_option maxHeartbeats 1600000 in
theorem l03Code_any (L : Int) (A B C : Option Addr) (n c m d q f : Nat) (xs us vs : List Int) (w : World) (h : Rd w A n xs) (hn : n ≤ 9223372036854775807) (h2 : Rd w B m us) (hm : m ≤ 9223372036854775807) (h3 : Rd w C q vs) (hq : q ≤ 9223372036854775807) :
    Calls Tryd.prog 77 #[.agg #[.int .i64 L, .slice A n c], .slice B m d, .slice C q f] w fun e w' => e = .returned (.int .i64 (wCode2 L xs us vs)) ∧ Below w.heap.size w w' := by
  have HB := Lib.hid (below1 w (.cells #[.int .i64 L, .slice A n c] 29))
  have x0 := box_new 29 w L A n c
  have hh := h.below HB.out
  have hh2 := h2.below HB.out
  have hh3 := h3.below HB.out
  cases ha : alphB L xs
  · have HA := Lib.hid ha
    have HC : Hid (wCode2 L xs us vs = 1) := Lib.hid (by unfold wCode2; rw [ha]; rfl)
    clear ha
    go_enter Tryd.func77, Tryd.ntmps77
    go_wp2_with fail
    refine (l02Is_any L _ _ _ xs _ hh hn).mono ?_
    rintro e w1 ⟨rfl, hb⟩
    rw [HA.out]
    go_wp2_with fail
    go_ret
    exact ⟨ret_i _ _ HC.out.symm, HB.out.trans (hb.mono HB.out.size)⟩
  · have HA := Lib.hid ha
    obtain ⟨hl0, hl8⟩ := alphB_L8 L xs ha
    cases hu : wordB L us
    · have HU := Lib.hid hu
      have HC : Hid (wCode2 L xs us vs = 2) := Lib.hid (by unfold wCode2; rw [ha, hu]; rfl)
      clear ha hu
      go_enter Tryd.func77, Tryd.ntmps77
      go_wp2_with fail
      refine (l02Is_any L _ _ _ xs _ hh hn).mono ?_
      rintro e w1 ⟨rfl, hb⟩
      rw [HA.out]
      have y0 := (x0.next hb).c0
      have HB1 := Lib.hid (HB.out.trans (hb.mono HB.out.size))
      go_wp2_with fail
      refine (l03Word_any L _ _ _ us _ (hh2.below hb) hm hl0 hl8).mono ?_
      rintro e w' ⟨rfl, rfl⟩
      rw [HU.out]
      go_wp2_with fail
      go_ret
      exact ⟨ret_i _ _ HC.out.symm, HB1.out⟩
    · have HU := Lib.hid hu
      cases hv : wordB L vs
      · have HV := Lib.hid hv
        have HC : Hid (wCode2 L xs us vs = 2) := Lib.hid (by unfold wCode2; rw [ha, hu, hv]; rfl)
        clear ha hu hv
        go_enter Tryd.func77, Tryd.ntmps77
        go_wp2_with fail
        refine (l02Is_any L _ _ _ xs _ hh hn).mono ?_
        rintro e w1 ⟨rfl, hb⟩
        rw [HA.out]
        have y0 := (x0.next hb).c0
        have HB1 := Lib.hid (HB.out.trans (hb.mono HB.out.size))
        go_wp2_with fail
        refine (l03Word_any L _ _ _ us _ (hh2.below hb) hm hl0 hl8).mono ?_
        rintro e w' ⟨rfl, rfl⟩
        rw [HU.out]
        go_wp2_with fail
        refine (l03Word_any L _ _ _ vs _ (hh3.below hb) hq hl0 hl8).mono ?_
        rintro e w' ⟨rfl, rfl⟩
        rw [HV.out]
        go_wp2_with fail
        go_ret
        exact ⟨ret_i _ _ HC.out.symm, HB1.out⟩
      · have HV := Lib.hid hv
        have HC : Hid (wCode2 L xs us vs = 0) := Lib.hid (by unfold wCode2; rw [ha, hu, hv]; rfl)
        clear ha hu hv
        go_enter Tryd.func77, Tryd.ntmps77
        go_wp2_with fail
        refine (l02Is_any L _ _ _ xs _ hh hn).mono ?_
        rintro e w1 ⟨rfl, hb⟩
        rw [HA.out]
        have y0 := (x0.next hb).c0
        have HB1 := Lib.hid (HB.out.trans (hb.mono HB.out.size))
        go_wp2_with fail
        refine (l03Word_any L _ _ _ us _ (hh2.below hb) hm hl0 hl8).mono ?_
        rintro e w' ⟨rfl, rfl⟩
        rw [HU.out]
        go_wp2_with fail
        refine (l03Word_any L _ _ _ vs _ (hh3.below hb) hq hl0 hl8).mono ?_
        rintro e w' ⟨rfl, rfl⟩
        rw [HV.out]
        go_wp2_with fail
        go_ret
        exact ⟨ret_i _ _ HC.out.symm, HB1.out⟩
end Go.Proofs.YtdafdffmkjhhcaaDoor
namespace Go.Proofs.YtdafdffmkjhhcaaDoor
open Go.RowKit
set_option linter.unusedVariables false
set_option maxRecDepth 100000

theorem LsPost.of_ans {w : World} {ys : List Int} {code : Int} {e : Ending} {w' : World} (h : AnsPost w ys code e w') : LsPost w ys.length ys code e w' := h
theorem LsPost.from_ {w w1 w' : World} {VN : Nat} {VX : List Int} {C : Int} {e : Ending} (h : LsPost w1 VN VX C e w') (hb : Below w.heap.size w w1) : LsPost w VN VX C e w' := by
  obtain ⟨A, c, rfl, ho, hb2⟩ := h
  exact ⟨A, c, rfl, ho.mono hb.size, hb.trans (hb2.mono hb.size)⟩
/-- A list for a dependence, else ErrInvalid. -/
def lsAns (f : List Nat → List Nat) (L : Int) (xs : List Int) : List Int × Int := if alphB L xs = true then (ints (f (xs.map Int.toNat)), 0) else ([], 1)
theorem lsAns_no (f : List Nat → List Nat) (L : Int) (xs : List Int) (h : alphB L xs = false) : lsAns f L xs = ([], 1) := by unfold lsAns; rw [if_neg (by rw [h]; decide)]
theorem lsAns_yes (f : List Nat → List Nat) (n : Nat) (rs : List Nat) (h : alphB (n : Int) (ints rs) = true) : lsAns f (n : Int) (ints rs) = (ints (f rs), 0) := by unfold lsAns; rw [if_pos h, ints_toNat]
theorem lsAns_small (f : List Nat → List Nat) (b : Nat) (hf : ∀ rs, rs.length ≤ 8 → (f rs).length ≤ b) (L : Int) (xs : List Int) : (lsAns f L xs).1.length ≤ b := by
  unfold lsAns
  split
  · rename_i h
    obtain ⟨rs, rfl, rfl, h8, _, _, hl, _, e⟩ := alphB_nats L xs _ rfl h
    rw [e]
    show (ints _).length ≤ b
    rw [ints_len]; exact hf _ (by rw [hl]; exact h8)
  · exact Nat.zero_le _
end Go.Proofs.YtdafdffmkjhhcaaDoor
namespace Go.Proofs.YtdafdffmkjhhcaaDoor
open Go.RowKit
set_option linter.unusedVariables false
set_option maxRecDepth 100000

def isWordAns (L : Int) (xs us : List Int) : Bool := decide (wCode L xs us = 0)
/-- The answer of a list function of an alphabet and a word. -/
def wAns (f : List Nat → List Nat → List Nat) (L : Int) (xs us : List Int) : List Int × Int := if wCode L xs us = 0 then (ints (f (xs.map Int.toNat) (us.map Int.toNat)), 0) else ([], wCode L xs us)
theorem wAns_no (f : List Nat → List Nat → List Nat) (L : Int) (xs us : List Int) (h : alphB L xs = false) : wAns f L xs us = ([], 1) := by
  have e : wCode L xs us = 1 := by unfold wCode; rw [if_neg (by rw [h]; decide)]
  unfold wAns; rw [e]; rfl
theorem wAns_bad (f : List Nat → List Nat → List Nat) (L : Int) (xs us : List Int) (h : alphB L xs = true) (h2 : wordB L us = false) : wAns f L xs us = ([], 2) := by
  have e : wCode L xs us = 2 := by unfold wCode; rw [if_pos h, if_neg (by rw [h2]; decide)]
  unfold wAns; rw [e]; rfl
theorem wAns_yes (f : List Nat → List Nat → List Nat) (L : Int) (rs us : List Nat) (h : alphB L (ints rs) = true) (h2 : wordB L (ints us) = true) : wAns f L (ints rs) (ints us) = (ints (f rs us), 0) := by
  have e : wCode L (ints rs) (ints us) = 0 := by unfold wCode; rw [if_pos h, if_pos h2]
  unfold wAns; rw [if_pos e, ints_toNat, ints_toNat]
theorem wAns_small (f : List Nat → List Nat → List Nat) (b : Nat) (hf : ∀ rs us, rs.length ≤ 8 → us.length ≤ 24 → (f rs us).length ≤ b) (L : Int) (xs us : List Int) : (wAns f L xs us).1.length ≤ b := by
  unfold wAns
  split
  · rename_i h
    unfold wCode at h
    split at h
    · rename_i ha
      split at h
      · rename_i hw
        show (ints _).length ≤ b
        rw [ints_len]
        refine hf _ _ ?_ ?_
        · rw [List.length_map]
          unfold alphB at ha
          rw [Bool.and_eq_true, decide_eq_true_eq] at ha
          omega
        · rw [List.length_map]
          unfold wordB at hw
          rw [Bool.and_eq_true, decide_eq_true_eq] at hw
          exact hw.1
      · omega
    · omega
  · exact Nat.zero_le _
theorem wCode_no (L : Int) (xs us : List Int) (h : alphB L xs = false) : wCode L xs us = 1 := by unfold wCode; rw [if_neg (by rw [h]; decide)]
theorem wCode_bad (L : Int) (xs us : List Int) (h : alphB L xs = true) (h2 : wordB L us = false) : wCode L xs us = 2 := by unfold wCode; rw [if_pos h, if_neg (by rw [h2]; decide)]
theorem wCode_yes (L : Int) (xs us : List Int) (h : alphB L xs = true) (h2 : wordB L us = true) : wCode L xs us = 0 := by unfold wCode; rw [if_pos h, if_pos h2]
theorem okT_one (L : Int) (A : Option Addr) (n c : Nat) (xs : List Int) : okT L [(A, n, c, xs)] = wordB L xs := by unfold okT; simp
theorem okT_two (L : Int) (A B : Option Addr) (n c m d : Nat) (xs ys : List Int) : okT L [(A, n, c, xs), (B, m, d, ys)] = (wordB L xs && wordB L ys) := by unfold okT; simp
set_option maxHeartbeats 1600000 in
theorem implIsWord (L : Int) (A : Option Addr) (n c : Nat) (xs : List Int) (A1 : Option Addr) (m d : Nat) (us : List Int) (w : World) (h : Rd w A n xs) (hwf : Wf xs) (hL1 : -9223372036854775808 ≤ L) (hL2 : L ≤ 9223372036854775807) (hn : n ≤ maxLen) (h2 : Rd w A1 m us) (hwf2 : Wf us) (hm : m ≤ maxLen) (hT : Tab w) :
    Calls Tryd.prog 90 #[.agg #[.int .i64 L, .slice A n c], .slice A1 m d] w fun e w' => e = .returned (.bool (isWordAns L xs us)) ∧ Below w.heap.size w w' := by
  have hn2 : n ≤ 9223372036854775807 := by unfold maxLen at hn; omega
  have hn1 := h.1
  have HB := Lib.hid (below2 w (.cells #[.int .i64 L, .slice A n c] 29) (.cells #[.slice A1 m d] 22))
  have hh := h.below HB.out
  have ht := rdT_box w (.cells #[.int .i64 L, .slice A n c] 29) A1 m d us 22 h2 hm
  have hT1 := hT.below HB.out
  cases ha : alphB L xs
  · have HA := Lib.hid ha
    have HC : Hid (isWordAns L xs us = false) := Lib.hid (by unfold isWordAns; rw [wCode_no _ _ _ ha]; rfl)
    clear ha ht hn1
    go_enter Tryd.func90, Tryd.ntmps90
    go_wp2_with fail
    refine (dependenceWith_no L _ _ _ _ _ _ xs [] _ hh hwf hL1 hL2 hn2 HA.out hT1).mono ?_
    rintro e w1 ⟨rfl, hb⟩
    go_wp2_with fail
    go_ret
    exact ⟨ret_b _ _ HC.out.symm, HB.out.trans (hb.mono HB.out.size)⟩
  · have HANS : Hid (isWordAns L xs us = wordB L us) := Lib.hid (by
      unfold isWordAns
      cases hu : wordB L us
      · rw [wCode_bad _ _ _ ha hu]; rfl
      · rw [wCode_yes _ _ _ ha hu]; rfl)
    obtain ⟨rs, rfl, rfl, h8, hr, hrel, hl, hd, _⟩ := alphB_nats L xs n hn1 ha
    clear ha
    go_enter Tryd.func90, Tryd.ntmps90
    go_wp2_with fail
    refine (dependenceWith_any _ _ _ _ _ _ rs _ _ hh hwf h8 hr hrel hd ht (by omega) hT1).mono ?_
    rw [okT_one, ← HANS.out]
    rintro e w1 (⟨hok, A2, c2, rfl, ho, hb⟩ | ⟨hok, rfl, hb⟩)
    · go_wp2_with fail
      go_ret
      exact ⟨ret_b _ _ hok.symm, HB.out.trans (hb.mono HB.out.size)⟩
    · go_wp2_with fail
      go_ret
      exact ⟨ret_b _ _ hok.symm, HB.out.trans (hb.mono HB.out.size)⟩
/-- How often each of n letters occurs. -/
def contM (n : Nat) (us : List Nat) : List Nat := (List.range n).map fun a => us.count a
theorem contM_len (n : Nat) (us : List Nat) : (contM n us).length = n := by simp [contM]
theorem contM_at (n : Nat) (us : List Nat) (a : Nat) (h : a < n) : (contM n us).getD a 0 = us.count a := getD_range_map _ _ _ h
theorem contM_le (n : Nat) (us : List Nat) (a : Nat) (h : us.length ≤ 24) : (contM n us).getD a 0 ≤ 24 := by
  rcases Nat.lt_or_ge a n with h1 | h1
  · rw [contM_at n us a h1]; exact Nat.le_trans List.count_le_length h
  · rw [getD_past _ n a (contM_len n us) h1]; omega
theorem contM_snoc (n : Nat) (us : List Nat) (a : Nat) (h : a < n) : contM n (us ++ [a]) = (contM n us).set a ((contM n us).getD a 0 + 1) := by
  refine list_eq_getD _ _ n (contM_len _ _) (by rw [List.length_set, contM_len]) fun i hi => ?_
  rw [contM_at _ _ _ hi, getD_set _ _ _ _ (by rw [contM_len]; exact h), List.count_append, List.count_singleton]
  by_cases e : i = a
  · subst e; rw [if_pos rfl, contM_at _ _ _ h]; simp
  · rw [if_neg e, contM_at _ _ _ hi]; simp; exact fun h => e h.symm
theorem contM_nil (n : Nat) : contM n [] = List.replicate n 0 := by
  refine list_eq_getD _ _ n (contM_len _ _) List.length_replicate fun i hi => ?_
  rw [contM_at _ _ _ hi, replicate_getD]; rfl
def contAns (L : Int) (xs us : List Int) : List Int × Int := wAns (fun rs us => contM rs.length us) L xs us
theorem contAns_small (L : Int) (xs us : List Int) : (contAns L xs us).1.length ≤ 8 := wAns_small _ 8 (fun rs us h _ => by rw [contM_len]; exact h) L xs us
theorem take_snoc (us : List Nat) (k u : Nat) (h : us[k]? = some u) : us.take (k + 1) = us.take k ++ [u] := by rw [List.take_add_one, h]; rfl
theorem ints_at? (us : List Nat) (k : Nat) (x : Int) (h : (ints us)[k]? = some x) : ∃ u, us[k]? = some u ∧ x = (u : Int) := by
  unfold ints at h
  rw [List.getElem?_map] at h
  cases e : us[k]? with
  | none => rw [e] at h; cases h
  | some u => rw [e] at h; injection h with h; exact ⟨u, rfl, h.symm⟩
end Go.Proofs.YtdafdffmkjhhcaaDoor
namespace Go.Proofs.YtdafdffmkjhhcaaDoor
open Go.RowKit
set_option linter.unusedVariables false
set_option maxRecDepth 100000

/-- The height of a letter behind the first k letters of a word with these heights. -/
def hNext (rs us hs : List Nat) (a : Nat) : Nat → Nat
  | 0 => 1
  | k + 1 => if ((rs.getD (us.getD k 0) 0).testBit a && decide (hNext rs us hs a k < hs.getD k 0 + 1)) = true then hs.getD k 0 + 1 else hNext rs us hs a k
theorem hNext_pos (rs us hs : List Nat) (a k : Nat) : 1 ≤ hNext rs us hs a k := by
  induction k with
  | zero => exact Nat.le_refl _
  | succ k ih => unfold hNext; split <;> omega
theorem hNext_ge (rs us hs : List Nat) (a k j : Nat) (hj : j < k) (hd : (rs.getD (us.getD j 0) 0).testBit a = true) : hs.getD j 0 + 1 ≤ hNext rs us hs a k := by
  induction k with
  | zero => omega
  | succ k ih =>
    unfold hNext
    by_cases e : j = k
    · subst e
      rw [hd, Bool.true_and]
      by_cases h : hNext rs us hs a j < hs.getD j 0 + 1
      · rw [decide_eq_true h]; simp
      · rw [decide_eq_false h, if_neg (by decide)]; omega
    · have := ih (by omega)
      split
      · rename_i h
        rw [Bool.and_eq_true, decide_eq_true_eq] at h
        omega
      · exact this
theorem hNext_or (rs us hs : List Nat) (a k : Nat) : hNext rs us hs a k = 1 ∨ ∃ j, j < k ∧ (rs.getD (us.getD j 0) 0).testBit a = true ∧ hNext rs us hs a k = hs.getD j 0 + 1 := by
  induction k with
  | zero => exact .inl rfl
  | succ k ih =>
    unfold hNext
    split
    · rename_i h
      rw [Bool.and_eq_true] at h
      exact .inr ⟨k, by omega, h.1, rfl⟩
    · rcases ih with h | ⟨j, hj, hd, h⟩
      · exact .inl h
      · exact .inr ⟨j, by omega, hd, h⟩
theorem hNext_congr (rs us hs hs' : List Nat) (a k : Nat) (h : ∀ j, j < k → hs.getD j 0 = hs'.getD j 0) : hNext rs us hs a k = hNext rs us hs' a k := by
  induction k with
  | zero => rfl
  | succ k ih =>
    unfold hNext
    rw [ih (fun j hj => h j (by omega)), h k (by omega)]
/-- The heights of the first letters of a word. -/
def hgts (rs us : List Nat) : Nat → List Nat
  | 0 => []
  | i + 1 => hgts rs us i ++ [hNext rs us (hgts rs us i) (us.getD i 0) i]
theorem hgts_len (rs us : List Nat) (i : Nat) : (hgts rs us i).length = i := by
  induction i with
  | zero => rfl
  | succ i ih => unfold hgts; rw [List.length_append, ih]; rfl
def hgt (rs us : List Nat) (k : Nat) : Nat := (hgts rs us (k + 1)).getD k 0
theorem hgts_get (rs us : List Nat) (i k : Nat) (h : k < i) : (hgts rs us i).getD k 0 = hgt rs us k := by
  induction i with
  | zero => omega
  | succ i ih =>
    by_cases e : k = i
    · subst e; rfl
    · rw [← ih (by omega)]
      show (hgts rs us i ++ _).getD k 0 = _
      rw [List.getD_eq_getElem?_getD, List.getElem?_append_left (by rw [hgts_len]; omega), List.getD_eq_getElem?_getD]
theorem hgt_is (rs us : List Nat) (i : Nat) : hgt rs us i = hNext rs us (hgts rs us i) (us.getD i 0) i := by
  unfold hgt
  show (hgts rs us i ++ _).getD i 0 = _
  rw [List.getD_eq_getElem?_getD, List.getElem?_append_right (by rw [hgts_len]; omega), hgts_len, Nat.sub_self]; rfl
theorem hgt_pos (rs us : List Nat) (i : Nat) : 1 ≤ hgt rs us i := by rw [hgt_is]; exact hNext_pos _ _ _ _ _
theorem hgt_ge (rs us : List Nat) (i j : Nat) (hj : j < i) (hd : (rs.getD (us.getD j 0) 0).testBit (us.getD i 0) = true) : hgt rs us j + 1 ≤ hgt rs us i := by
  rw [hgt_is rs us i]
  have := hNext_ge rs us (hgts rs us i) (us.getD i 0) i j hj hd
  rw [hgts_get rs us i j hj] at this; exact this
theorem hgt_or (rs us : List Nat) (i : Nat) : hgt rs us i = 1 ∨ ∃ j, j < i ∧ (rs.getD (us.getD j 0) 0).testBit (us.getD i 0) = true ∧ hgt rs us i = hgt rs us j + 1 := by
  rw [hgt_is rs us i]
  rcases hNext_or rs us (hgts rs us i) (us.getD i 0) i with h | ⟨j, hj, hd, h⟩
  · exact .inl h
  · rw [hgts_get rs us i j hj] at h
    exact .inr ⟨j, hj, hd, h⟩
theorem hgt_le (rs us : List Nat) (i : Nat) : hgt rs us i ≤ i + 1 := by
  induction i using Nat.strongRecOn with
  | ind i ih =>
    rcases hgt_or rs us i with h | ⟨j, hj, _, h⟩
    · omega
    · have := ih j hj; omega

def padTo (out : List Nat) (h : Nat) : List Nat := out ++ List.replicate (h - out.length) 0
theorem padTo_len (out : List Nat) (h : Nat) : (padTo out h).length = max out.length h := by unfold padTo; rw [List.length_append, List.length_replicate]; omega
theorem padTo_same (out : List Nat) (h : Nat) (hl : h ≤ out.length) : padTo out h = out := by unfold padTo; rw [Nat.sub_eq_zero_of_le hl]; simp
theorem padTo_next (out : List Nat) (h : Nat) (hl : out.length < h) : padTo out h = padTo (out ++ [0]) h := by
  unfold padTo
  rw [List.length_append, List.append_assoc]
  have e : h - out.length = (h - (out.length + [0].length)) + 1 := by simp; omega
  rw [e, List.replicate_succ]; rfl
theorem padTo_lt (out : List Nat) (h n : Nat) (ho : ∀ i, out.getD i 0 < 2 ^ n) (i : Nat) : (padTo out h).getD i 0 < 2 ^ n := by
  unfold padTo
  rw [List.getD_eq_getElem?_getD, List.getElem?_append]
  split
  · rw [← List.getD_eq_getElem?_getD]; exact ho i
  · rw [List.getElem?_replicate]
    split <;> exact p2_pos n
def foPut (out : List Nat) (h a : Nat) : List Nat := (padTo out h).set (h - 1) ((padTo out h).getD (h - 1) 0 ||| 2 ^ a)
theorem foPut_len (out : List Nat) (h a : Nat) : (foPut out h a).length = max out.length h := by unfold foPut; rw [List.length_set, padTo_len]
/-- The steps of the first i letters of a word. -/
def foTo (rs us : List Nat) : Nat → List Nat
  | 0 => []
  | i + 1 => foPut (foTo rs us i) (hgt rs us i) (us.getD i 0)
def foM (rs us : List Nat) : List Nat := foTo rs us us.length
theorem foTo_len (rs us : List Nat) (i : Nat) : (foTo rs us i).length ≤ i := by
  induction i with
  | zero => exact Nat.le_refl _
  | succ i ih =>
    show (foPut _ _ _).length ≤ _
    rw [foPut_len]
    have := hgt_le rs us i
    omega
theorem foTo_ge (rs us : List Nat) (i k : Nat) (h : k < i) : hgt rs us k ≤ (foTo rs us i).length := by
  induction i with
  | zero => omega
  | succ i ih =>
    show _ ≤ (foPut _ _ _).length
    rw [foPut_len]
    by_cases e : k = i
    · subst e; omega
    · have := ih (by omega); omega
theorem hgt_one (rs us : List Nat) (i : Nat) : hgt rs us i ≤ (foTo rs us i).length + 1 := by
  rcases hgt_or rs us i with h | ⟨j, hj, _, h⟩
  · omega
  · have := foTo_ge rs us i j hj; omega
theorem foTo_lt (rs us : List Nat) (n : Nat) (hu : ∀ u, u ∈ us → u < n) (i : Nat) (hi : i ≤ us.length) (k : Nat) : (foTo rs us i).getD k 0 < 2 ^ n := by
  induction i generalizing k with
  | zero => show ([] : List Nat).getD k 0 < _; rw [List.getD_nil]; exact p2_pos n
  | succ i ih =>
    show (foPut _ _ _).getD k 0 < _
    have hp := padTo_lt (foTo rs us i) (hgt rs us i) n (fun k => ih (by omega) k)
    unfold foPut
    by_cases e : k = hgt rs us i - 1
    · rw [e, getD_set _ _ _ _ (by rw [padTo_len]; have := hgt_pos rs us i; omega), if_pos rfl]
      refine Nat.or_lt_two_pow (hp _) (Nat.pow_lt_pow_right (by decide) ?_)
      rw [List.getD_eq_getElem?_getD, List.getElem?_eq_getElem (by omega)]
      exact hu _ (List.getElem_mem _)
    · rw [getD_set _ _ _ _ (by rw [padTo_len]; have := hgt_pos rs us i; omega), if_neg e]; exact hp k
theorem foM_len (rs us : List Nat) : (foM rs us).length ≤ us.length := foTo_len rs us us.length

/-- What the program's list of heights, one a letter, holds behind i letters. -/
def HInv (rs us : List Nat) (n i : Nat) (hb : List Nat) : Prop :=
  hb.length = n ∧ (∀ b, b < n → hb.getD b 0 = 0 ∨ ∃ k, k < i ∧ us.getD k 0 = b ∧ hb.getD b 0 = hgt rs us k) ∧ ∀ k, k < i → hgt rs us k ≤ hb.getD (us.getD k 0) 0
theorem hinv_zero (rs us : List Nat) (n : Nat) : HInv rs us n 0 (List.replicate n 0) := ⟨List.length_replicate, fun b _ => .inl (replicate_getD n b), fun k hk => absurd hk (Nat.not_lt_zero _)⟩
theorem hinv_le {rs us : List Nat} {n i : Nat} {hb : List Nat} (h : HInv rs us n i hb) (b : Nat) (hb' : b < n) : hb.getD b 0 ≤ (foTo rs us i).length := by
  rcases h.2.1 b hb' with h1 | ⟨k, hk, _, h1⟩
  · omega
  · rw [h1]; exact foTo_ge rs us i k hk
/-- The greatest height of the letters of a list. -/
def mxTo (hb ms : List Nat) : Nat → Nat
  | 0 => 0
  | t + 1 => max (mxTo hb ms t) (hb.getD (ms.getD t 0) 0)
theorem mxTo_ge (hb ms : List Nat) (t j : Nat) (h : j < t) : hb.getD (ms.getD j 0) 0 ≤ mxTo hb ms t := by
  induction t with
  | zero => omega
  | succ t ih =>
    unfold mxTo
    by_cases e : j = t
    · subst e; omega
    · have := ih (by omega); omega
theorem mxTo_or (hb ms : List Nat) (t : Nat) : mxTo hb ms t = 0 ∨ ∃ j, j < t ∧ mxTo hb ms t = hb.getD (ms.getD j 0) 0 := by
  induction t with
  | zero => exact .inl rfl
  | succ t ih =>
    unfold mxTo
    rcases Nat.le_total (mxTo hb ms t) (hb.getD (ms.getD t 0) 0) with h | h
    · exact .inr ⟨t, by omega, by omega⟩
    · rcases ih with h1 | ⟨j, hj, h1⟩
      · exact .inl (by omega)
      · exact .inr ⟨j, by omega, by omega⟩
theorem getD_mem (ms : List Nat) (j : Nat) (h : j < ms.length) : ms.getD j 0 ∈ ms := by
  rw [List.getD_eq_getElem?_getD, List.getElem?_eq_getElem h]; exact List.getElem_mem _
theorem mem_getD (ms : List Nat) (b : Nat) (h : b ∈ ms) : ∃ j, j < ms.length ∧ ms.getD j 0 = b := by
  obtain ⟨j, hj, e⟩ := List.getElem_of_mem h
  exact ⟨j, hj, by rw [List.getD_eq_getElem?_getD, List.getElem?_eq_getElem hj, e]; rfl⟩
theorem hgt_mx (rs us hb : List Nat) (n i : Nat) (hn : rs.length = n) (h24 : n ≤ 24) (hr : ∀ i, rs.getD i 0 < 2 ^ n) (hd : Dep rs) (hu : ∀ u, u ∈ us → u < n) (hi : i < us.length) (h : HInv rs us n i hb) :
    hgt rs us i = mxTo hb (bitsOf (rs.getD (us.getD i 0) 0)) (bitsOf (rs.getD (us.getD i 0) 0)).length + 1 := by
  have ha := hu _ (getD_mem us i hi)
  obtain ⟨a, hae⟩ : ∃ a, a = us.getD i 0 := ⟨_, rfl⟩
  rw [← hae] at ha ⊢
  have hmem : ∀ b, b ∈ bitsOf (rs.getD a 0) ↔ (rs.getD a 0).testBit b = true := fun b => by
    rw [bitsOf_mem]
    exact ⟨fun h => h.2, fun h => ⟨Nat.lt_of_lt_of_le (bit_lt (hr a) h) h24, h⟩⟩
  have hus : ∀ k, k < i → us.getD k 0 < n := fun k hk => hu _ (getD_mem us k (by omega))
  apply Nat.le_antisymm
  · rcases hgt_or rs us i with h1 | ⟨j, hj, hdj, h1⟩
    · omega
    · rw [← hae] at hdj
      have h2 : (rs.getD a 0).testBit (us.getD j 0) = true := ((hd.2 a (us.getD j 0) (by omega) (by rw [hn]; exact hus j hj)).2 hdj)
      obtain ⟨t, ht, he⟩ := mem_getD _ _ ((hmem _).2 h2)
      have h3 := mxTo_ge hb (bitsOf (rs.getD a 0)) _ t ht
      rw [he] at h3
      have h4 := h.2.2 j hj
      omega
  · rcases mxTo_or hb (bitsOf (rs.getD a 0)) (bitsOf (rs.getD a 0)).length with h1 | ⟨t, ht, h1⟩
    · rw [h1]; exact hgt_pos rs us i
    · have hm := (hmem _).1 (getD_mem _ t ht)
      have hbn := bit_lt (hr a) hm
      rcases h.2.1 _ hbn with h2 | ⟨k, hk, hke, h2⟩
      · rw [h1, h2]; exact hgt_pos rs us i
      · rw [h1, h2]
        refine hgt_ge rs us i k hk ?_
        rw [← hae, hke]
        exact (hd.2 a _ (by omega) (by rw [hn]; exact hbn)).1 hm
theorem hinv_next {rs us hb : List Nat} {n i : Nat} (hn : rs.length = n) (hd : Dep rs) (hu : ∀ u, u ∈ us → u < n) (hi : i < us.length) (h : HInv rs us n i hb) : HInv rs us n (i + 1) (hb.set (us.getD i 0) (hgt rs us i)) := by
  have ha := hu _ (getD_mem us i hi)
  refine ⟨by rw [List.length_set]; exact h.1, fun b hbn => ?_, fun k hk => ?_⟩
  · rw [getD_set _ _ _ _ (by rw [h.1]; exact ha)]
    by_cases e : b = us.getD i 0
    · rw [if_pos e]; exact .inr ⟨i, by omega, e.symm, rfl⟩
    · rw [if_neg e]
      rcases h.2.1 b hbn with h1 | ⟨k, hk, h1⟩
      · exact .inl h1
      · exact .inr ⟨k, by omega, h1⟩
  · rw [getD_set _ _ _ _ (by rw [h.1]; exact ha)]
    by_cases e : us.getD k 0 = us.getD i 0
    · rw [if_pos e]
      by_cases e2 : k = i
      · subst e2; exact Nat.le_refl _
      · have := hgt_ge rs us i k (by omega) (by rw [e]; exact hd.1 _ (by omega))
        omega
    · rw [if_neg e]
      have e2 : k ≠ i := fun e2 => e (by rw [e2])
      exact h.2.2 k (by omega)
end Go.Proofs.YtdafdffmkjhhcaaDoor
namespace Go.Proofs.YtdafdffmkjhhcaaDoor
open Go.RowKit
set_option linter.unusedVariables false
set_option maxRecDepth 100000

/-- The answer: whether, and the code. -/
def areAns (L : Int) (xs : List Int) (a b : Int) : Bool × Int :=
  if alphB L xs = true then (if 0 ≤ a ∧ a < L ∧ 0 ≤ b ∧ b < L then (((xs.map Int.toNat).getD a.toNat 0).testBit b.toNat, 0) else (false, 2)) else (false, 1)
theorem areAns_no (L : Int) (xs : List Int) (a b : Int) (h : alphB L xs = false) : areAns L xs a b = (false, 1) := by unfold areAns; rw [if_neg (by rw [h]; decide)]
theorem areAns_out (L : Int) (xs : List Int) (a b : Int) (h : alphB L xs = true) (hab : ¬ (0 ≤ a ∧ a < L ∧ 0 ≤ b ∧ b < L)) : areAns L xs a b = (false, 2) := by unfold areAns; rw [if_pos h, if_neg hab]
theorem areAns_in (n : Nat) (rs : List Nat) (a b : Nat) (h : alphB (n : Int) (ints rs) = true) (ha : a < n) (hb : b < n) : areAns (n : Int) (ints rs) (a : Int) (b : Int) = ((rs.getD a 0).testBit b, 0) := by
  unfold areAns; rw [if_pos h, if_pos (by omega), ints_toNat]; rfl
theorem dep_any (L : Int) (A : Option Addr) (n c a b : Nat) (rs : List Nat) (w : World) (h : Rd w A n (ints rs)) (hn : n ≤ 24) (hr : ∀ i, rs.getD i 0 < 2 ^ n) (ha : a < n) (hb : b < n) :
    Calls Tryd.prog 103 #[.agg #[.int .i64 L, .slice A n c], .int .i64 (a : Int), .int .i64 (b : Int)] w fun e w' => e = .returned (.bool ((rs.getD a 0).testBit b)) ∧ Below w.heap.size w w' := by
  have HB := Lib.hid (below1 w (.cells #[.int .i64 L, .slice A n c] 29))
  have hh := h.below HB.out
  obtain ⟨bb, off, x, rfl, hbs, hx, hcx⟩ := hh.at_ ha
  have hlen : rs.length = n := by have := h.1; rw [ints_len] at this; exact this
  have hx2 := ints_getD rs a (by omega)
  rw [hx2] at hx
  injection hx with hx
  subst hx
  have hm := lt63 hn (hr a)
  have hb62 : b ≤ 62 := by omega
  obtain ⟨D, hD⟩ : ∃ D, D = rs.getD a 0 := ⟨_, rfl⟩
  rw [← hD] at hcx hm ⊢
  clear hx2 hD hlen
  go_enter Tryd.func103, Tryd.ntmps103
  go_wp2_with fail
  refine (bit_any D b hm hb62 _).mono ?_
  rintro e w' ⟨rfl, rfl⟩
  go_wp2_with fail
  go_ret
  exact ⟨rfl, HB.out⟩
end Go.Proofs.YtdafdffmkjhhcaaDoor
namespace Go.Proofs.YtdafdffmkjhhcaaDoor
open Go.RowKit
set_option linter.unusedVariables false
set_option linter.unusedSimpArgs false
set_option maxRecDepth 100000

theorem wrap_next (X : Nat) (h : X ≤ 1048576) : IntKind.i64.wrap ((X : Int) + 1) = (X : Int) + 1 := by rw [IntKind.wrap_i64]; omega
end Go.Proofs.YtdafdffmkjhhcaaDoor
namespace Go.Proofs.YtdafdffmkjhhcaaDoor
open Go.RowKit
set_option linter.unusedVariables false
set_option linter.unusedSimpArgs false
set_option maxRecDepth 100000

theorem Rd.far2 {w w' : World} {A : Option Addr} {n : Nat} {xs : List Int} (h : Rd w A n xs) {row : Option Nat} (hg : w.grownBy w' row) (hne : ∀ b, 0 < n → A.map (·.block) = some b → row ≠ some b) : Rd w' A n xs :=
  ⟨h.1, fun hn => by
    obtain ⟨b, off, e, hb, hc⟩ := h.2 hn
    refine ⟨b, off, e, Nat.lt_of_lt_of_le hb hg.size, fun j x hx => ?_⟩
    have h1 := hg.block b hb (fun e2 => hne b hn (by rw [e]; rfl) e2.symm)
    rw [← hc j x hx]
    unfold World.cell?
    rw [h1]⟩
def lenOf : Value → Nat
  | .slice _ n _ => n
  | _ => 0
end Go.Proofs.YtdafdffmkjhhcaaDoor
namespace Go.Proofs.YtdafdffmkjhhcaaDoor
open Go.RowKit
set_option linter.unusedVariables false
set_option linter.unusedSimpArgs false
set_option maxRecDepth 100000

def cmpI (x y : Int) : Int := if x < y then -1 else if y < x then 1 else 0
theorem cmpI_neg (x y : Int) : cmpI x y < 0 ↔ x < y := by unfold cmpI; split <;> (try split) <;> omega
theorem isNaN_any (x : Int) (w : World) : Calls Tryd.prog 152 #[.int .i64 x] w fun e w' => e = .returned (.bool false) ∧ w = w' := by
  go_enter Tryd.func152, Tryd.ntmps152
  go_wp2
  go_ret
  exact ⟨ret_b _ _ (by simp), rfl⟩
theorem compare_any (x y : Int) (w : World) : Calls Tryd.prog 115 #[.int .i64 x, .int .i64 y] w fun e w' => e = .returned (.int .i64 (cmpI x y)) ∧ w = w' := by
  by_cases h1 : x < y
  · have hc : Hid (cmpI x y = -1) := Lib.hid (by unfold cmpI; rw [if_pos h1])
    go_enter Tryd.func115, Tryd.ntmps115
    go_wp2_with fail
    refine (isNaN_any _ _).mono ?_
    rintro e w' ⟨rfl, rfl⟩
    go_wp2_with fail
    refine (isNaN_any _ _).mono ?_
    rintro e w' ⟨rfl, rfl⟩
    go_wp2_with fail
    go_ret
    exact ⟨ret_i _ _ hc.out.symm, rfl⟩
  · by_cases h2 : y < x
    · have hc : Hid (cmpI x y = 1) := Lib.hid (by unfold cmpI; rw [if_neg h1, if_pos h2])
      go_enter Tryd.func115, Tryd.ntmps115
      go_wp2_with fail
      refine (isNaN_any _ _).mono ?_
      rintro e w' ⟨rfl, rfl⟩
      go_wp2_with fail
      refine (isNaN_any _ _).mono ?_
      rintro e w' ⟨rfl, rfl⟩
      go_wp2_with fail
      go_ret
      exact ⟨ret_i _ _ hc.out.symm, rfl⟩
    · have hc : Hid (cmpI x y = 0) := Lib.hid (by unfold cmpI; rw [if_neg h1, if_neg h2])
      go_enter Tryd.func115, Tryd.ntmps115
      go_wp2_with fail
      refine (isNaN_any _ _).mono ?_
      rintro e w' ⟨rfl, rfl⟩
      go_wp2_with fail
      refine (isNaN_any _ _).mono ?_
      rintro e w' ⟨rfl, rfl⟩
      go_wp2_with fail
      go_ret
      exact ⟨ret_i _ _ hc.out.symm, rfl⟩
theorem traceCmp_any (bw m d i k : Nat) (A : Option Addr) (us : List Nat) (w : World) (hc : w.cell? ⟨bw, 0, none⟩ = some (.slice A m d)) (h : Rd w A m (ints us)) (hi : i < m) (hk : k < m) :
    Calls Tryd.prog 114 (#[.int .i64 (i : Int), .int .i64 (k : Int)] ++ #[.pointer (some ⟨bw, 0, none⟩)]) w fun e w' => e = .returned (.int .i64 (cmpI ((us.getD i 0 : Nat) : Int) ((us.getD k 0 : Nat) : Int))) ∧ ∃ q, w' = w.drewN q := by
  have hlen : us.length = m := by have := h.1; rw [ints_len] at this; exact this
  obtain ⟨b, off, x, e1, hbs, hx, hcx⟩ := h.at_ hi
  obtain ⟨b2, off2, y, e2, hbs2, hy, hcy⟩ := h.at_ hk
  subst e1
  cases e2
  rw [ints_getD us i (by omega)] at hx
  rw [ints_getD us k (by omega)] at hy
  injection hx with hx
  injection hy with hy
  subst hx hy
  obtain ⟨X, hX⟩ : ∃ X, X = us.getD i 0 := ⟨_, rfl⟩
  obtain ⟨Y, hY⟩ : ∃ Y, Y = us.getD k 0 := ⟨_, rfl⟩
  rw [← hX] at hcx ⊢
  rw [← hY] at hcy ⊢
  have mixed : Tryd.prog.follows .mixedOrders = true := by kernel_rfl
  clear hX hY h hlen
  show Calls _ _ #[.int .i64 (i : Int), .int .i64 (k : Int), .pointer (some ⟨bw, 0, none⟩)] w _
  go_enter Tryd.func114, Tryd.ntmps114
  go_wp2_with fail
  go_quiet_o (first | (go_at_call 115; refine Calls.quiet_of ((compare_any _ _ _).mono fun _ _ ⟨he, hw⟩ => ⟨he, 0, hw.symm⟩)))
  go_wp2_with fail
  go_ret
  exact ⟨rfl, _, rfl⟩
/-- The places' comparison is one that the stable sort may use. -/
theorem traceCmp_ok (bw g m d : Nat) (A : Option Addr) (us : List Nat) (w : World) (hc : w.cell? ⟨bw, 0, none⟩ = some (.slice A m d)) (h : Rd w A m (ints us)) (hg1 : bw ≠ g) (hg2 : ∀ b, 0 < m → A.map (·.block) = some b → some g ≠ some b) (hbw : bw < w.heap.size) :
    CmpOk w g m (fun p => us.getD p 0) (fun i k => cmpI ((us.getD i 0 : Nat) : Int) ((us.getD k 0 : Nat) : Int)) 114 #[.pointer (some ⟨bw, 0, none⟩)] := by
  refine ⟨fun x y => ?_, fun x y wx hx hy hg => ?_⟩
  · rw [cmpI_neg]; show _ ↔ us.getD x 0 < us.getD y 0; omega
  · refine traceCmp_any bw m d x y A us wx ?_ (h.far2 hg hg2) hx hy
    have h1 := hg.block bw hbw (fun e => hg1 (by injection e))
    rw [← hc]
    unfold World.cell?
    rw [h1]
end Go.Proofs.YtdafdffmkjhhcaaDoor
namespace Go.Proofs.YtdafdffmkjhhcaaDoor
open Go Go.RowKit
set_option linter.unusedVariables false
set_option maxRecDepth 100000

theorem find_at {α : Type} (p : α → Bool) (xs : List α) (k : Nat) (x : α) (hx : xs[k]? = some x) (hp : p x = true) (hb : ∀ j y, j < k → xs[j]? = some y → p y = false) : xs.find? p = some x := by
  obtain ⟨hk, e⟩ := List.getElem?_eq_some_iff.1 hx
  rw [List.find?_eq_some_iff_getElem]
  refine ⟨hp, k, hk, e, fun j hj => ?_⟩
  rw [hb j _ hj (List.getElem?_eq_getElem (by omega))]; rfl
theorem find_no {α : Type} (p : α → Bool) (xs : List α) (hb : ∀ (j : Nat) y, j < xs.length → xs[j]? = some y → p y = false) : xs.find? p = none := by
  rw [List.find?_eq_none]
  intro y hy
  obtain ⟨j, hj, e⟩ := List.getElem_of_mem hy
  rw [hb j y hj (by rw [List.getElem?_eq_getElem hj, e])]; decide
def firstEnc (x : Nat × Nat) : Array Value := #[.int .i64 (x.1 : Int), .int .i64 (x.2 : Int)]
set_option maxHeartbeats 800000 in
theorem firsts1_first (bl bt left m c d e : Nat) (A B : Option Addr) (ls bs : List Nat) (w : World) (hcl : w.cell? ⟨bl, 0, none⟩ = some (.int .i64 (left : Int))) (hct0 : w.cell? ⟨bt, 0, none⟩ = some (.slice A m c)) (hct1 : w.cell? ⟨bt, 1, none⟩ = some (.slice B m d))
    (hA : Rd w A m (ints ls)) (hB : Rd w B m (ints bs)) (hm : m ≤ 24) (hleft : left < 2 ^ m) (hbs : ∀ i, bs.getD i 0 < 2 ^ m) (hT : Tab w) (hpick : pickB (fun e => bs.getD e 0) left = some e) :
    FirstSeq Tryd.prog 176 #[.pointer (some ⟨bl, 0, none⟩), .pointer (some ⟨bt, 0, none⟩)] firstEnc (fun x _ _ => x = (ls.getD e 0, dif left (2 ^ e))) (fun _ => 0) w := by
  intro l J W hW hJ hY
  have h24 : (2:Nat) ^ m ≤ 2 ^ 24 := Nat.pow_le_pow_right (by decide) hm
  have hl63 : left < 16777216 := by omega
  have hlenA : ls.length = m := by have := hA.1; rw [ints_len] at this; exact this
  have hlenB : bs.length = m := by have := hB.1; rw [ints_len] at this; exact this
  have hcl2 : W.cell? ⟨bl, 0, none⟩ = some (.int .i64 (left : Int)) := (hW.cell (block_lt_of_cell hcl)).trans hcl
  have hc02 : W.cell? ⟨bt, 0, none⟩ = some (.slice A m c) := (hW.cell (block_lt_of_cell hct0)).trans hct0
  have hc12 : W.cell? ⟨bt, 1, none⟩ = some (.slice B m d) := (hW.cell (block_lt_of_cell hct0)).trans hct1
  have hA2 := hA.below hW
  have hB2 := hB.below hW
  have hT2 := hT.below hW
  have HMEM : Hid (∀ ww : World, Tab ww → Calls Tryd.prog 112 #[.int .i64 (left : Int)] ww (MakesE 2 ww (bitsOf left).length (ints (bitsOf left)))) := Lib.hid fun ww ht => members_any left hl63 ww ht
  have HMLT : Hid (∀ q, q < (bitsOf left).length → (bitsOf left).getD q 0 < m) := Lib.hid fun q hq => by
    have h1 : (bitsOf left).getD q 0 ∈ bitsOf left := by
      rw [List.getD_eq_getElem?_getD, List.getElem?_eq_getElem hq]; exact List.getElem_mem hq
    have h2 := (bitsOf_mem left _).1 h1
    exact bit_lt hleft h2.2
  have HPICK : Hid ((bitsOf left).find? (fun e => bs.getD e 0 &&& left == 0) = some e) := Lib.hid hpick
  have HHP : Hid (∀ q, q < 24 → (2:Nat) ^ q < 9223372036854775808) := Lib.hid fun q hq => Nat.lt_of_le_of_lt (Nat.pow_le_pow_right (by decide) (show q ≤ 24 by omega)) (by decide)
  have HLS := Lib.hid hlenA
  have HLB := Lib.hid hlenB
  have HBS : Hid (∀ i, bs.getD i 0 < 9223372036854775808) := Lib.hid fun i => by have := hbs i; omega
  have HY := Lib.hid hY
  have HJ := Lib.hid hJ
  have HL63 : Hid (left < 9223372036854775808) := Lib.hid (by omega)
  obtain ⟨ms, hms⟩ : ∃ ms, ms = bitsOf left := ⟨_, rfl⟩
  have hml := bitsOf_len left
  rw [← hms] at HMEM HMLT HPICK hml
  clear hms hpick hlenA hlenB hbs hY hJ hleft h24 hl63 hA hB hT hcl hct0 hct1 hW
  have mixed : Tryd.prog.follows .mixedOrders = true := by kernel_rfl
  show Calls _ _ #[.func (.yield l) #[] #[], .pointer (some ⟨bl, 0, none⟩), .pointer (some ⟨bt, 0, none⟩)] W _
  go_enter Tryd.func176, Tryd.ntmps176
  go_wp2_with fail
  refine (HMEM.out _ hT2).mono ?_
  rintro e9 w1 ⟨A3, c3, rfl, ho3, hb3⟩
  have hr3 := ho3.rd
  have hcl3 := (hb3.cell (block_lt_of_cell hcl2)).trans hcl2
  have hc03 := (hb3.cell (block_lt_of_cell hc02)).trans hc02
  have hc13 := (hb3.cell (block_lt_of_cell hc02)).trans hc12
  have hA3 := hA2.below hb3
  have hB3 := hB2.below hb3
  go_wp2_with fail
  go_loopw [9] (fun q wr => ∃ t a, t ≤ ms.length ∧ q = .int .i64 ((t : Nat) : Int) ∧ wr = w1.drewN a ∧ ∀ (j : Nat) y, j < t → ms[j]? = some y → (bs.getD y 0 &&& left == 0) = false) (fun q _ => ms.length - (intOf q).toNat)
  case atStart => exact ⟨0, 0, Nat.zero_le _, rfl, rfl, fun j y hj => absurd hj (by omega)⟩
  case round =>
    obtain ⟨t, a, ht, rfl, hwr, hbef⟩ := hrel
    have HWR := Lib.hid hwr
    have HBR : Hid (Below w1.heap.size w1 wr) := Lib.hid (by rw [hwr]; exact below_drewN (Below.refl _ _) a)
    have HBEF := Lib.hid hbef
    have HLE := Lib.hid ht
    clear hwr hbef
    have ncl := (HBR.out.cell (block_lt_of_cell hcl3)).trans hcl3
    have nct0 := (HBR.out.cell (block_lt_of_cell hc03)).trans hc03
    have nct1 := (HBR.out.cell (block_lt_of_cell hc03)).trans hc13
    have nA := hA3.below HBR.out
    have nB := hB3.below HBR.out
    have hr4 := hr3.below HBR.out
    by_cases hlt : t < ms.length
    · obtain ⟨bm, om, xm, em, hbm, hxm, hcm⟩ := hr4.at_ hlt
      rw [ints_getD ms t hlt] at hxm
      injection hxm with hxm
      have h9m := HMLT.out t hlt
      obtain ⟨b9, hb9⟩ : ∃ b9, b9 = ms.getD t 0 := ⟨_, rfl⟩
      rw [← hb9] at hxm h9m
      have HB9 := Lib.hid hb9
      subst hxm em
      obtain ⟨bv, ov, xv, ev, hbv, hxv, hcv⟩ := nB.at_ h9m
      obtain ⟨ba, oa, xa, ea, hba, hxa, hca⟩ := nA.at_ h9m
      rw [ints_getD bs b9 (by have := HLB.out; omega)] at hxv
      rw [ints_getD ls b9 (by have := HLS.out; omega)] at hxa
      injection hxv with hxv
      injection hxa with hxa
      obtain ⟨V, hV⟩ : ∃ V, V = bs.getD b9 0 := ⟨_, rfl⟩
      obtain ⟨Lt, hLt⟩ : ∃ Lt, Lt = ls.getD b9 0 := ⟨_, rfl⟩
      rw [← hV] at hxv
      rw [← hLt] at hxa
      have HVD := Lib.hid hV
      have HLT := Lib.hid hLt
      subst hxv hxa ev ea
      have hV63 : V < 9223372036854775808 := by have := HBS.out b9; rw [← HVD.out] at this; exact this
      have hl63 := HL63.out
      obtain ⟨Z, hZ⟩ : ∃ Z, Z = V &&& left := ⟨_, rfl⟩
      have hand : bits .and .i64 (V : Int) (left : Int) = (Z : Int) := by rw [hZ]; exact i64_and_nat V left hV63 hl63
      have HZ := Lib.hid hZ
      have HMT : Hid (ms[t]? = some b9) := Lib.hid (by rw [List.getElem?_eq_getElem hlt, HB9.out, List.getD_eq_getElem?_getD, List.getElem?_eq_getElem hlt]; rfl)
      have h0m : 0 < m := by omega
      have hb24 : b9 < 24 := by omega
      have hltm := hlt
      clear hZ hV hLt hb9 hV63 hl63 hA3 hB3 hr3 hA2 hB2
      have HHQ : Hid (IntKind.i64.wrap (2 ^ b9 : Int) = ((2 ^ b9 : Nat) : Int)) := Lib.hid ((IntWalk.i64_left _).trans (w64_p2 b9 (by omega)))
      by_cases hz0 : Z = 0
      · subst hz0
        have hz2 : (((0 : Nat) : Int) == 0) = true := rfl
        have he : e = b9 := by
          have := find_at (fun e => bs.getD e 0 &&& left == 0) ms t b9 HMT.out (by show (bs.getD b9 0 &&& left == 0) = true; rw [← HVD.out, ← HZ.out]; rfl) HBEF.out
          rw [HPICK.out] at this; injection this
        obtain ⟨P2, hP2⟩ : ∃ P2, P2 = 2 ^ b9 := ⟨_, rfl⟩
        have hP63 : P2 < 9223372036854775808 := by rw [hP2]; exact HHP.out b9 hb24
        have HPW : Hid (IntKind.i64.wrap (2 ^ b9 : Int) = (P2 : Int)) := Lib.hid (by rw [hP2]; exact HHQ.out)
        have HMI : Hid (∀ ww : World, Calls Tryd.prog 130 #[.int .i64 (left : Int), .int .i64 (P2 : Int)] ww fun e w'' => e = .returned (.int .i64 ((dif left P2 : Nat) : Int)) ∧ w'' = ww) := Lib.hid fun ww => (minus_nat left P2 HL63.out hP63 ww).mono fun _ _ h => ⟨h.1, h.2.symm⟩
        obtain ⟨fn, tmps, assign, body, hy, hR⟩ := HY.out (Lt, dif left P2) wr.drew (by rw [he, ← HLT.out, hP2]) ((hb3.trans (HBR.out.mono hb3.size)).drew)
        dsimp only [firstEnc] at hy
        have hR2 := Lib.hid hR
        clear hR hP2 hP63 he
        go_wp2_with fail
        refine wp_region_still_tail_in 19 (by kernel_rfl) (by kernel_rfl) ?_
        simp only [List.take_succ_cons, List.take_zero, List.drop_succ_cons, List.drop_zero]
        iterate 9 still_step
        iterate 8 ((with_reducible refine wpStill_want ?_ ?_); kernel_rfl; intro K hK; go_simp; refine hK _ ?_; clear hK K)
        (with_reducible refine wpStill_want ?_ ?_); kernel_rfl; intro K hK; go_simp; rw [HPW.out]; refine hK _ ?_; clear hK K
        (with_reducible refine wpStill_want ?_ ?_); kernel_rfl; intro K hK; go_simp
        refine ⟨_, HMI.out _, hK _ ?_⟩; clear hK K
        refine wpStill_nil ?_
        change wpListIn _ _ _ _ _ _ _ wr.drew
        (with_reducible refine wpListIn_want ?_ ?_); kernel_rfl; intro K hK; go_simp
        refine ⟨rfl, hR2.out.mono ?_⟩
        rintro e9 W3 ⟨rfl, hj, _⟩
        refine hK _ _ ?_
        clear hK K
        (with_reducible refine wpListIn_want ?_ ?_); kernel_rfl; intro K hK; go_simp
        refine hK _ _ ?_
        clear hK K
        (with_reducible refine wpListIn_want ?_ ?_); kernel_rfl; intro K hK; go_simp
        refine hK _ _ ?_
        clear hK K
        simp only [wpListIn]
        go_wp2_with fail
        refine bodyPost_ret (results_none rfl _ _ _) rfl ?_
        exact ⟨⟨_, rfl⟩, _, hj⟩
      · have hz2 : ((Z : Int) == 0) = false := by simp; omega
        go_wp2_with fail
        refine wp_region_still_lit (by kernel_rfl) (by kernel_rfl) ?_
        iterate 9 still_step
        iterate 12 ((with_reducible refine wpStill_skip ?_ ?_); kernel_rfl; simp only [Act.put, List.setIfInBounds_toArray, List.set_cons_zero, List.set_cons_succ])
        still_step
        refine wpStill_nil ?_
        go_wp2_with fail
        go_roundw
        case rel => exact ⟨t + 1, a + 1, hlt, by go_num, by rw [HWR.out]; rfl, fun j y hj hy => by
          by_cases hjt : j = t
          · subst hjt
            rw [HMT.out] at hy
            injection hy with hy
            subst hy
            rw [← HVD.out, ← HZ.out]
            simpa using hz0
          · exact HBEF.out j y (by omega) hy⟩
        case measure => simp [intOf]; omega
    · have hte : t = ms.length := by omega
      exfalso
      have h1 := HPICK.out
      rw [find_no _ ms (fun j y hj hy => HBEF.out j y (by omega) hy)] at h1
      cases h1
end Go.Proofs.YtdafdffmkjhhcaaDoor
namespace Go.Proofs.YtdafdffmkjhhcaaDoor
open Go.RowKit
set_option linter.unusedVariables false
set_option maxRecDepth 100000

set_option maxHeartbeats 400000 in
theorem clone64_any (A : Option Addr) (n c : Nat) (xs : List Int) (w : World) (h : Rd w A n xs) (hn : n ≤ 24) :
    Calls Tryd.prog 132 #[.slice A n c] w (MakesE 2 w n xs) := by
  have hnil := fun wx => Lib.run_eql_slice_nil (P := Tryd.prog) wx 22 2 A n c 0 0 Tryd.underlying22
  obtain ⟨i0, hi, hz0, hz1, hz2⟩ := info_parts info_int
  cases A with
  | none =>
    have hn0 : n = 0 := by
      rcases Nat.eq_zero_or_pos n with h0 | h0
      · exact h0
      · obtain ⟨b, off, e, _⟩ := h.2 h0; cases e
    have hx : xs = [] := List.eq_nil_of_length_eq_zero (by have := h.1; omega)
    subst hn0 hx
    go_enter Tryd.func132, Tryd.ntmps132
    go_wp2
    go_ret
    exact ⟨none, 0, rfl, Own.nil _ _ _, Below.refl _ _⟩
  | some ad =>
    have hads : 0 < n → ∃ b off, ad = ⟨b, off, none⟩ := fun h0 => by
      obtain ⟨b, off, e, _⟩ := h.2 h0
      injection e with e
      exact ⟨b, off, e⟩
    have hnews : ∀ wx : World, (∀ p : Addr, p.block < w.heap.size → wx.cell? p = w.cell? p) → w.heap.size ≤ wx.heap.size → ∀ j u, (xs.map (Value.int .i64))[j]? = some u → wx.cell? (ad.add j) = some u := by
      intro wx hwx hsz j u hu
      have hj : 0 < n := by
        rcases Nat.eq_zero_or_pos n with h0 | h0
        · have : xs = [] := List.eq_nil_of_length_eq_zero (by have := h.1; omega)
          subst this; simp at hu
        · exact h0
      obtain ⟨b, off, rfl⟩ := hads hj
      exact rd_news (h.keep hsz hwx) hj j u hu
    have hml : 0 + n ≤ maxLen := by unfold maxLen; omega
    have hby2 : (0 + n) * 8 ≤ 140737488355328 := by omega
    have hlen : (xs.map (Value.int .i64)).length = n * 1 := by rw [List.length_map, h.1, Nat.mul_one]
    have hone := ints_oneCell .i64 xs
    clear h hads
    go_enter Tryd.func132, Tryd.ntmps132
    go_wp2_with (first | (at_builtin; refine wpList_append_own _ rfl _ _ 22 rfl w.heap.size 2 i0 (.int .i64 0) 1 8 Tryd.underlying22 hi hz0 hz1 hz2 rfl (by decide) (.slice (some ⟨w.heap.size, 0, none⟩) 0 0) 0 [] rfl ?c0 ad n c (xs.map (Value.int .i64)) rfl hlen ?c1 hone hml hby2 ?c5 ?_))
    case c0 => exact World.ownsRow_lit _ #[] 0 (Nat.le_refl _) (by unfold maxLen; omega) rfl
    case c1 => exact hnews _ (fun p hp => World.cell?_alloc_lt w _ p hp) (by simp)
    case c5 => simp
    intro v1 w1 hown hg _
    have hb : Below w.heap.size w w1 := ((Below.refl _ _).alloc (Nat.le_refl _) _).grown hg (by simp) (by simp [Value.ownBlock])
    obtain ⟨A1, c1, hv, ho⟩ := own_shape hown
    rw [hv]
    clear hg hown hv
    go_wp2
    go_ret
    exact ⟨A1, c1, rfl, ho, hb⟩
end Go.Proofs.YtdafdffmkjhhcaaDoor
namespace Go.Proofs.YtdafdffmkjhhcaaDoor
open Go Go.RowKit
set_option linter.unusedVariables false
set_option maxRecDepth 100000

/-- Each further letter can be picked, to the end. -/
def Goes (bf : Nat → Nat) : Nat → Nat → Prop
  | 0, left => left = 0
  | k + 1, left => left ≠ 0 ∧ ∃ e, pickB bf left = some e ∧ Goes bf k (dif left (2 ^ e))
/-- All blocks from n1 on lie as they lay, but for one, and for that of A. -/
structure KeepsBut (n1 bb : Nat) (A : Option Addr) (W W' : World) : Prop where
  size : W.heap.size ≤ W'.heap.size
  same : ∀ (k : Nat) (o : Obj), n1 ≤ k → k ≠ bb → A.map (·.block) ≠ some k → W.heap[k]? = some o → W'.heap[k]? = some o
theorem KeepsBut.of_all {n1 bb : Nat} {A : Option Addr} {W W' : World} (h : KeepsAll n1 W W') : KeepsBut n1 bb A W W' := ⟨h.size, fun k o hk _ _ => h.same k o hk⟩
theorem keeps_alloc (B : Nat) (W : World) (o : Obj) : KeepsAll B W (W.alloc o) := ⟨by simp, fun k o' _ h => (Below.heap_alloc W o k (Array.getElem?_eq_some_iff.1 h).1).trans h⟩
theorem keeps_below {B : Nat} {W W' : World} (h : Below W.heap.size W W') : KeepsAll B W W' := ⟨h.size, fun k o _ hk => (h.block k (Array.getElem?_eq_some_iff.1 hk).1).trans hk⟩
theorem keeps_drew (B : Nat) (W : World) : KeepsAll B W W.drew := ⟨Nat.le_refl _, fun _ _ _ h => h⟩
/-- A list of numbers that a call has made, and the number of blocks ahead of it. -/
abbrev WordAt := Option Addr × Nat × Nat
def wordEnc (m : Nat) (x : WordAt) : Array Value := #[.slice x.1 m x.2.1]
def WordS (us : List Nat) (m : Nat) (x : WordAt) (n1 : Nat) (W : World) : Prop := Own 2 W x.2.2 x.1 m x.2.1 (ints us) ∧ n1 ≤ x.2.2
theorem firsts_any (left m c m' d : Nat) (A B : Option Addr) (w : World) :
    Calls Tryd.prog 155 #[.agg #[.slice A m c, .slice B m' d], .int .i64 (left : Int)] w fun e w' => ∃ bl bt, e = .returned (.func (.func 176) #[] #[.pointer (some ⟨bl, 0, none⟩), .pointer (some ⟨bt, 0, none⟩)]) ∧ Below w.heap.size w w' ∧ w'.cell? ⟨bl, 0, none⟩ = some (.int .i64 (left : Int)) ∧ w'.cell? ⟨bt, 0, none⟩ = some (.slice A m c) ∧ w'.cell? ⟨bt, 1, none⟩ = some (.slice B m' d) ∧ KeepsAll 0 w w' := by
  go_enter Tryd.func155, Tryd.ntmps155
  go_wp2
  go_ret
  have h1 := (Boxed.new (w.alloc (.cells #[.slice A m c, .slice B m' d] 85)) 77 (.int .i64 (left : Int))).cell
  rw [World.size_alloc] at h1
  have h2 : ((w.alloc (.cells #[.slice A m c, .slice B m' d] 85)).alloc (.cells #[.int .i64 (left : Int)] 77)).heap[w.heap.size]? = some (.cells #[.slice A m c, .slice B m' d] 85 (0, 0)) :=
    (Below.heap_alloc _ _ _ (by simp)).trans (World.alloc_heap_new w _)
  refine ⟨w.heap.size + 1, w.heap.size, rfl, ((Below.refl _ w).alloc (Nat.le_refl _) _).alloc (by simp) _, h1, by simp [World.cell?, h2], by simp [World.cell?, h2], (keeps_alloc 0 w _).trans (keeps_alloc 0 _ _)⟩
/-- The call with nothing left. -/
theorem extend_zero (l m yb bb bt bx n1 cc : Nat) (A : Option Addr) (full : List Nat) (W0 W : World) (J : WordAt → World → Prop) (hJ : AbidesTo n1 (fun x : WordAt => x.2.2) J) (hm : m ≤ 24) (hW : Below W0.heap.size W0 W) (hn : n1 ≤ W.heap.size)
    (hY : ∀ x W1, WordS full m x n1 W1 → Below W0.heap.size W0 W1 → YieldAt Fence.wide 0 Tryd.prog l (wordEnc m x) W1 fun e W' => e = .returned (.bool false) ∧ J x W' ∧ KeepsAll n1 W1 W')
    (cy : Boxed W yb 103 (.func (.yield l) #[] #[])) (cb : Boxed W bb 22 (.slice A m cc)) (ho : Own 2 W n1 A m cc (ints full)) :
    Calls Tryd.prog 154 #[.int .i64 0, .pointer (some ⟨yb, 0, none⟩), .pointer (some ⟨bb, 0, none⟩), .pointer (some ⟨bt, 0, none⟩), .pointer (some ⟨bx, 0, none⟩)] W fun e W' => e = .returned (.bool false) ∧ (∃ x : WordAt, W.heap.size ≤ x.2.2 ∧ J x W') ∧ KeepsBut n1 bb A W W' := by
  have mixed : Tryd.prog.follows .mixedOrders = true := by kernel_rfl
  have hr := ho.rd
  refine calls_of_marks Tryd.func154 rfl ?_
  simp only [Tryd.ntmps154, List.size_toArray, List.length_cons, List.length_nil, Nat.reduceAdd, Nat.reduceSub, Array.replicate_succ, Array.replicate_zero, List.push_toArray, List.append_toArray, List.nil_append, List.cons_append]
  obtain ⟨W1, hW1⟩ : ∃ W1, W.alloc (.cells #[.bool false] 4) = W1 := ⟨_, rfl⟩
  have b6 : Boxed W1 W.heap.size 4 (.bool false) := hW1 ▸ Boxed.new W _ _
  have cy1 : Boxed W1 yb 103 (.func (.yield l) #[] #[]) := hW1 ▸ cy.alloc _
  have cb1 : Boxed W1 bb 22 (.slice A m cc) := hW1 ▸ cb.alloc _
  have hr1 : Rd W1 A m (ints full) := hW1 ▸ hr.below ((Below.refl _ W).alloc (Nat.le_refl _) _)
  have hb1 : Below W0.heap.size W0 W1 := hW1 ▸ hW.alloc hW.size _
  have hk1 : KeepsAll n1 W W1 := hW1 ▸ keeps_alloc n1 W _
  have hs1 : W1.heap.size = W.heap.size + 1 := by rw [← hW1]; simp
  have HS1 := Lib.hid hs1
  clear hs1
  have yc := cy1.cell
  have bc := cb1.cell
  have HYY := Lib.hid hY
  have HCL : Hid (∀ ww : World, Below W1.heap.size W1 ww → Calls Tryd.prog 132 #[.slice A m cc] ww (MakesE 2 ww m (ints full))) := Lib.hid fun ww hb => clone64_any A m cc _ ww (hr1.below hb) hm
  clear hY
  go_wp2_with fail
  refine (wpIn_wide (n := 0)).1 ?_
  gi_region_with (first
    | (refine ⟨trivial, rfl, ?_⟩; gi_at_call 132; refine (callsIn_wide.2 (HCL.out _ (Below.refl _ _).drew)).mono ?_; rintro e w2 ⟨A2, c2, rfl, ho2, hb2⟩; obtain ⟨fn, tmps, assign, body, hy, hR⟩ := HYY.out (A2, c2, W1.drew.heap.size) w2 ⟨ho2, by show n1 ≤ W1.heap.size; rw [HS1.out]; omega⟩ ((hb1.drew).trans (hb2.mono hb1.size)); dsimp only [wordEnc] at hy; have hR2 := Lib.hid hR; clear hR; have b62 := (keeps_below hb2).same _ _ hn b6; have yc2 := (hb2.cell (p := ⟨yb, 0, none⟩) (block_lt_of_cell yc)).trans yc)
    | (refine ⟨rfl, hR2.out.mono ?_⟩; rintro e W3 ⟨rfl, hj, hk⟩; have b63 : Boxed W3 W.heap.size 4 (.bool false) := hk.same _ _ hn b62; have c63 := b63.cell; have f63 := b63.frozen))
  all_goals (
    have c9 : (W3.setCell ⟨W.heap.size, 0, none⟩ (.bool false)).cell? ⟨W.heap.size, 0, none⟩ = some (.bool false) := World.cell?_setCell_same' _ _ _ (by rw [c63]; rfl)
    go_wp2_with fail
    have hk3 : KeepsAll n1 W W3 := ((hk1.trans (keeps_drew n1 W1)).trans (keeps_below hb2)).trans hk
    have hs9 := HS1.out
    refine ⟨.bool false, by simp [results, Tryd.results154, go_sem, c9], rfl, ⟨(A2, c2, W1.drew.heap.size), by show W.heap.size ≤ W1.heap.size; omega, hJ _ _ _ _ hj (grownBy_setCell' W3 W.heap.size _) (fun r e => by cases e; exact ⟨hn, .inl (by show W.heap.size < W1.heap.size; omega)⟩)⟩, ?_⟩
    exact ⟨by rw [World.size_setCell]; exact hk3.size, fun k o hk' _ _ ho => (Below.heap_setCell W3 _ _ k (fun e => by have := (Array.getElem?_eq_some_iff.1 ho).1; simp at e; omega)).trans (hk3.same k o hk' ho)⟩)
attribute [local go_sem] Oper.semAt_some
/-- Where words$1$1 stands: the yield's box, that of the beginning, and its own; the beginning's numbers lie in block g. -/
structure Ext (l yb bb bt bx g m : Nat) (W0 W : World) (pre : List Nat) : Prop where
  below : Below W0.heap.size W0 W
  cy : Boxed W yb 103 (.func (.yield l) #[] #[])
  cb : Boxed W bb 22 (.slice (some ⟨g, 0, none⟩) pre.length m)
  cx : Boxed W bx 156 (.func (.func 154) #[] #[.pointer (some ⟨yb, 0, none⟩), .pointer (some ⟨bb, 0, none⟩), .pointer (some ⟨bt, 0, none⟩), .pointer (some ⟨bx, 0, none⟩)])
  own : Own 2 W W0.heap.size (some ⟨g, 0, none⟩) pre.length m (ints pre)
def ExtCall (yb bb bt bx left : Nat) (W0 : World) (A : Option Addr) (J : WordAt → World → Prop) (W : World) : Prop :=
  Calls Tryd.prog 154 #[.int .i64 (left : Int), .pointer (some ⟨yb, 0, none⟩), .pointer (some ⟨bb, 0, none⟩), .pointer (some ⟨bt, 0, none⟩), .pointer (some ⟨bx, 0, none⟩)] W fun e W' => e = .returned (.bool false) ∧ (∃ x : WordAt, W.heap.size ≤ x.2.2 ∧ J x W') ∧ KeepsBut W0.heap.size bb A W W'
set_option maxHeartbeats 1000000 in
theorem extend_step (l m yb bb bt bx g c d left e : Nat) (TA TB : Option Addr) (ls bs pre : List Nat) (W0 W : World) (J : WordAt → World → Prop)
    (hct0 : W0.cell? ⟨bt, 0, none⟩ = some (.slice TA m c)) (hct1 : W0.cell? ⟨bt, 1, none⟩ = some (.slice TB m d)) (hA : Rd W0 TA m (ints ls)) (hB : Rd W0 TB m (ints bs)) (hm : m ≤ 24) (hbs : ∀ i, bs.getD i 0 < 2 ^ m) (hT : Tab W0)
    (hy0 : W0.heap.size ≤ yb) (hb0 : W0.heap.size ≤ bb) (hx0 : W0.heap.size ≤ bx) (hyb : yb ≠ bb) (hxb : bx ≠ bb)
    (hJ : AbidesTo W0.heap.size (fun x : WordAt => x.2.2) J) (hle : left ≠ 0) (hlt : left < 2 ^ m) (hpick : pickB (fun e => bs.getD e 0) left = some e) (hpl : pre.length < m)
    (hS : Ext l yb bb bt bx g m W0 W pre)
    (Lt R : Nat) (HLt : Hid (Lt = ls.getD e 0)) (HR : Hid (R = dif left (2 ^ e)))
    (ih : ∀ W', Ext l yb bb bt bx g m W0 W' (pre ++ [Lt]) → ExtCall yb bb bt bx R W0 (some ⟨g, 0, none⟩) J W') :
    ExtCall yb bb bt bx left W0 (some ⟨g, 0, none⟩) J W := by
  obtain ⟨hbW, cy, cb, cx, ho⟩ := hS
  obtain ⟨i0, hi, hz0, hz1, hz2⟩ := info_parts info_int
  refine calls_of_marks Tryd.func154 rfl ?_
  simp only [Tryd.ntmps154, List.size_toArray, List.length_cons, List.length_nil, Nat.reduceAdd, Nat.reduceSub, Array.replicate_succ, Array.replicate_zero, List.push_toArray, List.append_toArray, List.nil_append, List.cons_append]
  obtain ⟨W1, hW1⟩ : ∃ W1, W.alloc (.cells #[.bool false] 4) = W1 := ⟨_, rfl⟩
  have b6 : Boxed W1 W.heap.size 4 (.bool false) := hW1 ▸ Boxed.new W _ _
  have hWW1 : Below W.heap.size W W1 := hW1 ▸ (Below.refl _ W).alloc (Nat.le_refl _) _
  have hs1 : W1.heap.size = W.heap.size + 1 := by rw [← hW1]; simp
  have HS1 := Lib.hid hs1
  clear hs1
  have hb1 : Below W0.heap.size W0 W1 := hbW.trans (hWW1.mono hbW.size)
  have tc0 := (hb1.cell (block_lt_of_cell hct0)).trans hct0
  have tc1 := (hb1.cell (block_lt_of_cell hct0)).trans hct1
  have hz : (((left : Nat) : Int) == 0) = false := by simp; omega
  have HPICK := Lib.hid hpick
  have HIH := Lib.hid ih
  have HJ := Lib.hid hJ
  have HBS := Lib.hid hbs
  have HLT := Lib.hid hlt
  have HPL := Lib.hid hpl
  clear hpick ih hJ hbs hlt hpl
  go_wp2_with fail
  refine (firsts_any left m c m d TA TB _).mono ?_
  rintro e9 w2 ⟨bl, b2, rfl, hb2, hl2, ht20, ht21, -⟩
  go_wp2_with fail
  have hWw2 : Below W.heap.size W w2 := hWW1.trans (hb2.mono hWW1.size)
  have h0w2 : Below W0.heap.size W0 w2 := hbW.trans (hWw2.mono hbW.size)
  have hseq := firsts1_first bl b2 left m c d e TA TB ls bs w2 hl2 ht20 ht21 (hA.below h0w2) (hB.below h0w2) hm HLT.out HBS.out (hT.below h0w2) HPICK.out
  have b62 : Boxed w2 W.heap.size 4 (.bool false) := (hb2.block _ b6.lt).trans b6
  refine wp_rangeFunc_first (gf := 176) (lb := #[.pointer (some ⟨bl, 0, none⟩), .pointer (some ⟨b2, 0, none⟩)]) rfl (enters_of Tryd.func176 (by kernel_rfl) rfl) hseq (Below.refl _ _) (fun _ => rfl) (fun _ _ _ _ _ _ h _ _ => h)
    (fun cd _ W3 => cd = .ret ∧ Boxed W3 W.heap.size 4 (.bool false) ∧ (∃ y : WordAt, W.heap.size ≤ y.2.2 ∧ J y W3) ∧ KeepsBut W0.heap.size bb (some ⟨g, 0, none⟩) W W3) ?abide
    (fun x => { tmps := #[.int .i64 (left : Int), .pointer (some ⟨yb, 0, none⟩), .pointer (some ⟨bb, 0, none⟩), .pointer (some ⟨bt, 0, none⟩), .pointer (some ⟨bx, 0, none⟩), undef, .pointer (some ⟨W.heap.size, 0, none⟩), .int .i64 (x.1 : Int), .int .i64 (x.2 : Int), .int .i64 (left : Int), .bool false, undef, undef, undef, undef, .agg #[.slice TA m c, .slice TB m d], .int .i64 (left : Int), .func (.func 176) #[] #[.pointer (some ⟨bl, 0, none⟩), .pointer (some ⟨b2, 0, none⟩)], .int .i64 (x.1 : Int), .int .i64 (x.2 : Int), undef, undef, undef, undef, undef, undef, undef, undef, undef, undef, undef, undef, undef], defers := [] }) ?assign ?body ?stop
  case abide =>
    rintro cd x P Q row ⟨rfl, h1, ⟨y, hy1, hy2⟩, h3⟩ hg hr
    have hw2 := hWw2.size
    refine ⟨rfl, h1.kept hg (fun e => ?_), ⟨y, hy1, HJ.out y P Q row hy2 hg (fun r er => ?_)⟩, ⟨Nat.le_trans h3.size hg.size, fun k o hk1 hk2 hk3 ho2 => ?_⟩⟩
    · obtain ⟨h4, h5⟩ := hr _ e.symm
      have := b62.lt
      omega
    · obtain ⟨h4, h5⟩ := hr r er
      refine ⟨by have := h0w2.size; omega, ?_⟩
      rcases h5 with h5 | h5
      · exact absurd h5 (Nat.not_lt_zero _)
      · exact .inr h5
    · have h6 := (Array.getElem?_eq_some_iff.1 ho2).1
      have h7 := h3.same k o hk1 hk2 hk3 ho2
      refine (hg.block k (Array.getElem?_eq_some_iff.1 h7).1 (fun e => ?_)).trans h7
      have := (hr _ e.symm).1
      omega
  case assign =>
    intro l2 x W3 K hK
    dsimp only [firstEnc]
    gi_wp2
    exact hK
  case stop =>
    rintro D cd x W3 hD ⟨rfl, h1, ⟨y, hy1, hy2⟩, h3⟩ hK
    have hc1 := h1.cell
    have hw2 := hWw2.size
    have hc2 : (W3.putObj D (.deferred none)).cell? ⟨W.heap.size, 0, none⟩ = some (.bool false) := by
      rw [← hc1]
      unfold World.cell?
      rw [World.putObj_heap_other (by have := b62.lt; show W.heap.size ≠ D; omega)]
    go_wp2_with fail
    refine ⟨by simp, .inl ⟨D, _, rfl, run_takeDeferred hK, ?_⟩⟩
    refine ⟨.bool false, by simp [results, Tryd.results154, go_sem, hc2], rfl, ⟨y, hy1, HJ.out y W3 _ (some D) hy2 (grownBy_putObj' _ D _) (fun r er => by cases er; exact ⟨by have := h0w2.size; omega, .inr ⟨_, hK, rfl⟩⟩)⟩, ?_⟩
    refine ⟨by simp; exact h3.size, fun k o hk1 hk2 hk3 ho2 => (World.putObj_heap_other ?_).trans (h3.same k o hk1 hk2 hk3 ho2)⟩
    have h6 := (Array.getElem?_eq_some_iff.1 ho2).1
    omega
  case body =>
    rintro l2 x W3 hx hb3 hs3
    have hx2 : x = (Lt, R) := by rw [hx, HLt.out, HR.out]
    subst hx2
    clear hx
    have hW3 : Below W.heap.size W W3 := hWw2.trans (hb3.mono hWw2.size)
    have cb3 : Boxed W3 bb 22 (.slice (some ⟨g, 0, none⟩) pre.length m) := (hW3.block _ cb.lt).trans cb
    have cy3 : Boxed W3 yb 103 (.func (.yield l) #[] #[]) := (hW3.block _ cy.lt).trans cy
    have cx3 := (show Boxed W3 bx _ _ from (hW3.block _ cx.lt).trans cx)
    have b63 : Boxed W3 W.heap.size 4 (.bool false) := (hb3.block _ b62.lt).trans b62
    have ho3 := ho.below hW3
    have h0W3 : Below W0.heap.size W0 W3 := hbW.trans (hW3.mono hbW.size)
    have bc3 := cb3.cell
    have bf3 := cb3.frozen
    gi_wp2_with (gi_at_builtin; refine wpListIn_append_fits _ rfl _ _ 22 rfl W0.heap.size 2 i0 1 Tryd.underlying22 hi hz1 g pre.length m ((ints pre).map (Value.int .i64)) rfl (World.ownsRow.alloc ho3 _) ⟨W3.heap.size, 0, none⟩ 1 1 [.int .i64 (Lt : Int)] rfl rfl (cell_one_new _ _ _) ?c2 ?c3 ?_)
    case c2 => first | rfl | (intro u hu; simp at hu; subst hu; rfl)
    case c3 => exact HPL.out
    intro w4 hown hg4
    rw [ints_snoc_map] at hown
    have ho4 : Own 2 w4 W0.heap.size (some ⟨g, 0, none⟩) (pre ++ [Lt]).length m (ints (pre ++ [Lt])) := by rw [List.length_append]; exact hown
    have hne : ∀ {B : Nat} {t : TypeId} {u : Value}, Boxed W3 B t u → t ≠ 2 → some B ≠ some g := fun h ht => h.not_row ht ho3
    have hgW : g < W.heap.size := (ho.lt g rfl).2
    have cb4 := (cb3.alloc (.cells #[.int .i64 (Lt : Int)] 2)).kept hg4 (hne cb3 (by decide))
    have cy4 := (cy3.alloc (.cells #[.int .i64 (Lt : Int)] 2)).kept hg4 (hne cy3 (by decide))
    have cx4 := (cx3.alloc (.cells #[.int .i64 (Lt : Int)] 2)).kept hg4 (hne cx3 (by decide))
    have b64 := (b63.alloc (.cells #[.int .i64 (Lt : Int)] 2)).kept hg4 (hne b63 (by decide))
    have hgb : g ≠ bb := fun e => hne cb3 (by decide) (by rw [e])
    have h0W4 : Below W0.heap.size W0 w4 := (h0W3.alloc h0W3.size _).grown hg4 (by have := h0W3.size; simp; omega) (fun q hq => by cases hq; exact (ho.lt g rfl).1)
    have bc4 := cb4.cell
    have bf4 := cb4.frozen
    obtain ⟨w5, hw5⟩ : ∃ w5, w4.setCell ⟨bb, 0, none⟩ (.slice (some ⟨g, 0, none⟩) (pre ++ [Lt]).length m) = w5 := ⟨_, rfl⟩
    have hl5 : (pre ++ [Lt]).length = pre.length + 1 := by simp
    have hbr : W.heap.size ≠ bb := by have := cb.lt; omega
    have cb5 : Boxed w5 bb 22 (.slice (some ⟨g, 0, none⟩) (pre ++ [Lt]).length m) := by rw [← hw5]; exact cb4.set _
    have cy5 : Boxed w5 yb 103 (.func (.yield l) #[] #[]) := by rw [← hw5]; exact cy4.other hyb _
    have cx5 : Boxed w5 bx 156 (.func (.func 154) #[] #[.pointer (some ⟨yb, 0, none⟩), .pointer (some ⟨bb, 0, none⟩), .pointer (some ⟨bt, 0, none⟩), .pointer (some ⟨bx, 0, none⟩)]) := by rw [← hw5]; exact cx4.other hxb _
    have b65 : Boxed w5 W.heap.size 4 (.bool false) := by rw [← hw5]; exact b64.other hbr _
    have ho5 : Own 2 w5 W0.heap.size (some ⟨g, 0, none⟩) (pre ++ [Lt]).length m (ints (pre ++ [Lt])) := by rw [← hw5]; exact own_other ho4 bb 0 _ (fun q hq => by cases hq; exact hgb)
    have h0W5 : Below W0.heap.size W0 w5 := by rw [← hw5]; exact h0W4.setCell (p := ⟨bb, 0, none⟩) hb0 _
    have hex := HIH.out w5 ⟨h0W5, cy5, cb5, cx5, ho5⟩
    unfold ExtCall at hex
    have HEX := Lib.hid hex
    clear hex
    have xc5 := cx5.cell
    rw [hl5] at hw5
    have hgne : (some (⟨g, 0, none⟩ : Addr)).map (·.block) ≠ some W.heap.size := by simp; omega
    gi_wp2_with (refine ⟨trivial, rfl, ?_⟩; gi_at_call 154; refine (CallsIn.inRound l2 (callsIn_wide.2 HEX.out)).mono ?_; rintro e6 w6 ⟨rfl, ⟨y, hy1, hy2⟩, hk6⟩; have b66 : Boxed w6 W.heap.size 4 (.bool false) := hk6.same _ _ hbW.size hbr hgne b65; have c66 := b66.cell; have f66 := b66.frozen)
    have hall : ∀ (k : Nat) (o : Obj), W0.heap.size ≤ k → k ≠ bb → k ≠ g → k ≠ W.heap.size → W3.heap[k]? = some o → (w6.setCell ⟨W.heap.size, 0, none⟩ (.bool false)).heap[k]? = some o := by
      intro k o h1 h2 h3 h4 h5
      have hk3 := (Array.getElem?_eq_some_iff.1 h5).1
      have s1 : (W3.alloc (.cells #[.int .i64 (Lt : Int)] 2)).heap[k]? = some o := (Below.heap_alloc W3 _ k hk3).trans h5
      have s2 : w4.heap[k]? = some o := (hg4.block k (by simp; omega) (fun e => h3 (by injection e))).trans s1
      have s3 : w5.heap[k]? = some o := by rw [← hw5]; exact (Below.heap_setCell w4 _ _ k (fun e => h2 e)).trans s2
      have s4 : w6.heap[k]? = some o := hk6.same k o h1 h2 (by simp; omega) s3
      exact (Below.heap_setCell w6 _ _ k (fun e => h4 e)).trans s4
    have z4 : W3.heap.size + 1 ≤ w4.heap.size := by have := hg4.size; simpa using this
    have z5 : w5.heap.size = w4.heap.size := by rw [← hw5, World.size_setCell]
    have z6 := hk6.size
    have z0 := hW3.size
    have z2 := hWw2.size
    have zb := cb.lt
    have zz := hbW.size
    refine ⟨⟨by rw [World.size_setCell]; omega, fun k o hk ho => hall k o (by omega) (by omega) (by omega) (by have := b62.lt; omega) ho⟩, rfl, b66.set _, ⟨y, by omega, HJ.out y w6 _ (some W.heap.size) hy2 (grownBy_setCell' _ _ _) (fun r er => by cases er; exact ⟨zz, .inl (by show W.heap.size < y.2.2; omega)⟩)⟩, ⟨by rw [World.size_setCell]; omega, fun k o h1 h2 h3 h4 => ?_⟩⟩
    have hkW := (Array.getElem?_eq_some_iff.1 h4).1
    exact hall k o h1 h2 (fun e => h3 (by rw [e]; rfl)) (by omega) ((hW3.block k hkW).trans h4)
end Go.Proofs.YtdafdffmkjhhcaaDoor
namespace Go.Proofs.YtdafdffmkjhhcaaDoor
open Go Go.RowKit
set_option linter.unusedVariables false
set_option maxRecDepth 100000
attribute [local go_sem] Oper.semAt_some

theorem Ext.next {l yb bb bt bx g m : Nat} {W0 W W' : World} {pre : List Nat} (h : Ext l yb bb bt bx g m W0 W pre) (hb : Below W.heap.size W W') : Ext l yb bb bt bx g m W0 W' pre :=
  ⟨h.below.trans (hb.mono h.below.size), (hb.block _ h.cy.lt).trans h.cy, (hb.block _ h.cb.lt).trans h.cb, (hb.block _ h.cx.lt).trans h.cx, h.own.below hb⟩
theorem extend_any (l m yb bb bt bx g c d : Nat) (TA TB : Option Addr) (ls bs full : List Nat) (W0 : World) (J : WordAt → World → Prop)
    (hct0 : W0.cell? ⟨bt, 0, none⟩ = some (.slice TA m c)) (hct1 : W0.cell? ⟨bt, 1, none⟩ = some (.slice TB m d)) (hA : Rd W0 TA m (ints ls)) (hB : Rd W0 TB m (ints bs)) (hm : m ≤ 24) (hbs : ∀ i, bs.getD i 0 < 2 ^ m) (hT : Tab W0)
    (hy0 : W0.heap.size ≤ yb) (hb0 : W0.heap.size ≤ bb) (hx0 : W0.heap.size ≤ bx) (hyb : yb ≠ bb) (hxb : bx ≠ bb)
    (hJ : AbidesTo W0.heap.size (fun x : WordAt => x.2.2) J)
    (hY : ∀ x W1, WordS full m x W0.heap.size W1 → Below W0.heap.size W0 W1 → YieldAt Fence.wide 0 Tryd.prog l (wordEnc m x) W1 fun e W' => e = .returned (.bool false) ∧ J x W' ∧ KeepsAll W0.heap.size W1 W') :
    ∀ (k left : Nat) (pre : List Nat) (W : World), Goes (fun e => bs.getD e 0) k left → left < 2 ^ m → pre.length + k = m → full = pre ++ nfB (fun e => ls.getD e 0) (fun e => bs.getD e 0) k left → Ext l yb bb bt bx g m W0 W pre → ExtCall yb bb bt bx left W0 (some ⟨g, 0, none⟩) J W
  | 0, left, pre, W, hg, _, hk, hf, hE => by
    have hl0 : left = 0 := hg
    subst hl0
    have hpf : full = pre := by rw [hf]; exact List.append_nil _
    subst hpf
    obtain ⟨h1, h2, h3, h4, h5⟩ := hE
    have hlen : full.length = m := by omega
    rw [hlen] at h3 h5
    exact extend_zero l m yb bb bt bx W0.heap.size m (some ⟨g, 0, none⟩) full W0 W J hJ hm h1 h1.size hY h2 h3 h5
  | k + 1, left, pre, W, hg, hlt, hk, hf, hE => by
    obtain ⟨h0, e, hp, hg'⟩ := hg
    refine extend_step l m yb bb bt bx g c d left e TA TB ls bs pre W0 W J hct0 hct1 hA hB hm hbs hT hy0 hb0 hx0 hyb hxb hJ h0 hlt hp (by omega) hE (ls.getD e 0) (dif left (2 ^ e)) (Lib.hid rfl) (Lib.hid rfl) fun W' hE' => ?_
    refine extend_any l m yb bb bt bx g c d TA TB ls bs full W0 J hct0 hct1 hA hB hm hbs hT hy0 hb0 hx0 hyb hxb hJ hY k (dif left (2 ^ e)) (pre ++ [ls.getD e 0]) W' hg' (Nat.lt_of_le_of_lt (dif_le _ _) hlt) (by rw [List.length_append]; simp; omega) ?_ hE'
    rw [hf, List.append_assoc]
    congr 1
    show (match pickB (fun e => bs.getD e 0) left with | none => [] | some e => ls.getD e 0 :: nfB (fun e => ls.getD e 0) (fun e => bs.getD e 0) k (dif left (2 ^ e))) = _
    rw [hp]; rfl
theorem events_any (m c m' d : Nat) (A B : Option Addr) (w : World) (hm : m ≤ 24) :
    Calls Tryd.prog 156 #[.agg #[.slice A m c, .slice B m' d]] w fun e w' => e = .returned (.int .i64 ((2 ^ m - 1 : Nat) : Int)) ∧ Below w.heap.size w w' := by
  obtain ⟨P, hP⟩ : ∃ P, P = 2 ^ m - 1 := ⟨_, rfl⟩
  have hF : Hid (∀ ww : World, Calls Tryd.prog 111 #[.int .i64 (m : Int)] ww fun e w' => e = .returned (.int .i64 (P : Int)) ∧ ww = w') := Lib.hid (by rw [hP]; exact fun ww => firstNumbers_any m (by omega) ww)
  rw [← hP]
  clear hP
  go_enter Tryd.func156, Tryd.ntmps156
  go_wp2_with fail
  refine (hF.out _).mono ?_
  rintro e w' ⟨rfl, rfl⟩
  go_wp2
  go_ret
  exact ⟨rfl, (Below.refl _ _).alloc (Nat.le_refl _) _⟩
/-- The words of a trace, to one that takes the first of them. -/
theorem words1_first (bt m c d : Nat) (TA TB : Option Addr) (ls bs full : List Nat) (w : World)
    (hct0 : w.cell? ⟨bt, 0, none⟩ = some (.slice TA m c)) (hct1 : w.cell? ⟨bt, 1, none⟩ = some (.slice TB m d)) (hA : Rd w TA m (ints ls)) (hB : Rd w TB m (ints bs)) (hm : m ≤ 24) (hbs : ∀ i, bs.getD i 0 < 2 ^ m) (hT : Tab w)
    (hG : Goes (fun e => bs.getD e 0) m (2 ^ m - 1)) (hfull : full = nfB (fun e => ls.getD e 0) (fun e => bs.getD e 0) m (2 ^ m - 1)) :
    FirstSeq Tryd.prog 153 #[.pointer (some ⟨bt, 0, none⟩)] (wordEnc m) (WordS full m) (fun x : WordAt => x.2.2) w := by
  intro l J W hW hJ hY
  have hc02 : W.cell? ⟨bt, 0, none⟩ = some (.slice TA m c) := (hW.cell (block_lt_of_cell hct0)).trans hct0
  have hc12 : W.cell? ⟨bt, 1, none⟩ = some (.slice TB m d) := (hW.cell (block_lt_of_cell hct0)).trans hct1
  have hA2 := hA.below hW
  have hB2 := hB.below hW
  have hT2 := hT.below hW
  obtain ⟨i0, hi, hz0, hz1, hz2⟩ := info_parts info_int
  have HEXT : Hid (∀ yb bb bx g W', W.heap.size ≤ yb → W.heap.size ≤ bb → W.heap.size ≤ bx → yb ≠ bb → bx ≠ bb → Ext l yb bb bt bx g m W W' [] → ExtCall yb bb bt bx (2 ^ m - 1) W (some ⟨g, 0, none⟩) J W') := Lib.hid fun yb bb bx g W' h1 h2 h3 h4 h5 hE =>
    extend_any l m yb bb bt bx g c d TA TB ls bs full W J hc02 hc12 hA2 hB2 hm hbs hT2 h1 h2 h3 h4 h5 hJ hY m (2 ^ m - 1) [] W' hG (by have := Nat.two_pow_pos m; omega) (by simp) (by rw [hfull]; rfl) hE
  have HEV : Hid (∀ ww : World, Calls Tryd.prog 156 #[.agg #[.slice TA m c, .slice TB m d]] ww fun e w' => e = .returned (.int .i64 ((2 ^ m - 1 : Nat) : Int)) ∧ Below ww.heap.size ww w') := Lib.hid fun ww => events_any m c m d TA TB ww hm
  obtain ⟨P, hP⟩ : ∃ P, P = 2 ^ m - 1 := ⟨_, rfl⟩
  rw [← hP] at HEXT HEV
  have hml : m ≤ maxLen := by unfold maxLen; omega
  have hby : i0.bytes * m ≤ 281474976710656 := by rw [hz2]; omega
  have mixed : Tryd.prog.follows .mixedOrders = true := by kernel_rfl
  clear hY hJ hG hfull hP hbs hT2 hT hA2 hB2 hA hB hW hct0 hct1
  show Calls _ _ #[.func (.yield l) #[] #[], .pointer (some ⟨bt, 0, none⟩)] W _
  obtain ⟨W1, hW1⟩ : ∃ W1, W.alloc (.cells #[.func (.yield l) #[] #[]] 103) = W1 := ⟨_, rfl⟩
  have y1 : Boxed W1 W.heap.size 103 (.func (.yield l) #[] #[]) := by rw [← hW1]; exact Boxed.new W _ _
  have hb1 : Below W.heap.size W W1 := by rw [← hW1]; exact (Below.refl _ W).alloc (Nat.le_refl _) _
  have hs1 : Hid (W1.heap.size = W.heap.size + 1) := Lib.hid (by rw [← hW1]; simp)
  have tc0 := (hb1.cell (block_lt_of_cell hc02)).trans hc02
  have tc1 := (hb1.cell (block_lt_of_cell hc02)).trans hc12
  go_enter Tryd.func153, Tryd.ntmps153
  go_wp2_with (at_make; refine wpList_make_own _ rfl _ _ _ rfl W.heap.size 2 i0 (.int .i64 0) 1 Tryd.underlying22 hi hz0 hz1 _ _ (m : Int) m rfl rfl rfl hby hml hb1.size ?_; intro w2 hown0 hg2)
  have hb2 : Below W1.heap.size W1 w2 := (Below.refl _ _).grown hg2 (Nat.le_refl _) (by simp)
  have ho2 : Own 2 w2 W.heap.size (some ⟨W1.heap.size, 0, none⟩) 0 m (ints []) := hown0
  have hg2lt : W1.heap.size < w2.heap.size := (ho2.lt _ rfl).2
  obtain ⟨W3, hW3⟩ : ∃ W3, w2.alloc (.cells #[.slice (some ⟨W1.heap.size, 0, none⟩) 0 m] 22) = W3 := ⟨_, rfl⟩
  have v3 : Boxed W3 w2.heap.size 22 (.slice (some ⟨W1.heap.size, 0, none⟩) 0 m) := by rw [← hW3]; exact Boxed.new w2 _ _
  have hb3 : Below w2.heap.size w2 W3 := by rw [← hW3]; exact (Below.refl _ _).alloc (Nat.le_refl _) _
  have hs3 : W3.heap.size = w2.heap.size + 1 := by rw [← hW3]; simp
  obtain ⟨W4, hW4⟩ : ∃ W4, W3.alloc (.cells #[.nilFunc] 156) = W4 := ⟨_, rfl⟩
  have x4 : Boxed W4 (w2.heap.size + 1) 156 .nilFunc := by rw [← hW4, ← hs3]; exact Boxed.new W3 _ _
  have v4 : Boxed W4 w2.heap.size 22 (.slice (some ⟨W1.heap.size, 0, none⟩) 0 m) := by rw [← hW4]; exact v3.alloc _
  have hb4 : Below w2.heap.size w2 W4 := by rw [← hW4]; exact hb3.alloc hb3.size _
  have f4 := x4.frozen
  have c4 := x4.cell
  rw [← hW3] at hW4
  obtain ⟨W5, hW5⟩ : ∃ W5, W4.setCell ⟨w2.heap.size + 1, 0, none⟩ (.func (.func 154) #[] #[.pointer (some ⟨W.heap.size, 0, none⟩), .pointer (some ⟨w2.heap.size, 0, none⟩), .pointer (some ⟨bt, 0, none⟩), .pointer (some ⟨w2.heap.size + 1, 0, none⟩)]) = W5 := ⟨_, rfl⟩
  have x5 : Boxed W5 (w2.heap.size + 1) 156 (.func (.func 154) #[] #[.pointer (some ⟨W.heap.size, 0, none⟩), .pointer (some ⟨w2.heap.size, 0, none⟩), .pointer (some ⟨bt, 0, none⟩), .pointer (some ⟨w2.heap.size + 1, 0, none⟩)]) := by rw [← hW5]; exact x4.set _
  have v5 : Boxed W5 w2.heap.size 22 (.slice (some ⟨W1.heap.size, 0, none⟩) 0 m) := by rw [← hW5]; exact v4.other (by omega) _
  have hb5 : Below w2.heap.size w2 W5 := by rw [← hW5]; exact hb4.setCell (p := ⟨w2.heap.size + 1, 0, none⟩) (Nat.le_succ _) _
  have hWw2 : Below W.heap.size W w2 := hb1.trans (hb2.mono hb1.size)
  have hW5 : Below W.heap.size W W5 := hWw2.trans (hb5.mono hWw2.size)
  have hE5 : Hid (Ext l W.heap.size w2.heap.size bt (w2.heap.size + 1) W1.heap.size m W W5 []) := Lib.hid ⟨hW5, (hb5.block _ (by have h9 := hs1.out; have h8 := hb2.size; omega)).trans ((hb2.block _ y1.lt).trans y1), v5, x5, ho2.below hb5⟩
  clear hs3
  have c5 := x5.cell
  have t50 := (hW5.cell (block_lt_of_cell hc02)).trans hc02
  have t51 := (hW5.cell (block_lt_of_cell hc02)).trans hc12
  rw [hW4, run_store _ _ _ _ _ rfl]
  go_simp
  go_wp2_with fail
  have HCE : Hid (∀ ww, Below W5.heap.size W5 ww → Calls Tryd.prog 154 #[.int .i64 (P : Int), .pointer (some ⟨W.heap.size, 0, none⟩), .pointer (some ⟨w2.heap.size, 0, none⟩), .pointer (some ⟨bt, 0, none⟩), .pointer (some ⟨w2.heap.size + 1, 0, none⟩)] ww fun e W' => e = .returned (.bool false) ∧ ∃ x : WordAt, J x W') := Lib.hid fun ww hb => by
    have h9 := hs1.out
    have h8 := hb2.size
    have := HEXT.out W.heap.size w2.heap.size (w2.heap.size + 1) W1.heap.size ww (Nat.le_refl _) (by omega) (by omega) (by omega) (by omega) (hE5.out.next hb)
    unfold ExtCall at this
    exact this.mono fun e W' h => ⟨h.1, h.2.1.elim fun x hx => ⟨x, hx.2⟩⟩
  refine (wpIn_wide (n := 0)).1 ?_
  gi_region_with (first
    | (refine ⟨trivial, rfl, ?_⟩; gi_at_call 156; refine (callsIn_wide.2 (HEV.out _)).mono ?_; rintro e w6 ⟨rfl, hb6⟩; have hb56 : Below W5.heap.size W5 w6 := ((Below.refl _ W5).drew).trans hb6; have c6 := (hb56.cell (block_lt_of_cell c5)).trans c5; have HC6 := Lib.hid (HCE.out w6 hb56))
    | (refine ⟨trivial, rfl, ?_⟩; gi_at_call 154; refine (callsIn_wide.2 HC6.out).mono ?_; rintro e w7 ⟨rfl, y, hy2⟩))
  all_goals go_wp2_with fail
  all_goals exact bodyPost_end (results_none rfl _ _ _) rfl ⟨⟨_, rfl⟩, y, hy2⟩
end Go.Proofs.YtdafdffmkjhhcaaDoor
namespace Go.Proofs.YtdafdffmkjhhcaaDoor
open Go Go.RowKit
set_option linter.unusedVariables false
set_option maxRecDepth 100000
attribute [local go_sem] Oper.semAt_some

theorem words_any (m c m' d : Nat) (A B : Option Addr) (w : World) :
    Calls Tryd.prog 117 #[.agg #[.slice A m c, .slice B m' d]] w fun e w' => ∃ bt, e = .returned (.func (.func 153) #[] #[.pointer (some ⟨bt, 0, none⟩)]) ∧ Below w.heap.size w w' ∧ w'.cell? ⟨bt, 0, none⟩ = some (.slice A m c) ∧ w'.cell? ⟨bt, 1, none⟩ = some (.slice B m' d) := by
  have h2 : (w.alloc (.cells #[.slice A m c, .slice B m' d] 85)).heap[w.heap.size]? = some (.cells #[.slice A m c, .slice B m' d] 85 (0, 0)) := World.alloc_heap_new w _
  go_enter Tryd.func117, Tryd.ntmps117
  go_wp2
  go_ret
  exact ⟨w.heap.size, rfl, (Below.refl _ w).alloc (Nat.le_refl _) _, by unfold World.cell?; rw [h2]; rfl, by unfold World.cell?; rw [h2]; rfl⟩
theorem own_abides {E : TypeId} {A B : World} {base n c : Nat} {ad : Option Addr} {xs : List Int} {row : Option Nat} (h : Own E A base ad n c xs) (hg : A.grownBy B row) (hr : ∀ r, row = some r → r < base ∨ ∃ o : Obj, A.heap[r]? = some o ∧ o.isCells = false) : Own E B base ad n c xs := by
  refine h.apart hg fun k hk e => ?_
  rcases hr k e with h1 | ⟨o, ho, hc⟩
  · have := (h.lt k hk).1; omega
  · rcases h.2 with ⟨h0, _⟩ | ⟨g, cap, cur, e1, _, h3, _⟩
    · cases ad with
      | none => cases hk
      | some _ => injection h0 with h0; cases h0
    · injection e1 with e1
      subst e1
      injection hk with hk
      subst hk
      have h3' : A.heap[g]? = some o := ho
      rw [h3] at h3'
      injection h3' with h3'
      subst h3'
      cases hc
set_option maxHeartbeats 1000000 in
theorem normalForm_any (m c d : Nat) (TA TB : Option Addr) (ls bs full : List Nat) (w : World)
    (hA : Rd w TA m (ints ls)) (hB : Rd w TB m (ints bs)) (hm : m ≤ 24) (hbs : ∀ i, bs.getD i 0 < 2 ^ m) (hT : Tab w)
    (hG : Goes (fun e => bs.getD e 0) m (2 ^ m - 1)) (hfull : full = nfB (fun e => ls.getD e 0) (fun e => bs.getD e 0) m (2 ^ m - 1)) :
    Calls Tryd.prog 67 #[.agg #[.slice TA m c, .slice TB m d]] w (MakesE 2 w m (ints full)) := by
  refine calls_of_marks Tryd.func67 rfl ?_
  simp only [Tryd.ntmps67, List.size_toArray, List.length_cons, List.length_nil, Nat.reduceAdd, Nat.reduceSub, Array.replicate_succ, Array.replicate_zero, List.push_toArray, List.append_toArray, List.nil_append, List.cons_append]
  obtain ⟨W1, hW1⟩ : ∃ W1, (w.alloc (.cells #[.slice TA m c, .slice TB m d] 85)).alloc (.cells #[.slice none 0 0] 22) = W1 := ⟨_, rfl⟩
  have hb1 : Below w.heap.size w W1 := by rw [← hW1]; exact ((Below.refl _ w).alloc (Nat.le_refl _) _).alloc (by simp) _
  have v1 : Boxed W1 (w.heap.size + 1) 22 (.slice none 0 0) := by rw [← hW1]; have := Boxed.new (w.alloc (.cells #[.slice TA m c, .slice TB m d] 85)) 22 (.slice none 0 0); rwa [World.size_alloc] at this
  have h2 : W1.heap[w.heap.size]? = some (.cells #[.slice TA m c, .slice TB m d] 85 (0, 0)) := by rw [← hW1]; exact (Below.heap_alloc _ _ _ (by simp)).trans (World.alloc_heap_new w _)
  have t0 : W1.cell? ⟨w.heap.size, 0, none⟩ = some (.slice TA m c) := by simp [World.cell?, h2]
  have t1 : W1.cell? ⟨w.heap.size, 1, none⟩ = some (.slice TB m d) := by simp [World.cell?, h2]
  have HG := Lib.hid hG
  have HF := Lib.hid hfull
  clear hG hfull h2
  go_wp2_with fail
  refine (words_any m c m d TA TB _).mono ?_
  rintro e w2 ⟨bt, rfl, hb2, t20, t21⟩
  go_wp2_with fail
  have hw2 : Below w.heap.size w w2 := hb1.trans (hb2.mono hb1.size)
  have v2 : Boxed w2 (w.heap.size + 1) 22 (.slice none 0 0) := (hb2.block _ v1.lt).trans v1
  have hseq := words1_first bt m c d TA TB ls bs full w2 t20 t21 (hA.below hw2) (hB.below hw2) hm hbs (hT.below hw2) HG.out HF.out
  have hlt2 := v2.lt
  have HLT2 := Lib.hid hlt2
  have hsz2 := hw2.size
  refine wp_rangeFunc_first (gf := 153) (lb := #[.pointer (some ⟨bt, 0, none⟩)]) rfl (enters_of Tryd.func153 (by kernel_rfl) rfl) hseq (Below.refl _ _) (fun _ => rfl)
    (fun x n1 W l o o' hS hl ho => ⟨own_abides hS.1 (grownBy_putObj' W l o') (fun r e => by cases e; exact .inr ⟨o, hl, ho⟩), hS.2⟩)
    (fun cd x W3 => cd = .exit 0 ∧ Boxed W3 (w.heap.size + 1) 22 (.slice x.1 m x.2.1) ∧ WordS full m x w.heap.size W3 ∧ Below w.heap.size w W3) ?abide
    (fun x => { tmps := #[.agg #[.slice TA m c, .slice TB m d], .pointer (some ⟨w.heap.size, 0, none⟩), .slice none 0 0, .pointer (some ⟨w.heap.size + 1, 0, none⟩), .slice x.1 m x.2.1, .agg #[.slice TA m c, .slice TB m d], .func (.func 153) #[] #[.pointer (some ⟨bt, 0, none⟩)], .slice x.1 m x.2.1, undef, undef], defers := [] }) ?assign ?body ?stop
  case abide =>
    rintro cd x P Q row ⟨rfl, h1, h2, h3⟩ hg hr
    exact ⟨rfl, h1.kept hg (fun e => by have := (hr _ e.symm).1; omega), ⟨own_abides h2.1 hg (fun r e => (hr r e).2), h2.2⟩, h3.grown hg h3.size (fun r e => by have := (hr r e).1; omega)⟩
  case assign =>
    intro l2 x W3 K hK
    dsimp only [wordEnc]
    gi_wp2
    exact hK
  case body =>
    rintro l2 ⟨A3, c3, B3⟩ W3 hx hb3 hs3
    have v3 : Boxed W3 (w.heap.size + 1) 22 (.slice none 0 0) := (hb3.block _ v2.lt).trans v2
    have hw3 : Below w.heap.size w W3 := hw2.trans (hb3.mono hsz2)
    have c33 := v3.cell
    have f33 := v3.frozen
    clear hlt2
    gi_wp2
    have hx1 : Own 2 W3 B3 A3 m c3 (ints full) := hx.1
    have hx2 : w2.heap.size + 2 ≤ B3 := hx.2
    have hL := HLT2.out
    refine ⟨⟨by rw [World.size_setCell]; exact Nat.le_refl _, fun k o hk ho => (Below.heap_setCell W3 _ _ k (fun e => ?_)).trans ho⟩, rfl, v3.set _, ⟨own_other hx1 _ 0 _ (fun q hq => ?_), ?_⟩, hw3.setCell (p := ⟨w.heap.size + 1, 0, none⟩) (Nat.le_succ _) _⟩
    · have e' : k = w.heap.size + 1 := e
      omega
    · have := (hx1.lt q hq).1
      omega
    · show w.heap.size ≤ B3
      omega
  case stop =>
    rintro D cd ⟨A3, c3, B3⟩ W3 hD ⟨rfl, h1, h2, h3⟩ hK
    have c33 : W3.cell? ⟨w.heap.size + 1, 0, none⟩ = some (.slice A3 m c3) := h1.cell
    clear hlt2
    go_wp2_with fail
    refine ⟨by simp, .inl ⟨D, _, rfl, run_takeDeferred hK, ?_⟩⟩
    refine ⟨.slice A3 m c3, by simp [results, Tryd.results67, go_sem], A3, c3, rfl, (own_abides h2.1 (grownBy_putObj' W3 D _) (fun r e => by cases e; exact .inr ⟨_, hK, rfl⟩)).mono h2.2, h3.grown (grownBy_putObj' W3 D _) h3.size (fun r e => by cases e; omega)⟩
end Go.Proofs.YtdafdffmkjhhcaaDoor
