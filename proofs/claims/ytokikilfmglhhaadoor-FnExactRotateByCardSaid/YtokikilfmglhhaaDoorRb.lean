/-
  RotateBy: both sides.
-/
import Derived.Test.YtokikilfmglhhaaDoorSap
import Derived.Deep.RegionWith
namespace Go.Proofs.YtokikilfmglhhaaDoor
open Go Go.RowKit
set_option linter.unusedVariables false
set_option maxRecDepth 100000

/-- Rotating by letters, one after the other. -/
def rtt (D : Nat → Nat → Bool) : List Nat → List Nat → Option (List Nat)
  | [], us => some us
  | a :: ls, us => if freeB D us a then rtt D ls (us.erase a ++ [a]) else none
theorem rot_no (D : Nat → Nat → Bool) (a : Nat) (ls us : List Nat) (h : freeB D us a = false) : rtt D (a :: ls) us = none := by
  show (if freeB D us a then _ else _) = _
  rw [h]; rfl
theorem rot_yes (D : Nat → Nat → Bool) (a : Nat) (ls us : List Nat) (h : freeB D us a = true) : rtt D (a :: ls) us = rtt D ls (us.erase a ++ [a]) := by
  show (if freeB D us a then _ else _) = _
  rw [h]; rfl
def rbF (rs us ts : List Nat) : List Nat × Int := match rtt (RDep rs) ts us with
  | some r => (nfR rs r, 0)
  | none => ([], 5)
theorem rbF_nil (rs us : List Nat) : rbF rs us [] = (nfR rs us, 0) := rfl
theorem rbF_no (rs us ts : List Nat) (a : Nat) (h : freeB (RDep rs) us a = false) : rbF rs us (a :: ts) = ([], 5) := by
  unfold rbF; rw [rot_no _ _ _ _ h]
theorem rbF_yes (rs us ts : List Nat) (a : Nat) (h : freeB (RDep rs) us a = true) : rbF rs us (a :: ts) = rbF rs (us.erase a ++ [a]) ts := by
  unfold rbF; rw [rot_yes _ _ _ _ h]
theorem rot_lt {n a : Nat} {us : List Nat} (h : ∀ x, x ∈ us → x < n) (ha : a < n) : ∀ x, x ∈ us.erase a ++ [a] → x < n := fun x hx => by
  rcases List.mem_append.1 hx with h1 | h1
  · exact h x (List.mem_of_mem_erase h1)
  · rw [List.mem_singleton.1 h1]; exact ha
theorem rbF_eqv (rs : List Nat) (n : Nat) (hl : rs.length = n) (hsym : ∀ a b, RDep rs a b = RDep rs b a) (href : ∀ a, a < n → RDep rs a a = true) : ∀ (ts us vs : List Nat), (∀ x, x ∈ ts → x < n) → (∀ x, x ∈ us → x < n) → (∀ x, x ∈ vs → x < n) → Eqv (RDep rs) us vs → rbF rs us ts = rbF rs vs ts
  | [], us, vs, _, hu, hv, h => by
    rw [rbF_nil, rbF_nil]
    have := (eqv_iff_nf hsym href us vs hu hv).1 h
    have e : ∀ ws, nfR rs ws = nfM (RDep rs) n ws := fun ws => by unfold nfR; rw [hl]
    rw [e, e, this]
  | a :: ts, us, vs, ht, hu, hv, h => by
    have ha := ht a List.mem_cons_self
    have hf := h.free (href a ha)
    cases hfu : freeB (RDep rs) us a
    · rw [hfu] at hf
      rw [rbF_no _ _ _ _ hfu, rbF_no _ _ _ _ hf.symm]
    · have hfv : freeB (RDep rs) vs a = true := by rw [← hf]; exact hfu
      rw [rbF_yes _ _ _ _ hfu, rbF_yes _ _ _ _ hfv]
      exact rbF_eqv rs n hl hsym href ts _ _ (fun x hx => ht x (List.mem_cons_of_mem _ hx)) (rot_lt hu ha) (rot_lt hv ha) (Eqv.append (h.erase hsym (href a ha) hfu) (Eqv.refl _ _))
theorem rbF_len (rs : List Nat) : ∀ ts us : List Nat, (rbF rs us ts).1.length ≤ us.length
  | [], us => by rw [rbF_nil]; exact nfR_len rs us
  | a :: ts, us => by
    cases h : freeB (RDep rs) us a
    · rw [rbF_no _ _ _ _ h]; exact Nat.zero_le _
    · rw [rbF_yes _ _ _ _ h]
      refine Nat.le_trans (rbF_len rs ts _) ?_
      have hm := free_mem _ _ _ h
      rw [List.length_append, List.length_erase_of_mem hm]
      have := List.length_pos_of_mem hm
      show us.length - 1 + 1 ≤ _
      omega
theorem rbF_small (L : Int) (xs us ts : List Int) : (dL rbF L xs us ts).1.length ≤ 24 := dL_small rbF 24 (fun rs us ts h _ => Nat.le_trans (rbF_len rs ts us) h) L xs us ts
theorem nfGo_ltX (D : Nat → Nat → Bool) (n : Nat) : ∀ (k : Nat) (us : List Nat) (x : Nat), x ∈ nfGo D n k us → x < n
  | 0, _, x, h => by cases h
  | k + 1, us, x, h => by
    have h' : x ∈ (match leastFree D n us with | none => [] | some a => a :: nfGo D n k (us.erase a)) := h
    cases hl : leastFree D n us with
    | none => rw [hl] at h'; cases h'
    | some a =>
      rw [hl] at h'
      rcases List.mem_cons.1 h' with e | e
      · rw [e]; exact ((leastFree_iff D n us a).1 hl).1
      · exact nfGo_ltX D n k _ x e
theorem nfR_ltX (rs us : List Nat) (x : Nat) (h : x ∈ nfR rs us) : x < rs.length := by
  unfold nfR nfM at h; exact nfGo_ltX _ _ _ _ x h
theorem nfR_eqv' (rs : List Nat) (n : Nat) (hl : rs.length = n) (hsym : ∀ a b, RDep rs a b = RDep rs b a) (href : ∀ a, a < n → RDep rs a a = true) (us : List Nat) (hu : ∀ x, x ∈ us → x < n) : Eqv (RDep rs) (nfR rs us) us := by
  unfold nfR nfM; rw [hl]; exact nfGo_eqv hsym href us.length us rfl hu
set_option maxHeartbeats 6400000 in
theorem implRotateBy (L : Int) (A : Option Addr) (n c : Nat) (xs : List Int) (A1 : Option Addr) (m d : Nat) (us : List Int) (B1 : Option Addr) (q f : Nat) (ts : List Int) (w : World) (h : Rd w A n xs) (hwf : Wf xs) (hL1 : -9223372036854775808 ≤ L) (hL2 : L ≤ 9223372036854775807) (hn : n ≤ maxLen) (h2 : Rd w A1 m us) (hwf2 : Wf us) (hm : m ≤ maxLen) (h3 : Rd w B1 q ts) (hwf3 : Wf ts) (hq : q ≤ maxLen) (hcm : m ≤ d) (hcq : q ≤ f) (hT : Tab w) :
    Calls Tryd.prog 40 #[.agg #[.int .i64 L, .slice A n c], .slice A1 m d, .slice B1 q f] w (LsPost w (dL rbF L xs us ts).1.length (dL rbF L xs us ts).1 (dL rbF L xs us ts).2) := by
  have hn2 : n ≤ 9223372036854775807 := by unfold maxLen at hn; omega
  have hn1 := h.1
  have hm1 := h2.1
  have hq1 := h3.1
  have HB := Lib.hid (below2 w (.cells #[.int .i64 L, .slice A n c] 24) (.cells #[.slice A1 m d, .slice B1 q f] 22))
  have hh := h.below HB.out
  have ht := rdT_box2 w (.cells #[.int .i64 L, .slice A n c] 24) A1 B1 m d q f us ts 22 h2 hm h3 hq
  have hh2 := h2.below HB.out
  have hh3 := h3.below HB.out
  have hT1 := hT.below HB.out
  cases ha : alphB L xs
  · rw [show dL rbF L xs us ts = _ from dL_no rbF L xs us ts ha]
    have HA := Lib.hid ha
    clear ha ht hn1
    go_enter Tryd.func40, Tryd.ntmps40
    go_wp2_with fail
    refine (dependenceWith_no L _ _ _ _ _ _ xs [] _ hh hwf hL1 hL2 hn2 HA.out hT1).mono ?_
    rintro e w1 ⟨rfl, hb⟩
    go_wp2_with fail
    go_ret2
    exact LsPost.of_ans (ans_no 1 (HB.out.trans (hb.mono HB.out.size)))
  · cases hu : (wordB L us && wordB L ts)
    · rw [show dL rbF L xs us ts = _ from dL_bad rbF L xs us ts ha hu]
      obtain ⟨rs, rfl, rfl, h8, hr, hrel, hl, hd, _⟩ := alphB_nats L xs n hn1 ha
      have HU := Lib.hid hu
      clear ha hu
      go_enter Tryd.func40, Tryd.ntmps40
      go_wp2_with fail
      refine (dependenceWith_any _ _ _ _ _ _ rs _ _ hh hwf h8 hr hrel hd ht (by omega) hT1).mono ?_
      rw [okT_pair, HU.out]
      rintro e w1 (⟨hok, _⟩ | ⟨hok, rfl, hb⟩)
      · cases hok
      go_wp2_with fail
      go_ret2
      exact LsPost.of_ans (ans_no 2 (HB.out.trans (hb.mono HB.out.size)))
    · obtain ⟨rs, rfl, rfl, h8, hr, hrel, hl, hd, _⟩ := alphB_nats L xs n hn1 ha
      have hu' := hu
      rw [Bool.and_eq_true] at hu'
      obtain ⟨vs, rfl, hv24, hvn⟩ := wordB_nats n us hu'.1
      obtain ⟨ys, rfl, hy24, hyn⟩ := wordB_nats n ts hu'.2
      rw [show dL rbF (n : Int) (ints rs) (ints vs) (ints ys) = _ from dL_yes rbF (n : Int) rs vs ys ha hu]
      have HU := Lib.hid hu
      have HDEP := Lib.hid ((depB_iff rs n hl hr).1 hd)
      rw [ints_len] at hm1 hq1
      have hm24 : m ≤ 24 := by omega
      have hq24 : q ≤ 24 := by omega
      have HLU := Lib.hid hm1
      have HLQ := Lib.hid hq1
      have HLR := Lib.hid hl
      have HR := Lib.hid hr
      have HVM := Lib.hid hvn
      have HYM := Lib.hid hyn
      have HSY : Hid (∀ a b, RDep rs a b = RDep rs b a) := Lib.hid (rdep_sym rs n hl hr HDEP.out)
      have HRE : Hid (∀ a, a < n → RDep rs a a = true) := Lib.hid fun a ha9 => HDEP.out.1 a (by rw [HLR.out]; exact ha9)
      have HR63 : Hid (∀ i, rs.getD i 0 < 9223372036854775808) := Lib.hid fun i => lt63 (by omega) (hr i)
      clear ha hu hu' hl hm1 hq1
      go_enter Tryd.func40, Tryd.ntmps40
      go_wp2_with fail
      refine (dependenceWith_any _ _ _ _ _ _ rs _ _ hh hwf h8 hr hrel hd ht (by omega) hT1).mono ?_
      rw [okT_pair, HU.out]
      rintro e w1 (⟨hok, A2, c2, rfl, ho, hb⟩ | ⟨hok, _⟩)
      rotate_left
      · cases hok
      have HB1 := Lib.hid (HB.out.trans (hb.mono HB.out.size))
      have hr2 := hh2.below hb
      have hr3 := hh3.below hb
      have hrd := ho.rd
      have hT2 := hT1.below hb
      have h24 : n ≤ 24 := by omega
      clear ho hb hok ht hh hh2 hh3 hT1 hT h h2 h3 hr hvn hyn hd hrel
      obtain ⟨i0, hi, hz0, hz1, hz2⟩ := info_parts info_int
      obtain ⟨V, hV⟩ : ∃ V, V = rbF rs vs ys := ⟨_, rfl⟩
      have HV := Lib.hid hV
      rw [← hV]
      clear hV
      go_wp2_with fail
      go_loopw [10, 29] (fun p i wr => ∃ (k cr : Nat) (zs : List Nat) (Ar : Option Addr), k ≤ q ∧ p = .slice Ar m cr ∧ i = .int .i64 (k : Int) ∧ Rd wr Ar m (ints zs) ∧ m ≤ cr ∧ V = rbF rs zs (ys.drop k) ∧ (∀ x, x ∈ zs → x < n) ∧ Below w1.heap.size w1 wr) (fun _ i _ => q - (intOf i).toNat)
      case atStart => exact ⟨0, d, vs, A1, Nat.zero_le _, rfl, rfl, hr2, hcm, HV.out, HVM.out, Below.refl _ _⟩
      case round =>
        obtain ⟨k, cr, zs, Ar, hk, rfl, rfl, hrz, hcr, hv, hzn, hb⟩ := hrel
        have HVK := Lib.hid hv
        have HZN := Lib.hid hzn
        have HLZ : Hid (zs.length = m) := Lib.hid (by have := hrz.1; rw [ints_len] at this; exact this)
        clear hv hzn
        by_cases hlt : k < q
        · obtain ⟨gu, ou, x, eU, hgu, hxu, hcx⟩ := (hr3.below hb).at_ hlt
          rw [ints_getD ys k (by rw [HLQ.out]; exact hlt)] at hxu
          injection hxu with hxu
          have hun : ys.getD k 0 < n := HYM.out _ (by rw [List.getD_eq_getElem?_getD, List.getElem?_eq_getElem (by rw [HLQ.out]; exact hlt)]; exact List.getElem_mem _)
          have hdrop := drop_at ys k (by rw [HLQ.out]; exact hlt)
          obtain ⟨u, hu⟩ : ∃ u, u = ys.getD k 0 := ⟨_, rfl⟩
          rw [← hu] at hxu hun hdrop
          have HDR := Lib.hid hdrop
          subst hxu eU
          clear hu hdrop
          have HWO := Lib.hid (without_any A2 Ar n c2 m cr u rs zs wr (hrd.below hb) h24 HR.out HSY.out HRE.out hrz (by omega) hcr HZN.out hun)
          go_wp2_with fail
          refine HWO.out.mono ?_
          rintro e w4 (⟨hf, h0, A4, c4, rfl, o4, hb4⟩ | ⟨hf, rfl, rfl⟩)
          · have HF := Lib.hid hf
            have hmq : m - 1 + 1 = m := by omega
            have hml : m - 1 + 1 ≤ maxLen := by unfold maxLen; omega
            have hby2 : (m - 1 + 1) * 8 ≤ 140737488355328 := by omega
            clear hf
            go_wp2_with (at_builtin; refine wpList_append_own _ rfl _ _ 22 rfl wr.heap.size 2 i0 (.int .i64 0) 1 8 Tryd.underlying22 hi hz0 hz1 hz2 rfl (by decide) (.slice A4 (m - 1) c4) (m - 1) ((ints (zs.erase u)).map (Value.int .i64)) rfl (World.ownsRow.alloc o4 _) ⟨w4.heap.size, 0, none⟩ 1 1 [.int .i64 (u : Int)] rfl rfl ?c1 ?c2 hml hby2 ?c5 ?_)
            case c1 => exact cell_one_new _ _ _
            case c2 => intro z hz; simp at hz; subst hz; rfl
            case c5 => have := hb4.size; simp; omega
            intro v' w5 hown hg _
            rw [ints_snoc_map] at hown
            have hb5 : Below wr.heap.size wr w5 := (hb4.alloc hb4.size _).grown hg (by have := hb4.size; simp; omega) (fun r hr => (World.ownsRow.lt o4 r hr).1)
            obtain ⟨A5, c5, hv, ho5⟩ := own_shape hown
            rw [hv]
            have hcap := own_cap ho5
            have hrd5 := ho5.rd
            clear hg hown hv o4
            go_wp2_with fail
            go_roundw
            case rel => exact ⟨k + 1, c5, zs.erase u ++ [u], A5, hlt, rfl, by go_num, hrd5, hcap, by rw [HVK.out, HDR.out, rbF_yes _ _ _ _ HF.out], rot_lt HZN.out hun, hb.trans (hb5.mono hb.size)⟩
            case measure => simp [intOf]; omega
          · have HA : Hid (V = ([], 5)) := Lib.hid (by rw [HVK.out, HDR.out, rbF_no _ _ _ _ hf])
            clear hf
            go_wp2_with fail
            go_ret2
            rw [← HV.out, HA.out]
            exact LsPost.of_ans (ans_no 5 (HB1.out.trans (hb.mono HB1.out.size)))
        · have hkm : k = q := by omega
          subst hkm
          have HA : Hid (V = (nfR rs zs, 0)) := Lib.hid (by rw [HVK.out, List.drop_of_length_le (by rw [HLQ.out]; exact Nat.le_refl _)]; exact rbF_nil rs zs)
          have HRK : Hid (∀ x, x < m → zs.getD x 0 < n) := Lib.hid fun x hx => in_getD HZN.out x (by rw [HLZ.out]; exact hx)
          have HB2 := Lib.hid (HB1.out.trans (hb.mono HB1.out.size))
          have HT1 := Lib.hid (traceOf_any A2 Ar n m c2 cr rs zs wr (hrd.below hb) hrz hm24 h24 HRK.out HR63.out (hT2.below hb))
          have hTw := hT2.below hb
          clear hrz hb
          go_wp2_with fail
          refine HT1.out.mono ?_
          rintro e v1 ⟨E1, g1, F1, k1, es1, rfl, hp, hs, h1, h2, -, -, ha1⟩
          have HN1 := Lib.hid (nf_from E1 F1 g1 k1 m n rs zs es1 v1 HLR.out HR.out HDEP.out HLZ.out HRK.out hm24 hp hs h1 h2 (hTw.below ha1))
          clear hp hs h1 h2
          go_wp2_with fail
          refine HN1.out.mono ?_
          rintro e u1 ⟨G1, l1, rfl, ho1, hb1⟩
          go_wp2_with fail
          go_ret2
          rw [← HV.out, HA.out]
          have HZ := HB2.out.trans (ha1.mono HB2.out.size)
          exact LsPost.of_ans (ans_yes ho1.len (ho1.mono HZ.size) (HZ.trans (hb1.mono HZ.size)))
def RotPost (rs us : List Nat) (a m : Nat) (w : World) (e : Ending) (w' : World) : Prop :=
  (freeB (RDep rs) us a = true ∧ ∃ A' c', e = .returned (.tuple #[.slice A' m c', .bool true]) ∧ Own 2 w' w.heap.size A' m c' (ints (nfR rs (us.erase a ++ [a]))) ∧ Below w.heap.size w w') ∨
  (freeB (RDep rs) us a = false ∧ e = .returned (.tuple #[.slice none 0 0, .bool false]) ∧ Below w.heap.size w w')
set_option maxHeartbeats 6400000 in
theorem l07Rotate_any (A B : Option Addr) (n c m d a : Nat) (rs us : List Nat) (w : World) (h : Rd w A n (ints rs)) (hl : rs.length = n) (hn : n ≤ 24) (hr : ∀ i, rs.getD i 0 < 2 ^ n) (h2 : Rd w B m (ints us)) (hm : m ≤ 24) (hmd : m ≤ d) (hus : ∀ x, x ∈ us → x < n) (ha : a < n) :
    Calls Tryd.prog 78 #[.agg #[.int .i64 (n : Int), .slice A n c], .slice B m d, .int .i64 (a : Int)] w (RotPost rs us a m w) := by
  obtain ⟨i0, hi, hz0, hz1, hz2⟩ := info_parts info_int
  have HLU : Hid (us.length = m) := Lib.hid (by have := h2.1; rw [ints_len] at this; exact this)
  have HR := Lib.hid hr
  have HUS := Lib.hid hus
  have HLR := Lib.hid hl
  have hB0 := below1 w (.cells #[.int .i64 (n : Int), .slice A n c] 24)
  have x0 := box_new 24 w (n : Int) A n c
  obtain ⟨w1, hw1⟩ : ∃ w1, w.alloc (.cells #[.int .i64 (n : Int), .slice A n c] 24) = w1 := ⟨_, rfl⟩
  rw [hw1] at x0 hB0
  have hh := h.below hB0
  have hh2 := h2.below hB0
  have HB0 := Lib.hid hB0
  have y0 := x0.c0
  have y1 := x0.c1
  have hFI := l03First_any (n : Int) A B n c m d a rs us w1 hh hn HR.out hh2 hm (fun p hp => in_getD HUS.out p (by rw [HLU.out]; exact hp)) ha
  clear hr hus hl h h2 hB0
  cases hf : freeB (RDep rs) us a
  · have hfi : firstI (RDep rs) us a = -1 := by unfold firstI; rw [hf]; rfl
    rw [hfi] at hFI
    have HFI := Lib.hid hFI
    have HF := Lib.hid hf
    clear hFI hfi hf
    go_enter Tryd.func78, Tryd.ntmps78
    go_wp2_with fail
    refine HFI.out.mono ?_
    rintro e w4 ⟨rfl, hb4⟩
    go_wp2_with fail
    go_ret2
    exact .inr ⟨HF.out, rfl, HB0.out.trans (hb4.mono HB0.out.size)⟩
  · have hmem := free_mem (RDep rs) a us hf
    have hidx : us.idxOf a < m := by rw [← HLU.out]; exact List.idxOf_lt_length_of_mem hmem
    have hfi : firstI (RDep rs) us a = ((us.idxOf a : Nat) : Int) := by unfold firstI; rw [hf]; rfl
    rw [hfi] at hFI
    have HER := Lib.hid (erase_idx us a hmem)
    have HF := Lib.hid hf
    have HEM := Lib.hid (rot_lt HUS.out ha)
    have HLE : Hid ((us.erase a ++ [a]).length = m) := Lib.hid (by
      rw [List.length_append, List.length_erase_of_mem hmem, HLU.out]
      show m - 1 + 1 = m
      omega)
    obtain ⟨qi, hqi⟩ : ∃ qi, qi = us.idxOf a := ⟨_, rfl⟩
    rw [← hqi] at hidx hFI HER
    have HFI := Lib.hid hFI
    have h0m : 0 < m := by omega
    obtain ⟨gr, og, eB, hgr, _⟩ := hh2.2 h0m
    subst eB
    have HWI : Hid (∀ ww, Below w1.heap.size w1 ww → Calls Tryd.prog 104 #[.slice (some ⟨gr, og, none⟩) m d, .int .i64 (qi : Int)] ww (MakesE 2 ww (m - 1) (ints (us.erase a)))) := Lib.hid fun ww hw => by
      have := l03Without_any gr og m d qi us ww (hh2.below hw) hm hidx hmd
      rw [HER.out] at this
      exact this
    have HNO : Hid (∀ ww A3 c3, Below w1.heap.size w1 ww → Rd ww A3 m (ints (us.erase a ++ [a])) → Calls Tryd.prog 71 #[.agg #[.int .i64 (n : Int), .slice A n c], .slice A3 m c3] ww (MakesE 2 ww m (ints (nfR rs (us.erase a ++ [a]))))) := Lib.hid fun ww A3 c3 hw h3 => by
      have := l03Normal_any A A3 n c m c3 rs (us.erase a ++ [a]) ww (hh.below hw) hn HR.out h3 hm (fun p hp => in_getD HEM.out p (by rw [HLE.out]; exact hp))
      have e : nfM (RDep rs) n (us.erase a ++ [a]) = nfR rs (us.erase a ++ [a]) := by unfold nfR; rw [HLR.out]
      rw [e] at this
      exact this
    have hmq : m - 1 + 1 = m := by omega
    have hml : m - 1 + 1 ≤ maxLen := by unfold maxLen; omega
    have hby2 : (m - 1 + 1) * 8 ≤ 140737488355328 := by omega
    have hI0 : ¬ ((qi : Int) < 0) := by omega
    clear hFI hfi hf hmem hqi
    go_enter Tryd.func78, Tryd.ntmps78
    go_wp2_with fail
    refine HFI.out.mono ?_
    rintro e w4 ⟨rfl, hb4⟩
    have z0 := (x0.next hb4).c0
    have z1 := (x0.next hb4).c1
    have x4 := x0.next hb4
    have HB4 := Lib.hid hb4
    have hcur : Below w1.heap.size w1 w4.drew := hb4.drew
    clear hb4
    have hlit : Below w4.heap.size w4 ((w4.alloc (.cells #[.int .i64 (a : Int)] 2)).drew) := (below1 w4 _).drew
    have hcurA : Below w1.heap.size w1 ((w4.alloc (.cells #[.int .i64 (a : Int)] 2)).drew) := HB4.out.trans (hlit.mono HB4.out.size)
    have rlA : Rd ((w4.alloc (.cells #[.int .i64 (a : Int)] 2)).drew) (some ⟨w4.heap.size, 0, none⟩) 1 (ints [a]) := (rd_lit w4 a 2).below ((Below.refl _ _).drew)
    have a0 := (x0.next hcurA).c0
    have a1 := (x0.next hcurA).c1
    have a2 := (x0.next hcur).c0
    have a3 := (x0.next hcur).c1
    go_wp2_with fail
    go_region_law (first
      | (go_simp; go_at_call 104; first
          | ((with_reducible refine (HWI.out _ hcurA).mono ?_); rintro e w5 ⟨A5, c5, rfl, o5, hb5⟩; have hcz := hcurA.size; have hcur5 := hcurA.trans (hb5.mono hcz); have o5 := o5.mono hcz; have rl5 := rlA.below hb5; have s0 := (x0.next hcur5).c0; have s1 := (x0.next hcur5).c1)
          | ((with_reducible refine (HWI.out _ hcur).mono ?_); rintro e w5 ⟨A5, c5, rfl, o5, hb5⟩; have hcz := hcur.size; have hcur5 := hcur.trans (hb5.mono hcz); have o5 := o5.mono hcz; have hcurB := hcur5.trans ((below1 w5 (.cells #[.int .i64 (a : Int)] 2)).mono hcur5.size); have s0 := (x0.next hcur5).c0; have s1 := (x0.next hcur5).c1; have t0 := (x0.next hcurB).c0; have t1 := (x0.next hcurB).c1))
      | (refine step_append_at rfl (.tmp 18) (.tmp 20) rfl w1.heap.size A5 (m - 1) c5 (us.erase a) (by go_simp) o5 (some ⟨w4.heap.size, 0, none⟩) 1 1 [a] (by go_simp) rl5 hml hby2 hcur5.size ?_; rintro v3 w6 ⟨A6, c6, rfl, o6, -⟩ hg6; have hcur6 : Below w1.heap.size w1 w6 := hcur5.grown hg6 hcur5.size (fun k e9 => (o5.lt k e9).1); have p0 := (x0.next hcur6).c0; have p1 := (x0.next hcur6).c1)
      | (refine step_append_at rfl (.tmp 18) (.tmp 20) rfl w1.heap.size A5 (m - 1) c5 (us.erase a) (by go_simp) (World.ownsRow.alloc o5 _) (some ⟨w5.heap.size, 0, none⟩) 1 1 [a] (by go_simp) (rd_lit w5 a 2) hml hby2 hcurB.size ?_; rintro v3 w6 ⟨A6, c6, rfl, o6, -⟩ hg6; have hcur6 : Below w1.heap.size w1 w6 := hcurB.grown hg6 hcurB.size (fun k e9 => (o5.lt k e9).1); have p0 := (x0.next hcur6).c0; have p1 := (x0.next hcur6).c1)
      | (go_simp; go_at_call 71; refine (HNO.out _ _ _ hcur6 (by simpa only [hmq] using o6.rd)).mono ?_; rintro e w7 ⟨A7, c7, rfl, o7, hb7⟩))
    all_goals (
      go_wp2_with fail
      go_ret2
      have hb17 := hcur6.trans (hb7.mono hcur6.size)
      exact .inl ⟨HF.out, A7, c7, rfl, o7.mono (by have := HB0.out.size; have := hcur6.size; omega), HB0.out.trans (hb17.mono HB0.out.size)⟩)
set_option maxHeartbeats 6400000 in
theorem specRotateBy (L : Int) (A : Option Addr) (n c : Nat) (xs : List Int) (A1 : Option Addr) (m d : Nat) (us : List Int) (B1 : Option Addr) (q f : Nat) (ts : List Int) (w : World) (h : Rd w A n xs) (hwf : Wf xs) (hL1 : -9223372036854775808 ≤ L) (hL2 : L ≤ 9223372036854775807) (hn : n ≤ maxLen) (h2 : Rd w A1 m us) (hwf2 : Wf us) (hm : m ≤ maxLen) (h3 : Rd w B1 q ts) (hwf3 : Wf ts) (hq : q ≤ maxLen) :
    Calls Tryd.prog 39 #[.agg #[.int .i64 L, .slice A n c], .slice A1 m d, .slice B1 q f] w (LsPost w (dL rbF L xs us ts).1.length (dL rbF L xs us ts).1 (dL rbF L xs us ts).2) := by
  have hn2 : n ≤ 9223372036854775807 := by unfold maxLen at hn; omega
  have hm2 : m ≤ 9223372036854775807 := by unfold maxLen at hm; omega
  have hq2 : q ≤ 9223372036854775807 := by unfold maxLen at hq; omega
  have hn1 := h.1
  have hm1 := h2.1
  have hq1 := h3.1
  have HB := Lib.hid (below1 w (.cells #[.int .i64 L, .slice A n c] 24))
  have x0 := box_new 24 w L A n c
  have hh := h.below HB.out
  have hh2 := h2.below HB.out
  have hh3 := h3.below HB.out
  have HCD := Lib.hid (l03Code_any L A A1 B1 n c m d q f xs us ts _ hh hn2 hh2 hm2 hh3 hq2)
  cases ha : alphB L xs
  · rw [show dL rbF L xs us ts = _ from dL_no rbF L xs us ts ha]
    have HD := Lib.hid (wCode2_no L xs us ts ha)
    clear ha hn1
    go_enter Tryd.func39, Tryd.ntmps39
    go_wp2_with fail
    refine HCD.out.mono ?_
    rintro e w1 ⟨rfl, hb⟩
    rw [HD.out]
    go_wp2_with fail
    go_ret2
    exact LsPost.of_ans (ans_no 1 (HB.out.trans (hb.mono HB.out.size)))
  · cases hu : (wordB L us && wordB L ts)
    · rw [show dL rbF L xs us ts = _ from dL_bad rbF L xs us ts ha hu]
      have HD := Lib.hid (wCode2_bad L xs us ts ha hu)
      clear ha hu hn1
      go_enter Tryd.func39, Tryd.ntmps39
      go_wp2_with fail
      refine HCD.out.mono ?_
      rintro e w1 ⟨rfl, hb⟩
      rw [HD.out]
      go_wp2_with fail
      go_ret2
      exact LsPost.of_ans (ans_no 2 (HB.out.trans (hb.mono HB.out.size)))
    · have HD := Lib.hid (wCode2_yes L xs us ts ha hu)
      obtain ⟨rs, rfl, rfl, h8, hr, hrel, hl, hd, _⟩ := alphB_nats L xs n hn1 ha
      have hu' := hu
      rw [Bool.and_eq_true] at hu'
      obtain ⟨vs, rfl, hv24, hvn⟩ := wordB_nats n us hu'.1
      obtain ⟨ys, rfl, hy24, hyn⟩ := wordB_nats n ts hu'.2
      rw [show dL rbF (n : Int) (ints rs) (ints vs) (ints ys) = _ from dL_yes rbF (n : Int) rs vs ys ha hu]
      rw [ints_len] at hm1 hq1
      have HDEP := Lib.hid ((depB_iff rs n hl hr).1 hd)
      have HLU := Lib.hid hm1
      have HLQ := Lib.hid hq1
      have HLR := Lib.hid hl
      have HR := Lib.hid hr
      have HVM := Lib.hid hvn
      have HYM := Lib.hid hyn
      have HSY : Hid (∀ a b, RDep rs a b = RDep rs b a) := Lib.hid (rdep_sym rs n hl hr HDEP.out)
      have HRE : Hid (∀ a, a < n → RDep rs a a = true) := Lib.hid fun a ha9 => HDEP.out.1 a (by rw [HLR.out]; exact ha9)
      have HNR : Hid (∀ ws, nfM (RDep rs) n ws = nfR rs ws) := Lib.hid (fun ws => by unfold nfR; rw [HLR.out])
      have hm24 : m ≤ 24 := by omega
      have hq24 : q ≤ 24 := by omega
      have h24 : n ≤ 24 := by omega
      clear ha hu hu' hl hm1 hq1 hr hvn hyn hd hrel
      go_enter Tryd.func39, Tryd.ntmps39
      go_wp2_with fail
      refine HCD.out.mono ?_
      rintro e w1 ⟨rfl, hb⟩
      rw [HD.out]
      have y0 := (x0.next hb).c0
      have y1 := (x0.next hb).c1
      have x1 := x0.next hb
      have HB1 := Lib.hid (HB.out.trans (hb.mono HB.out.size))
      have hrd := hh.below hb
      have hr2 := hh2.below hb
      have hr3 := hh3.below hb
      clear hh hh2 hh3 h h2 h3 hb x0
      obtain ⟨V, hV⟩ : ∃ V, V = rbF rs vs ys := ⟨_, rfl⟩
      have HV := Lib.hid hV
      have HNO := Lib.hid (l03Normal_any A A1 n c m d rs vs w1 hrd h24 HR.out hr2 hm24 (fun p hp => in_getD HVM.out p (by rw [HLU.out]; exact hp)))
      rw [HNR.out] at HNO
      have HNE : Hid (Eqv (RDep rs) (nfR rs vs) vs) := Lib.hid (nfR_eqv' rs n HLR.out HSY.out HRE.out vs HVM.out)
      have HNL : Hid (∀ x, x ∈ nfR rs vs → x < n) := Lib.hid fun x hx => by have := nfR_ltX rs vs x hx; rw [HLR.out] at this; exact this
      have HV0 : Hid (V = rbF rs (nfR rs vs) ys) := Lib.hid (by rw [hV]; exact rbF_eqv rs n HLR.out HSY.out HRE.out ys _ _ HYM.out HVM.out HNL.out HNE.out.symm)
      have HNI : Hid (∃ us', nfR rs vs = nfR rs us' ∧ ∀ x, x ∈ us' → x < n) := Lib.hid ⟨vs, rfl, HVM.out⟩
      obtain ⟨z0, hz0⟩ : ∃ z, z = nfR rs vs := ⟨_, rfl⟩
      rw [← hz0] at HNO HNL HV0 HNI
      clear hz0 hV HNE hr2
      go_wp2_with fail
      refine HNO.out.mono ?_
      rintro e w2 ⟨A2, c2, rfl, o2, hb2⟩
      have hcap0 := own_cap o2
      go_wp2_with fail
      go_loopw [9, 10] (fun p i wr => ∃ (k cr : Nat) (zs : List Nat) (Ar : Option Addr), k ≤ q ∧ p = .slice Ar m cr ∧ i = .int .i64 (k : Int) ∧ Own 2 wr w1.heap.size Ar m cr (ints zs) ∧ V = rbF rs zs (ys.drop k) ∧ (∃ us', zs = nfR rs us' ∧ ∀ x, x ∈ us' → x < n) ∧ (∀ x, x ∈ zs → x < n) ∧ Below w1.heap.size w1 wr) (fun _ i _ => q - (intOf i).toNat)
      case atStart => exact ⟨0, c2, z0, A2, Nat.zero_le _, rfl, rfl, o2, HV0.out, HNI.out, HNL.out, hb2⟩
      case round =>
        clear o2 hb2
        obtain ⟨k, cr, zs, Ar, hk, rfl, rfl, ho, hv, hni, hzn, hb⟩ := hrel
        have HVK := Lib.hid hv
        have HZI := Lib.hid hni
        have HZN := Lib.hid hzn
        have HLZ : Hid (zs.length = m) := Lib.hid (by have := ho.rd.1; rw [ints_len] at this; exact this)
        clear hv hni hzn
        have x1 := x1.next hb
        have y0 := x1.c0
        have y1 := x1.c1
        have HB2 := Lib.hid (HB1.out.trans (hb.mono HB1.out.size))
        by_cases hlt : k < q
        · obtain ⟨gu, ou, x, eU, hgu, hxu, hcx⟩ := (hr3.below hb).at_ hlt
          rw [ints_getD ys k (by rw [HLQ.out]; exact hlt)] at hxu
          injection hxu with hxu
          have hun : ys.getD k 0 < n := HYM.out _ (by rw [List.getD_eq_getElem?_getD, List.getElem?_eq_getElem (by rw [HLQ.out]; exact hlt)]; exact List.getElem_mem _)
          have hdrop := drop_at ys k (by rw [HLQ.out]; exact hlt)
          obtain ⟨u, hu⟩ : ∃ u, u = ys.getD k 0 := ⟨_, rfl⟩
          rw [← hu] at hxu hun hdrop
          have HDR := Lib.hid hdrop
          subst hxu eU
          clear hu hdrop
          have hdw : Below wr.heap.size wr wr.drew := (Below.refl _ _).drew
          have HRO := Lib.hid (l07Rotate_any A Ar n c m cr u rs zs wr.drew ((hrd.below hb).below hdw) HLR.out h24 HR.out (ho.rd.below hdw) hm24 (own_cap ho) HZN.out hun)
          have HNX : Hid (∀ x, x ∈ zs.erase u ++ [u] → x < n) := Lib.hid (rot_lt HZN.out hun)
          have HNE : Hid (Eqv (RDep rs) (nfR rs (zs.erase u ++ [u])) (zs.erase u ++ [u])) := Lib.hid (nfR_eqv' rs n HLR.out HSY.out HRE.out _ HNX.out)
          have HNL2 : Hid (∀ x, x ∈ nfR rs (zs.erase u ++ [u]) → x < n) := Lib.hid fun x hx => by have := nfR_ltX rs _ x hx; rw [HLR.out] at this; exact this
          have HVN : Hid (freeB (RDep rs) zs u = true → V = rbF rs (nfR rs (zs.erase u ++ [u])) (ys.drop (k + 1))) := Lib.hid fun hf => by
            rw [HVK.out, HDR.out, rbF_yes _ _ _ _ hf]
            exact rbF_eqv rs n HLR.out HSY.out HRE.out _ _ _ (fun x hx => HYM.out x (List.mem_of_mem_drop hx)) HNX.out HNL2.out HNE.out.symm
          have HVE : Hid (freeB (RDep rs) zs u = false → V = ([], 5)) := Lib.hid fun hf => by rw [HVK.out, HDR.out, rbF_no _ _ _ _ hf]
          have HNI2 : Hid (∃ us', nfR rs (zs.erase u ++ [u]) = nfR rs us' ∧ ∀ x, x ∈ us' → x < n) := Lib.hid ⟨_, rfl, HNX.out⟩
          have hszd : w1.heap.size ≤ wr.drew.heap.size := by have := hb.size; have := hdw.size; omega
          unfold RotPost at HRO
          obtain ⟨zz, hzz⟩ : ∃ zz, zz = nfR rs (zs.erase u ++ [u]) := ⟨_, rfl⟩
          rw [← hzz] at HRO HVN HNI2 HNL2
          obtain ⟨fb, hfb⟩ : ∃ fb, fb = freeB (RDep rs) zs u := ⟨_, rfl⟩
          rw [← hfb] at HRO HVN HVE
          clear hzz hfb HNE HNX
          cases fb
          · have HVA := Lib.hid (HVE.out rfl)
            have HR2 := Lib.hid (HRO.out.mono (R' := fun e w' => e = .returned (.tuple #[.slice none 0 0, .bool false]) ∧ Below wr.drew.heap.size wr.drew w') (fun e w' h9 => by
              rcases h9 with ⟨h8, _⟩ | ⟨_, h8, h7⟩
              · cases h8
              · exact ⟨h8, h7⟩))
            clear HRO HVN HVE
            go_wp2_with fail
            go_region_with (go_at_call 78; refine HR2.out.mono ?_; rintro e w4 ⟨rfl, hb4⟩)
            all_goals (
              have hb04 : Below wr.heap.size wr w4 := hdw.trans (hb4.mono hdw.size)
              go_wp2_with fail
              go_ret2
              rw [← HV.out, HVA.out]
              exact LsPost.of_ans (ans_no 5 (HB2.out.trans (hb04.mono HB2.out.size))))
          · have HVA := Lib.hid (HVN.out rfl)
            have HR2 := Lib.hid (HRO.out.mono (R' := fun e w' => ∃ A' c', e = .returned (.tuple #[.slice A' m c', .bool true]) ∧ Own 2 w' wr.drew.heap.size A' m c' (ints zz) ∧ Below wr.drew.heap.size wr.drew w') (fun e w' h9 => by
              rcases h9 with ⟨_, h8⟩ | ⟨h8, _⟩
              · exact h8
              · cases h8))
            clear HRO HVN HVE
            go_wp2_with fail
            go_region_with (go_at_call 78; refine HR2.out.mono ?_; rintro e w4 ⟨A4, c4, rfl, o4, hb4⟩)
            all_goals (
              have hb04 : Below wr.heap.size wr w4 := hdw.trans (hb4.mono hdw.size)
              have o4' := o4.mono hszd
              clear o4
              go_wp2_with fail
              go_roundw
              case rel => exact ⟨k + 1, c4, zz, A4, hlt, rfl, by go_num, o4', HVA.out, HNI2.out, HNL2.out, hb.trans (hb04.mono hb.size)⟩
              case measure => simp [intOf]; omega)
        · have hkm : k = q := by omega
          subst hkm
          have HA : Hid (V = (zs, 0)) := Lib.hid (by
            rw [HVK.out, List.drop_of_length_le (by rw [HLQ.out]; exact Nat.le_refl _), rbF_nil]
            obtain ⟨us', e, hus'⟩ := HZI.out
            have h1 := nfR_eqv' rs n HLR.out HSY.out HRE.out us' hus'
            have h2 := (eqv_iff_nf HSY.out HRE.out _ _ (fun x hx => by have := nfR_ltX rs us' x hx; rw [HLR.out] at this; exact this) hus').1 h1
            rw [HNR.out, HNR.out, ← e] at h2
            rw [h2])
          go_wp2_with fail
          go_ret2
          rw [← HV.out, HA.out]
          exact LsPost.of_ans (ans_yes (by rw [ints_len]; exact HLZ.out) (ho.mono HB1.out.size) HB2.out)
end Go.Proofs.YtokikilfmglhhaaDoor
