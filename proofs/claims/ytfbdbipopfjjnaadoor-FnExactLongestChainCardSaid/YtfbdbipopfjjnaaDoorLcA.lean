/-
  LongestChain: both sides.
-/
import Derived.Test.YtfbdbipopfjjnaaDoorLcM
import Derived.Test.YtfbdbipopfjjnaaDoorOrA
namespace Go.Proofs.YtfbdbipopfjjnaaDoor
open Go Go.RowKit
set_option linter.unusedVariables false
set_option maxRecDepth 100000

def lcR (rs us : List Nat) : List Nat := chL rs (nfR rs us) us.length 25 (2 ^ us.length - 1)
def lcAns (L : Int) (xs us : List Int) : List Int × Int := wAns lcR L xs us
theorem chL_le (rs us : List Nat) (m : Nat) : ∀ f s, (chL rs us m f s).length ≤ f
  | 0, _ => Nat.le_refl _
  | f + 1, s => by
    have e : chL rs us m (f + 1) s = if s = 0 then [] else nextC rs us m s :: chL rs us m f (abvS rs us m (nextC rs us m s)) := rfl
    rw [e]
    split
    · exact Nat.zero_le _
    · rw [List.length_cons]; have := chL_le rs us m f (abvS rs us m (nextC rs us m s)); omega
theorem lcAns_small (L : Int) (xs us : List Int) : (lcAns L xs us).1.length ≤ 25 := wAns_small _ 25 (fun rs us _ h => chL_le _ _ _ _ _) L xs us
theorem info_sl : (Tryd.prog.info? 22).map (fun i => (i.zero, i.size, i.bytes)) = some (some (.slice none 0 0), 1, 24) := by kernel_rfl
/-- A row of slices that a call has made. -/
def BRow (w : World) (lo bb m : Nat) (vs : List Value) : Prop := w.ownsRow lo 22 1 (.slice (some ⟨bb, 0, none⟩) m m) m vs
def EltOk (w : World) (bb : Nat) (vs : List Value) (j : Nat) (zs : List Nat) : Prop := ∃ b off c, vs[j]? = some (.slice (some ⟨b, off, none⟩) zs.length c) ∧ Rd w (some ⟨b, off, none⟩) zs.length (ints zs) ∧ b ≠ bb
section
variable {w w' : World} {lo bb m : Nat} {vs : List Value}
theorem BRow.len (h : BRow w lo bb m vs) : vs.length = m := by have := h.1; simpa using this
theorem BRow.cell (h : BRow w lo bb m vs) {k : Nat} {v : Value} (hv : vs[k]? = some v) : w.cell? ⟨bb, k, none⟩ = some v := by
  have := World.ownsRow.cells h (g := bb) rfl k v hv
  rw [add_zero_off] at this
  exact this
theorem BRow.fr (h : BRow w lo bb m vs) (k : Nat) : w.frozen? ⟨bb, k, none⟩ = false := World.ownsRow.frozenAt h k
theorem BRow.lt (h : BRow w lo bb m vs) : lo ≤ bb ∧ bb < w.heap.size := by
  have := World.ownsRow.lt h bb (by simp [Value.ownBlock])
  exact this
theorem BRow.set (h : BRow w lo bb m vs) (k : Nat) (v : Value) : BRow (w.setCell ⟨bb, k, none⟩ v) lo bb m (vs.set k v) := (World.ownsRow.stored h k v).1
theorem BRow.below (h : BRow w lo bb m vs) (hb : Below w.heap.size w w') : BRow w' lo bb m vs := World.ownsRow.kept h (grownBy_of_below hb) (by have e : (Value.slice (some ⟨bb, 0, none⟩) m m).ownBlock = some bb := rfl; simp [e])
theorem EltOk.below {j : Nat} {zs : List Nat} (h : EltOk w bb vs j zs) (hb : Below w.heap.size w w') : EltOk w' bb vs j zs := by
  obtain ⟨b, off, c, h1, h2, h3⟩ := h
  exact ⟨b, off, c, h1, h2.below hb, h3⟩
theorem rd_set {A : Option Addr} {n k : Nat} {xs : List Int} (h : Rd w A n xs) (v : Value) (hne : ∀ b, 0 < n → A.map (·.block) = some b → b ≠ bb) : Rd (w.setCell ⟨bb, k, none⟩ v) A n xs :=
  h.far2 (grown_set (World.grownBy.refl _ _) k v) (fun b hn hb e => by injection e with e; exact hne b hn hb e.symm)
theorem EltOk.set_ {j k : Nat} {zs : List Nat} {v : Value} (h : EltOk w bb vs j zs) (hne : j ≠ k) : EltOk (w.setCell ⟨bb, k, none⟩ v) bb (vs.set k v) j zs := by
  obtain ⟨b, off, c, h1, h2, h3⟩ := h
  refine ⟨b, off, c, ?_, rd_set h2 v (fun q _ hq e => by cases hq; exact h3 e), h3⟩
  rw [List.getElem?_set, if_neg (fun e => hne e.symm)]; exact h1
end
set_option maxHeartbeats 3200000 in
theorem implLongestChain (L : Int) (A : Option Addr) (n c : Nat) (xs : List Int) (A1 : Option Addr) (m d : Nat) (us : List Int) (w : World) (h : Rd w A n xs) (hwf : Wf xs) (hL1 : -9223372036854775808 ≤ L) (hL2 : L ≤ 9223372036854775807) (hn : n ≤ maxLen) (h2 : Rd w A1 m us) (hwf2 : Wf us) (hm : m ≤ maxLen) (hT : Tab w) :
    Calls Tryd.prog 17 #[.agg #[.int .i64 L, .slice A n c], .slice A1 m d] w (LsPost w (lcAns L xs us).1.length (lcAns L xs us).1 (lcAns L xs us).2) := by
  have HB := Lib.hid (below1 w (.cells #[.int .i64 L, .slice A n c] 28))
  have x0 := box_new 28 w L A n c
  have hh := h.below HB.out
  have hh2 := h2.below HB.out
  have hT1 := hT.below HB.out
  by_cases hc : wCode L xs us = 0
  · obtain ⟨ha, hu⟩ := wCode_zero hc
    obtain ⟨rs, rfl, rfl, h8, hr, hrel, hl, hd, _⟩ := alphB_nats L xs n h.1 ha
    obtain ⟨vs, rfl, hv24, hvn⟩ := wordB_nats n us hu
    have hm1 : vs.length = m := by have := h2.1; rw [ints_len] at this; exact this
    have hm24 : m ≤ 24 := by omega
    rw [show lcAns (n : Int) (ints rs) (ints vs) = _ from wAns_yes _ (n : Int) rs vs ha hu]
    have HSY := Lib.hid (rdep_sym rs n hl hr ((depB_iff rs n hl hr).1 hd))
    have HPI := Lib.hid (positionsIn_yes A n c rs A1 m d vs _ hh hwf h8 hr hrel hl hd hh2 hm24 hvn hu hT1)
    have HRL := Lib.hid hl
    have HVL := Lib.hid hm1
    have HVN := Lib.hid hvn
    have HDEP := Lib.hid ((depB_iff rs n hl hr).1 hd)
    clear ha hu hl hm1 hd hr hrel hc hvn hwf hwf2 hh hh2 x0 h h2
    obtain ⟨nf, hnf⟩ : ∃ nf, nf = nfR rs vs := ⟨_, rfl⟩
    have HNF := Lib.hid hnf
    rw [← hnf] at HPI
    clear hnf
    obtain ⟨ch, hch⟩ : ∃ ch, ch = lcR rs vs := ⟨_, rfl⟩
    rw [← hch]
    have HCH : Hid (chL rs nf m 25 (2 ^ m - 1) = ch) := Lib.hid (by rw [hch]; unfold lcR; rw [HVL.out, ← HNF.out])
    clear hch
    go_enter Tryd.func17, Tryd.ntmps17
    go_wp2_with fail
    refine HPI.out.mono ?_
    rintro e w1 ⟨g, A5, c5, rfl, hg, x, hrd, hb⟩
    have hnl : nf.length = m := by have := hrd.1; rw [ints_len] at this; exact this
    have HB1 := Lib.hid (HB.out.trans (hb.mono HB.out.size))
    have HLC := Lib.hid (longestChain_any g m c5 A5 rs nf w1 x hm24 HSY.out hnl (hT1.below hb))
    rw [HCH.out] at HLC
    obtain ⟨q, hq⟩ : ∃ q, q = ch.length := ⟨_, rfl⟩
    rw [← hq] at HLC
    clear x hrd hg hb hnl hq
    go_wp2_with fail
    refine HLC.out.mono ?_
    rintro e w2 ⟨A6, c6, rfl, ho6, hb2⟩
    go_wp2_with fail
    go_ret2
    exact LsPost.of_ans (ans_yes ho6.len (ho6.mono HB1.out.size) (HB1.out.trans (hb2.mono HB1.out.size)))
  · rw [show lcAns L xs us = _ from wAns_code _ L xs us hc]
    have HPI := Lib.hid (positionsIn_no L A n c xs A1 m d us _ hh hwf hL1 hL2 hn hh2 hwf2 hm hT1 hc)
    obtain ⟨C, hC⟩ : ∃ C, C = wCode L xs us := ⟨_, rfl⟩
    rw [← hC] at hc HPI ⊢
    have hq1 : (C != 0) = true := by simpa using hc
    have hq2 : (C == 0) = false := by simpa using hc
    clear hC hc
    go_enter Tryd.func17, Tryd.ntmps17
    go_wp2_with fail
    refine HPI.out.mono ?_
    rintro e w1 ⟨rfl, hb⟩
    go_wp2_with fail
    go_ret2
    exact LsPost.of_ans (ans_no C (HB.out.trans (hb.mono HB.out.size)))
set_option maxHeartbeats 3200000 in
theorem specLongestChain (L : Int) (A : Option Addr) (n c : Nat) (xs : List Int) (A1 : Option Addr) (m d : Nat) (us : List Int) (w : World) (h : Rd w A n xs) (hwf : Wf xs) (hL1 : -9223372036854775808 ≤ L) (hL2 : L ≤ 9223372036854775807) (hn : n ≤ maxLen) (h2 : Rd w A1 m us) (hwf2 : Wf us) (hm : m ≤ maxLen) :
    Calls Tryd.prog 14 #[.agg #[.int .i64 L, .slice A n c], .slice A1 m d] w (LsPost w (lcAns L xs us).1.length (lcAns L xs us).1 (lcAns L xs us).2) := by
  have HB := Lib.hid (below1 w (.cells #[.int .i64 L, .slice A n c] 28))
  have x0 := box_new 28 w L A n c
  have hh := h.below HB.out
  have hh2 := h2.below HB.out
  by_cases hc : wCode L xs us = 0
  · obtain ⟨ha, hu⟩ := wCode_zero hc
    obtain ⟨rs, rfl, rfl, h8, hr, hrel, hl, hd, _⟩ := alphB_nats L xs n h.1 ha
    obtain ⟨vs, rfl, hv24, hvn⟩ := wordB_nats n us hu
    have hm1 : vs.length = m := by have := h2.1; rw [ints_len] at this; exact this
    have hm24 : m ≤ 24 := by omega
    rw [show lcAns (n : Int) (ints rs) (ints vs) = _ from wAns_yes _ (n : Int) rs vs ha hu]
    have HSY := Lib.hid (rdep_sym rs n hl hr ((depB_iff rs n hl hr).1 hd))
    obtain ⟨i0, hi0, hz0, hz1, hz2⟩ := info_parts info_int
    obtain ⟨i1, hi1, hy0, hy1, hy2⟩ := info_parts info_sl
    have HPI := Lib.hid (l04Code_yes A n c rs A1 m d vs _ hh h8 hr hl hh2 hm24 hvn hc)
    have HRL := Lib.hid hl
    have HVL := Lib.hid hm1
    have HVN := Lib.hid hvn
    have HDEP := Lib.hid ((depB_iff rs n hl hr).1 hd)
    clear ha hu hl hm1 hd hr hrel hc hvn hwf hwf2 h h2
    obtain ⟨nf, hnf⟩ : ∃ nf, nf = nfR rs vs := ⟨_, rfl⟩
    have HNF := Lib.hid hnf
    rw [← hnf] at HPI
    clear hnf
    obtain ⟨ch, hch⟩ : ∃ ch, ch = lcR rs vs := ⟨_, rfl⟩
    rw [← hch]
    have HCH : Hid (chL rs nf m 25 (2 ^ m - 1) = ch) := Lib.hid (by rw [hch]; unfold lcR; rw [HVL.out, ← HNF.out])
    clear hch hh hh2 x0
    go_enter Tryd.func14, Tryd.ntmps14
    go_wp2_with fail
    refine HPI.out.mono ?_
    rintro e w1 ⟨A5, c5, A6, c6, rfl, ho5, ho6, hb⟩
    have hnl : nf.length = m := by have := ho5.len; rw [ints_len] at this; exact this
    have HB1 := Lib.hid (HB.out.trans (hb.mono HB.out.size))
    have HNLE := Lib.hid hnl
    have hrd6 := ho6.rd
    have hml : m ≤ maxLen := by unfold maxLen; omega
    have hby : i1.bytes * m ≤ 281474976710656 := by rw [hy2]; omega
    clear ho5 ho6 hb hnl
    go_wp2_with (at_make; refine wpList_make_full _ rfl _ _ _ rfl w1.heap.size 22 i1 (.slice none 0 0) 1 Tryd.underlying38 hi1 hy0 hy1 _ _ (m : Int) (m : Int) m rfl rfl rfl rfl hby hml (Nat.le_refl _) ?_; intro w2 hown0 hg2)
    obtain ⟨bb, hbb⟩ : ∃ bb, bb = w1.heap.size := ⟨_, rfl⟩
    rw [← hbb] at hown0 ⊢
    obtain ⟨vs0, hvs0⟩ : ∃ v, v = (madeCells (Value.slice none 0 0).cells (m * 1)).toList := ⟨_, rfl⟩
    have hrow0 : BRow w2 bb bb m vs0 := by rw [hvs0]; exact hown0
    have hb2 : Below w1.heap.size w1 w2 := (Below.refl _ _).grown hg2 (Nat.le_refl _) (by simp)
    have HBB := Lib.hid hbb
    have HLO : Hid (∀ wr, Below w1.heap.size w1 wr → Below w.heap.size w wr) := Lib.hid fun wr hw => HB1.out.trans (hw.mono HB1.out.size)
    have HSL : Hid (∀ j, j < m → (bst rs nf m j).length ≤ 24 ∧ 1 ≤ (bst rs nf m j).length) := Lib.hid fun j hj => by rw [bst_len rs nf m hm24 HSY.out HNLE.out j hj]; have := csz_le rs nf m j hj; have := csz_pos rs nf m j; omega
    have HOB : Hid (∀ d, d ≤ m → (obC rs nf m d).length ≤ 24) := Lib.hid fun d hd => by
      by_cases h0 : d = 0
      · rw [h0]; show 0 ≤ 24; omega
      · obtain ⟨q, _, h2, h3, _⟩ := obC_spec rs nf m hm24 HSY.out HNLE.out d hd (by omega)
        rw [h3]; exact (HSL.out q h2).1
    clear hown0 hg2 hvs0 hbb hml hby
    go_wp2_with fail
    go_loopw [10, 11] (fun v q wr => ∃ (j : Nat) (ws : List Value) (CO : Option Addr) (cO : Nat), j ≤ m ∧ q = .int .i64 ((j : Int) - 1) ∧ v = .slice CO (obC rs nf m (m - j)).length cO ∧ Rd wr CO (obC rs nf m (m - j)).length (ints (obC rs nf m (m - j))) ∧ (∀ b, 0 < (obC rs nf m (m - j)).length → CO.map (·.block) = some b → b ≠ bb) ∧ BRow wr bb bb m ws ∧ (∀ k, j ≤ k → k < m → EltOk wr bb ws k (bst rs nf m k)) ∧ Below w1.heap.size w1 wr) (fun _ q _ => ((intOf q) + 1).toNat)
    case atStart =>
      refine ⟨m, vs0, _, 0, Nat.le_refl _, rfl, by rw [Nat.sub_self]; rfl, by rw [Nat.sub_self]; exact Rd.nil _ _, fun b h9 => ?_, hrow0.below (below1 _ _), fun k h1 h2 => by omega, hb2.trans ((below1 _ _).mono hb2.size)⟩
      rw [Nat.sub_self] at h9
      exact absurd h9 (Nat.lt_irrefl _)
    case round =>
      clear hrow0 hb2
      obtain ⟨j, ws, CO, cO, hj, rfl, rfl, hrdO, hneO, hrow, helt, hb⟩ := hrel
      by_cases hj0 : 0 < j
      · obtain ⟨i, hi⟩ : ∃ i, i = j - 1 := ⟨_, rfl⟩
        have hqe : (j : Int) - 1 = (i : Int) := by omega
        have hje : j = i + 1 := by omega
        have him : i < m := by omega
        rw [hqe]
        subst hje
        have hd : m - (i + 1) + 1 = m - i := by omega
        have HNXO : Hid (obC rs nf m (m - i) = if (obC rs nf m (m - (i + 1))).length ≤ (bst rs nf m i).length then bst rs nf m i else obC rs nf m (m - (i + 1))) := Lib.hid (by
          rw [← hd]
          show (if (obC rs nf m (m - (i + 1))).length ≤ (bst rs nf m (m - (m - (i + 1) + 1))).length then bst rs nf m (m - (m - (i + 1) + 1)) else obC rs nf m (m - (i + 1))) = _
          rw [show m - (m - (i + 1) + 1) = i by omega])
        have hob24 := HOB.out (m - (i + 1)) (by omega)
        obtain ⟨zo, hzo⟩ : ∃ zo, zo = obC rs nf m (m - (i + 1)) := ⟨_, rfl⟩
        rw [← hzo] at hrdO hneO HNXO hob24 ⊢
        obtain ⟨lo, hlo⟩ : ∃ lo, lo = zo.length := ⟨_, rfl⟩
        rw [← hlo] at hrdO hneO hob24 ⊢
        have HLOZ := Lib.hid hlo
        -- the literal
        have hrl := hrow.len
        obtain ⟨u0, hu0⟩ : ∃ u, ws[i]? = some u := ⟨_, List.getElem?_eq_getElem (by omega)⟩
        have hc0 := (hrow.below (below1 wr (.cells #[.int .i64 (i : Int)] 2))).cell hu0
        have hf0 := (hrow.below (below1 wr (.cells #[.int .i64 (i : Int)] 2))).fr i
        have hiz : (i : Int) < (m : Int) := by omega
        have hi0' : (0 : Int) ≤ (i : Int) := by omega
        clear hi hj0 hqe hd hzo hlo
        have hb3 : Below w1.heap.size w1 ((wr.alloc (.cells #[.int .i64 (i : Int)] 2)).setCell ⟨bb, i, none⟩ (.slice (some ⟨wr.heap.size, 0, none⟩) 1 1)) := (hb.alloc hb.size _).setCell (p := ⟨bb, i, none⟩) (by rw [HBB.out]; exact Nat.le_refl _) _
        have hrow3 := (hrow.below (below1 wr (.cells #[.int .i64 (i : Int)] 2))).set i (.slice (some ⟨wr.heap.size, 0, none⟩) 1 1)
        have helt3 : ∀ k, i + 1 ≤ k → k < m → EltOk ((wr.alloc (.cells #[.int .i64 (i : Int)] 2)).setCell ⟨bb, i, none⟩ (.slice (some ⟨wr.heap.size, 0, none⟩) 1 1)) bb (ws.set i (.slice (some ⟨wr.heap.size, 0, none⟩) 1 1)) k (bst rs nf m k) := fun k h1 h2 => ((helt k h1 h2).below (below1 wr _)).set_ (by omega)
        have hcur3 : EltOk ((wr.alloc (.cells #[.int .i64 (i : Int)] 2)).setCell ⟨bb, i, none⟩ (.slice (some ⟨wr.heap.size, 0, none⟩) 1 1)) bb (ws.set i (.slice (some ⟨wr.heap.size, 0, none⟩) 1 1)) i (stC rs nf m i (i + 1)) := by
          rw [stC_start rs nf m i hm24 him]
          have hol : Own 2 (wr.alloc (.cells #[.int .i64 (i : Int)] 2)) wr.heap.size (some ⟨wr.heap.size, 0, none⟩) 1 1 (ints [i]) := World.ownsRow_lit wr #[.int .i64 (i : Int)] 1 (Nat.le_refl _) (by unfold maxLen; omega) rfl
          refine ⟨wr.heap.size, 0, 1, ?_, rd_set hol.rd _ (fun q _ hq e => absurd (show wr.heap.size = bb from (Option.some.inj hq).trans e) (by have := hrow.lt.2; omega)), by have := hrow.lt.2; omega⟩
          rw [List.getElem?_set, if_pos rfl, if_pos (by omega)]; rfl
        have hrdO3 := rd_set (bb := bb) (k := i) (hrdO.below (below1 wr (.cells #[.int .i64 (i : Int)] 2))) (.slice (some ⟨wr.heap.size, 0, none⟩) 1 1) hneO
        obtain ⟨w3, hw3⟩ : ∃ w3, (wr.alloc (.cells #[.int .i64 (i : Int)] 2)).setCell ⟨bb, i, none⟩ (.slice (some ⟨wr.heap.size, 0, none⟩) 1 1) = w3 := ⟨_, rfl⟩
        rw [hw3] at hb3 hrow3 helt3 hcur3 hrdO3
        have HNEO := Lib.hid hneO
        clear hrow helt hrdO hneO hb hrl hu0
        go_wp2_with fail
        clear hw3 hc0 hf0
        go_loopw [12] (fun q wy => ∃ (k : Nat) (vs' : List Value), i + 1 ≤ k ∧ k ≤ m ∧ q = .int .i64 ((k : Nat) : Int) ∧ Rd wy CO lo (ints zo) ∧ BRow wy bb bb m vs' ∧ (∀ k', i + 1 ≤ k' → k' < m → EltOk wy bb vs' k' (bst rs nf m k')) ∧ EltOk wy bb vs' i (stC rs nf m i k) ∧ Below w1.heap.size w1 wy) (fun q _ => m - (intOf q).toNat)
        case atStart => exact ⟨i + 1, _, Nat.le_refl _, hj, by go_num, hrdO3, hrow3, helt3, hcur3, hb3⟩
        case round =>
          clear hrow3 helt3 hcur3 hrdO3 hb3
          obtain ⟨k, vs', hik, hk, rfl, hrdO, hrow, helt, hcur, hb⟩ := hrel
          have hrl := hrow.len
          obtain ⟨b1, off1, c1, hv1, hr1, hn1⟩ := hcur
          have hc1 := hrow.cell hv1
          by_cases hkm : k < m
          · obtain ⟨b2, off2, c2, hv2, hr2, hn2⟩ := helt k hik hkm
            have hc2 := hrow.cell hv2
            obtain ⟨b6, off6, y, eA, hbs, hy, hcy⟩ := (hrd6.below hb).at_ him
            rw [ints_getD _ i (by rw [ordM_len]; exact him), ordM_at _ _ _ _ him] at hy
            injection hy with hy
            have hp24 := p24 m hm24
            have hu := upW_lt (RDep rs) nf m i
            have hbit : (abvS rs nf m i).testBit k = (upW (RDep rs) nf m i).testBit k := by
              unfold abvS
              rw [dif_one _ i (by omega) (by omega)]
              have : ¬ i = k := by omega
              simp [this]
            have hsl := stC_len rs nf m hm24 HSY.out HNLE.out i k him
            have hbl := HSL.out k hkm
            have HNO : Hid ((abvS rs nf m i).testBit k = false → stC rs nf m i (k + 1) = stC rs nf m i k) := Lib.hid (stC_no rs nf m i k)
            have HYE : Hid ((abvS rs nf m i).testBit k = true → stC rs nf m i (k + 1) = if (stC rs nf m i k).length < (bst rs nf m k).length + 1 then i :: bst rs nf m k else stC rs nf m i k) := Lib.hid (stC_yes rs nf m hm24 HSY.out HNLE.out i k him hkm)
            obtain ⟨X, hX⟩ : ∃ X, X = upW (RDep rs) nf m i := ⟨_, rfl⟩
            rw [← hX] at hy hbit hu
            subst hy eA
            obtain ⟨bt, hbt⟩ : ∃ bt, bt = X.testBit k := ⟨_, rfl⟩
            rw [hbit, ← hbt] at HNO HYE
            have HBQ : Hid (∀ (ww : World) (q : Nat), Calls Tryd.prog 48 #[.int .i64 (X : Int), .int .i64 (k : Int)] (ww.drewN q) fun e w'' => e = .returned (.bool bt) ∧ ∃ m', w'' = ww.drewN m') := Lib.hid fun ww q => by rw [hbt]; exact bit_q X k (by omega) (by omega) ww q
            obtain ⟨st, hst⟩ : ∃ st, st = stC rs nf m i k := ⟨_, rfl⟩
            obtain ⟨sb, hsb⟩ : ∃ sb, sb = bst rs nf m k := ⟨_, rfl⟩
            rw [← hst] at hv1 hr1 hsl HNO HYE hc1
            rw [← hsb] at hv2 hr2 hbl HYE hc2
            obtain ⟨L1, hL1⟩ : ∃ L1, L1 = st.length := ⟨_, rfl⟩
            obtain ⟨L2, hL2⟩ : ∃ L2, L2 = sb.length := ⟨_, rfl⟩
            rw [← hL1] at hv1 hr1 hsl HYE hc1
            rw [← hL2] at hv2 hr2 hbl HYE hc2
            have HL1 := Lib.hid hL1
            have HL2 := Lib.hid hL2
            have HST := Lib.hid hst
            have HSB := Lib.hid hsb
            have hkz : (k : Int) < (m : Int) := by omega
            have hk0 : (0 : Int) ≤ (k : Int) := by omega
            clear hX hbt hbit hu hst hsb hL1 hL2 hp24
            cases bt
            · have HN := Lib.hid (HNO.out rfl)
              go_wp2_with fail
              go_quiet ((go_at_call 48; exact HBQ.out _ _))
              go_wp2_with fail
              go_roundw
              case rel => exact ⟨k + 1, vs', by omega, by omega, by go_num, hrdO.below (below_drewN (Below.refl _ _) _), hrow.below (below_drewN (Below.refl _ _) _), fun k' h1 h2 => (helt k' h1 h2).below (below_drewN (Below.refl _ _) _), by rw [HN.out]; exact EltOk.below (w := wr) (zs := st) ⟨b1, off1, c1, by rw [← HL1.out]; exact hv1, by rw [← HL1.out]; exact hr1, hn1⟩ (below_drewN (Below.refl _ _) _), below_drewN hb _⟩
              case measure => simp [intOf]; omega
            · have HY := Lib.hid (HYE.out rfl)
              by_cases hlt : L1 < L2 + 1
              · have hgt : decide ((L1 : Int) < (L2 : Int) + 1) = true := decide_eq_true (by omega)
                have HN : Hid (stC rs nf m i (k + 1) = i :: sb) := Lib.hid (by rw [HY.out, if_pos hlt])
                go_wp2_with fail
                go_quiet ((go_at_call 48; exact HBQ.out _ _))
                have hb4 : Below w1.heap.size w1 (wr.drewN nq) := below_drewN hb _
                have hrdO4 := hrdO.below (below_drewN (Below.refl _ _) nq)
                have hrow4 : BRow (wr.drewN nq) bb bb m vs' := hrow.below (below_drewN (Below.refl _ _) nq)
                have helt4 : ∀ k', i + 1 ≤ k' → k' < m → EltOk (wr.drewN nq) bb vs' k' (bst rs nf m k') := fun k' h1 h2 => (helt k' h1 h2).below (below_drewN (Below.refl _ _) nq)
                have hr24 := hr2.below (below_drewN (Below.refl _ _) nq)
                obtain ⟨wq, hwq⟩ : ∃ wq, wr.drewN nq = wq := ⟨_, rfl⟩
                rw [hwq] at hb4 hrdO4 hrow4 helt4 hr24 ⊢
                have hc24 := hrow4.cell hv2
                have hc25 := (hrow4.below (below1 wq (.cells #[.int .i64 (i : Int)] 2))).cell hv2
                clear hc1 hr1 hrdO hrow helt hb hc2 hcy hwq hr2
                go_wp2_with (at_builtin; refine wpList_append_own _ rfl _ _ 22 rfl wq.heap.size 2 i0 (.int .i64 0) 1 8 Tryd.underlying22 hi0 hz0 hz1 hz2 rfl (by decide) (.slice (some ⟨wq.heap.size, 0, none⟩) 1 1) 1 [.int .i64 (i : Int)] rfl (World.ownsRow_lit wq #[.int .i64 (i : Int)] 1 (Nat.le_refl _) (by unfold maxLen; omega) rfl) ⟨b2, off2, none⟩ L2 c2 ((ints sb).map (Value.int .i64)) rfl ?c0 ?c1 ?c2 (by unfold maxLen; omega) (by omega) ?c5 ?_)
                case c0 => rw [List.length_map, ints_len, Nat.mul_one]; exact HL2.out.symm
                case c1 =>
                  intro j u hju
                  have hr25 := hr24.below (below1 wq (.cells #[.int .i64 (i : Int)] 2))
                  obtain ⟨b7, off7, e7, _, hc7⟩ := hr25.2 (by omega)
                  injection e7 with e7
                  injection e7 with e8 e9
                  subst e8 e9
                  rw [List.getElem?_map] at hju
                  obtain ⟨x, hx, rfl⟩ := Option.map_eq_some_iff.1 hju
                  rw [show (⟨b2, off2, none⟩ : Addr).add j = ⟨b2, off2 + j, none⟩ by simp [Addr.add]]
                  exact hc7 j x hx
                case c2 => exact ints_oneCell .i64 _
                case c5 => simp
                intro v' w5 hown hg _
                have hown' : w5.ownsRow wq.heap.size 2 1 v' (1 + L2) ((ints (i :: sb)).map (Value.int .i64)) := hown
                have hb5 : Below wq.heap.size wq w5 := ((Below.refl _ _).alloc (Nat.le_refl _) _).grown hg (by simp) (by simp [Value.ownBlock])
                obtain ⟨A2, c9, hv, ho⟩ := own_shape hown'
                rw [hv]
                obtain ⟨g, cap, hvv, hgb, hlt5⟩ := World.ownsRow.form ho (by omega)
                have hA2 : A2 = some ⟨g, 0, none⟩ := by injection hvv
                subst hA2
                have hrow5 := hrow4.below hb5
                have helt5 : ∀ k', i + 1 ≤ k' → k' < m → EltOk w5 bb vs' k' (bst rs nf m k') := fun k' h1 h2 => (helt4 k' h1 h2).below hb5
                have hrdO5 := hrdO4.below hb5
                have hbw5 : Below w1.heap.size w1 w5 := hb4.trans (hb5.mono hb4.size)
                have hc5 := hrow5.cell hv1
                have hf5 := hrow5.fr i
                have hrdA := ho.rd
                have hgn : g ≠ bb := by have := hrow4.lt.2; omega
                have hln : 1 + L2 = (i :: sb).length := by rw [List.length_cons, HL2.out, Nat.add_comm]
                have HLN := Lib.hid hln
                have HGN := Lib.hid hgn
                clear hown hown' hg hb5 hv hvv hgb hlt5 ho hrow4 helt4 hrdO4 hr24 hc24 hc25 hb4 hln hgn
                go_wp2_with fail
                go_roundw
                case rel =>
                  refine ⟨k + 1, vs'.set i (.slice (some ⟨g, 0, none⟩) (1 + L2) c9), by omega, by omega, by go_num, rd_set hrdO5 _ HNEO.out, hrow5.set i _, fun k' h1 h2 => (helt5 k' h1 h2).set_ (by omega), ?_, hbw5.setCell (p := ⟨bb, i, none⟩) (by rw [HBB.out]; exact Nat.le_refl _) _⟩
                  rw [HN.out]
                  refine ⟨g, 0, c9, ?_, ?_, HGN.out⟩
                  · rw [← HLN.out, List.getElem?_set, if_pos rfl, if_pos (by omega)]
                  · rw [← HLN.out]; exact rd_set hrdA _ (fun q _ hq e => HGN.out ((Option.some.inj hq).trans e))
                case measure => simp [intOf]; omega
              · have hgt : decide ((L1 : Int) < (L2 : Int) + 1) = false := decide_eq_false (by omega)
                have HN : Hid (stC rs nf m i (k + 1) = st) := Lib.hid (by rw [HY.out, if_neg hlt])
                go_wp2_with fail
                go_quiet ((go_at_call 48; exact HBQ.out _ _))
                go_wp2_with fail
                go_roundw
                case rel => exact ⟨k + 1, vs', by omega, by omega, by go_num, hrdO.below (below_drewN (Below.refl _ _) _), hrow.below (below_drewN (Below.refl _ _) _), fun k' h1 h2 => (helt k' h1 h2).below (below_drewN (Below.refl _ _) _), by rw [HN.out]; exact EltOk.below (w := wr) (zs := st) ⟨b1, off1, c1, by rw [← HL1.out]; exact hv1, by rw [← HL1.out]; exact hr1, hn1⟩ (below_drewN (Below.refl _ _) _), below_drewN hb _⟩
                case measure => simp [intOf]; omega
          · have hke : k = m := by omega
            subst hke
            rw [stC_end rs nf k hm24 HSY.out HNLE.out i him] at hv1 hr1 hc1
            obtain ⟨sb, hsb⟩ : ∃ sb, sb = bst rs nf k i := ⟨_, rfl⟩
            have hbl := HSL.out i him
            rw [← hsb] at hv1 hr1 hc1 HNXO hbl
            obtain ⟨L1, hL1⟩ : ∃ L1, L1 = sb.length := ⟨_, rfl⟩
            rw [← hL1] at hv1 hr1 hc1 HNXO hbl
            rw [← HLOZ.out] at HNXO
            have HL1 := Lib.hid hL1
            have HSB := Lib.hid hsb
            clear hsb hL1
            by_cases hle : lo ≤ L1
            · have hd : decide ((lo : Int) ≤ (L1 : Int)) = true := decide_eq_true (by omega)
              have HN : Hid (obC rs nf k (k - i) = sb) := Lib.hid (by rw [HNXO.out, if_pos hle])
              go_wp2_with fail
              go_roundw
              case rel => exact ⟨i, vs', some ⟨b1, off1, none⟩, c1, by omega, by go_num, by rw [HN.out, ← HL1.out], by rw [HN.out, ← HL1.out]; exact hr1, fun q _ hq e => by cases hq; exact hn1 e, hrow, fun k' h1 h2 => by
                by_cases e9 : k' = i
                · subst e9; rw [← HSB.out]; exact ⟨b1, off1, c1, by rw [← HL1.out]; exact hv1, by rw [← HL1.out]; exact hr1, hn1⟩
                · exact helt k' (by omega) h2, hb⟩
              case measure => simp [intOf]
            · have hd : decide ((lo : Int) ≤ (L1 : Int)) = false := decide_eq_false (by omega)
              have HN : Hid (obC rs nf k (k - i) = zo) := Lib.hid (by rw [HNXO.out, if_neg hle])
              go_wp2_with fail
              go_roundw
              case rel => exact ⟨i, vs', CO, cO, by omega, by go_num, by rw [HN.out, ← HLOZ.out], by rw [HN.out, ← HLOZ.out]; exact hrdO, by rw [HN.out, ← HLOZ.out]; exact HNEO.out, hrow, fun k' h1 h2 => by
                by_cases e9 : k' = i
                · subst e9; rw [← HSB.out]; exact ⟨b1, off1, c1, by rw [← HL1.out]; exact hv1, by rw [← HL1.out]; exact hr1, hn1⟩
                · exact helt k' (by omega) h2, hb⟩
              case measure => simp [intOf]
      · have hje : j = 0 := by omega
        subst hje
        have hd : decide ((0 : Int) ≤ ((0 : Nat) : Int) - 1) = false := rfl
        have hfe : obC rs nf m (m - 0) = ch := by rw [Nat.sub_zero, obC_full rs nf m hm24 HSY.out HNLE.out]; exact HCH.out
        have hch24 := HOB.out (m - 0) (by omega)
        rw [hfe] at hrdO hch24 ⊢
        have HOW := Lib.hid (own_any CO ch.length cO (ints ch) wr hrdO (by omega))
        have HBR := Lib.hid (HLO.out wr hb)
        obtain ⟨q, hq⟩ : ∃ q, q = ch.length := ⟨_, rfl⟩
        rw [← hq] at HOW ⊢
        clear hrdO hneO hrow helt hb hfe hq
        go_wp2_with fail
        refine HOW.out.mono ?_
        rintro e w5 ⟨A7, c7, rfl, ho7, hb7⟩
        go_wp2_with fail
        go_ret2
        exact LsPost.of_ans (ans_yes ho7.len (ho7.mono HBR.out.size) (HBR.out.trans (hb7.mono HBR.out.size)))
  · rw [show lcAns L xs us = _ from wAns_code _ L xs us hc]
    have HPI := Lib.hid (l04Code_no L A n c xs A1 m d us _ hh hn hh2 hm hc)
    obtain ⟨C, hC⟩ : ∃ C, C = wCode L xs us := ⟨_, rfl⟩
    rw [← hC] at hc HPI ⊢
    have hq1 : (C != 0) = true := by simpa using hc
    have hq2 : (C == 0) = false := by simpa using hc
    clear hC hc
    go_enter Tryd.func14, Tryd.ntmps14
    go_wp2_with fail
    refine HPI.out.mono ?_
    rintro e w1 ⟨rfl, hb⟩
    go_wp2_with fail
    go_ret2
    exact LsPost.of_ans (ans_no C (HB.out.trans (hb.mono HB.out.size)))
end Go.Proofs.YtfbdbipopfjjnaaDoor
