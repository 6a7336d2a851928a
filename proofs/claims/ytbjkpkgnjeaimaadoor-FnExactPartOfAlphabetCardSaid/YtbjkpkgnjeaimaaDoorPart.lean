/-
  PartOfAlphabet: both sides.
-/
import Derived.Test.YtbjkpkgnjeaimaaDoorJoin
namespace Go.Proofs.YtbjkpkgnjeaimaaDoor
open Go.RowKit
set_option linter.unusedVariables false
set_option maxRecDepth 100000

/-! ### plain -/
def PrtSt (cs : List Nat) (N : Nat) (D : Nat → Nat → Bool) (a b : Nat) : Prop :=
  cs.length = N ∧ (∀ q, cs.getD q 0 < 2 ^ N) ∧ ∀ i k, i < N → k < N → (R cs i k ↔ Before a b i k ∧ D i k = true)
theorem prt_start (N : Nat) (D : Nat → Nat → Bool) : PrtSt (List.replicate N 0) N D 0 0 := by
  refine ⟨List.length_replicate, fun q => by rw [replicate_getD]; exact p2_pos N, fun i k hi hk => ?_⟩
  unfold R Before
  rw [replicate_getD]; simp
theorem prt_row {cs : List Nat} {N : Nat} {D : Nat → Nat → Bool} {a : Nat} (h : PrtSt cs N D a N) : PrtSt cs N D (a + 1) 0 := by
  refine ⟨h.1, h.2.1, fun i k hi hk => ?_⟩
  rw [h.2.2 i k hi hk]
  have e : Before a N i k ↔ Before (a + 1) 0 i k := by unfold Before; omega
  rw [e]
theorem prt_no {cs : List Nat} {N : Nat} {D : Nat → Nat → Bool} {a b : Nat} (h : PrtSt cs N D a b) (hd : D a b = false) : PrtSt cs N D a (b + 1) := by
  refine ⟨h.1, h.2.1, fun i k hi hk => ?_⟩
  rw [h.2.2 i k hi hk]
  constructor
  · rintro ⟨h1, h2⟩; exact ⟨by unfold Before at h1 ⊢; omega, h2⟩
  · rintro ⟨h1, h2⟩
    refine ⟨?_, h2⟩
    unfold Before at h1 ⊢
    rcases h1 with h1 | ⟨rfl, h1⟩
    · exact .inl h1
    · by_cases e : k = b
      · subst e; rw [hd] at h2; cases h2
      · exact .inr ⟨rfl, by omega⟩
theorem prt_yes {cs : List Nat} {N : Nat} {D : Nat → Nat → Bool} {a b : Nat} (h : PrtSt cs N D a b) (hd : D a b = true) (ha : a < N) (hb : b < N) : PrtSt (cs.set a (cs.getD a 0 ||| 2 ^ b)) N D a (b + 1) := by
  have hl : a < cs.length := by rw [h.1]; exact ha
  refine ⟨by rw [List.length_set]; exact h.1, fun q => ?_, fun i k hi hk => ?_⟩
  · rw [getD_set cs a _ q hl]
    split
    · exact Nat.or_lt_two_pow (h.2.1 a) (Nat.pow_lt_pow_right (by decide) hb)
    · exact h.2.1 q
  · have h1 := h.2.2 i k hi hk
    unfold R at h1 ⊢
    rw [getD_set cs a _ i hl]
    by_cases e : i = a
    · subst e
      rw [if_pos rfl, Nat.testBit_or, Bool.or_eq_true, h1, p2_bit]
      unfold Before
      constructor
      · rintro (⟨h2, h3⟩ | rfl)
        · exact ⟨by omega, h3⟩
        · exact ⟨.inr ⟨rfl, by omega⟩, hd⟩
      · rintro ⟨h2, h3⟩
        by_cases e : b = k
        · exact .inr e
        · exact .inl ⟨by omega, h3⟩
    · rw [if_neg e, h1]
      unfold Before
      constructor
      · rintro ⟨h2, h3⟩; exact ⟨by omega, h3⟩
      · rintro ⟨h2, h3⟩; exact ⟨by omega, h3⟩
theorem prt_end {cs : List Nat} {N : Nat} {D : Nat → Nat → Bool} (h : PrtSt cs N D N 0) : cs = relM N D := by
  refine relM_eq cs N D h.1 h.2.1 fun i b hi hb => ?_
  rw [h.2.2 i b hi hb]
  constructor
  · exact fun h => h.2
  · exact fun h => ⟨.inl hi, h⟩
def partAns (L : Int) (xs : List Int) (m : Int) : Int × List Int × Int :=
  if alphB L xs = true then (if isMaskB m L = true then ((((bitsOf m.toNat).length : Nat) : Int), ints (partM (xs.map Int.toNat) (bitsOf m.toNat)), 0) else (0, [], 2)) else (0, [], 1)
theorem partM_len (rs ls : List Nat) : (partM rs ls).length = ls.length := by unfold partM; rw [relM_len]
theorem partAns_small (L : Int) (xs : List Int) (m : Int) : (partAns L xs m).2.1.length ≤ 24 := by
  unfold partAns
  split
  · split
    · show (ints _).length ≤ 24
      rw [ints_len, partM_len]; exact bitsOf_len _
    · exact Nat.zero_le _
  · exact Nat.zero_le _
theorem partAns_no (L : Int) (xs : List Int) (m : Int) (h : alphB L xs = false) : partAns L xs m = (0, [], 1) := by unfold partAns; rw [if_neg (by rw [h]; decide)]
theorem partAns_out (L : Int) (xs : List Int) (m : Int) (h : alphB L xs = true) (h2 : isMaskB m L = false) : partAns L xs m = (0, [], 2) := by unfold partAns; rw [if_pos h, if_neg (by rw [h2]; decide)]
theorem partAns_in (n : Nat) (rs : List Nat) (m : Nat) (h : alphB (n : Int) (ints rs) = true) (h2 : isMaskB (m : Int) (n : Int) = true) : partAns (n : Int) (ints rs) (m : Int) = ((((bitsOf m).length : Nat) : Int), ints (partM rs (bitsOf m)), 0) := by unfold partAns; rw [if_pos h, if_pos h2, ints_toNat, Int.toNat_natCast]
theorem bits_in (n m i : Nat) (hm : m < 2 ^ n) (hi : i < (bitsOf m).length) : (bitsOf m).getD i 0 < n := by
  have h1 : (bitsOf m).getD i 0 ∈ bitsOf m := by rw [List.getD_eq_getElem?_getD, List.getElem?_eq_getElem hi]; exact List.getElem_mem hi
  exact bit_lt hm ((bitsOf_mem m _).1 h1).2
set_option maxHeartbeats 3200000 in
theorem part_any (A : Option Addr) (n c m : Nat) (rs : List Nat) (w : World) (h : Rd w A n (ints rs)) (hn : n ≤ 8) (hr : ∀ i, rs.getD i 0 < 2 ^ n) (hm : m < 2 ^ n) (hT : Tab w) :
    Calls Tryd.prog 72 #[.slice A n c, .int .i64 (m : Int)] w (MakesE 57 w (bitsOf m).length (ints (partM rs (bitsOf m)))) := by
  have hlen : rs.length = n := by have := h.1; rw [ints_len] at this; exact this
  have HL := Lib.hid hlen
  clear hlen
  have h24 : n ≤ 24 := by omega
  have hm24 : m < 16777216 := by have := p24 n h24; omega
  have HLS := Lib.hid (fun i hi => bits_in n m i hm hi)
  have hblen := bitsOf_len m
  obtain ⟨ls, hls⟩ : ∃ ls, ls = bitsOf m := ⟨_, rfl⟩
  have HLB := Lib.hid hls
  rw [← hls] at hblen HLS ⊢
  clear hls
  obtain ⟨N, hN⟩ : ∃ N, N = ls.length := ⟨_, rfl⟩
  have HN := Lib.hid hN
  rw [← hN] at hblen HLS ⊢
  have HPM : Hid (partM rs ls = relM N (partD rs ls)) := Lib.hid (by unfold partM; rw [← hN])
  clear hN
  obtain ⟨i0, hi, hz0, hz1, hz2⟩ := info_parts info_set
  have hml : N ≤ maxLen := by unfold maxLen; omega
  have hby : i0.bytes * N ≤ 281474976710656 := by rw [hz2]; omega
  go_enter Tryd.func72, Tryd.ntmps72
  go_wp2_with fail
  refine (members_any m hm24 _ hT).mono ?_
  rw [← HLB.out, ← HN.out]
  rintro e w0 ⟨A0, c0, rfl, ho0, hb0⟩
  have hrd := h.below hb0
  go_wp2_with (first | (at_make; refine wpList_make_full _ rfl _ _ _ rfl w0.heap.size 57 i0 (.int .i64 0) 1 Tryd.underlying51 hi hz0 hz1 _ _ (N : Int) (N : Int) N rfl rfl rfl rfl hby hml (Nat.le_refl _) ?_; intro w1 hown0 hg1))
  have hown := own_made hown0
  clear hown0
  have hb1 : Below w0.heap.size w0 w1 := (Below.refl _ _).grown hg1 (Nat.le_refl _) (by simp)
  clear hg1
  go_loopw [18] (fun i wr => ∃ (k : Nat) (cs : List Nat), k ≤ N ∧ i = .int .i64 k ∧ Own 57 wr w0.heap.size (some ⟨w0.heap.size, 0, none⟩) N N (ints cs) ∧ Below w0.heap.size w0 wr ∧ PrtSt cs N (partD rs ls) k 0) (fun i _ => N - (intOf i).toNat)
  case atStart => exact ⟨0, List.replicate N 0, Nat.zero_le _, rfl, hown, hb1, prt_start N _⟩
  case round =>
    clear hown hb1
    obtain ⟨k, cs, hk, rfl, ho, hb, hst⟩ := hrel
    have HST := Lib.hid hst
    clear hst
    by_cases hlt : k < N
    · obtain ⟨b, off, v, rfl, hbs, hx, hcx⟩ := (ho0.rd.below hb).at_ hlt
      have hx2 := ints_getD ls k (by rw [← HN.out]; exact hlt)
      rw [hx2] at hx
      injection hx with hx
      subst hx
      have ha1n := HLS.out k hlt
      obtain ⟨a1, ha1⟩ : ∃ a1, a1 = ls.getD k 0 := ⟨_, rfl⟩
      rw [← ha1] at hcx ha1n
      have HA1 := Lib.hid ha1
      clear ha1 hx2
      obtain ⟨wo, rfl⟩ : ∃ wo : World, wo = wr := ⟨_, rfl⟩
      go_wp2_with fail
      go_loopw [25] (fun i wr => ∃ (t : Nat) (cs : List Nat), t ≤ N ∧ i = .int .i64 t ∧ Own 57 wr w0.heap.size (some ⟨w0.heap.size, 0, none⟩) N N (ints cs) ∧ Below w0.heap.size w0 wr ∧ PrtSt cs N (partD rs ls) k t) (fun i _ => N - (intOf i).toNat)
      case atStart => exact ⟨0, cs, Nat.zero_le _, rfl, ho, hb, HST.out⟩
      case round =>
        clear ho hb HST hcx
        obtain ⟨t, cs, ht, rfl, ho, hb, hst⟩ := hrel
        have HST := Lib.hid hst
        clear hst
        by_cases hlt2 : t < N
        · obtain ⟨b2, off2, v2, e9, hbs2, hx', hcx2⟩ := (ho0.rd.below hb).at_ hlt2
          cases e9
          have hx2' := ints_getD ls t (by rw [← HN.out]; exact hlt2)
          rw [hx2'] at hx'
          injection hx' with hx'
          subst hx'
          have ha2n := HLS.out t hlt2
          obtain ⟨b3, off3, v3, rfl, hbs3, hx3, hcx3⟩ := (hrd.below hb).at_ ha1n
          have hx2'' := ints_getD rs a1 (by rw [HL.out]; exact ha1n)
          rw [hx2''] at hx3
          injection hx3 with hx3
          subst hx3
          have hDD : partD rs ls k t = (rs.getD (ls.getD k 0) 0).testBit (ls.getD t 0) := rfl
          obtain ⟨a2, ha2⟩ : ∃ a2, a2 = ls.getD t 0 := ⟨_, rfl⟩
          rw [← HA1.out, ← ha2] at hDD
          rw [← ha2] at hcx2 ha2n
          have hD63 := lt63 h24 (hr a1)
          obtain ⟨D, hD⟩ : ∃ D, D = rs.getD a1 0 := ⟨_, rfl⟩
          rw [← hD] at hcx3 hD63 hDD
          have HDD := Lib.hid hDD
          have ha262 : a2 ≤ 62 := by omega
          have ht62 : t ≤ 62 := by omega
          clear ha2 hD hx2' hx2'' hDD
          cases hp : D.testBit a2
          · have HP := Lib.hid hp
            have HNX := Lib.hid (prt_no HST.out (show partD rs ls k t = false by rw [HDD.out]; exact hp))
            clear hp HST
            go_wp2_with fail
            refine (has_any D a2 hD63 ha262 _).mono ?_
            rintro e w' ⟨rfl, rfl⟩
            rw [HP.out]
            go_wp2_with fail
            go_roundw
            case rel => exact ⟨t + 1, cs, by omega, by go_num, ho, hb, HNX.out⟩
            case measure => simp [intOf]; omega
          · have HP := Lib.hid hp
            have HNX := Lib.hid (prt_yes HST.out (show partD rs ls k t = true by rw [HDD.out]; exact hp) hlt hlt2)
            obtain ⟨g, e9, hgB, hcell, hfr, hset⟩ := own_stored ho hlt
            cases e9
            have hS63 : cs.getD k 0 < 9223372036854775808 := lt63 (n := N) hblen (HST.out.2.1 k)
            have ho4 := hset (cs.getD k 0 ||| 2 ^ t)
            have hb4 := hb.setCell (p := ⟨w0.heap.size, k, none⟩) (Nat.le_refl _) (.int .i64 ((cs.getD k 0 ||| 2 ^ t : Nat) : Int))
            obtain ⟨S, hS⟩ : ∃ S, S = cs.getD k 0 := ⟨_, rfl⟩
            rw [← hS] at hcell ho4 hb4 HNX hS63
            clear hp hS hset HST
            go_wp2_with fail
            refine (has_any D a2 hD63 ha262 _).mono ?_
            rintro e w' ⟨rfl, rfl⟩
            rw [HP.out]
            go_wp2_with (go_at_call 63; refine (with_any _ _ hS63 ht62 _).mono ?_; rintro e w' ⟨rfl, rfl⟩)
            go_roundw
            case rel => exact ⟨t + 1, cs.set k (S ||| 2 ^ t), by omega, by go_num, ho4, hb4, HNX.out⟩
            case measure => simp [intOf]; omega
        · obtain rfl : t = N := by omega
          have HNX := Lib.hid (prt_row HST.out)
          go_wp2_with fail
          go_roundw
          case rel => exact ⟨k + 1, cs, by omega, by go_num, ho, hb, HNX.out⟩
          case measure => simp [intOf]; omega
    · obtain rfl : k = N := by omega
      have e9 : cs = partM rs ls := by rw [HPM.out]; exact prt_end HST.out
      rw [e9] at ho
      clear e9
      go_wp2_with fail
      go_ret
      exact ⟨_, _, rfl, ho.mono hb0.size, hb0.trans (hb.mono hb0.size)⟩
set_option maxHeartbeats 1600000 in
theorem implPartOfAlphabet (L : Int) (A : Option Addr) (n c : Nat) (xs : List Int) (m : Int) (w : World) (h : Rd w A n xs) (hwf : Wf xs) (hL1 : -9223372036854775808 ≤ L) (hL2 : L ≤ 9223372036854775807) (hn : n ≤ 9223372036854775807) (hm1 : -9223372036854775808 ≤ m) (hm2 : m ≤ 9223372036854775807) (hT : Tab w) :
    Calls Tryd.prog 37 #[.agg #[.int .i64 L, .slice A n c], .int .i64 m] w (AlPost w (partAns L xs m).1 (partAns L xs m).2.1.length (partAns L xs m).2.1 (partAns L xs m).2.2) := by
  have HB := Lib.hid (below2 w (.cells #[.int .i64 L, .slice A n c] 27) (.cells #[.int .i64 0, .slice none 0 0] 27))
  have hh := h.below HB.out
  have hT1 := hT.below HB.out
  have x0 := (box_new 27 w L A n c).next (below1 _ (.cells #[.int .i64 0, .slice none 0 0] 27))
  have r0 := box_new 27 (w.alloc (.cells #[.int .i64 L, .slice A n c] 27)) 0 none 0 0
  rw [size1] at r0
  cases ha : alphB L xs
  · rw [partAns_no L xs m ha]
    have HA := Lib.hid ha
    clear ha
    go_enter Tryd.func37, Tryd.ntmps37
    go_wp2_with fail
    refine (dependenceOf_no L _ _ _ xs _ hh hwf hL1 hL2 hn HA.out hT1).mono ?_
    rintro e w1 ⟨rfl, hb⟩
    have r1 := r0.next hb
    have y0 := r1.c0
    have y1 := r1.c1
    have f0 := r1.fr 0
    have f1 := r1.fr 1
    have HB1 := Lib.hid (HB.out.trans (hb.mono HB.out.size))
    go_wp2
    refine ret_gen (fun W => Box 27 W (w.heap.size + 1) 0 none 0 0 ∧ Below w.heap.size w W) ⟨r1.set _ _ _ _, (HB1.out.setCell (p := ⟨w.heap.size + 1, 0, none⟩) (by show w.heap.size ≤ w.heap.size + 1; omega) _).setCell (p := ⟨w.heap.size + 1, 1, none⟩) (by show w.heap.size ≤ w.heap.size + 1; omega) _⟩ ?_
    rintro W ⟨x, b⟩
    have e0 := x.c0
    have e1 := x.c1
    exact bodyPost_ret (v := .tuple #[.agg #[.int .i64 0, .slice none 0 0], .int .i64 1]) (by simp [results, Tryd.results37, go_sem, e0, e1]) rfl (AlPost.no 1 b)
  · obtain ⟨rs, rfl, rfl, h8, hr, hrel, hl, hd, _⟩ := alphB_nats L xs n h.1 ha
    have h24 : n ≤ 24 := by omega
    cases hmk : isMaskB m (n : Int)
    · rw [partAns_out _ _ m ha hmk]
      have HMK := Lib.hid hmk
      clear ha hl hmk
      go_enter Tryd.func37, Tryd.ntmps37
      go_wp2_with fail
      refine (dependenceOf_yes _ _ _ _ rs _ hh hwf h8 rfl hr hrel hd hT1).mono ?_
      rintro e w1 ⟨A1, c1, rfl, ho1, hb1⟩
      have HB1 := Lib.hid (HB.out.trans (hb1.mono HB.out.size))
      have r1 := r0.next hb1
      have x1 := x0.next hb1
      have v0 := x1.c0
      go_wp2_with fail
      refine (isMask_any _ _ hm1 hm2 _).mono ?_
      rintro e w' ⟨rfl, rfl⟩
      rw [HMK.out]
      have y0 := r1.c0
      have y1 := r1.c1
      have f0 := r1.fr 0
      have f1 := r1.fr 1
      go_wp2
      refine ret_gen (fun W => Box 27 W (w.heap.size + 1) 0 none 0 0 ∧ Below w.heap.size w W) ⟨r1.set _ _ _ _, (HB1.out.setCell (p := ⟨w.heap.size + 1, 0, none⟩) (by show w.heap.size ≤ w.heap.size + 1; omega) _).setCell (p := ⟨w.heap.size + 1, 1, none⟩) (by show w.heap.size ≤ w.heap.size + 1; omega) _⟩ ?_
      rintro W ⟨x, b⟩
      have e0 := x.c0
      have e1 := x.c1
      exact bodyPost_ret (v := .tuple #[.agg #[.int .i64 0, .slice none 0 0], .int .i64 2]) (by simp [results, Tryd.results37, go_sem, e0, e1]) rfl (AlPost.no 2 b)
    · have hmk2 := hmk
      rw [isMaskB_in m n h24, decide_eq_true_eq] at hmk2
      obtain ⟨q, rfl⟩ : ∃ q : Nat, m = (q : Int) := ⟨m.toNat, by omega⟩
      have hq : q < 2 ^ n := by omega
      rw [partAns_in n rs q ha hmk]
      have HMK := Lib.hid hmk
      have hblen := bitsOf_len q
      clear ha hl hmk hmk2
      go_enter Tryd.func37, Tryd.ntmps37
      go_wp2_with fail
      refine (dependenceOf_yes _ _ _ _ rs _ hh hwf h8 rfl hr hrel hd hT1).mono ?_
      rintro e w1 ⟨A1, c1, rfl, ho1, hb1⟩
      have HB1 := Lib.hid (HB.out.trans (hb1.mono HB.out.size))
      have r1 := r0.next hb1
      have x1 := x0.next hb1
      have v0 := x1.c0
      have hT2 := hT1.below hb1
      have hs1 : w.heap.size + 2 ≤ w1.heap.size := by have := hb1.size; have := size1 (w.alloc (.cells #[.int .i64 (n : Int), .slice A n c] 27)) (.cells #[.int .i64 0, .slice none 0 0] 27); have := size1 w (.cells #[.int .i64 (n : Int), .slice A n c] 27); omega
      go_wp2_with fail
      refine (isMask_any _ _ hm1 hm2 _).mono ?_
      rintro e w' ⟨rfl, rfl⟩
      rw [HMK.out]
      go_wp2_with fail
      refine (part_any _ _ _ q rs _ ho1.rd h8 hr hq hT2).mono ?_
      obtain ⟨ls, hls⟩ : ∃ ls, ls = bitsOf q := ⟨_, rfl⟩
      rw [← hls] at hblen ⊢
      have HLS := Lib.hid hls
      obtain ⟨K, hK⟩ : ∃ K, K = ls.length := ⟨_, rfl⟩
      have HK := Lib.hid hK
      rw [← hK] at hblen ⊢
      clear hK hls
      rintro e w2 ⟨A2, c2, rfl, ho2, hb2⟩
      have HB2 := Lib.hid (HB1.out.trans (hb2.mono HB1.out.size))
      have hs2 := hb2.size
      have r2 := r1.next hb2
      have hK3 : K ≤ 1048576 := by omega
      go_wp2_with fail
      refine (alphabetOf_any _ _ _ _ _ ho2.rd hK3).mono ?_
      rintro e w3 ⟨A3, c3, rfl, ho3, hb3⟩
      have HB3 := Lib.hid (HB2.out.trans (hb3.mono HB2.out.size))
      have r3 := r2.next hb3
      have y0 := r3.c0
      have y1 := r3.c1
      have f0 := r3.fr 0
      have f1 := r3.fr 1
      go_wp2
      refine ret_gen (fun W => Box 27 W (w.heap.size + 1) (K : Int) A3 K c3 ∧ Own 2 W w.heap.size A3 K c3 (ints (partM rs ls)) ∧ Below w.heap.size w W) ⟨r3.set _ _ _ _, ?_, ?_⟩ ?_
      · have hnn : ∀ q, A3.map (·.block) = some q → q ≠ w.heap.size + 1 := fun q hq => by have := (ho3.lt q hq).1; omega
        exact own_other (own_other (ho3.mono (by omega)) _ _ _ hnn) _ _ _ hnn
      · exact (HB3.out.setCell (p := ⟨w.heap.size + 1, 0, none⟩) (by show w.heap.size ≤ w.heap.size + 1; omega) _).setCell (p := ⟨w.heap.size + 1, 1, none⟩) (by show w.heap.size ≤ w.heap.size + 1; omega) _
      · rintro W ⟨x, o, b⟩
        have e0 := x.c0
        have e1 := x.c1
        rw [← HLS.out, ints_len, partM_len, ← HK.out]
        exact bodyPost_ret (v := .tuple #[.agg #[.int .i64 (K : Int), .slice A3 K c3], .int .i64 0]) (by simp [results, Tryd.results37, go_sem, e0, e1]) rfl ⟨_, _, rfl, o, b⟩
set_option maxHeartbeats 1600000 in
theorem specPartOfAlphabet (L : Int) (A : Option Addr) (n c : Nat) (xs : List Int) (m : Int) (w : World) (h : Rd w A n xs) (hwf : Wf xs) (hL1 : -9223372036854775808 ≤ L) (hL2 : L ≤ 9223372036854775807) (hn : n ≤ 9223372036854775807) (hm1 : -9223372036854775808 ≤ m) (hm2 : m ≤ 9223372036854775807) :
    Calls Tryd.prog 36 #[.agg #[.int .i64 L, .slice A n c], .int .i64 m] w (AlPost w (partAns L xs m).1 (partAns L xs m).2.1.length (partAns L xs m).2.1 (partAns L xs m).2.2) := by
  have HB := Lib.hid (below2 w (.cells #[.int .i64 L, .slice A n c] 27) (.cells #[.int .i64 0, .slice none 0 0] 27))
  have hh := h.below HB.out
  have x0 := (box_new 27 w L A n c).next (below1 _ (.cells #[.int .i64 0, .slice none 0 0] 27))
  have r0 := box_new 27 (w.alloc (.cells #[.int .i64 L, .slice A n c] 27)) 0 none 0 0
  rw [size1] at r0
  cases ha : alphB L xs
  · rw [partAns_no L xs m ha]
    have HA := Lib.hid ha
    clear ha
    go_enter Tryd.func36, Tryd.ntmps36
    go_wp2_with fail
    refine (l02Is_any L _ _ _ xs _ hh hn).mono ?_
    rintro e w1 ⟨rfl, hb⟩
    rw [HA.out]
    have r1 := r0.next hb
    have y0 := r1.c0
    have y1 := r1.c1
    have f0 := r1.fr 0
    have f1 := r1.fr 1
    have HB1 := Lib.hid (HB.out.trans (hb.mono HB.out.size))
    go_wp2
    refine ret_gen (fun W => Box 27 W (w.heap.size + 1) 0 none 0 0 ∧ Below w.heap.size w W) ⟨r1.set _ _ _ _, (HB1.out.setCell (p := ⟨w.heap.size + 1, 0, none⟩) (by show w.heap.size ≤ w.heap.size + 1; omega) _).setCell (p := ⟨w.heap.size + 1, 1, none⟩) (by show w.heap.size ≤ w.heap.size + 1; omega) _⟩ ?_
    rintro W ⟨x, b⟩
    have e0 := x.c0
    have e1 := x.c1
    exact bodyPost_ret (v := .tuple #[.agg #[.int .i64 0, .slice none 0 0], .int .i64 1]) (by simp [results, Tryd.results36, go_sem, e0, e1]) rfl (AlPost.no 1 b)
  · obtain ⟨rs, rfl, rfl, h8, hr, hrel, hl, hd, _⟩ := alphB_nats L xs n h.1 ha
    have h24 : n ≤ 24 := by omega
    have hn62 : n ≤ 62 := by omega
    have hp0 := p2_pos n
    have HA := Lib.hid ha
    have hdep := (depB_iff rs n hl hr).1 hd
    cases hmk : isMaskB m (n : Int)
    · rw [partAns_out _ _ m ha hmk]
      have hmk2 := hmk
      rw [isMaskB_in m n h24, decide_eq_false_iff_not] at hmk2
      have HIN : Hid (¬ ((0 : Int) ≤ m ∧ m ≤ ((2 ^ n - 1 : Nat) : Int))) := Lib.hid (by omega)
      clear ha hl hmk hmk2
      go_enter Tryd.func36, Tryd.ntmps36
      go_wp2_with fail
      refine (l02Is_any _ _ _ _ _ _ hh hn).mono ?_
      rintro e w1 ⟨rfl, hb⟩
      rw [HA.out]
      have HB1 := Lib.hid (HB.out.trans (hb.mono HB.out.size))
      have r1 := r0.next hb
      have x1 := x0.next hb
      have v0 := x1.c0
      go_wp2_with fail
      refine (full_any n hn62 _).mono ?_
      rintro e w' ⟨rfl, rfl⟩
      go_wp2_with fail
      refine (in_false _ _ _ HIN.out _).mono ?_
      rintro e w' ⟨rfl, rfl⟩
      have y0 := r1.c0
      have y1 := r1.c1
      have f0 := r1.fr 0
      have f1 := r1.fr 1
      go_wp2
      refine ret_gen (fun W => Box 27 W (w.heap.size + 1) 0 none 0 0 ∧ Below w.heap.size w W) ⟨r1.set _ _ _ _, (HB1.out.setCell (p := ⟨w.heap.size + 1, 0, none⟩) (by show w.heap.size ≤ w.heap.size + 1; omega) _).setCell (p := ⟨w.heap.size + 1, 1, none⟩) (by show w.heap.size ≤ w.heap.size + 1; omega) _⟩ ?_
      rintro W ⟨x, b⟩
      have e0 := x.c0
      have e1 := x.c1
      exact bodyPost_ret (v := .tuple #[.agg #[.int .i64 0, .slice none 0 0], .int .i64 2]) (by simp [results, Tryd.results36, go_sem, e0, e1]) rfl (AlPost.no 2 b)
    · have hmk2 := hmk
      rw [isMaskB_in m n h24, decide_eq_true_eq] at hmk2
      obtain ⟨q, rfl⟩ : ∃ q : Nat, m = (q : Int) := ⟨m.toNat, by omega⟩
      have hq : q < 2 ^ n := by omega
      have hq24 : q < 16777216 := by have := p24 n h24; omega
      rw [partAns_in n rs q ha hmk]
      have HIN : Hid ((0 : Int) ≤ (q : Int) ∧ (q : Int) ≤ ((2 ^ n - 1 : Nat) : Int)) := Lib.hid (by omega)
      have hblen := bitsOf_len q
      have HBI := Lib.hid (fun i hi => bits_in n q i hq hi)
      clear ha hl hmk hmk2
      go_enter Tryd.func36, Tryd.ntmps36
      go_wp2_with fail
      refine (l02Is_any _ _ _ _ _ _ hh hn).mono ?_
      rintro e w1 ⟨rfl, hb⟩
      rw [HA.out]
      have HB1 := Lib.hid (HB.out.trans (hb.mono HB.out.size))
      have r1 := r0.next hb
      have x1 := x0.next hb
      have v0 := x1.c0
      have v1 := x1.c1
      have hh1 := hh.below hb
      have hs1 : w.heap.size + 2 ≤ w1.heap.size := by have := hb.size; have := size1 (w.alloc (.cells #[.int .i64 (n : Int), .slice A n c] 27)) (.cells #[.int .i64 0, .slice none 0 0] 27); have := size1 w (.cells #[.int .i64 (n : Int), .slice A n c] 27); omega
      go_wp2_with fail
      refine (full_any n hn62 _).mono ?_
      rintro e w' ⟨rfl, rfl⟩
      go_wp2_with fail
      refine (in_true _ _ _ HIN.out _).mono ?_
      rintro e w' ⟨rfl, rfl⟩
      go_wp2_with fail
      have hdr := below_drew w1
      have d0 := (x1.next hdr).c0
      have d1 := (x1.next hdr).c1
      have g0 := (r1.next hdr).c0
      have g1 := (r1.next hdr).c1
      have hlist := specList_any q hq24 w1.drew
      obtain ⟨ls, hls⟩ : ∃ ls, ls = bitsOf q := ⟨_, rfl⟩
      rw [← hls] at hblen HBI hlist
      have HLS := Lib.hid hls
      obtain ⟨K, hK⟩ : ∃ K, K = ls.length := ⟨_, rfl⟩
      have HK := Lib.hid hK
      rw [← hK] at hblen HBI hlist
      clear hK hls
      go_region_with (first | (go_at_call 70; refine hlist.mono ?_; rintro e w2 ⟨A2, c2, rfl, ho2, hb2⟩; have hb12 := hdr.trans (hb2.mono hdr.size); have x2 := x1.next hb12; have r2 := r1.next hb12; have u0 := x2.c0; have u1 := x2.c1) | (go_at_call 69; refine (specPart_any _ _ _ _ K _ rs ls _ (hh1.below hb12) ho2.rd h8 (by omega) hr HBI.out hdep).mono ?_; rintro e w3 ⟨A3, c3, rfl, ho3, hb3⟩; have hb13 := hb12.trans (hb3.mono hb12.size); have r3 := r1.next hb13; have y0 := r3.c0; have y1 := r3.c1; have f0 := r3.fr 0; have f1 := r3.fr 1))
      all_goals
        have hs13 := hb12.size
        have HB3 := Lib.hid (HB1.out.trans (hb13.mono HB1.out.size))
        go_wp2
        refine ret_gen (fun W => Box 27 W (w.heap.size + 1) (K : Int) A3 K c3 ∧ Own 2 W w.heap.size A3 K c3 (ints (partM rs ls)) ∧ Below w.heap.size w W) ⟨r3.set _ _ _ _, ?_, ?_⟩ ?_
        · have hnn : ∀ q, A3.map (·.block) = some q → q ≠ w.heap.size + 1 := fun q hq => by have := (ho3.lt q hq).1; omega
          exact own_other (own_other (ho3.mono (by omega)) _ _ _ hnn) _ _ _ hnn
        · exact (HB3.out.setCell (p := ⟨w.heap.size + 1, 0, none⟩) (by show w.heap.size ≤ w.heap.size + 1; omega) _).setCell (p := ⟨w.heap.size + 1, 1, none⟩) (by show w.heap.size ≤ w.heap.size + 1; omega) _
        · rintro W ⟨x, o, b⟩
          have e0 := x.c0
          have e1 := x.c1
          rw [← HLS.out, ints_len, partM_len, ← HK.out]
          exact bodyPost_ret (v := .tuple #[.agg #[.int .i64 (K : Int), .slice A3 K c3], .int .i64 0]) (by simp [results, Tryd.results36, go_sem, e0, e1]) rfl ⟨_, _, rfl, o, b⟩
end Go.Proofs.YtbjkpkgnjeaimaaDoor
