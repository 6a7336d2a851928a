/-
  The list of all traces with a length: mathematics; the program's way. The list of all traces with a length: the model's recursion. TracesOfLength: the model's answer.
-/
import Derived.Test.YtkifadmoedackaaDoorAt1
import Derived.Deep.RegionHeld3
namespace Go.Proofs.YtkifadmoedackaaDoor
open Go Go.RowKit
set_option linter.unusedVariables false
set_option maxRecDepth 100000

/-- One more slice behind a row of slices: the element is new behind the row's elements; the row itself may have moved. -/
theorem OwnSS.snocG {w w1 w2 : World} {lo n N c : Nat} {A : Option Addr} {v' : Value} {At : Option Addr} {ct : Nat} {ys : List Int}
    {ts : List (Option Addr × Nat × List Int)} (h : OwnT w lo w.heap.size A n c ts) {row : Option Nat} (hb : w.grownBy w1 row) (hbr : ∀ q, row = some q → q < lo) (ho : Own 2 w1 w.heap.size At N ct ys) (hlo : lo ≤ w.heap.size)
    (hrow : w2.ownsRow lo 22 1 v' (n + 1) (valsT ts ++ [.slice At N ct])) (hg : w1.grownBy w2 (A.map (·.block)))
    (hat : v'.ownBlock = A.map (·.block) ∨ ∃ g, v'.ownBlock = some g ∧ w1.heap.size ≤ g) :
    ∃ A' c', v' = .slice A' (n + 1) c' ∧ OwnSS w2 lo w2.heap.size A' (n + 1) c' (ts.map (fun t => t.2.2) ++ [ys]) := by
  obtain ⟨g9, c', rfl, _, _⟩ := World.ownsRow.form hrow (Nat.succ_pos n)
  obtain ⟨A', hA9⟩ : ∃ A', A' = some (⟨g9, 0, none⟩ : Addr) := ⟨_, rfl⟩
  rw [← hA9] at hrow hat ⊢
  have ht := h
  have hN : ys.length = N := ho.len
  have hsz : w.heap.size ≤ w1.heap.size := hb.size
  have hsz2 : w1.heap.size ≤ w2.heap.size := hg.size
  have hA : ∀ q, A.map (·.block) = some q → lo ≤ q ∧ q < w.heap.size := fun q hq => row_block ht.2.1 q hq
  have hAt : ∀ q, At.map (·.block) = some q → w.heap.size ≤ q ∧ q < w1.heap.size := fun q hq => ho.lt q hq
  have hA' : ∀ q, A'.map (·.block) = some q → A.map (·.block) = some q ∨ w1.heap.size ≤ q := fun q hq => by
    rw [own_blockS] at hat
    rcases hat with h9 | ⟨g, h9, h8⟩
    · exact .inl (h9 ▸ hq)
    · rw [hq] at h9; injection h9 with h9; exact .inr (by omega)
  refine ⟨A', c', rfl, ts ++ [(At, ct, ys)], by rw [List.map_append]; rfl, by rw [List.length_append, ht.1]; rfl, ?_, fun q hq => (row_block hrow q hq).2, fun j t hj => ?_⟩
  · have : valsT (ts ++ [(At, ct, ys)]) = valsT ts ++ [.slice At N ct] := by unfold valsT; rw [List.map_append, ← hN]; rfl
    rw [this]; exact hrow
  · rcases Nat.lt_or_ge j ts.length with hlt | hge
    · rw [List.getElem?_append_left hlt] at hj
      have h9 := ht.2.2.2 j t hj
      have hblk : ∀ q, t.1.map (·.block) = some q → q < w.heap.size := fun q hq => (h9.1.lt q hq).2
      refine ⟨(h9.1.apart hb (fun q hq e9 => by have := hbr q e9; have := (h9.1.lt q hq).1; omega)).apart hg (fun q hq e9 => (h9.2 q hq).2.1 e9), fun q hq => ⟨by have := hblk q hq; omega, fun e9 => ?_, fun l u hl hu => ?_⟩⟩
      · rcases hA' q e9 with h8 | h8
        · exact (h9.2 q hq).2.1 h8
        · have := hblk q hq; omega
      · rcases Nat.lt_or_ge l ts.length with hl2 | hl2
        · rw [List.getElem?_append_left hl2] at hu
          exact (h9.2 q hq).2.2 l u hl hu
        · rw [List.getElem?_append_right hl2] at hu
          cases hd : l - ts.length with
          | zero =>
            rw [hd] at hu
            injection hu with hu
            subst hu
            intro e8
            have := (hAt q e8).1; have := hblk q hq; omega
          | succ k => rw [hd] at hu; cases hu
    · rw [List.getElem?_append_right hge] at hj
      cases hd : j - ts.length with
      | zero =>
        rw [hd] at hj
        injection hj with hj
        subst hj
        have hjl : j = ts.length := by omega
        refine ⟨?_, fun q hq => ⟨by have := (hAt q hq).2; omega, fun e9 => ?_, fun l u hl hu e8 => ?_⟩⟩
        · show Own 2 w2 lo At ys.length ct ys
          rw [hN]
          exact (ho.mono hlo).apart hg (fun q hq e9 => by have := (hA q e9).2; have := (hAt q hq).1; omega)
        · have h7 := hAt q hq
          rcases hA' q e9 with h8 | h8
          · have := (hA q h8).2; omega
          · omega
        · rcases Nat.lt_or_ge l ts.length with hl2 | hl2
          · rw [List.getElem?_append_left hl2] at hu
            have := ((ht.2.2.2 l u hu).1.lt q e8).2
            have := (hAt q hq).1; omega
          · rw [List.getElem?_append_right hl2] at hu
            have : l - ts.length ≠ 0 := by omega
            cases hk : l - ts.length with
            | zero => exact this hk
            | succ k => rw [hk] at hu; cases hu
      | succ k => rw [hd] at hj; cases hj

theorem pk_range {β : Type} (f : Nat → Int) (h0 : ∀ a, 0 ≤ f a) (g : Option (Nat × Int) → β) : ∀ l : List Nat, (List.range (sumF f l).toNat).map (fun r : Nat => g (pk f l (r : Int))) = l.flatMap fun a => (List.range (f a).toNat).map fun r : Nat => g (some (a, (r : Int)))
  | [] => by simp [sumF]
  | a :: l => by
    have hs : 0 ≤ sumF f l := (sumF_mem f h0 l).1
    have ha := h0 a
    rw [sumF_cons, Int.toNat_add ha hs, List.range_add, List.map_append, List.map_map, List.flatMap_cons, ← pk_range f h0 g l]
    congr 1
    · refine List.map_congr_left fun r hr => ?_
      have := List.mem_range.1 hr
      show g (if (r : Int) < f a then _ else _) = _
      rw [if_pos (by omega)]
    · refine List.map_congr_left fun r hr => ?_
      show g (if (((f a).toNat + r : Nat) : Int) < f a then _ else _) = _
      rw [if_neg (by omega)]
      have e : (((f a).toNat + r : Nat) : Int) - f a = (r : Int) := by omega
      show g (pk f l ((((f a).toNat + r : Nat) : Int) - f a)) = g (pk f l (r : Int))
      rw [e]
/-- All normal forms, in their order. -/
def atL (rs : List Nat) (m F : Nat) : List (List Nat) := (List.range (tN rs F m).toNat).map fun r : Nat => atM rs m F (r : Int)
theorem atL_len (rs : List Nat) (m F : Nat) : (atL rs m F).length = (tN rs F m).toNat := by unfold atL; rw [List.length_map, List.length_range]
theorem atL_zero (rs : List Nat) (F : Nat) : atL rs 0 F = [[]] := rfl
theorem atL_succ (rs : List Nat) (n F m : Nat) (hl : rs.length = n) (h8 : n ≤ 8) (hr : ∀ i, rs.getD i 0 < 2 ^ n) (hF : F < 2 ^ n) : atL rs (m + 1) F = (bitsOf F).flatMap fun a => (atL rs m (bhM rs F a)).map (a :: ·) := by
  unfold atL
  rw [tN_succ rs n F m hl h8 hr hF]
  have h := pk_range (fun a => tN rs (bhM rs F a) m) (fun a => tN_nonneg rs _ m) (fun o => match o with | some (a, r') => a :: atM rs m (bhM rs F a) r' | none => []) (bitsOf F)
  refine h.trans ?_
  congr 1
  funext a
  rw [List.map_map]; rfl
theorem atL_take (rs : List Nat) (k F N : Nat) (h : tN rs F k = (N : Int)) : atL rs k F = (List.range N).map fun r : Nat => atM rs k F (r : Int) := by
  unfold atL; rw [h]; rfl
theorem Memo.rowle {w0 W W' : World} {gk gf go gr bm n c G : Nat} {A : Option Addr} {rs : List Nat} {row : Option Nat} (h : Memo w0 W gk gf go gr bm A n c rs) (hG : w0.heap.size ≤ G ∧ gk < G ∧ gf < G ∧ go < G ∧ gr < G ∧ bm < G) (hg : W.grownBy W' row) (hr : ∀ q, row = some q → G ≤ q) : Memo w0 W' gk gf go gr bm A n c rs := by
  obtain ⟨a1, a2, a3, a4, a5, a6, L, D, ho, rest⟩ := h
  obtain ⟨g0, g1, g2, g3, g4, g5⟩ := hG
  exact ⟨a1.grown hg a1.size (fun k hk => by have := hr k hk; omega), a2, a3.apart hg (fun e => by have := hr _ e; omega), a4.apart hg (fun e => by have := hr _ e; omega), a5.apart hg (fun e => by have := hr _ e; omega), a6.apart hg (fun e => by have := hr _ e; omega), L, D, ho.kept hg (fun e => by have := hr _ e.symm; omega), rest⟩
def tlAns (L : Int) (xs : List Int) (a : Int) : List (List Int) × Int :=
  if (ctAns L xs a).2 = 0 then (if (ctAns L xs a).1 ≤ 1000 then ((atL (xs.map Int.toNat) a.toNat (2 ^ xs.length - 1)).map ints, 0) else ([], 3)) else ([], (ctAns L xs a).2)
theorem tlAns_bad (L : Int) (xs : List Int) (a : Int) (h : (ctAns L xs a).2 ≠ 0) : tlAns L xs a = ([], (ctAns L xs a).2) := by unfold tlAns; rw [if_neg h]
theorem tlAns_out (L : Int) (xs : List Int) (a : Int) (h : (ctAns L xs a).2 = 0) (h2 : ¬ (ctAns L xs a).1 ≤ 1000) : tlAns L xs a = ([], 3) := by unfold tlAns; rw [if_pos h, if_neg h2]
theorem tlAns_yes (n k : Nat) (rs : List Nat) (hl : rs.length = n) (h : (ctAns (n : Int) (ints rs) (k : Int)).2 = 0) (h2 : (ctAns (n : Int) (ints rs) (k : Int)).1 ≤ 1000) : tlAns (n : Int) (ints rs) (k : Int) = ((atL rs k (2 ^ n - 1)).map ints, 0) := by
  unfold tlAns; rw [if_pos h, if_pos h2, ints_toNat, ints_len, hl]; rfl
set_option maxHeartbeats 3200000 in
theorem implTracesOfLength (L : Int) (A : Option Addr) (n c : Nat) (xs : List Int) (a : Int) (w : World) (h : Rd w A n xs) (hwf : Wf xs) (hL1 : -9223372036854775808 ≤ L) (hL2 : L ≤ 9223372036854775807) (hn : n ≤ maxLen) (ha1 : -9223372036854775808 ≤ a) (ha2 : a ≤ 9223372036854775807) (hT : Tab w) :
    Calls Tryd.prog 37 #[.agg #[.int .i64 L, .slice A n c], .int .i64 a] w (LssPost w (tlAns L xs a).1.length (tlAns L xs a).1 (tlAns L xs a).2) := by
  have HB := Lib.hid (below1 w (.cells #[.int .i64 L, .slice A n c] 28))
  have hh := h.below HB.out
  have hT1 := hT.below HB.out
  have x0 := box_new 28 w L A n c
  obtain ⟨i1, hi1, hy0, hy1, hy2⟩ := info_parts info_slsS
  have hn2 : n ≤ 9223372036854775807 := by unfold maxLen at hn; omega
  have HC := Lib.hid (countIn_any L A n c xs a none 0 0 [] _ hh hwf hL1 hL2 hn2 (Rd.nil _ _) (fun x hx => (by cases hx)) (by omega) hT1)
  have x00 := x0.c0
  have x01 := x0.c1
  by_cases hc : (ctAns L xs a).2 = 0
  · obtain ⟨ha, hle, hct, hv⟩ := ct_zero hc
    have ha3 : 0 ≤ a ∧ a ≤ 24 := of_decide_eq_true hle
    obtain ⟨k, rfl⟩ := Int.eq_ofNat_of_zero_le ha3.1
    have hk : k ≤ 24 := by omega
    obtain ⟨rs, rfl, rfl, h8, hr, hrel, hlen, hd, _⟩ := alphB_nats L xs n h.1 ha
    have HG := Lib.hid (fun e w' h9 => cin_good (w := w.alloc (.cells #[.int .i64 (n : Int), .slice A n c] 28)) (w' := w') (e := e) h9 hc)
    rw [ints_len, hlen] at HG
    have hvV : (ctAns (n : Int) (ints rs) (k : Int)).1 = traM rs k := by rw [hv, ints_toNat]; rfl
    by_cases hrk : (ctAns (n : Int) (ints rs) (k : Int)).1 ≤ 1000
    · rw [tlAns_yes n k rs hlen hc hrk]
      have hfull := tN_full rs n k hlen
      rw [hvV] at HG hrk
      have hcb : traM rs k ≤ cntC := by rw [ints_toNat] at hct; exact of_decide_eq_true hct
      have hF : 2 ^ n - 1 < 2 ^ n := by have := p2_pos n; omega
      have hv0 : 0 ≤ traM rs k := by rw [← hfull]; exact tN_nonneg rs _ k
      obtain ⟨N, hN⟩ := Int.eq_ofNat_of_zero_le hv0
      rw [hN] at HG hrk hfull
      have hN1000 : N ≤ 1000 := by omega
      have HNF := Lib.hid (fun (j : Nat) (hj : j < N) w0 gk gf go gr bm A c (h0 : Rd w0 A n (ints rs)) hT => normalFormAt_any w0 gk gf go gr bm A n c rs h0 h8 hr hT k (2 ^ n - 1) (j : Int) hk hF (by omega) (by rw [hfull]; omega) (by rw [hfull, ← hN]; exact hcb))
      have HTR := Lib.hid (fun A c w => traces_any A n c k w h8)
      have HAL := Lib.hid (atL_take rs k (2 ^ n - 1) N hfull)
      have HLN := Lib.hid (fun (j : Nat) (hj : j < N) => atM_len rs n hlen h8 hr k (2 ^ n - 1) (j : Int) hF (by omega) (by rw [hfull]; omega))
      have HTT := Lib.hid (fun ww hw => hT1.below (w' := ww) hw)
      obtain ⟨F0, hF0⟩ : ∃ F0, F0 = 2 ^ n - 1 := ⟨_, rfl⟩
      rw [← hF0] at HNF HTR HAL HLN ⊢
      rw [HAL.out]
      show Calls _ _ _ _ (LssPost w (((List.range N).map fun r : Nat => atM rs k F0 (r : Int)).map ints).length (((List.range N).map fun r : Nat => atM rs k F0 (r : Int)).map ints) 0)
      rw [List.map_map, List.length_map, List.length_range]
      obtain ⟨q, hq⟩ : ∃ q : Nat → List Int, q = fun r : Nat => ints (atM rs k F0 (r : Int)) := ⟨_, rfl⟩
      have hq2 : (ints ∘ fun r : Nat => atM rs k F0 (r : Int)) = q := by rw [hq]; rfl
      rw [hq2]
      have HQ : Hid (∀ j : Nat, q j = ints (atM rs k F0 (j : Int))) := Lib.hid fun j => by rw [hq]
      clear hF0 hN hF hcb hfull hrk hv hvV hct hle ha3 ha hc hd hlen hrel hr hh hT1 hwf hq hq2 hv0 HAL
      go_enter Tryd.func37, Tryd.ntmps37
      go_wp2_with fail
      refine HC.out.mono ?_
      intro e w1 h9
      obtain ⟨A1, c1, rfl, ho1, hb1⟩ := HG.out _ _ h9
      clear h9
      have HB1 := Lib.hid (HB.out.trans (hb1.mono HB.out.size))
      have HO1 := Lib.hid ho1.rd
      have HT1 := Lib.hid (HTT.out _ hb1)
      clear ho1 hb1
      go_wp2_with fail
      refine (counter_any A1 n c1 rs w1).mono ?_
      rintro e w3 ⟨gk, gf, go, gr, bm, rfl, hM⟩
      have HB3 := Lib.hid (HB1.out.trans (hM.1.mono HB1.out.size))
      have HM := Lib.hid hM
      have HLT := Lib.hid (And.intro hM.1.size (And.intro hM.2.2.1.lt (And.intro hM.2.2.2.1.lt (And.intro hM.2.2.2.2.1.lt (And.intro hM.2.2.2.2.2.1.lt hM.2.2.2.2.2.2.lt)))))
      clear hM
      go_wp2_with fail
      go_loopw [10, 27] (fun v i wr => ∃ (j : Nat) (A2 : Option Addr) (c2 : Nat), j ≤ N ∧ i = .int .i64 j ∧ v = .slice A2 j c2 ∧ OwnSS wr w3.heap.size wr.heap.size A2 j c2 ((List.range j).map q) ∧ Memo w1 wr gk gf go gr bm A1 n c1 rs ∧ w3.heap.size ≤ wr.heap.size) (fun _ i _ => N - (intOf i).toNat)
      case atStart => exact ⟨0, none, 0, Nat.zero_le _, rfl, rfl, OwnSS.nil _ _, HM.out, Nat.le_refl _⟩
      case round =>
        obtain ⟨j, A2, c2, hj, rfl, rfl, hss, hM2, hsz⟩ := hrel
        by_cases hlt : j < N
        · obtain ⟨ts, hts, hot⟩ := hss
          have HTS := Lib.hid hts
          have hwl : w1.heap.size ≤ wr.heap.size := hM2.1.size
          have HSZ : Hid (w3.heap.size ≤ wr.heap.size) := Lib.hid hsz
          have HM2 := Lib.hid hM2
          obtain ⟨w4, rfl⟩ : ∃ w9 : World, w9 = wr := ⟨_, rfl⟩
          clear hts hM2 hsz
          go_wp2_with fail
          refine (HTR.out A1 c1 _).mono ?_
          rintro e w5 ⟨rfl, hb5⟩
          have HM5 := Lib.hid (HM2.out.next hb5)
          have HN5 := Lib.hid (HNF.out j hlt w1 gk gf go gr bm A1 c1 HO1.out HT1.out w5 HM5.out)
          go_wp2_with fail
          refine HN5.out.mono ?_
          rintro e w6 ⟨A6, c6, rfl, ho6, hM6, hg6⟩
          have hg46 : w4.grownBy w6 (some bm) := (grown_row hb5 (some bm)).trans hg6
          have ho6' := ho6.mono hb5.size
          have hrow6 := row_kept hot.2.1 hg46 (fun q hq e => by have h7 := (hot.lt q hq).1; injection e with e; have := HLT.out.2.2.2.2.2; omega)
          have hml : j + 1 ≤ maxLen := by unfold maxLen; omega
          have hkb : (j + 1) * 24 ≤ 140737488355328 := by omega
          go_wp2_with (at_builtin; refine wpList_append_own_at _ rfl _ _ 42 rfl w3.heap.size 22 i1 (.slice none 0 0) 1 24 Tryd.underlying42 hi1 hy0 hy1 hy2 rfl (by decide) (.slice A2 j c2) j (valsT ts) rfl (World.ownsRow.alloc hrow6 _) ⟨w6.heap.size, 0, none⟩ 1 1 [.slice A6 k c6] rfl rfl ?c1 ?c2 hml hkb ?c5 ?_)
          case c1 => exact cell_one_new _ _ _
          case c2 => intro u hu; simp at hu; subst hu; rfl
          case c5 => have := HSZ.out; have := hg46.size; simp; omega
          intro v' w7 hown hg _ hat
          have HM7 := Lib.hid ((hM6.next (below1 w6 (.cells #[.slice A6 k c6] 22))).rowle HLT.out hg (fun r hr => (hot.lt r (by rw [own_blockS] at hr; exact hr)).1))
          have hg3 := alloc_grownS hg
          have HZ7 : Hid (w3.heap.size ≤ w7.heap.size) := Lib.hid (by have := HSZ.out; have := hg46.size; have := hg3.size; omega)
          rw [own_blockS] at hg3 hat
          obtain ⟨A7, c7, hv, hss7⟩ := OwnSS.snocG hot hg46 (fun q e => by injection e with e; have := HLT.out.2.2.2.2.2; omega) ho6' HSZ.out hown hg3 (hat.imp id fun h9 => ⟨_, h9, Nat.le_succ _⟩)
          rw [hv]
          rw [HTS.out, ← HQ.out] at hss7
          have HS7 : Hid (OwnSS w7 w3.heap.size w7.heap.size A7 (j + 1) c7 ((List.range (j + 1)).map q)) := Lib.hid (by rw [List.range_succ, List.map_append]; exact hss7)
          clear hown hg hv hot hrow6 hg3 hat hss7 ho6 ho6' hg46 hg6 hM6 hb5
          go_wp2_with fail
          go_roundw
          case rel => exact ⟨j + 1, A7, c7, by omega, by go_num, rfl, HS7.out, HM7.out, HZ7.out⟩
          case measure => simp [intOf]; omega
        · obtain rfl : j = N := by omega
          go_wp2_with fail
          go_ret2
          exact ⟨A2, c2, rfl, hss.wide HB3.out.size (Nat.le_refl _), HB1.out.trans (hM2.1.mono HB1.out.size)⟩
    · rw [tlAns_out _ _ _ hc hrk]
      obtain ⟨V, hV⟩ : ∃ V, V = (ctAns (n : Int) (ints rs) (k : Int)).1 := ⟨_, rfl⟩
      rw [← hV] at HG hrk
      have hgt : 1000 < V := by omega
      clear hV hv hvV hct hle ha3 ha hc hd hlen hrel hr hh hT1 hwf hrk
      go_enter Tryd.func37, Tryd.ntmps37
      go_wp2_with fail
      refine HC.out.mono ?_
      intro e w1 h9
      obtain ⟨A1, c1, rfl, ho1, hb1⟩ := HG.out _ _ h9
      clear h9
      go_wp2_with fail
      go_ret2
      exact ⟨none, 0, rfl, OwnSS.nil _ _, HB.out.trans (hb1.mono HB.out.size)⟩
  · rw [tlAns_bad _ _ _ hc]
    have HBD := Lib.hid (fun e w' h9 => cin_bad (w := w.alloc (.cells #[.int .i64 L, .slice A n c] 28)) (w' := w') (e := e) h9 hc)
    obtain ⟨C, hC⟩ : ∃ C, C = (ctAns L xs a).2 := ⟨_, rfl⟩
    rw [← hC] at HBD hc ⊢
    clear hC hh hT1 hwf
    go_enter Tryd.func37, Tryd.ntmps37
    go_wp2_with fail
    refine HC.out.mono ?_
    intro e w1 h9
    obtain ⟨rfl, hb1⟩ := HBD.out _ _ h9
    clear h9
    go_wp2_with fail
    go_ret2
    exact ⟨none, 0, rfl, OwnSS.nil _ _, HB.out.trans (hb1.mono HB.out.size)⟩
end Go.Proofs.YtkifadmoedackaaDoor
namespace Go.Proofs.YtkifadmoedackaaDoor
open Go Go.RowKit
set_option linter.unusedVariables false
set_option maxRecDepth 100000

theorem grown_join {w wr ww : World} {r r2 : Option Nat} (h : w.grownBy wr r) (hg : wr.grownBy ww r2) (hr : ∀ q, r2 = some q → r = some q ∨ w.heap.size ≤ q) : w.grownBy ww r :=
  ⟨hg.os.trans h.os, hg.tape.trans h.tape, hg.output.trans h.output, Nat.le_trans h.size hg.size, fun k hk hne => (hg.block k (Nat.lt_of_lt_of_le hk h.size) (fun e => by
    rcases hr k e.symm with h9 | h9
    · exact hne h9.symm
    · omega)).trans (h.block k hk hne)⟩
theorem ownss_block {w : World} {lo hi n c : Nat} {A : Option Addr} {xss : List (List Int)} (h : OwnSS w lo hi A n c xss) : ∀ q, A.map (·.block) = some q → lo ≤ q ∧ q < hi := by
  obtain ⟨ts, _, ho⟩ := h
  exact ho.lt
/-- What the recursion answers: the list with all normal forms behind a beginning. -/
def LstPost (w : World) (lo q : Nat) (AL : Option Addr) (T : Nat) (zss : List (List Int)) (e : Ending) (w' : World) : Prop :=
  ∃ A' c', e = .returned (.slice A' (q + T) c') ∧ OwnSS w' lo w'.heap.size A' (q + T) c' zss ∧ w.grownBy w' (AL.map (·.block)) ∧ (∀ k, A'.map (·.block) = some k → AL.map (·.block) = some k ∨ w.heap.size ≤ k)
def lstV (rs : List Nat) (m F : Nat) (ss : List Nat) (yss : List (List Int)) : List (List Int) := yss ++ (atL rs m F).map fun z => ints (ss ++ z)
def LstAll (rs : List Nat) (A : Option Addr) (n c m : Nat) : Prop :=
  ∀ (F mask ns cs q cl lo : Nat) (SA AL : Option Addr) (ss : List Nat) (yss : List (List Int)) (w : World), (∀ ww, Below lo w ww → Rd ww A n (ints rs)) → (∀ ww, w.grownBy ww (AL.map (·.block)) → Rd ww SA ns (ints ss)) → ns + m ≤ 24 → Opp n mask F →
    OwnSS w lo w.heap.size AL q cl yss → lo ≤ w.heap.size → q + (tN rs F m).toNat ≤ 1000 →
    Calls Tryd.prog 78 #[.agg #[.int .i64 (n : Int), .slice A n c], .slice SA ns cs, .int .i64 (mask : Int), .int .i64 (m : Int), .slice AL q cl] w (LstPost w lo q AL (tN rs F m).toNat (lstV rs m F ss yss))
set_option maxHeartbeats 1600000 in
theorem l06List_zero (rs : List Nat) (A : Option Addr) (n c : Nat) : LstAll rs A n c 0 := by
  intro F mask ns cs q cl lo SA AL ss yss w hA hS hns hO hL hlo hq
  have ht1 : (tN rs F 0).toNat = 1 := rfl
  rw [ht1] at hq ⊢
  obtain ⟨i1, hi1, hy0, hy1, hy2⟩ := info_parts info_slsS
  have hb := below1 w (.cells #[.int .i64 (n : Int), .slice A n c] 28)
  have HOW := Lib.hid (own_any SA ns cs (ints ss) _ (hS _ (grown_row hb _)) (by omega))
  obtain ⟨ts, hts, hot⟩ := hL
  have HTS := Lib.hid hts
  have HB := Lib.hid hb
  have hml : q + 1 ≤ maxLen := by unfold maxLen; omega
  have hkb : (q + 1) * 24 ≤ 140737488355328 := by omega
  clear hts hb hS hA
  go_enter Tryd.func78, Tryd.ntmps78
  go_wp2_with fail
  refine HOW.out.mono ?_
  rintro e w2 ⟨A2, c2, rfl, ho2, hb2⟩
  have hb12 : Below w.heap.size w w2 := HB.out.trans (hb2.mono HB.out.size)
  have ho2' := ho2.mono HB.out.size
  have hrow2 := row_kept hot.2.1 (grownBy_of_below hb12) (fun q _ e => by cases e)
  go_wp2_with (at_builtin; refine wpList_append_own_at _ rfl _ _ 42 rfl lo 22 i1 (.slice none 0 0) 1 24 Tryd.underlying42 hi1 hy0 hy1 hy2 rfl (by decide) (.slice AL q cl) q (valsT ts) rfl (World.ownsRow.alloc hrow2 _) ⟨w2.heap.size, 0, none⟩ 1 1 [.slice A2 ns c2] rfl rfl ?c1 ?c2 hml hkb ?c5 ?_)
  case c1 => exact cell_one_new _ _ _
  case c2 => intro u hu; simp at hu; subst hu; rfl
  case c5 => have := hb12.size; simp; omega
  intro v' w7 hown hg _ hat
  have hg3 := alloc_grownS hg
  rw [own_blockS] at hg3 hat
  obtain ⟨A7, c7, hv, hss7⟩ := OwnSS.snocS hot hb12 ho2' hlo hown hg3 (hat.imp id fun h9 => ⟨_, h9, Nat.le_succ _⟩)
  rw [hv]
  rw [HTS.out] at hss7
  have HE : Hid (lstV rs 0 F ss yss = yss ++ [ints ss]) := Lib.hid (by unfold lstV; rw [atL_zero]; simp)
  have hbl : ∀ k, A7.map (·.block) = some k → AL.map (·.block) = some k ∨ w.heap.size ≤ k := fun k hk => by
    rw [hv, own_blockS] at hat
    rcases hat with h9 | h9
    · exact .inl (h9 ▸ hk)
    · rw [h9] at hk; injection hk with hk; have := hb12.size; exact .inr (by omega)
  have HG : Hid (w.grownBy w7 (AL.map (·.block))) := Lib.hid ((grown_row hb12 _).trans hg3)
  clear hown hg hg3 hat hot hrow2 ho2 ho2' hb2 hb12 hv
  go_wp2_with fail
  go_ret
  rw [HE.out]
  exact ⟨A7, c7, rfl, hss7, HG.out, hbl⟩
set_option maxHeartbeats 6400000 in
theorem l06List_succ (rs : List Nat) (A : Option Addr) (n c m : Nat) (hl : rs.length = n) (h8 : n ≤ 8) (hr : ∀ i, rs.getD i 0 < 2 ^ n) (IH : LstAll rs A n c m) : LstAll rs A n c (m + 1) := by
  intro F mask ns cs q cl lo SA AL ss yss w hA hS hns hO hL hlo hq
  obtain ⟨i0, hi, hz0, hz1, hz2⟩ := info_parts info_int
  have hp8 : 2 ^ n ≤ 256 := Nat.pow_le_pow_right (by decide) h8
  have hMl := hO.1
  have hFl := hO.2.1
  have HIH := Lib.hid IH
  have HOP := Lib.hid hO
  have HON := Lib.hid (fun a => opp_next rs n mask F a h8 hr)
  have hALb := ownss_block hL
  have hb := below1 w (.cells #[.int .i64 (n : Int), .slice A n c] 28)
  have x0 := box_new 28 w (n : Int) A n c
  have hL0 := hL.below hb
  have HSUM : Hid (tN rs F (m + 1) = sumF (fun a => tN rs (bhM rs F a) m) (frm F n 0)) := Lib.hid (by rw [frm_zero F n h8 hFl]; exact tN_succ rs n F m hl h8 hr hFl)
  have HLST : Hid (lstV rs (m + 1) F ss yss = yss ++ (frm F n 0).flatMap fun a => (atL rs m (bhM rs F a)).map fun z => ints (ss ++ a :: z)) := Lib.hid (by
    unfold lstV
    rw [atL_succ rs n F m hl h8 hr hFl, frm_zero F n h8 hFl, List.map_flatMap]
    congr 2
    funext a
    rw [List.map_map]; rfl)
  obtain ⟨f, hf⟩ : ∃ f : Nat → Int, f = fun a => tN rs (bhM rs F a) m := ⟨_, rfl⟩
  have HFA : Hid (∀ a, f a = tN rs (bhM rs F a) m) := Lib.hid fun a => by rw [hf]
  rw [← hf] at HSUM
  obtain ⟨g, hg⟩ : ∃ g : Nat → List (List Int), g = fun a => (atL rs m (bhM rs F a)).map fun z => ints (ss ++ a :: z) := ⟨_, rfl⟩
  rw [← hg] at HLST
  have HGA : Hid (∀ a cur, lstV rs m (bhM rs F a) (ss ++ [a]) cur = cur ++ g a) := Lib.hid fun a cur => by
    rw [hg]; unfold lstV
    congr 2
    funext z
    rw [List.append_assoc]; rfl
  have HNN := Lib.hid (sumF_mem f (fun a => by rw [HFA.out]; exact tN_nonneg rs _ m))
  have HF0 : Hid (∀ a, 0 ≤ f a) := Lib.hid fun a => by rw [HFA.out]; exact tN_nonneg rs _ m
  obtain ⟨T, hT⟩ : ∃ T, T = (tN rs F (m + 1)).toNat := ⟨_, rfl⟩
  obtain ⟨zss, hz⟩ : ∃ zss, zss = lstV rs (m + 1) F ss yss := ⟨_, rfl⟩
  rw [← hT] at hq ⊢
  rw [← hz] at HLST ⊢
  have HT : Hid (T = (sumF f (frm F n 0)).toNat) := Lib.hid (by rw [hT, HSUM.out])
  obtain ⟨w0, hw0⟩ : ∃ w0, w0 = w.alloc (.cells #[.int .i64 (n : Int), .slice A n c] 28) := ⟨_, rfl⟩
  have hw0s : w0.heap.size = w.heap.size + 1 := by rw [hw0]; simp
  rw [← hw0] at hb x0 hL0
  have HGW := Lib.hid (fun r => grown_row hb r)
  have HL0 := Lib.hid (hL0.wide (Nat.le_refl _) (show w.heap.size ≤ w0.heap.size by omega))
  have HBW := Lib.hid (hb.mono hlo)
  have HA9 := Lib.hid hA
  have HS9 := Lib.hid hS
  have hM1 : ((m + 1 : Nat) : Int) - 1 = (m : Int) := by omega
  have hM1w : IntKind.i64.wrap (((m + 1 : Nat) : Int) - 1) = (m : Int) := by rw [IntKind.wrap_i64]; omega
  obtain ⟨M1, hM1e⟩ : ∃ M1 : Nat, M1 = m + 1 := ⟨_, rfl⟩
  have HM1 := Lib.hid hM1e
  rw [← hM1e] at hM1w hns ⊢
  have hM1p : 0 < M1 := by omega
  have hM24 : M1 ≤ 24 := by omega
  have hMne : ((M1 : Int) == 0) = false := by rw [beq_eq_false_iff_ne]; omega
  clear hT hz hf hg hM1 hM1e IH hO hL hL0 hA hS hl hb
  have y0 := x0.c0
  have y1 := x0.c1
  rw [hw0] at y0 y1
  go_enter Tryd.func78, Tryd.ntmps78
  go_wp2_with fail
  rw [← hw0]
  clear hw0 y0 y1
  go_loopw [4, 11] (fun v i wr => ∃ (j q2 c2 : Nat) (A2 : Option Addr) (cur : List (List Int)), j ≤ n ∧ i = .int .i64 j ∧ v = .slice A2 q2 c2 ∧ OwnSS wr lo wr.heap.size A2 q2 c2 cur ∧ w0.grownBy wr (AL.map (·.block)) ∧ (∀ k, A2.map (·.block) = some k → AL.map (·.block) = some k ∨ w0.heap.size ≤ k) ∧ Hid (zss = cur ++ (frm F n j).flatMap g) ∧ Hid (q2 + (sumF f (frm F n j)).toNat = q + T)) (fun _ i _ => n - (intOf i).toNat)
  case atStart => exact ⟨0, q, cl, AL, yss, Nat.zero_le _, rfl, rfl, HL0.out, World.grownBy.refl _ _, fun k hk => .inl hk, HLST, Lib.hid (by rw [HT.out])⟩
  case round =>
    obtain ⟨j, q2, c2, A2, cur, hjn, rfl, rfl, hss, hg0, hbl, HZ, HQ⟩ := hrel
    have xr := x0.apart hg0 (fun e => by have := (hALb _ e).2; omega)
    have z0 := xr.c0
    have z1 := xr.c1
    by_cases hlt : j < n
    · have HFC := Lib.hid (frm_cons F n j hlt)
      cases hbt : mask.testBit j
      · have hFt : F.testBit j = true := by have h9 := nb_flip (HOP.out.2.2 j hlt); rw [hbt] at h9; exact h9
        have HBT : Hid (∀ ww : World, Calls Tryd.prog 53 #[.int .i64 (mask : Int), .int .i64 (j : Int)] ww fun e w' => e = .returned (.bool false) ∧ ww = w') := Lib.hid fun ww => by rw [← hbt]; exact bit_any mask j (by omega) (by omega) ww
        rw [hFt, if_pos rfl] at HFC
        have HZ2 : Hid (zss = (cur ++ g j) ++ (frm F n (j + 1)).flatMap g) := Lib.hid (by rw [HZ.out, HFC.out, List.flatMap_cons, List.append_assoc])
        have HQ2 : Hid (q2 + (f j).toNat + (sumF f (frm F n (j + 1))).toNat = q + T) := Lib.hid (by
          have h9 := HQ.out
          rw [HFC.out, sumF_cons, Int.toNat_add (HF0.out j) (HNN.out _).1] at h9
          omega)
        have hlow : lo ≤ wr.heap.size := by have := hg0.size; omega
        have hbl2 : ∀ q, A2.map (·.block) = some q → lo ≤ q ∧ q < wr.heap.size := ownss_block hss
        have HBL0 : Hid (Below lo w wr) := Lib.hid (HBW.out.grown hg0 (by omega) (fun k e => (hALb k e).1))
        have HOW : Hid (∀ ww, Below wr.heap.size wr ww → Calls Tryd.prog 59 #[.slice SA ns cs] ww (MakesE 2 ww ns (ints ss))) := Lib.hid fun ww hw => own_any SA ns cs (ints ss) ww (HS9.out ww (((HGW.out _).trans hg0).trans (grown_row hw _))) (by omega)
        have HAJ : Hid (∀ ww, Below wr.heap.size wr ww → Calls Tryd.prog 58 #[.agg #[.int .i64 (n : Int), .slice A n c], .int .i64 (mask : Int), .int .i64 (j : Int)] ww fun e w' => e = .returned (.int .i64 ((stM rs mask j : Nat) : Int)) ∧ Below ww.heap.size ww w') := Lib.hid fun ww hw => after_any A n c j mask rs ww (HA9.out ww (HBL0.out.trans (hw.mono hlow))) h8 hr hMl hlt
        have HLI : Hid (∀ ww A4 c4, Below wr.heap.size wr ww → Own 2 ww wr.heap.size A4 (ns + 1) c4 (ints (ss ++ [j])) → Calls Tryd.prog 78 #[.agg #[.int .i64 (n : Int), .slice A n c], .slice A4 (ns + 1) c4, .int .i64 ((stM rs mask j : Nat) : Int), .int .i64 (m : Int), .slice A2 q2 c2] ww (LstPost ww lo q2 A2 (f j).toNat (cur ++ g j))) := Lib.hid fun ww A4 c4 hw ho4 => by
          have h9 := HIH.out (bhM rs F j) (stM rs mask j) (ns + 1) c4 q2 c2 lo A4 A2 (ss ++ [j]) cur ww (fun w9 hw9 => HA9.out w9 ((HBL0.out.trans (hw.mono hlow)).trans hw9)) (fun w9 hw9 => (ho4.apart hw9 (fun k hk e => by have h7 := (ho4.lt k hk).1; have h6 := (hbl2 k e).2; omega)).rd) (by have h9 := HM1.out; omega) (HON.out j hlt HOP.out) ((hss.below hw).wide (Nat.le_refl _) hw.size) (by have := hw.size; omega) (by rw [← HFA.out]; have := HQ2.out; omega)
          rw [← HFA.out, HGA.out] at h9
          exact h9
        obtain ⟨Z, hZe⟩ : ∃ Z, Z = stM rs mask j := ⟨_, rfl⟩
        rw [← hZe] at HAJ HLI
        have hdr : Below wr.heap.size wr wr.drew := (Below.refl _ _).drew
        have HX := Lib.hid (fun ww (hw : Below wr.heap.size wr ww) => xr.next hw)
        have d0 := (xr.next hdr).c0
        have d1 := (xr.next hdr).c1
        have HSS := Lib.hid hss
        have HG0 := Lib.hid hg0
        have HBLK := Lib.hid hbl
        have hml : ns + 1 ≤ maxLen := by unfold maxLen; omega
        have hby : (ns + 1) * 8 ≤ 140737488355328 := by omega
        clear hZe hbt hFt HZ HQ HFC hss hg0 hbl
        go_wp2_with fail
        refine (HBT.out _).mono ?_
        rintro e w' ⟨rfl, rfl⟩
        go_upto_region 7 with fail
        have hA2w : (A2.map (·.block)) ≠ some w.heap.size := fun e => by
          rcases HBLK.out _ e with h9 | h9
          · have := (hALb _ h9).2; omega
          · omega
        have hdb : Below wr.heap.size wr (wr.alloc (.cells #[.int .i64 (j : Int)] 2)).drew := (below1 wr (.cells #[.int .i64 (j : Int)] 2)).drew
        have hdbn : (wr.alloc (.cells #[.int .i64 (j : Int)] 2)).drew.heap[wr.heap.size]? = some (.cells #[.int .i64 (j : Int)] 2 (0, 0)) := heap_alloc_new wr (.cells #[.int .i64 (j : Int)] 2)
        have hdbn9 : wr.heap.size < (wr.alloc (.cells #[.int .i64 (j : Int)] 2)).drew.heap.size := by show wr.heap.size < (wr.alloc (.cells #[.int .i64 (j : Int)] 2)).heap.size; rw [size1]; omega
        have hdc : Below wr.heap.size wr (wr.drew.alloc (.cells #[.int .i64 (j : Int)] 2)) := hdr.alloc hdr.size (.cells #[.int .i64 (j : Int)] 2)
        have hdcn : (wr.drew.alloc (.cells #[.int .i64 (j : Int)] 2)).heap[wr.heap.size]? = some (.cells #[.int .i64 (j : Int)] 2 (0, 0)) := heap_alloc_new wr.drew (.cells #[.int .i64 (j : Int)] 2)
        have hdcn9 : wr.heap.size < (wr.drew.alloc (.cells #[.int .i64 (j : Int)] 2)).heap.size := by rw [size1]; exact Nat.lt_succ_self _
        have e0 := (HX.out _ hdb).c0
        have e1 := (HX.out _ hdb).c1
        have f0 := (HX.out _ hdc).c0
        have f1 := (HX.out _ hdc).c1
        go_wp2_with fail
        go_region_held3 (fun w' => w'.cell? ⟨w.heap.size, 0, none⟩ = some (.int .i64 (n : Int)) ∧ w'.cell? ⟨w.heap.size, 1, none⟩ = some (.slice A n c)) (first | exact ⟨d0, d1⟩ | exact ⟨e0, e1⟩ | exact ⟨f0, f1⟩ | exact ⟨co0, co1⟩ | exact ⟨cs0, cs1⟩ | exact ⟨c70, c71⟩ | exact ⟨c80, c81⟩ | exact ⟨c90, c91⟩ | exact ⟨(HX.out _ hdb).c0, (HX.out _ hdb).c1⟩ | go_keep) (first
          | (go_at_call 59; (with_reducible refine (HOW.out _ hdr).mono ?_); rintro e wO ⟨A5, c5, rfl, o5, hO⟩; have hO1 := hdr.trans (hO.mono hdr.size); have o5' := o5.mono hdr.size; have co0 := (HX.out _ hO1).c0; have co1 := (HX.out _ hO1).c1; have hOb := hO1.alloc hO1.size (.cells #[.int .i64 (j : Int)] 2); have oB := World.ownsRow.alloc o5' (.cells #[.int .i64 (j : Int)] 2); have nB := heap_alloc_new wO (.cells #[.int .i64 (j : Int)] 2); have cs0 := (HX.out _ hOb).c0; have cs1 := (HX.out _ hOb).c1)
          | (go_at_call 59; (with_reducible refine (HOW.out _ hdb).mono ?_); rintro e wO ⟨A5, c5, rfl, o5, hO⟩; have hO1 := hdb.trans (hO.mono hdb.size); have o5' := o5.mono hdb.size; have co0 := (HX.out _ hO1).c0; have co1 := (HX.out _ hO1).c1; have hOb := hO1; have oB := o5'; have nB := (hO.block _ hdbn9).trans hdbn; have cs0 := (HX.out _ hOb).c0; have cs1 := (HX.out _ hOb).c1)
          | (go_at_call 59; (with_reducible refine (HOW.out _ hdc).mono ?_); rintro e wO ⟨A5, c5, rfl, o5, hO⟩; have hO1 := hdc.trans (hO.mono hdc.size); have o5' := o5.mono hdc.size; have co0 := (HX.out _ hO1).c0; have co1 := (HX.out _ hO1).c1; have hOb := hO1; have oB := o5'; have nB := (hO.block _ hdcn9).trans hdcn; have cs0 := (HX.out _ hOb).c0; have cs1 := (HX.out _ hOb).c1)
          | (refine step_append_lies _ (by rfl) _ _ _ (by rfl) wr.heap.size 2 i0 _ 1 8 Tryd.underlying22 hi hz0 hz1 hz2 rfl (by omega) (.slice A5 ns c5) ns ((ints ss).map (Value.int .i64)) (by rfl) oB ⟨_, 0, none⟩ 1 1 [.int .i64 (j : Int)] (by rfl) (by rfl) (World.news_of_block (cs := #[.int .i64 (j : Int)]) (t := 2) (fr := (0, 0)) nB) (by simp [Value.oneCell']) (by omega) hml hby hOb.size _ rfl ?_; intro gq cap w7 hown hg7 hat hlt9; have h7 := hOb.grown hg7 hOb.size (fun q e => (o5'.lt q (ownBlock_map e)).1); have c70 := (HX.out _ h7).c0; have c71 := (HX.out _ h7).c1; rw [ints_snoc_map] at hown; have o7 : Own 2 w7 wr.heap.size (some ⟨gq, 0, none⟩) (ns + 1) cap (ints (ss ++ [j])) := hown; clear hown)
          | (go_at_call 58; (with_reducible refine (HAJ.out _ h7).mono ?_); rintro e w8 ⟨rfl, hb8⟩; have h7 := h7.trans (hb8.mono h7.size); have o7 := o7.below hb8; have c80 := (HX.out _ h7).c0; have c81 := (HX.out _ h7).c1)
          | (go_at_call 58; (with_reducible refine (HAJ.out _ hOb).mono ?_); rintro e w8 ⟨rfl, hb8⟩; have nB := (hb8.block _ (Array.getElem?_eq_some_iff.1 nB).1).trans nB; have oB := Own.below oB hb8; have hOb := hOb.trans (hb8.mono hOb.size); have cs0 := (HX.out _ hOb).c0; have cs1 := (HX.out _ hOb).c1)
          | (go_at_call 58; (with_reducible refine (HAJ.out _ hO1).mono ?_); rintro e w8 ⟨rfl, hb8⟩; have o5' := o5'.below hb8; have hO1 := hO1.trans (hb8.mono hO1.size); have co0 := (HX.out _ hO1).c0; have co1 := (HX.out _ hO1).c1; have hOb := hO1.alloc hO1.size (.cells #[.int .i64 (j : Int)] 2); have oB := World.ownsRow.alloc o5' (.cells #[.int .i64 (j : Int)] 2); have nB := heap_alloc_new w8 (.cells #[.int .i64 (j : Int)] 2); have cs0 := (HX.out _ hOb).c0; have cs1 := (HX.out _ hOb).c1)
          | (go_at_call 58; (with_reducible refine (HAJ.out _ hdb).mono ?_); rintro e w8 ⟨rfl, hb8⟩; have hdbn := (hb8.block _ hdbn9).trans hdbn; have hdbn9 := Nat.lt_of_lt_of_le hdbn9 hb8.size; have hdb := hdb.trans (hb8.mono hdb.size); have d0 := (HX.out _ hdb).c0; have d1 := (HX.out _ hdb).c1)
          | (go_at_call 58; (with_reducible refine (HAJ.out _ hdc).mono ?_); rintro e w8 ⟨rfl, hb8⟩; have hdcn := (hb8.block _ hdcn9).trans hdcn; have hdcn9 := Nat.lt_of_lt_of_le hdcn9 hb8.size; have hdc := hdc.trans (hb8.mono hdc.size); have d0 := (HX.out _ hdc).c0; have d1 := (HX.out _ hdc).c1)
          | (go_at_call 58; (with_reducible refine (HAJ.out _ hdr).mono ?_); rintro e w8 ⟨rfl, hb8⟩; have hdr := hdr.trans (hb8.mono hdr.size); have d0 := (HX.out _ hdr).c0; have d1 := (HX.out _ hdr).c1; have hdb := hdr.alloc hdr.size (.cells #[.int .i64 (j : Int)] 2); have hdbn := heap_alloc_new w8 (.cells #[.int .i64 (j : Int)] 2); have hdbn9 : w8.heap.size < (w8.alloc (.cells #[.int .i64 (j : Int)] 2)).heap.size := by rw [size1]; omega)
          | (go_at_call 78; (with_reducible refine (HLI.out _ _ _ h7 o7).mono ?_); rintro e w9 ⟨A9, c9, rfl, hss9, hg9, hbl9⟩; have x9 := (HX.out _ h7).apart hg9 hA2w; have c90 := x9.c0; have c91 := x9.c1))
        all_goals (
          have hg99 := grown_join (HG0.out.trans (grown_row h7 _)) hg9 HBLK.out
          have hbl99 : ∀ k, A9.map (·.block) = some k → AL.map (·.block) = some k ∨ w0.heap.size ≤ k := fun k hk => by
            rcases hbl9 k hk with h9 | h9
            · exact HBLK.out k h9
            · have := h7.size; have := HG0.out.size; exact .inr (by omega)
          have HR9 := Lib.hid (And.intro hss9 (And.intro hg99 hbl99))
          clear hss9 hg99 hbl99 hg9 hbl9
          go_wp2_with fail
          go_roundw
          case rel => exact ⟨j + 1, q2 + (f j).toNat, c9, A9, cur ++ g j, by omega, by go_num, rfl, HR9.out.1, HR9.out.2.1, HR9.out.2.2, HZ2, HQ2⟩
          case measure => simp [intOf]; omega)
      · have hFt : F.testBit j = false := by have h9 := nb_flip (HOP.out.2.2 j hlt); rw [hbt] at h9; exact h9
        have HBT : Hid (∀ ww : World, Calls Tryd.prog 53 #[.int .i64 (mask : Int), .int .i64 (j : Int)] ww fun e w' => e = .returned (.bool true) ∧ ww = w') := Lib.hid fun ww => by rw [← hbt]; exact bit_any mask j (by omega) (by omega) ww
        rw [hFt, if_neg (by decide)] at HFC
        have HZ2 : Hid (zss = cur ++ (frm F n (j + 1)).flatMap g) := Lib.hid (by rw [HZ.out, HFC.out])
        have HQ2 : Hid (q2 + (sumF f (frm F n (j + 1))).toNat = q + T) := Lib.hid (by rw [← HQ.out, HFC.out])
        clear hbt hFt HZ HQ HFC
        go_wp2_with fail
        refine (HBT.out _).mono ?_
        rintro e w' ⟨rfl, rfl⟩
        go_wp2_with fail
        go_roundw
        case rel => exact ⟨j + 1, q2, c2, A2, cur, by omega, by go_num, rfl, hss, hg0, hbl, HZ2, HQ2⟩
        case measure => simp [intOf]; omega
    · obtain rfl : j = n := by omega
      have e9 : zss = cur := by rw [HZ.out, frm_end]; simp
      have e8 : q2 = q + T := by have h9 := HQ.out; rw [frm_end] at h9; have : (sumF f []).toNat = 0 := rfl; omega
      subst e8
      have HG9 := Lib.hid ((HGW.out _).trans hg0)
      go_wp2_with fail
      go_ret
      exact ⟨A2, c2, rfl, (by first | exact hss | (rw [e9]; exact hss)), HG9.out, fun k hk => (hbl k hk).imp id fun h9 => by omega⟩
end Go.Proofs.YtkifadmoedackaaDoor
namespace Go.Proofs.YtkifadmoedackaaDoor
open Go Go.RowKit
set_option linter.unusedVariables false
set_option maxRecDepth 100000

theorem l06List_any (rs : List Nat) (A : Option Addr) (n c : Nat) (hl : rs.length = n) (h8 : n ≤ 8) (hr : ∀ i, rs.getD i 0 < 2 ^ n) : ∀ m, LstAll rs A n c m
  | 0 => l06List_zero rs A n c
  | m + 1 => l06List_succ rs A n c m hl h8 hr (l06List_any rs A n c hl h8 hr m)
theorem ownss_empty (w : World) : OwnSS (w.alloc (.cells #[] 22)) w.heap.size (w.alloc (.cells #[] 22)).heap.size (some ⟨w.heap.size, 0, none⟩) 0 0 [] :=
  ⟨[], rfl, rfl, World.ownsRow_lit w #[] 0 (Nat.le_refl _) (by unfold maxLen; omega) rfl, fun q hq => by injection hq with hq; have h9 : w.heap.size = q := hq; rw [size1]; omega, fun j t h => by simp at h⟩
set_option maxHeartbeats 1600000 in
theorem specTracesOfLength (L : Int) (A : Option Addr) (n c : Nat) (xs : List Int) (a : Int) (w : World) (h : Rd w A n xs) (hwf : Wf xs) (hL1 : -9223372036854775808 ≤ L) (hL2 : L ≤ 9223372036854775807) (hn : n ≤ maxLen) (ha1 : -9223372036854775808 ≤ a) (ha2 : a ≤ 9223372036854775807) :
    Calls Tryd.prog 36 #[.agg #[.int .i64 L, .slice A n c], .int .i64 a] w (LssPost w (tlAns L xs a).1.length (tlAns L xs a).1 (tlAns L xs a).2) := by
  have HB := Lib.hid (below1 w (.cells #[.int .i64 L, .slice A n c] 28))
  have hh := h.below HB.out
  have x0 := box_new 28 w L A n c
  have hn2 : n ≤ 9223372036854775807 := by unfold maxLen at hn; omega
  have HC := Lib.hid (specCountTraces L A n c xs a _ hh hwf hL1 hL2 hn2 ha1 ha2)
  have x00 := x0.c0
  have x01 := x0.c1
  by_cases hc : (ctAns L xs a).2 = 0
  · obtain ⟨ha, hle, hct, hv⟩ := ct_zero hc
    have ha3 : 0 ≤ a ∧ a ≤ 24 := of_decide_eq_true hle
    obtain ⟨k, rfl⟩ := Int.eq_ofNat_of_zero_le ha3.1
    have hk : k ≤ 24 := by omega
    obtain ⟨rs, rfl, rfl, h8, hr, hrel, hlen, hd, _⟩ := alphB_nats L xs n h.1 ha
    have hvV : (ctAns (n : Int) (ints rs) (k : Int)).1 = traM rs k := by rw [hv, ints_toNat]; rfl
    rw [hc, hvV] at HC
    by_cases hrk : (ctAns (n : Int) (ints rs) (k : Int)).1 ≤ 1000
    · rw [tlAns_yes n k rs hlen hc hrk]
      rw [hvV] at hrk
      have hfull := tN_full rs n k hlen
      have hT1000 : (tN rs (2 ^ n - 1) k).toNat ≤ 1000 := by rw [hfull]; omega
      have HLS := Lib.hid (fun (ns cs q cl lo : Nat) SA AL ss yss w h1 h2 h3 h5 h6 h7 => l06List_any rs A n c hlen h8 hr k (2 ^ n - 1) 0 ns cs q cl lo SA AL ss yss w h1 h2 h3 (opp_start n) h5 h6 h7)
      have HZ : Hid (lstV rs k (2 ^ n - 1) [] [] = (atL rs k (2 ^ n - 1)).map ints) := Lib.hid rfl
      have HLN : Hid (((atL rs k (2 ^ n - 1)).map ints).length = (tN rs (2 ^ n - 1) k).toNat) := Lib.hid (by rw [List.length_map, atL_len])
      obtain ⟨zss, hz⟩ : ∃ zss, zss = (atL rs k (2 ^ n - 1)).map ints := ⟨_, rfl⟩
      obtain ⟨T, hT⟩ : ∃ T, T = (tN rs (2 ^ n - 1) k).toNat := ⟨_, rfl⟩
      rw [← hz, ← hT] at HLN
      rw [← hz] at HZ
      rw [← hT] at HLS hT1000
      show Calls _ _ _ _ (LssPost w ((atL rs k (2 ^ n - 1)).map ints).length ((atL rs k (2 ^ n - 1)).map ints) 0)
      rw [← hz, HLN.out]
      obtain ⟨V, hV⟩ : ∃ V, V = traM rs k := ⟨_, rfl⟩
      rw [← hV] at HC hrk
      clear hV hz hT hfull hvV hct hle ha3 ha hc hd hlen hrel hr hwf hv
      go_enter Tryd.func36, Tryd.ntmps36
      go_wp2_with fail
      refine HC.out.mono ?_
      rintro e w1 ⟨rfl, hb1⟩
      have HB1 := Lib.hid (HB.out.trans (hb1.mono HB.out.size))
      have x1 := x0.next hb1
      have z0 := x1.c0
      have z1 := x1.c1
      have hbA := below1 w1 (.cells #[] 2)
      have hbB := below1 (w1.alloc (.cells #[] 2)) (.cells #[] 22)
      have hoE := ownss_empty (w1.alloc (.cells #[] 2))
      have hsA : (w1.alloc (.cells #[] 2)).heap.size = w1.heap.size + 1 := size1 _ _
      rw [hsA] at hoE
      have hsB : ((w1.alloc (.cells #[] 2)).alloc (.cells #[] 22)).heap.size = w1.heap.size + 1 + 1 := by rw [size1, hsA]
      have HR1 := Lib.hid (hh.below hb1)
      have HL1 := Lib.hid (HLS.out 0 0 0 0 (w1.heap.size + 1) (some ⟨w1.heap.size, 0, none⟩) (some ⟨w1.heap.size + 1, 0, none⟩) [] [] _ (fun ww hw => (HR1.out.below (hbA.trans ((hbB.mono hbA.size).trans (hw.mono (by omega)))))) (fun ww _ => ⟨rfl, fun h9 => by omega⟩) (by omega) hoE (by omega) (by omega))
      rw [HZ.out] at HL1
      have HBC := Lib.hid (HB1.out.trans (((hbA.trans (hbB.mono hbA.size))).mono HB1.out.size))
      have hsz := HB1.out.size
      clear hbA hbB hoE
      go_wp2_with fail
      refine HL1.out.mono ?_
      rintro e w3 ⟨A3, c3, rfl, hss, hg3, _⟩
      rw [Nat.zero_add] at hss ⊢
      go_wp2_with fail
      go_ret2
      exact ⟨A3, c3, rfl, hss.wide (by omega) (Nat.le_refl _), HBC.out.grown hg3 HBC.out.size (fun q e => by injection e with e; have h9 : w1.heap.size + 1 = q := e; omega)⟩
    · rw [tlAns_out _ _ _ hc hrk]
      rw [hvV] at hrk
      obtain ⟨V, hV⟩ : ∃ V, V = traM rs k := ⟨_, rfl⟩
      rw [← hV] at HC hrk
      have hgt : 1000 < V := by omega
      clear hV hvV hct hle ha3 ha hc hd hlen hrel hr hwf hv hrk
      go_enter Tryd.func36, Tryd.ntmps36
      go_wp2_with fail
      refine HC.out.mono ?_
      rintro e w1 ⟨rfl, hb1⟩
      go_wp2_with fail
      go_ret2
      exact ⟨none, 0, rfl, OwnSS.nil _ _, HB.out.trans (hb1.mono HB.out.size)⟩
  · rw [tlAns_bad _ _ _ hc]
    obtain ⟨C, hC⟩ : ∃ C, C = (ctAns L xs a).2 := ⟨_, rfl⟩
    rw [← hC] at HC hc ⊢
    obtain ⟨V, hV⟩ : ∃ V, V = (ctAns L xs a).1 := ⟨_, rfl⟩
    rw [← hV] at HC
    clear hC hV hwf
    go_enter Tryd.func36, Tryd.ntmps36
    go_wp2_with fail
    refine HC.out.mono ?_
    rintro e w1 ⟨rfl, hb1⟩
    go_wp2_with fail
    go_ret2
    exact ⟨none, 0, rfl, OwnSS.nil _ _, HB.out.trans (hb1.mono HB.out.size)⟩
theorem sumL_all (zss : List (List Int)) (B : Nat) (h : ∀ z, z ∈ zss → z.length ≤ B) : sumL zss ≤ zss.length * B := by
  induction zss with
  | nil => simp [sumL]
  | cons z zs ih =>
    have h1 := h z List.mem_cons_self
    have h2 := ih fun y hy => h y (List.mem_cons_of_mem _ hy)
    unfold sumL at h2 ⊢
    rw [List.map_cons, List.sum_cons, List.length_cons, Nat.add_mul]
    omega
theorem tlAns_small (L : Int) (xs : List Int) (a : Int) : (tlAns L xs a).1.length ≤ 1000 ∧ sumL (tlAns L xs a).1 ≤ 24000 := by
  by_cases hc : (ctAns L xs a).2 = 0
  · obtain ⟨ha, hle, hct, hv⟩ := ct_zero hc
    by_cases hrk : (ctAns L xs a).1 ≤ 1000
    · have ha3 : 0 ≤ a ∧ a ≤ 24 := of_decide_eq_true hle
      obtain ⟨k, rfl⟩ := Int.eq_ofNat_of_zero_le ha3.1
      obtain ⟨rs, rfl, e2, h8, hr, hrel, hlen, hd, _⟩ := alphB_nats L xs xs.length rfl ha
      subst e2
      rw [tlAns_yes _ k rs (by rw [ints_len]) hc hrk]
      have hvV : (ctAns ((ints rs).length : Int) (ints rs) (k : Int)).1 = traM rs k := by rw [hv, ints_toNat]; rfl
      rw [hvV] at hrk
      have hfull := tN_full rs _ k hlen
      have hl1 : ((atL rs k (2 ^ (ints rs).length - 1)).map ints).length ≤ 1000 := by rw [List.length_map, atL_len, hfull]; omega
      refine ⟨hl1, Nat.le_trans (sumL_all _ 24 fun z hz => ?_) (Nat.mul_le_mul_right 24 hl1)⟩
      obtain ⟨y, hy, rfl⟩ := List.mem_map.1 hz
      unfold atL at hy
      obtain ⟨r, hr9, rfl⟩ := List.mem_map.1 hy
      have h9 := List.mem_range.1 hr9
      have hF : 2 ^ (ints rs).length - 1 < 2 ^ (ints rs).length := by have := p2_pos (ints rs).length; omega
      rw [ints_len, atM_len rs _ hlen h8 hr k _ (r : Int) hF (by omega) (by omega)]
      omega
    · rw [tlAns_out _ _ _ hc hrk]; exact ⟨by decide, by decide⟩
  · rw [tlAns_bad _ _ _ hc]; exact ⟨Nat.zero_le _, Nat.zero_le _⟩
end Go.Proofs.YtkifadmoedackaaDoor
