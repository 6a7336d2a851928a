/-
  Signed words of an alphabet: their numbers, their inverses, and the lists of them: the program's side.
-/
import Derived.Test.YtdafdffmkjhhcaaDoorGrQ
import Derived.Test.YtdafdffmkjhhcaaDoorGrX
namespace Go.Proofs.YtdafdffmkjhhcaaDoor
open Go Go.RowKit
set_option linter.unusedVariables false
set_option linter.unusedSimpArgs false
set_option maxRecDepth 100000

theorem sgB1_mono (n : Nat) (s : Int) (h8 : n ≤ 8) (h : sgB1 (n : Int) s = true) : sgB1 8 s = true := by
  obtain ⟨h1, h2, h3⟩ := (sgB1_iff _ _).1 h
  exact (sgB1_iff _ _).2 ⟨by omega, by omega, h3⟩
theorem noSigned_any (b : Nat) (L s : Int) (w : World) (h0 : 0 ≤ L) (h8 : L ≤ 8) (hc : w.cell? ⟨b, 0, none⟩ = some (.int .i64 L)) :
    Calls Tryd.prog 157 #[.int .i64 s, .pointer (some ⟨b, 0, none⟩)] w fun e w' => e = .returned (.bool (!sgB1 L s)) ∧ w = w' := by
  have hw1 : wrap64 (-L) = -L := by unfold wrap64; omega
  by_cases h1 : s < -L
  · have HF : Hid (sgB1 L s = false) := Lib.hid (by rw [Bool.eq_false_iff, Ne, sgB1_iff]; omega)
    go_enter Tryd.func157, Tryd.ntmps157
    go_wp2
    go_ret
    exact ⟨ret_b _ _ (by rw [HF.out]; rfl), rfl⟩
  · by_cases h2 : s = 0
    · have HF : Hid (sgB1 L 0 = false) := Lib.hid (by rw [Bool.eq_false_iff, Ne, sgB1_iff]; omega)
      subst h2
      go_enter Tryd.func157, Tryd.ntmps157
      go_wp2
      go_ret
      exact ⟨ret_b _ _ (by rw [HF.out]; rfl), rfl⟩
    · by_cases h3 : L < s
      · have HF : Hid (sgB1 L s = false) := Lib.hid (by rw [Bool.eq_false_iff, Ne, sgB1_iff]; omega)
        go_enter Tryd.func157, Tryd.ntmps157
        go_wp2
        go_ret
        exact ⟨ret_b _ _ (by rw [HF.out]; rfl), rfl⟩
      · have HF : Hid (sgB1 L s = true) := Lib.hid (by rw [sgB1_iff]; omega)
        have H2 := Lib.hid h2
        go_enter Tryd.func157, Tryd.ntmps157
        go_wp2
        go_ret
        exact ⟨ret_b _ _ (by rw [HF.out]; simpa using H2.out), rfl⟩
set_option maxHeartbeats 800000 in
theorem isSigned_any (L : Int) (A : Option Addr) (n c : Nat) (us : List Int) (w : World) (h : Rd w A n us) (hn : n ≤ 9223372036854775807) (h0 : 0 ≤ L) (h8 : L ≤ 8) :
    Calls Tryd.prog 121 #[.int .i64 L, .slice A n c] w fun e w' => e = .returned (.bool (sgB L us)) ∧ Below w.heap.size w w' := by
  have hlen := h.1
  have HB := Lib.hid (below1 w (.cells #[.int .i64 L] 2))
  by_cases h24 : n ≤ 24
  · have eg : ∀ args w, (callFunc 157 args).run Tryd.prog w = .ok (.enter 157 args) w := fun args w => Go.MuLone.run_callFunc_enter (P := Tryd.prog) Tryd.func157 (by kernel_rfl) rfl args w
    have HW : Hid (sgB L us = us.all (sgB1 L)) := Lib.hid (by unfold sgB; rw [hlen, decide_eq_true h24]; rfl)
    have HC := Lib.hid (containsFuncI_any (fun s => !sgB1 L s) 157 #[.pointer (some ⟨w.heap.size, 0, none⟩)] A n c us _ (h.below HB.out) (by omega) eg (fun x _ => noSigned_any w.heap.size L x _ h0 h8 (cell_new0 w _ _)))
    clear hlen
    go_enter Tryd.func121, Tryd.ntmps121
    go_wp2_with fail
    refine HC.out.mono ?_
    rintro e w1 ⟨rfl, rfl⟩
    go_wp2_with fail
    go_ret
    exact ⟨ret_b _ _ (by rw [any_not_all, Bool.not_not, HW.out]), HB.out⟩
  · have HW := Lib.hid (sgB_long L us (by omega))
    clear hlen
    go_enter Tryd.func121, Tryd.ntmps121
    go_wp2_with fail
    go_ret
    exact ⟨ret_b _ _ HW.out.symm, HB.out⟩
def okG (L : Int) (ts : List (Option Addr × Nat × Nat × List Int)) : Bool := ts.all fun t => sgB L t.2.2.2
def numT (ts : List (Option Addr × Nat × Nat × List Int)) : List (List Int) := ts.map fun t => ints (t.2.2.2.map inN)
theorem okG_take (L : Int) (ts : List (Option Addr × Nat × Nat × List Int)) (k : Nat) (t : Option Addr × Nat × Nat × List Int) (h : ts[k]? = some t) : okG L (ts.take (k + 1)) = (okG L (ts.take k) && sgB L t.2.2.2) := by
  unfold okG; rw [List.take_add_one, h, List.all_append]; simp
theorem okG_no (L : Int) (ts : List (Option Addr × Nat × Nat × List Int)) (k : Nat) (t : Option Addr × Nat × Nat × List Int) (h : ts[k]? = some t) (hf : sgB L t.2.2.2 = false) : okG L ts = false := by
  rw [Bool.eq_false_iff]; intro e
  have := List.all_eq_true.1 e t (List.mem_of_getElem? h)
  rw [hf] at this; cases this
theorem numT_next (ts : List (Option Addr × Nat × Nat × List Int)) (k : Nat) (t : Option Addr × Nat × Nat × List Int) (h : ts[k]? = some t) : numT (ts.take (k + 1)) = numT (ts.take k) ++ [ints (t.2.2.2.map inN)] := by
  unfold numT; rw [List.take_add_one, h, List.map_append]; rfl
set_option maxHeartbeats 1600000 in
theorem signedIn_no (L : Int) (A B : Option Addr) (n c m d : Nat) (xs : List Int) (w : World) (h : Rd w A n xs) (hwf : Wf xs) (hL1 : -9223372036854775808 ≤ L) (hL2 : L ≤ 9223372036854775807) (hn : n ≤ 9223372036854775807) (ha : alphB L xs = false) (hT : Tab w) :
    Calls Tryd.prog 74 #[.agg #[.int .i64 L, .slice A n c], .slice B m d] w fun e w' => e = .returned (.tuple #[.agg #[.slice none 0 0], .slice none 0 0, .int .i64 1]) ∧ Below w.heap.size w w' := by
  have HB := Lib.hid (below2 w (.cells #[.int .i64 L, .slice A n c] 29) (.cells #[.slice none 0 0] 93))
  have x0 := (box_new 29 w L A n c).next (below1 _ (.cells #[.slice none 0 0] 93))
  have y0 := x0.c0
  have y1 := x0.c1
  have b1 : Boxed ((w.alloc (.cells #[.int .i64 L, .slice A n c] 29)).alloc (.cells #[.slice none 0 0] 93)) (w.heap.size + 1) 93 (.slice none 0 0) := by have := Boxed.new (w.alloc (.cells #[.int .i64 L, .slice A n c] 29)) 93 (.slice none 0 0); rwa [World.size_alloc] at this
  have hh := h.below HB.out
  go_enter Tryd.func74, Tryd.ntmps74
  go_wp2_with fail
  refine (dependenceOf_no L _ _ _ xs _ hh hwf hL1 hL2 hn ha (hT.below HB.out)).mono ?_
  rintro e w1 ⟨rfl, hb⟩
  have b2 : Boxed w1 (w.heap.size + 1) 93 (.slice none 0 0) := (hb.block _ b1.lt).trans b1
  have c2 := b2.cell
  have f2 := b2.frozen
  go_wp2_with fail
  refine ret_gen (fun W => Boxed W (w.heap.size + 1) 93 (.slice none 0 0) ∧ Below w.heap.size w W) ⟨b2.set _, (HB.out.trans (hb.mono HB.out.size)).setCell (p := ⟨w.heap.size + 1, 0, none⟩) (Nat.le_succ _) _⟩ ?_
  rintro W ⟨x, b⟩
  have e0 := x.cell
  exact bodyPost_ret (v := .tuple #[.agg #[.slice none 0 0], .slice none 0 0, .int .i64 1]) (by simp [results, Tryd.results74, go_sem, e0]) rfl ⟨rfl, b⟩
def SiPost (w : World) (n m : Nat) (rs : List Nat) (ts : List (Option Addr × Nat × Nat × List Int)) (ok : Bool) (e : Ending) (w' : World) : Prop :=
  (ok = true ∧ ∃ R cr AL cl, e = .returned (.tuple #[.agg #[.slice R (2 * n) cr], .slice AL m cl, .int .i64 0]) ∧ Own 77 w' w.heap.size R (2 * n) cr (ints (dblR rs)) ∧ OwnSS w' w.heap.size w'.heap.size AL m cl (numT ts) ∧ Below w.heap.size w w') ∨
  (ok = false ∧ e = .returned (.tuple #[.agg #[.slice none 0 0], .slice none 0 0, .int .i64 2]) ∧ Below w.heap.size w w')
set_option maxHeartbeats 3200000 in
theorem signedIn_any (A B : Option Addr) (n c m d : Nat) (rs : List Nat) (ts : List (Option Addr × Nat × Nat × List Int)) (w : World) (h : Rd w A n (ints rs)) (hwf : Wf (ints rs)) (hn : n ≤ 8) (hl : rs.length = n) (hr : ∀ i, rs.getD i 0 < 2 ^ n) (hrel : relB (ints rs) = true) (hd : depB rs = true) (ht : RdT w B m ts) (hm : m ≤ 24) (hT : Tab w) :
    Calls Tryd.prog 74 #[.agg #[.int .i64 (n : Int), .slice A n c], .slice B m d] w (SiPost w n m rs ts (okG (n : Int) ts)) := by
  obtain ⟨i1, hi1, hy0, hy1, hy2⟩ := info_parts info_sls
  have HLT : Hid (ts.length = m) := Lib.hid ht.1
  have HB := Lib.hid (below2 w (.cells #[.int .i64 (n : Int), .slice A n c] 29) (.cells #[.slice none 0 0] 93))
  have x0 := (box_new 29 w (n : Int) A n c).next (below1 _ (.cells #[.slice none 0 0] 93))
  have y0 := x0.c0
  have y1 := x0.c1
  have b1 : Boxed ((w.alloc (.cells #[.int .i64 (n : Int), .slice A n c] 29)).alloc (.cells #[.slice none 0 0] 93)) (w.heap.size + 1) 93 (.slice none 0 0) := by have := Boxed.new (w.alloc (.cells #[.int .i64 (n : Int), .slice A n c] 29)) 93 (.slice none 0 0); rwa [World.size_alloc] at this
  have hh := h.below HB.out
  have ht1 := ht.below HB.out
  have HR := Lib.hid hr
  have HL := Lib.hid hl
  go_enter Tryd.func74, Tryd.ntmps74
  go_wp2_with fail
  refine (dependenceOf_yes _ _ _ _ rs _ hh hwf hn rfl hr hrel hd (hT.below HB.out)).mono ?_
  rintro e w1 ⟨A1, c1, rfl, ho1, hb1⟩
  have x1 := x0.next hb1
  have b2 : Boxed w1 (w.heap.size + 1) 93 (.slice none 0 0) := (hb1.block _ b1.lt).trans b1
  have ht2 := ht1.below hb1
  have HB1 := Lib.hid (HB.out.trans (hb1.mono HB.out.size))
  have hT2 := hT.below HB1.out
  have HS1 : Hid (w.heap.size + 1 < w1.heap.size) := Lib.hid b2.lt
  have HRD := Lib.hid ho1.rd
  clear x0 y0 y1 b1 hh ht1 ht ho1 hb1 h hT hr hl hrel hd hwf
  go_wp2_with fail
  go_loopw [9, 22] (fun p i wr => ∃ (k : Nat) (A3 : Option Addr) (c3 : Nat), k ≤ m ∧ p = .slice A3 k c3 ∧ i = .int .i64 k ∧ Below w1.heap.size w1 wr ∧ OwnSS wr w1.heap.size wr.heap.size A3 k c3 (numT (ts.take k)) ∧ okG (n : Int) (ts.take k) = true) (fun _ i _ => m - (intOf i).toNat)
  case atStart => exact ⟨0, none, 0, Nat.zero_le _, rfl, rfl, Below.refl _ _, OwnSS.nil _ _, rfl⟩
  case round =>
    obtain ⟨k, A3, c3, hk, rfl, rfl, hb, hss, hok⟩ := hrel
    have HOK := Lib.hid hok
    clear hok
    obtain ⟨wo, hwo⟩ : ∃ wo, wo = wr := ⟨_, rfl⟩
    rw [← hwo] at hb hss ⊢
    clear hwo
    have y0 := (x1.next hb).c0
    by_cases hlt : k < m
    · obtain ⟨b, off, C, q, d', ws, rfl, hbs, hx, hcx, hrd, hq⟩ := (ht2.below hb).at_ hlt
      have hq2 : q ≤ 9223372036854775807 := by unfold maxLen at hq; omega
      have HNX := Lib.hid (okG_take (n : Int) ts k _ hx)
      have HNO := Lib.hid (okG_no (n : Int) ts k _ hx)
      have HNT := Lib.hid (numT_next ts k _ hx)
      clear hx
      cases hwb : sgB (n : Int) ws
      · have HW := Lib.hid hwb
        clear hwb
        go_wp2_with fail
        refine (isSigned_any _ _ _ _ ws _ hrd hq2 (by omega) (by omega)).mono ?_
        rintro e w2 ⟨rfl, hb2⟩
        rw [HW.out]
        have hB2 := hb.trans (hb2.mono hb.size)
        have b3 : Boxed w2 (w.heap.size + 1) 93 (.slice none 0 0) := (hB2.block _ HS1.out).trans b2
        have c33 := b3.cell
        have f33 := b3.frozen
        go_wp2_with fail
        refine ret_gen (fun W => Boxed W (w.heap.size + 1) 93 (.slice none 0 0) ∧ Below w.heap.size w W) ⟨b3.set _, (HB1.out.trans (hB2.mono HB1.out.size)).setCell (p := ⟨w.heap.size + 1, 0, none⟩) (Nat.le_succ _) _⟩ ?_
        rintro W ⟨x, b⟩
        have e0 := x.cell
        exact bodyPost_ret (v := .tuple #[.agg #[.slice none 0 0], .slice none 0 0, .int .i64 2]) (by simp [results, Tryd.results74, go_sem, e0]) rfl (.inr ⟨HNO.out HW.out, rfl, b⟩)
      · have HW := Lib.hid hwb
        have hq24 : q ≤ 24 := by have := sgB_len hwb; have := hrd.1; omega
        have HAL : Hid (∀ s, s ∈ ws → sgB1 8 s = true) := Lib.hid (fun s hs => sgB1_mono n s hn (sgB_all hwb s hs))
        clear hwb
        go_wp2_with fail
        refine (isSigned_any _ _ _ _ ws _ hrd hq2 (by omega) (by omega)).mono ?_
        rintro e w2 ⟨rfl, hb2⟩
        rw [HW.out]
        obtain ⟨ss, hss9, hot⟩ := hss
        have HTS := Lib.hid hss9
        have HNU := Lib.hid (numbersOf_any C q d' ws w2 (hrd.below hb2) hq24 HAL.out)
        have HN2 : Hid (numT (ts.take (k + 1)) = ss.map (fun t => t.2.2) ++ [ints (ws.map inN)]) := Lib.hid (by rw [HNT.out, HTS.out])
        clear hss9
        obtain ⟨ys, hys⟩ : ∃ ys, ys = ints (ws.map inN) := ⟨_, rfl⟩
        rw [← hys] at HNU HN2
        clear hys
        have hml : k + 1 ≤ maxLen := by unfold maxLen; omega
        have hkb : (k + 1) * 24 ≤ 140737488355328 := by omega
        go_wp2_with fail
        refine HNU.out.mono ?_
        rintro e w3 ⟨At, ct, rfl, hel, hbe⟩
        have hbe2 : Below wo.heap.size wo w3 := hb2.trans (hbe.mono hb2.size)
        have hrow3 := row_kept hot.2.1 (grownBy_of_below hbe2) (fun q _ e => by cases e)
        have hrb : ∀ q, A3.map (·.block) = some q → w1.heap.size ≤ q := fun q hq => (row_block hot.2.1 q hq).1
        go_wp2_with (at_builtin; refine wpList_append_own_at _ rfl _ _ 25 rfl w1.heap.size 22 i1 (.slice none 0 0) 1 24 Tryd.underlying25 hi1 hy0 hy1 hy2 rfl (by decide) (.slice A3 k c3) k (valsT ss) rfl (World.ownsRow.alloc hrow3 _) ⟨w3.heap.size, 0, none⟩ 1 1 [.slice At q ct] rfl rfl (cell_one_new _ _ _) (by intro u hu; simp at hu; subst hu; rfl) hml hkb (by have := hb.size; have := hbe2.size; simp; omega) ?_; intro v' w4 hown hg _ hat)
        have hbw3 := hb.trans (hbe2.mono hb.size)
        have hb4 : Below w1.heap.size w1 w4 := (hbw3.alloc hbw3.size _).grown hg (by have := hbw3.size; simp; omega) (fun r hr => hrb r (by rw [own_block] at hr; exact hr))
        have hg3 := alloc_grown hg
        rw [own_block] at hg3 hat
        obtain ⟨A4, c4, hv, hss4⟩ := OwnSS.snoc hot hbe2 (hel.mono hb2.size) hb.size hown hg3 (hat.imp id fun h9 => ⟨_, h9, by rw [World.size_alloc]; exact Nat.le_succ _⟩)
        rw [hv]
        rw [← HN2.out] at hss4
        clear hown hg hv hot hbe hbe2 hel hrow3 hg3 hat hbw3 hcx hrd hb2
        go_wp2_with fail
        go_roundw
        case rel => exact ⟨k + 1, A4, c4, by omega, rfl, by go_num, hb4, hss4, by rw [HNX.out, HOK.out, HW.out]; rfl⟩
        case measure => simp [intOf]; omega
    · have hkm : k = m := by omega
      subst hkm
      have HE : Hid (okG (n : Int) ts = true) := Lib.hid (by have := HOK.out; rw [List.take_of_length_le (by rw [HLT.out]; exact Nat.le_refl _)] at this; exact this)
      rw [List.take_of_length_le (by rw [HLT.out]; exact Nat.le_refl _)] at hss
      have HRS := Lib.hid (relSigned_any A1 n c1 rs wo (HRD.out.below hb) hn HL.out HR.out (hT2.below hb))
      go_wp2_with fail
      refine HRS.out.mono ?_
      rintro e w5 ⟨A5, c5, rfl, o5, hb5⟩
      have hB5 := hb.trans (hb5.mono hb.size)
      have b3 : Boxed w5 (w.heap.size + 1) 93 (.slice none 0 0) := (hB5.block _ HS1.out).trans b2
      have c33 := b3.cell
      have f33 := b3.frozen
      have hss5 := (hss.below hb5)
      go_wp2_with fail
      refine ret_gen (fun W => Boxed W (w.heap.size + 1) 93 (.slice A5 (2 * n) c5) ∧ Own 77 W w.heap.size A5 (2 * n) c5 (ints (dblR rs)) ∧ OwnSS W w.heap.size W.heap.size A3 k c3 (numT ts) ∧ Below w.heap.size w W) ⟨b3.set _, own_other (o5.mono (by have := hb.size; have := HB1.out.size; omega)) _ _ _ (fun q hq => by have := (o5.lt q hq).1; have := hb.size; have := HS1.out; omega), ?_, (HB1.out.trans (hB5.mono HB1.out.size)).setCell (p := ⟨w.heap.size + 1, 0, none⟩) (Nat.le_succ _) _⟩ ?_
      · refine OwnSS.wide (hss5.apart (grown_set (World.grownBy.refl _ _) 0 _) (fun r hr => by cases hr; exact .inl HS1.out)) HB1.out.size (by rw [World.size_setCell]; exact hb5.size)
      · rintro W ⟨x, o, s, b⟩
        have e0 := x.cell
        exact bodyPost_ret (v := .tuple #[.agg #[.slice A5 (2 * n) c5], .slice A3 k c3, .int .i64 0]) (by simp [results, Tryd.results74, go_sem, e0]) rfl (.inl ⟨HE.out, _, _, _, _, rfl, o, s, b⟩)
end Go.Proofs.YtdafdffmkjhhcaaDoor
