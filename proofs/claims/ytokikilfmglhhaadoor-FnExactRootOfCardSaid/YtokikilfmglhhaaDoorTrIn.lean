/-
  The trace of a word that comes in, and its normal form: contracts.
-/
import Derived.Test.YtokikilfmglhhaaDoorTrOf
import Derived.Test.YtokikilfmglhhaaDoorWord3
namespace Go.Proofs.YtokikilfmglhhaaDoor
open Go Go.RowKit
set_option linter.unusedVariables false
set_option maxRecDepth 100000

theorem rdep_sym (rs : List Nat) (n : Nat) (hl : rs.length = n) (hr : ∀ i, rs.getD i 0 < 2 ^ n) (hd : Dep rs) (a b : Nat) : RDep rs a b = RDep rs b a := by
  have key : ∀ a b, RDep rs a b = true → RDep rs b a = true := fun a b h => by
    have ha : a < n := by
      rcases Nat.lt_or_ge a n with h1 | h1
      · exact h1
      · unfold RDep at h; rw [getD_past _ n a hl h1, Nat.zero_testBit] at h; cases h
    have hb : b < n := bit_lt (hr a) h
    exact (hd.2 a b (by omega) (by omega)).1 h
  cases h1 : RDep rs a b
  · cases h2 : RDep rs b a
    · rfl
    · rw [key b a h2] at h1; cases h1
  · exact (key a b h1).symm
/-- The normal form of a word, by the rows of a dependence. -/
def nfR (rs us : List Nat) : List Nat := nfM (RDep rs) rs.length us
theorem nfGo_len (D : Nat → Nat → Bool) (n : Nat) : ∀ (k : Nat) (us : List Nat), (nfGo D n k us).length ≤ k
  | 0, _ => Nat.le_refl _
  | k + 1, us => by
    show (match leastFree D n us with | none => [] | some a => a :: nfGo D n k (us.erase a)).length ≤ k + 1
    cases leastFree D n us with
    | none => simp
    | some a => have := nfGo_len D n k (us.erase a); simp; omega
theorem nfR_len (rs us : List Nat) : (nfR rs us).length ≤ us.length := nfGo_len _ _ _ _
/-- Behind traceOf: the normal form. -/
theorem nf_from (A1 B1 : Option Addr) (c1 d1 m n : Nat) (rs us es : List Nat) (w : World) (hl : rs.length = n) (hr : ∀ i, rs.getD i 0 < 2 ^ n) (hd : Dep rs) (hu : us.length = m) (hus : ∀ p, p < m → us.getD p 0 < n) (hm : m ≤ 24)
    (hp : es.Perm (List.range m)) (hs : Srt (fun p => us.getD p 0) es 0 m) (h1 : Rd w A1 m (ints (letM us es m m))) (h2 : Rd w B1 m (ints (befM rs us es m m 0))) (hT : Tab w) :
    Calls Tryd.prog 55 #[.agg #[.slice A1 m c1, .slice B1 m d1]] w (MakesE 2 w m (ints (nfR rs us))) := by
  have hE := evs_of rs us es m hu hp hs
  have hsym := rdep_sym rs n hl hr hd
  have href : ∀ a, a < n → RDep rs a a = true := fun a ha => hd.1 a (by omega)
  refine normalForm_any m c1 d1 A1 B1 (letM us es m m) (befM rs us es m m 0) (nfR rs us) w h1 h2 hm (fun i => ?_) hT (goes_full hE hm hsym href hus) ?_
  · rcases Nat.lt_or_ge 0 m with h0 | h0
    · exact befM_lt rs us es m m 0 (by omega) i
    · rw [getD_past _ m i (befM_len _ _ _ _ _ _) (by omega)]; exact p2_pos m
  · unfold nfR
    rw [hl]
    exact (nfB_full hE hm hsym href hus).symm
set_option maxHeartbeats 1600000 in
theorem traceIn_no (L : Int) (A : Option Addr) (n c : Nat) (xs : List Int) (A1 : Option Addr) (m d : Nat) (us : List Int) (w : World) (h : Rd w A n xs) (hwf : Wf xs) (hL1 : -9223372036854775808 ≤ L) (hL2 : L ≤ 9223372036854775807) (hn : n ≤ maxLen) (h2 : Rd w A1 m us) (hwf2 : Wf us) (hm : m ≤ maxLen) (hT : Tab w) (ha : alphB L xs = false) :
    Calls Tryd.prog 58 #[.agg #[.int .i64 L, .slice A n c], .slice A1 m d] w fun e w' => e = .returned (.tuple #[.agg #[.slice none 0 0, .slice none 0 0], .int .i64 1]) ∧ Below w.heap.size w w' := by
  have hn2 : n ≤ 9223372036854775807 := by unfold maxLen at hn; omega
  have hn1 := h.1
  have hm1 := h2.1
  have x0 := box_new 24 w L A n c
  obtain ⟨W2, hW2⟩ : ∃ W2, (w.alloc (.cells #[.int .i64 L, .slice A n c] 24)).alloc (.cells #[.slice none 0 0, .slice none 0 0] 63) = W2 := ⟨_, rfl⟩
  have hb2 : Below w.heap.size w W2 := by rw [← hW2]; exact below2 w _ _
  have r2 : TBox W2 (w.heap.size + 1) none 0 0 none 0 0 := by rw [← hW2]; have := tbox_new (w.alloc (.cells #[.int .i64 L, .slice A n c] 24)) none 0 0 none 0 0; rwa [World.size_alloc] at this
  have hs2 : W2.heap.size = w.heap.size + 1 + 1 := by rw [← hW2]; simp
  have ht := rdT_one W2 A1 m d us 22 (h2.below hb2) hm
  rw [hs2] at ht
  have hb3 : Below w.heap.size w (W2.alloc (.cells #[.slice A1 m d] 22)) := hb2.alloc hb2.size _
  have r3 : TBox (W2.alloc (.cells #[.slice A1 m d] 22)) (w.heap.size + 1) none 0 0 none 0 0 := r2.next (below1 W2 _)
  rw [← hW2] at ht hb3 r3
  have HB := Lib.hid hb3
  have hh := h.below HB.out
  have hh2 := h2.below HB.out
  have hT1 := hT.below HB.out
  clear hW2 hb2 r2 hs2 hb3
  have HA := Lib.hid ha
  clear ha hn1
  go_enter Tryd.func58, Tryd.ntmps58
  go_wp2_with fail
  refine (dependenceWith_no L _ _ _ _ _ _ xs [] _ hh hwf hL1 hL2 hn2 HA.out hT1).mono ?_
  rintro e w1 ⟨rfl, hb⟩
  have r4 := r3.next hb
  have rc0 := r4.c0
  have rc1 := r4.c1
  have rf0 := r4.fr 0
  have rf1 := r4.fr 1
  have HB1 := Lib.hid (HB.out.trans (hb.mono HB.out.size))
  have HFIN := Lib.hid (And.intro ((r4.set0 none 0 0).set1 none 0 0) ((HB1.out.setCell (p := ⟨w.heap.size + 1, 0, none⟩) (Nat.le_succ _) (.slice none 0 0)).setCell (p := ⟨w.heap.size + 1, 1, none⟩) (Nat.le_succ _) (.slice none 0 0)))
  go_wp2_with fail
  refine ret_gen (fun W => TBox W (w.heap.size + 1) none 0 0 none 0 0 ∧ Below w.heap.size w W) HFIN.out fun W ⟨h1, h2⟩ => ?_
  have e0 := h1.c0
  have e1 := h1.c1
  refine bodyPost_ret (v := .tuple #[.agg #[.slice none 0 0, .slice none 0 0], .int .i64 1]) (by simp [results, Tryd.results58, go_sem, e0, e1]) rfl ?_
  exact ⟨rfl, h2⟩
set_option maxHeartbeats 1600000 in
theorem traceIn_bad (L : Int) (A : Option Addr) (n c : Nat) (xs : List Int) (A1 : Option Addr) (m d : Nat) (us : List Int) (w : World) (h : Rd w A n xs) (hwf : Wf xs) (hL1 : -9223372036854775808 ≤ L) (hL2 : L ≤ 9223372036854775807) (hn : n ≤ maxLen) (h2 : Rd w A1 m us) (hwf2 : Wf us) (hm : m ≤ maxLen) (hT : Tab w) (ha : alphB L xs = true) (hu : wordB L us = false) :
    Calls Tryd.prog 58 #[.agg #[.int .i64 L, .slice A n c], .slice A1 m d] w fun e w' => e = .returned (.tuple #[.agg #[.slice none 0 0, .slice none 0 0], .int .i64 2]) ∧ Below w.heap.size w w' := by
  have hn2 : n ≤ 9223372036854775807 := by unfold maxLen at hn; omega
  have hn1 := h.1
  have hm1 := h2.1
  have x0 := box_new 24 w L A n c
  obtain ⟨W2, hW2⟩ : ∃ W2, (w.alloc (.cells #[.int .i64 L, .slice A n c] 24)).alloc (.cells #[.slice none 0 0, .slice none 0 0] 63) = W2 := ⟨_, rfl⟩
  have hb2 : Below w.heap.size w W2 := by rw [← hW2]; exact below2 w _ _
  have r2 : TBox W2 (w.heap.size + 1) none 0 0 none 0 0 := by rw [← hW2]; have := tbox_new (w.alloc (.cells #[.int .i64 L, .slice A n c] 24)) none 0 0 none 0 0; rwa [World.size_alloc] at this
  have hs2 : W2.heap.size = w.heap.size + 1 + 1 := by rw [← hW2]; simp
  have ht := rdT_one W2 A1 m d us 22 (h2.below hb2) hm
  rw [hs2] at ht
  have hb3 : Below w.heap.size w (W2.alloc (.cells #[.slice A1 m d] 22)) := hb2.alloc hb2.size _
  have r3 : TBox (W2.alloc (.cells #[.slice A1 m d] 22)) (w.heap.size + 1) none 0 0 none 0 0 := r2.next (below1 W2 _)
  rw [← hW2] at ht hb3 r3
  have HB := Lib.hid hb3
  have hh := h.below HB.out
  have hh2 := h2.below HB.out
  have hT1 := hT.below HB.out
  clear hW2 hb2 r2 hs2 hb3
  obtain ⟨rs, rfl, rfl, h8, hr, hrel, hl, hd, _⟩ := alphB_nats L xs n hn1 ha
  have HU := Lib.hid hu
  clear ha hu
  go_enter Tryd.func58, Tryd.ntmps58
  go_wp2_with fail
  refine (dependenceWith_any _ _ _ _ _ _ rs _ _ hh hwf h8 hr hrel hd ht (by omega) hT1).mono ?_
  rw [okT_one, HU.out]
  rintro e w1 (⟨hok, _⟩ | ⟨hok, rfl, hb⟩)
  · cases hok
  have r4 := r3.next hb
  have rc0 := r4.c0
  have rc1 := r4.c1
  have rf0 := r4.fr 0
  have rf1 := r4.fr 1
  have HB1 := Lib.hid (HB.out.trans (hb.mono HB.out.size))
  have HFIN := Lib.hid (And.intro ((r4.set0 none 0 0).set1 none 0 0) ((HB1.out.setCell (p := ⟨w.heap.size + 1, 0, none⟩) (Nat.le_succ _) (.slice none 0 0)).setCell (p := ⟨w.heap.size + 1, 1, none⟩) (Nat.le_succ _) (.slice none 0 0)))
  go_wp2_with fail
  refine ret_gen (fun W => TBox W (w.heap.size + 1) none 0 0 none 0 0 ∧ Below w.heap.size w W) HFIN.out fun W ⟨h1, h2⟩ => ?_
  have e0 := h1.c0
  have e1 := h1.c1
  refine bodyPost_ret (v := .tuple #[.agg #[.slice none 0 0, .slice none 0 0], .int .i64 2]) (by simp [results, Tryd.results58, go_sem, e0, e1]) rfl ?_
  exact ⟨rfl, h2⟩
/-- What traceIn leaves for a word. -/
def TiPost (m : Nat) (rs us : List Nat) (w : World) (e : Ending) (w' : World) : Prop :=
  ∃ A1 c1 B1 d1 es, e = .returned (.tuple #[.agg #[.slice A1 m c1, .slice B1 m d1], .int .i64 0]) ∧ es.Perm (List.range m) ∧ Srt (fun p => us.getD p 0) es 0 m ∧ Rd w' A1 m (ints (letM us es m m)) ∧ Rd w' B1 m (ints (befM rs us es m m 0)) ∧ Below w.heap.size w w'
set_option maxHeartbeats 1600000 in
theorem traceIn_yes (A : Option Addr) (n c : Nat) (rs : List Nat) (A1 : Option Addr) (m d : Nat) (vs : List Nat) (w : World) (h : Rd w A n (ints rs)) (hwf : Wf (ints rs)) (h8 : n ≤ 8) (hr : ∀ i, rs.getD i 0 < 2 ^ n) (hrel : relB (ints rs) = true) (hl : rs.length = n) (hd : depB rs = true) (h2 : Rd w A1 m (ints vs)) (hm24 : m ≤ 24) (hvn : ∀ p, p < m → vs.getD p 0 < n) (hu : wordB (n : Int) (ints vs) = true) (hT : Tab w) :
    Calls Tryd.prog 58 #[.agg #[.int .i64 (n : Int), .slice A n c], .slice A1 m d] w (TiPost m rs vs w) := by
  have hm : m ≤ maxLen := by unfold maxLen; omega
  have x0 := box_new 24 w (n : Int) A n c
  obtain ⟨W2, hW2⟩ : ∃ W2, (w.alloc (.cells #[.int .i64 (n : Int), .slice A n c] 24)).alloc (.cells #[.slice none 0 0, .slice none 0 0] 63) = W2 := ⟨_, rfl⟩
  have hb2 : Below w.heap.size w W2 := by rw [← hW2]; exact below2 w _ _
  have r2 : TBox W2 (w.heap.size + 1) none 0 0 none 0 0 := by rw [← hW2]; have := tbox_new (w.alloc (.cells #[.int .i64 (n : Int), .slice A n c] 24)) none 0 0 none 0 0; rwa [World.size_alloc] at this
  have hs2 : W2.heap.size = w.heap.size + 1 + 1 := by rw [← hW2]; simp
  have ht := rdT_one W2 A1 m d (ints vs) 22 (h2.below hb2) hm
  rw [hs2] at ht
  have hb3 : Below w.heap.size w (W2.alloc (.cells #[.slice A1 m d] 22)) := hb2.alloc hb2.size _
  have r3 : TBox (W2.alloc (.cells #[.slice A1 m d] 22)) (w.heap.size + 1) none 0 0 none 0 0 := r2.next (below1 W2 _)
  rw [← hW2] at ht hb3 r3
  have HB := Lib.hid hb3
  have hh := h.below HB.out
  have hh2 := h2.below HB.out
  have hT1 := hT.below HB.out
  clear hW2 hb2 r2 hs2 hb3
  have HU := Lib.hid hu
  have HDEP := Lib.hid ((depB_iff rs n hl hr).1 hd)
  have HR : Hid (∀ i, rs.getD i 0 < 9223372036854775808) := Lib.hid fun i => lt63 (by omega) (hr i)
  have HVN := Lib.hid hvn
  clear hu hl hvn
  go_enter Tryd.func58, Tryd.ntmps58
  go_wp2_with fail
  refine (dependenceWith_any _ _ _ _ _ _ rs _ _ hh hwf h8 hr hrel hd ht (by omega) hT1).mono ?_
  rw [okT_one, HU.out]
  rintro e w1 (⟨hok, A2, c2, rfl, ho, hb⟩ | ⟨hok, _⟩)
  rotate_left
  · cases hok
  have HB1 := Lib.hid (HB.out.trans (hb.mono HB.out.size))
  have hU2 := hh2.below hb
  have hRd := ho.rd
  have hT2 := hT1.below hb
  have r4 := r3.next hb
  clear ho hb hok ht hh hh2 hT1 hT h h2 hd hr r3
  go_wp2_with fail
  refine (traceOf_any A2 A1 n m c2 d rs vs _ hRd hU2 hm24 (by omega) HVN.out HR.out hT2).mono ?_
  rintro e w5 ⟨A5, c5, B5, d5, es, rfl, hp, hs, h1, h2, hn1, hn2, hb5⟩
  have r5 := r4.next hb5
  have rc0 := r5.c0
  have rc1 := r5.c1
  have rf0 := r5.fr 0
  have rf1 := r5.fr 1
  have HB5 := Lib.hid (HB1.out.trans (hb5.mono HB1.out.size))
  have HP := Lib.hid hp
  have HS := Lib.hid hs
  have hr4 := r4.lt
  have HFIN := Lib.hid (And.intro ((r5.set0 A5 m c5).set1 B5 m d5) (And.intro (((h1.far2 (grown_set (g := w.heap.size + 1) (World.grownBy.refl _ (some (w.heap.size + 1))) 0 (.slice A5 m c5)) (fun b _ hb9 e9 => by have := hn1 b hb9; injection e9 with e9; omega)).far2 (grown_set (g := w.heap.size + 1) (World.grownBy.refl _ (some (w.heap.size + 1))) 1 (.slice B5 m d5)) (fun b _ hb9 e9 => by have := hn1 b hb9; injection e9 with e9; omega))) (And.intro (((h2.far2 (grown_set (g := w.heap.size + 1) (World.grownBy.refl _ (some (w.heap.size + 1))) 0 (.slice A5 m c5)) (fun b _ hb9 e9 => by have := hn2 b hb9; injection e9 with e9; omega)).far2 (grown_set (g := w.heap.size + 1) (World.grownBy.refl _ (some (w.heap.size + 1))) 1 (.slice B5 m d5)) (fun b _ hb9 e9 => by have := hn2 b hb9; injection e9 with e9; omega))) ((HB5.out.setCell (p := ⟨w.heap.size + 1, 0, none⟩) (Nat.le_succ _) (.slice A5 m c5)).setCell (p := ⟨w.heap.size + 1, 1, none⟩) (Nat.le_succ _) (.slice B5 m d5)))))
  clear hp hs hb5 hr4 hn1 hn2
  go_wp2_with fail
  refine ret_gen (fun W => TBox W (w.heap.size + 1) A5 m c5 B5 m d5 ∧ Rd W A5 m (ints (letM vs es m m)) ∧ Rd W B5 m (ints (befM rs vs es m m 0)) ∧ Below w.heap.size w W) HFIN.out fun W ⟨h1, h2, h3, h4⟩ => ?_
  have e0 := h1.c0
  have e1 := h1.c1
  refine bodyPost_ret (v := .tuple #[.agg #[.slice A5 m c5, .slice B5 m d5], .int .i64 0]) (by simp [results, Tryd.results58, go_sem, e0, e1]) rfl ?_
  exact ⟨A5, c5, B5, d5, es, rfl, HP.out, HS.out, h2, h3, h4⟩
end Go.Proofs.YtokikilfmglhhaaDoor
