/-
  Morphisms: the program's morphismIn.
-/
import Derived.Test.YtdafdffmkjhhcaaDoorMoP
import Derived.Laws.EntriesVeiled
namespace Go.Proofs.YtdafdffmkjhhcaaDoor
open Go Go.RowKit
set_option linter.unusedVariables false
set_option linter.unusedSimpArgs false
set_option maxRecDepth 100000

/-- What morphismIn leaves. -/
def MoPost (w : World) (n1 n2 n c : Nat) (A : Option Addr) (rs1 rs2 : List Nat) (C : Int) (e : Ending) (w' : World) : Prop :=
  (C = 0 ∧ ∃ R1 c1 R2 c2, e = .returned (.tuple #[.agg #[.slice R1 n1 c1, .slice R2 n2 c2, .func (.func 94) #[.slice A n c] #[]], .int .i64 0]) ∧ Own 77 w' w.heap.size R1 n1 c1 (ints rs1) ∧ Own 77 w' w.heap.size R2 n2 c2 (ints rs2) ∧ Below w.heap.size w w') ∨
  (C ≠ 0 ∧ e = .returned (.tuple #[.agg #[.slice none 0 0, .slice none 0 0, .nilFunc], .int .i64 C]) ∧ Below w.heap.size w w')
theorem Box3.set01 {T : TypeId} {w : World} {g : Nat} {a b c : Value} (h : Box3 T w g a b c) (a' b' : Value) : Box3 T ((w.setCell ⟨g, 0, none⟩ a').setCell ⟨g, 1, none⟩ b') g a' b' c := by
  unfold Box3 at h ⊢
  rw [heap_put (heap_put h a') b']; rfl
theorem below3' (w : World) (o1 o2 o3 : Obj) : Below w.heap.size w (((w.alloc o1).alloc o2).alloc o3) := (((Below.refl _ _).alloc (Nat.le_refl _) o1).alloc (by simp) o2).alloc (by simp; omega) o3
theorem depOf_flag (L : Int) (A : Option Addr) (n c : Nat) (xs : List Int) (w : World) (h : Rd w A n xs) (hwf : Wf xs) (hL1 : -9223372036854775808 ≤ L) (hL2 : L ≤ 9223372036854775807) (hn : n ≤ 9223372036854775807) (hT : Tab w) :
    Calls Tryd.prog 93 #[.agg #[.int .i64 L, .slice A n c]] w fun e w' => ∃ A' n' c', e = .returned (.tuple #[.slice A' n' c', .bool (alphB L xs)]) ∧ Below w.heap.size w w' := by
  cases ha : alphB L xs
  · exact (dependenceOf_no L A n c xs w h hwf hL1 hL2 hn ha hT).mono fun e w' ⟨he, hb⟩ => ⟨_, _, _, he, hb⟩
  · obtain ⟨rs, rfl, rfl, h8, hr, hrel, hl, hd, _⟩ := alphB_nats L xs n h.1 ha
    exact (dependenceOf_yes _ A n c rs w h hwf h8 rfl hr hrel hd hT).mono fun e w' ⟨A', c', he, _, hb⟩ => ⟨_, _, _, he, hb⟩
theorem set3_below {w w' : World} {g : Nat} (h : Below w.heap.size w w') (hg : w.heap.size ≤ g) (a b c : Value) : Below w.heap.size w (((w'.setCell ⟨g, 0, none⟩ a).setCell ⟨g, 1, none⟩ b).setCell ⟨g, 2, none⟩ c) :=
  ((h.setCell (p := ⟨g, 0, none⟩) hg _).setCell (p := ⟨g, 1, none⟩) hg _).setCell (p := ⟨g, 2, none⟩) hg _
theorem own_set3 {E : TypeId} {w : World} {B : Nat} {A : Option Addr} {n c : Nat} {xs : List Int} (h : Own E w B A n c xs) (b : Nat) (x y z : Value) (hne : ∀ q, A.map (·.block) = some q → q ≠ b) : Own E (((w.setCell ⟨b, 0, none⟩ x).setCell ⟨b, 1, none⟩ y).setCell ⟨b, 2, none⟩ z) B A n c xs :=
  own_other (own_other (own_other h b 0 x hne) b 1 y hne) b 2 z hne
set_option maxHeartbeats 6400000 in
theorem morphismIn_any (L1 L2 : Int) (R1 R2 A : Option Addr) (n1 c1 n2 c2 n c : Nat) (xs1 xs2 : List Int) (inR : Bool) (ts : List (Option Addr × Nat × Nat × List Int)) (w : World)
    (h1 : Rd w R1 n1 xs1) (hwf1 : Wf xs1) (hL11 : -9223372036854775808 ≤ L1) (hL12 : L1 ≤ 9223372036854775807) (hn1 : n1 ≤ 9223372036854775807)
    (h2 : Rd w R2 n2 xs2) (hwf2 : Wf xs2) (hL21 : -9223372036854775808 ≤ L2) (hL22 : L2 ≤ 9223372036854775807) (hn2 : n2 ≤ 9223372036854775807)
    (h : RdT w A n ts) (hn : n ≤ 1048576) (hT : Tab w) :
    Calls Tryd.prog 51 #[.agg #[.int .i64 L1, .slice R1 n1 c1], .agg #[.int .i64 L2, .slice R2 n2 c2], .slice A n c, .bool inR] w (MoPost w n1 n2 n c A (xs1.map Int.toNat) (xs2.map Int.toNat) (mCode L1 xs1 L2 xs2 (ts.map fun t => t.2.2.2) inR)) := by
  have HBA := Lib.hid (below3' w (.cells #[.int .i64 L1, .slice R1 n1 c1] 29) (.cells #[.int .i64 L2, .slice R2 n2 c2] 29) (.cells #[.slice none 0 0, .slice none 0 0, .nilFunc] 69))
  have x0 := ((box_new 29 w L1 R1 n1 c1).next (below1 _ (.cells #[.int .i64 L2, .slice R2 n2 c2] 29))).next (below1 _ (.cells #[.slice none 0 0, .slice none 0 0, .nilFunc] 69))
  have x1 := (box_new 29 (w.alloc (.cells #[.int .i64 L1, .slice R1 n1 c1] 29)) L2 R2 n2 c2).next (below1 _ (.cells #[.slice none 0 0, .slice none 0 0, .nilFunc] 69))
  have z0 := box3_new 69 ((w.alloc (.cells #[.int .i64 L1, .slice R1 n1 c1] 29)).alloc (.cells #[.int .i64 L2, .slice R2 n2 c2] 29)) (.slice none 0 0) (.slice none 0 0) .nilFunc
  rw [size1' w] at x1
  rw [size1' (w.alloc (.cells #[.int .i64 L1, .slice R1 n1 c1] 29)), size1' w] at z0
  obtain ⟨w1, hw1⟩ : ∃ w1, w1 = ((w.alloc (.cells #[.int .i64 L1, .slice R1 n1 c1] 29)).alloc (.cells #[.int .i64 L2, .slice R2 n2 c2] 29)).alloc (.cells #[.slice none 0 0, .slice none 0 0, .nilFunc] 69) := ⟨_, rfl⟩
  have HW1 := Lib.hid hw1
  rw [← hw1] at HBA x0 x1 z0
  clear hw1
  have r1 := h1.below HBA.out
  have r2 := h2.below HBA.out
  have rt := h.below HBA.out
  have T1 := hT.below HBA.out
  cases ha1 : alphB L1 xs1
  · rw [mCode_no1 L1 xs1 L2 xs2 _ inR ha1]
    have HF1 := Lib.hid (dependenceOf_no L1 R1 n1 c1 xs1 w1 r1 hwf1 hL11 hL12 hn1 ha1 T1)
    clear ha1
    go_enter Tryd.func51, Tryd.ntmps51
    go_wp2_with fail
    rw [← HW1.out]
    refine HF1.out.mono ?_
    rintro e w2 ⟨rfl, hb2⟩
    have y0 := (x1.next hb2).c0
    have y1 := (x1.next hb2).c1
    have HF2 := Lib.hid (depOf_flag L2 R2 n2 c2 xs2 w2 (r2.below hb2) hwf2 hL21 hL22 hn2 (T1.below hb2))
    go_wp2_with fail
    refine HF2.out.mono ?_
    rintro e w3 ⟨A3, n3, c3, rfl, hb3⟩
    have z3 := (z0.next hb2).next hb3
    have hb4 := HBA.out.trans ((hb2.trans (hb3.mono hb2.size)).mono HBA.out.size)
    clear y0 y1
    have q0 := z3.c0
    have q1 := z3.c1
    have q2 := z3.c2
    have q4 := (z3.set01 (.slice none 0 0) (.slice none 0 0)).c2
    have q5 := (z3.set01 (.slice none 0 0) (.slice none 0 0)).fr 2
    have qf0 := z3.fr 0
    have qf1 := z3.fr 1
    have qf2 := z3.fr 2
    go_wp2_with fail
    refine ret_gen (fun W => Box3 69 W (w.heap.size + 1 + 1) (.slice none 0 0) (.slice none 0 0) .nilFunc ∧ Below w.heap.size w W) ⟨z3.set _ _ _, set3_below hb4 (by omega) _ _ _⟩ ?_
    rintro W ⟨x, b⟩
    have e0 := x.c0
    have e1 := x.c1
    have e2 := x.c2
    exact bodyPost_ret (v := .tuple #[.agg #[.slice none 0 0, .slice none 0 0, .nilFunc], .int .i64 1]) (by simp [results, Tryd.results51, go_sem, e0, e1, e2]) rfl (.inr ⟨by decide, rfl, b⟩)
  cases ha2 : alphB L2 xs2
  · rw [mCode_no2 L1 xs1 L2 xs2 _ inR ha2]
    have HF1 := Lib.hid (depOf_flag L1 R1 n1 c1 xs1 w1 r1 hwf1 hL11 hL12 hn1 T1)
    rw [ha1] at HF1
    clear ha1
    go_enter Tryd.func51, Tryd.ntmps51
    go_wp2_with fail
    rw [← HW1.out]
    refine HF1.out.mono ?_
    rintro e w2 ⟨A3, n3, c3, rfl, hb2⟩
    have y0 := (x1.next hb2).c0
    have y1 := (x1.next hb2).c1
    have HF2 := Lib.hid (dependenceOf_no L2 R2 n2 c2 xs2 w2 (r2.below hb2) hwf2 hL21 hL22 hn2 ha2 (T1.below hb2))
    clear ha2
    go_wp2_with fail
    refine HF2.out.mono ?_
    rintro e w3 ⟨rfl, hb3⟩
    have z3 := (z0.next hb2).next hb3
    have hb4 := HBA.out.trans ((hb2.trans (hb3.mono hb2.size)).mono HBA.out.size)
    clear y0 y1
    have q0 := z3.c0
    have q1 := z3.c1
    have q2 := z3.c2
    have q4 := (z3.set01 (.slice none 0 0) (.slice none 0 0)).c2
    have q5 := (z3.set01 (.slice none 0 0) (.slice none 0 0)).fr 2
    have qf0 := z3.fr 0
    have qf1 := z3.fr 1
    have qf2 := z3.fr 2
    go_wp2_with fail
    refine ret_gen (fun W => Box3 69 W (w.heap.size + 1 + 1) (.slice none 0 0) (.slice none 0 0) .nilFunc ∧ Below w.heap.size w W) ⟨z3.set _ _ _, set3_below hb4 (by omega) _ _ _⟩ ?_
    rintro W ⟨x, b⟩
    have e0 := x.c0
    have e1 := x.c1
    have e2 := x.c2
    exact bodyPost_ret (v := .tuple #[.agg #[.slice none 0 0, .slice none 0 0, .nilFunc], .int .i64 1]) (by simp [results, Tryd.results51, go_sem, e0, e1, e2]) rfl (.inr ⟨by decide, rfl, b⟩)
  have HA2 := Lib.hid ha2
  obtain ⟨rs1, rfl, rfl, h8, hr1, hrel1, hl1, hd1, -⟩ := alphB_nats L1 xs1 n1 h1.1 ha1
  obtain ⟨rs2, rfl, rfl, h28, hr2, hrel2, hl2, hd2, -⟩ := alphB_nats L2 xs2 n2 h2.1 ha2
  have HF1 := Lib.hid (dependenceOf_yes _ R1 n1 c1 rs1 w1 r1 hwf1 h8 rfl hr1 hrel1 hd1 T1)
  have HD1 := Lib.hid ((depB_iff rs1 n1 hl1 hr1).1 hd1)
  have HD2 := Lib.hid ((depB_iff rs2 n2 hl2 hr2).1 hd2)
  have HL1 := Lib.hid hl1
  have HL2 := Lib.hid hl2
  have HR1 := Lib.hid hr1
  have HR2 := Lib.hid hr2
  have HF2 : Hid (∀ ww, Below w1.heap.size w1 ww → Calls Tryd.prog 93 #[.agg #[.int .i64 (n2 : Int), .slice R2 n2 c2]] ww fun e w' => ∃ A c, e = .returned (.tuple #[.slice A n2 c, .bool true]) ∧ Own 77 w' ww.heap.size A n2 c (ints rs2) ∧ Below ww.heap.size ww w') := Lib.hid (fun ww hw => dependenceOf_yes _ R2 n2 c2 rs2 ww (r2.below hw) hwf2 h28 rfl hr2 hrel2 hd2 (T1.below hw))
  have HLM : Hid (∀ ww, Below w1.heap.size w1 ww → Calls Tryd.prog 62 #[.agg #[.int .i64 (n1 : Int), .slice R1 n1 c1], .agg #[.int .i64 (n2 : Int), .slice R2 n2 c2], .slice A n c] ww fun e w' => e = .returned (.bool (lmB (n1 : Int) (n2 : Int) (ts.map fun t => t.2.2.2))) ∧ Below ww.heap.size ww w') := Lib.hid (fun ww hw => isLetterMap_any (n1 : Int) (n2 : Int) R1 R2 A n1 c1 n2 c2 n c ts ww (rt.below hw) hn)
  rw [ints_toNat, ints_toNat]
  cases inR
  · rw [mCode_bad _ _ _ _ _ false ha1 ha2 rfl]
    clear ha1 ha2 hr1 hrel1 hl1 hd1 hr2 hrel2 hl2 hd2
    go_enter Tryd.func51, Tryd.ntmps51
    go_wp2_with fail
    rw [← HW1.out]
    refine HF1.out.mono ?_
    rintro e w2 ⟨A3, c3, rfl, o3, hb2⟩
    have y0 := (x1.next hb2).c0
    have y1 := (x1.next hb2).c1
    have HG2 := Lib.hid (HF2.out w2 hb2)
    go_wp2_with fail
    refine HG2.out.mono ?_
    rintro e w3 ⟨A4, c4, rfl, o4, hb3⟩
    have hb13 := hb2.trans (hb3.mono hb2.size)
    have z3 := (z0.next hb2).next hb3
    have hb4 := HBA.out.trans (hb13.mono HBA.out.size)
    clear y0 y1 HG2 HF2 HF1
    have q0 := z3.c0
    have q1 := z3.c1
    have q2 := z3.c2
    have q4 := (z3.set01 (.slice none 0 0) (.slice none 0 0)).c2
    have q5 := (z3.set01 (.slice none 0 0) (.slice none 0 0)).fr 2
    have qf0 := z3.fr 0
    have qf1 := z3.fr 1
    have qf2 := z3.fr 2
    go_wp2_with fail
    refine ret_gen (fun W => Box3 69 W (w.heap.size + 1 + 1) (.slice none 0 0) (.slice none 0 0) .nilFunc ∧ Below w.heap.size w W) ⟨z3.set _ _ _, set3_below hb4 (by omega) _ _ _⟩ ?_
    rintro W ⟨x, b⟩
    have e0 := x.c0
    have e1 := x.c1
    have e2 := x.c2
    exact bodyPost_ret (v := .tuple #[.agg #[.slice none 0 0, .slice none 0 0, .nilFunc], .int .i64 2]) (by simp [results, Tryd.results51, go_sem, e0, e1, e2]) rfl (.inr ⟨by decide, rfl, b⟩)
  cases hlm : lmB (n1 : Int) (n2 : Int) (ts.map fun t => t.2.2.2)
  · rw [mCode_bad _ _ _ _ _ true ha1 ha2 (by rw [hlm]; rfl)]
    rw [hlm] at HLM
    clear ha1 ha2 hr1 hrel1 hl1 hd1 hr2 hrel2 hl2 hd2 hlm
    go_enter Tryd.func51, Tryd.ntmps51
    go_wp2_with fail
    rw [← HW1.out]
    refine HF1.out.mono ?_
    rintro e w2 ⟨A3, c3, rfl, o3, hb2⟩
    have y0 := (x1.next hb2).c0
    have y1 := (x1.next hb2).c1
    have HG2 := Lib.hid (HF2.out w2 hb2)
    go_wp2_with fail
    refine HG2.out.mono ?_
    rintro e w3 ⟨A4, c4, rfl, o4, hb3⟩
    have hb13 := hb2.trans (hb3.mono hb2.size)
    have z3 := (z0.next hb2).next hb3
    have hb4 := HBA.out.trans (hb13.mono HBA.out.size)
    clear y0 y1 HG2 HF2 HF1
    have HG3 := Lib.hid (HLM.out w3 hb13)
    have y0 := ((x0.next hb2).next hb3).c0
    have y1 := ((x0.next hb2).next hb3).c1
    have y2 := ((x1.next hb2).next hb3).c0
    have y3 := ((x1.next hb2).next hb3).c1
    go_wp2_with fail
    refine HG3.out.mono ?_
    rintro e w5 ⟨rfl, hb5⟩
    have z5 := z3.next hb5
    have hb6 := hb4.trans (hb5.mono hb4.size)
    clear y0 y1 y2 y3 z3
    have q0 := z5.c0
    have q1 := z5.c1
    have q2 := z5.c2
    have q4 := (z5.set01 (.slice none 0 0) (.slice none 0 0)).c2
    have q5 := (z5.set01 (.slice none 0 0) (.slice none 0 0)).fr 2
    have qf0 := z5.fr 0
    have qf1 := z5.fr 1
    have qf2 := z5.fr 2
    go_wp2_with fail
    refine ret_gen (fun W => Box3 69 W (w.heap.size + 1 + 1) (.slice none 0 0) (.slice none 0 0) .nilFunc ∧ Below w.heap.size w W) ⟨z5.set _ _ _, set3_below hb6 (by omega) _ _ _⟩ ?_
    rintro W ⟨x, b⟩
    have e0 := x.c0
    have e1 := x.c1
    have e2 := x.c2
    exact bodyPost_ret (v := .tuple #[.agg #[.slice none 0 0, .slice none 0 0, .nilFunc], .int .i64 2]) (by simp [results, Tryd.results51, go_sem, e0, e1, e2]) rfl (.inr ⟨by decide, rfl, b⟩)
  obtain ⟨Ws, hXW, hWl, hWw⟩ := lm_nats (n1 : Int) n2 _ hlm
  have hWn : Ws.length = n1 := by omega
  have hnn : n = n1 := by
    have e := congrArg List.length hXW
    rw [List.length_map, List.length_map, h.1] at e
    omega
  subst hnn
  have hWT : ∀ k t, ts[k]? = some t → t.2.2.2 = ints (Ws.getD k []) := fun k t ht => by
    have e := congrArg (fun l : List (List Int) => l[k]?) hXW
    simp only [List.getElem?_map, ht] at e
    cases hk : Ws[k]? with
    | none => rw [hk] at e; cases e
    | some W =>
      rw [hk] at e
      injection e with e
      rw [List.getD_eq_getElem?_getD, hk]
      exact e
  rw [hlm] at HLM
  have hcode : mCode (n : Int) (ints rs1) (n2 : Int) (ints rs2) (ts.map fun t => t.2.2.2) true = if morB rs1 rs2 Ws = true then 0 else 5 := by
    rw [hXW]
    exact mCode_in _ _ rs1 rs2 Ws true ha1 ha2 (by rw [← hXW, hlm]; rfl) (natW_ints Ws)
  have HRP : Hid (∀ (ww : World) (A3 A4 : Option Addr) (c3 c4 : Nat), Below w1.heap.size w1 ww → Rd ww A3 n (ints rs1) → Rd ww A4 n2 (ints rs2) → Calls Tryd.prog 95 #[.agg #[.slice A3 n c3, .slice A4 n2 c4, .func (.func 94) #[.slice A n c] #[]]] ww fun e w' => e = .returned (.bool (morB rs1 rs2 Ws)) ∧ Below ww.heap.size ww w') := Lib.hid (fun ww A3 A4 c3 c4 hw ha hb =>
    respects_any A3 A4 A n c3 n2 c4 c rs1 rs2 ts Ws ww ha h8 hl1 hr1 HD1.out hb h28 hl2 hr2 ha2 HD2.out (rt.below hw) hWT hWw (T1.below hw))
  rw [hcode]
  clear hcode hWT hXW hWl hWw hlm ha1 ha2 hr1 hrel1 hl1 hd1 hr2 hrel2 hl2 hd2 h hWn
  cases hmo : morB rs1 rs2 Ws
  · rw [if_neg (by decide)]
    rw [hmo] at HRP
    clear hmo
    go_enter Tryd.func51, Tryd.ntmps51
    go_wp2_with fail
    rw [← HW1.out]
    refine HF1.out.mono ?_
    rintro e w2 ⟨A3, c3, rfl, o3, hb2⟩
    have y0 := (x1.next hb2).c0
    have y1 := (x1.next hb2).c1
    have HG2 := Lib.hid (HF2.out w2 hb2)
    go_wp2_with fail
    refine HG2.out.mono ?_
    rintro e w3 ⟨A4, c4, rfl, o4, hb3⟩
    have hb13 := hb2.trans (hb3.mono hb2.size)
    have z3 := (z0.next hb2).next hb3
    have hb4 := HBA.out.trans (hb13.mono HBA.out.size)
    have HSZ2 : Hid (w1.heap.size ≤ w2.heap.size) := Lib.hid hb2.size
    clear y0 y1 HG2 HF2 HF1
    have HG3 := Lib.hid (HLM.out w3 hb13)
    have y0 := ((x0.next hb2).next hb3).c0
    have y1 := ((x0.next hb2).next hb3).c1
    have y2 := ((x1.next hb2).next hb3).c0
    have y3 := ((x1.next hb2).next hb3).c1
    go_wp2_with fail
    refine HG3.out.mono ?_
    rintro e w5 ⟨rfl, hb5⟩
    have z5 := z3.next hb5
    have hb6 := hb4.trans (hb5.mono hb4.size)
    have hb15 := hb13.trans (hb5.mono hb13.size)
    have HO3 : Hid (∀ q, A3.map (·.block) = some q → w1.heap.size ≤ q) := Lib.hid (fun q hq => (o3.lt q hq).1)
    have HO4 : Hid (∀ q, A4.map (·.block) = some q → w1.heap.size ≤ q) := Lib.hid (fun q hq => Nat.le_trans HSZ2.out (o4.lt q hq).1)
    have o35 := (o3.below hb3).below hb5
    have o45 := o4.below hb5
    clear y0 y1 y2 y3 z3 HG3 o3 o4 hb2 hb3 hb5 hb4
    have hbx := below1 w5 (.cells #[.slice A3 n c3, .slice A4 n2 c4, .func (.func 94) #[.slice A n c] #[]] 69)
    have b5 := box3_new 69 w5 (.slice A3 n c3) (.slice A4 n2 c4) (.func (.func 94) #[.slice A n c] #[])
    have HG4 := Lib.hid (HRP.out _ A3 A4 c3 c4 (hb15.trans (hbx.mono hb15.size)) (o35.rd.below hbx) (o45.rd.below hbx))
    go_wp2_with fail
    refine HG4.out.mono ?_
    rintro e w7 ⟨rfl, hb7⟩
    have hb57 := hbx.trans (hb7.mono hbx.size)
    have z7 := z5.next hb57
    have b7 := b5.next hb7
    have hb8 := hb6.trans (hb57.mono hb6.size)
    have o37 := (o35.below hb57).mono (show w.heap.size ≤ w1.heap.size from HBA.out.size)
    have o47 := (o45.below hb57).mono (show w.heap.size ≤ w2.heap.size by have := hb15.size; have := HBA.out.size; have := HSZ2.out; omega)
    clear z5 b5 HG4 o35 o45 hb57 hbx hb6 hb15
    have q0 := z7.c0
    have q1 := z7.c1
    have q2 := z7.c2
    have q4 := (z7.set01 (.slice none 0 0) (.slice none 0 0)).c2
    have q5 := (z7.set01 (.slice none 0 0) (.slice none 0 0)).fr 2
    have qf0 := z7.fr 0
    have qf1 := z7.fr 1
    have qf2 := z7.fr 2
    go_wp2_with fail
    refine ret_gen (fun W => Box3 69 W (w.heap.size + 1 + 1) (.slice none 0 0) (.slice none 0 0) .nilFunc ∧ Below w.heap.size w W) ⟨z7.set _ _ _, set3_below hb8 (by omega) _ _ _⟩ ?_
    rintro W ⟨x, b⟩
    have e0 := x.c0
    have e1 := x.c1
    have e2 := x.c2
    exact bodyPost_ret (v := .tuple #[.agg #[.slice none 0 0, .slice none 0 0, .nilFunc], .int .i64 5]) (by simp [results, Tryd.results51, go_sem, e0, e1, e2]) rfl (.inr ⟨by decide, rfl, b⟩)
  · rw [if_pos rfl]
    rw [hmo] at HRP
    clear hmo
    go_enter Tryd.func51, Tryd.ntmps51
    go_wp2_with fail
    rw [← HW1.out]
    refine HF1.out.mono ?_
    rintro e w2 ⟨A3, c3, rfl, o3, hb2⟩
    have y0 := (x1.next hb2).c0
    have y1 := (x1.next hb2).c1
    have HG2 := Lib.hid (HF2.out w2 hb2)
    go_wp2_with fail
    refine HG2.out.mono ?_
    rintro e w3 ⟨A4, c4, rfl, o4, hb3⟩
    have hb13 := hb2.trans (hb3.mono hb2.size)
    have z3 := (z0.next hb2).next hb3
    have hb4 := HBA.out.trans (hb13.mono HBA.out.size)
    have HSZ2 : Hid (w1.heap.size ≤ w2.heap.size) := Lib.hid hb2.size
    clear y0 y1 HG2 HF2 HF1
    have HG3 := Lib.hid (HLM.out w3 hb13)
    have y0 := ((x0.next hb2).next hb3).c0
    have y1 := ((x0.next hb2).next hb3).c1
    have y2 := ((x1.next hb2).next hb3).c0
    have y3 := ((x1.next hb2).next hb3).c1
    go_wp2_with fail
    refine HG3.out.mono ?_
    rintro e w5 ⟨rfl, hb5⟩
    have z5 := z3.next hb5
    have hb6 := hb4.trans (hb5.mono hb4.size)
    have hb15 := hb13.trans (hb5.mono hb13.size)
    have HO3 : Hid (∀ q, A3.map (·.block) = some q → w1.heap.size ≤ q) := Lib.hid (fun q hq => (o3.lt q hq).1)
    have HO4 : Hid (∀ q, A4.map (·.block) = some q → w1.heap.size ≤ q) := Lib.hid (fun q hq => Nat.le_trans HSZ2.out (o4.lt q hq).1)
    have o35 := (o3.below hb3).below hb5
    have o45 := o4.below hb5
    clear y0 y1 y2 y3 z3 HG3 o3 o4 hb2 hb3 hb5 hb4
    have hbx := below1 w5 (.cells #[.slice A3 n c3, .slice A4 n2 c4, .func (.func 94) #[.slice A n c] #[]] 69)
    have b5 := box3_new 69 w5 (.slice A3 n c3) (.slice A4 n2 c4) (.func (.func 94) #[.slice A n c] #[])
    have HG4 := Lib.hid (HRP.out _ A3 A4 c3 c4 (hb15.trans (hbx.mono hb15.size)) (o35.rd.below hbx) (o45.rd.below hbx))
    go_wp2_with fail
    refine HG4.out.mono ?_
    rintro e w7 ⟨rfl, hb7⟩
    have hb57 := hbx.trans (hb7.mono hbx.size)
    have z7 := z5.next hb57
    have b7 := b5.next hb7
    have hb8 := hb6.trans (hb57.mono hb6.size)
    have o37 := (o35.below hb57).mono (show w.heap.size ≤ w1.heap.size from HBA.out.size)
    have o47 := (o45.below hb57).mono (show w.heap.size ≤ w2.heap.size by have := hb15.size; have := HBA.out.size; have := HSZ2.out; omega)
    clear z5 b5 HG4 o35 o45 hb57 hbx hb6 hb15
    have q0 := z7.c0
    have q1 := z7.c1
    have q2 := z7.c2
    have q4 := (z7.set01 (.slice A3 n c3) (.slice A4 n2 c4)).c2
    have q5 := (z7.set01 (.slice A3 n c3) (.slice A4 n2 c4)).fr 2
    have qf0 := z7.fr 0
    have qf1 := z7.fr 1
    have qf2 := z7.fr 2
    have p0 := b7.c0
    have p1 := b7.c1
    have p2 := b7.c2
    have HN3 : Hid (∀ q, A3.map (·.block) = some q → q ≠ w.heap.size + 1 + 1) := Lib.hid (fun q hq => by have := (o37.lt q hq).1; have := z0.lt; have h9 := HO3.out q hq; omega)
    have HN4 : Hid (∀ q, A4.map (·.block) = some q → q ≠ w.heap.size + 1 + 1) := Lib.hid (fun q hq => by have := z0.lt; have h9 := HO4.out q hq; omega)
    go_wp2_with fail
    refine ret_gen (fun W => Box3 69 W (w.heap.size + 1 + 1) (.slice A3 n c3) (.slice A4 n2 c4) (.func (.func 94) #[.slice A n c] #[]) ∧ Own 77 W w.heap.size A3 n c3 (ints rs1) ∧ Own 77 W w.heap.size A4 n2 c4 (ints rs2) ∧ Below w.heap.size w W) ⟨z7.set _ _ _, own_set3 o37 _ _ _ _ HN3.out, own_set3 o47 _ _ _ _ HN4.out, set3_below hb8 (by omega) _ _ _⟩ ?_
    rintro W ⟨x, oA, oB, b⟩
    have e0 := x.c0
    have e1 := x.c1
    have e2 := x.c2
    exact bodyPost_ret (v := .tuple #[.agg #[.slice A3 n c3, .slice A4 n2 c4, .func (.func 94) #[.slice A n c] #[]], .int .i64 0]) (by simp [results, Tryd.results51, go_sem, e0, e1, e2]) rfl (.inl ⟨rfl, _, _, _, _, rfl, oA, oB, b⟩)
end Go.Proofs.YtdafdffmkjhhcaaDoor
