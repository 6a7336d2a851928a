/-
  The words of a trace, the first one: what words$1$1 (extend) does where the round says 'no more'.
-/
import Derived.Test.YtcojodkcpemfdaaDoorFst
import Derived.Test.YtcojodkcpemfdaaDoorCl64
namespace Go.Proofs.YtcojodkcpemfdaaDoor
open Go Go.RowKit
set_option linter.unusedVariables false
set_option maxRecDepth 100000

/-- Each further letter can be picked, to the end. -/
def Goes (bf : Nat → Nat) : Nat → Nat → Prop
  | 0, left => left = 0
  | k + 1, left => left ≠ 0 ∧ ∃ e, pickB bf left = some e ∧ Goes bf k (dif left (2 ^ e))
/-- All blocks from n1 on lie as they lay, but for one, and for that of A. -/
structure KeepsBut (n1 bb : Nat) (A : Option Addr) (W W' : World) : Prop where
  size : W.heap.size ≤ W'.heap.size
  same : ∀ (k : Nat) (o : Obj), n1 ≤ k → k ≠ bb → A.map (·.block) ≠ some k → W.heap[k]? = some o → W'.heap[k]? = some o
theorem KeepsBut.of_all {n1 bb : Nat} {A : Option Addr} {W W' : World} (h : KeepsAll n1 W W') : KeepsBut n1 bb A W W' := ⟨h.size, fun k o hk _ _ => h.same k o hk⟩
theorem keeps_alloc (B : Nat) (W : World) (o : Obj) : KeepsAll B W (W.alloc o) := ⟨by simp, fun k o' _ h => (Below.heap_alloc W o k (Array.getElem?_eq_some_iff.1 h).1).trans h⟩
theorem keeps_below {B : Nat} {W W' : World} (h : Below W.heap.size W W') : KeepsAll B W W' := ⟨h.size, fun k o _ hk => (h.block k (Array.getElem?_eq_some_iff.1 hk).1).trans hk⟩
theorem keeps_drew (B : Nat) (W : World) : KeepsAll B W W.drew := ⟨Nat.le_refl _, fun _ _ _ h => h⟩
/-- A list of numbers that a call has made, and the number of blocks ahead of it. -/
abbrev WordAt := Option Addr × Nat × Nat
def wordEnc (m : Nat) (x : WordAt) : Array Value := #[.slice x.1 m x.2.1]
def WordS (us : List Nat) (m : Nat) (x : WordAt) (n1 : Nat) (W : World) : Prop := Own 2 W x.2.2 x.1 m x.2.1 (ints us) ∧ n1 ≤ x.2.2
theorem firsts_any (left m c m' d : Nat) (A B : Option Addr) (w : World) :
    Calls Tryd.prog 207 #[.agg #[.slice A m c, .slice B m' d], .int .i64 (left : Int)] w fun e w' => ∃ bl bt, e = .returned (.func (.func 220) #[] #[.pointer (some ⟨bl, 0, none⟩), .pointer (some ⟨bt, 0, none⟩)]) ∧ Below w.heap.size w w' ∧ w'.cell? ⟨bl, 0, none⟩ = some (.int .i64 (left : Int)) ∧ w'.cell? ⟨bt, 0, none⟩ = some (.slice A m c) ∧ w'.cell? ⟨bt, 1, none⟩ = some (.slice B m' d) ∧ KeepsAll 0 w w' := by
  go_enter Tryd.func207, Tryd.ntmps207
  go_wp2
  go_ret
  have h1 := (Boxed.new (w.alloc (.cells #[.slice A m c, .slice B m' d] 116)) 84 (.int .i64 (left : Int))).cell
  rw [World.size_alloc] at h1
  have h2 : ((w.alloc (.cells #[.slice A m c, .slice B m' d] 116)).alloc (.cells #[.int .i64 (left : Int)] 84)).heap[w.heap.size]? = some (.cells #[.slice A m c, .slice B m' d] 116 (0, 0)) :=
    (Below.heap_alloc _ _ _ (by simp)).trans (World.alloc_heap_new w _)
  refine ⟨w.heap.size + 1, w.heap.size, rfl, ((Below.refl _ w).alloc (Nat.le_refl _) _).alloc (by simp) _, h1, by simp [World.cell?, h2], by simp [World.cell?, h2], (keeps_alloc 0 w _).trans (keeps_alloc 0 _ _)⟩
/-- The call with nothing left. -/
theorem extend_zero (l m yb bb bt bx n1 cc : Nat) (A : Option Addr) (full : List Nat) (W0 W : World) (J : WordAt → World → Prop) (hJ : AbidesTo n1 (fun x : WordAt => x.2.2) J) (hm : m ≤ 24) (hW : Below W0.heap.size W0 W) (hn : n1 ≤ W.heap.size)
    (hY : ∀ x W1, WordS full m x n1 W1 → Below W0.heap.size W0 W1 → YieldAt Fence.wide 0 Tryd.prog l (wordEnc m x) W1 fun e W' => e = .returned (.bool false) ∧ J x W' ∧ KeepsAll n1 W1 W')
    (cy : Boxed W yb 91 (.func (.yield l) #[] #[])) (cb : Boxed W bb 22 (.slice A m cc)) (ho : Own 2 W n1 A m cc (ints full)) :
    Calls Tryd.prog 206 #[.int .i64 0, .pointer (some ⟨yb, 0, none⟩), .pointer (some ⟨bb, 0, none⟩), .pointer (some ⟨bt, 0, none⟩), .pointer (some ⟨bx, 0, none⟩)] W fun e W' => e = .returned (.bool false) ∧ (∃ x : WordAt, W.heap.size ≤ x.2.2 ∧ J x W') ∧ KeepsBut n1 bb A W W' := by
  have mixed : Tryd.prog.follows .mixedOrders = true := by kernel_rfl
  have hr := ho.rd
  refine calls_of_marks Tryd.func206 rfl ?_
  simp only [Tryd.ntmps206, List.size_toArray, List.length_cons, List.length_nil, Nat.reduceAdd, Nat.reduceSub, Array.replicate_succ, Array.replicate_zero, List.push_toArray, List.append_toArray, List.nil_append, List.cons_append]
  obtain ⟨W1, hW1⟩ : ∃ W1, W.alloc (.cells #[.bool false] 4) = W1 := ⟨_, rfl⟩
  have b6 : Boxed W1 W.heap.size 4 (.bool false) := hW1 ▸ Boxed.new W _ _
  have cy1 : Boxed W1 yb 91 (.func (.yield l) #[] #[]) := hW1 ▸ cy.alloc _
  have cb1 : Boxed W1 bb 22 (.slice A m cc) := hW1 ▸ cb.alloc _
  have hr1 : Rd W1 A m (ints full) := hW1 ▸ hr.below ((Below.refl _ W).alloc (Nat.le_refl _) _)
  have hb1 : Below W0.heap.size W0 W1 := hW1 ▸ hW.alloc hW.size _
  have hk1 : KeepsAll n1 W W1 := hW1 ▸ keeps_alloc n1 W _
  have hs1 : W1.heap.size = W.heap.size + 1 := by rw [← hW1]; simp
  have HS1 := Lib.hid hs1
  clear hs1
  have yc := cy1.cell
  have bc := cb1.cell
  have HYY := Lib.hid hY
  have HCL : Hid (∀ ww : World, Below W1.heap.size W1 ww → Calls Tryd.prog 131 #[.slice A m cc] ww (MakesE 2 ww m (ints full))) := Lib.hid fun ww hb => clone64_any A m cc _ ww (hr1.below hb) hm
  clear hY
  go_wp2_with fail
  refine (wpIn_wide (n := 0)).1 ?_
  gi_region_with (first
    | (refine ⟨trivial, rfl, ?_⟩; gi_at_call 131; refine (callsIn_wide.2 (HCL.out _ (Below.refl _ _).drew)).mono ?_; rintro e w2 ⟨A2, c2, rfl, ho2, hb2⟩; obtain ⟨fn, tmps, assign, body, hy, hR⟩ := HYY.out (A2, c2, W1.drew.heap.size) w2 ⟨ho2, by show n1 ≤ W1.heap.size; rw [HS1.out]; omega⟩ ((hb1.drew).trans (hb2.mono hb1.size)); dsimp only [wordEnc] at hy; have hR2 := Lib.hid hR; clear hR; have b62 := (keeps_below hb2).same _ _ hn b6; have yc2 := (hb2.cell (p := ⟨yb, 0, none⟩) (block_lt_of_cell yc)).trans yc)
    | (refine ⟨rfl, hR2.out.mono ?_⟩; rintro e W3 ⟨rfl, hj, hk⟩; have b63 : Boxed W3 W.heap.size 4 (.bool false) := hk.same _ _ hn b62; have c63 := b63.cell; have f63 := b63.frozen))
  all_goals (
    have c9 : (W3.setCell ⟨W.heap.size, 0, none⟩ (.bool false)).cell? ⟨W.heap.size, 0, none⟩ = some (.bool false) := World.cell?_setCell_same' _ _ _ (by rw [c63]; rfl)
    go_wp2_with fail
    have hk3 : KeepsAll n1 W W3 := ((hk1.trans (keeps_drew n1 W1)).trans (keeps_below hb2)).trans hk
    have hs9 := HS1.out
    refine ⟨.bool false, by simp [results, Tryd.results206, go_sem, c9], rfl, ⟨(A2, c2, W1.drew.heap.size), by show W.heap.size ≤ W1.heap.size; omega, hJ _ _ _ _ hj (grownBy_setCell' W3 W.heap.size _) (fun r e => by cases e; exact ⟨hn, .inl (by show W.heap.size < W1.heap.size; omega)⟩)⟩, ?_⟩
    exact ⟨by rw [World.size_setCell]; exact hk3.size, fun k o hk' _ _ ho => (Below.heap_setCell W3 _ _ k (fun e => by have := (Array.getElem?_eq_some_iff.1 ho).1; simp at e; omega)).trans (hk3.same k o hk' ho)⟩)
attribute [local go_sem] Oper.semAt_some
/-- Where words$1$1 stands: the yield's box, that of the beginning, and its own; the beginning's numbers lie in block g. -/
structure Ext (l yb bb bt bx g m : Nat) (W0 W : World) (pre : List Nat) : Prop where
  below : Below W0.heap.size W0 W
  cy : Boxed W yb 91 (.func (.yield l) #[] #[])
  cb : Boxed W bb 22 (.slice (some ⟨g, 0, none⟩) pre.length m)
  cx : Boxed W bx 180 (.func (.func 206) #[] #[.pointer (some ⟨yb, 0, none⟩), .pointer (some ⟨bb, 0, none⟩), .pointer (some ⟨bt, 0, none⟩), .pointer (some ⟨bx, 0, none⟩)])
  own : Own 2 W W0.heap.size (some ⟨g, 0, none⟩) pre.length m (ints pre)
def ExtCall (yb bb bt bx left : Nat) (W0 : World) (A : Option Addr) (J : WordAt → World → Prop) (W : World) : Prop :=
  Calls Tryd.prog 206 #[.int .i64 (left : Int), .pointer (some ⟨yb, 0, none⟩), .pointer (some ⟨bb, 0, none⟩), .pointer (some ⟨bt, 0, none⟩), .pointer (some ⟨bx, 0, none⟩)] W fun e W' => e = .returned (.bool false) ∧ (∃ x : WordAt, W.heap.size ≤ x.2.2 ∧ J x W') ∧ KeepsBut W0.heap.size bb A W W'
set_option maxHeartbeats 1000000 in
theorem extend_step (l m yb bb bt bx g c d left e : Nat) (TA TB : Option Addr) (ls bs pre : List Nat) (W0 W : World) (J : WordAt → World → Prop)
    (hct0 : W0.cell? ⟨bt, 0, none⟩ = some (.slice TA m c)) (hct1 : W0.cell? ⟨bt, 1, none⟩ = some (.slice TB m d)) (hA : Rd W0 TA m (ints ls)) (hB : Rd W0 TB m (ints bs)) (hm : m ≤ 24) (hbs : ∀ i, bs.getD i 0 < 2 ^ m) (hT : Tab W0)
    (hy0 : W0.heap.size ≤ yb) (hb0 : W0.heap.size ≤ bb) (hx0 : W0.heap.size ≤ bx) (hyb : yb ≠ bb) (hxb : bx ≠ bb)
    (hJ : AbidesTo W0.heap.size (fun x : WordAt => x.2.2) J) (hle : left ≠ 0) (hlt : left < 2 ^ m) (hpick : pickB (fun e => bs.getD e 0) left = some e) (hpl : pre.length < m)
    (hS : Ext l yb bb bt bx g m W0 W pre)
    (Lt R : Nat) (HLt : Hid (Lt = ls.getD e 0)) (HR : Hid (R = dif left (2 ^ e)))
    (ih : ∀ W', Ext l yb bb bt bx g m W0 W' (pre ++ [Lt]) → ExtCall yb bb bt bx R W0 (some ⟨g, 0, none⟩) J W') :
    ExtCall yb bb bt bx left W0 (some ⟨g, 0, none⟩) J W := by
  obtain ⟨hbW, cy, cb, cx, ho⟩ := hS
  obtain ⟨i0, hi, hz0, hz1, hz2⟩ := info_parts info_int
  refine calls_of_marks Tryd.func206 rfl ?_
  simp only [Tryd.ntmps206, List.size_toArray, List.length_cons, List.length_nil, Nat.reduceAdd, Nat.reduceSub, Array.replicate_succ, Array.replicate_zero, List.push_toArray, List.append_toArray, List.nil_append, List.cons_append]
  obtain ⟨W1, hW1⟩ : ∃ W1, W.alloc (.cells #[.bool false] 4) = W1 := ⟨_, rfl⟩
  have b6 : Boxed W1 W.heap.size 4 (.bool false) := hW1 ▸ Boxed.new W _ _
  have hWW1 : Below W.heap.size W W1 := hW1 ▸ (Below.refl _ W).alloc (Nat.le_refl _) _
  have hs1 : W1.heap.size = W.heap.size + 1 := by rw [← hW1]; simp
  have HS1 := Lib.hid hs1
  clear hs1
  have hb1 : Below W0.heap.size W0 W1 := hbW.trans (hWW1.mono hbW.size)
  have tc0 := (hb1.cell (block_lt_of_cell hct0)).trans hct0
  have tc1 := (hb1.cell (block_lt_of_cell hct0)).trans hct1
  have hz : (((left : Nat) : Int) == 0) = false := by simp; omega
  have HPICK := Lib.hid hpick
  have HIH := Lib.hid ih
  have HJ := Lib.hid hJ
  have HBS := Lib.hid hbs
  have HLT := Lib.hid hlt
  have HPL := Lib.hid hpl
  clear hpick ih hJ hbs hlt hpl
  go_wp2_with fail
  refine (firsts_any left m c m d TA TB _).mono ?_
  rintro e9 w2 ⟨bl, b2, rfl, hb2, hl2, ht20, ht21, -⟩
  go_wp2_with fail
  have hWw2 : Below W.heap.size W w2 := hWW1.trans (hb2.mono hWW1.size)
  have h0w2 : Below W0.heap.size W0 w2 := hbW.trans (hWw2.mono hbW.size)
  have hseq := firsts1_first bl b2 left m c d e TA TB ls bs w2 hl2 ht20 ht21 (hA.below h0w2) (hB.below h0w2) hm HLT.out HBS.out (hT.below h0w2) HPICK.out
  have b62 : Boxed w2 W.heap.size 4 (.bool false) := (hb2.block _ b6.lt).trans b6
  refine wp_rangeFunc_first (gf := 220) (lb := #[.pointer (some ⟨bl, 0, none⟩), .pointer (some ⟨b2, 0, none⟩)]) rfl (enters_of Tryd.func220 (by kernel_rfl) rfl) hseq (Below.refl _ _) (fun _ => rfl) (fun _ _ _ _ _ _ h _ _ => h)
    (fun cd _ W3 => cd = .ret ∧ Boxed W3 W.heap.size 4 (.bool false) ∧ (∃ y : WordAt, W.heap.size ≤ y.2.2 ∧ J y W3) ∧ KeepsBut W0.heap.size bb (some ⟨g, 0, none⟩) W W3) ?abide
    (fun x => { tmps := #[.int .i64 (left : Int), .pointer (some ⟨yb, 0, none⟩), .pointer (some ⟨bb, 0, none⟩), .pointer (some ⟨bt, 0, none⟩), .pointer (some ⟨bx, 0, none⟩), undef, .pointer (some ⟨W.heap.size, 0, none⟩), .int .i64 (x.1 : Int), .int .i64 (x.2 : Int), .int .i64 (left : Int), .bool false, undef, undef, undef, undef, .agg #[.slice TA m c, .slice TB m d], .int .i64 (left : Int), .func (.func 220) #[] #[.pointer (some ⟨bl, 0, none⟩), .pointer (some ⟨b2, 0, none⟩)], .int .i64 (x.1 : Int), .int .i64 (x.2 : Int), undef, undef, undef, undef, undef, undef, undef, undef, undef, undef, undef, undef, undef], defers := [] }) ?assign ?body ?stop
  case abide =>
    rintro cd x P Q row ⟨rfl, h1, ⟨y, hy1, hy2⟩, h3⟩ hg hr
    have hw2 := hWw2.size
    refine ⟨rfl, h1.kept hg (fun e => ?_), ⟨y, hy1, HJ.out y P Q row hy2 hg (fun r er => ?_)⟩, ⟨Nat.le_trans h3.size hg.size, fun k o hk1 hk2 hk3 ho2 => ?_⟩⟩
    · obtain ⟨h4, h5⟩ := hr _ e.symm
      have := b62.lt
      omega
    · obtain ⟨h4, h5⟩ := hr r er
      refine ⟨by have := h0w2.size; omega, ?_⟩
      rcases h5 with h5 | h5
      · exact absurd h5 (Nat.not_lt_zero _)
      · exact .inr h5
    · have h6 := (Array.getElem?_eq_some_iff.1 ho2).1
      have h7 := h3.same k o hk1 hk2 hk3 ho2
      refine (hg.block k (Array.getElem?_eq_some_iff.1 h7).1 (fun e => ?_)).trans h7
      have := (hr _ e.symm).1
      omega
  case assign =>
    intro l2 x W3 K hK
    dsimp only [firstEnc]
    gi_wp2
    exact hK
  case stop =>
    rintro D cd x W3 hD ⟨rfl, h1, ⟨y, hy1, hy2⟩, h3⟩ hK
    have hc1 := h1.cell
    have hw2 := hWw2.size
    have hc2 : (W3.putObj D (.deferred none)).cell? ⟨W.heap.size, 0, none⟩ = some (.bool false) := by
      rw [← hc1]
      unfold World.cell?
      rw [World.putObj_heap_other (by have := b62.lt; show W.heap.size ≠ D; omega)]
    go_wp2_with fail
    refine ⟨by simp, .inl ⟨D, _, rfl, run_takeDeferred hK, ?_⟩⟩
    refine ⟨.bool false, by simp [results, Tryd.results206, go_sem, hc2], rfl, ⟨y, hy1, HJ.out y W3 _ (some D) hy2 (grownBy_putObj' _ D _) (fun r er => by cases er; exact ⟨by have := h0w2.size; omega, .inr ⟨_, hK, rfl⟩⟩)⟩, ?_⟩
    refine ⟨by simp; exact h3.size, fun k o hk1 hk2 hk3 ho2 => (World.putObj_heap_other ?_).trans (h3.same k o hk1 hk2 hk3 ho2)⟩
    have h6 := (Array.getElem?_eq_some_iff.1 ho2).1
    omega
  case body =>
    rintro l2 x W3 hx hb3 hs3
    have hx2 : x = (Lt, R) := by rw [hx, HLt.out, HR.out]
    subst hx2
    clear hx
    have hW3 : Below W.heap.size W W3 := hWw2.trans (hb3.mono hWw2.size)
    have cb3 : Boxed W3 bb 22 (.slice (some ⟨g, 0, none⟩) pre.length m) := (hW3.block _ cb.lt).trans cb
    have cy3 : Boxed W3 yb 91 (.func (.yield l) #[] #[]) := (hW3.block _ cy.lt).trans cy
    have cx3 := (show Boxed W3 bx _ _ from (hW3.block _ cx.lt).trans cx)
    have b63 : Boxed W3 W.heap.size 4 (.bool false) := (hb3.block _ b62.lt).trans b62
    have ho3 := ho.below hW3
    have h0W3 : Below W0.heap.size W0 W3 := hbW.trans (hW3.mono hbW.size)
    have bc3 := cb3.cell
    have bf3 := cb3.frozen
    gi_wp2_with (gi_at_builtin; refine wpListIn_append_fits _ rfl _ _ 22 rfl W0.heap.size 2 i0 1 Tryd.underlying22 hi hz1 g pre.length m ((ints pre).map (Value.int .i64)) rfl (World.ownsRow.alloc ho3 _) ⟨W3.heap.size, 0, none⟩ 1 1 [.int .i64 (Lt : Int)] rfl rfl (cell_one_new _ _ _) ?c2 ?c3 ?_)
    case c2 => first | rfl | (intro u hu; simp at hu; subst hu; rfl)
    case c3 => exact HPL.out
    intro w4 hown hg4
    rw [ints_snoc_map] at hown
    have ho4 : Own 2 w4 W0.heap.size (some ⟨g, 0, none⟩) (pre ++ [Lt]).length m (ints (pre ++ [Lt])) := by rw [List.length_append]; exact hown
    have hne : ∀ {B : Nat} {t : TypeId} {u : Value}, Boxed W3 B t u → t ≠ 2 → some B ≠ some g := fun h ht => h.not_row ht ho3
    have hgW : g < W.heap.size := (ho.lt g rfl).2
    have cb4 := (cb3.alloc (.cells #[.int .i64 (Lt : Int)] 2)).kept hg4 (hne cb3 (by decide))
    have cy4 := (cy3.alloc (.cells #[.int .i64 (Lt : Int)] 2)).kept hg4 (hne cy3 (by decide))
    have cx4 := (cx3.alloc (.cells #[.int .i64 (Lt : Int)] 2)).kept hg4 (hne cx3 (by decide))
    have b64 := (b63.alloc (.cells #[.int .i64 (Lt : Int)] 2)).kept hg4 (hne b63 (by decide))
    have hgb : g ≠ bb := fun e => hne cb3 (by decide) (by rw [e])
    have h0W4 : Below W0.heap.size W0 w4 := (h0W3.alloc h0W3.size _).grown hg4 (by have := h0W3.size; simp; omega) (fun q hq => by cases hq; exact (ho.lt g rfl).1)
    have bc4 := cb4.cell
    have bf4 := cb4.frozen
    obtain ⟨w5, hw5⟩ : ∃ w5, w4.setCell ⟨bb, 0, none⟩ (.slice (some ⟨g, 0, none⟩) (pre ++ [Lt]).length m) = w5 := ⟨_, rfl⟩
    have hl5 : (pre ++ [Lt]).length = pre.length + 1 := by simp
    have hbr : W.heap.size ≠ bb := by have := cb.lt; omega
    have cb5 : Boxed w5 bb 22 (.slice (some ⟨g, 0, none⟩) (pre ++ [Lt]).length m) := by rw [← hw5]; exact cb4.set _
    have cy5 : Boxed w5 yb 91 (.func (.yield l) #[] #[]) := by rw [← hw5]; exact cy4.other hyb _
    have cx5 : Boxed w5 bx 180 (.func (.func 206) #[] #[.pointer (some ⟨yb, 0, none⟩), .pointer (some ⟨bb, 0, none⟩), .pointer (some ⟨bt, 0, none⟩), .pointer (some ⟨bx, 0, none⟩)]) := by rw [← hw5]; exact cx4.other hxb _
    have b65 : Boxed w5 W.heap.size 4 (.bool false) := by rw [← hw5]; exact b64.other hbr _
    have ho5 : Own 2 w5 W0.heap.size (some ⟨g, 0, none⟩) (pre ++ [Lt]).length m (ints (pre ++ [Lt])) := by rw [← hw5]; exact own_other ho4 bb 0 _ (fun q hq => by cases hq; exact hgb)
    have h0W5 : Below W0.heap.size W0 w5 := by rw [← hw5]; exact h0W4.setCell (p := ⟨bb, 0, none⟩) hb0 _
    have hex := HIH.out w5 ⟨h0W5, cy5, cb5, cx5, ho5⟩
    unfold ExtCall at hex
    have HEX := Lib.hid hex
    clear hex
    have xc5 := cx5.cell
    rw [hl5] at hw5
    have hgne : (some (⟨g, 0, none⟩ : Addr)).map (·.block) ≠ some W.heap.size := by simp; omega
    gi_wp2_with (refine ⟨trivial, rfl, ?_⟩; gi_at_call 206; refine (CallsIn.inRound l2 (callsIn_wide.2 HEX.out)).mono ?_; rintro e6 w6 ⟨rfl, ⟨y, hy1, hy2⟩, hk6⟩; have b66 : Boxed w6 W.heap.size 4 (.bool false) := hk6.same _ _ hbW.size hbr hgne b65; have c66 := b66.cell; have f66 := b66.frozen)
    have hall : ∀ (k : Nat) (o : Obj), W0.heap.size ≤ k → k ≠ bb → k ≠ g → k ≠ W.heap.size → W3.heap[k]? = some o → (w6.setCell ⟨W.heap.size, 0, none⟩ (.bool false)).heap[k]? = some o := by
      intro k o h1 h2 h3 h4 h5
      have hk3 := (Array.getElem?_eq_some_iff.1 h5).1
      have s1 : (W3.alloc (.cells #[.int .i64 (Lt : Int)] 2)).heap[k]? = some o := (Below.heap_alloc W3 _ k hk3).trans h5
      have s2 : w4.heap[k]? = some o := (hg4.block k (by simp; omega) (fun e => h3 (by injection e))).trans s1
      have s3 : w5.heap[k]? = some o := by rw [← hw5]; exact (Below.heap_setCell w4 _ _ k (fun e => h2 e)).trans s2
      have s4 : w6.heap[k]? = some o := hk6.same k o h1 h2 (by simp; omega) s3
      exact (Below.heap_setCell w6 _ _ k (fun e => h4 e)).trans s4
    have z4 : W3.heap.size + 1 ≤ w4.heap.size := by have := hg4.size; simpa using this
    have z5 : w5.heap.size = w4.heap.size := by rw [← hw5, World.size_setCell]
    have z6 := hk6.size
    have z0 := hW3.size
    have z2 := hWw2.size
    have zb := cb.lt
    have zz := hbW.size
    refine ⟨⟨by rw [World.size_setCell]; omega, fun k o hk ho => hall k o (by omega) (by omega) (by omega) (by have := b62.lt; omega) ho⟩, rfl, b66.set _, ⟨y, by omega, HJ.out y w6 _ (some W.heap.size) hy2 (grownBy_setCell' _ _ _) (fun r er => by cases er; exact ⟨zz, .inl (by show W.heap.size < y.2.2; omega)⟩)⟩, ⟨by rw [World.size_setCell]; omega, fun k o h1 h2 h3 h4 => ?_⟩⟩
    have hkW := (Array.getElem?_eq_some_iff.1 h4).1
    exact hall k o h1 h2 (fun e => h3 (by rw [e]; rfl)) (by omega) ((hW3.block k hkW).trans h4)
end Go.Proofs.YtcojodkcpemfdaaDoor
