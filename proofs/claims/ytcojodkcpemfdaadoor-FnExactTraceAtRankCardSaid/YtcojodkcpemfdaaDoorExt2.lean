/-
  The words of a trace, the first one: the recursion whole, and what words$1 does where the round says 'no more'.
-/
import Derived.Test.YtcojodkcpemfdaaDoorExt
namespace Go.Proofs.YtcojodkcpemfdaaDoor
open Go Go.RowKit
set_option linter.unusedVariables false
set_option maxRecDepth 100000
attribute [local go_sem] Oper.semAt_some

theorem Ext.next {l yb bb bt bx g m : Nat} {W0 W W' : World} {pre : List Nat} (h : Ext l yb bb bt bx g m W0 W pre) (hb : Below W.heap.size W W') : Ext l yb bb bt bx g m W0 W' pre :=
  ⟨h.below.trans (hb.mono h.below.size), (hb.block _ h.cy.lt).trans h.cy, (hb.block _ h.cb.lt).trans h.cb, (hb.block _ h.cx.lt).trans h.cx, h.own.below hb⟩
theorem extend_any (l m yb bb bt bx g c d : Nat) (TA TB : Option Addr) (ls bs full : List Nat) (W0 : World) (J : WordAt → World → Prop)
    (hct0 : W0.cell? ⟨bt, 0, none⟩ = some (.slice TA m c)) (hct1 : W0.cell? ⟨bt, 1, none⟩ = some (.slice TB m d)) (hA : Rd W0 TA m (ints ls)) (hB : Rd W0 TB m (ints bs)) (hm : m ≤ 24) (hbs : ∀ i, bs.getD i 0 < 2 ^ m) (hT : Tab W0)
    (hy0 : W0.heap.size ≤ yb) (hb0 : W0.heap.size ≤ bb) (hx0 : W0.heap.size ≤ bx) (hyb : yb ≠ bb) (hxb : bx ≠ bb)
    (hJ : AbidesTo W0.heap.size (fun x : WordAt => x.2.2) J)
    (hY : ∀ x W1, WordS full m x W0.heap.size W1 → Below W0.heap.size W0 W1 → YieldAt Fence.wide 0 Tryd.prog l (wordEnc m x) W1 fun e W' => e = .returned (.bool false) ∧ J x W' ∧ KeepsAll W0.heap.size W1 W') :
    ∀ (k left : Nat) (pre : List Nat) (W : World), Goes (fun e => bs.getD e 0) k left → left < 2 ^ m → pre.length + k = m → full = pre ++ nfB (fun e => ls.getD e 0) (fun e => bs.getD e 0) k left → Ext l yb bb bt bx g m W0 W pre → ExtCall yb bb bt bx left W0 (some ⟨g, 0, none⟩) J W
  | 0, left, pre, W, hg, _, hk, hf, hE => by
    have hl0 : left = 0 := hg
    subst hl0
    have hpf : full = pre := by rw [hf]; exact List.append_nil _
    subst hpf
    obtain ⟨h1, h2, h3, h4, h5⟩ := hE
    have hlen : full.length = m := by omega
    rw [hlen] at h3 h5
    exact extend_zero l m yb bb bt bx W0.heap.size m (some ⟨g, 0, none⟩) full W0 W J hJ hm h1 h1.size hY h2 h3 h5
  | k + 1, left, pre, W, hg, hlt, hk, hf, hE => by
    obtain ⟨h0, e, hp, hg'⟩ := hg
    refine extend_step l m yb bb bt bx g c d left e TA TB ls bs pre W0 W J hct0 hct1 hA hB hm hbs hT hy0 hb0 hx0 hyb hxb hJ h0 hlt hp (by omega) hE (ls.getD e 0) (dif left (2 ^ e)) (Lib.hid rfl) (Lib.hid rfl) fun W' hE' => ?_
    refine extend_any l m yb bb bt bx g c d TA TB ls bs full W0 J hct0 hct1 hA hB hm hbs hT hy0 hb0 hx0 hyb hxb hJ hY k (dif left (2 ^ e)) (pre ++ [ls.getD e 0]) W' hg' (Nat.lt_of_le_of_lt (dif_le _ _) hlt) (by rw [List.length_append]; simp; omega) ?_ hE'
    rw [hf, List.append_assoc]
    congr 1
    show (match pickB (fun e => bs.getD e 0) left with | none => [] | some e => ls.getD e 0 :: nfB (fun e => ls.getD e 0) (fun e => bs.getD e 0) k (dif left (2 ^ e))) = _
    rw [hp]; rfl
theorem events_any (m c m' d : Nat) (A B : Option Addr) (w : World) (hm : m ≤ 24) :
    Calls Tryd.prog 208 #[.agg #[.slice A m c, .slice B m' d]] w fun e w' => e = .returned (.int .i64 ((2 ^ m - 1 : Nat) : Int)) ∧ Below w.heap.size w w' := by
  obtain ⟨P, hP⟩ : ∃ P, P = 2 ^ m - 1 := ⟨_, rfl⟩
  have hF : Hid (∀ ww : World, Calls Tryd.prog 159 #[.int .i64 (m : Int)] ww fun e w' => e = .returned (.int .i64 (P : Int)) ∧ ww = w') := Lib.hid (by rw [hP]; exact fun ww => firstNumbers_any m (by omega) ww)
  rw [← hP]
  clear hP
  go_enter Tryd.func208, Tryd.ntmps208
  go_wp2_with fail
  refine (hF.out _).mono ?_
  rintro e w' ⟨rfl, rfl⟩
  go_wp2
  go_ret
  exact ⟨rfl, (Below.refl _ _).alloc (Nat.le_refl _) _⟩
/-- The words of a trace, to one that takes the first of them. -/
theorem words1_first (bt m c d : Nat) (TA TB : Option Addr) (ls bs full : List Nat) (w : World)
    (hct0 : w.cell? ⟨bt, 0, none⟩ = some (.slice TA m c)) (hct1 : w.cell? ⟨bt, 1, none⟩ = some (.slice TB m d)) (hA : Rd w TA m (ints ls)) (hB : Rd w TB m (ints bs)) (hm : m ≤ 24) (hbs : ∀ i, bs.getD i 0 < 2 ^ m) (hT : Tab w)
    (hG : Goes (fun e => bs.getD e 0) m (2 ^ m - 1)) (hfull : full = nfB (fun e => ls.getD e 0) (fun e => bs.getD e 0) m (2 ^ m - 1)) :
    FirstSeq Tryd.prog 205 #[.pointer (some ⟨bt, 0, none⟩)] (wordEnc m) (WordS full m) (fun x : WordAt => x.2.2) w := by
  intro l J W hW hJ hY
  have hc02 : W.cell? ⟨bt, 0, none⟩ = some (.slice TA m c) := (hW.cell (block_lt_of_cell hct0)).trans hct0
  have hc12 : W.cell? ⟨bt, 1, none⟩ = some (.slice TB m d) := (hW.cell (block_lt_of_cell hct0)).trans hct1
  have hA2 := hA.below hW
  have hB2 := hB.below hW
  have hT2 := hT.below hW
  obtain ⟨i0, hi, hz0, hz1, hz2⟩ := info_parts info_int
  have HEXT : Hid (∀ yb bb bx g W', W.heap.size ≤ yb → W.heap.size ≤ bb → W.heap.size ≤ bx → yb ≠ bb → bx ≠ bb → Ext l yb bb bt bx g m W W' [] → ExtCall yb bb bt bx (2 ^ m - 1) W (some ⟨g, 0, none⟩) J W') := Lib.hid fun yb bb bx g W' h1 h2 h3 h4 h5 hE =>
    extend_any l m yb bb bt bx g c d TA TB ls bs full W J hc02 hc12 hA2 hB2 hm hbs hT2 h1 h2 h3 h4 h5 hJ hY m (2 ^ m - 1) [] W' hG (by have := Nat.two_pow_pos m; omega) (by simp) (by rw [hfull]; rfl) hE
  have HEV : Hid (∀ ww : World, Calls Tryd.prog 208 #[.agg #[.slice TA m c, .slice TB m d]] ww fun e w' => e = .returned (.int .i64 ((2 ^ m - 1 : Nat) : Int)) ∧ Below ww.heap.size ww w') := Lib.hid fun ww => events_any m c m d TA TB ww hm
  obtain ⟨P, hP⟩ : ∃ P, P = 2 ^ m - 1 := ⟨_, rfl⟩
  rw [← hP] at HEXT HEV
  have hml : m ≤ maxLen := by unfold maxLen; omega
  have hby : i0.bytes * m ≤ 281474976710656 := by rw [hz2]; omega
  have mixed : Tryd.prog.follows .mixedOrders = true := by kernel_rfl
  clear hY hJ hG hfull hP hbs hT2 hT hA2 hB2 hA hB hW hct0 hct1
  show Calls _ _ #[.func (.yield l) #[] #[], .pointer (some ⟨bt, 0, none⟩)] W _
  obtain ⟨W1, hW1⟩ : ∃ W1, W.alloc (.cells #[.func (.yield l) #[] #[]] 91) = W1 := ⟨_, rfl⟩
  have y1 : Boxed W1 W.heap.size 91 (.func (.yield l) #[] #[]) := by rw [← hW1]; exact Boxed.new W _ _
  have hb1 : Below W.heap.size W W1 := by rw [← hW1]; exact (Below.refl _ W).alloc (Nat.le_refl _) _
  have hs1 : Hid (W1.heap.size = W.heap.size + 1) := Lib.hid (by rw [← hW1]; simp)
  have tc0 := (hb1.cell (block_lt_of_cell hc02)).trans hc02
  have tc1 := (hb1.cell (block_lt_of_cell hc02)).trans hc12
  go_enter Tryd.func205, Tryd.ntmps205
  go_wp2_with (at_make; refine wpList_make_own _ rfl _ _ _ rfl W.heap.size 2 i0 (.int .i64 0) 1 Tryd.underlying22 hi hz0 hz1 _ _ (m : Int) m rfl rfl rfl hby hml hb1.size ?_; intro w2 hown0 hg2)
  have hb2 : Below W1.heap.size W1 w2 := (Below.refl _ _).grown hg2 (Nat.le_refl _) (by simp)
  have ho2 : Own 2 w2 W.heap.size (some ⟨W1.heap.size, 0, none⟩) 0 m (ints []) := hown0
  have hg2lt : W1.heap.size < w2.heap.size := (ho2.lt _ rfl).2
  obtain ⟨W3, hW3⟩ : ∃ W3, w2.alloc (.cells #[.slice (some ⟨W1.heap.size, 0, none⟩) 0 m] 22) = W3 := ⟨_, rfl⟩
  have v3 : Boxed W3 w2.heap.size 22 (.slice (some ⟨W1.heap.size, 0, none⟩) 0 m) := by rw [← hW3]; exact Boxed.new w2 _ _
  have hb3 : Below w2.heap.size w2 W3 := by rw [← hW3]; exact (Below.refl _ _).alloc (Nat.le_refl _) _
  have hs3 : W3.heap.size = w2.heap.size + 1 := by rw [← hW3]; simp
  obtain ⟨W4, hW4⟩ : ∃ W4, W3.alloc (.cells #[.nilFunc] 180) = W4 := ⟨_, rfl⟩
  have x4 : Boxed W4 (w2.heap.size + 1) 180 .nilFunc := by rw [← hW4, ← hs3]; exact Boxed.new W3 _ _
  have v4 : Boxed W4 w2.heap.size 22 (.slice (some ⟨W1.heap.size, 0, none⟩) 0 m) := by rw [← hW4]; exact v3.alloc _
  have hb4 : Below w2.heap.size w2 W4 := by rw [← hW4]; exact hb3.alloc hb3.size _
  have f4 := x4.frozen
  have c4 := x4.cell
  rw [← hW3] at hW4
  obtain ⟨W5, hW5⟩ : ∃ W5, W4.setCell ⟨w2.heap.size + 1, 0, none⟩ (.func (.func 206) #[] #[.pointer (some ⟨W.heap.size, 0, none⟩), .pointer (some ⟨w2.heap.size, 0, none⟩), .pointer (some ⟨bt, 0, none⟩), .pointer (some ⟨w2.heap.size + 1, 0, none⟩)]) = W5 := ⟨_, rfl⟩
  have x5 : Boxed W5 (w2.heap.size + 1) 180 (.func (.func 206) #[] #[.pointer (some ⟨W.heap.size, 0, none⟩), .pointer (some ⟨w2.heap.size, 0, none⟩), .pointer (some ⟨bt, 0, none⟩), .pointer (some ⟨w2.heap.size + 1, 0, none⟩)]) := by rw [← hW5]; exact x4.set _
  have v5 : Boxed W5 w2.heap.size 22 (.slice (some ⟨W1.heap.size, 0, none⟩) 0 m) := by rw [← hW5]; exact v4.other (by omega) _
  have hb5 : Below w2.heap.size w2 W5 := by rw [← hW5]; exact hb4.setCell (p := ⟨w2.heap.size + 1, 0, none⟩) (Nat.le_succ _) _
  have hWw2 : Below W.heap.size W w2 := hb1.trans (hb2.mono hb1.size)
  have hW5 : Below W.heap.size W W5 := hWw2.trans (hb5.mono hWw2.size)
  have hE5 : Hid (Ext l W.heap.size w2.heap.size bt (w2.heap.size + 1) W1.heap.size m W W5 []) := Lib.hid ⟨hW5, (hb5.block _ (by have h9 := hs1.out; have h8 := hb2.size; omega)).trans ((hb2.block _ y1.lt).trans y1), v5, x5, ho2.below hb5⟩
  clear hs3
  have c5 := x5.cell
  have t50 := (hW5.cell (block_lt_of_cell hc02)).trans hc02
  have t51 := (hW5.cell (block_lt_of_cell hc02)).trans hc12
  rw [hW4, run_store _ _ _ _ _ rfl]
  go_simp
  go_wp2_with fail
  have HCE : Hid (∀ ww, Below W5.heap.size W5 ww → Calls Tryd.prog 206 #[.int .i64 (P : Int), .pointer (some ⟨W.heap.size, 0, none⟩), .pointer (some ⟨w2.heap.size, 0, none⟩), .pointer (some ⟨bt, 0, none⟩), .pointer (some ⟨w2.heap.size + 1, 0, none⟩)] ww fun e W' => e = .returned (.bool false) ∧ ∃ x : WordAt, J x W') := Lib.hid fun ww hb => by
    have h9 := hs1.out
    have h8 := hb2.size
    have := HEXT.out W.heap.size w2.heap.size (w2.heap.size + 1) W1.heap.size ww (Nat.le_refl _) (by omega) (by omega) (by omega) (by omega) (hE5.out.next hb)
    unfold ExtCall at this
    exact this.mono fun e W' h => ⟨h.1, h.2.1.elim fun x hx => ⟨x, hx.2⟩⟩
  refine (wpIn_wide (n := 0)).1 ?_
  gi_region_with (first
    | (refine ⟨trivial, rfl, ?_⟩; gi_at_call 208; refine (callsIn_wide.2 (HEV.out _)).mono ?_; rintro e w6 ⟨rfl, hb6⟩; have hb56 : Below W5.heap.size W5 w6 := ((Below.refl _ W5).drew).trans hb6; have c6 := (hb56.cell (block_lt_of_cell c5)).trans c5; have HC6 := Lib.hid (HCE.out w6 hb56))
    | (refine ⟨trivial, rfl, ?_⟩; gi_at_call 206; refine (callsIn_wide.2 HC6.out).mono ?_; rintro e w7 ⟨rfl, y, hy2⟩))
  all_goals go_wp2_with fail
  all_goals exact bodyPost_end (results_none rfl _ _ _) rfl ⟨⟨_, rfl⟩, y, hy2⟩
end Go.Proofs.YtcojodkcpemfdaaDoor
