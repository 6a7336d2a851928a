/-
  Tails: a set of first letters and a number of letters: a variable that holds one; what stands behind a letter: by contracts. The table that keeps numbers by tails: keys, what it holds. A function that keeps the numbers of tails: the recursion, by contracts. The normal form with a rank: plain mathematics. The normal form with a rank: the program's way. TraceAtRank: what is answered; the program's way. TraceAtRank: the model's side. TraceAtRank: the model's answer.
-/
import Derived.Test.YtcojodkcpemfdaaDoorCt2
import Derived.StillTailTactics
import Derived.Maps.OwnSet
import Derived.Maps.OwnOps
import Derived.DeepKeys4
import Derived.Maps.AppendAt
import Derived.Laws.EntriesVeiled
namespace Go.Proofs.YtcojodkcpemfdaaDoor
open Go Go.RowKit
set_option linter.unusedVariables false
set_option maxRecDepth 100000

/-- A variable that holds a tail. -/
def TBox (w : World) (g : Nat) (F m : Int) : Prop := w.heap[g]? = some (.cells #[.int .i64 F, .int .i64 m] 106 (0, 0))
theorem TBox.lt {w : World} {g : Nat} {F m : Int} (h : TBox w g F m) : g < w.heap.size := by
  rcases Nat.lt_or_ge g w.heap.size with h' | h'
  · exact h'
  · unfold TBox at h; rw [Array.getElem?_eq_none h'] at h; cases h
theorem TBox.c0 {w : World} {g : Nat} {F m : Int} (h : TBox w g F m) : w.cell? ⟨g, 0, none⟩ = some (.int .i64 F) := by
  unfold TBox at h; simp [World.cell?, h]
theorem TBox.c1 {w : World} {g : Nat} {F m : Int} (h : TBox w g F m) : w.cell? ⟨g, 1, none⟩ = some (.int .i64 m) := by
  unfold TBox at h; simp [World.cell?, h]
theorem TBox.fr {w : World} {g : Nat} {F m : Int} (h : TBox w g F m) (k : Nat) : w.frozen? ⟨g, k, none⟩ = false := by
  unfold TBox at h; simp [World.frozen?, h]
theorem TBox.next {w w' : World} {g : Nat} {F m : Int} (h : TBox w g F m) (hb : Below w.heap.size w w') : TBox w' g F m := by
  unfold TBox; rw [hb.block g h.lt]; exact h
theorem TBox.apart {w w' : World} {g : Nat} {F m : Int} {row : Option Nat} (h : TBox w g F m) (hg : w.grownBy w' row) (hne : row ≠ some g) : TBox w' g F m := by
  unfold TBox; rw [hg.block g h.lt (fun e => hne e.symm)]; exact h
theorem tbox_new (w : World) (F m : Int) : TBox (w.alloc (.cells #[.int .i64 F, .int .i64 m] 106)) w.heap.size F m := by
  unfold TBox; exact heap_alloc_new w _
theorem TBox.set {w : World} {g : Nat} {F m : Int} (h : TBox w g F m) (F' m' : Int) : TBox ((w.setCell ⟨g, 0, none⟩ (.int .i64 F')).setCell ⟨g, 1, none⟩ (.int .i64 m')) g F' m' := by
  unfold TBox at h ⊢; rw [heap_put (heap_put h _)]; rfl
/-- The letters that can come first behind a letter. -/
def bhM (rs : List Nat) (F a : Nat) : Nat := dif F (2 ^ a - 1) ||| rs.getD a 0
theorem bhM_lt (rs : List Nat) (n F a : Nat) (hF : F < 2 ^ n) (hr : rs.getD a 0 < 2 ^ n) : bhM rs F a < 2 ^ n := Nat.or_lt_two_pow (Nat.lt_of_le_of_lt (dif_le _ _) hF) hr
set_option maxHeartbeats 1600000 in
theorem behind_any (A : Option Addr) (n c F a m : Nat) (rs : List Nat) (w : World) (h : Rd w A n (ints rs)) (h8 : n ≤ 8) (hr : ∀ i, rs.getD i 0 < 2 ^ n) (hF : F < 2 ^ n) (ha : a < n) (hm : m ≤ 24) :
    Calls Tryd.prog 158 #[.slice A n c, .agg #[.int .i64 (F : Int), .int .i64 ((m + 1 : Nat) : Int)], .int .i64 (a : Int)] w fun e w' => e = .returned (.agg #[.int .i64 ((bhM rs F a : Nat) : Int), .int .i64 (m : Int)]) ∧ Below w.heap.size w w' := by
  have hlen : rs.length = n := by have := h.1; rw [ints_len] at this; exact this
  have hp8 : 2 ^ n ≤ 256 := Nat.pow_le_pow_right (by decide) h8
  have k1 := below2 w (.cells #[.int .i64 (F : Int), .int .i64 ((m + 1 : Nat) : Int)] 106) (.cells #[.int .i64 0, .int .i64 0] 106)
  have HB := Lib.hid k1
  obtain ⟨b, off, x, rfl, hbs, hx, hcx⟩ := (h.below k1).at_ ha
  have hx2 := ints_getD rs a (by rw [hlen]; exact ha)
  rw [hx2] at hx
  injection hx with hx
  subst hx
  have t0 := (tbox_new w (F : Int) ((m + 1 : Nat) : Int)).next (below1 _ (.cells #[.int .i64 0, .int .i64 0] 106))
  have r0 := tbox_new (w.alloc (.cells #[.int .i64 (F : Int), .int .i64 ((m + 1 : Nat) : Int)] 106)) 0 0
  rw [size1] at r0
  have hra := hr a
  have ha62 : a ≤ 62 := by omega
  have hpa : 2 ^ a - 1 < 2 ^ n := by have := p2_pos a; have : 2 ^ a ≤ 2 ^ n := Nat.pow_le_pow_right (by decide) (by omega); omega
  have HS : Hid (bhM rs F a = dif F (2 ^ a - 1) ||| rs.getD a 0) := Lib.hid rfl
  obtain ⟨D, hD⟩ : ∃ D, D = rs.getD a 0 := ⟨_, rfl⟩
  rw [← hD] at hcx hra HS
  obtain ⟨P, hP⟩ : ∃ P, P = 2 ^ a - 1 := ⟨_, rfl⟩
  rw [← hP] at hpa HS
  have HFN : Hid (∀ ww : World, Calls Tryd.prog 159 #[.int .i64 (a : Int)] ww fun e w' => e = .returned (.int .i64 (P : Int)) ∧ ww = w') := Lib.hid fun ww => by rw [hP]; exact firstNumbers_any a ha62 ww
  have HMI : Hid (∀ ww : World, Calls Tryd.prog 186 #[.int .i64 (F : Int), .int .i64 (P : Int)] ww fun e w' => e = .returned (.int .i64 ((dif F P : Nat) : Int)) ∧ ww = w') := Lib.hid fun ww => minus_nat F P (by omega) (by omega) ww
  have hdl : dif F P < 2 ^ n := Nat.lt_of_le_of_lt (dif_le _ _) hF
  obtain ⟨Q, hQ⟩ : ∃ Q, Q = dif F P := ⟨_, rfl⟩
  rw [← hQ] at HMI hdl HS
  have hor : bits .or .i64 (Q : Int) (D : Int) = ((bhM rs F a : Nat) : Int) := by rw [HS.out]; exact or63 Q D (by omega) (by omega)
  have hsub : IntKind.i64.wrap (((m + 1 : Nat) : Int) - 1) = (m : Int) := by rw [IntKind.wrap_i64]; omega
  obtain ⟨Z, hZ⟩ : ∃ Z, Z = bhM rs F a := ⟨_, rfl⟩
  rw [← hZ] at hor HS ⊢
  obtain ⟨M1, hM1⟩ : ∃ M1 : Nat, M1 = m + 1 := ⟨_, rfl⟩
  rw [← hM1] at t0 hsub HB hcx r0 ⊢
  have f0 := t0.c0
  have f1 := t0.c1
  have g0 := r0.c0
  have g1 := r0.c1
  have h0 := r0.fr 0
  have h1 := r0.fr 1
  clear hlen hx2 hpa hQ hP hD hra hdl hZ hM1 hbs k1
  obtain ⟨w2, hw2⟩ : ∃ w2, w2 = (w.alloc (.cells #[.int .i64 (F : Int), .int .i64 (M1 : Int)] 106)).alloc (.cells #[.int .i64 0, .int .i64 0] 106) := ⟨_, rfl⟩
  rw [← hw2] at t0 HB hcx r0 f0 f1 g0 g1 h0 h1
  go_enter Tryd.func158, Tryd.ntmps158
  go_wp2_with fail
  rw [← hw2]
  clear hw2
  go_still_tail 14, (by kernel_rfl)
  still_call ((HFN.out _).mono fun _ _ ⟨he, hw⟩ => ⟨he, hw.symm⟩)
  repeat still_step
  still_call ((HMI.out _).mono fun _ _ ⟨he, hw⟩ => ⟨he, hw.symm⟩)
  repeat still_step
  refine wpStill_nil ?_
  change wpList _ _ _ _ _ w2.drew
  have hdr : Below w2.heap.size w2 w2.drew := (Below.refl _ _).drew
  have r1 := r0.next hdr
  have g0' := r1.c0
  have g1' := r1.c1
  have h0' := r1.fr 0
  have h1' := r1.fr 1
  go_wp2_with fail
  refine ret_gen (fun W => TBox W (w.heap.size + 1) (Z : Int) (m : Int) ∧ Below w.heap.size w W) ⟨r1.set _ _, ((HB.out.drew).setCell (p := ⟨w.heap.size + 1, 0, none⟩) (by show w.heap.size ≤ w.heap.size + 1; omega) _).setCell (p := ⟨w.heap.size + 1, 1, none⟩) (by show w.heap.size ≤ w.heap.size + 1; omega) _⟩ ?_
  rintro W ⟨x, bb⟩
  have e0 := x.c0
  have e1 := x.c1
  exact bodyPost_ret (v := .agg #[.int .i64 (Z : Int), .int .i64 (m : Int)]) (by simp [results, Tryd.results158, go_sem, e0, e1]) rfl ⟨rfl, bb⟩
set_option maxHeartbeats 800000 in
theorem traces_any (A : Option Addr) (n c m : Nat) (w : World) (h8 : n ≤ 8) :
    Calls Tryd.prog 101 #[.slice A n c, .int .i64 (m : Int)] w fun e w' => e = .returned (.agg #[.int .i64 ((2 ^ n - 1 : Nat) : Int), .int .i64 (m : Int)]) ∧ Below w.heap.size w w' := by
  have HB := Lib.hid (below1 w (.cells #[.int .i64 0, .int .i64 0] 106))
  have r0 := tbox_new w 0 0
  have hn62 : n ≤ 62 := by omega
  obtain ⟨P, hP⟩ : ∃ P, P = 2 ^ n - 1 := ⟨_, rfl⟩
  have HFN : Hid (∀ ww : World, Calls Tryd.prog 159 #[.int .i64 (n : Int)] ww fun e w' => e = .returned (.int .i64 (P : Int)) ∧ ww = w') := Lib.hid fun ww => by rw [hP]; exact firstNumbers_any n hn62 ww
  rw [← hP]
  obtain ⟨w2, hw2⟩ : ∃ w2, w2 = w.alloc (.cells #[.int .i64 0, .int .i64 0] 106) := ⟨_, rfl⟩
  rw [← hw2] at r0 HB
  have g0 := r0.c0
  have g1 := r0.c1
  have h0 := r0.fr 0
  have h1 := r0.fr 1
  clear hP
  go_enter Tryd.func101, Tryd.ntmps101
  go_wp2_with fail
  rw [← hw2]
  clear hw2
  refine (HFN.out _).mono ?_
  rintro e w' ⟨rfl, rfl⟩
  go_wp2_with fail
  refine ret_gen (fun W => TBox W w.heap.size (P : Int) (m : Int) ∧ Below w.heap.size w W) ⟨r0.set _ _, ((HB.out).setCell (p := ⟨w.heap.size, 0, none⟩) (Nat.le_refl _) _).setCell (p := ⟨w.heap.size, 1, none⟩) (Nat.le_refl _) _⟩ ?_
  rintro W ⟨x, bb⟩
  have e0 := x.c0
  have e1 := x.c1
  exact bodyPost_ret (v := .agg #[.int .i64 (P : Int), .int .i64 (m : Int)]) (by simp [results, Tryd.results101, go_sem, e0, e1]) rfl ⟨rfl, bb⟩
end Go.Proofs.YtcojodkcpemfdaaDoor
namespace Go.Proofs.YtcojodkcpemfdaaDoor
open Go Go.RowKit Go.ChangeMaps Go.WideMaps
set_option linter.unusedVariables false
set_option maxRecDepth 100000

theorem mm_laid : laidOutB Tryd.prog = true := by kernel_rfl
theorem mm_row : (106 : TypeId) < Tryd.prog.types.size := of_decide_eq_true (by kernel_rfl)
theorem mm_wide : (match Tryd.prog.underlying 106 with | some (.array _ _) | some (.struct _) => true | _ => false) = true := by rw [Tryd.underlying106]
theorem mm_law : KeyLaw Tryd.prog 106 := deep_law_laid mm_laid (m := 2) (by omega) mm_row (by kernel_rfl) mm_wide
theorem mm_keyed : Maps.Keyed Tryd.prog 106 := Maps.Keyed.of_law mm_law
theorem mm_zero (w : World) : (zeroValue 2).run Tryd.prog w = .ok (.int .i64 0) w := by kernel_rfl
theorem mm_c90 : Tryd.prog.cellsOf 106 = 2 := by kernel_rfl
theorem mm_cs : Tryd.prog.cellsOf 84 = 1 := by kernel_rfl
theorem mm_ci : Tryd.prog.cellsOf 3 = 1 := by kernel_rfl
theorem mm_kt : Tryd.prog.keyType 106 = true := by kernel_rfl
theorem mm_formed (a b : Value) : (Value.agg #[a, b]).formed Tryd.prog 106 = true := by simp [Value.formed, Tryd.underlying106, mm_c90]
theorem mm_wf (x : Nat) (h : x < 9223372036854775808) : (Lit.int .i64 (x : Int)).wf = true := by
  exact WalkArith.wf_i64 (by omega)
def klM (F m : Nat) : Lit := .string (keyBytes [.int .i64 (F : Int), .int .i64 (m : Int)])
theorem mm_key (F m : Nat) (hF : F < 256) (hm : m ≤ 24) : keyOf Tryd.prog 106 (.agg #[.int .i64 (F : Int), .int .i64 (m : Int)]) = some (klM F m) := by
  obtain ⟨d, hd⟩ : ∃ d, Tryd.prog.types.size = d + 1 := ⟨_, (Nat.succ_pred_eq_of_pos (Nat.lt_of_le_of_lt (Nat.zero_le _) mm_row)).symm⟩
  have h1 := mm_wf F (by omega)
  have h2 := mm_wf m (by omega)
  unfold keyOf klM
  rw [Tryd.underlying106]
  simp only [mm_kt, mm_formed, Bool.and_self, if_true]
  rw [hd]
  simp [Program.keyLits, Tryd.underlying106, Tryd.underlying84, Tryd.underlying3, mm_c90, mm_cs, mm_ci, h1, h2, Value.cells]
theorem klM_inj (F m F' m' : Nat) (hF : F < 256) (hm : m ≤ 24) (hF' : F' < 256) (hm' : m' ≤ 24) (h : klM F m = klM F' m') : F = F' ∧ m = m' := by
  have h1 := mm_key F m hF hm
  have h2 := mm_key F' m' hF' hm'
  rw [← h] at h2
  have := mm_law.inj h1 h2
  injection this with this
  simp at this
  omega
theorem klM_key (F m : Nat) : WideAt.IsKeyLit (klM F m) := trivial
/-- How many normal forms of m letters begin with a letter of F. -/
def tN (rs : List Nat) (F m : Nat) : Int := tp (RDep rs) rs.length m fun x => F.testBit x
theorem tN_zero (rs : List Nat) (F : Nat) : tN rs F 0 = 1 := rfl
theorem tN_nonneg (rs : List Nat) (F m : Nat) : 0 ≤ tN rs F m := tp_nonneg _ _ _ _
theorem bits_range (F n : Nat) (h8 : n ≤ 8) (hF : F < 2 ^ n) : bitsOf F = (List.range n).filter fun x => F.testBit x := by
  unfold bitsOf
  rw [upTo_skip F n 24 (by omega) (fun b h1 _ => Nat.testBit_lt_two_pow (Nat.lt_of_lt_of_le hF (Nat.pow_le_pow_right (by decide) h1)))]
  rfl
theorem tN_succ (rs : List Nat) (n F m : Nat) (hl : rs.length = n) (h8 : n ≤ 8) (hr : ∀ i, rs.getD i 0 < 2 ^ n) (hF : F < 2 ^ n) : tN rs F (m + 1) = sumF (fun a => tN rs (bhM rs F a) m) (bitsOf F) := by
  have hp8 : 2 ^ n ≤ 256 := Nat.pow_le_pow_right (by decide) h8
  rw [bits_range F n h8 hF]
  unfold tN
  rw [hl]
  show ((List.range n).filter _).foldl _ 0 = _
  refine foldl_congr' _ _ _ _ fun a ha => ?_
  have han := List.mem_range.1 (List.mem_filter.1 ha).1
  congr 1
  funext x
  have hra := hr a
  have hpa : 2 ^ a - 1 < 9223372036854775808 := by have := p2_lt a (by omega); omega
  unfold bhM
  rw [Nat.testBit_or, dif_bit _ _ _ (by omega) hpa, Nat.testBit_two_pow_sub_one]
  show (F.testBit x && decide (a ≤ x) || RDep rs a x) = (F.testBit x && !decide (x < a) || RDep rs a x)
  congr 2
  by_cases e : a ≤ x
  · rw [decide_eq_true e, decide_eq_false (by omega)]; rfl
  · rw [decide_eq_false e, decide_eq_true (by omega)]; rfl
theorem sumF_mem (f : Nat → Int) (h0 : ∀ a, 0 ≤ f a) : ∀ (l : List Nat), 0 ≤ sumF f l ∧ ∀ a, a ∈ l → f a ≤ sumF f l := by
  intro l
  obtain ⟨k, hk⟩ : ∃ k, k = l.length := ⟨_, rfl⟩
  induction k generalizing l with
  | zero => cases l with
    | nil => exact ⟨by simp [sumF], fun a ha => by cases ha⟩
    | cons _ _ => simp at hk
  | succ k ih =>
    obtain ⟨g, b, rfl⟩ : ∃ g b, l = g ++ [b] := ⟨l.dropLast, l.getLast (by intro e; rw [e] at hk; simp at hk), (List.dropLast_concat_getLast _).symm⟩
    obtain ⟨h1, h2⟩ := ih g (by simp at hk; omega)
    have hb := h0 b
    rw [sumF_snoc]
    refine ⟨by omega, fun a ha => ?_⟩
    rcases List.mem_append.1 ha with ha | ha
    · have := h2 a ha; omega
    · rw [List.mem_singleton.1 ha]; omega
theorem sumF_take (f : Nat → Int) (h0 : ∀ a, 0 ≤ f a) (l : List Nat) (j : Nat) : sumF f (l.take j) ≤ sumF f l := by
  conv => rhs; rw [← List.take_append_drop j l]
  have : ∀ (b a : List Nat), sumF f a ≤ sumF f (a ++ b) := by
    intro b
    induction b with
    | nil => intro a; rw [List.append_nil]; exact Int.le_refl _
    | cons x b ih =>
      intro a
      have h1 := ih (a ++ [x])
      rw [List.append_assoc, List.singleton_append, sumF_snoc] at h1
      have := h0 x
      omega
  exact this _ _
theorem sumF_next (f : Nat → Int) (l : List Nat) (j a : Nat) (h : l[j]? = some a) : sumF f (l.take (j + 1)) = sumF f (l.take j) + f a := by
  rw [List.take_add_one, h]; exact sumF_snoc f _ a
/-- What the table holds. -/
def Kept (W : World) (bm : Nat) (rs : List Nat) : Prop :=
  ∃ (L : List (Nat × Nat)) (D : DataW Unit), W.ownsMap Tryd.prog 106 (plainElem Tryd.prog 2) bm L.length D ∧ L.Nodup ∧ (∀ p, p ∈ L → p.1 < 256 ∧ p.2 ≤ 24) ∧ Maps.IsMap D ∧
    (∀ F m, F < 256 → m ≤ 24 → Maps.has D (klM F m) = decide ((F, m) ∈ L)) ∧ (∀ p, p ∈ L → ∀ z, D.atKey (klM p.1 p.2) z = .lit (.int .i64 (tN rs p.1 p.2)))
theorem kept_len (L : List (Nat × Nat)) (h : L.Nodup) (hb : ∀ p, p ∈ L → p.1 < 256 ∧ p.2 ≤ 24) : L.length ≤ 8192 := by
  have h1 : (L.map fun p => p.1 * 32 + p.2).Nodup := by
    rw [List.Nodup, List.pairwise_map]
    refine List.Pairwise.imp_of_mem ?_ h
    intro a b ha hb' hne e
    have := hb a ha
    have := hb b hb'
    refine hne (Prod.ext ?_ ?_) <;> omega
  have h2 : (L.map fun p => p.1 * 32 + p.2) ⊆ List.range 8192 := by
    intro x hx
    obtain ⟨p, hp, rfl⟩ := List.mem_map.1 hx
    have := hb p hp
    exact List.mem_range.2 (by omega)
  have h3 := h1.length_le_of_subset h2
  rw [List.length_map, List.length_range] at h3
  exact h3
theorem kept_put {W W' : World} {bm F m : Nat} {rs : List Nat} {L : List (Nat × Nat)} {D : DataW Unit} (hF : F < 256) (hm : m ≤ 24) (hn : L.Nodup) (hb : ∀ p, p ∈ L → p.1 < 256 ∧ p.2 ≤ 24) (hD : Maps.IsMap D)
    (hh : ∀ F m, F < 256 → m ≤ 24 → Maps.has D (klM F m) = decide ((F, m) ∈ L)) (ha : ∀ p, p ∈ L → ∀ z, D.atKey (klM p.1 p.2) z = .lit (.int .i64 (tN rs p.1 p.2))) (hno : (F, m) ∉ L)
    (hown : W'.ownsMap Tryd.prog 106 (plainElem Tryd.prog 2) bm (L.length + 1) (D.put (klM F m) (.lit (.int .i64 (tN rs F m))))) : Kept W' bm rs := by
  refine ⟨(F, m) :: L, _, hown, List.nodup_cons.2 ⟨hno, hn⟩, fun p hp => ?_, hD.put _ _, fun F' m' hF' hm' => ?_, fun p hp z => ?_⟩
  · rcases List.mem_cons.1 hp with rfl | hp
    · exact ⟨hF, hm⟩
    · exact hb p hp
  · by_cases e : F' = F ∧ m' = m
    · obtain ⟨rfl, rfl⟩ := e
      rw [Maps.has_put_same hD (klM_key _ _)]
      simp
    · rw [Maps.has_put_other (fun h9 => e (klM_inj _ _ _ _ hF' hm' hF hm h9)), hh F' m' hF' hm']
      rw [decide_eq_decide, List.mem_cons]
      constructor
      · exact .inr
      · rintro (h9 | h9)
        · injection h9 with h1 h2; exact absurd ⟨h1, h2⟩ e
        · exact h9
  · rcases List.mem_cons.1 hp with rfl | hp
    · exact Maps.atKey_put_same hD (klM_key _ _) _ z
    · have hpb := hb p hp
      rw [Maps.atKey_put_other (fun h9 => by
        obtain ⟨h1, h2⟩ := klM_inj _ _ _ _ hpb.1 hpb.2 hF hm h9
        exact hno (by rw [← h1, ← h2]; exact hp))]
      exact ha p hp z
end Go.Proofs.YtcojodkcpemfdaaDoor
namespace Go.Proofs.YtcojodkcpemfdaaDoor
open Go Go.RowKit Go.ChangeMaps Go.WideMaps
set_option linter.unusedVariables false
set_option maxRecDepth 100000

theorem owns_tight {W : World} {P : Program} {k : TypeId} {R : Value → Option (DataW Unit × List MemPlace)} {b n n' : Nat} {D : DataW Unit} (h : W.ownsMap P k R b n D) (hs : Maps.size D ≤ n') : W.ownsMap P k R b n' D := by
  obtain ⟨es, cl, hb, F, hn, rfl⟩ := h
  rw [Maps.size_eq, length_read] at hs
  exact ⟨es, cl, hb, F, hs, rfl⟩
theorem kept_again {W W' : World} {bm F m : Nat} {rs : List Nat} {L : List (Nat × Nat)} {D : DataW Unit} (hF : F < 256) (hm : m ≤ 24) (hn : L.Nodup) (hb : ∀ p, p ∈ L → p.1 < 256 ∧ p.2 ≤ 24) (hD : Maps.IsMap D)
    (hh : ∀ F m, F < 256 → m ≤ 24 → Maps.has D (klM F m) = decide ((F, m) ∈ L)) (ha : ∀ p, p ∈ L → ∀ z, D.atKey (klM p.1 p.2) z = .lit (.int .i64 (tN rs p.1 p.2)))
    (h0 : W.ownsMap Tryd.prog 106 (plainElem Tryd.prog 2) bm L.length D)
    (hown : W'.ownsMap Tryd.prog 106 (plainElem Tryd.prog 2) bm (L.length + 1) (D.put (klM F m) (.lit (.int .i64 (tN rs F m))))) : Kept W' bm rs := by
  by_cases hno : (F, m) ∈ L
  · have hhas := hh F m hF hm
    rw [decide_eq_true hno] at hhas
    have hsz := Maps.size_put (h0.tidy mm_keyed) (k := klM F m) (.lit (.int .i64 (tN rs F m)))
    rw [hhas] at hsz
    have hle := h0.size_le
    refine ⟨L, _, owns_tight hown (by rw [hsz]; exact hle), hn, hb, hD.put _ _, fun F' m' hF' hm' => ?_, fun p hp z => ?_⟩
    · by_cases e : F' = F ∧ m' = m
      · obtain ⟨rfl, rfl⟩ := e
        rw [Maps.has_put_same hD (klM_key _ _), decide_eq_true hno]
      · rw [Maps.has_put_other (fun h9 => e (klM_inj _ _ _ _ hF' hm' hF hm h9)), hh F' m' hF' hm']
    · have hpb := hb p hp
      by_cases e : p.1 = F ∧ p.2 = m
      · rw [e.1, e.2]; exact Maps.atKey_put_same hD (klM_key _ _) _ z
      · rw [Maps.atKey_put_other (fun h9 => e (klM_inj _ _ _ _ hpb.1 hpb.2 hF hm h9))]
        exact ha p hp z
  · exact kept_put (W := W) hF hm hn hb hD hh ha hno hown
/-- A block of one cell. -/
def One (W : World) (g : Nat) (v : Value) (T : TypeId) : Prop := W.heap[g]? = some (.cells #[v] T (0, 0))
theorem One.lt {W : World} {g : Nat} {v : Value} {T : TypeId} (h : One W g v T) : g < W.heap.size := by
  rcases Nat.lt_or_ge g W.heap.size with h' | h'
  · exact h'
  · unfold One at h; rw [Array.getElem?_eq_none h'] at h; cases h
theorem One.c {W : World} {g : Nat} {v : Value} {T : TypeId} (h : One W g v T) : W.cell? ⟨g, 0, none⟩ = some v := by
  unfold One at h; simp [World.cell?, h]
theorem One.apart {W W' : World} {g : Nat} {v : Value} {T : TypeId} {row : Option Nat} (h : One W g v T) (hg : W.grownBy W' row) (hne : row ≠ some g) : One W' g v T := by
  unfold One; rw [hg.block g h.lt (fun e => hne e.symm)]; exact h
theorem Kept.map {W : World} {bm : Nat} {rs : List Nat} (h : Kept W bm rs) : ∃ es cl, W.heap[bm]? = some (.map es cl) := by
  obtain ⟨L, D, ⟨es, cl, hb, _⟩, _⟩ := h
  exact ⟨es, cl, hb⟩
theorem Kept.lt {W : World} {bm : Nat} {rs : List Nat} (h : Kept W bm rs) : bm < W.heap.size := by
  obtain ⟨L, D, ho, _⟩ := h
  exact ho.lt
theorem Kept.ne_one {W : World} {bm g : Nat} {rs : List Nat} {v : Value} {T : TypeId} (h : Kept W bm rs) (h1 : One W g v T) : (some bm : Option Nat) ≠ some g := by
  intro e
  injection e with e
  subst e
  obtain ⟨es, cl, hb⟩ := h.map
  unfold One at h1
  rw [h1] at hb; cases hb
theorem Kept.ne_tbox {W : World} {bm g : Nat} {rs : List Nat} {F m : Int} (h : Kept W bm rs) (h1 : TBox W g F m) : (some bm : Option Nat) ≠ some g := by
  intro e
  injection e with e
  subst e
  obtain ⟨es, cl, hb⟩ := h.map
  unfold TBox at h1
  rw [h1] at hb; cases hb
theorem Kept.next {W W' : World} {bm : Nat} {rs : List Nat} (h : Kept W bm rs) (hb : Below W.heap.size W W') : Kept W' bm rs := by
  obtain ⟨L, D, ho, rest⟩ := h
  exact ⟨L, D, ho.kept (grownBy_of_below hb) (by simp), rest⟩
theorem grown_row {W W' : World} (hb : Below W.heap.size W W') (row : Option Nat) : W.grownBy W' row := ⟨hb.os, hb.tape, hb.output, hb.size, fun k hk _ => hb.block k hk⟩
/-- The state of the function that keeps what it has found. -/
def Memo (w0 W : World) (gk gf go gr bm : Nat) (A : Option Addr) (n c : Nat) (rs : List Nat) : Prop :=
  Below w0.heap.size w0 W ∧ w0.heap.size ≤ bm ∧ One W gk (.map (some bm)) 198 ∧
  One W gf (.func (.func 161) #[] #[.pointer (some ⟨gr, 0, none⟩)]) 165 ∧
  One W go (.func (.func 199) #[] #[.pointer (some ⟨gk, 0, none⟩), .pointer (some ⟨gf, 0, none⟩), .pointer (some ⟨go, 0, none⟩)]) 108 ∧
  One W gr (.slice A n c) 73 ∧ Kept W bm rs
theorem Memo.next {w0 W W' : World} {gk gf go gr bm n c : Nat} {A : Option Addr} {rs : List Nat} (h : Memo w0 W gk gf go gr bm A n c rs) (hb : Below W.heap.size W W') : Memo w0 W' gk gf go gr bm A n c rs := by
  obtain ⟨h1, h2, h3, h4, h5, h6, h7⟩ := h
  have hg := grownBy_of_below hb
  exact ⟨h1.trans (hb.mono h1.size), h2, h3.apart hg (by simp), h4.apart hg (by simp), h5.apart hg (by simp), h6.apart hg (by simp), h7.next hb⟩
/-- The table has been written. -/
theorem Memo.put {w0 W W' : World} {gk gf go gr bm n c : Nat} {A : Option Addr} {rs : List Nat} (h : Memo w0 W gk gf go gr bm A n c rs) (hg : W.grownBy W' (some bm)) (hk : Kept W' bm rs) : Memo w0 W' gk gf go gr bm A n c rs := by
  obtain ⟨h1, h2, h3, h4, h5, h6, h7⟩ := h
  exact ⟨h1.grown hg h1.size (fun k hk => by injection hk with hk; omega), h2, h3.apart hg (h7.ne_one h3), h4.apart hg (h7.ne_one h4), h5.apart hg (h7.ne_one h5), h6.apart hg (h7.ne_one h6), hk⟩
def CntPost (w0 W : World) (gk gf go gr bm : Nat) (A : Option Addr) (n c : Nat) (rs : List Nat) (V : Int) (e : Ending) (W' : World) : Prop :=
  e = .returned (.int .i64 V) ∧ Memo w0 W' gk gf go gr bm A n c rs ∧ W.grownBy W' (some bm)
theorem find_zero (w0 W : World) (gk gf go gr bm : Nat) (A : Option Addr) (n c : Nat) (rs : List Nat) (F : Nat) (v : Value) (hM : Memo w0 W gk gf go gr bm A n c rs) :
    Calls Tryd.prog 161 #[.agg #[.int .i64 (F : Int), .int .i64 ((0 : Nat) : Int)], v, .pointer (some ⟨gr, 0, none⟩)] W (CntPost w0 W gk gf go gr bm A n c rs (tN rs F 0)) := by
  have hb := below1 W (.cells #[.int .i64 (F : Int), .int .i64 ((0 : Nat) : Int)] 106)
  have t0 := tbox_new W (F : Int) ((0 : Nat) : Int)
  have c0 := t0.c0
  have c1 := t0.c1
  go_enter Tryd.func161, Tryd.ntmps161
  go_wp2_with fail
  go_ret
  exact ⟨rfl, hM.next hb, grown_row hb _⟩
set_option maxHeartbeats 3200000 in
theorem find_succ (w0 : World) (gk gf go gr bm : Nat) (A : Option Addr) (n c : Nat) (rs : List Nat) (m : Nat) (h0 : Rd w0 A n (ints rs)) (h8 : n ≤ 8) (hr : ∀ i, rs.getD i 0 < 2 ^ n) (hT : Tab w0) (hm : m + 1 ≤ 24)
    (IH : ∀ (F : Nat) (W : World), F < 2 ^ n → tN rs F m ≤ cntC → Memo w0 W gk gf go gr bm A n c rs → Calls Tryd.prog 199 #[.agg #[.int .i64 (F : Int), .int .i64 (m : Int)], .pointer (some ⟨gk, 0, none⟩), .pointer (some ⟨gf, 0, none⟩), .pointer (some ⟨go, 0, none⟩)] W (CntPost w0 W gk gf go gr bm A n c rs (tN rs F m)))
    (F : Nat) (W : World) (hF : F < 2 ^ n) (hS : tN rs F (m + 1) ≤ cntC) (hM : Memo w0 W gk gf go gr bm A n c rs) :
    Calls Tryd.prog 161 #[.agg #[.int .i64 (F : Int), .int .i64 ((m + 1 : Nat) : Int)], .func (.func 199) #[] #[.pointer (some ⟨gk, 0, none⟩), .pointer (some ⟨gf, 0, none⟩), .pointer (some ⟨go, 0, none⟩)], .pointer (some ⟨gr, 0, none⟩)] W (CntPost w0 W gk gf go gr bm A n c rs (tN rs F (m + 1))) := by
  have hl : rs.length = n := by have := h0.1; rw [ints_len] at this; exact this
  have hp8 : 2 ^ n ≤ 256 := Nat.pow_le_pow_right (by decide) h8
  have eg : ∀ args w, (callFunc 199 args).run Tryd.prog w = .ok (.enter 199 args) w := fun args w => Go.MuLone.run_callFunc_enter (P := Tryd.prog) Tryd.func199 (by kernel_rfl) rfl args w
  have HSUM := Lib.hid (tN_succ rs n F m hl h8 hr hF)
  have HIH := Lib.hid IH
  have hbl : ∀ a, a ∈ bitsOf F → a < n := fun a ha => by
    rw [bits_range F n h8 hF] at ha
    exact List.mem_range.1 (List.mem_filter.1 ha).1
  have HBL := Lib.hid hbl
  have hll := bitsOf_len F
  have HMEM : Hid (∀ ww, Tab ww → Calls Tryd.prog 157 #[.int .i64 (F : Int)] ww (MakesE 2 ww (bitsOf F).length (ints (bitsOf F)))) := Lib.hid fun ww ht => members_any F (by omega) ww ht
  have HBH : Hid (∀ a, a < n → bhM rs F a < 2 ^ n) := Lib.hid fun a ha => bhM_lt rs n F a hF (hr a)
  have hnn : ∀ a, 0 ≤ tN rs (bhM rs F a) m := fun a => tN_nonneg rs _ m
  have HNN := Lib.hid hnn
  have HSM := Lib.hid (sumF_mem (fun a => tN rs (bhM rs F a) m) hnn)
  have HSK := Lib.hid (sumF_take (fun a => tN rs (bhM rs F a) m) hnn)
  have HSN := Lib.hid (sumF_next (fun a => tN rs (bhM rs F a) m))
  rw [HSUM.out] at hS ⊢
  have HBEH : Hid (∀ (a : Nat) (ww : World), a < n → Below w0.heap.size w0 ww → Calls Tryd.prog 158 #[.slice A n c, .agg #[.int .i64 (F : Int), .int .i64 ((m + 1 : Nat) : Int)], .int .i64 (a : Int)] ww fun e w' => e = .returned (.agg #[.int .i64 ((bhM rs F a : Nat) : Int), .int .i64 (m : Int)]) ∧ Below ww.heap.size ww w') := Lib.hid fun a ww ha hw => behind_any A n c F a m rs ww (h0.below hw) h8 hr hF ha (by omega)
  obtain ⟨f, hf⟩ : ∃ f : Nat → Int, f = fun a => tN rs (bhM rs F a) m := ⟨_, rfl⟩
  rw [← hf] at HSM HSK HSN hS ⊢
  have HFA : Hid (∀ a, f a = tN rs (bhM rs F a) m) := Lib.hid fun a => by rw [hf]
  obtain ⟨ls, hls⟩ : ∃ ls, ls = bitsOf F := ⟨_, rfl⟩
  rw [← hls] at HMEM HBL hll hS ⊢
  obtain ⟨K, hK⟩ : ∃ K, K = ls.length := ⟨_, rfl⟩
  rw [← hK] at HMEM hll
  have HKL := Lib.hid hK
  have hb := below1 W (.cells #[.int .i64 (F : Int), .int .i64 ((m + 1 : Nat) : Int)] 106)
  have t0 := tbox_new W (F : Int) ((m + 1 : Nat) : Int)
  obtain ⟨M1, hM1⟩ : ∃ M1 : Nat, M1 = m + 1 := ⟨_, rfl⟩
  rw [← hM1] at t0 hb HBEH hm ⊢
  have hM1p : 0 < M1 := by omega
  have hT1 : Tab (W.alloc (.cells #[.int .i64 (F : Int), .int .i64 (M1 : Int)] 106)) := hT.below (hM.1.trans (hb.mono hM.1.size))
  have hMa := hM.next hb
  have hbm := hM.2.2.2.2.2.2.lt
  have HSB := Lib.hid hS
  obtain ⟨W1, hW1⟩ : ∃ W1, W1 = W.alloc (.cells #[.int .i64 (F : Int), .int .i64 (M1 : Int)] 106) := ⟨_, rfl⟩
  rw [← hW1] at t0 hb hT1 hMa
  have c0 := t0.c0
  have c1 := t0.c1
  have HM1 := Lib.hid hMa
  have hne : ((M1 : Int) == 0) = false := by rw [beq_eq_false_iff_ne]; omega
  clear hl hf hls hK hM1 hnn hbl hr IH h0 hS hM hMa hT
  go_enter Tryd.func161, Tryd.ntmps161
  go_wp2_with fail
  rw [← hW1]
  clear hW1
  refine (HMEM.out _ hT1).mono ?_
  rintro e W2 ⟨A2, c2, rfl, ho, hb2⟩
  have t2 := t0.next hb2
  have hM2 := HM1.out.next hb2
  have HM2 := Lib.hid hM2
  have hbW : Below W.heap.size W W2 := hb.trans (hb2.mono hb.size)
  clear t0 c0 c1 HM1
  have hbmB : bm < W1.heap.size := Nat.lt_of_lt_of_le hbm hb.size
  clear hM2
  go_wp2_with fail
  go_loopw [6, 16] (fun v i wr => ∃ (j : Nat), j ≤ K ∧ i = .int .i64 j ∧ v = .int .i64 (sumF f (ls.take j)) ∧ Memo w0 wr gk gf go gr bm A n c rs ∧ W2.grownBy wr (some bm)) (fun _ i _ => K - (intOf i).toNat)
  case atStart => exact ⟨0, Nat.zero_le _, rfl, rfl, HM2.out, World.grownBy.refl _ _⟩
  case round =>
    obtain ⟨j, hj, rfl, rfl, hM3, hg3⟩ := hrel
    by_cases hlt : j < K
    · have ho3 := ho.apart hg3 (fun k hk e => by injection e with e; have := (ho.lt k hk).1; omega)
      obtain ⟨b, off, x, rfl, hbs, hx, hcx⟩ := ho3.rd.at_ hlt
      obtain ⟨a, ha, rfl⟩ := nats_at ls j x (by rw [← HKL.out]; exact hlt) hx
      have han := HBL.out a (List.mem_of_getElem? ha)
      have hfm := (HSM.out ls).2 a (List.mem_of_getElem? ha)
      have HNX := Lib.hid (HSN.out ls j a ha)
      have HSJ := Lib.hid (HSK.out ls (j + 1))
      have hs0 := (HSM.out (ls.take j)).1
      have t3 := t2.apart hg3 (HM2.out.2.2.2.2.2.2.ne_tbox t2)
      have c0 := t3.c0
      have c1 := t3.c1
      have cr := hM3.2.2.2.2.2.1.c
      have HB3 := Lib.hid (HBEH.out a wr han hM3.1)
      have hSB := HSB.out
      have HI3 : Hid (∀ ww, Memo w0 ww gk gf go gr bm A n c rs → Calls Tryd.prog 199 #[.agg #[.int .i64 ((bhM rs F a : Nat) : Int), .int .i64 (m : Int)], .pointer (some ⟨gk, 0, none⟩), .pointer (some ⟨gf, 0, none⟩), .pointer (some ⟨go, 0, none⟩)] ww (CntPost w0 ww gk gf go gr bm A n c rs (tN rs (bhM rs F a) m))) := Lib.hid fun ww h9 => HIH.out (bhM rs F a) ww (HBH.out a han) (by omega) h9
      have hv0 := HNN.out a
      have hsj := HSJ.out
      rw [HNX.out] at hsj
      obtain ⟨V, hV⟩ : ∃ V, V = tN rs (bhM rs F a) m := ⟨_, rfl⟩
      rw [← hV] at HI3 HNX hfm hv0 hsj
      obtain ⟨Q, hQ⟩ : ∃ Q, Q = bhM rs F a := ⟨_, rfl⟩
      rw [← hQ] at HB3 HI3
      obtain ⟨S, hS⟩ : ∃ S, S = sumF f (ls.take j) := ⟨_, rfl⟩
      rw [← hS] at HNX hs0 hsj ⊢
      obtain ⟨Z, hZ⟩ : ∃ Z, Z = sumF f ls := ⟨_, rfl⟩
      rw [← hZ] at hfm hsj hSB
      have HM3 := Lib.hid hM3
      have HG3 := Lib.hid hg3
      have hsum : IntKind.i64.wrap (S + V) = S + V := by unfold cntC at hSB; rw [IntKind.wrap_i64]; omega
      have hsmall : -9223372036854775808 ≤ S + V ∧ S + V ≤ 9223372036854775807 := by unfold cntC at hSB; omega
      clear hx ha hV hQ hS hZ hM3 hg3 hfm hsj hSB t3 ho3 hs0 hv0
      go_wp2_with fail
      refine HB3.out.mono ?_
      rintro e W4 ⟨rfl, hb4⟩
      have HM4 := Lib.hid (HM3.out.next hb4)
      have HI4 := Lib.hid (HI3.out W4 HM4.out)
      have HG4 := Lib.hid (HG3.out.trans (grown_row hb4 (some bm)))
      clear hb4
      go_wp2_with fail
      refine HI4.out.mono ?_
      rintro e W5 ⟨rfl, hM5, hg5⟩
      have HG5 := Lib.hid (HG4.out.trans hg5)
      have HM5 := Lib.hid hM5
      clear hM5 hg5
      go_wp2_with fail
      go_roundw
      case rel => exact ⟨j + 1, by omega, by go_num, by rw [HNX.out], HM5.out, HG5.out⟩
      case measure => simp [intOf]; omega
    · obtain rfl : j = K := by omega
      have e9 : ls.take j = ls := by rw [HKL.out]; exact List.take_length
      rw [e9]
      clear e9
      have hgg := (grown_row hbW (some bm)).trans hg3
      go_wp2_with fail
      go_ret
      exact ⟨rfl, hM3, hgg⟩
set_option maxHeartbeats 3200000 in
/-- What is kept is looked up; else it is found and kept. -/
theorem keep_step (w0 : World) (gk gf go gr bm : Nat) (A : Option Addr) (n c : Nat) (rs : List Nat) (F m : Nat) (h8 : n ≤ 8) (hF : F < 2 ^ n) (hm : m ≤ 24) (hS : tN rs F m ≤ cntC)
    (find : ∀ W : World, Memo w0 W gk gf go gr bm A n c rs → Calls Tryd.prog 161 #[.agg #[.int .i64 (F : Int), .int .i64 (m : Int)], .func (.func 199) #[] #[.pointer (some ⟨gk, 0, none⟩), .pointer (some ⟨gf, 0, none⟩), .pointer (some ⟨go, 0, none⟩)], .pointer (some ⟨gr, 0, none⟩)] W (CntPost w0 W gk gf go gr bm A n c rs (tN rs F m)))
    (W : World) (hM : Memo w0 W gk gf go gr bm A n c rs) :
    Calls Tryd.prog 199 #[.agg #[.int .i64 (F : Int), .int .i64 (m : Int)], .pointer (some ⟨gk, 0, none⟩), .pointer (some ⟨gf, 0, none⟩), .pointer (some ⟨go, 0, none⟩)] W (CntPost w0 W gk gf go gr bm A n c rs (tN rs F m)) := by
  have hp8 : 2 ^ n ≤ 256 := Nat.pow_le_pow_right (by decide) h8
  have eg : ∀ args w, (callFunc 161 args).run Tryd.prog w = .ok (.enter 161 args) w := fun args w => Go.MuLone.run_callFunc_enter (P := Tryd.prog) Tryd.func161 (by kernel_rfl) rfl args w
  have HF := Lib.hid find
  have hF2 : F < 256 := by omega
  have HKEY := Lib.hid (mm_key F m hF2 hm)
  have hb := below1 W (.cells #[.int .i64 (F : Int), .int .i64 (m : Int)] 106)
  have t0 := tbox_new W (F : Int) (m : Int)
  have hM1 := hM.next hb
  have hv0 := tN_nonneg rs F m
  obtain ⟨W1, hW1⟩ : ∃ W1, W1 = W.alloc (.cells #[.int .i64 (F : Int), .int .i64 (m : Int)] 106) := ⟨_, rfl⟩
  rw [← hW1] at t0 hb hM1
  have c0 := t0.c0
  have c1 := t0.c1
  have HM1 := Lib.hid hM1
  have ck := hM1.2.2.1.c
  have cf := hM1.2.2.2.1.c
  have co := hM1.2.2.2.2.1.c
  have hK := hM1.2.2.2.2.2.2
  obtain ⟨L, D, hown, hnd, hbd, hD, hhas, hat⟩ := hK
  have HWF : Hid ((Lit.int .i64 (tN rs F m)).wf = true) := Lib.hid (WalkArith.wf_i64 (by unfold cntC at hS; omega))
  obtain ⟨V, hV⟩ : ∃ V, V = tN rs F m := ⟨_, rfl⟩
  have HV := Lib.hid hV
  by_cases hin : (F, m) ∈ L
  · have h1 := hhas F m hF2 hm
    rw [decide_eq_true hin] at h1
    have HAT := Lib.hid (hat (F, m) hin)
    have HHAS := Lib.hid h1
    have HOWN := Lib.hid hown
    rw [← hV] at HAT ⊢
    rw [hW1] at ck cf co c0 c1 HOWN
    have HM2 := Lib.hid (show Memo w0 (W.alloc (.cells #[.int .i64 (F : Int), .int .i64 (m : Int)] 106)) gk gf go gr bm A n c rs by rw [← hW1]; exact HM1.out)
    have HB2 := Lib.hid (below1 W (.cells #[.int .i64 (F : Int), .int .i64 (m : Int)] 106))
    clear hV hS hv0 hnd hbd hD hhas hat hin h1 hown hM hM1 find t0 hW1 hb HM1
    go_enter Tryd.func199, Tryd.ntmps199
    go_wp2_with (at_lookup; refine wpList_lookup_own_ok_int _ rfl _ _ 198 rfl 106 2 .i64 mm_keyed Tryd.underlying198 Tryd.underlying2 (mm_zero _) bm L.length D rfl HOWN.out _ (klM F m) rfl HKEY.out ?_; intro cc hcc hwc; rw [HHAS.out])
    have hcv : cc = V := by
      have h9 := HAT.out (.lit (.int .i64 0))
      rw [hcc] at h9
      injection h9 with h9
      injection h9
    go_ret
    rw [hcv]
    exact ⟨rfl, HM2.out, grown_row HB2.out _⟩
  · have h1 := hhas F m hF2 hm
    rw [decide_eq_false hin] at h1
    have HHAS := Lib.hid h1
    have HOWN := Lib.hid hown
    rw [hW1] at ck cf co c0 c1 HOWN
    have HM2 := Lib.hid (show Memo w0 (W.alloc (.cells #[.int .i64 (F : Int), .int .i64 (m : Int)] 106)) gk gf go gr bm A n c rs by rw [← hW1]; exact HM1.out)
    have HB2 := Lib.hid (below1 W (.cells #[.int .i64 (F : Int), .int .i64 (m : Int)] 106))
    have HF2 := Lib.hid (HF.out _ HM2.out)
    have HT0 := Lib.hid t0
    rw [hW1] at HT0
    rw [← hV] at HF2 HWF ⊢
    clear hV hS hv0 hnd hbd hD hhas hat hin h1 hown hM hM1 find t0 hW1 hb HM1 HF
    go_enter Tryd.func199, Tryd.ntmps199
    go_wp2_with (at_lookup; refine wpList_lookup_own_ok_int _ rfl _ _ 198 rfl 106 2 .i64 mm_keyed Tryd.underlying198 Tryd.underlying2 (mm_zero _) bm L.length D rfl HOWN.out _ (klM F m) rfl HKEY.out ?_; intro cc hcc hwc; rw [HHAS.out])
    clear hcc hwc
    refine HF2.out.mono ?_
    rintro e W3 ⟨rfl, hM3, hg3⟩
    have t3 := HT0.out.apart hg3 (HM2.out.2.2.2.2.2.2.ne_tbox HT0.out)
    have d0 := t3.c0
    have d1 := t3.c1
    have dk := hM3.2.2.1.c
    have hK3 := hM3.2.2.2.2.2.2
    obtain ⟨L3, D3, hown3, hnd3, hbd3, hD3, hhas3, hat3⟩ := hK3
    have hlen3 := kept_len L3 hnd3 hbd3
    have HOWN3 := Lib.hid hown3
    have HKP : Hid (∀ W4 : World, W4.ownsMap Tryd.prog 106 (plainElem Tryd.prog 2) bm (L3.length + 1) (D3.put (klM F m) (.lit (.int .i64 V))) → W3.grownBy W4 (some bm) → Memo w0 W4 gk gf go gr bm A n c rs) := Lib.hid fun W4 h4 hg4 => hM3.put hg4 (kept_again hF2 hm hnd3 hbd3 hD3 hhas3 hat3 hown3 (by rw [← HV.out]; exact h4))
    have HG3 := Lib.hid ((grown_row HB2.out (some bm)).trans hg3)
    have hml3 : L3.length < maxLen := by unfold maxLen; omega
    clear hM3 hg3 t3 hown3 hnd3 hbd3 hD3 hhas3 hat3 hlen3
    go_wp2_with (at_mapUpdate; refine wpList_mapUpdate_own _ rfl _ _ _ 198 rfl 106 2 mm_keyed Tryd.underlying198 _ bm L3.length D3 rfl HOWN3.out hml3 _ _ (klM F m) rfl rfl HKEY.out (.lit (.int .i64 V)) [] (plainElem_int Tryd.underlying2 HWF.out) ?_; intro W4 hown4 hg4)
    have HM4 := Lib.hid (HKP.out W4 hown4 hg4)
    have HG4 := Lib.hid (HG3.out.trans hg4)
    clear hown4 hg4
    go_wp2_with fail
    go_ret
    exact ⟨rfl, HM4.out, HG4.out⟩
/-- The function that counts: whatever it has kept so far. -/
theorem count_any (w0 : World) (gk gf go gr bm : Nat) (A : Option Addr) (n c : Nat) (rs : List Nat) (h0 : Rd w0 A n (ints rs)) (h8 : n ≤ 8) (hr : ∀ i, rs.getD i 0 < 2 ^ n) (hT : Tab w0) :
    ∀ (m : Nat), m ≤ 24 → ∀ (F : Nat) (W : World), F < 2 ^ n → tN rs F m ≤ cntC → Memo w0 W gk gf go gr bm A n c rs → Calls Tryd.prog 199 #[.agg #[.int .i64 (F : Int), .int .i64 (m : Int)], .pointer (some ⟨gk, 0, none⟩), .pointer (some ⟨gf, 0, none⟩), .pointer (some ⟨go, 0, none⟩)] W (CntPost w0 W gk gf go gr bm A n c rs (tN rs F m)) := by
  intro m
  induction m with
  | zero => exact fun hm F W hF hS hM => keep_step w0 gk gf go gr bm A n c rs F 0 h8 hF hm hS (fun W' hM' => find_zero w0 W' gk gf go gr bm A n c rs F _ hM') W hM
  | succ m ih => exact fun hm F W hF hS hM => keep_step w0 gk gf go gr bm A n c rs F (m + 1) h8 hF hm hS (fun W' hM' => find_succ w0 gk gf go gr bm A n c rs m h0 h8 hr hT hm (fun F' W'' h1 h2 h3 => ih (by omega) F' W'' h1 h2 h3) F W' hF hS hM') W hM
theorem one_new (w : World) (v : Value) (T : TypeId) : One (w.alloc (.cells #[v] T)) w.heap.size v T := by
  unfold One; exact heap_alloc_new w _
theorem One.next {W W' : World} {g : Nat} {v : Value} {T : TypeId} (h : One W g v T) (hb : Below W.heap.size W W') : One W' g v T := h.apart (grownBy_of_below hb) (by simp)
theorem One.put {W : World} {g : Nat} {v : Value} {T : TypeId} (h : One W g v T) (u : Value) : One (W.setCell ⟨g, 0, none⟩ u) g u T := by
  unfold One at h ⊢; rw [heap_put h]; rfl
theorem One.other {W : World} {g : Nat} {v : Value} {T : TypeId} (h : One W g v T) (b k : Nat) (u : Value) (hne : b ≠ g) : One (W.setCell ⟨b, k, none⟩ u) g v T := by
  unfold One; rw [Below.heap_setCell W _ u g (fun e => hne e.symm)]; exact h
set_option maxHeartbeats 1600000 in
theorem keeping_any (gr : Nat) (w : World) :
    Calls Tryd.prog 160 #[.func (.func 161) #[] #[.pointer (some ⟨gr, 0, none⟩)]] w fun e w' => ∃ gk gf go bm, e = .returned (.func (.func 199) #[] #[.pointer (some ⟨gk, 0, none⟩), .pointer (some ⟨gf, 0, none⟩), .pointer (some ⟨go, 0, none⟩)]) ∧
      One w' gk (.map (some bm)) 198 ∧ One w' gf (.func (.func 161) #[] #[.pointer (some ⟨gr, 0, none⟩)]) 165 ∧
      One w' go (.func (.func 199) #[] #[.pointer (some ⟨gk, 0, none⟩), .pointer (some ⟨gf, 0, none⟩), .pointer (some ⟨go, 0, none⟩)]) 108 ∧
      w'.heap[bm]? = some (.map #[] 0) ∧ w.heap.size ≤ bm ∧ Below w.heap.size w w' := by
  have hmk := fun (W : World) => run_makeMap (P := Tryd.prog) 198 W
  obtain ⟨o1, ho1⟩ : ∃ o1 : Obj, o1 = .cells #[.func (.func 161) #[] #[.pointer (some ⟨gr, 0, none⟩)]] 165 := ⟨_, rfl⟩
  have a1 := one_new w (.func (.func 161) #[] #[.pointer (some ⟨gr, 0, none⟩)]) 165
  obtain ⟨w1, hw1⟩ : ∃ w1, w1 = w.alloc (.cells #[.func (.func 161) #[] #[.pointer (some ⟨gr, 0, none⟩)]] 165) := ⟨_, rfl⟩
  have hb1 := below1 w (.cells #[.func (.func 161) #[] #[.pointer (some ⟨gr, 0, none⟩)]] 165)
  have hs1 : w1.heap.size = w.heap.size + 1 := by rw [hw1]; simp
  rw [← hw1] at a1 hb1
  have hb2 := below1 w1 (.map #[] 0)
  have m2 : (w1.alloc (.map #[] 0)).heap[w1.heap.size]? = some (.map #[] 0) := heap_alloc_new w1 _
  have a2 := a1.next hb2
  obtain ⟨w2, hw2⟩ : ∃ w2, w2 = w1.alloc (.map #[] 0) := ⟨_, rfl⟩
  have hs2 : w2.heap.size = w.heap.size + 1 + 1 := by rw [hw2]; simp [hs1]
  rw [← hw2] at a2 m2 hb2
  rw [hs1] at m2
  have k3 := one_new w2 (.map (some (w.heap.size + 1))) 198
  have hb3 := below1 w2 (.cells #[.map (some (w.heap.size + 1))] 198)
  have a3 := a2.next hb3
  have m3 := (hb3.block (w.heap.size + 1) (by omega)).trans m2
  obtain ⟨w3, hw3⟩ : ∃ w3, w3 = w2.alloc (.cells #[.map (some (w.heap.size + 1))] 198) := ⟨_, rfl⟩
  have hs3 : w3.heap.size = w.heap.size + 1 + 1 + 1 := by rw [hw3]; simp [hs2]
  rw [← hw3] at a3 m3 k3 hb3
  rw [hs2] at k3
  have n4 := one_new w3 .nilFunc 108
  have hb4 := below1 w3 (.cells #[.nilFunc] 108)
  have a4 := a3.next hb4
  have k4 := k3.next hb4
  have m4 := (hb4.block (w.heap.size + 1) (by omega)).trans m3
  have hbt := ((hb1.trans (hb2.mono hb1.size)).trans (hb3.mono (by omega))).trans (hb4.mono (by omega))
  obtain ⟨w4, hw4⟩ : ∃ w4, w4 = w3.alloc (.cells #[.nilFunc] 108) := ⟨_, rfl⟩
  rw [← hw4] at a4 m4 k4 n4 hb4 hbt
  rw [hs3] at n4
  have hc4 := n4.c
  have hf4 : w4.frozen? ⟨w.heap.size + 1 + 1 + 1, 0, none⟩ = false := by unfold One at n4; simp [World.frozen?, n4]
  have n5 := n4.put (.func (.func 199) #[] #[.pointer (some ⟨w.heap.size + 1 + 1, 0, none⟩), .pointer (some ⟨w.heap.size, 0, none⟩), .pointer (some ⟨w.heap.size + 1 + 1 + 1, 0, none⟩)])
  have a5 := a4.other (w.heap.size + 1 + 1 + 1) 0 (.func (.func 199) #[] #[.pointer (some ⟨w.heap.size + 1 + 1, 0, none⟩), .pointer (some ⟨w.heap.size, 0, none⟩), .pointer (some ⟨w.heap.size + 1 + 1 + 1, 0, none⟩)]) (by omega)
  have k5 := k4.other (w.heap.size + 1 + 1 + 1) 0 (.func (.func 199) #[] #[.pointer (some ⟨w.heap.size + 1 + 1, 0, none⟩), .pointer (some ⟨w.heap.size, 0, none⟩), .pointer (some ⟨w.heap.size + 1 + 1 + 1, 0, none⟩)]) (by omega)
  have m5 := (Below.heap_setCell w4 ⟨w.heap.size + 1 + 1 + 1, 0, none⟩ (.func (.func 199) #[] #[.pointer (some ⟨w.heap.size + 1 + 1, 0, none⟩), .pointer (some ⟨w.heap.size, 0, none⟩), .pointer (some ⟨w.heap.size + 1 + 1 + 1, 0, none⟩)]) (w.heap.size + 1) (fun e => by have h9 : w.heap.size + 1 = w.heap.size + 1 + 1 + 1 := e; omega)).trans m4
  have hb5 := hbt.setCell (p := ⟨w.heap.size + 1 + 1 + 1, 0, none⟩) (by show w.heap.size ≤ w.heap.size + 1 + 1 + 1; omega) (.func (.func 199) #[] #[.pointer (some ⟨w.heap.size + 1 + 1, 0, none⟩), .pointer (some ⟨w.heap.size, 0, none⟩), .pointer (some ⟨w.heap.size + 1 + 1 + 1, 0, none⟩)])
  have HP := Lib.hid (And.intro k5 (And.intro a5 (And.intro n5 (And.intro m5 hb5))))
  have hcf := n5.c
  clear a1 a2 a3 a4 a5 k3 k4 k5 m2 m3 m4 m5 n4 n5 hb1 hb2 hb3 hb4 hb5 hbt hs1 hs2 hs3
  have HW1 := Lib.hid hw1
  have HW2 := Lib.hid hw2
  have HW3 := Lib.hid hw3
  have HW4 := Lib.hid hw4
  clear hw1 hw2 hw3 hw4
  go_enter Tryd.func160, Tryd.ntmps160
  go_upto_region 3 with fail
  rw [← HW1.out, ← HW2.out, ← HW3.out, ← HW4.out]
  go_wp2_with fail
  go_ret
  obtain ⟨h1, h2, h3, h4, h5⟩ := HP.out
  exact ⟨w.heap.size + 1 + 1, w.heap.size, w.heap.size + 1 + 1 + 1, w.heap.size + 1, rfl, h1, h2, h3, h4, Nat.le_succ _, h5⟩
set_option maxHeartbeats 800000 in
theorem counter_any (A : Option Addr) (n c : Nat) (rs : List Nat) (w : World) :
    Calls Tryd.prog 102 #[.slice A n c] w fun e w' => ∃ gk gf go gr bm, e = .returned (.func (.func 199) #[] #[.pointer (some ⟨gk, 0, none⟩), .pointer (some ⟨gf, 0, none⟩), .pointer (some ⟨go, 0, none⟩)]) ∧ Memo w w' gk gf go gr bm A n c rs := by
  have r0 := one_new w (.slice A n c) 73
  have hb := below1 w (.cells #[.slice A n c] 73)
  have HR := Lib.hid r0
  have HB := Lib.hid hb
  clear r0 hb
  go_enter Tryd.func102, Tryd.ntmps102
  go_wp2_with fail
  refine (keeping_any w.heap.size _).mono ?_
  rintro e w2 ⟨gk, gf, go, bm, rfl, h1, h2, h3, h4, h5, hb2⟩
  have HM : Hid (Memo w w2 gk gf go w.heap.size bm A n c rs) := Lib.hid ⟨HB.out.trans (hb2.mono HB.out.size), Nat.le_trans HB.out.size h5, h1, h2, h3, HR.out.next hb2, [], .map [], ⟨#[], 0, h4, ⟨by simp, MapKept.stamped_empty 0, by simp⟩, Nat.le_refl _, rfl⟩, List.nodup_nil, fun p hp => (by cases hp), Maps.isMap_empty, fun F m _ _ => by simp [Maps.has_eq], fun p hp => (by cases hp)⟩
  clear h1 h2 h3 h4 h5 hb2
  go_wp2_with fail
  go_ret
  exact ⟨gk, gf, go, w.heap.size, bm, rfl, HM.out⟩
end Go.Proofs.YtcojodkcpemfdaaDoor
namespace Go.Proofs.YtcojodkcpemfdaaDoor
open Go Go.RowKit
set_option linter.unusedVariables false
set_option maxRecDepth 100000

/-- The letter in whose part a rank lies, and the rank there. -/
def pk (f : Nat → Int) : List Nat → Int → Option (Nat × Int)
  | [], _ => none
  | a :: l, r => if r < f a then some (a, r) else pk f l (r - f a)
theorem sumF_cons (f : Nat → Int) (a : Nat) (l : List Nat) : sumF f (a :: l) = f a + sumF f l := by
  unfold sumF
  rw [List.foldl_cons, foldl_shift]; omega
theorem pk_some (f : Nat → Int) (h0 : ∀ a, 0 ≤ f a) : ∀ (l : List Nat) (r : Int), 0 ≤ r → r < sumF f l → ∃ a r', pk f l r = some (a, r') ∧ a ∈ l ∧ 0 ≤ r' ∧ r' < f a
  | [], r, h1, h2 => by simp [sumF] at h2; omega
  | a :: l, r, h1, h2 => by
    rw [sumF_cons] at h2
    by_cases h : r < f a
    · exact ⟨a, r, if_pos h, List.mem_cons_self, h1, h⟩
    · obtain ⟨b, r', hp, hm, h3, h4⟩ := pk_some f h0 l (r - f a) (by omega) (by omega)
      exact ⟨b, r', (if_neg h).trans hp, List.mem_cons_of_mem _ hm, h3, h4⟩
def atM (rs : List Nat) : Nat → Nat → Int → List Nat
  | 0, _, _ => []
  | m + 1, F, r => match pk (fun a => tN rs (bhM rs F a) m) (bitsOf F) r with
    | some (a, r') => a :: atM rs m (bhM rs F a) r'
    | none => []
theorem atM_step (rs : List Nat) (m F a : Nat) (r r' : Int) (h : pk (fun a => tN rs (bhM rs F a) m) (bitsOf F) r = some (a, r')) : atM rs (m + 1) F r = a :: atM rs m (bhM rs F a) r' := by
  show (match pk _ _ r with | some (a, r') => _ | none => _) = _
  rw [h]
/-- From a place on: as long as the rank lies behind, the parts are taken off. -/
theorem pk_drop (f : Nat → Int) (l : List Nat) (j a : Nat) (r : Int) (ha : l[j]? = some a) : pk f (l.drop j) r = if r < f a then some (a, r) else pk f (l.drop (j + 1)) (r - f a) := by
  have hj : j < l.length := by
    rcases Nat.lt_or_ge j l.length with h | h
    · exact h
    · rw [List.getElem?_eq_none h] at ha; cases ha
  rw [List.drop_eq_getElem_cons hj]
  rw [List.getElem?_eq_getElem hj] at ha
  injection ha with ha
  rw [ha]; rfl
theorem tp_congr (D : Nat → Nat → Bool) (n : Nat) : ∀ m (p q : Nat → Bool), (∀ x, x < n → p x = q x) → tp D n m p = tp D n m q
  | 0, _, _, _ => rfl
  | m + 1, p, q, h => by
    show ((List.range n).filter p).foldl _ 0 = ((List.range n).filter q).foldl _ 0
    have e : (List.range n).filter p = (List.range n).filter q := List.filter_congr fun x hx => h x (List.mem_range.1 hx)
    rw [e]
    refine foldl_congr' _ _ _ _ fun a _ => ?_
    exact tp_congr D n m _ _ fun x hx => by rw [h x hx]
theorem tN_full (rs : List Nat) (n m : Nat) (hl : rs.length = n) : tN rs (2 ^ n - 1) m = traM rs m := by
  unfold tN traM tM
  rw [hl]
  refine tp_congr _ _ _ _ _ fun x hx => ?_
  rw [Nat.testBit_two_pow_sub_one, decide_eq_true hx]
/-- The model's set of letters that must not follow, and the program's set of letters that can. -/
def Opp (n mask F : Nat) : Prop := mask < 2 ^ n ∧ F < 2 ^ n ∧ ∀ x, x < n → mask.testBit x = !F.testBit x
theorem opp_start (n : Nat) : Opp n 0 (2 ^ n - 1) := ⟨p2_pos n, by have := p2_pos n; omega, fun x hx => by rw [Nat.zero_testBit, Nat.testBit_two_pow_sub_one, decide_eq_true hx]; rfl⟩
theorem opp_next (rs : List Nat) (n mask F a : Nat) (h8 : n ≤ 8) (hr : ∀ i, rs.getD i 0 < 2 ^ n) (ha : a < n) (h : Opp n mask F) : Opp n (stM rs mask a) (bhM rs F a) := by
  have hp8 : 2 ^ n ≤ 256 := Nat.pow_le_pow_right (by decide) h8
  refine ⟨stM_lt rs n mask a h.1 ha, bhM_lt rs n F a h.2.1 (hr a), fun x hx => ?_⟩
  have hpa : 2 ^ a - 1 < 2 ^ n := by have := p2_pos a; have : 2 ^ a ≤ 2 ^ n := Nat.pow_le_pow_right (by decide) (by omega); omega
  have hor := Nat.or_lt_two_pow h.1 hpa
  have hra := hr a
  have hm := h.1
  have hF := h.2.1
  unfold stM bhM
  rw [dif_bit _ _ _ (by omega) (by omega), Nat.testBit_or, Nat.testBit_or, dif_bit _ _ _ (by omega) (by omega), h.2.2 x hx, Nat.testBit_two_pow_sub_one]
  cases F.testBit x <;> cases (rs.getD a 0).testBit x <;> by_cases e : x < a <;> simp [e]
theorem opp_tl (rs : List Nat) (n mask F m : Nat) (hl : rs.length = n) (h8 : n ≤ 8) (hr : ∀ i, rs.getD i 0 < 2 ^ n) (h : Opp n mask F) : tlV rs n m mask = capV (tN rs F m) := by
  rw [tl_tp rs n hr h8 m mask h.1]
  unfold tN
  rw [hl]
  congr 1
  exact tp_congr _ _ _ _ _ fun x hx => by rw [h.2.2 x hx, Bool.not_not]
theorem capV_small (x : Int) (h : x ≤ cntC) : capV x = x := by unfold capV; rw [if_neg (by omega)]
end Go.Proofs.YtcojodkcpemfdaaDoor
namespace Go.Proofs.YtcojodkcpemfdaaDoor
open Go Go.RowKit Go.ChangeMaps Go.WideMaps
set_option linter.unusedVariables false
set_option maxRecDepth 100000

theorem grown_set2 {W W' : World} {row : Option Nat} {g : Nat} (h : W.grownBy W' row) (hg : W.heap.size ≤ g) (k : Nat) (v : Value) : W.grownBy (W'.setCell ⟨g, k, none⟩ v) row :=
  ⟨h.os, h.tape, h.output, by rw [World.size_setCell]; exact h.size, fun q hq hne => by rw [Below.heap_setCell W' _ v q (fun e => by have h9 : q = g := e; omega)]; exact h.block q hq hne⟩
theorem owns_tset {W : World} {g k : Nat} {F m : Int} {bm : Nat} {rs : List Nat} (h : Kept W bm rs) (hne : bm ≠ g) (v : Value) : Kept (W.setCell ⟨g, k, none⟩ v) bm rs := by
  obtain ⟨L, D, ho, rest⟩ := h
  exact ⟨L, D, ho.setCell (a := ⟨g, k, none⟩) hne v, rest⟩
theorem one_ne_tbox {W : World} {g g' : Nat} {v : Value} {T : TypeId} {F m : Int} (h : One W g v T) (h2 : TBox W g' F m) : g' ≠ g := by
  intro e
  subst e
  unfold One at h
  unfold TBox at h2
  rw [h] at h2
  injection h2 with h2
  injection h2 with h2
  have h9 := congrArg Array.size h2
  simp at h9
theorem Memo.tset {w0 W : World} {gk gf go gr bm n c g k : Nat} {A : Option Addr} {rs : List Nat} {F m : Int} (h : Memo w0 W gk gf go gr bm A n c rs) (h2 : TBox W g F m) (hg : w0.heap.size ≤ g) (v : Value) : Memo w0 (W.setCell ⟨g, k, none⟩ v) gk gf go gr bm A n c rs := by
  obtain ⟨a1, a2, a3, a4, a5, a6, a7⟩ := h
  have hne : bm ≠ g := fun e => a7.ne_tbox h2 (by rw [e])
  exact ⟨a1.setCell (p := ⟨g, k, none⟩) hg v, a2, a3.other g k v (one_ne_tbox a3 h2), a4.other g k v (one_ne_tbox a4 h2), a5.other g k v (one_ne_tbox a5 h2), a6.other g k v (one_ne_tbox a6 h2), owns_tset (F := F) (m := m) a7 hne v⟩
theorem TBox.put0 {w : World} {g : Nat} {F m : Int} (h : TBox w g F m) (F' : Int) : TBox (w.setCell ⟨g, 0, none⟩ (.int .i64 F')) g F' m := by
  unfold TBox at h ⊢; rw [heap_put h]; rfl
theorem Memo.tset2 {w0 W : World} {gk gf go gr bm n c g : Nat} {A : Option Addr} {rs : List Nat} {F m : Int} (h : Memo w0 W gk gf go gr bm A n c rs) (h2 : TBox W g F m) (hg : w0.heap.size ≤ g) (F' m' : Int) : Memo w0 ((W.setCell ⟨g, 0, none⟩ (.int .i64 F')).setCell ⟨g, 1, none⟩ (.int .i64 m')) gk gf go gr bm A n c rs :=
  (h.tset h2 hg (.int .i64 F')).tset (h2.put0 F') hg (.int .i64 m')
theorem sumF_drop (f : Nat → Int) (l : List Nat) (j a : Nat) (ha : l[j]? = some a) : sumF f (l.drop j) = f a + sumF f (l.drop (j + 1)) := by
  have hj : j < l.length := by
    rcases Nat.lt_or_ge j l.length with h | h
    · exact h
    · rw [List.getElem?_eq_none h] at ha; cases ha
  rw [List.drop_eq_getElem_cons hj, sumF_cons]
  rw [List.getElem?_eq_getElem hj] at ha
  injection ha with ha
  rw [ha]
theorem sumF_over (f : Nat → Int) (l : List Nat) (j : Nat) (hj : l.length ≤ j) : sumF f (l.drop j) = 0 := by
  rw [List.drop_eq_nil_of_le hj]; rfl
theorem Memo.row {w0 W W' : World} {gk gf go gr bm n c G : Nat} {A : Option Addr} {rs : List Nat} {row : Option Nat} (h : Memo w0 W gk gf go gr bm A n c rs) (hG : w0.heap.size ≤ G ∧ gk < G ∧ gf < G ∧ go < G ∧ gr < G ∧ bm < G) (hg : W.grownBy W' row) (hr : ∀ q, row = some q → G < q) : Memo w0 W' gk gf go gr bm A n c rs := by
  obtain ⟨a1, a2, a3, a4, a5, a6, L, D, ho, rest⟩ := h
  obtain ⟨g0, g1, g2, g3, g4, g5⟩ := hG
  exact ⟨a1.grown hg a1.size (fun k hk => by have := hr k hk; omega), a2, a3.apart hg (fun e => by have := hr _ e; omega), a4.apart hg (fun e => by have := hr _ e; omega), a5.apart hg (fun e => by have := hr _ e; omega), a6.apart hg (fun e => by have := hr _ e; omega), L, D, ho.kept hg (fun e => by have := hr _ e.symm; omega), rest⟩
theorem grown_far {W W' W'' : World} {row row2 : Option Nat} (h : W.grownBy W' row) (hg : W'.grownBy W'' row2) (hr : ∀ q, row2 = some q → W.heap.size < q) : W.grownBy W'' row :=
  ⟨hg.os.trans h.os, hg.tape.trans h.tape, hg.output.trans h.output, Nat.le_trans h.size hg.size, fun k hk hne => (hg.block k (Nat.lt_of_lt_of_le hk h.size) (fun e => by have := hr k e.symm; omega)).trans (h.block k hk hne)⟩
theorem TBox.off {w : World} {g : Nat} {F m : Int} (h : TBox w g F m) (b k : Nat) (v : Value) (hne : g ≠ b) : TBox (w.setCell ⟨b, k, none⟩ v) g F m := by
  unfold TBox; rw [Below.heap_setCell w _ v g hne]; exact h
/-- What stands while one letter is put behind: the two tails, the table, the letters so far. -/
structure ST (w0 W : World) (gk gf go gr bm : Nat) (A : Option Addr) (n c : Nat) (rs : List Nat) (H : Nat) (F m Q k : Int) (X : World) (A1 : Option Addr) (N c1 : Nat) (xs : List Int) : Prop where
  t : TBox X W.heap.size F m
  y : TBox X H Q k
  me : Memo w0 X gk gf go gr bm A n c rs
  g : W.grownBy X (some bm)
  o : Own 2 X W.heap.size A1 N c1 xs
  ne : ∀ q, A1.map (·.block) = some q → W.heap.size < q ∧ q ≠ H
  lt : w0.heap.size ≤ W.heap.size ∧ gk < W.heap.size ∧ gf < W.heap.size ∧ go < W.heap.size ∧ gr < W.heap.size ∧ bm < W.heap.size
  hh : W.heap.size < H
theorem ST.next {w0 W X X' : World} {gk gf go gr bm n c H N c1 : Nat} {A A1 : Option Addr} {rs : List Nat} {F m Q k : Int} {xs : List Int} (h : ST w0 W gk gf go gr bm A n c rs H F m Q k X A1 N c1 xs) (hb : Below X.heap.size X X') : ST w0 W gk gf go gr bm A n c rs H F m Q k X' A1 N c1 xs :=
  ⟨h.t.next hb, h.y.next hb, h.me.next hb, h.g.trans (grown_row hb (some bm)), h.o.below hb, h.ne, h.lt, h.hh⟩
theorem ST.set {w0 W X : World} {gk gf go gr bm n c H N c1 : Nat} {A A1 : Option Addr} {rs : List Nat} {F m Q k : Int} {xs : List Int} (h : ST w0 W gk gf go gr bm A n c rs H F m Q k X A1 N c1 xs) (F' m' : Int) : ST w0 W gk gf go gr bm A n c rs H F' m' Q k ((X.setCell ⟨W.heap.size, 0, none⟩ (.int .i64 F')).setCell ⟨W.heap.size, 1, none⟩ (.int .i64 m')) A1 N c1 xs :=
  ⟨h.t.set F' m', (h.y.off _ 0 _ (by have := h.hh; omega)).off _ 1 _ (by have := h.hh; omega), h.me.tset2 h.t h.lt.1 F' m', grown_set2 (grown_set2 h.g (Nat.le_refl _) 0 _) (Nat.le_refl _) 1 _, own_other (own_other h.o _ 0 _ (fun q hq => by have := (h.ne q hq).1; omega)) _ 1 _ (fun q hq => by have := (h.ne q hq).1; omega), h.ne, h.lt, h.hh⟩
theorem ST.app {w0 W X X' : World} {gk gf go gr bm n c H N c1 g cap S : Nat} {A A1 : Option Addr} {rs pre : List Nat} {a : Nat} {F m Q k : Int} (h : ST w0 W gk gf go gr bm A n c rs H F m Q k X A1 N c1 (ints pre))
    (hown : X'.ownsRow W.heap.size 2 1 (.slice (some ⟨g, 0, none⟩) (N + 1) cap) (N + 1) ((ints pre).map (Value.int .i64) ++ [.int .i64 (a : Int)])) (hg : X.grownBy X' (Value.slice A1 N c1).ownBlock) (hat : (Value.slice A1 N c1).ownBlock = some g ∨ g = S) (hS : X.heap.size ≤ S) :
    ST w0 W gk gf go gr bm A n c rs H F m Q k X' (some ⟨g, 0, none⟩) (N + 1) cap (ints (pre ++ [a])) := by
  rw [ints_snoc_map] at hown
  have hr : ∀ q, (Value.slice A1 N c1).ownBlock = some q → W.heap.size < q ∧ q ≠ H := fun q e => h.ne q (ownBlock_map e)
  have ht := h.t.lt
  have hy := h.y.lt
  refine ⟨h.t.apart hg (fun e => by have := (hr _ e).1; omega), h.y.apart hg (fun e => (hr _ e).2 rfl), h.me.row h.lt hg (fun q e => (hr q e).1), grown_far h.g hg (fun q e => (hr q e).1), hown, fun q hq => ?_, h.lt, h.hh⟩
  injection hq with hq
  have h9 : g = q := hq
  subst h9
  rcases hat with e | e
  · exact hr g e
  · omega
set_option maxHeartbeats 6400000 in
theorem normalFormAt_any (w0 : World) (gk gf go gr bm : Nat) (A : Option Addr) (n c : Nat) (rs : List Nat) (h0 : Rd w0 A n (ints rs)) (h8 : n ≤ 8) (hr : ∀ i, rs.getD i 0 < 2 ^ n) (hT : Tab w0)
    (m F : Nat) (r : Int) (hm : m ≤ 24) (hF : F < 2 ^ n) (hr0 : 0 ≤ r) (hr1 : r < tN rs F m) (hS : tN rs F m ≤ cntC) (W : World) (hM : Memo w0 W gk gf go gr bm A n c rs) :
    Calls Tryd.prog 100 #[.slice A n c, .agg #[.int .i64 (F : Int), .int .i64 (m : Int)], .int .i64 r, .func (.func 199) #[] #[.pointer (some ⟨gk, 0, none⟩), .pointer (some ⟨gf, 0, none⟩), .pointer (some ⟨go, 0, none⟩)]] W fun e W' =>
      ∃ A' c', e = .returned (.slice A' m c') ∧ Own 2 W' W.heap.size A' m c' (ints (atM rs m F r)) ∧ Memo w0 W' gk gf go gr bm A n c rs ∧ W.grownBy W' (some bm) := by
  have hl : rs.length = n := by have := h0.1; rw [ints_len] at this; exact this
  have hp8 : 2 ^ n ≤ 256 := Nat.pow_le_pow_right (by decide) h8
  obtain ⟨i0, hi, hz0, hz1, hz2⟩ := info_parts info_int
  have eg : ∀ args w, (callFunc 199 args).run Tryd.prog w = .ok (.enter 199 args) w := fun args w => Go.MuLone.run_callFunc_enter (P := Tryd.prog) Tryd.func199 (by kernel_rfl) rfl args w
  have HCA := Lib.hid (count_any w0 gk gf go gr bm A n c rs h0 h8 hr hT)
  have HBEH : Hid (∀ (F a m : Nat) (ww : World), F < 2 ^ n → a < n → m ≤ 24 → Below w0.heap.size w0 ww → Calls Tryd.prog 158 #[.slice A n c, .agg #[.int .i64 (F : Int), .int .i64 ((m + 1 : Nat) : Int)], .int .i64 (a : Int)] ww fun e w' => e = .returned (.agg #[.int .i64 ((bhM rs F a : Nat) : Int), .int .i64 (m : Int)]) ∧ Below ww.heap.size ww w') := Lib.hid fun F a m ww hF ha hm hw => behind_any A n c F a m rs ww (h0.below hw) h8 hr hF ha hm
  have HMEM : Hid (∀ (F : Nat) ww, F < 2 ^ n → Tab ww → Calls Tryd.prog 157 #[.int .i64 (F : Int)] ww (MakesE 2 ww (bitsOf F).length (ints (bitsOf F)))) := Lib.hid fun F ww hF ht => members_any F (by omega) ww ht
  have HBH : Hid (∀ F a, F < 2 ^ n → a < n → bhM rs F a < 2 ^ n) := Lib.hid fun F a hF ha => bhM_lt rs n F a hF (hr a)
  have HBL : Hid (∀ F a, F < 2 ^ n → a ∈ bitsOf F → a < n) := Lib.hid fun F a hF ha => by
    rw [bits_range F n h8 hF] at ha
    exact List.mem_range.1 (List.mem_filter.1 ha).1
  have HSU : Hid (∀ F m, F < 2 ^ n → tN rs F (m + 1) = sumF (fun a => tN rs (bhM rs F a) m) (bitsOf F)) := Lib.hid fun F m hF => tN_succ rs n F m hl h8 hr hF
  have HTB : Hid (∀ ww, Below w0.heap.size w0 ww → Tab ww) := Lib.hid fun ww hw => hT.below hw
  have HM := Lib.hid hM
  have HSZ := Lib.hid hM.1.size
  have HMB := Lib.hid hM.2.2.2.2.2.2.lt
  have HLT := Lib.hid (And.intro hM.1.size (And.intro hM.2.2.1.lt (And.intro hM.2.2.2.1.lt (And.intro hM.2.2.2.2.1.lt (And.intro hM.2.2.2.2.2.1.lt hM.2.2.2.2.2.2.lt)))))
  have hb := below1 W (.cells #[.int .i64 (F : Int), .int .i64 (m : Int)] 106)
  have t0 := tbox_new W (F : Int) (m : Int)
  have HT0 := Lib.hid t0
  have HB1 := Lib.hid hb
  have HMA := Lib.hid (hM.next hb)
  clear hM hb t0 h0 hr hT hl
  go_enter Tryd.func100, Tryd.ntmps100
  go_wp2_with fail
  go_loopw [2, 9] (fun q v wr => ∃ (k F1 : Nat) (r1 : Int) (A1 : Option Addr) (c1 : Nat) (pre : List Nat), k ≤ m ∧ q = .int .i64 r1 ∧ v = .slice A1 (m - k) c1 ∧ TBox wr W.heap.size (F1 : Int) (k : Int) ∧ Own 2 wr W.heap.size A1 (m - k) c1 (ints pre) ∧ (∀ q, A1.map (·.block) = some q → W.heap.size < q) ∧ Memo w0 wr gk gf go gr bm A n c rs ∧ W.grownBy wr (some bm) ∧ Hid (atM rs m F r = pre ++ atM rs k F1 r1) ∧ F1 < 2 ^ n ∧ 0 ≤ r1 ∧ Hid (r1 < tN rs F1 k) ∧ Hid (tN rs F1 k ≤ cntC)) (fun _ _ wr => match wr.cell? ⟨W.heap.size, 1, none⟩ with | some (.int _ k) => k.toNat | _ => 0)
  case atStart => exact ⟨m, F, r, none, 0, [], Nat.le_refl _, rfl, by rw [Nat.sub_self], HT0.out, by rw [Nat.sub_self]; exact Own.nil _ _ _, fun q hq => (by cases hq), HMA.out, grown_row HB1.out _, Lib.hid rfl, hF, hr0, Lib.hid hr1, Lib.hid hS⟩
  case round =>
    obtain ⟨k, F1, r1, A1, c1, pre, hk, rfl, rfl, tb, ho, hlt0, hM1, hg1, HE, hF1, hr10, HR1, HS1⟩ := hrel
    have c0 := tb.c0
    have c1' := tb.c1
    by_cases hk0 : 0 < k
    · obtain ⟨k1, rfl⟩ : ∃ k1, k = k1 + 1 := ⟨k - 1, by omega⟩
      have HM1 := Lib.hid hM1
      have HG1 := Lib.hid hg1
      have HSG := Lib.hid hg1.size
      have HTBO := Lib.hid tb
      have hME := HMEM.out F1 wr hF1 (HTB.out wr hM1.1)
      have HSUM := Lib.hid (HSU.out F1 k1 hF1)
      have hb24 := bitsOf_len F1
      have HBL1 := Lib.hid (fun a ha => HBL.out F1 a hF1 ha)
      obtain ⟨ls, hls⟩ : ∃ ls, ls = bitsOf F1 := ⟨_, rfl⟩
      have HLS := Lib.hid hls
      rw [← hls] at hME HSUM hb24 HBL1
      obtain ⟨K, hK⟩ : ∃ K, K = ls.length := ⟨_, rfl⟩
      have HKL := Lib.hid hK
      rw [← hK] at hME hb24
      have HME := Lib.hid hME
      clear hls hK hME hM1 hg1
      go_wp2_with fail
      refine HME.out.mono ?_
      rintro e W2 ⟨A2, c2, rfl, ho2, hb2⟩
      have tb2 := tb.next hb2
      have HM2 := Lib.hid (HM1.out.next hb2)
      have HO2 := Lib.hid (ho.below hb2)
      have HG2 := Lib.hid (HG1.out.trans (grown_row hb2 (some bm)))
      have HS2 := Lib.hid hb2.size
      clear c0 c1' hb2
      go_wp2_with fail
      have hnn : ∀ a, 0 ≤ tN rs (bhM rs F1 a) k1 := fun a => tN_nonneg rs _ k1
      obtain ⟨f, hf⟩ : ∃ f : Nat → Int, f = fun a => tN rs (bhM rs F1 a) k1 := ⟨_, rfl⟩
      rw [← hf] at HSUM
      have HFA : Hid (∀ a, f a = tN rs (bhM rs F1 a) k1) := Lib.hid fun a => by rw [hf]
      have HSM := Lib.hid (sumF_mem f (fun a => by rw [HFA.out]; exact hnn a))
      have HNN := Lib.hid hnn
      have HDR := Lib.hid (sumF_drop f ls)
      have HOV := Lib.hid (sumF_over f ls)
      have HPD := Lib.hid (pk_drop f ls)
      have HTOT : Hid (r1 < sumF f ls ∧ sumF f ls ≤ cntC) := Lib.hid ⟨by rw [← HSUM.out]; exact HR1.out, by rw [← HSUM.out]; exact HS1.out⟩
      have HSTEP : Hid (∀ a r', pk f ls r1 = some (a, r') → atM rs m F r = pre ++ [a] ++ atM rs k1 (bhM rs F1 a) r') := Lib.hid fun a r' h9 => by
        rw [hf, HLS.out] at h9
        rw [HE.out, atM_step rs k1 F1 a r1 r' h9, List.append_assoc]; rfl
      obtain ⟨N1, hN1⟩ : ∃ N1, N1 = m - (k1 + 1) := ⟨_, rfl⟩
      have hN24 : N1 ≤ 24 := by omega
      have HN1 := Lib.hid (show N1 + 1 = m - k1 by omega)
      rw [← hN1] at HO2 ⊢
      clear hf hN1 hnn HSUM HE HR1 HS1 HME ho tb HM1 HG1 HLS
      go_loopw [2, 9, 21] (fun v q i wi => ∃ (j : Nat) (r2 : Int), i = .int .i64 j ∧ v = .int .i64 r2 ∧ q = .slice A1 N1 c1 ∧ 0 ≤ r2 ∧ Hid (r2 < sumF f (ls.drop j)) ∧ Hid (sumF f (ls.drop j) ≤ cntC) ∧ Hid (pk f ls r1 = pk f (ls.drop j) r2) ∧ Memo w0 wi gk gf go gr bm A n c rs ∧ W2.grownBy wi (some bm)) (fun _ _ i _ => K - (intOf i).toNat)
      case atStart => exact ⟨0, r1, rfl, rfl, rfl, hr10, Lib.hid HTOT.out.1, Lib.hid HTOT.out.2, Lib.hid rfl, HM2.out, World.grownBy.refl _ _⟩
      case round =>
        obtain ⟨j, r2, rfl, rfl, rfl, hr20, HRL, HRS, HPK, hM3, hg3⟩ := hrel
        have hlt : j < K := by
          rcases Nat.lt_or_ge j K with h | h
          · exact h
          · have h1 := HOV.out j (by rw [← HKL.out]; exact h)
            have h2 := HRL.out
            rw [h1] at h2; omega
        have ho3 := ho2.apart hg3 (fun k hk e => by injection e with e; have := (ho2.lt k hk).1; have h7 := HMB.out; have h8 := HSG.out; omega)
        obtain ⟨b, off, x, rfl, hbs, hx, hcx⟩ := ho3.rd.at_ hlt
        obtain ⟨a, ha, rfl⟩ := nats_at ls j x (by rw [← HKL.out]; exact hlt) hx
        have han := HBL1.out a (List.mem_of_getElem? ha)
        have HNX := Lib.hid (HDR.out j a ha)
        have HPN := Lib.hid (HPD.out j a)
        have HPN2 : Hid (∀ r, pk f (ls.drop j) r = if r < f a then some (a, r) else pk f (ls.drop (j + 1)) (r - f a)) := Lib.hid fun r => HPN.out r ha
        have hfa := HNN.out a
        have hdn := (HSM.out (ls.drop (j + 1))).1
        have hrl := HRL.out
        have hrs := HRS.out
        rw [HNX.out] at hrl hrs
        have t3 := tb2.apart hg3 (HM2.out.2.2.2.2.2.2.ne_tbox tb2)
        have c0 := t3.c0
        have c1' := t3.c1
        have HB3 := Lib.hid (HBEH.out F1 a k1 wr hF1 han (by omega) hM3.1)
        have HQL := HBH.out F1 a hF1 han
        have HV := HFA.out a
        obtain ⟨V, hV⟩ : ∃ V, V = f a := ⟨_, rfl⟩
        rw [← hV] at HNX HPN2 hrl hrs
        have hv0 : 0 ≤ V := by rw [hV, HV]; exact hfa
        have hvc : V ≤ cntC := by omega
        have HI3 : Hid (∀ ww, Memo w0 ww gk gf go gr bm A n c rs → Calls Tryd.prog 199 #[.agg #[.int .i64 ((bhM rs F1 a : Nat) : Int), .int .i64 (k1 : Int)], .pointer (some ⟨gk, 0, none⟩), .pointer (some ⟨gf, 0, none⟩), .pointer (some ⟨go, 0, none⟩)] ww (CntPost w0 ww gk gf go gr bm A n c rs V)) := Lib.hid fun ww h9 => by
          have h8 := HCA.out k1 (by omega) (bhM rs F1 a) ww HQL (by rw [← HV, ← hV]; exact hvc) h9
          rw [← HV, ← hV] at h8
          exact h8
        have HVT : Hid (V = tN rs (bhM rs F1 a) k1) := Lib.hid (hV.trans HV)
        have HST := Lib.hid (fun r' => HSTEP.out a r')
        obtain ⟨Q, hQ⟩ : ∃ Q, Q = bhM rs F1 a := ⟨_, rfl⟩
        rw [← hQ] at HB3 HI3 HQL HVT HST
        have hsub : IntKind.i64.wrap (r2 - V) = r2 - V := by unfold cntC at hvc hrs; rw [IntKind.wrap_i64]; omega
        have hr2b : r2 < 9223372036854775807 := by unfold cntC at hrs; omega
        have hvb : V < 9223372036854775807 := by unfold cntC at hvc; omega
        have HM3 := Lib.hid hM3
        have HG3 := Lib.hid hg3
        have HRLa := Lib.hid hrl
        have HRSa := Lib.hid hrs
        have HDN := Lib.hid hdn
        clear hx ha hV hQ hM3 hg3 HV hfa hrl hrs hdn hvc HRL HRS
        go_wp2_with fail
        refine HB3.out.mono ?_
        rintro e W4 ⟨rfl, hb4⟩
        have t5 := tbox_new W4 (Q : Int) (k1 : Int)
        have hb5 := below1 W4 (.cells #[.int .i64 (Q : Int), .int .i64 (k1 : Int)] 106)
        have e0 := t5.c0
        have e1 := t5.c1
        have HM5 := Lib.hid ((HM3.out.next hb4).next hb5)
        have HG5 := Lib.hid ((HG3.out.trans (grown_row hb4 (some bm))).trans (grown_row hb5 (some bm)))
        have hlt5 := t5.lt
        obtain ⟨W5, hW5⟩ : ∃ W5, W5 = W4.alloc (.cells #[.int .i64 (Q : Int), .int .i64 (k1 : Int)] 106) := ⟨_, rfl⟩
        have HT5 := Lib.hid t5
        have HI5 := Lib.hid (HI3.out _ HM5.out)
        have H24 : Hid (W2.heap.size ≤ W4.heap.size) := Lib.hid (by have := HG3.out.size; have := hb4.size; omega)
        rw [← hW5] at HM5 HG5 HT5 HI5
        clear hb4 hb5 t5 HB3 hlt5
        go_wp2_with fail
        rw [← hW5]
        clear hW5 e0 e1 c0 c1'
        refine HI5.out.mono ?_
        rintro e W6 ⟨rfl, hM6, hg6⟩
        obtain ⟨H4, hH4⟩ : ∃ H4, H4 = W4.heap.size := ⟨_, rfl⟩
        rw [← hH4] at HT5 H24 ⊢
        obtain ⟨G, hG⟩ : ∃ G, G = W.heap.size := ⟨_, rfl⟩
        have HW6 := Lib.hid (HG5.out.trans hg6)
        have HT6 : Hid (TBox W6 H4 (Q : Int) (k1 : Int)) := Lib.hid (HT5.out.apart hg6 (HM5.out.2.2.2.2.2.2.ne_tbox HT5.out))
        have HX6 := Lib.hid (tb2.apart HW6.out (HM2.out.2.2.2.2.2.2.ne_tbox tb2))
        have HO6 := Lib.hid (HO2.out.apart HW6.out (fun k hk e => by injection e with e; have := (HO2.out.lt k hk).1; have h7 := HMB.out; omega))
        have HGB := Lib.hid (HG2.out.trans HW6.out)
        have HM6 := Lib.hid hM6
        clear hM6 hg6 hH4 HT5 t3 ho3 hcx HG5 HM5 HI5 HI3 HM3 HG3
        by_cases hcmp : r2 < V
        · have HST6 : Hid (ST w0 W gk gf go gr bm A n c rs H4 (F1 : Int) ((k1 + 1 : Nat) : Int) (Q : Int) (k1 : Int) W6 A1 N1 c1 (ints pre)) := Lib.hid ⟨HX6.out, HT6.out, HM6.out, HGB.out, HO6.out, fun q hq => ⟨hlt0 q hq, by have := (HO2.out.lt q hq).2; have := H24.out; omega⟩, HLT.out, by have := tb2.lt; have := H24.out; omega⟩
          clear hG hlt0 HSTEP tb2 ho2 HX6 HT6 HM6 HGB HO6
          have hA : Below W6.heap.size W6 W6.drew := (Below.refl _ _).drew
          have sA := HST6.out.next hA
          have pa0 := sA.t.c0; have pa1 := sA.t.c1; have paf := sA.t.fr 0; have pag := sA.t.fr 1; have pay := sA.y.c0; have paz := sA.y.c1
          have sB := Lib.hid (HST6.out.next ((below1 W6 (.cells #[.int .i64 (a : Int)] 2)).drew))
          have pb0 := sB.out.t.c0; have pb1 := sB.out.t.c1; have pbf := sB.out.t.fr 0; have pbg := sB.out.t.fr 1; have pby := sB.out.y.c0; have pbz := sB.out.y.c1
          have sA' := sA.set (Q : Int) (k1 : Int)
          have sC := Lib.hid (sA'.next (below1 _ (.cells #[.int .i64 (a : Int)] 2)))
          have sD := Lib.hid (sB.out.set (Q : Int) (k1 : Int))
          have nB : Hid ((W6.alloc (.cells #[.int .i64 (a : Int)] 2)).drew.heap[W6.heap.size]? = some (.cells #[.int .i64 (a : Int)] 2 (0, 0))) := Lib.hid (heap_alloc_new W6 _)
          have zA : (((W6.drew.setCell ⟨W.heap.size, 0, none⟩ (.int .i64 (Q : Int))).setCell ⟨W.heap.size, 1, none⟩ (.int .i64 (k1 : Int)))).heap.size = W6.heap.size := by rw [World.size_setCell, World.size_setCell]; rfl
          have nC : Hid ((((W6.drew.setCell ⟨W.heap.size, 0, none⟩ (.int .i64 (Q : Int))).setCell ⟨W.heap.size, 1, none⟩ (.int .i64 (k1 : Int))).alloc (.cells #[.int .i64 (a : Int)] 2)).heap[W6.heap.size]? = some (.cells #[.int .i64 (a : Int)] 2 (0, 0))) := Lib.hid (by have h9 := heap_alloc_new ((W6.drew.setCell ⟨W.heap.size, 0, none⟩ (.int .i64 (Q : Int))).setCell ⟨W.heap.size, 1, none⟩ (.int .i64 (k1 : Int))) (.cells #[.int .i64 (a : Int)] 2); rw [zA] at h9; exact h9)
          have hgl : W.heap.size < W6.heap.size := sA.t.lt
          have nD : Hid ((((W6.alloc (.cells #[.int .i64 (a : Int)] 2)).drew.setCell ⟨W.heap.size, 0, none⟩ (.int .i64 (Q : Int))).setCell ⟨W.heap.size, 1, none⟩ (.int .i64 (k1 : Int))).heap[W6.heap.size]? = some (.cells #[.int .i64 (a : Int)] 2 (0, 0))) := Lib.hid (by rw [Below.heap_setCell _ _ _ _ (by show W6.heap.size ≠ W.heap.size; omega), Below.heap_setCell _ _ _ _ (by show W6.heap.size ≠ W.heap.size; omega)]; exact nB.out)
          have hyB : (W6.alloc (.cells #[.int .i64 (a : Int)] 2)).drew.heap.size = W6.heap.size + 1 := size1 _ _
          have hyC : (((W6.drew.setCell ⟨W.heap.size, 0, none⟩ (.int .i64 (Q : Int))).setCell ⟨W.heap.size, 1, none⟩ (.int .i64 (k1 : Int))).alloc (.cells #[.int .i64 (a : Int)] 2)).heap.size = W6.heap.size + 1 := by rw [size1, zA]
          have hyD : ((((W6.alloc (.cells #[.int .i64 (a : Int)] 2)).drew.setCell ⟨W.heap.size, 0, none⟩ (.int .i64 (Q : Int))).setCell ⟨W.heap.size, 1, none⟩ (.int .i64 (k1 : Int)))).heap.size = W6.heap.size + 1 := by rw [World.size_setCell, World.size_setCell]; exact size1 _ _
          have hzB : W.heap.size ≤ (W6.alloc (.cells #[.int .i64 (a : Int)] 2)).drew.heap.size := by omega
          have hzC : W.heap.size ≤ (((W6.drew.setCell ⟨W.heap.size, 0, none⟩ (.int .i64 (Q : Int))).setCell ⟨W.heap.size, 1, none⟩ (.int .i64 (k1 : Int))).alloc (.cells #[.int .i64 (a : Int)] 2)).heap.size := by omega
          have hzD : W.heap.size ≤ ((((W6.alloc (.cells #[.int .i64 (a : Int)] 2)).drew.setCell ⟨W.heap.size, 0, none⟩ (.int .i64 (Q : Int))).setCell ⟨W.heap.size, 1, none⟩ (.int .i64 (k1 : Int)))).heap.size := by omega
          have hml : N1 + 1 ≤ maxLen := by unfold maxLen; omega
          have hby : (N1 + 1) * 8 ≤ 140737488355328 := by omega
          have HEN : Hid (atM rs m F r = pre ++ [a] ++ atM rs k1 Q r2) := Lib.hid (HST.out r2 (by rw [HPK.out, HPN2.out, if_pos hcmp]))
          have HRN : Hid (r2 < tN rs Q k1) := Lib.hid (by rw [← HVT.out]; exact hcmp)
          have HSN : Hid (tN rs Q k1 ≤ cntC) := Lib.hid (by rw [← HVT.out]; have h8 := HRSa.out; have h9 := HDN.out; omega)
          clear hA sA sA' zA hgl
          go_wp2_with fail
          go_region_law (first
            | (refine step_append_lies _ (by rfl) _ _ _ (by rfl) W.heap.size 2 i0 _ 1 8 Tryd.underlying22 hi hz0 hz1 hz2 rfl (by omega) (.slice A1 N1 c1) N1 ((ints pre).map (Value.int .i64)) (by rfl) sB.out.o ⟨W6.heap.size, 0, none⟩ 1 1 [.int .i64 (a : Int)] (by rfl) (by rfl) (World.news_of_block (cs := #[.int .i64 (a : Int)]) (t := 2) (fr := (0, 0)) nB.out) (by simp [Value.oneCell']) (by omega) hml hby hzB (W6.heap.size + 1) hyB ?_; intro g cap w7 hown hg hat hlt9; have H7 := Lib.hid (sB.out.app hown hg hat (Nat.le_of_eq hyB)); clear hown hg hat; have pe0 := H7.out.t.c0; have pe1 := H7.out.t.c1; have pef := H7.out.t.fr 0; have peg := H7.out.t.fr 1; have pey := H7.out.y.c0; have pez := H7.out.y.c1)
            | (refine step_append_lies _ (by rfl) _ _ _ (by rfl) W.heap.size 2 i0 _ 1 8 Tryd.underlying22 hi hz0 hz1 hz2 rfl (by omega) (.slice A1 N1 c1) N1 ((ints pre).map (Value.int .i64)) (by rfl) sC.out.o ⟨W6.heap.size, 0, none⟩ 1 1 [.int .i64 (a : Int)] (by rfl) (by rfl) (World.news_of_block (cs := #[.int .i64 (a : Int)]) (t := 2) (fr := (0, 0)) nC.out) (by simp [Value.oneCell']) (by omega) hml hby hzC (W6.heap.size + 1) hyC ?_; intro g cap w7 hown hg hat hlt9; have H7 := Lib.hid (sC.out.app hown hg hat (Nat.le_of_eq hyC)); clear hown hg hat)
            | (refine step_append_lies _ (by rfl) _ _ _ (by rfl) W.heap.size 2 i0 _ 1 8 Tryd.underlying22 hi hz0 hz1 hz2 rfl (by omega) (.slice A1 N1 c1) N1 ((ints pre).map (Value.int .i64)) (by rfl) sD.out.o ⟨W6.heap.size, 0, none⟩ 1 1 [.int .i64 (a : Int)] (by rfl) (by rfl) (World.news_of_block (cs := #[.int .i64 (a : Int)]) (t := 2) (fr := (0, 0)) nD.out) (by simp [Value.oneCell']) (by omega) hml hby hzD (W6.heap.size + 1) hyD ?_; intro g cap w7 hown hg hat hlt9; have H7 := Lib.hid (sD.out.app hown hg hat (Nat.le_of_eq hyD)); clear hown hg hat))
          all_goals (
            go_wp2_with fail
            go_roundw
            case rel => first | exact ⟨k1, Q, r2, some ⟨g, 0, none⟩, cap, pre ++ [a], by omega, rfl, by rw [← HN1.out], (H7.out.set (Q : Int) (k1 : Int)).t, by rw [← HN1.out]; exact (H7.out.set (Q : Int) (k1 : Int)).o, fun q hq => ((H7.out.set (Q : Int) (k1 : Int)).ne q hq).1, (H7.out.set (Q : Int) (k1 : Int)).me, (H7.out.set (Q : Int) (k1 : Int)).g, HEN, HQL, hr20, HRN, HSN⟩ | exact ⟨k1, Q, r2, some ⟨g, 0, none⟩, cap, pre ++ [a], by omega, rfl, by rw [← HN1.out], H7.out.t, by rw [← HN1.out]; exact H7.out.o, fun q hq => (H7.out.ne q hq).1, H7.out.me, H7.out.g, HEN, HQL, hr20, HRN, HSN⟩
            case measure => first | (have e1 := (H7.out.set (Q : Int) (k1 : Int)).t.c1; have e2 := HTBO.out.c1; simp only [e1, e2]; simp; done) | (have e1 := H7.out.t.c1; have e2 := HTBO.out.c1; simp only [e1, e2]; simp; done))
        · have HRL2 : Hid (r2 - V < sumF f (ls.drop (j + 1))) := Lib.hid (by have := HRLa.out; omega)
          have HRS2 : Hid (sumF f (ls.drop (j + 1)) ≤ cntC) := Lib.hid (by have := HRSa.out; omega)
          have HPK2 : Hid (pk f ls r1 = pk f (ls.drop (j + 1)) (r2 - V)) := Lib.hid (by rw [HPK.out, HPN2.out, if_neg hcmp])
          go_wp2_with fail
          go_roundw
          case rel => exact ⟨j + 1, r2 - V, by go_num, rfl, rfl, by omega, HRL2, HRS2, HPK2, HM6.out, HW6.out⟩
          case measure => simp [intOf]; omega
    · obtain rfl : k = 0 := by omega
      have e9 : atM rs m F r = pre := by rw [HE.out]; show pre ++ [] = pre; rw [List.append_nil]
      rw [Nat.sub_zero] at ho ⊢
      go_wp2_with fail
      go_ret
      exact ⟨A1, c1, rfl, by rw [e9]; exact ho, hM1, hg1⟩
end Go.Proofs.YtcojodkcpemfdaaDoor
namespace Go.Proofs.YtcojodkcpemfdaaDoor
open Go Go.RowKit
set_option linter.unusedVariables false
set_option maxRecDepth 100000

def atAns (L : Int) (xs : List Int) (a r : Int) : List Int × Int :=
  if (ctAns L xs a).2 = 0 then (if 0 ≤ r ∧ r < (ctAns L xs a).1 then (ints (atM (xs.map Int.toNat) a.toNat (2 ^ xs.length - 1) r), 0) else ([], 2)) else ([], (ctAns L xs a).2)
theorem ct_zero {L : Int} {xs : List Int} {a : Int} (h : (ctAns L xs a).2 = 0) : alphB L xs = true ∧ lenB a = true ∧ ctB (xs.map Int.toNat) a.toNat = true ∧ (ctAns L xs a).1 = traM (xs.map Int.toNat) a.toNat := by
  unfold ctAns at h ⊢
  split at h
  · rename_i e1
    split at h
    · rename_i e2
      split at h
      · rename_i e3
        rw [if_pos e1, if_pos e2, if_pos e3]
        exact ⟨e1, e2, e3, rfl⟩
      · exact absurd h (by decide)
    · exact absurd h (by decide)
  · exact absurd h (by decide)
theorem atM_len (rs : List Nat) (n : Nat) (hl : rs.length = n) (h8 : n ≤ 8) (hr : ∀ i, rs.getD i 0 < 2 ^ n) : ∀ (m F : Nat) (r : Int), F < 2 ^ n → 0 ≤ r → r < tN rs F m → (atM rs m F r).length = m
  | 0, _, _, _, _, _ => rfl
  | m + 1, F, r, hF, h1, h2 => by
    have hb : ∀ a, a ∈ bitsOf F → a < n := fun a ha => by
      rw [bits_range F n h8 hF] at ha
      exact List.mem_range.1 (List.mem_filter.1 ha).1
    rw [tN_succ rs n F m hl h8 hr hF] at h2
    obtain ⟨a, r', hp, hm, h3, h4⟩ := pk_some (fun a => tN rs (bhM rs F a) m) (fun a => tN_nonneg rs _ m) (bitsOf F) r h1 h2
    rw [atM_step rs m F a r r' hp, List.length_cons, atM_len rs n hl h8 hr m (bhM rs F a) r' (bhM_lt rs n F a hF (hr a)) h3 h4]
theorem atAns_bad (L : Int) (xs : List Int) (a r : Int) (h : (ctAns L xs a).2 ≠ 0) : atAns L xs a r = ([], (ctAns L xs a).2) := by unfold atAns; rw [if_neg h]
theorem atAns_out (L : Int) (xs : List Int) (a r : Int) (h : (ctAns L xs a).2 = 0) (h2 : ¬ (0 ≤ r ∧ r < (ctAns L xs a).1)) : atAns L xs a r = ([], 2) := by unfold atAns; rw [if_pos h, if_neg h2]
theorem atAns_yes (n k : Nat) (rs : List Nat) (r : Int) (hl : rs.length = n) (h : (ctAns (n : Int) (ints rs) (k : Int)).2 = 0) (h2 : 0 ≤ r ∧ r < (ctAns (n : Int) (ints rs) (k : Int)).1) : atAns (n : Int) (ints rs) (k : Int) r = (ints (atM rs k (2 ^ n - 1) r), 0) := by
  unfold atAns; rw [if_pos h, if_pos h2, ints_toNat, ints_len, hl]; rfl
theorem cin_bad {w w' : World} {L : Int} {xs : List Int} {a : Int} {e : Ending} (h : CinPost w L xs a [] e w') (hc : (ctAns L xs a).2 ≠ 0) : e = .returned (.tuple #[.slice none 0 0, .int .i64 0, .int .i64 (ctAns L xs a).2]) ∧ Below w.heap.size w w' := by
  have hbad : badM L [] = false := rfl
  unfold CinPost at h
  unfold ctAns at hc ⊢
  rw [hbad, Bool.not_false, Bool.and_true] at h
  split at h
  · rename_i e1
    rw [if_pos e1] at hc ⊢
    split at h
    · rename_i e2
      rw [if_pos e2] at hc ⊢
      split at h
      · rename_i e3
        rw [if_pos e3] at hc
        exact absurd rfl hc
      · rename_i e3
        rw [if_neg e3]
        exact h
    · rename_i e2
      rw [if_neg e2]
      exact h
  · rename_i e1
    rw [if_neg e1]
    exact h
theorem cin_good {w w' : World} {L : Int} {xs : List Int} {a : Int} {e : Ending} (h : CinPost w L xs a [] e w') (hc : (ctAns L xs a).2 = 0) : ∃ A' c', e = .returned (.tuple #[.slice A' xs.length c', .int .i64 (ctAns L xs a).1, .int .i64 0]) ∧ Own 84 w' w.heap.size A' xs.length c' xs ∧ Below w.heap.size w w' := by
  obtain ⟨h1, h2, h3, h4⟩ := ct_zero hc
  have hbad : badM L [] = false := rfl
  unfold CinPost at h
  rw [hbad, Bool.not_false, Bool.and_true, if_pos h1, if_pos h2, if_pos h3] at h
  rw [h4]
  exact h
set_option maxHeartbeats 1600000 in
theorem implTraceAtRank (L : Int) (A : Option Addr) (n c : Nat) (xs : List Int) (a r : Int) (w : World) (h : Rd w A n xs) (hwf : Wf xs) (hL1 : -9223372036854775808 ≤ L) (hL2 : L ≤ 9223372036854775807) (hn : n ≤ maxLen) (ha1 : -9223372036854775808 ≤ a) (ha2 : a ≤ 9223372036854775807) (hr1 : -9223372036854775808 ≤ r) (hr2 : r ≤ 9223372036854775807) (hT : Tab w) :
    Calls Tryd.prog 43 #[.agg #[.int .i64 L, .slice A n c], .int .i64 a, .int .i64 r] w (LsPost w (atAns L xs a r).1.length (atAns L xs a r).1 (atAns L xs a r).2) := by
  have HB := Lib.hid (below1 w (.cells #[.int .i64 L, .slice A n c] 29))
  have hh := h.below HB.out
  have hT1 := hT.below HB.out
  have x0 := box_new 29 w L A n c
  have hn2 : n ≤ 9223372036854775807 := by unfold maxLen at hn; omega
  have HC := Lib.hid (countIn_any L A n c xs a none 0 0 [] _ hh hwf hL1 hL2 hn2 (Rd.nil _ _) (fun x hx => (by cases hx)) (by omega) hT1)
  by_cases hc : (ctAns L xs a).2 = 0
  · obtain ⟨ha, hle, hct, hv⟩ := ct_zero hc
    have ha3 : 0 ≤ a ∧ a ≤ 24 := of_decide_eq_true hle
    obtain ⟨k, rfl⟩ := Int.eq_ofNat_of_zero_le ha3.1
    have hk : k ≤ 24 := by omega
    obtain ⟨rs, rfl, rfl, h8, hr, hrel, hlen, hd, _⟩ := alphB_nats L xs n h.1 ha
    have HG := Lib.hid (fun e w' h9 => cin_good (w := w.alloc (.cells #[.int .i64 (n : Int), .slice A n c] 29)) (w' := w') (e := e) h9 hc)
    by_cases hrk : 0 ≤ r ∧ r < (ctAns (n : Int) (ints rs) (k : Int)).1
    · rw [atAns_yes n k rs r hlen hc hrk]
      have hfull := tN_full rs n k hlen
      rw [hv, ints_toNat] at hrk
      have hcb : traM rs k ≤ cntC := by rw [ints_toNat] at hct; exact of_decide_eq_true hct
      have hF : 2 ^ n - 1 < 2 ^ n := by have := p2_pos n; omega
      have hrN : r < tN rs (2 ^ n - 1) k := by rw [hfull]; exact hrk.2
      have HLN := Lib.hid (atM_len rs n hlen h8 hr k (2 ^ n - 1) r hF hrk.1 hrN)
      have HNF := Lib.hid (fun w0 gk gf go gr bm A c (h0 : Rd w0 A n (ints rs)) hT => normalFormAt_any w0 gk gf go gr bm A n c rs h0 h8 hr hT k (2 ^ n - 1) r hk hF hrk.1 hrN (by rw [hfull]; exact hcb))
      have HTR := Lib.hid (fun A c w => traces_any A n c k w h8)
      rw [ints_len, hlen] at HG
      have hvV : (ctAns (n : Int) (ints rs) (k : Int)).1 = traM rs k := by rw [hv, ints_toNat]; rfl
      rw [hvV] at HG
      have hcr := hrk.2
      have hr0 := hrk.1
      obtain ⟨V, hV⟩ : ∃ V, V = traM rs k := ⟨_, rfl⟩
      have hcr2 : r < V := by rw [hV]; exact hrk.2
      rw [← hV] at HG
      obtain ⟨Z, hZ⟩ : ∃ Z, Z = atM rs k (2 ^ n - 1) r := ⟨_, rfl⟩
      rw [← hZ] at HNF HLN ⊢
      obtain ⟨P, hP⟩ : ∃ P, P = 2 ^ n - 1 := ⟨_, rfl⟩
      rw [← hP] at HNF HTR
      have HTT := Lib.hid (fun ww hw => hT1.below (w' := ww) hw)
      clear hV hZ hP hrN hF hcb hfull hrk hv hvV hct hle ha3 ha hc hcr hd hlen hrel hr hh hT1 hwf
      show Calls _ _ _ _ (LsPost w (ints Z).length (ints Z) 0)
      rw [ints_len, HLN.out]
      have x00 := x0.c0
      have x01 := x0.c1
      go_enter Tryd.func43, Tryd.ntmps43
      go_wp2_with fail
      refine HC.out.mono ?_
      intro e w1 h9
      obtain ⟨A1, c1, rfl, ho1, hb1⟩ := HG.out _ _ h9
      clear h9
      have HB1 := Lib.hid (HB.out.trans (hb1.mono HB.out.size))
      have HO1 := Lib.hid ho1
      have HT1 := Lib.hid (HTT.out _ hb1)
      clear ho1 hb1
      go_wp2_with fail
      refine (HTR.out A1 c1 _).mono ?_
      rintro e w2 ⟨rfl, hb2⟩
      have HB2 := Lib.hid (HB1.out.trans (hb2.mono HB1.out.size))
      have HR2 := Lib.hid (HO1.out.rd.below hb2)
      have HT2 := Lib.hid (HT1.out.below hb2)
      clear hb2
      go_wp2_with fail
      refine (counter_any A1 n c1 rs w2).mono ?_
      rintro e w3 ⟨gk, gf, go, gr, bm, rfl, hM⟩
      have HB3 := Lib.hid (HB2.out.trans (hM.1.mono HB2.out.size))
      have HN3 := Lib.hid (HNF.out w2 gk gf go gr bm A1 c1 HR2.out HT2.out w3 hM)
      have hbm : w2.heap.size ≤ bm := hM.2.1
      clear hM
      go_wp2_with fail
      refine HN3.out.mono ?_
      rintro e w4 ⟨A4, c4, rfl, ho4, hM4, hg4⟩
      go_wp2_with fail
      go_ret2
      exact ⟨A4, c4, rfl, ho4.mono HB3.out.size, HB3.out.grown hg4 HB3.out.size (fun q e => by injection e with e; have := HB2.out.size; omega)⟩
    · rw [atAns_out _ _ _ _ hc hrk]
      rw [ints_len, hlen] at HG
      obtain ⟨V, hV⟩ : ∃ V, V = (ctAns (n : Int) (ints rs) (k : Int)).1 := ⟨_, rfl⟩
      rw [← hV] at HG hrk
      have x00 := x0.c0
      have x01 := x0.c1
      clear hV hv hct hle ha3 ha hc hd hlen hrel hr hh hT1 hwf
      by_cases hneg : r < 0
      · go_enter Tryd.func43, Tryd.ntmps43
        go_wp2_with fail
        refine HC.out.mono ?_
        intro e w1 h9
        obtain ⟨A1, c1, rfl, ho1, hb1⟩ := HG.out _ _ h9
        clear h9 hrk
        go_wp2_with fail
        go_ret2
        exact ⟨none, 0, rfl, Own.nil _ _ _, HB.out.trans (hb1.mono HB.out.size)⟩
      · have hge : V ≤ r := by omega
        go_enter Tryd.func43, Tryd.ntmps43
        go_wp2_with fail
        refine HC.out.mono ?_
        intro e w1 h9
        obtain ⟨A1, c1, rfl, ho1, hb1⟩ := HG.out _ _ h9
        clear h9 hrk
        go_wp2_with fail
        go_ret2
        exact ⟨none, 0, rfl, Own.nil _ _ _, HB.out.trans (hb1.mono HB.out.size)⟩
  · rw [atAns_bad _ _ _ _ hc]
    have HBD := Lib.hid (fun e w' h9 => cin_bad (w := w.alloc (.cells #[.int .i64 L, .slice A n c] 29)) (w' := w') (e := e) h9 hc)
    obtain ⟨C, hC⟩ : ∃ C, C = (ctAns L xs a).2 := ⟨_, rfl⟩
    rw [← hC] at HBD hc ⊢
    have x00 := x0.c0
    have x01 := x0.c1
    clear hC hh hT1 hwf
    go_enter Tryd.func43, Tryd.ntmps43
    go_wp2_with fail
    refine HC.out.mono ?_
    intro e w1 h9
    obtain ⟨rfl, hb1⟩ := HBD.out _ _ h9
    clear h9
    go_wp2_with fail
    go_ret2
    exact ⟨none, 0, rfl, Own.nil _ _ _, HB.out.trans (hb1.mono HB.out.size)⟩
end Go.Proofs.YtcojodkcpemfdaaDoor
namespace Go.Proofs.YtcojodkcpemfdaaDoor
open Go Go.RowKit
set_option linter.unusedVariables false
set_option maxRecDepth 100000

/-- The letters of a set from a letter on. -/
def frm (F n c : Nat) : List Nat := ((List.range n).drop c).filter fun x => F.testBit x
theorem frm_cons (F n c : Nat) (h : c < n) : frm F n c = if F.testBit c = true then c :: frm F n (c + 1) else frm F n (c + 1) := by
  unfold frm
  rw [List.drop_eq_getElem_cons (by rw [List.length_range]; exact h), List.getElem_range, List.filter_cons]
theorem frm_end (F n : Nat) : frm F n n = [] := by
  unfold frm; rw [List.drop_eq_nil_of_le (by rw [List.length_range]; exact Nat.le_refl _)]; rfl
theorem frm_zero (F n : Nat) (h8 : n ≤ 8) (hF : F < 2 ^ n) : frm F n 0 = bitsOf F := by rw [bits_range F n h8 hF]; rfl
theorem nb_flip {a b : Bool} (h : a = !b) : b = !a := by revert h; cases a <;> cases b <;> decide
set_option maxHeartbeats 6400000 in
theorem l06At_any (A : Option Addr) (n c k : Nat) (rs : List Nat) (r : Int) (w : World) (h : Rd w A n (ints rs)) (h8 : n ≤ 8) (hl : rs.length = n) (hr : ∀ i, rs.getD i 0 < 2 ^ n) (hk : k ≤ 24) (hr0 : 0 ≤ r) (hr1 : r < traM rs k) (hS : traM rs k ≤ cntC) :
    Calls Tryd.prog 99 #[.agg #[.int .i64 (n : Int), .slice A n c], .int .i64 (k : Int), .int .i64 r] w fun e w' => ∃ A' c', e = .returned (.slice A' k c') ∧ Own 2 w' w.heap.size A' k c' (ints (atM rs k (2 ^ n - 1) r)) ∧ Below w.heap.size w w' := by
  have hp8 : 2 ^ n ≤ 256 := Nat.pow_le_pow_right (by decide) h8
  have hp0 := p2_pos n
  obtain ⟨i0, hi, hz0, hz1, hz2⟩ := info_parts info_int
  have HB := Lib.hid (below1 w (.cells #[.int .i64 (n : Int), .slice A n c] 29))
  have hh := h.below HB.out
  have x0 := box_new 29 w (n : Int) A n c
  have HAF : Hid (∀ (ww : World) (mask j : Nat), Rd ww A n (ints rs) → mask < 2 ^ n → j < n → Calls Tryd.prog 156 #[.agg #[.int .i64 (n : Int), .slice A n c], .int .i64 (mask : Int), .int .i64 (j : Int)] ww fun e w' => e = .returned (.int .i64 ((stM rs mask j : Nat) : Int)) ∧ Below ww.heap.size ww w') := Lib.hid fun ww mask j h1 h2 h3 => after_any A n c j mask rs ww h1 h8 hr h2 h3
  have HSL := Lib.hid (fun mask c => stM_lt rs n mask c)
  have HTL := Lib.hid (tails_any A n c k rs _ hh h8 hr hk)
  have HTA : Hid (∀ i : Nat, i < k + 1 → (tabV rs n (k + 1))[i]? = some (rowV rs n i (2 ^ n))) := Lib.hid fun i hi => tabV_at rs n (k + 1) i hi
  have HSM := Lib.hid (fun (w : World) A3 c3 lo hi => rd_small (w := w) (A := A3) (n := k + 1) (c := c3) (lo := lo) (hi := hi) (rs := rs) (m := n) (k := k + 1) h8)
  have HOS := Lib.hid (opp_start n)
  have HON := Lib.hid (fun mask F a => opp_next rs n mask F a h8 hr)
  have HOT := Lib.hid (fun mask F m => opp_tl rs n mask F m hl h8 hr)
  have HSU : Hid (∀ F m, F < 2 ^ n → tN rs F (m + 1) = sumF (fun a => tN rs (bhM rs F a) m) (frm F n 0)) := Lib.hid fun F m hF => by rw [frm_zero F n h8 hF]; exact tN_succ rs n F m hl h8 hr hF
  have HFU := Lib.hid (tN_full rs n k hl)
  have HF0 := Lib.hid (fun F hF => frm_zero F n h8 hF)
  rw [← HFU.out] at hr1 hS
  have HR1 := Lib.hid hr1
  have HS1 := Lib.hid hS
  obtain ⟨F0, hF0⟩ : ∃ F0, F0 = 2 ^ n - 1 := ⟨_, rfl⟩
  rw [← hF0] at HOS HR1 HS1 ⊢
  obtain ⟨P, hP⟩ : ∃ P, P = 2 ^ n := ⟨_, rfl⟩
  rw [← hP] at HAF HSL HTA HSU hp8 hp0 HF0
  have HPE := Lib.hid hP
  obtain ⟨w0, hw0⟩ : ∃ w0, w0 = w.alloc (.cells #[.int .i64 (n : Int), .slice A n c] 29) := ⟨_, rfl⟩
  rw [← hw0] at hh x0 HTL
  have HB0 := Lib.hid (show Below w.heap.size w w0 by rw [hw0]; exact HB.out)
  have hkw : IntKind.i64.wrap ((k : Int) - 1) = (k : Int) - 1 := by rw [IntKind.wrap_i64]; omega
  clear hP hF0 hr h hl HB hr1 hS HFU
  have y0 := x0.c0
  have y1 := x0.c1
  rw [hw0] at y0 y1
  go_enter Tryd.func99, Tryd.ntmps99
  go_wp2_with fail
  rw [← hw0]
  refine HTL.out.mono ?_
  rintro e w1 ⟨A3, c3, rfl, hss, hb1⟩
  have HRS := Lib.hid (HSM.out w1 A3 c3 _ _ hss)
  have HO : Own 2 (w1.alloc (.cells #[] 2)) w1.heap.size (some ⟨w1.heap.size, 0, none⟩) 0 0 [] := World.ownsRow_lit w1 #[] 0 (Nat.le_refl _) (by unfold maxLen; omega) rfl
  have HX := Lib.hid (fun (ww : World) (h9 : Below w1.heap.size w1 ww) => x0.below (hb1.trans (h9.mono hb1.size)) x0.lt)
  have HRR := Lib.hid (fun (ww : World) (h9 : Below w1.heap.size w1 ww) => hh.below (hb1.trans (h9.mono hb1.size)))
  have HB1 := Lib.hid (HB0.out.trans (hb1.mono HB0.out.size))
  clear hss hw0 y0 y1
  go_wp2_with fail
  go_loopw [2, 8, 9, 10] (fun v q s i wr => ∃ (k1 F mask : Nat) (r1 : Int) (A1 : Option Addr) (c1 : Nat) (pre : List Nat), k1 ≤ k ∧ v = .int .i64 r1 ∧ q = .slice A1 (k - k1) c1 ∧ s = .int .i64 mask ∧ i = .int .i64 ((k1 : Int) - 1) ∧ Own 2 wr w1.heap.size A1 (k - k1) c1 (ints pre) ∧ Below w1.heap.size w1 wr ∧ Hid (Opp n mask F) ∧ Hid (atM rs k F0 r = pre ++ atM rs k1 F r1) ∧ 0 ≤ r1 ∧ Hid (r1 < tN rs F k1) ∧ Hid (tN rs F k1 ≤ cntC)) (fun _ _ _ i _ => (intOf i + 1).toNat)
  case atStart => exact ⟨k, F0, 0, r, _, 0, [], Nat.le_refl _, rfl, by rw [Nat.sub_self], rfl, by go_num, by rw [Nat.sub_self]; exact HO, below1 _ _, HOS, Lib.hid rfl, hr0, HR1, HS1⟩
  case round =>
    clear HO HR1 HS1 HOS hr0
    obtain ⟨k1, F, mask, r1, A1, c1, pre, hk1, rfl, rfl, rfl, rfl, ho, hb, HOP, HE, hr10, HR1, HS1⟩ := hrel
    by_cases hk0 : 0 < k1
    · obtain ⟨k2, rfl⟩ : ∃ k2, k1 = k2 + 1 := ⟨k1 - 1, by omega⟩
      have e1 : ((k2 + 1 : Nat) : Int) - 1 = (k2 : Int) := by omega
      rw [e1]
      have hFl : F < P := by rw [HPE.out]; exact HOP.out.2.1
      have hMl : mask < P := by rw [HPE.out]; exact HOP.out.1
      have HSUM := HSU.out F k2 hFl
      have hnn : ∀ a, 0 ≤ tN rs (bhM rs F a) k2 := fun a => tN_nonneg rs _ k2
      obtain ⟨f, hf⟩ : ∃ f : Nat → Int, f = fun a => tN rs (bhM rs F a) k2 := ⟨_, rfl⟩
      rw [← hf] at HSUM
      have HFA : Hid (∀ a, f a = tN rs (bhM rs F a) k2) := Lib.hid fun a => by rw [hf]
      have HNN := Lib.hid (sumF_mem f (fun a => by rw [HFA.out]; exact hnn a))
      have HN0 := Lib.hid hnn
      have HTOT : Hid (r1 < sumF f (frm F n 0) ∧ sumF f (frm F n 0) ≤ cntC) := Lib.hid ⟨by rw [← HSUM]; exact HR1.out, by rw [← HSUM]; exact HS1.out⟩
      have HSTEP : Hid (∀ a r', pk f (frm F n 0) r1 = some (a, r') → atM rs k F0 r = pre ++ [a] ++ atM rs k2 (bhM rs F a) r') := Lib.hid fun a r' h9 => by
        rw [hf, HF0.out F hFl] at h9
        rw [HE.out, atM_step rs k2 F a r1 r' h9, List.append_assoc]; rfl
      have HTV : Hid (∀ a, a < n → tlV rs n k2 (stM rs mask a) = capV (f a)) := Lib.hid fun a ha => by rw [HFA.out]; exact HOT.out _ _ _ (HON.out mask F a ha HOP.out)
      obtain ⟨N1, hN1⟩ : ∃ N1, N1 = k - (k2 + 1) := ⟨_, rfl⟩
      have hN24 : N1 ≤ 24 := by omega
      have HN1 := Lib.hid (show N1 + 1 = k - k2 by omega)
      rw [← hN1] at ho ⊢
      obtain ⟨b3, off3, C4, c4, rfl, hb3, hc3, hr4⟩ := HRS.out.elem (k := k2) (by omega) (HTA.out k2 (by omega))
      rw [rowV_len] at hc3 hr4
      have HC3 := Lib.hid hc3
      have HR4 := Lib.hid hr4
      have hk2 : k2 < k + 1 := by omega
      clear hf hN1 hnn HSUM HE HR1 HS1 e1 hc3 hr4
      obtain ⟨w5, rfl⟩ : ∃ w9 : World, w9 = wr := ⟨_, rfl⟩
      go_wp2_with fail
      go_loopw [2, 8, 9, 11] (fun v q s i wx => ∃ (j : Nat) (r2 : Int), j ≤ n ∧ i = .int .i64 j ∧ v = .int .i64 r2 ∧ q = .slice A1 N1 c1 ∧ s = .int .i64 mask ∧ 0 ≤ r2 ∧ Hid (r2 < sumF f (frm F n j)) ∧ Hid (sumF f (frm F n j) ≤ cntC) ∧ Hid (pk f (frm F n 0) r1 = pk f (frm F n j) r2) ∧ Below w5.heap.size w5 wx) (fun _ _ _ i _ => n - (intOf i).toNat)
      case atStart => exact ⟨0, r1, Nat.zero_le _, rfl, rfl, rfl, rfl, hr10, Lib.hid HTOT.out.1, Lib.hid HTOT.out.2, Lib.hid rfl, Below.refl _ _⟩
      case round =>
        obtain ⟨j, r2, hjn, rfl, rfl, rfl, rfl, hr20, HRL, HRS2, HPK, hb5⟩ := hrel
        have hlt : j < n := by
          rcases Nat.lt_or_ge j n with h | h
          · exact h
          · have e : j = n := by omega
            have h2 := HRL.out
            rw [e, frm_end] at h2
            have h3 : sumF f [] = 0 := rfl
            omega
        have hbx := hb.trans (hb5.mono hb.size)
        have z0 := (HX.out _ hbx).c0
        have z1 := (HX.out _ hbx).c1
        have HFC := Lib.hid (frm_cons F n j hlt)
        cases hbt : mask.testBit j
        · have hFt : F.testBit j = true := by have h9 := nb_flip (HOP.out.2.2 j hlt); rw [hbt] at h9; exact h9
          have HBT : Hid (∀ ww : World, Calls Tryd.prog 125 #[.int .i64 (mask : Int), .int .i64 (j : Int)] ww fun e w' => e = .returned (.bool false) ∧ ww = w') := Lib.hid fun ww => by rw [← hbt]; exact bit_any mask j (by omega) (by omega) ww
          rw [hFt, if_pos rfl] at HFC
          have hrl := HRL.out
          have hrs := HRS2.out
          rw [HFC.out, sumF_cons] at hrl hrs
          have hdn := (HNN.out (frm F n (j + 1))).1
          have hv0 : 0 ≤ f j := by rw [HFA.out]; exact HN0.out j
          have hvc : f j ≤ cntC := by omega
          have HPN : Hid (pk f (frm F n j) r2 = if r2 < f j then some (j, r2) else pk f (frm F n (j + 1)) (r2 - f j)) := Lib.hid (by rw [HFC.out]; rfl)
          have HTJ : tlV rs n k2 (stM rs mask j) = f j := by rw [HTV.out j hlt, capV_small _ hvc]
          have HVT := Lib.hid (HFA.out j)
          have HST := Lib.hid (fun r' => HSTEP.out j r')
          have HOJ := Lib.hid (HON.out mask F j hlt HOP.out)
          have hZ := HSL.out mask j hMl hlt
          have HAJ : Hid (∀ ww, Below w1.heap.size w1 ww → Calls Tryd.prog 156 #[.agg #[.int .i64 (n : Int), .slice A n c], .int .i64 (mask : Int), .int .i64 (j : Int)] ww fun e w' => e = .returned (.int .i64 ((stM rs mask j : Nat) : Int)) ∧ Below ww.heap.size ww w') := Lib.hid fun ww hw => HAF.out ww mask j (HRR.out ww hw) hMl hlt
          obtain ⟨Z, hZe⟩ : ∃ Z, Z = stM rs mask j := ⟨_, rfl⟩
          rw [← hZe] at hZ HTJ HAJ HOJ
          obtain ⟨b6, off6, v, rfl, hb6, hv, hcv⟩ := HR4.out.at_ hZ
          rw [rowV_at rs n k2 P Z hZ] at hv
          injection hv with hv
          subst hv
          rw [HTJ] at hcv
          obtain ⟨V, hV⟩ : ∃ V, V = f j := ⟨_, rfl⟩
          rw [← hV] at hrl hrs hv0 hvc HPN HVT hcv
          have hsub : IntKind.i64.wrap (r2 - V) = r2 - V := by unfold cntC at hvc hrs; rw [IntKind.wrap_i64]; omega
          have hr2b : r2 < 9223372036854775807 := by unfold cntC at hrs; omega
          have hvb : V < 9223372036854775807 := by unfold cntC at hvc; omega
          have hdr : Below w1.heap.size w1 wr.drew := hbx.drew
          have hc3w : wr.cell? ⟨b3, off3 + k2, none⟩ = some (.slice (some ⟨b6, off6, none⟩) P c4) := (hbx.cell (p := ⟨b3, off3 + k2, none⟩) hb3).trans HC3.out
          have hcvw : wr.cell? ⟨b6, off6 + Z, none⟩ = some (.int .i64 V) := (hbx.cell (p := ⟨b6, off6 + Z, none⟩) hb6).trans hcv
          have HCV := Lib.hid hcv
          have HRLa := Lib.hid hrl
          have HRSa := Lib.hid hrs
          have HDN := Lib.hid hdn
          clear hZe hV hcv hbt hFt hrl hrs hdn hvc HTJ HFC HRL HRS2
          by_cases hcmp : r2 < V
          · have HEN : Hid (atM rs k F0 r = pre ++ [j] ++ atM rs k2 (bhM rs F j) r2) := Lib.hid (HST.out r2 (by rw [HPK.out, HPN.out, if_pos hcmp]))
            have HRN : Hid (r2 < tN rs (bhM rs F j) k2) := Lib.hid (by rw [← HVT.out]; exact hcmp)
            have HSN : Hid (tN rs (bhM rs F j) k2 ≤ cntC) := Lib.hid (by rw [← HVT.out]; have h8 := HRSa.out; have h9 := HDN.out; omega)
            have hml : N1 + 1 ≤ maxLen := by unfold maxLen; omega
            have hby2 : (N1 + 1) * 8 ≤ 140737488355328 := by omega
            clear HPN HVT HST HSTEP
            go_wp2_with fail
            refine (HBT.out _).mono ?_
            rintro e w' ⟨rfl, rfl⟩
            go_wp2_with fail
            go_region_with (go_at_call 156; refine (HAJ.out _ hdr).mono ?_; rintro e wz ⟨rfl, hbz⟩; have hbw : Below w1.heap.size w1 wz := hdr.trans (hbz.mono hdr.size); have q0 := (HX.out _ hbw).c0; have q1 := (HX.out _ hbw).c1; have hc3z : wz.cell? ⟨b3, off3 + k2, none⟩ = some (.slice (some ⟨b6, off6, none⟩) P c4) := (hbw.cell (p := ⟨b3, off3 + k2, none⟩) hb3).trans HC3.out; have hcvz : wz.cell? ⟨b6, off6 + Z, none⟩ = some (.int .i64 V) := (hbw.cell (p := ⟨b6, off6 + Z, none⟩) hb6).trans HCV.out; have hb5z : Below w5.heap.size w5 wz := (hb5.drew).trans (hbz.mono hb5.size))
            all_goals (
              have ho9 := ho.below hb5z
              go_wp2_with (at_builtin; refine wpList_append_own _ rfl _ _ 22 rfl w1.heap.size 2 i0 (.int .i64 0) 1 8 Tryd.underlying22 hi hz0 hz1 hz2 rfl (by decide) (.slice A1 N1 c1) N1 ((ints pre).map (Value.int .i64)) rfl (World.ownsRow.alloc ho9 _) ⟨wz.heap.size, 0, none⟩ 1 1 [.int .i64 (j : Int)] rfl rfl ?s1 ?s2 hml hby2 ?s5 ?_)
              case s1 => exact cell_one_new _ _ _
              case s2 => intro u hu; simp at hu; subst hu; rfl
              case s5 => have := hbw.size; simp; omega
              intro v' w7 hown hg7 _
              rw [ints_snoc_map] at hown
              have hb7 : Below w1.heap.size w1 w7 := (hbw.alloc hbw.size _).grown hg7 (by have := hbw.size; simp; omega) (fun g hgr => (World.ownsRow.lt ho9 g hgr).1)
              obtain ⟨A7, c7, hv, ho7⟩ := own_shape hown
              rw [hv]
              clear hg7 hown hv
              have u0 := (HX.out _ hb7).c0
              have u1 := (HX.out _ hb7).c1
              have HA7 := Lib.hid (HAJ.out w7 hb7)
              go_wp2_with fail
              refine HA7.out.mono ?_
              rintro e w8 ⟨rfl, hb8⟩
              have ho8 := ho7.below hb8
              have HB8 := Lib.hid (hb7.trans (hb8.mono hb7.size))
              clear hb8
              go_wp2_with fail
              go_roundw
              case rel => exact ⟨k2, bhM rs F j, Z, r2, A7, c7, pre ++ [j], by omega, rfl, by rw [← HN1.out], rfl, by go_num, by rw [← HN1.out]; exact ho8, HB8.out, HOJ, HEN, hr20, HRN, HSN⟩
              case measure => simp [intOf])
          · have HRL2 : Hid (r2 - V < sumF f (frm F n (j + 1))) := Lib.hid (by have := HRLa.out; omega)
            have HRS2 : Hid (sumF f (frm F n (j + 1)) ≤ cntC) := Lib.hid (by have := HRSa.out; omega)
            have HPK2 : Hid (pk f (frm F n 0) r1 = pk f (frm F n (j + 1)) (r2 - V)) := Lib.hid (by rw [HPK.out, HPN.out, if_neg hcmp])
            clear HPN HVT HST HSTEP
            go_wp2_with fail
            refine (HBT.out _).mono ?_
            rintro e w' ⟨rfl, rfl⟩
            go_wp2_with fail
            go_region_with (go_at_call 156; refine (HAJ.out _ hdr).mono ?_; rintro e wz ⟨rfl, hbz⟩; have hbw : Below w1.heap.size w1 wz := hdr.trans (hbz.mono hdr.size); have q0 := (HX.out _ hbw).c0; have q1 := (HX.out _ hbw).c1; have hc3z : wz.cell? ⟨b3, off3 + k2, none⟩ = some (.slice (some ⟨b6, off6, none⟩) P c4) := (hbw.cell (p := ⟨b3, off3 + k2, none⟩) hb3).trans HC3.out; have hcvz : wz.cell? ⟨b6, off6 + Z, none⟩ = some (.int .i64 V) := (hbw.cell (p := ⟨b6, off6 + Z, none⟩) hb6).trans HCV.out; have hb5z : Below w5.heap.size w5 wz := (hb5.drew).trans (hbz.mono hb5.size))
            all_goals (
              go_wp2_with fail
              go_roundw
              case rel => exact ⟨j + 1, r2 - V, by omega, by go_num, rfl, rfl, rfl, by omega, HRL2, HRS2, HPK2, hb5z⟩
              case measure => simp [intOf]; omega)
        · have hFt : F.testBit j = false := by have h9 := nb_flip (HOP.out.2.2 j hlt); rw [hbt] at h9; exact h9
          have HBT : Hid (∀ ww : World, Calls Tryd.prog 125 #[.int .i64 (mask : Int), .int .i64 (j : Int)] ww fun e w' => e = .returned (.bool true) ∧ ww = w') := Lib.hid fun ww => by rw [← hbt]; exact bit_any mask j (by omega) (by omega) ww
          rw [hFt, if_neg (by decide)] at HFC
          have HRL2 : Hid (r2 < sumF f (frm F n (j + 1))) := Lib.hid (by rw [← HFC.out]; exact HRL.out)
          have HRS3 : Hid (sumF f (frm F n (j + 1)) ≤ cntC) := Lib.hid (by rw [← HFC.out]; exact HRS2.out)
          have HPK2 : Hid (pk f (frm F n 0) r1 = pk f (frm F n (j + 1)) r2) := Lib.hid (by rw [HPK.out, HFC.out])
          clear hbt hFt HFC
          go_wp2_with fail
          refine (HBT.out _).mono ?_
          rintro e w' ⟨rfl, rfl⟩
          go_wp2_with fail
          go_roundw
          case rel => exact ⟨j + 1, r2, by omega, by go_num, rfl, rfl, rfl, hr20, HRL2, HRS3, HPK2, hb5⟩
          case measure => simp [intOf]; omega
    · obtain rfl : k1 = 0 := by omega
      have e9 : atM rs k F0 r = pre := by rw [HE.out]; show pre ++ [] = pre; rw [List.append_nil]
      rw [Nat.sub_zero] at ho ⊢
      go_wp2_with fail
      go_ret
      exact ⟨A1, c1, rfl, by rw [e9]; exact ho.mono HB1.out.size, HB1.out.trans (hb.mono HB1.out.size)⟩
end Go.Proofs.YtcojodkcpemfdaaDoor
namespace Go.Proofs.YtcojodkcpemfdaaDoor
open Go Go.RowKit
set_option linter.unusedVariables false
set_option maxRecDepth 100000

set_option maxHeartbeats 1600000 in
theorem specTraceAtRank (L : Int) (A : Option Addr) (n c : Nat) (xs : List Int) (a r : Int) (w : World) (h : Rd w A n xs) (hwf : Wf xs) (hL1 : -9223372036854775808 ≤ L) (hL2 : L ≤ 9223372036854775807) (hn : n ≤ maxLen) (ha1 : -9223372036854775808 ≤ a) (ha2 : a ≤ 9223372036854775807) (hr1 : -9223372036854775808 ≤ r) (hr2 : r ≤ 9223372036854775807) :
    Calls Tryd.prog 42 #[.agg #[.int .i64 L, .slice A n c], .int .i64 a, .int .i64 r] w (LsPost w (atAns L xs a r).1.length (atAns L xs a r).1 (atAns L xs a r).2) := by
  have HB := Lib.hid (below1 w (.cells #[.int .i64 L, .slice A n c] 29))
  have hh := h.below HB.out
  have x0 := box_new 29 w L A n c
  have hn2 : n ≤ 9223372036854775807 := by unfold maxLen at hn; omega
  have HC := Lib.hid (specCountTraces L A n c xs a _ hh hwf hL1 hL2 hn2 ha1 ha2)
  have x00 := x0.c0
  have x01 := x0.c1
  by_cases hc : (ctAns L xs a).2 = 0
  · obtain ⟨ha, hle, hct, hv⟩ := ct_zero hc
    have ha3 : 0 ≤ a ∧ a ≤ 24 := of_decide_eq_true hle
    obtain ⟨k, rfl⟩ := Int.eq_ofNat_of_zero_le ha3.1
    have hk : k ≤ 24 := by omega
    obtain ⟨rs, rfl, rfl, h8, hr, hrel, hlen, hd, _⟩ := alphB_nats L xs n h.1 ha
    have hvV : (ctAns (n : Int) (ints rs) (k : Int)).1 = traM rs k := by rw [hv, ints_toNat]; rfl
    have hcb : traM rs k ≤ cntC := by rw [ints_toNat] at hct; exact of_decide_eq_true hct
    have hv0 : 0 ≤ traM rs k := by rw [← tN_full rs n k hlen]; exact tN_nonneg rs _ k
    rw [hc, hvV] at HC
    have hsub : IntKind.i64.wrap (traM rs k - 1) = traM rs k - 1 := by unfold cntC at hcb; rw [IntKind.wrap_i64]; omega
    by_cases hrk : 0 ≤ r ∧ r < (ctAns (n : Int) (ints rs) (k : Int)).1
    · rw [atAns_yes n k rs r hlen hc hrk]
      rw [hvV] at hrk
      have hF : 2 ^ n - 1 < 2 ^ n := by have := p2_pos n; omega
      have HLN := Lib.hid (atM_len rs n hlen h8 hr k (2 ^ n - 1) r hF hrk.1 (by rw [tN_full rs n k hlen]; exact hrk.2))
      have HAT := Lib.hid (fun (ww : World) (h9 : Rd ww A n (ints rs)) => l06At_any A n c k rs r ww h9 h8 hlen hr hk hrk.1 hrk.2 hcb)
      have HIN : Hid (∀ ww : World, Calls Tryd.prog 98 #[.int .i64 r, .int .i64 0, .int .i64 (traM rs k - 1)] ww fun e w' => e = .returned (.bool true) ∧ ww = w') := Lib.hid fun ww => in_true r 0 (traM rs k - 1) ⟨hrk.1, by omega⟩ ww
      obtain ⟨Z, hZ⟩ : ∃ Z, Z = atM rs k (2 ^ n - 1) r := ⟨_, rfl⟩
      rw [← hZ] at HAT HLN ⊢
      obtain ⟨V, hV⟩ : ∃ V, V = traM rs k := ⟨_, rfl⟩
      rw [← hV] at HIN HC hsub
      clear hZ hV hF hrk hvV hct hle ha3 ha hc hd hlen hrel hr hwf hv hcb hv0
      show Calls _ _ _ _ (LsPost w (ints Z).length (ints Z) 0)
      rw [ints_len, HLN.out]
      go_enter Tryd.func42, Tryd.ntmps42
      go_wp2_with fail
      refine HC.out.mono ?_
      rintro e w1 ⟨rfl, hb1⟩
      have HB1 := Lib.hid (HB.out.trans (hb1.mono HB.out.size))
      have HA1 := Lib.hid (HAT.out w1 (hh.below hb1))
      have x1 := x0.next hb1
      have y0 := x1.c0
      have y1 := x1.c1
      go_wp2_with fail
      all_goals try (refine (HIN.out _).mono ?_; rintro e w' ⟨rfl, rfl⟩; go_wp2_with fail)
      refine HA1.out.mono ?_
      rintro e w2 ⟨A2, c2, rfl, ho2, hb2⟩
      go_wp2_with fail
      go_ret2
      exact ⟨A2, c2, rfl, ho2.mono HB1.out.size, HB1.out.trans (hb2.mono HB1.out.size)⟩
    · rw [atAns_out _ _ _ _ hc hrk]
      rw [hvV] at hrk
      have HIN : Hid (∀ ww : World, Calls Tryd.prog 98 #[.int .i64 r, .int .i64 0, .int .i64 (traM rs k - 1)] ww fun e w' => e = .returned (.bool false) ∧ ww = w') := Lib.hid fun ww => in_false r 0 (traM rs k - 1) (by omega) ww
      obtain ⟨V, hV⟩ : ∃ V, V = traM rs k := ⟨_, rfl⟩
      rw [← hV] at HIN HC hsub
      clear hV hrk hvV hct hle ha3 ha hc hd hlen hrel hr hwf hv hcb hv0
      go_enter Tryd.func42, Tryd.ntmps42
      go_wp2_with fail
      refine HC.out.mono ?_
      rintro e w1 ⟨rfl, hb1⟩
      have HB1 := Lib.hid (HB.out.trans (hb1.mono HB.out.size))
      go_wp2_with fail
      all_goals try (refine (HIN.out _).mono ?_; rintro e w' ⟨rfl, rfl⟩; go_wp2_with fail)
      go_ret2
      exact ⟨none, 0, rfl, Own.nil _ _ _, HB1.out⟩
  · rw [atAns_bad _ _ _ _ hc]
    obtain ⟨C, hC⟩ : ∃ C, C = (ctAns L xs a).2 := ⟨_, rfl⟩
    rw [← hC] at HC hc ⊢
    obtain ⟨V, hV⟩ : ∃ V, V = (ctAns L xs a).1 := ⟨_, rfl⟩
    rw [← hV] at HC
    clear hC hV hwf
    go_enter Tryd.func42, Tryd.ntmps42
    go_wp2_with fail
    refine HC.out.mono ?_
    rintro e w1 ⟨rfl, hb1⟩
    have HB1 := Lib.hid (HB.out.trans (hb1.mono HB.out.size))
    go_wp2_with fail
    go_ret2
    exact ⟨none, 0, rfl, Own.nil _ _ _, HB1.out⟩
theorem atAns_small (L : Int) (xs : List Int) (a r : Int) : (atAns L xs a r).1.length ≤ 24 := by
  by_cases hc : (ctAns L xs a).2 = 0
  · obtain ⟨ha, hle, hct, hv⟩ := ct_zero hc
    by_cases hrk : 0 ≤ r ∧ r < (ctAns L xs a).1
    · have ha3 : 0 ≤ a ∧ a ≤ 24 := of_decide_eq_true hle
      obtain ⟨k, rfl⟩ := Int.eq_ofNat_of_zero_le ha3.1
      obtain ⟨rs, rfl, e2, h8, hr, hrel, hlen, hd, _⟩ := alphB_nats L xs xs.length rfl ha
      have hl2 : rs.length = (ints rs).length := by rw [ints_len]
      subst e2
      rw [atAns_yes _ k rs r (by rw [ints_len]) hc hrk]
      have hvV : (ctAns ((ints rs).length : Int) (ints rs) (k : Int)).1 = traM rs k := by rw [hv, ints_toNat]; rfl
      rw [hvV] at hrk
      have hF : 2 ^ (ints rs).length - 1 < 2 ^ (ints rs).length := by have := p2_pos (ints rs).length; omega
      show (ints _).length ≤ 24
      rw [ints_len, atM_len rs _ hlen h8 hr k _ r hF hrk.1 (by rw [tN_full rs _ k hlen]; exact hrk.2)]
      omega
    · rw [atAns_out _ _ _ _ hc hrk]; exact Nat.zero_le _
  · rw [atAns_bad _ _ _ _ hc]; exact Nat.zero_le _
end Go.Proofs.YtcojodkcpemfdaaDoor
