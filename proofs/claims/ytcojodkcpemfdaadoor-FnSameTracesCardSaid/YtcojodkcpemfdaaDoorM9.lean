/-
  The letters of a word that are in a set: the program's way and the model's. The pairs of letters that depend on each other: both sides. A list of lists as an answer: what a call leaves, what stays when its marks are set. The pair projections of a trace: both sides' lists of lists. Two words have one Foata form, and one list of pair projections, exactly if they are words of one trace: plain mathematics. The steps of the trace of a word: the program's side. FoataForm: both sides. PairProjections: both sides.
-/
import Derived.Test.YtcojodkcpemfdaaDoorM3
import Derived.Test.YtcojodkcpemfdaaDoorM2
import Derived.Maps.AppendAt
import Derived.Test.YtcojodkcpemfdaaDoorM1
import Derived.Test.YtcojodkcpemfdaaDoorM6
import Derived.Deep.CutRange
namespace Go.Proofs.YtcojodkcpemfdaaDoor
open Go Go.RowKit
set_option linter.unusedVariables false
set_option maxRecDepth 100000

def prjS (us : List Nat) (M : Nat) : List Nat := us.filter fun a => M.testBit a
theorem prjS_len (us : List Nat) (M : Nat) : (prjS us M).length ≤ us.length := List.length_filter_le _ _
theorem prjS_in (us : List Nat) (M k : Nat) (hk : k < us.length) (h : M.testBit (us.getD k 0) = true) : prjS (us.take (k + 1)) M = prjS (us.take k) M ++ [us.getD k 0] := by
  unfold prjS
  rw [List.take_add_one, List.getElem?_eq_getElem hk, List.filter_append]
  rw [List.getD_eq_getElem?_getD, List.getElem?_eq_getElem hk] at h ⊢
  have h' : M.testBit us[k] = true := h
  simp [h']
theorem prjS_out (us : List Nat) (M k : Nat) (hk : k < us.length) (h : M.testBit (us.getD k 0) = false) : prjS (us.take (k + 1)) M = prjS (us.take k) M := by
  unfold prjS
  rw [List.take_add_one, List.getElem?_eq_getElem hk, List.filter_append]
  rw [List.getD_eq_getElem?_getD, List.getElem?_eq_getElem hk] at h
  have h' : M.testBit us[k] = false := h
  simp [h']
set_option maxHeartbeats 1600000 in
theorem projection_any (A : Option Addr) (m c M : Nat) (us : List Nat) (w : World) (h : Rd w A m (ints us)) (hm : m ≤ 24) (hM : M < 9223372036854775808) (hus : ∀ p, p < m → us.getD p 0 < 8) :
    Calls Tryd.prog 123 #[.slice A m c, .int .i64 (M : Int)] w (MakesE 2 w (prjS us M).length (ints (prjS us M))) := by
  obtain ⟨i0, hi, hz0, hz1, hz2⟩ := info_parts info_int
  have HL : Hid (us.length = m) := Lib.hid (by have := h.1; rw [ints_len] at this; exact this)
  have HUS := Lib.hid hus
  clear hus
  go_enter Tryd.func123, Tryd.ntmps123
  go_wp2_with fail
  go_loopw [5, 10] (fun p q wr => ∃ (k N : Nat) (A1 : Option Addr) (c1 : Nat), k ≤ m ∧ N ≤ k ∧ p = .slice A1 N c1 ∧ q = .int .i64 (k : Int) ∧ N = (prjS (us.take k) M).length ∧ Own 2 wr w.heap.size A1 N c1 (ints (prjS (us.take k) M)) ∧ Below w.heap.size w wr) (fun _ q _ => m - (intOf q).toNat)
  case atStart => exact ⟨0, 0, _, 0, Nat.zero_le _, Nat.le_refl _, rfl, rfl, rfl, Own.nil _ _ _, Below.refl _ _⟩
  case round =>
    obtain ⟨k, N, A1, c1, hk, hNk, rfl, rfl, hN, ho, hb⟩ := hrel
    have HN := Lib.hid hN
    clear hN
    by_cases hlt : k < m
    · obtain ⟨b, off, x, rfl, hbs, hx, hcx⟩ := (h.below hb).at_ hlt
      rw [ints_getD us k (by rw [HL.out]; exact hlt)] at hx
      injection hx with hx
      have hu8 := HUS.out k hlt
      have HIN : Hid (M.testBit (us.getD k 0) = true → prjS (us.take (k + 1)) M = prjS (us.take k) M ++ [us.getD k 0]) := Lib.hid (prjS_in us M k (by rw [HL.out]; exact hlt))
      have HOUT : Hid (M.testBit (us.getD k 0) = false → prjS (us.take (k + 1)) M = prjS (us.take k) M) := Lib.hid (prjS_out us M k (by rw [HL.out]; exact hlt))
      obtain ⟨X, hX⟩ : ∃ X, X = us.getD k 0 := ⟨_, rfl⟩
      rw [← hX] at hx hu8 HIN HOUT
      subst hx
      obtain ⟨t, ht⟩ : ∃ t, t = M.testBit X := ⟨_, rfl⟩
      rw [← ht] at HIN HOUT
      have HT : Hid (∀ ww : World, Calls Tryd.prog 169 #[.int .i64 (M : Int), .int .i64 (X : Int)] ww fun e w' => e = .returned (.bool t) ∧ ww = w') := Lib.hid fun ww => by rw [ht]; exact has_any M X hM (by omega) ww
      clear hX ht
      cases t
      · have HO := Lib.hid (HOUT.out rfl)
        clear HOUT HIN
        go_wp2_with fail
        refine (HT.out _).mono ?_
        rintro e w' ⟨rfl, rfl⟩
        go_wp2_with fail
        go_roundw
        case rel => exact ⟨k + 1, N, A1, c1, hlt, by omega, rfl, by go_num, by rw [HO.out]; exact HN.out, by rw [HO.out]; exact ho, hb⟩
        case measure => simp [intOf]; omega
      · have HI := Lib.hid (HIN.out rfl)
        clear HOUT HIN
        have hml : N + 1 ≤ maxLen := by unfold maxLen; omega
        have hby2 : (N + 1) * 8 ≤ 140737488355328 := by omega
        go_wp2_with fail
        refine (HT.out _).mono ?_
        rintro e w' ⟨rfl, rfl⟩
        go_wp2_with (at_builtin; refine wpList_append_own _ rfl _ _ 22 rfl w.heap.size 2 i0 (.int .i64 0) 1 8 Tryd.underlying22 hi hz0 hz1 hz2 rfl (by decide) (.slice A1 N c1) N ((ints (prjS (us.take k) M)).map (Value.int .i64)) rfl (World.ownsRow.alloc ho _) ⟨wr.heap.size, 0, none⟩ 1 1 [.int .i64 (X : Int)] rfl rfl ?c1 ?c2 hml hby2 ?c5 ?_)
        case c1 => exact cell_one_new _ _ _
        case c2 => intro u hu; simp at hu; subst hu; rfl
        case c5 => have := hb.size; simp; omega
        intro v' w2 hown hg _
        rw [ints_snoc_map, ← HI.out] at hown
        have hb2 : Below w.heap.size w w2 := (hb.alloc hb.size _).grown hg (by have := hb.size; simp; omega) (fun r hr => (World.ownsRow.lt ho r hr).1)
        obtain ⟨A2, c2, hv, ho2⟩ := own_shape hown
        rw [hv]
        clear hg hown hv ho hb
        go_wp2_with fail
        go_roundw
        case rel => exact ⟨k + 1, N + 1, A2, c2, hlt, by omega, rfl, by go_num, by rw [HI.out, List.length_append, ← HN.out]; rfl, ho2, hb2⟩
        case measure => simp [intOf]; omega
    · have hkm : k = m := by omega
      subst hkm
      have HTK : Hid (us.take k = us) := Lib.hid (List.take_of_length_le (by rw [HL.out]; exact Nat.le_refl _))
      go_wp2_with fail
      go_ret
      rw [HTK.out] at HN ho
      obtain rfl := HN.out
      exact ⟨A1, c1, rfl, ho, hb⟩
set_option maxHeartbeats 1600000 in
theorem project_any (A : Option Addr) (m c M : Nat) (us : List Nat) (w : World) (h : Rd w A m (ints us)) (hm : m ≤ 24) (hM : M < 9223372036854775808) (hus : ∀ p, p < m → us.getD p 0 < 8) :
    Calls Tryd.prog 177 #[.slice A m c, .int .i64 (M : Int)] w (MakesE 2 w (prjS us M).length (ints (prjS us M))) := by
  obtain ⟨i0, hi, hz0, hz1, hz2⟩ := info_parts info_int
  have HL : Hid (us.length = m) := Lib.hid (by have := h.1; rw [ints_len] at this; exact this)
  have HUS := Lib.hid hus
  clear hus
  go_enter Tryd.func177, Tryd.ntmps177
  go_wp2_with fail
  go_loopw [5, 6] (fun p q wr => ∃ (k N : Nat) (A1 : Option Addr) (c1 : Nat), k ≤ m ∧ N ≤ k ∧ p = .slice A1 N c1 ∧ q = .int .i64 (k : Int) ∧ N = (prjS (us.take k) M).length ∧ Own 2 wr w.heap.size A1 N c1 (ints (prjS (us.take k) M)) ∧ Below w.heap.size w wr) (fun _ q _ => m - (intOf q).toNat)
  case atStart => exact ⟨0, 0, _, 0, Nat.zero_le _, Nat.le_refl _, rfl, rfl, rfl, World.ownsRow_lit w #[] 0 (Nat.le_refl _) (by unfold maxLen; omega) rfl, (Below.refl _ _).alloc (Nat.le_refl _) _⟩
  case round =>
    obtain ⟨k, N, A1, c1, hk, hNk, rfl, rfl, hN, ho, hb⟩ := hrel
    have HN := Lib.hid hN
    clear hN
    by_cases hlt : k < m
    · obtain ⟨b, off, x, rfl, hbs, hx, hcx⟩ := (h.below hb).at_ hlt
      rw [ints_getD us k (by rw [HL.out]; exact hlt)] at hx
      injection hx with hx
      have hu8 := HUS.out k hlt
      have HIN : Hid (M.testBit (us.getD k 0) = true → prjS (us.take (k + 1)) M = prjS (us.take k) M ++ [us.getD k 0]) := Lib.hid (prjS_in us M k (by rw [HL.out]; exact hlt))
      have HOUT : Hid (M.testBit (us.getD k 0) = false → prjS (us.take (k + 1)) M = prjS (us.take k) M) := Lib.hid (prjS_out us M k (by rw [HL.out]; exact hlt))
      obtain ⟨X, hX⟩ : ∃ X, X = us.getD k 0 := ⟨_, rfl⟩
      rw [← hX] at hx hu8 HIN HOUT
      subst hx
      obtain ⟨t, ht⟩ : ∃ t, t = M.testBit X := ⟨_, rfl⟩
      rw [← ht] at HIN HOUT
      have HT : Hid (∀ ww : World, Calls Tryd.prog 125 #[.int .i64 (M : Int), .int .i64 (X : Int)] ww fun e w' => e = .returned (.bool t) ∧ ww = w') := Lib.hid fun ww => by rw [ht]; exact bit_any M X hM (by omega) ww
      clear hX ht
      cases t
      · have HO := Lib.hid (HOUT.out rfl)
        clear HOUT HIN
        go_wp2_with fail
        refine (HT.out _).mono ?_
        rintro e w' ⟨rfl, rfl⟩
        go_wp2_with fail
        go_roundw
        case rel => exact ⟨k + 1, N, A1, c1, hlt, by omega, rfl, by go_num, by rw [HO.out]; exact HN.out, by rw [HO.out]; exact ho, hb⟩
        case measure => simp [intOf]; omega
      · have HI := Lib.hid (HIN.out rfl)
        clear HOUT HIN
        have hml : N + 1 ≤ maxLen := by unfold maxLen; omega
        have hby2 : (N + 1) * 8 ≤ 140737488355328 := by omega
        go_wp2_with fail
        refine (HT.out _).mono ?_
        rintro e w' ⟨rfl, rfl⟩
        go_wp2_with (at_builtin; refine wpList_append_own _ rfl _ _ 22 rfl w.heap.size 2 i0 (.int .i64 0) 1 8 Tryd.underlying22 hi hz0 hz1 hz2 rfl (by decide) (.slice A1 N c1) N ((ints (prjS (us.take k) M)).map (Value.int .i64)) rfl (World.ownsRow.alloc ho _) ⟨wr.heap.size, 0, none⟩ 1 1 [.int .i64 (X : Int)] rfl rfl ?c1 ?c2 hml hby2 ?c5 ?_)
        case c1 => exact cell_one_new _ _ _
        case c2 => intro u hu; simp at hu; subst hu; rfl
        case c5 => have := hb.size; simp; omega
        intro v' w2 hown hg _
        rw [ints_snoc_map, ← HI.out] at hown
        have hb2 : Below w.heap.size w w2 := (hb.alloc hb.size _).grown hg (by have := hb.size; simp; omega) (fun r hr => (World.ownsRow.lt ho r hr).1)
        obtain ⟨A2, c2, hv, ho2⟩ := own_shape hown
        rw [hv]
        clear hg hown hv ho hb
        go_wp2_with fail
        go_roundw
        case rel => exact ⟨k + 1, N + 1, A2, c2, hlt, by omega, rfl, by go_num, by rw [HI.out, List.length_append, ← HN.out]; rfl, ho2, hb2⟩
        case measure => simp [intOf]; omega
    · have hkm : k = m := by omega
      subst hkm
      have HTK : Hid (us.take k = us) := Lib.hid (List.take_of_length_le (by rw [HL.out]; exact Nat.le_refl _))
      go_wp2_with fail
      go_ret
      rw [HTK.out] at HN ho
      obtain rfl := HN.out
      exact ⟨A1, c1, rfl, ho, hb⟩
end Go.Proofs.YtcojodkcpemfdaaDoor
namespace Go.Proofs.YtcojodkcpemfdaaDoor
open Go Go.RowKit
set_option linter.unusedVariables false
set_option maxRecDepth 100000

def pairOf (a b : Nat) : Nat := 2 ^ a ||| 2 ^ b
/-- The pairs of a with letters below k, from a on. -/
def pairRow (r a k : Nat) : List Nat := ((List.range k).filter fun b => decide (a ≤ b) && r.testBit b).map (pairOf a)
def pairsL (rs : List Nat) : Nat → List Nat
  | 0 => []
  | k + 1 => pairsL rs k ++ pairRow (rs.getD k 0) k 24
theorem pairRow_yes (r a k : Nat) (h1 : a ≤ k) (h2 : r.testBit k = true) : pairRow r a (k + 1) = pairRow r a k ++ [pairOf a k] := by
  unfold pairRow; rw [List.range_succ, List.filter_append, List.map_append]; simp [h1, h2]
theorem pairRow_no (r a k : Nat) (h : (decide (a ≤ k) && r.testBit k) = false) : pairRow r a (k + 1) = pairRow r a k := by
  unfold pairRow; rw [List.range_succ, List.filter_append, List.map_append]; simp [h]
theorem pairRow_le (r a k : Nat) : (pairRow r a k).length ≤ k := by
  unfold pairRow; rw [List.length_map]
  exact Nat.le_trans (List.length_filter_le _ _) (by rw [List.length_range]; exact Nat.le_refl _)
theorem pairRow_start (r a : Nat) : ∀ k, k ≤ a → pairRow r a k = []
  | 0, _ => rfl
  | k + 1, h => by rw [pairRow_no r a k (by have : ¬ a ≤ k := by omega
                                            simp [this]), pairRow_start r a k (by omega)]
theorem pairRow_full (r a n : Nat) (hr : r < 2 ^ n) : ∀ k, n ≤ k → pairRow r a k = pairRow r a n
  | 0, h => by have : n = 0 := by omega
               subst this; rfl
  | k + 1, h => by
    by_cases e : n = k + 1
    · rw [e]
    · rw [pairRow_no r a k (by have : r.testBit k = false := Nat.testBit_lt_two_pow (Nat.lt_of_lt_of_le hr (Nat.pow_le_pow_right (by decide) (by omega)))
                               simp [this]), pairRow_full r a n hr k (by omega)]
theorem pairsL_le (rs : List Nat) : ∀ k, (pairsL rs k).length ≤ k * 24
  | 0 => Nat.zero_le _
  | k + 1 => by
    show (pairsL rs k ++ _).length ≤ _
    rw [List.length_append]
    have := pairsL_le rs k; have := pairRow_le (rs.getD k 0) k 24; omega
/-- The same by the list of members, after j of them. -/
def pairMem (r a j : Nat) : List Nat := (((bitsOf r).take j).filter fun b => decide (a ≤ b)).map (pairOf a)
theorem pairMem_yes (r a j b : Nat) (hb : (bitsOf r)[j]? = some b) (h : a ≤ b) : pairMem r a (j + 1) = pairMem r a j ++ [pairOf a b] := by
  unfold pairMem; rw [List.take_add_one, hb, List.filter_append, List.map_append]; simp [h]
theorem pairMem_no (r a j b : Nat) (hb : (bitsOf r)[j]? = some b) (h : ¬ a ≤ b) : pairMem r a (j + 1) = pairMem r a j := by
  unfold pairMem; rw [List.take_add_one, hb, List.filter_append, List.map_append]; simp [h]
theorem pairMem_le (r a j : Nat) : (pairMem r a j).length ≤ j := by
  unfold pairMem; rw [List.length_map]
  exact Nat.le_trans (List.length_filter_le _ _) (by rw [List.length_take]; omega)
theorem pairMem_full (r a j : Nat) (hj : (bitsOf r).length ≤ j) : pairMem r a j = pairRow r a 24 := by
  unfold pairMem pairRow
  rw [List.take_of_length_le hj]
  unfold bitsOf upTo
  rw [List.filter_filter]
theorem own_block (A : Option Addr) (n c : Nat) : (Value.slice A n c).ownBlock = A.map (·.block) := by cases A <;> rfl
theorem alloc_grown {w w' : World} {o : Obj} {row : Option Nat} (hg : (w.alloc o).grownBy w' row) : w.grownBy w' row := by
  have hb := below1 w o
  exact ⟨hg.os.trans hb.os, hg.tape.trans hb.tape, hg.output.trans hb.output, Nat.le_trans hb.size hg.size, fun k hk hne => (hg.block k (Nat.lt_of_lt_of_le hk hb.size) hne).trans (hb.block k hk)⟩
set_option maxHeartbeats 3200000 in
theorem pairs_any (A : Option Addr) (n c : Nat) (rs : List Nat) (w : World) (h : Rd w A n (ints rs)) (hn : n ≤ 8) (hr : ∀ i, rs.getD i 0 < 2 ^ n) (hT : Tab w) :
    Calls Tryd.prog 171 #[.slice A n c] w (MakesE 84 w (pairsL rs n).length (ints (pairsL rs n))) := by
  obtain ⟨i0, hi, hz0, hz1, hz2⟩ := info_parts info_set
  have HL : Hid (rs.length = n) := Lib.hid (by have := h.1; rw [ints_len] at this; exact this)
  go_enter Tryd.func171, Tryd.ntmps171
  go_wp2_with fail
  go_loopw [3, 10] (fun p q wr => ∃ (k N : Nat) (A1 : Option Addr) (c1 : Nat), k ≤ n ∧ p = .slice A1 N c1 ∧ q = .int .i64 (k : Int) ∧ N = (pairsL rs k).length ∧ Own 84 wr w.heap.size A1 N c1 (ints (pairsL rs k)) ∧ Below w.heap.size w wr) (fun _ q _ => n - (intOf q).toNat)
  case atStart => exact ⟨0, 0, _, 0, Nat.zero_le _, rfl, rfl, rfl, Own.nil _ _ _, Below.refl _ _⟩
  case round =>
    obtain ⟨k, N, A1, c1, hk, rfl, rfl, hN, ho, hb⟩ := hrel
    have hN24 : N ≤ k * 24 := by rw [hN]; exact pairsL_le rs k
    have HN := Lib.hid hN
    clear hN
    by_cases hlt : k < n
    · obtain ⟨b, off, x, rfl, hbs, hx, hcx⟩ := (h.below hb).at_ hlt
      rw [ints_getD rs k (by rw [HL.out]; exact hlt)] at hx
      injection hx with hx
      subst hx
      have HNX : Hid (pairsL rs (k + 1) = pairsL rs k ++ pairRow (rs.getD k 0) k 24) := Lib.hid rfl
      have hm24 : rs.getD k 0 < 16777216 := by have := p8 n hn; have := hr k; omega
      obtain ⟨D, hD⟩ : ∃ D, D = rs.getD k 0 := ⟨_, rfl⟩
      rw [← hD] at hcx hm24 HNX
      obtain ⟨pk, hpk⟩ : ∃ pk, pk = pairsL rs k := ⟨_, rfl⟩
      rw [← hpk] at ho HN HNX
      have hT1 := hT.below hb
      clear hD hpk
      obtain ⟨wo, hwo⟩ : ∃ wo : World, wr = wo := ⟨_, rfl⟩
      rw [hwo] at ho hb hT1 hcx hbs ⊢
      clear hwo
      go_wp2_with fail
      refine (members_any D hm24 _ hT1).mono ?_
      rintro e w2 ⟨A2, c2, rfl, ho2, hb2⟩
      have hmb : (bitsOf D).length ≤ 24 := bitsOf_len D
      have hap : ∀ q, A1.map (·.block) = some q → A2.map (·.block) ≠ some q := fun q hq e => by have := (ho.lt q hq).2; have := (ho2.lt q e).1; omega
      have ho3 := ho.below hb2
      have hb3 := hb.trans (hb2.mono hb.size)
      have HPM : Hid (∀ t b, (bitsOf D)[t]? = some b → k ≤ b → pairMem D k (t + 1) = pairMem D k t ++ [pairOf k b]) := Lib.hid (fun t b => pairMem_yes D k t b)
      have HPN : Hid (∀ t b, (bitsOf D)[t]? = some b → ¬ k ≤ b → pairMem D k (t + 1) = pairMem D k t) := Lib.hid (fun t b => pairMem_no D k t b)
      have HPF : Hid (pairMem D k (bitsOf D).length = pairRow D k 24) := Lib.hid (pairMem_full D k _ (Nat.le_refl _))
      have HP0 : Hid (pairMem D k 0 = []) := Lib.hid rfl
      have HPL : Hid (∀ t, (pairMem D k t).length ≤ t) := Lib.hid (pairMem_le D k)
      have HB24 : Hid (∀ (t b : Nat), (bitsOf D)[t]? = some b → b < 24) := Lib.hid (fun t b hb => ((bitsOf_mem D b).1 (List.mem_of_getElem? hb)).1)
      obtain ⟨ms, hms⟩ : ∃ ms, ms = bitsOf D := ⟨_, rfl⟩
      rw [← hms] at ho2 hmb HPM HPN HPF HB24 ⊢
      obtain ⟨F, hF⟩ : ∃ F, F = pairMem D k := ⟨_, rfl⟩
      rw [← hF] at HPM HPN HPF HP0 HPL
      obtain ⟨M, hM⟩ : ∃ M, M = ms.length := ⟨_, rfl⟩
      rw [← hM] at ho2 hmb HPF ⊢
      have HM := Lib.hid hM
      clear hms hF hM hb2 ho hb hT1 hcx
      go_wp2_with fail
      go_loopw [3, 18] (fun p q wr => ∃ (t N' : Nat) (A1 : Option Addr) (c1 : Nat), t ≤ M ∧ p = .slice A1 N' c1 ∧ q = .int .i64 (t : Int) ∧ N' = N + (F t).length ∧ Own 84 wr w.heap.size A1 N' c1 (ints (pk ++ F t)) ∧ Below w.heap.size w wr ∧ Own 2 wr wo.heap.size A2 M c2 (ints ms) ∧ (∀ q, A1.map (·.block) = some q → A2.map (·.block) ≠ some q)) (fun _ q _ => M - (intOf q).toNat)
      case atStart => exact ⟨0, N, A1, c1, Nat.zero_le _, rfl, rfl, by rw [HP0.out]; rfl, by rw [HP0.out, List.append_nil]; exact ho3, hb3, ho2, hap⟩
      case round =>
        clear ho3 hb3 ho2 hap
        obtain ⟨t, N', A1, c1, ht, rfl, rfl, hN', ho, hb, ho2, hap⟩ := hrel
        have hft := HPL.out t
        have HN' := Lib.hid hN'
        have hNb : N' ≤ 240 := by omega
        clear hN' hft
        by_cases hlt2 : t < M
        · obtain ⟨b2, off2, x2, rfl, hbs2, hx2, hcx2⟩ := ho2.rd.at_ hlt2
          have hma : ms[t]? = some (ms.getD t 0) := by rw [List.getD_eq_getElem?_getD, List.getElem?_eq_getElem (by rw [← HM.out]; exact hlt2)]; rfl
          rw [ints_at hma] at hx2
          injection hx2 with hx2
          subst hx2
          obtain ⟨a, haa⟩ : ∃ a, a = ms.getD t 0 := ⟨_, rfl⟩
          rw [← haa] at hma hcx2
          have ha24 := HB24.out t a hma
          by_cases hle : k ≤ a
          · have hd : decide ((k : Int) ≤ (a : Int)) = true := decide_eq_true (by omega)
            have HS := Lib.hid (HPM.out t a hma hle)
            have hk62 : k ≤ 62 := by omega
            have ha62 : a ≤ 62 := by omega
            have HW1 : Hid (∀ ww : World, Calls Tryd.prog 77 #[.int .i64 0, .int .i64 (k : Int)] ww fun e w' => e = .returned (.int .i64 ((0 ||| 2 ^ k : Nat) : Int)) ∧ ww = w') := Lib.hid fun ww => with_any 0 k (by omega) hk62 ww
            have hpb : (0 ||| 2 ^ k) < 9223372036854775808 := by rw [Nat.zero_or]; exact p2_lt k hk62
            have HPO : Hid ((0 ||| 2 ^ k) ||| 2 ^ a = pairOf k a) := Lib.hid (by rw [Nat.zero_or]; rfl)
            obtain ⟨P, hP⟩ : ∃ P, P = 0 ||| 2 ^ k := ⟨_, rfl⟩
            rw [← hP] at HW1 hpb HPO
            have HW2 : Hid (∀ ww : World, Calls Tryd.prog 77 #[.int .i64 (P : Int), .int .i64 (a : Int)] ww fun e w' => e = .returned (.int .i64 ((P ||| 2 ^ a : Nat) : Int)) ∧ ww = w') := Lib.hid fun ww => with_any P a hpb ha62 ww
            rw [HPO.out] at HW2
            obtain ⟨X, hX⟩ : ∃ X, X = pairOf k a := ⟨_, rfl⟩
            rw [← hX] at HW2 HS
            have hml : N' + 1 ≤ maxLen := by unfold maxLen; omega
            have hby2 : (N' + 1) * 8 ≤ 140737488355328 := by omega
            clear hP hX haa hma HPM HPN HPO hpb
            go_wp2_with fail
            refine (HW1.out _).mono ?_
            rintro e w' ⟨rfl, rfl⟩
            go_wp2_with fail
            refine (HW2.out _).mono ?_
            rintro e w' ⟨rfl, rfl⟩
            go_wp2_with (at_builtin; refine wpList_append_own_at _ rfl _ _ 72 rfl w.heap.size 84 i0 (.int .i64 0) 1 8 Tryd.underlying72 hi hz0 hz1 hz2 rfl (by decide) (.slice A1 N' c1) N' ((ints (pk ++ F t)).map (Value.int .i64)) rfl (World.ownsRow.alloc ho _) ⟨wr.heap.size, 0, none⟩ 1 1 [.int .i64 (X : Int)] rfl rfl ?c1 ?c2 hml hby2 ?c5 ?_)
            case c1 => exact cell_one_new _ _ _
            case c2 => intro u hu; simp at hu; subst hu; rfl
            case c5 => have := hb.size; simp; omega
            intro v' w4 hown hg _ hat
            rw [ints_snoc_map, List.append_assoc, ← HS.out] at hown
            have hb4 : Below w.heap.size w w4 := (hb.alloc hb.size _).grown hg (by have := hb.size; simp; omega) (fun r hr => (World.ownsRow.lt ho r hr).1)
            have ho22 := ho2.apart (alloc_grown hg) (fun q hq e => by rw [own_block] at e; exact hap q e hq)
            obtain ⟨A3, c3, hv, ho4⟩ := own_shape hown
            have hap2 : ∀ q, A3.map (·.block) = some q → (some (⟨b2, off2, none⟩ : Addr)).map (·.block) ≠ some q := fun q hq e => by
              rw [hv, own_block, own_block] at hat
              rcases hat with h9 | h9
              · exact hap q (h9 ▸ hq) e
              · have h8 := (ho2.lt q e).2
                rw [hq] at h9
                injection h9 with h9
                have h7 : wr.heap.size ≤ (wr.alloc (.cells #[.int .i64 (X : Int)] 84)).heap.size := (below1 wr _).size
                omega
            rw [hv]
            clear hown hg hv ho hb ho2 hap hat
            go_wp2_with fail
            go_roundw
            case rel => exact ⟨t + 1, N' + 1, A3, c3, by omega, rfl, by go_num, by rw [HS.out, List.length_append, HN'.out]; rfl, ho4, hb4, ho22, hap2⟩
            case measure => simp [intOf]; omega
          · have hd : decide ((k : Int) ≤ (a : Int)) = false := decide_eq_false (by omega)
            have HS := Lib.hid (HPN.out t a hma hle)
            clear haa hma HPM HPN
            go_wp2_with fail
            go_roundw
            case rel => exact ⟨t + 1, N', A1, c1, by omega, rfl, by go_num, by rw [HS.out]; exact HN'.out, by rw [HS.out]; exact ho, hb, ho2, hap⟩
            case measure => simp [intOf]; omega
        · have htm : t = M := by omega
          subst htm
          rw [HPF.out] at ho HN'
          go_wp2_with fail
          go_roundw
          case rel => exact ⟨k + 1, N', A1, c1, by omega, rfl, by go_num, by rw [HNX.out, List.length_append, HN'.out, HN.out], by rw [HNX.out]; exact ho, hb⟩
          case measure => simp [intOf]; omega
    · have hkm : k = n := by omega
      subst hkm
      go_wp2_with fail
      go_ret
      obtain rfl := HN.out
      exact ⟨A1, c1, rfl, ho, hb⟩
end Go.Proofs.YtcojodkcpemfdaaDoor
namespace Go.Proofs.YtcojodkcpemfdaaDoor
open Go Go.RowKit
set_option linter.unusedVariables false
set_option maxRecDepth 100000

/-- What a function that answers a list of lists and a code leaves. -/
def LssPost (w : World) (VN : Nat) (VX : List (List Int)) (C : Int) (e : Ending) (w' : World) : Prop :=
  ∃ A c, e = .returned (.tuple #[.slice A VN c, .int .i64 C]) ∧ OwnSS w' w.heap.size w'.heap.size A VN c VX ∧ Below w.heap.size w w'
section
variable {w w' : World} {lo hi : Nat}
theorem Touched.under {w0 : World} (ht : Touched lo hi w w') (hb : Below w0.heap.size w0 w) (hl : w0.heap.size ≤ lo) : Below w0.heap.size w0 w' :=
  ⟨ht.os.trans hb.os, ht.tape.trans hb.tape, ht.output.trans hb.output, Nat.le_trans hb.size ht.size, fun k hk => (ht.block k (Nat.lt_of_lt_of_le hk hb.size) (.inl (Nat.lt_of_lt_of_le hk hl))).trans (hb.block k hk)⟩
theorem Box.touched {T : TypeId} {g : Nat} {L : Int} {A : Option Addr} {n c : Nat} (h : Box T w g L A n c) (ht : Touched lo hi w w') (hne : g < lo ∨ hi ≤ g) : Box T w' g L A n c := by
  unfold Box; rw [ht.block g h.lt hne]; exact h
theorem row_touched {b n c : Nat} {E : TypeId} {A : Option Addr} {vs : List Value} (h : w.ownsRow b E 1 (.slice A n c) n vs) (ht : Touched lo hi w w') (hne : ∀ q, A.map (·.block) = some q → q < lo ∨ hi ≤ q) : w'.ownsRow b E 1 (.slice A n c) n vs := by
  refine ⟨h.1, ?_⟩
  rcases h.2 with h0 | ⟨g, cap, cur, e, hb, hg, rest⟩
  · exact .inl h0
  · have hA : A = some ⟨g, 0, none⟩ := by injection e
    have hq : A.map (·.block) = some g := by rw [hA]; rfl
    refine .inr ⟨g, cap, cur, e, hb, ?_, rest⟩
    rw [ht.block g (row_block h g hq).2 (hne g hq)]; exact hg
theorem OwnSS.touched {l u n c : Nat} {A : Option Addr} {xss : List (List Int)} (h : OwnSS w l u A n c xss) (ht : Touched lo hi w w') (hne : u ≤ lo ∨ hi ≤ l) : OwnSS w' l u A n c xss := by
  obtain ⟨ts, e, ho⟩ := h
  refine ⟨ts, e, ho.1, row_touched ho.2.1 ht (fun q hq => ?_), ho.2.2.1, fun j t hj => ⟨row_touched (ho.2.2.2 j t hj).1 ht (fun q hq => ?_), (ho.2.2.2 j t hj).2⟩⟩
  · have h1 := ho.lt q hq
    rcases hne with h2 | h2
    · left; omega
    · right; omega
  · have h1 := ((ho.2.2.2 j t hj).1).lt q hq
    have h3 := ((ho.2.2.2 j t hj).2 q hq).1
    rcases hne with h2 | h2
    · left; omega
    · right; omega
theorem OwnSS.wide {l u l' u' n c : Nat} {A : Option Addr} {xss : List (List Int)} (h : OwnSS w l u A n c xss) (h1 : l' ≤ l) (h2 : u ≤ u') : OwnSS w l' u' A n c xss := by
  obtain ⟨ts, e, ho⟩ := h
  refine ⟨ts, e, ho.1, ?_, fun q hq => Nat.lt_of_lt_of_le (ho.2.2.1 q hq) h2, fun j t hj => ⟨((ho.2.2.2 j t hj).1).mono h1, fun q hq => ⟨Nat.lt_of_lt_of_le ((ho.2.2.2 j t hj).2 q hq).1 h2, ((ho.2.2.2 j t hj).2 q hq).2⟩⟩⟩
  refine ⟨ho.2.1.1, ?_⟩
  rcases ho.2.1.2 with h0 | ⟨g, cap, cur, e, hg, rest⟩
  · exact .inl h0
  · exact .inr ⟨g, cap, cur, e, by omega, rest⟩
theorem OwnSS.nil (l u : Nat) : OwnSS w l u none 0 0 [] :=
  ⟨[], rfl, rfl, World.ownsRow_nil w l _ _, fun q hq => (by cases hq), fun j t hj => (by cases hj)⟩
end
theorem small_of {VX : List (List Int)} {SV : Nat} (h : sumL VX = SV) (hs : SV ≤ 1048576) : ∀ xs, xs ∈ VX → xs.length ≤ maxLen := fun xs hx => by
  have := len_sumL VX xs hx
  unfold maxLen; omega
theorem marksSS_mem : ∀ (VX : List (List Int)) (k : Nat) (ys : List Int), ys ∈ marksSS k VX → ∃ xs, xs ∈ VX ∧ ys.length = xs.length
  | [], _, _, h => by cases h
  | x :: r, k, ys, h => by
    rcases List.mem_cons.1 h with h | h
    · exact ⟨x, List.mem_cons_self, by rw [h, marks_len]⟩
    · obtain ⟨xs, h1, h2⟩ := marksSS_mem r _ ys h
      exact ⟨xs, List.mem_cons_of_mem _ h1, h2⟩
theorem small_marks {VX : List (List Int)} {SV : Nat} (h : sumL VX = SV) (hs : SV ≤ 1048576) : ∀ xs, xs ∈ marksSS 1 VX → xs.length ≤ maxLen := fun ys hy => by
  obtain ⟨xs, h1, h2⟩ := marksSS_mem VX 1 ys hy
  rw [h2]; exact small_of h hs xs h1
theorem markSS_one (lo hi : Nat) (A : Option Addr) (n c : Nat) (xss : List (List Int)) (w : World) (h : OwnSS w lo hi A n c xss) {SV : Nat} (hv : sumL xss = SV) (hs : SV ≤ 1048576) (hn : n ≤ 1048576) :
    Calls Tryd.prog 28 #[.slice A n c, .int .i64 1] w fun e w' => e = .returned (.int .i64 ((1 + SV : Nat) : Int)) ∧ OwnSS w' lo hi A n c (marksSS 1 xss) ∧ Touched lo hi w w' := by
  rw [← hv]
  exact markSS_any lo hi A n c 1 xss w h (by omega) hn (by omega)
theorem heldSS_one (A : Option Addr) (n c : Nat) (xss : List (List Int)) (w : World) (h : RdSS w A n (marksSS 1 xss)) {SV : Nat} (hv : sumL xss = SV) (hs : SV ≤ 1048576) (hn : n ≤ 1048576) :
    Calls Tryd.prog 35 #[.slice A n c, .int .i64 1] w fun e w' => e = .returned (.int .i64 ((1 + SV : Nat) : Int)) ∧ w = w' := by
  have hl : xss.length = n := by
    obtain ⟨ts, e, ht⟩ := h
    have := congrArg List.length e
    rw [List.length_map, ht.1, marksSS_len] at this
    exact this.symm
  rw [← hv]
  exact heldSS_any A n c 1 xss w h (by omega) hl hn (by omega)
end Go.Proofs.YtcojodkcpemfdaaDoor
namespace Go.Proofs.YtcojodkcpemfdaaDoor
open Go Go.RowKit
set_option linter.unusedVariables false
set_option maxRecDepth 100000

theorem info_sls : (Tryd.prog.info? 22).map (fun i => (i.zero, i.size, i.bytes)) = some (some (.slice none 0 0), 1, 24) := by kernel_rfl
/-- One more slice behind a row of slices: the element is new behind the row's elements; the row itself may have moved. -/
theorem OwnSS.snoc {w w1 w2 : World} {lo n N c : Nat} {A : Option Addr} {v' : Value} {At : Option Addr} {ct : Nat} {ys : List Int}
    {ts : List (Option Addr × Nat × List Int)} (h : OwnT w lo w.heap.size A n c ts) (hb : Below w.heap.size w w1) (ho : Own 2 w1 w.heap.size At N ct ys) (hlo : lo ≤ w.heap.size)
    (hrow : w2.ownsRow lo 22 1 v' (n + 1) (valsT ts ++ [.slice At N ct])) (hg : w1.grownBy w2 (A.map (·.block)))
    (hat : v'.ownBlock = A.map (·.block) ∨ ∃ g, v'.ownBlock = some g ∧ w1.heap.size ≤ g) :
    ∃ A' c', v' = .slice A' (n + 1) c' ∧ OwnSS w2 lo w2.heap.size A' (n + 1) c' (ts.map (fun t => t.2.2) ++ [ys]) := by
  obtain ⟨g9, c', rfl, _, _⟩ := World.ownsRow.form hrow (Nat.succ_pos n)
  obtain ⟨A', hA9⟩ : ∃ A', A' = some (⟨g9, 0, none⟩ : Addr) := ⟨_, rfl⟩
  rw [← hA9] at hrow hat ⊢
  have ht := h
  have hN : ys.length = N := ho.len
  have hsz : w.heap.size ≤ w1.heap.size := hb.size
  have hsz2 : w1.heap.size ≤ w2.heap.size := hg.size
  have hA : ∀ q, A.map (·.block) = some q → lo ≤ q ∧ q < w.heap.size := fun q hq => row_block ht.2.1 q hq
  have hAt : ∀ q, At.map (·.block) = some q → w.heap.size ≤ q ∧ q < w1.heap.size := fun q hq => ho.lt q hq
  have hA' : ∀ q, A'.map (·.block) = some q → A.map (·.block) = some q ∨ w1.heap.size ≤ q := fun q hq => by
    rw [own_block] at hat
    rcases hat with h9 | ⟨g, h9, h8⟩
    · exact .inl (h9 ▸ hq)
    · rw [hq] at h9; injection h9 with h9; exact .inr (by omega)
  refine ⟨A', c', rfl, ts ++ [(At, ct, ys)], by rw [List.map_append]; rfl, by rw [List.length_append, ht.1]; rfl, ?_, fun q hq => (row_block hrow q hq).2, fun j t hj => ?_⟩
  · have : valsT (ts ++ [(At, ct, ys)]) = valsT ts ++ [.slice At N ct] := by unfold valsT; rw [List.map_append, ← hN]; rfl
    rw [this]; exact hrow
  · rcases Nat.lt_or_ge j ts.length with hlt | hge
    · rw [List.getElem?_append_left hlt] at hj
      have h9 := ht.2.2.2 j t hj
      have hblk : ∀ q, t.1.map (·.block) = some q → q < w.heap.size := fun q hq => (h9.1.lt q hq).2
      refine ⟨(h9.1.below hb).apart hg (fun q hq e9 => (h9.2 q hq).2.1 e9), fun q hq => ⟨by have := hblk q hq; omega, fun e9 => ?_, fun l u hl hu => ?_⟩⟩
      · rcases hA' q e9 with h8 | h8
        · exact (h9.2 q hq).2.1 h8
        · have := hblk q hq; omega
      · rcases Nat.lt_or_ge l ts.length with hl2 | hl2
        · rw [List.getElem?_append_left hl2] at hu
          exact (h9.2 q hq).2.2 l u hl hu
        · rw [List.getElem?_append_right hl2] at hu
          cases hd : l - ts.length with
          | zero =>
            rw [hd] at hu
            injection hu with hu
            subst hu
            intro e8
            have := (hAt q e8).1; have := hblk q hq; omega
          | succ k => rw [hd] at hu; cases hu
    · rw [List.getElem?_append_right hge] at hj
      cases hd : j - ts.length with
      | zero =>
        rw [hd] at hj
        injection hj with hj
        subst hj
        have hjl : j = ts.length := by omega
        refine ⟨?_, fun q hq => ⟨by have := (hAt q hq).2; omega, fun e9 => ?_, fun l u hl hu e8 => ?_⟩⟩
        · show Own 2 w2 lo At ys.length ct ys
          rw [hN]
          exact (ho.mono hlo).apart hg (fun q hq e9 => by have := (hA q e9).2; have := (hAt q hq).1; omega)
        · have h7 := hAt q hq
          rcases hA' q e9 with h8 | h8
          · have := (hA q h8).2; omega
          · omega
        · rcases Nat.lt_or_ge l ts.length with hl2 | hl2
          · rw [List.getElem?_append_left hl2] at hu
            have := ((ht.2.2.2 l u hu).1.lt q e8).2
            have := (hAt q hq).1; omega
          · rw [List.getElem?_append_right hl2] at hu
            have : l - ts.length ≠ 0 := by omega
            cases hk : l - ts.length with
            | zero => exact this hk
            | succ k => rw [hk] at hu; cases hu
      | succ k => rw [hd] at hj; cases hj
def ppL (us ps : List Nat) : List (List Int) := ps.map fun p => ints (prjS us p)
theorem ppL_next (us ps : List Nat) (k p : Nat) (h : ps[k]? = some p) : ppL us (ps.take (k + 1)) = ppL us (ps.take k) ++ [ints (prjS us p)] := by
  unfold ppL; rw [List.take_add_one, h, List.map_append]; rfl
theorem ppL_len (us ps : List Nat) : (ppL us ps).length = ps.length := by unfold ppL; rw [List.length_map]
theorem ppL_sum (us : List Nat) : ∀ ps, sumL (ppL us ps) ≤ ps.length * us.length
  | [] => Nat.zero_le _
  | p :: r => by
    have e : sumL (ppL us (p :: r)) = (ints (prjS us p)).length + sumL (ppL us r) := by unfold sumL ppL; rw [List.map_cons, List.map_cons, List.sum_cons]
    rw [e, ints_len, List.length_cons, Nat.succ_mul]
    have := prjS_len us p; have := ppL_sum us r; omega
theorem pairsL_small (rs : List Nat) : ∀ k, k ≤ 24 → ∀ p, p ∈ pairsL rs k → p < 9223372036854775808
  | 0, _, p, h => by cases h
  | k + 1, hk, p, h => by
    rcases List.mem_append.1 h with h | h
    · exact pairsL_small rs k (by omega) p h
    · obtain ⟨b, hb, rfl⟩ := List.mem_map.1 h
      have hb24 := List.mem_range.1 (List.mem_filter.1 hb).1
      have h9 : pairOf k b < 2 ^ 63 := Nat.or_lt_two_pow (Nat.pow_lt_pow_right (by decide) (by omega)) (Nat.pow_lt_pow_right (by decide) (by omega))
      exact h9
set_option maxHeartbeats 3200000 in
theorem pairProjections_any (A : Option Addr) (n c : Nat) (rs : List Nat) (A1 : Option Addr) (m d : Nat) (vs : List Nat) (w : World) (h : Rd w A n (ints rs)) (hn : n ≤ 8) (hr : ∀ i, rs.getD i 0 < 2 ^ n) (h2 : Rd w A1 m (ints vs)) (hm : m ≤ 24) (hvs : ∀ p, p < m → vs.getD p 0 < 8) (hT : Tab w) :
    Calls Tryd.prog 116 #[.slice A n c, .slice A1 m d] w fun e w' => ∃ A' c', e = .returned (.slice A' (pairsL rs n).length c') ∧ OwnSS w' w.heap.size w'.heap.size A' (pairsL rs n).length c' (ppL vs (pairsL rs n)) ∧ Below w.heap.size w w' := by
  obtain ⟨i1, hi1, hy0, hy1, hy2⟩ := info_parts info_sls
  have HP := Lib.hid (pairs_any A n c rs w h hn hr hT)
  have hpl := pairsL_le rs n
  have HPB : Hid (∀ (k p : Nat), (pairsL rs n)[k]? = some p → p < 9223372036854775808) := Lib.hid fun k p hk => pairsL_small rs n (by omega) p (List.mem_of_getElem? hk)
  obtain ⟨ps, hps⟩ : ∃ ps, ps = pairsL rs n := ⟨_, rfl⟩
  rw [← hps] at HP HPB hpl ⊢
  obtain ⟨N, hN⟩ : ∃ N, N = ps.length := ⟨_, rfl⟩
  have HN := Lib.hid hN
  rw [← hN] at HP hpl ⊢
  clear hps hN
  go_enter Tryd.func116, Tryd.ntmps116
  go_wp2_with fail
  refine HP.out.mono ?_
  rintro e w2 ⟨A2, c2, rfl, hop, hbw⟩
  have hrd := hop.rd
  have hNb : N ≤ 192 := by omega
  have hby : ∀ k, k < N → (k + 1) * 24 ≤ 140737488355328 := fun k hk => by omega
  have HBY := Lib.hid hby
  have HB2 := Lib.hid hbw
  have h22 := h2.below hbw
  clear hop hby hbw h hpl
  go_wp2_with fail
  go_loopw [5, 11] (fun p q wr => ∃ (k : Nat) (A3 : Option Addr) (c3 : Nat), k ≤ N ∧ p = .slice A3 k c3 ∧ q = .int .i64 (k : Int) ∧ OwnSS wr w2.heap.size wr.heap.size A3 k c3 (ppL vs (ps.take k)) ∧ Below w2.heap.size w2 wr) (fun _ q _ => N - (intOf q).toNat)
  case atStart => exact ⟨0, none, 0, Nat.zero_le _, rfl, rfl, OwnSS.nil _ _, Below.refl _ _⟩
  case round =>
    skip
    obtain ⟨k, A3, c3, hk, rfl, rfl, hss, hb⟩ := hrel
    by_cases hlt : k < N
    · obtain ⟨b, off, x, rfl, hbs, hx, hcx⟩ := (hrd.below hb).at_ hlt
      have hma : ps[k]? = some (ps.getD k 0) := by rw [List.getD_eq_getElem?_getD, List.getElem?_eq_getElem (by rw [← HN.out]; exact hlt)]; rfl
      rw [ints_at hma] at hx
      injection hx with hx
      subst hx
      have HNX := Lib.hid (ppL_next vs ps k _ hma)
      have hP := HPB.out k _ hma
      obtain ⟨P, hPe⟩ : ∃ P, P = ps.getD k 0 := ⟨_, rfl⟩
      rw [← hPe] at hcx HNX hP
      have hpj := projection_any A1 m d P vs wr (h22.below hb) hm hP hvs
      obtain ⟨ys, hys⟩ : ∃ ys, ys = ints (prjS vs P) := ⟨_, rfl⟩
      rw [← hys] at hpj HNX
      obtain ⟨Y, hY⟩ : ∃ Y, Y = (prjS vs P).length := ⟨_, rfl⟩
      rw [← hY] at hpj
      obtain ⟨ts, hts, hot⟩ := hss
      have HTS := Lib.hid hts
      have hkb := HBY.out k hlt
      have hml : k + 1 ≤ maxLen := by unfold maxLen; omega
      clear hPe hys hY hma hts
      obtain ⟨wo, hwo⟩ : ∃ wo : World, wr = wo := ⟨_, rfl⟩
      rw [hwo] at hot hb hpj hcx hbs ⊢
      clear hwo
      have hdl : decide ((k : Int) < (N : Int)) = true := decide_eq_true (by omega)
      go_wp2_with fail
      refine hpj.mono ?_
      rintro e w3 ⟨At, ct, rfl, hel, hbe⟩
      have hrow3 := row_kept hot.2.1 (grownBy_of_below hbe) (fun q _ e => by cases e)
      have hrb : ∀ q, A3.map (·.block) = some q → w2.heap.size ≤ q := fun q hq => (row_block hot.2.1 q hq).1
      go_wp2_with (at_builtin; refine wpList_append_own_at _ rfl _ _ 25 rfl w2.heap.size 22 i1 (.slice none 0 0) 1 24 Tryd.underlying25 hi1 hy0 hy1 hy2 rfl (by decide) (.slice A3 k c3) k (valsT ts) rfl (World.ownsRow.alloc hrow3 _) ⟨w3.heap.size, 0, none⟩ 1 1 [.slice At Y ct] rfl rfl ?c1 ?c2 hml hkb ?c5 ?_)
      case c1 => exact cell_one_new _ _ _
      case c2 => intro u hu; simp at hu; subst hu; rfl
      case c5 => have := hb.size; have := hbe.size; simp; omega
      intro v' w4 hown hg _ hat
      have hbw3 := hb.trans (hbe.mono hb.size)
      have hb4 : Below w2.heap.size w2 w4 := (hbw3.alloc hbw3.size _).grown hg (by have := hbw3.size; simp; omega) (fun r hr => hrb r (by rw [own_block] at hr; exact hr))
      have hg3 := alloc_grown hg
      rw [own_block] at hg3 hat
      obtain ⟨A4, c4, hv, hss4⟩ := OwnSS.snoc hot hbe hel hb.size hown hg3 (hat.imp id fun h9 => ⟨_, h9, Nat.le_succ _⟩)
      rw [hv]
      rw [HTS.out, ← HNX.out] at hss4
      clear hown hg hv hot hb hbe hel hrow3 hg3 hat hbw3 hpj hcx
      go_wp2_with fail
      go_roundw
      case rel => exact ⟨k + 1, A4, c4, by omega, rfl, by go_num, hss4, hb4⟩
      case measure => simp [intOf]; omega
    · have hkm : k = N := by omega
      subst hkm
      have hdl : decide ((k : Int) < (k : Int)) = false := decide_eq_false (by omega)
      have HTK : Hid (ps.take k = ps) := Lib.hid (List.take_of_length_le (by rw [HN.out]; exact Nat.le_refl _))
      go_wp2_with fail
      go_ret
      rw [HTK.out] at hss
      exact ⟨A3, c3, rfl, hss.wide HB2.out.size (Nat.le_refl _), HB2.out.trans (hb.mono HB2.out.size)⟩
end Go.Proofs.YtcojodkcpemfdaaDoor
namespace Go.Proofs.YtcojodkcpemfdaaDoor
open Go.RowKit
set_option linter.unusedVariables false
set_option maxRecDepth 100000

theorem ext_getD : ∀ (l m : List Nat), l.length = m.length → (∀ k, l.getD k 0 = m.getD k 0) → l = m
  | [], [], _, _ => rfl
  | [], b :: m, h, _ => by cases h
  | a :: l, [], h, _ => by cases h
  | a :: l, b :: m, h, h2 => by
    have h0 : a = b := h2 0
    have ht := ext_getD l m (Nat.succ.inj h) (fun k => h2 (k + 1))
    rw [h0, ht]
theorem padTo_getD (out : List Nat) (h k : Nat) : (padTo out h).getD k 0 = out.getD k 0 := by
  unfold padTo
  rw [List.getD_eq_getElem?_getD, List.getD_eq_getElem?_getD, List.getElem?_append]
  split
  · rfl
  · rename_i hk
    rw [List.getElem?_replicate, List.getElem?_eq_none (by omega : out.length ≤ k)]
    split <;> rfl
theorem foPut_getD (out : List Nat) (h a k : Nat) (h1 : 1 ≤ h) : (foPut out h a).getD k 0 = if k = h - 1 then out.getD k 0 ||| 2 ^ a else out.getD k 0 := by
  unfold foPut
  rw [getD_set _ _ _ _ (by rw [padTo_len]; omega), padTo_getD]
  by_cases e : k = h - 1
  · rw [if_pos e, if_pos e, e]
  · rw [if_neg e, if_neg e, padTo_getD]
/-- Whether a step has a letter on which a depends. -/
def depS (D : Nat → Nat → Bool) (s a : Nat) : Bool := (bitsOf s).any fun c => D c a
theorem depS_iff (D : Nat → Nat → Bool) (s a : Nat) : depS D s a = true ↔ ∃ c, c < 24 ∧ s.testBit c = true ∧ D c a = true := by
  unfold depS
  rw [List.any_eq_true]
  constructor
  · rintro ⟨c, hc, hd⟩
    have := (bitsOf_mem s c).1 hc
    exact ⟨c, this.1, this.2, hd⟩
  · rintro ⟨c, h1, h2, h3⟩
    exact ⟨c, (bitsOf_mem s c).2 ⟨h1, h2⟩, h3⟩
theorem depS_no (D : Nat → Nat → Bool) (s a : Nat) (h : ¬ ∃ c, c < 24 ∧ s.testBit c = true ∧ D c a = true) : depS D s a = false := by
  cases e : depS D s a
  · rfl
  · exact absurd ((depS_iff D s a).1 e) h
theorem depS_zero (D : Nat → Nat → Bool) (a : Nat) : depS D 0 a = false := depS_no D 0 a fun ⟨c, _, h, _⟩ => by rw [Nat.zero_testBit] at h; cases h
theorem depS_or (D : Nat → Nat → Bool) (s a b : Nat) (h : D a b = false) : depS D (s ||| 2 ^ a) b = depS D s b := by
  have : depS D (s ||| 2 ^ a) b = true ↔ depS D s b = true := by
    rw [depS_iff, depS_iff]
    constructor
    · rintro ⟨c, h1, h2, h3⟩
      rw [Nat.testBit_or, Bool.or_eq_true, Nat.testBit_two_pow, decide_eq_true_eq] at h2
      rcases h2 with h2 | h2
      · exact ⟨c, h1, h2, h3⟩
      · subst h2; rw [h] at h3; cases h3
    · rintro ⟨c, h1, h2, h3⟩
      exact ⟨c, h1, by rw [Nat.testBit_or, h2]; rfl, h3⟩
  cases h1 : depS D (s ||| 2 ^ a) b <;> cases h2 : depS D s b
  · rfl
  · exact absurd (this.2 h2) (by rw [h1]; decide)
  · exact absurd (this.1 h1) (by rw [h2]; decide)
  · rfl
/-- How many steps there are up to the last one with a letter on which a depends. -/
def lastD (D : Nat → Nat → Bool) (a : Nat) : List Nat → Nat
  | [] => 0
  | s :: out => if 0 < lastD D a out then lastD D a out + 1 else if depS D s a = true then 1 else 0
/-- h is that number. -/
def IsLast (D : Nat → Nat → Bool) (a : Nat) (out : List Nat) (h : Nat) : Prop := (h = 0 ∨ depS D (out.getD (h - 1) 0) a = true) ∧ ∀ k, h ≤ k → depS D (out.getD k 0) a = false
theorem IsLast.unique {D : Nat → Nat → Bool} {a : Nat} {out : List Nat} {h g : Nat} (h1 : IsLast D a out h) (h2 : IsLast D a out g) : h = g := by
  rcases Nat.lt_trichotomy h g with hl | hl | hl
  · rcases h2.1 with h0 | h0
    · omega
    · have := h1.2 (g - 1) (by omega); rw [this] at h0; cases h0
  · exact hl
  · rcases h1.1 with h0 | h0
    · omega
    · have := h2.2 (h - 1) (by omega); rw [this] at h0; cases h0
theorem lastD_is (D : Nat → Nat → Bool) (a : Nat) : ∀ out : List Nat, IsLast D a out (lastD D a out)
  | [] => ⟨.inl rfl, fun k _ => by rw [List.getD_nil]; exact depS_zero D a⟩
  | s :: out => by
    have ih := lastD_is D a out
    unfold lastD
    by_cases h : 0 < lastD D a out
    · rw [if_pos h]
      refine ⟨.inr ?_, fun k hk => ?_⟩
      · rcases ih.1 with h0 | h0
        · omega
        · have e : lastD D a out + 1 - 1 = (lastD D a out - 1) + 1 := by omega
          rw [e]; exact h0
      · have e : k = (k - 1) + 1 := by omega
        rw [e]; exact ih.2 (k - 1) (by omega)
    · rw [if_neg h]
      have h0 : lastD D a out = 0 := by omega
      by_cases h2 : depS D s a = true
      · rw [if_pos h2]
        refine ⟨.inr h2, fun k hk => ?_⟩
        have e : k = (k - 1) + 1 := by omega
        rw [e]; exact ih.2 (k - 1) (by omega)
      · rw [if_neg h2]
        refine ⟨.inl rfl, fun k _ => ?_⟩
        cases k with
        | zero => show depS D s a = false; cases e : depS D s a
                  · rfl
                  · exact absurd e h2
        | succ k => exact ih.2 k (by omega)
theorem lastD_le (D : Nat → Nat → Bool) (a : Nat) : ∀ out : List Nat, lastD D a out ≤ out.length
  | [] => Nat.le_refl _
  | s :: out => by
    have ih := lastD_le D a out
    unfold lastD
    rw [List.length_cons]
    split
    · omega
    · split <;> omega
/-- One more letter behind the steps. -/
def addF (D : Nat → Nat → Bool) (out : List Nat) (a : Nat) : List Nat := foPut out (lastD D a out + 1) a
theorem addF_getD (D : Nat → Nat → Bool) (out : List Nat) (a k : Nat) : (addF D out a).getD k 0 = if k = lastD D a out then out.getD k 0 ||| 2 ^ a else out.getD k 0 := by
  unfold addF; rw [foPut_getD _ _ _ _ (by omega)]; rfl
theorem addF_last (D : Nat → Nat → Bool) (out : List Nat) (a b : Nat) (h : D a b = false) : lastD D b (addF D out a) = lastD D b out := by
  have e : ∀ k, depS D ((addF D out a).getD k 0) b = depS D (out.getD k 0) b := fun k => by
    rw [addF_getD]
    split
    · exact depS_or D _ a b h
    · rfl
  refine IsLast.unique (lastD_is D b (addF D out a)) ?_
  have := lastD_is D b out
  exact ⟨this.1.imp id fun h1 => by rw [e]; exact h1, fun k hk => by rw [e]; exact this.2 k hk⟩
theorem addF_len (D : Nat → Nat → Bool) (out : List Nat) (a : Nat) : (addF D out a).length = max out.length (lastD D a out + 1) := foPut_len _ _ _
theorem addF_swap (D : Nat → Nat → Bool) (out : List Nat) (a b : Nat) (h : D a b = false) (h2 : D b a = false) : addF D (addF D out a) b = addF D (addF D out b) a := by
  refine ext_getD _ _ ?_ fun k => ?_
  · rw [addF_len, addF_len, addF_len, addF_len, addF_last D out a b h, addF_last D out b a h2]; omega
  · rw [addF_getD, addF_getD, addF_getD, addF_getD, addF_last D out a b h, addF_last D out b a h2]
    by_cases e1 : k = lastD D b out
    · by_cases e2 : k = lastD D a out
      · rw [if_pos e1, if_pos e2, if_pos e2, if_pos e1, Nat.or_assoc, Nat.or_comm (2 ^ a), ← Nat.or_assoc]
      · rw [if_pos e1, if_neg e2, if_neg e2, if_pos e1]
    · by_cases e2 : k = lastD D a out
      · rw [if_neg e1, if_pos e2, if_pos e2, if_neg e1]
      · rw [if_neg e1, if_neg e2, if_neg e2, if_neg e1]
theorem fold_free (D : Nat → Nat → Bool) (hsym : ∀ a b, D a b = D b a) (a : Nat) : ∀ (v out : List Nat), freeB D v a = true → (v.erase a).foldl (addF D) (addF D out a) = v.foldl (addF D) out
  | [], out, h => by simp [freeB] at h
  | c :: v, out, h => by
    rw [free_cons] at h
    by_cases e : c = a
    · subst e
      rw [List.erase_cons_head]; rfl
    · rw [if_neg e] at h
      cases hd : D c a with
      | true => rw [hd, if_pos rfl] at h; cases h
      | false =>
        rw [hd, if_neg (by decide)] at h
        rw [List.erase_cons_tail (by simpa using e), List.foldl_cons, List.foldl_cons, addF_swap D out a c (by rw [hsym]; exact hd) hd]
        exact fold_free D hsym a v (addF D out c) h
theorem fold_eqv (D : Nat → Nat → Bool) (n : Nat) (hsym : ∀ a b, D a b = D b a) (href : ∀ a, a < n → D a a = true) : ∀ (u v out : List Nat), (∀ x, x ∈ u → x < n) → (∀ x, x ∈ v → x < n) → Eqv D u v → u.foldl (addF D) out = v.foldl (addF D) out
  | [], v, out, _, hv, h => by rw [h.nil href hv]
  | a :: u, v, out, hu, hv, h => by
    obtain ⟨hf, he⟩ := h.step hsym (href a (hu a List.mem_cons_self))
    rw [List.foldl_cons, fold_eqv D n hsym href u (v.erase a) (addF D out a) (fun x hx => hu x (List.mem_cons_of_mem _ hx)) (fun x hx => hv x (List.mem_of_mem_erase hx)) he]
    exact fold_free D hsym a v out hf
/-- The letters of steps, one step after the other. -/
def fwd (out : List Nat) : List Nat := out.flatMap bitsOf
theorem prj_app (u v : List Nat) (x y : Nat) : prj (u ++ v) x y = prj u x y ++ prj v x y := by unfold prj; rw [List.filter_append]
theorem prj_none (u : List Nat) (x y : Nat) (h : ∀ c, c ∈ u → c ≠ x ∧ c ≠ y) : prj u x y = [] := by
  unfold prj
  rw [List.filter_eq_nil_iff]
  intro c hc
  have := h c hc
  simp [this.1, this.2]
theorem bits_put (s a : Nat) (ha : a < 24) (h : s.testBit a = false) : ∃ X Y, bitsOf s = X ++ Y ∧ bitsOf (s ||| 2 ^ a) = X ++ a :: Y := by
  unfold bitsOf upTo
  have e : List.range 24 = List.range a ++ a :: (List.range (23 - a)).map (fun i => a + 1 + i) := by
    have h1 : 24 = a + ((23 - a) + 1) := by omega
    rw [h1, List.range_add, List.range_succ_eq_map]
    have h2 : a + (23 - a + 1) - 1 - a = 23 - a := by omega
    congr 1
    rw [List.map_cons, List.map_map]
    congr 1
    refine List.map_congr_left fun i _ => ?_
    show a + (i + 1) = a + 1 + i
    omega
  rw [e]
  refine ⟨(List.range a).filter fun i => s.testBit i, ((List.range (23 - a)).map (fun i => a + 1 + i)).filter fun i => s.testBit i, ?_, ?_⟩
  · rw [List.filter_append, List.filter_cons_of_neg (by rw [h]; decide)]
  · rw [List.filter_append, List.filter_cons_of_pos (by rw [Nat.testBit_or, Nat.testBit_two_pow]; simp)]
    have q : ∀ i, i ≠ a → (s ||| 2 ^ a).testBit i = s.testBit i := fun i hi => by
      rw [Nat.testBit_or, Nat.testBit_two_pow, decide_eq_false (fun e => hi e.symm), Bool.or_false]
    congr 1
    · exact List.filter_congr fun i hi => q i (by have := List.mem_range.1 hi; omega)
    · congr 1
      refine List.filter_congr fun i hi => q i ?_
      obtain ⟨j, _, rfl⟩ := List.mem_map.1 hi
      omega
theorem fwd_app (u v : List Nat) : fwd (u ++ v) = fwd u ++ fwd v := by unfold fwd; rw [List.flatMap_append]
theorem fwd_zeros (k : Nat) : fwd (List.replicate k 0) = [] := by
  unfold fwd
  induction k with
  | zero => rfl
  | succ k ih =>
    rw [List.replicate_succ, List.flatMap_cons, ih]
    have : bitsOf 0 = [] := by decide
    rw [this]; rfl
theorem split_at (l : List Nat) (k : Nat) (hk : k < l.length) : l = l.take k ++ l.getD k 0 :: l.drop (k + 1) := by
  rw [List.getD_eq_getElem?_getD, List.getElem?_eq_getElem hk]
  show l = l.take k ++ l[k] :: l.drop (k + 1)
  rw [← List.drop_eq_getElem_cons hk, List.take_append_drop]
theorem fwd_add (D : Nat → Nat → Bool) (hsym : ∀ a b, D a b = D b a) (out : List Nat) (a : Nat) (ha : a < 24) (hr : D a a = true) : Eqv D (fwd (addF D out a)) (fwd out ++ [a]) := by
  have hl := lastD_is D a out
  have hle := lastD_le D a out
  obtain ⟨h, hh⟩ : ∃ h, h = lastD D a out := ⟨_, rfl⟩
  rw [← hh] at hl hle
  have hp : fwd (padTo out (h + 1)) = fwd out := by unfold padTo; rw [fwd_app, fwd_zeros, List.append_nil]
  have hlt : h < (padTo out (h + 1)).length := by rw [padTo_len]; omega
  have e1 := split_at (padTo out (h + 1)) h hlt
  have e2 : addF D out a = (padTo out (h + 1)).take h ++ ((padTo out (h + 1)).getD h 0 ||| 2 ^ a) :: (padTo out (h + 1)).drop (h + 1) := by
    unfold addF foPut
    rw [← hh]
    show (padTo out (h + 1)).set h _ = _
    rw [List.set_eq_take_append_cons_drop, if_pos hlt]; rfl
  have hno : ∀ k, h ≤ k → ∀ c, c ∈ bitsOf ((padTo out (h + 1)).getD k 0) → D c a = false := fun k hk c hc => by
    rw [padTo_getD] at hc
    have h1 := hl.2 k hk
    cases e : D c a
    · rfl
    · rw [(depS_iff D _ a).2 ⟨c, ((bitsOf_mem _ c).1 hc).1, ((bitsOf_mem _ c).1 hc).2, e⟩] at h1; cases h1
  obtain ⟨X, Y, hX, hY⟩ := bits_put ((padTo out (h + 1)).getD h 0) a ha (by
    cases e : ((padTo out (h + 1)).getD h 0).testBit a
    · rfl
    · have := hno h (Nat.le_refl _) a ((bitsOf_mem _ a).2 ⟨ha, e⟩); rw [hr] at this; cases this)
  obtain ⟨P, hP⟩ : ∃ P, P = (padTo out (h + 1)).take h := ⟨_, rfl⟩
  obtain ⟨Z, hZ⟩ : ∃ Z, Z = (padTo out (h + 1)).drop (h + 1) := ⟨_, rfl⟩
  have hz : ∀ c, c ∈ Y ++ fwd Z → D c a = false := fun c hc => by
    rcases List.mem_append.1 hc with h1 | h1
    · exact hno h (Nat.le_refl _) c (by rw [hX]; exact List.mem_append.2 (.inr h1))
    · unfold fwd at h1
      rw [List.mem_flatMap] at h1
      obtain ⟨s, hs, hc2⟩ := h1
      rw [hZ] at hs
      obtain ⟨j, hj, hje⟩ := List.getElem_of_mem hs
      rw [List.getElem_drop] at hje
      refine hno (h + 1 + j) (by omega) c ?_
      rw [List.getD_eq_getElem?_getD, List.getElem?_eq_getElem (by rw [List.length_drop] at hj; omega)]
      show c ∈ bitsOf _
      rw [hje]; exact hc2
  rw [← hP, ← hZ] at e1 e2
  have f1 : fwd out = fwd P ++ (X ++ (Y ++ fwd Z)) := by
    rw [← hp, e1, fwd_app]
    show fwd P ++ (bitsOf _ ++ fwd Z) = _
    rw [hX, List.append_assoc]
  have f2 : fwd (addF D out a) = fwd P ++ (X ++ a :: (Y ++ fwd Z)) := by
    rw [e2, fwd_app]
    show fwd P ++ (bitsOf _ ++ fwd Z) = _
    rw [hY, List.append_assoc]; rfl
  intro x y hxy
  rw [f1, f2]
  rw [prj_app, prj_app, prj_app, prj_app, prj_app, List.append_assoc, List.append_assoc]
  congr 2
  by_cases e : a = x ∨ a = y
  · rw [prj_in _ _ _ _ e, prj_none (Y ++ fwd Z) x y (fun c hc => by
      have h1 := hz c hc
      rcases e with e | e
      · subst e
        exact ⟨fun e2 => (by rw [e2, hr] at h1; cases h1), fun e2 => (by rw [e2, hsym, hxy] at h1; cases h1)⟩
      · subst e
        exact ⟨fun e2 => (by rw [e2, hxy] at h1; cases h1), fun e2 => (by rw [e2, hr] at h1; cases h1)⟩), prj_in a [] x y e]
    rfl
  · rw [prj_out _ _ _ _ (fun h => e (.inl h)) (fun h => e (.inr h)), prj_out a [] x y (fun h => e (.inl h)) (fun h => e (.inr h))]
    show prj (Y ++ fwd Z) x y = prj (Y ++ fwd Z) x y ++ []
    rw [List.append_nil]
theorem eqv_app {D : Nat → Nat → Bool} {u u' v : List Nat} (h : Eqv D u u') : Eqv D (u ++ v) (u' ++ v) := fun x y d => by rw [prj_app, prj_app, h x y d]
theorem fwd_fold (D : Nat → Nat → Bool) (n : Nat) (hn : n ≤ 24) (hsym : ∀ a b, D a b = D b a) (href : ∀ a, a < n → D a a = true) : ∀ (u out : List Nat), (∀ x, x ∈ u → x < n) → Eqv D (fwd (u.foldl (addF D) out)) (fwd out ++ u)
  | [], out, _ => by rw [List.append_nil]; exact Eqv.refl _ _
  | a :: u, out, hu => by
    have ha := hu a List.mem_cons_self
    rw [List.foldl_cons]
    refine (fwd_fold D n hn hsym href u (addF D out a) (fun x hx => hu x (List.mem_cons_of_mem _ hx))).trans ?_
    have := eqv_app (v := u) (fwd_add D hsym out a (by omega) (href a ha))
    rw [List.append_assoc] at this
    exact this
/-- The steps hold the letters at their heights. -/
theorem foTo_bit (rs us : List Nat) (i : Nat) (k b : Nat) : ((foTo rs us i).getD k 0).testBit b = true ↔ ∃ j, j < i ∧ us.getD j 0 = b ∧ hgt rs us j = k + 1 := by
  induction i with
  | zero =>
    show (([] : List Nat).getD k 0).testBit b = true ↔ _
    rw [List.getD_nil, Nat.zero_testBit]
    exact ⟨fun h => (by cases h), fun ⟨j, hj, _⟩ => (by omega)⟩
  | succ i ih =>
    show ((foPut _ _ _).getD k 0).testBit b = true ↔ _
    have hp := hgt_pos rs us i
    rw [foPut_getD _ _ _ _ hp]
    by_cases e : k = hgt rs us i - 1
    · rw [if_pos e, Nat.testBit_or, Bool.or_eq_true, ih, Nat.testBit_two_pow, decide_eq_true_eq]
      constructor
      · rintro (⟨j, h1, h2, h3⟩ | h)
        · exact ⟨j, by omega, h2, h3⟩
        · exact ⟨i, by omega, h, by omega⟩
      · rintro ⟨j, h1, h2, h3⟩
        by_cases ej : j = i
        · subst ej; exact .inr h2
        · exact .inl ⟨j, by omega, h2, h3⟩
    · rw [if_neg e, ih]
      constructor
      · rintro ⟨j, h1, h2, h3⟩; exact ⟨j, by omega, h2, h3⟩
      · rintro ⟨j, h1, h2, h3⟩
        by_cases ej : j = i
        · subst ej; omega
        · exact ⟨j, by omega, h2, h3⟩
theorem foTo_fold (rs us : List Nat) (n : Nat) (hn : n ≤ 24) (hu : ∀ x, x ∈ us → x < n) : ∀ i, i ≤ us.length → foTo rs us i = (us.take i).foldl (addF (RDep rs)) []
  | 0, _ => by rw [List.take_zero]; rfl
  | i + 1, hi => by
    have ih := foTo_fold rs us n hn hu i (by omega)
    have et : us.take (i + 1) = us.take i ++ [us.getD i 0] := by
      rw [List.take_add_one, List.getD_eq_getElem?_getD, List.getElem?_eq_getElem (by omega)]; rfl
    rw [et, List.foldl_append, ← ih]
    show foPut (foTo rs us i) (hgt rs us i) (us.getD i 0) = foPut (foTo rs us i) (lastD (RDep rs) (us.getD i 0) (foTo rs us i) + 1) (us.getD i 0)
    have hp := hgt_pos rs us i
    have hin : ∀ j, j < us.length → us.getD j 0 < n := fun j hj => hu _ (by rw [List.getD_eq_getElem?_getD, List.getElem?_eq_getElem hj]; exact List.getElem_mem _)
    have : IsLast (RDep rs) (us.getD i 0) (foTo rs us i) (hgt rs us i - 1) := by
      constructor
      · rcases hgt_or rs us i with h | ⟨j, hj, hd, h⟩
        · exact .inl (by omega)
        · refine .inr ((depS_iff _ _ _).2 ⟨us.getD j 0, by have := hin j (by omega); omega, ?_, hd⟩)
          exact (foTo_bit rs us i _ _).2 ⟨j, hj, rfl, by have := hgt_pos rs us j; omega⟩
      · intro k hk
        refine depS_no _ _ _ ?_
        rintro ⟨c, _, hc, hd⟩
        obtain ⟨j, hj, rfl, hjk⟩ := (foTo_bit rs us i k c).1 hc
        have := hgt_ge rs us i j hj hd
        omega
    have e := this.unique (lastD_is _ _ _)
    rw [← e]
    congr 1
    omega
theorem foM_fold (rs us : List Nat) (n : Nat) (hn : n ≤ 24) (hu : ∀ x, x ∈ us → x < n) : foM rs us = us.foldl (addF (RDep rs)) [] := by
  unfold foM
  rw [foTo_fold rs us n hn hu us.length (Nat.le_refl _), List.take_length]
/-- Foata forms are equal exactly if the words are words of one trace. -/
theorem foM_iff (rs : List Nat) (n : Nat) (hn : n ≤ 24) (hsym : ∀ a b, RDep rs a b = RDep rs b a) (href : ∀ a, a < n → RDep rs a a = true) (us vs : List Nat) (hu : ∀ x, x ∈ us → x < n) (hv : ∀ x, x ∈ vs → x < n) : foM rs us = foM rs vs ↔ Eqv (RDep rs) us vs := by
  rw [foM_fold rs us n hn hu, foM_fold rs vs n hn hv]
  constructor
  · intro h
    have h1 := fwd_fold (RDep rs) n hn hsym href us [] hu
    have h2 := fwd_fold (RDep rs) n hn hsym href vs [] hv
    rw [h] at h1
    exact h1.symm.trans h2
  · exact fold_eqv (RDep rs) n hsym href us vs [] hu hv
theorem pairsL_mem (rs : List Nat) (p : Nat) : ∀ n, p ∈ pairsL rs n ↔ ∃ a b, a < n ∧ b < 24 ∧ a ≤ b ∧ (rs.getD a 0).testBit b = true ∧ p = pairOf a b
  | 0 => ⟨fun h => (by cases h), fun ⟨a, b, h, _⟩ => (by omega)⟩
  | k + 1 => by
    show p ∈ pairsL rs k ++ pairRow (rs.getD k 0) k 24 ↔ _
    rw [List.mem_append, pairsL_mem rs p k]
    unfold pairRow
    rw [List.mem_map]
    constructor
    · rintro (⟨a, b, h⟩ | ⟨b, hb, rfl⟩)
      · exact ⟨a, b, by omega, h.2⟩
      · rw [List.mem_filter, List.mem_range, Bool.and_eq_true, decide_eq_true_eq] at hb
        exact ⟨k, b, by omega, hb.1, hb.2.1, hb.2.2, rfl⟩
    · rintro ⟨a, b, h1, h2, h3, h4, h5⟩
      by_cases e : a = k
      · subst e
        exact .inr ⟨b, by rw [List.mem_filter, List.mem_range, Bool.and_eq_true, decide_eq_true_eq]; exact ⟨h2, h3, h4⟩, h5.symm⟩
      · exact .inl ⟨a, b, by omega, h2, h3, h4, h5⟩
theorem prjS_pair (us : List Nat) (a b : Nat) : prjS us (pairOf a b) = prj us a b := by
  unfold prjS prj pairOf
  refine List.filter_congr fun x _ => ?_
  rw [Nat.testBit_or, Nat.testBit_two_pow, Nat.testBit_two_pow]
  congr 1 <;> (rw [decide_eq_decide]; exact eq_comm)
theorem prj_comm (us : List Nat) (a b : Nat) : prj us a b = prj us b a := by
  unfold prj
  exact List.filter_congr fun x _ => Bool.or_comm _ _
theorem ints_injs (u v : List Nat) : ints u = ints v ↔ u = v := ⟨fun h => by have := congrArg (List.map Int.toNat) h; rwa [ints_toNat, ints_toNat] at this, fun h => by rw [h]⟩
/-- Pair projections are equal exactly if the words are words of one trace. -/
theorem ppL_iff (rs : List Nat) (n : Nat) (hl : rs.length = n) (hn : n ≤ 24) (hr : ∀ i, rs.getD i 0 < 2 ^ n) (hsym : ∀ a b, RDep rs a b = RDep rs b a) (us vs : List Nat) : ppL us (pairsL rs n) = ppL vs (pairsL rs n) ↔ Eqv (RDep rs) us vs := by
  have key : ppL us (pairsL rs n) = ppL vs (pairsL rs n) ↔ ∀ p, p ∈ pairsL rs n → prjS us p = prjS vs p := by
    unfold ppL
    rw [List.map_inj_left]
    exact ⟨fun h p hp => (ints_injs _ _).1 (h p hp), fun h p hp => (ints_injs _ _).2 (h p hp)⟩
  rw [key]
  constructor
  · intro h x y hxy
    have hlt : ∀ a b, RDep rs a b = true → a < n := fun a b hab => by
      rcases Nat.lt_or_ge a n with h1 | h1
      · exact h1
      · unfold RDep at hab
        rw [List.getD_eq_getElem?_getD, List.getElem?_eq_none (by omega)] at hab
        change (0 : Nat).testBit b = true at hab
        rw [Nat.zero_testBit] at hab; cases hab
    have hx := hlt x y hxy
    have hy := hlt y x (by rw [hsym]; exact hxy)
    rcases Nat.le_total x y with hle | hle
    · have := h (pairOf x y) ((pairsL_mem rs _ n).2 ⟨x, y, hx, by omega, hle, hxy, rfl⟩)
      rwa [prjS_pair, prjS_pair] at this
    · have := h (pairOf y x) ((pairsL_mem rs _ n).2 ⟨y, x, hy, by omega, hle, by have := hsym x y; rw [hxy] at this; exact this.symm, rfl⟩)
      rw [prjS_pair, prjS_pair] at this
      rw [prj_comm us, prj_comm vs]; exact this
  · intro h p hp
    obtain ⟨a, b, _, _, _, h4, rfl⟩ := (pairsL_mem rs p n).1 hp
    rw [prjS_pair, prjS_pair]
    exact h a b h4
end Go.Proofs.YtcojodkcpemfdaaDoor
namespace Go.Proofs.YtcojodkcpemfdaaDoor
open Go.RowKit
set_option linter.unusedVariables false
set_option maxRecDepth 100000

theorem info_gint : (Tryd.prog.info? 3).map (fun i => (i.zero, i.size, i.bytes)) = some (some (.int .i64 0), 1, 8) := by kernel_rfl
theorem max_nat (a b : Nat) : (if a < b then (b : Int) else (a : Int)) = ((max a b : Nat) : Int) := by split <;> omega
set_option maxHeartbeats 6400000 in
theorem steps_prog (A A1 : Option Addr) (n c m d : Nat) (rs us : List Nat) (w : World) (h : Rd w A n (ints rs)) (hn : n ≤ 8) (hr : ∀ i, rs.getD i 0 < 2 ^ n) (hd : Dep rs) (h2 : Rd w A1 m (ints us)) (hm : m ≤ 24) (hu : ∀ u, u ∈ us → u < n) (hT : Tab w) :
    Calls Tryd.prog 115 #[.slice A n c, .slice A1 m d] w (MakesE 84 w (foM rs us).length (ints (foM rs us))) := by
  have hlen : rs.length = n := by have := h.1; rw [ints_len] at this; exact this
  have hmlen : us.length = m := by have := h2.1; rw [ints_len] at this; exact this
  have HL := Lib.hid hlen
  have HM := Lib.hid hmlen
  have HU := Lib.hid hu
  have HDEP := Lib.hid hd
  obtain ⟨i0, hi, hz0, hz1, hz2⟩ := info_parts info_set
  obtain ⟨i1, hi1, hy0, hy1, hy2⟩ := info_parts info_gint
  have hml : n ≤ maxLen := by unfold maxLen; omega
  have hby : i1.bytes * n ≤ 281474976710656 := by rw [hy2]; omega
  clear hlen hmlen hu hd
  go_enter Tryd.func115, Tryd.ntmps115
  go_wp2_with (first | (at_make; refine wpList_make_full _ rfl _ _ _ rfl w.heap.size 3 i1 (.int .i64 0) 1 Tryd.underlying177 hi1 hy0 hy1 _ _ (n : Int) (n : Int) n rfl rfl rfl rfl hby hml (Nat.le_refl _) ?_; intro w1 hown0 hg1))
  have hown := own_made hown0
  clear hown0
  have HSZ : Hid (w.heap.size < w1.heap.size) := Lib.hid (hown.lt w.heap.size rfl).2
  have hb1 : Below w.heap.size w w1 := (Below.refl _ _).grown hg1 (Nat.le_refl _) (by simp)
  clear hg1
  go_loopw [5, 17] (fun v q wr => ∃ (i : Nat) (hb : List Nat) (A5 : Option Addr) (c5 : Nat), i ≤ m ∧ q = .int .i64 i ∧ v = .slice A5 (foTo rs us i).length c5 ∧ Own 84 wr w1.heap.size A5 (foTo rs us i).length c5 (ints (foTo rs us i)) ∧ Own 3 wr w.heap.size (some ⟨w.heap.size, 0, none⟩) n n (ints hb) ∧ HInv rs us n i hb ∧ Below w.heap.size w wr ∧ w1.heap.size ≤ wr.heap.size) (fun _ q _ => m - (intOf q).toNat)
  case atStart => exact ⟨0, List.replicate n 0, none, 0, Nat.zero_le _, rfl, rfl, Own.nil _ _ _, hown, hinv_zero rs us n, hb1, Nat.le_refl _⟩
  case round =>
    clear hown hb1
    obtain ⟨i, hb, A5, c5, hi5, rfl, rfl, ho, hoh, hinv, hbw, hsz⟩ := hrel
    have HI := Lib.hid hinv
    by_cases hlt : i < m
    · obtain ⟨b, off, x, rfl, hbs, hx, hcx⟩ := (h2.below hbw).at_ hlt
      obtain ⟨a, ha, rfl⟩ := ints_at? us i x hx
      have han := HU.out a (List.mem_of_getElem? ha)
      have hag : us.getD i 0 = a := by rw [List.getD_eq_getElem?_getD, ha]; rfl
      obtain ⟨b2, off2, x2, rfl, hbs2, hx2, hcx2⟩ := (h.below hbw).at_ han
      have hx3 := ints_getD rs a (by rw [HL.out]; exact han)
      rw [hx3] at hx2
      injection hx2 with hx2
      subst hx2
      have hmx := hgt_mx rs us hb n i HL.out (by omega) hr HDEP.out HU.out (by rw [HM.out]; exact hlt) hinv
      have hnx := hinv_next HL.out HDEP.out HU.out (by rw [HM.out]; exact hlt) hinv
      have h1 := hgt_one rs us i
      have hlt24 := hr a
      have hlen5 := foTo_len rs us i
      rw [hag] at hmx hnx
      obtain ⟨D, hD⟩ : ∃ D, D = rs.getD a 0 := ⟨_, rfl⟩
      rw [← hD] at hcx2 hmx hlt24
      have hD24 : D < 16777216 := by have := p24 n (by omega); omega
      have hmsn : ∀ b, b ∈ bitsOf D → b < n := fun b hb => bit_lt hlt24 ((bitsOf_mem D b).1 hb).2
      obtain ⟨ms, hms⟩ : ∃ ms, ms = bitsOf D := ⟨_, rfl⟩
      have hmem := members_any D hD24
      have hml24 := bitsOf_len D
      rw [← hms] at hmx hmsn hmem hml24
      have hmll : ms.length ≤ 24 := hml24
      have HMX := Lib.hid hmx
      have HNX := Lib.hid hnx
      have HMSN := Lib.hid hmsn
      have HMEM := Lib.hid hmem
      clear hx ha hx3 hD hms hmsn hmem hinv hmx hnx
      obtain ⟨wo, rfl⟩ : ∃ wo : World, wo = wr := ⟨_, rfl⟩
      go_wp2_with fail
      refine (HMEM.out _ (hT.below hbw)).mono ?_
      rintro e w3 ⟨A3, c3, rfl, ho3, hb3⟩
      have hr3 := ho3.rd
      have hoh3 := hoh.below hb3
      have ho5 := ho.below hb3
      have hbw3 := hbw.trans (hb3.mono hbw.size)
      have hsz3 : w1.heap.size ≤ w3.heap.size := Nat.le_trans hsz hb3.size
      clear ho3 hb3 ho hoh hcx hcx2
      go_wp2_with fail
      go_loop [9, 27] (fun v q => ∃ t : Nat, t ≤ ms.length ∧ q = .int .i64 t ∧ v = .int .i64 (mxTo hb ms t)) (fun _ q => ms.length - (intOf q).toNat)
      case atStart => exact ⟨0, Nat.zero_le _, rfl, rfl⟩
      case round =>
        obtain ⟨t, ht, rfl, rfl⟩ := hrel
        by_cases hlt2 : t < ms.length
        · obtain ⟨b3, off3, x3, e3, hbs3, hx3, hcx3⟩ := hr3.at_ hlt2
          subst e3
          have hx4 := ints_getD ms t hlt2
          rw [hx4] at hx3
          injection hx3 with hx3
          subst hx3
          have hbn := HMSN.out _ (getD_mem ms t hlt2)
          obtain ⟨gh, eh, _, hcellh, _, _⟩ := own_stored hoh3 hbn
          cases eh
          have hmn : mxTo hb ms (t + 1) = max (mxTo hb ms t) (hb.getD (ms.getD t 0) 0) := rfl
          obtain ⟨Y, hY⟩ : ∃ Y, Y = hb.getD (ms.getD t 0) 0 := ⟨_, rfl⟩
          rw [← hY] at hmn hcellh
          obtain ⟨b9, hb9⟩ : ∃ b9, b9 = ms.getD t 0 := ⟨_, rfl⟩
          rw [← hb9] at hcx3 hbn hcellh
          obtain ⟨Z, hZ⟩ : ∃ Z, Z = mxTo hb ms t := ⟨_, rfl⟩
          rw [← hZ] at hmn ⊢
          obtain ⟨V, hV⟩ : ∃ V, V = mxTo hb ms (t + 1) := ⟨_, rfl⟩
          rw [← hV] at hmn
          have HV := Lib.hid hV
          have HMN := Lib.hid hmn
          clear hx4 hY hb9 hZ hV hmn
          go_wp2_with fail
          go_round
          case rel => exact ⟨t + 1, by omega, by go_num, by rw [← HV.out]; congr 1; have := HMN.out; split <;> omega⟩
          case measure => simp [intOf]; omega
        · obtain rfl : t = ms.length := by omega
          obtain ⟨H, hH⟩ : ∃ H, H = mxTo hb ms ms.length := ⟨_, rfl⟩
          have HH : Hid (hgt rs us i = H + 1) := Lib.hid (by rw [HMX.out, hH])
          rw [← hH]
          have HLTo := Lib.hid (foTo_lt rs us n HU.out i (by rw [HM.out]; omega))
          have HFO1 : Hid (foTo rs us (i + 1) = foPut (foTo rs us i) (H + 1) a) := Lib.hid (by rw [← HH.out, ← hag]; rfl)
          rw [HH.out] at h1
          obtain ⟨FO, hFO⟩ : ∃ FO, FO = foTo rs us i := ⟨_, rfl⟩
          rw [← hFO] at ho5 h1 hlen5 HFO1 HLTo ⊢
          obtain ⟨K, hK⟩ : ∃ K, K = FO.length := ⟨_, rfl⟩
          rw [← hK] at ho5 h1 hlen5 ⊢
          have HK := Lib.hid hK
          clear hH hFO hK hr3 HMEM
          by_cases hq : H = K
          · subst hq
            have hq1 : ((H : Int) == (H : Int)) = true := by simp
            have HPAD : Hid (padTo FO (H + 1) = FO ++ [0]) := Lib.hid (by rw [padTo_next _ _ (by rw [← HK.out]; omega), padTo_same _ _ (by rw [List.length_append, ← HK.out]; exact Nat.le_refl _)])
            have HLT2 := Lib.hid (fun k => by have := padTo_lt FO (H + 1) n HLTo.out k; rw [HPAD.out] at this; exact this)
            have hml2 : H + 1 ≤ maxLen := by unfold maxLen; omega
            have hby2 : (H + 1) * 8 ≤ 140737488355328 := by omega
            have HKA : Hid ((FO ++ [0]).length = H + 1) := Lib.hid (by rw [List.length_append, ← HK.out]; rfl)
            go_wp2_with (at_builtin; refine wpList_append_own _ rfl _ _ 72 rfl w1.heap.size 84 i0 (.int .i64 0) 1 8 Tryd.underlying72 hi hz0 hz1 hz2 rfl (by decide) (.slice A5 H c5) H ((ints FO).map (Value.int .i64)) rfl (World.ownsRow.alloc ho5 _) ⟨w3.heap.size, 0, none⟩ 1 1 [.int .i64 0] rfl rfl ?s1 ?s2 hml2 hby2 ?s5 ?_)
            case s2 => first | rfl | (intro u hu; simp at hu; subst hu; rfl)
            case s5 => first | omega | (simp; omega)
            intro v' w4 hown hg _
            have hz : (Value.int .i64 0) = Value.int .i64 ((0 : Nat) : Int) := rfl
            rw [hz, ints_snoc_map] at hown
            obtain ⟨A6, c6, hv, ho6⟩ := own_shape hown
            rw [hv]
            have hapart0 : ∀ q, (some (⟨w.heap.size, 0, none⟩ : Addr)).map (·.block) = some q → (Value.slice A5 H c5).ownBlock = some q → False := fun q hq e9 => by
              have h9 := (World.ownsRow.lt ho5 q e9).1
              have hq2 : w.heap.size = q := by injection hq
              have := HSZ.out; omega
            have hoh6 := (hoh3.below (below1 w3 _)).apart hg (fun q hq e9 => hapart0 q hq e9)
            have hbw6 : Below w.heap.size w w4 := (hbw3.alloc hbw3.size _).grown hg (by have := hbw3.size; simp; omega) (fun q hq => by have h9 := (World.ownsRow.lt ho5 q hq).1; have := HSZ.out; omega)
            have hsz6 : w1.heap.size ≤ w4.heap.size := by have := hg.size; simp at this; omega
            clear hown hg hv hz ho5 hoh3 hbw3 hapart0
            obtain ⟨g5, e5, hg5, hcell, hfr, hset⟩ := own_stored ho6 (k := H) (by omega)
            subst e5
            have hvv := HLT2.out H
            obtain ⟨X, hX⟩ : ∃ X, X = (FO ++ [0]).getD H 0 := ⟨_, rfl⟩
            rw [← hX] at hcell hvv
            have HPUT : Hid (foPut FO (H + 1) a = (FO ++ [0]).set H (X ||| 2 ^ a)) := Lib.hid (by unfold foPut; rw [HPAD.out, hX]; rfl)
            have hX63 : X < 9223372036854775808 := by have := p24 n (by omega); omega
            have ha62 : a ≤ 62 := by omega
            have hwith := with_any X a hX63 ha62
            obtain ⟨V, hV⟩ : ∃ V, V = X ||| 2 ^ a := ⟨_, rfl⟩
            rw [← hV] at HPUT hwith
            have ho7 := hset V
            rw [← HPUT.out] at ho7
            have HWITH := Lib.hid hwith
            clear hset hX hV hwith
            have hapart1 : ∀ q, (some (⟨w.heap.size, 0, none⟩ : Addr)).map (·.block) = some q → some g5 = some q → False := fun q hq e9 => by
              have hq2 : w.heap.size = q := by injection hq
              have hq3 : g5 = q := by injection e9
              have := HSZ.out; omega
            have hapart2 : ∀ q, (some (⟨g5, 0, none⟩ : Addr)).map (·.block) = some q → some w.heap.size = some q → False := fun q hq e9 => by
              have hq2 : g5 = q := by injection hq
              have hq3 : w.heap.size = q := by injection e9
              have := HSZ.out; omega
            have hoh7 := hoh6.apart (grown_set (World.grownBy.refl w4 (some g5)) H (.int .i64 (V : Int))) (fun q hq e9 => hapart1 q hq e9)
            have hb7 := hbw6.setCell (p := ⟨g5, H, none⟩) (by show w.heap.size ≤ g5; have := HSZ.out; omega) (.int .i64 (V : Int))
            obtain ⟨gh', eh', _, hcell3, hfr3, hset3⟩ := own_stored hoh7 (k := a) han
            cases eh'
            have hoh8 := hset3 (H + 1)
            rw [Int.natCast_succ] at hoh8
            have ho8 := ho7.apart (grown_set (World.grownBy.refl (w4.setCell ⟨g5, H, none⟩ (.int .i64 (V : Int))) (some w.heap.size)) a (.int .i64 ((H : Int) + 1))) (fun q hq e9 => hapart2 q hq e9)
            have hb8 := hb7.setCell (p := ⟨w.heap.size, a, none⟩) (Nat.le_refl _) (.int .i64 ((H : Int) + 1))
            have hH63 : H ≤ 24 := by omega
            have HFL : Hid ((foTo rs us (i + 1)).length = H + 1) := Lib.hid (by rw [HFO1.out, HPUT.out, List.length_set]; exact HKA.out)
            obtain ⟨w5, hw5⟩ : ∃ w5, w5 = w4.setCell ⟨g5, H, none⟩ (.int .i64 (V : Int)) := ⟨_, rfl⟩
            rw [← hw5] at hcell3 hfr3 hoh8 ho8 hb8
            have hsz8 : w1.heap.size ≤ (w5.setCell ⟨w.heap.size, a, none⟩ (.int .i64 ((H : Int) + 1))).heap.size := by rw [World.size_setCell, hw5, World.size_setCell]; exact hsz6
            clear hset3 hoh6 ho6 hoh7 hb7 ho7 hapart1 hapart2
            go_wp2_with fail
            refine (HWITH.out _).mono ?_
            rintro e w' ⟨rfl, rfl⟩
            go_upto_region 15 with fail
            rw [← hw5]
            clear hw5 hcell hfr
            go_wp2_with fail
            go_roundw
            case rel => exact ⟨i + 1, hb.set a (H + 1), _, _, by omega, by go_num, by rw [HFL.out], by rw [HFL.out, HFO1.out]; exact ho8, hoh8, by rw [← HH.out]; exact HNX.out, hb8, hsz8⟩
            case measure => simp [intOf]; omega
          · have hq1 : ((H : Int) == (K : Int)) = false := by simp; omega
            have hq9 : H < K := by omega
            clear hq
            have HPAD : Hid (padTo FO (H + 1) = FO) := Lib.hid (padTo_same _ _ (by rw [← HK.out]; omega))
            have HLT2 := HLTo
            have HKA : Hid (FO.length = K) := Lib.hid HK.out.symm
            obtain ⟨w4, rfl⟩ : ∃ w4 : World, w4 = w3 := ⟨_, rfl⟩
            have ho6 := ho5
            have hoh6 := hoh3
            have hbw6 := hbw3
            have hsz6 := hsz3
            clear ho5 hoh3 hbw3
            obtain ⟨g5, e5, hg5, hcell, hfr, hset⟩ := own_stored ho6 (k := H) (by omega)
            subst e5
            have hvv := HLT2.out H
            obtain ⟨X, hX⟩ : ∃ X, X = FO.getD H 0 := ⟨_, rfl⟩
            rw [← hX] at hcell hvv
            have HPUT : Hid (foPut FO (H + 1) a = FO.set H (X ||| 2 ^ a)) := Lib.hid (by unfold foPut; rw [HPAD.out, hX]; rfl)
            have hX63 : X < 9223372036854775808 := by have := p24 n (by omega); omega
            have ha62 : a ≤ 62 := by omega
            have hwith := with_any X a hX63 ha62
            obtain ⟨V, hV⟩ : ∃ V, V = X ||| 2 ^ a := ⟨_, rfl⟩
            rw [← hV] at HPUT hwith
            have ho7 := hset V
            rw [← HPUT.out] at ho7
            have HWITH := Lib.hid hwith
            clear hset hX hV hwith
            have hapart1 : ∀ q, (some (⟨w.heap.size, 0, none⟩ : Addr)).map (·.block) = some q → some g5 = some q → False := fun q hq e9 => by
              have hq2 : w.heap.size = q := by injection hq
              have hq3 : g5 = q := by injection e9
              have := HSZ.out; omega
            have hapart2 : ∀ q, (some (⟨g5, 0, none⟩ : Addr)).map (·.block) = some q → some w.heap.size = some q → False := fun q hq e9 => by
              have hq2 : g5 = q := by injection hq
              have hq3 : w.heap.size = q := by injection e9
              have := HSZ.out; omega
            have hoh7 := hoh6.apart (grown_set (World.grownBy.refl w4 (some g5)) H (.int .i64 (V : Int))) (fun q hq e9 => hapart1 q hq e9)
            have hb7 := hbw6.setCell (p := ⟨g5, H, none⟩) (by show w.heap.size ≤ g5; have := HSZ.out; omega) (.int .i64 (V : Int))
            obtain ⟨gh', eh', _, hcell3, hfr3, hset3⟩ := own_stored hoh7 (k := a) han
            cases eh'
            have hoh8 := hset3 (H + 1)
            rw [Int.natCast_succ] at hoh8
            have ho8 := ho7.apart (grown_set (World.grownBy.refl (w4.setCell ⟨g5, H, none⟩ (.int .i64 (V : Int))) (some w.heap.size)) a (.int .i64 ((H : Int) + 1))) (fun q hq e9 => hapart2 q hq e9)
            have hb8 := hb7.setCell (p := ⟨w.heap.size, a, none⟩) (Nat.le_refl _) (.int .i64 ((H : Int) + 1))
            have hH63 : H ≤ 24 := by omega
            have HFL : Hid ((foTo rs us (i + 1)).length = K) := Lib.hid (by rw [HFO1.out, HPUT.out, List.length_set]; exact HKA.out)
            obtain ⟨w5, hw5⟩ : ∃ w5, w5 = w4.setCell ⟨g5, H, none⟩ (.int .i64 (V : Int)) := ⟨_, rfl⟩
            rw [← hw5] at hcell3 hfr3 hoh8 ho8 hb8
            have hsz8 : w1.heap.size ≤ (w5.setCell ⟨w.heap.size, a, none⟩ (.int .i64 ((H : Int) + 1))).heap.size := by rw [World.size_setCell, hw5, World.size_setCell]; exact hsz6
            clear hset3 hoh6 ho6 hoh7 hb7 ho7 hapart1 hapart2
            go_wp2_with fail
            refine (HWITH.out _).mono ?_
            rintro e w' ⟨rfl, rfl⟩
            go_upto_region 15 with fail
            rw [← hw5]
            clear hw5 hcell hfr
            go_wp2_with fail
            go_roundw
            case rel => exact ⟨i + 1, hb.set a (H + 1), _, _, by omega, by go_num, by rw [HFL.out], by rw [HFL.out, HFO1.out]; exact ho8, hoh8, by rw [← HH.out]; exact HNX.out, hb8, hsz8⟩
            case measure => simp [intOf]; omega
    · obtain rfl : i = m := by omega
      have e9 : foTo rs us i = foM rs us := by unfold foM; rw [HM.out]
      rw [e9] at ho ⊢
      clear e9
      obtain ⟨K, hK⟩ : ∃ K, K = (foM rs us).length := ⟨_, rfl⟩
      have HK := Lib.hid hK
      rw [← hK] at ho ⊢
      clear hK hinv
      go_wp2_with fail
      go_ret
      rw [HK.out] at ho ⊢
      exact ⟨_, _, rfl, ho.mono (by have := HSZ.out; omega), hbw⟩
end Go.Proofs.YtcojodkcpemfdaaDoor
namespace Go.Proofs.YtcojodkcpemfdaaDoor
open Go.RowKit
set_option linter.unusedVariables false
set_option maxRecDepth 100000

def foAns (L : Int) (xs us : List Int) : List Int × Int := wAns foM L xs us
theorem foAns_small (L : Int) (xs us : List Int) : (foAns L xs us).1.length ≤ 24 := wAns_small _ 24 (fun rs us _ h => Nat.le_trans (foM_len rs us) h) L xs us
set_option maxHeartbeats 3200000 in
theorem implFoataForm (L : Int) (A : Option Addr) (n c : Nat) (xs : List Int) (A1 : Option Addr) (m d : Nat) (us : List Int) (w : World) (h : Rd w A n xs) (hwf : Wf xs) (hL1 : -9223372036854775808 ≤ L) (hL2 : L ≤ 9223372036854775807) (hn : n ≤ maxLen) (h2 : Rd w A1 m us) (hwf2 : Wf us) (hm : m ≤ maxLen) (hT : Tab w) :
    Calls Tryd.prog 49 #[.agg #[.int .i64 L, .slice A n c], .slice A1 m d] w (LsPost w (foAns L xs us).1.length (foAns L xs us).1 (foAns L xs us).2) := by
  have hn2 : n ≤ 9223372036854775807 := by unfold maxLen at hn; omega
  have hn1 := h.1
  have hm1 := h2.1
  have HB := Lib.hid (below2 w (.cells #[.int .i64 L, .slice A n c] 29) (.cells #[.slice A1 m d] 22))
  have hh := h.below HB.out
  have ht := rdT_box w (.cells #[.int .i64 L, .slice A n c] 29) A1 m d us 22 h2 hm
  have hh2 := h2.below HB.out
  have hT1 := hT.below HB.out
  cases ha : alphB L xs
  · rw [show foAns L xs us = _ from wAns_no _ L xs us ha]
    have HA := Lib.hid ha
    clear ha ht hn1
    go_enter Tryd.func49, Tryd.ntmps49
    go_wp2_with fail
    refine (dependenceWith_no L _ _ _ _ _ _ xs [] _ hh hwf hL1 hL2 hn2 HA.out hT1).mono ?_
    rintro e w1 ⟨rfl, hb⟩
    go_wp2_with fail
    go_ret2
    exact LsPost.of_ans (ans_no 1 (HB.out.trans (hb.mono HB.out.size)))
  · cases hu : wordB L us
    · rw [show foAns L xs us = _ from wAns_bad _ L xs us ha hu]
      obtain ⟨rs, rfl, rfl, h8, hr, hrel, hl, hd, _⟩ := alphB_nats L xs n hn1 ha
      have HU := Lib.hid hu
      clear ha hu
      go_enter Tryd.func49, Tryd.ntmps49
      go_wp2_with fail
      refine (dependenceWith_any _ _ _ _ _ _ rs _ _ hh hwf h8 hr hrel hd ht (by omega) hT1).mono ?_
      rw [okT_one, HU.out]
      rintro e w1 (⟨hok, _⟩ | ⟨hok, rfl, hb⟩)
      · cases hok
      go_wp2_with fail
      go_ret2
      exact LsPost.of_ans (ans_no 2 (HB.out.trans (hb.mono HB.out.size)))
    · obtain ⟨rs, rfl, rfl, h8, hr, hrel, hl, hd, _⟩ := alphB_nats L xs n hn1 ha
      obtain ⟨vs, rfl, hv24, hvn⟩ := wordB_nats n us hu
      rw [show foAns (n : Int) (ints rs) (ints vs) = _ from wAns_yes _ (n : Int) rs vs ha hu]
      have HU := Lib.hid hu
      have HDEP := Lib.hid ((depB_iff rs n hl hr).1 hd)
      rw [ints_len] at hm1
      have hm24 : m ≤ 24 := by omega
      have HM := Lib.hid hm1
      clear ha hu hl hm1
      go_enter Tryd.func49, Tryd.ntmps49
      go_wp2_with fail
      refine (dependenceWith_any _ _ _ _ _ _ rs _ _ hh hwf h8 hr hrel hd ht (by omega) hT1).mono ?_
      rw [okT_one, HU.out]
      rintro e w1 (⟨hok, A2, c2, rfl, ho, hb⟩ | ⟨hok, _⟩)
      rotate_left
      · cases hok
      have HB1 := Lib.hid (HB.out.trans (hb.mono HB.out.size))
      have hr2 := hh2.below hb
      have hrd := ho.rd
      have hT2 := hT1.below hb
      clear ho hb hok ht hh hh2 hT1 hT h h2
      go_wp2_with fail
      refine (steps_prog _ _ _ _ _ _ rs vs _ hrd h8 hr HDEP.out hr2 hm24 hvn hT2).mono ?_
      rintro e w2 ⟨A3, c3, rfl, ho3, hb3⟩
      have hlen := foM_len rs vs
      have HB2 := Lib.hid (HB1.out.trans (hb3.mono HB1.out.size))
      obtain ⟨K, hK⟩ : ∃ K, K = (foM rs vs).length := ⟨_, rfl⟩
      have HK := Lib.hid hK
      rw [← hK] at ho3 hlen ⊢
      have hn3 : K ≤ 1048576 := by omega
      clear hK
      go_wp2_with fail
      refine (masksOf_any _ _ _ _ _ ho3.rd hn3).mono ?_
      rintro e w4 ⟨A4, c4, rfl, ho4, hb4⟩
      go_wp2_with fail
      go_ret2
      exact LsPost.of_ans (ans_yes (by rw [ints_len, HK.out]) (ho4.mono HB2.out.size) (HB2.out.trans (hb4.mono HB2.out.size)))
end Go.Proofs.YtcojodkcpemfdaaDoor
namespace Go.Proofs.YtcojodkcpemfdaaDoor
open Go Go.RowKit
set_option linter.unusedVariables false
set_option maxRecDepth 100000

def lssAns (f : List Nat → List Nat → List (List Int)) (L : Int) (xs us : List Int) : List (List Int) × Int := if wCode L xs us = 0 then (f (xs.map Int.toNat) (us.map Int.toNat), 0) else ([], wCode L xs us)
theorem lssAns_no (f : List Nat → List Nat → List (List Int)) (L : Int) (xs us : List Int) (h : alphB L xs = false) : lssAns f L xs us = ([], 1) := by
  have e : wCode L xs us = 1 := by unfold wCode; rw [if_neg (by rw [h]; decide)]
  unfold lssAns; rw [e]; rfl
theorem lssAns_bad (f : List Nat → List Nat → List (List Int)) (L : Int) (xs us : List Int) (h : alphB L xs = true) (h2 : wordB L us = false) : lssAns f L xs us = ([], 2) := by
  have e : wCode L xs us = 2 := by unfold wCode; rw [if_pos h, if_neg (by rw [h2]; decide)]
  unfold lssAns; rw [e]; rfl
theorem lssAns_yes (f : List Nat → List Nat → List (List Int)) (L : Int) (rs us : List Nat) (h : alphB L (ints rs) = true) (h2 : wordB L (ints us) = true) : lssAns f L (ints rs) (ints us) = (f rs us, 0) := by
  have e : wCode L (ints rs) (ints us) = 0 := by unfold wCode; rw [if_pos h, if_pos h2]
  unfold lssAns; rw [if_pos e, ints_toNat, ints_toNat]
theorem lssAns_small (f : List Nat → List Nat → List (List Int)) (b : Nat) (hf : ∀ rs us, rs.length ≤ 8 → us.length ≤ 24 → (f rs us).length ≤ b ∧ sumL (f rs us) ≤ b) (L : Int) (xs us : List Int) : (lssAns f L xs us).1.length ≤ b ∧ sumL (lssAns f L xs us).1 ≤ b := by
  unfold lssAns
  split
  · rename_i h
    unfold wCode at h
    split at h
    · rename_i ha
      split at h
      · rename_i hw
        refine hf _ _ ?_ ?_
        · rw [List.length_map]
          unfold alphB at ha
          rw [Bool.and_eq_true, decide_eq_true_eq] at ha
          omega
        · rw [List.length_map]
          unfold wordB at hw
          rw [Bool.and_eq_true, decide_eq_true_eq] at hw
          exact hw.1
      · omega
    · omega
  · exact ⟨Nat.zero_le _, Nat.zero_le _⟩
theorem lssPost_no {w w1 : World} {C : Int} (hb : Below w.heap.size w w1) : LssPost w 0 [] C (.returned (.tuple #[.slice none 0 0, .int .i64 C])) w1 := ⟨none, 0, rfl, OwnSS.nil _ _, hb⟩
theorem lssPost_yes {w w1 w2 : World} {A' : Option Addr} {c' N : Nat} {zss : List (List Int)} (hl : zss.length = N) (ho : OwnSS w2 w1.heap.size w2.heap.size A' N c' zss) (hB : Below w.heap.size w w1) (hb : Below w1.heap.size w1 w2) : LssPost w zss.length zss 0 (.returned (.tuple #[.slice A' N c', .int .i64 0])) w2 := by
  subst hl
  exact ⟨A', c', rfl, ho.wide hB.size (Nat.le_refl _), hB.trans (hb.mono hB.size)⟩
def ppR (rs us : List Nat) : List (List Int) := ppL us (pairsL rs rs.length)
def ppAns (L : Int) (xs us : List Int) : List (List Int) × Int := lssAns ppR L xs us
theorem ppAns_small (L : Int) (xs us : List Int) : (ppAns L xs us).1.length ≤ 4608 ∧ sumL (ppAns L xs us).1 ≤ 4608 := by
  refine lssAns_small ppR 4608 (fun rs us h1 h2 => ?_) L xs us
  have h3 := pairsL_le rs rs.length
  have h4 := ppL_sum us (pairsL rs rs.length)
  have h5 : (pairsL rs rs.length).length ≤ 192 := by omega
  have h6 : (pairsL rs rs.length).length * us.length ≤ 192 * 24 := Nat.mul_le_mul h5 h2
  unfold ppR
  rw [ppL_len]
  exact ⟨by omega, by omega⟩
set_option maxHeartbeats 3200000 in
theorem implPairProjections (L : Int) (A : Option Addr) (n c : Nat) (xs : List Int) (A1 : Option Addr) (m d : Nat) (us : List Int) (w : World) (h : Rd w A n xs) (hwf : Wf xs) (hL1 : -9223372036854775808 ≤ L) (hL2 : L ≤ 9223372036854775807) (hn : n ≤ maxLen) (h2 : Rd w A1 m us) (hwf2 : Wf us) (hm : m ≤ maxLen) (hT : Tab w) :
    Calls Tryd.prog 50 #[.agg #[.int .i64 L, .slice A n c], .slice A1 m d] w (LssPost w (ppAns L xs us).1.length (ppAns L xs us).1 (ppAns L xs us).2) := by
  have hn2 : n ≤ 9223372036854775807 := by unfold maxLen at hn; omega
  have hn1 := h.1
  have hm1 := h2.1
  have x0 := box_new 29 w L A n c
  have HB := Lib.hid (below2 w (.cells #[.int .i64 L, .slice A n c] 29) (.cells #[.slice A1 m d] 22))
  have hh := h.below HB.out
  have ht := rdT_box w (.cells #[.int .i64 L, .slice A n c] 29) A1 m d us 22 h2 hm
  have hh2 := h2.below HB.out
  have hT1 := hT.below HB.out
  have x1 := x0.next (below1 (w.alloc (.cells #[.int .i64 L, .slice A n c] 29)) (.cells #[.slice A1 m d] 22))
  cases ha : alphB L xs
  · rw [show ppAns L xs us = _ from lssAns_no ppR L xs us ha]
    have HA := Lib.hid ha
    clear ha ht hn1
    go_enter Tryd.func50, Tryd.ntmps50
    go_wp2_with fail
    refine (dependenceWith_no L _ _ _ _ _ _ xs [] _ hh hwf hL1 hL2 hn2 HA.out hT1).mono ?_
    rintro e w1 ⟨rfl, hb⟩
    go_wp2_with fail
    go_ret2
    exact lssPost_no (HB.out.trans (hb.mono HB.out.size))
  · cases hu : wordB L us
    · rw [show ppAns L xs us = _ from lssAns_bad ppR L xs us ha hu]
      obtain ⟨rs, rfl, rfl, h8, hr, hrel, hl, hd, _⟩ := alphB_nats L xs n hn1 ha
      have HU := Lib.hid hu
      clear ha hu
      go_enter Tryd.func50, Tryd.ntmps50
      go_wp2_with fail
      refine (dependenceWith_any _ _ _ _ _ _ rs _ _ hh hwf h8 hr hrel hd ht (by omega) hT1).mono ?_
      rw [okT_one, HU.out]
      rintro e w1 (⟨hok, _⟩ | ⟨hok, rfl, hb⟩)
      · cases hok
      go_wp2_with fail
      go_ret2
      exact lssPost_no (HB.out.trans (hb.mono HB.out.size))
    · obtain ⟨rs, rfl, rfl, h8, hr, hrel, hl, hd, _⟩ := alphB_nats L xs n hn1 ha
      obtain ⟨vs, rfl, hv24, hvn⟩ := wordB_nats n us hu
      have HU := Lib.hid hu
      rw [ints_len] at hm1
      have hm24 : m ≤ 24 := by omega
      rw [show ppAns (n : Int) (ints rs) (ints vs) = _ from lssAns_yes ppR (n : Int) rs vs ha hu]
      have HVP : Hid (∀ p, p < m → vs.getD p 0 < 8) := Lib.hid fun p hp => Nat.lt_of_lt_of_le (in_getD hvn p (by omega)) h8
      have HZ : Hid (ppR rs vs = ppL vs (pairsL rs n)) := Lib.hid (by unfold ppR; rw [hl])
      rw [HZ.out]
      have HZL : Hid ((ppL vs (pairsL rs n)).length = (pairsL rs n).length) := Lib.hid (ppL_len _ _)
      have HPJ : Hid (∀ ww A2 c2, Rd ww A2 n (ints rs) → Rd ww A1 m (ints vs) → Tab ww → Calls Tryd.prog 116 #[.slice A2 n c2, .slice A1 m d] ww fun e w' => ∃ A' c', e = .returned (.slice A' (pairsL rs n).length c') ∧ OwnSS w' ww.heap.size w'.heap.size A' (pairsL rs n).length c' (ppL vs (pairsL rs n)) ∧ Below ww.heap.size ww w') := Lib.hid fun ww A2 c2 q1 q2 q3 => pairProjections_any A2 n c2 rs A1 m d vs ww q1 h8 hr q2 hm24 HVP.out q3
      obtain ⟨zs, hzs⟩ : ∃ zs, zs = ppL vs (pairsL rs n) := ⟨_, rfl⟩
      obtain ⟨N, hN⟩ : ∃ N, N = (pairsL rs n).length := ⟨_, rfl⟩
      rw [← hzs, ← hN] at HPJ HZL
      rw [← hzs]
      clear ha hu hl hm1 hzs hN
      go_enter Tryd.func50, Tryd.ntmps50
      go_wp2_with fail
      refine (dependenceWith_any _ _ _ _ _ _ rs _ _ hh hwf h8 hr hrel hd ht (by omega) hT1).mono ?_
      rw [okT_one, HU.out]
      rintro e w1 (⟨hok, A2, c2, rfl, ho, hb⟩ | ⟨hok, _⟩)
      rotate_left
      · cases hok
      have y0 := (x1.next hb).c0
      have HB1 := Lib.hid (HB.out.trans (hb.mono HB.out.size))
      have HPQ := Lib.hid (HPJ.out w1 A2 c2 ho.rd (hh2.below hb) (hT1.below hb))
      clear ho hb hok ht hh hh2 hT1 hT h h2 x0 x1
      go_wp2_with fail
      refine HPQ.out.mono ?_
      rintro e w2 ⟨A3, c3, rfl, ho3, hb3⟩
      go_wp2_with fail
      go_ret2
      exact lssPost_yes HZL.out ho3 HB1.out hb3
end Go.Proofs.YtcojodkcpemfdaaDoor
