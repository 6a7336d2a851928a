/-
  The pairs of letters that depend on each other: both sides.
-/
import Derived.Test.YtokikilfmglhhaaDoorAreDep
import Derived.Maps.AppendAt
namespace Go.Proofs.YtokikilfmglhhaaDoor
open Go Go.RowKit
set_option linter.unusedVariables false
set_option maxRecDepth 100000

def pairOf (a b : Nat) : Nat := 2 ^ a ||| 2 ^ b
/-- The pairs of a with letters below k, from a on. -/
def pairRow (r a k : Nat) : List Nat := ((List.range k).filter fun b => decide (a ≤ b) && r.testBit b).map (pairOf a)
def pairsL (rs : List Nat) : Nat → List Nat
  | 0 => []
  | k + 1 => pairsL rs k ++ pairRow (rs.getD k 0) k 24
theorem pairRow_yes (r a k : Nat) (h1 : a ≤ k) (h2 : r.testBit k = true) : pairRow r a (k + 1) = pairRow r a k ++ [pairOf a k] := by
  unfold pairRow; rw [List.range_succ, List.filter_append, List.map_append]; simp [h1, h2]
theorem pairRow_no (r a k : Nat) (h : (decide (a ≤ k) && r.testBit k) = false) : pairRow r a (k + 1) = pairRow r a k := by
  unfold pairRow; rw [List.range_succ, List.filter_append, List.map_append]; simp [h]
theorem pairRow_le (r a k : Nat) : (pairRow r a k).length ≤ k := by
  unfold pairRow; rw [List.length_map]
  exact Nat.le_trans (List.length_filter_le _ _) (by rw [List.length_range]; exact Nat.le_refl _)
theorem pairRow_start (r a : Nat) : ∀ k, k ≤ a → pairRow r a k = []
  | 0, _ => rfl
  | k + 1, h => by rw [pairRow_no r a k (by have : ¬ a ≤ k := by omega
                                            simp [this]), pairRow_start r a k (by omega)]
theorem pairRow_full (r a n : Nat) (hr : r < 2 ^ n) : ∀ k, n ≤ k → pairRow r a k = pairRow r a n
  | 0, h => by have : n = 0 := by omega
               subst this; rfl
  | k + 1, h => by
    by_cases e : n = k + 1
    · rw [e]
    · rw [pairRow_no r a k (by have : r.testBit k = false := Nat.testBit_lt_two_pow (Nat.lt_of_lt_of_le hr (Nat.pow_le_pow_right (by decide) (by omega)))
                               simp [this]), pairRow_full r a n hr k (by omega)]
theorem pairsL_le (rs : List Nat) : ∀ k, (pairsL rs k).length ≤ k * 24
  | 0 => Nat.zero_le _
  | k + 1 => by
    show (pairsL rs k ++ _).length ≤ _
    rw [List.length_append]
    have := pairsL_le rs k; have := pairRow_le (rs.getD k 0) k 24; omega
/-- The same by the list of members, after j of them. -/
def pairMem (r a j : Nat) : List Nat := (((bitsOf r).take j).filter fun b => decide (a ≤ b)).map (pairOf a)
theorem pairMem_yes (r a j b : Nat) (hb : (bitsOf r)[j]? = some b) (h : a ≤ b) : pairMem r a (j + 1) = pairMem r a j ++ [pairOf a b] := by
  unfold pairMem; rw [List.take_add_one, hb, List.filter_append, List.map_append]; simp [h]
theorem pairMem_no (r a j b : Nat) (hb : (bitsOf r)[j]? = some b) (h : ¬ a ≤ b) : pairMem r a (j + 1) = pairMem r a j := by
  unfold pairMem; rw [List.take_add_one, hb, List.filter_append, List.map_append]; simp [h]
theorem pairMem_le (r a j : Nat) : (pairMem r a j).length ≤ j := by
  unfold pairMem; rw [List.length_map]
  exact Nat.le_trans (List.length_filter_le _ _) (by rw [List.length_take]; omega)
theorem pairMem_full (r a j : Nat) (hj : (bitsOf r).length ≤ j) : pairMem r a j = pairRow r a 24 := by
  unfold pairMem pairRow
  rw [List.take_of_length_le hj]
  unfold bitsOf upTo
  rw [List.filter_filter]
theorem own_block (A : Option Addr) (n c : Nat) : (Value.slice A n c).ownBlock = A.map (·.block) := by cases A <;> rfl
theorem alloc_grown {w w' : World} {o : Obj} {row : Option Nat} (hg : (w.alloc o).grownBy w' row) : w.grownBy w' row := by
  have hb := below1 w o
  exact ⟨hg.os.trans hb.os, hg.tape.trans hb.tape, hg.output.trans hb.output, Nat.le_trans hb.size hg.size, fun k hk hne => (hg.block k (Nat.lt_of_lt_of_le hk hb.size) hne).trans (hb.block k hk)⟩
set_option maxHeartbeats 3200000 in
theorem pairs_any (A : Option Addr) (n c : Nat) (rs : List Nat) (w : World) (h : Rd w A n (ints rs)) (hn : n ≤ 8) (hr : ∀ i, rs.getD i 0 < 2 ^ n) (hT : Tab w) :
    Calls Tryd.prog 105 #[.slice A n c] w (MakesE 102 w (pairsL rs n).length (ints (pairsL rs n))) := by
  obtain ⟨i0, hi, hz0, hz1, hz2⟩ := info_parts info_set
  have HL : Hid (rs.length = n) := Lib.hid (by have := h.1; rw [ints_len] at this; exact this)
  go_enter Tryd.func105, Tryd.ntmps105
  go_wp2_with fail
  go_loopw [3, 10] (fun p q wr => ∃ (k N : Nat) (A1 : Option Addr) (c1 : Nat), k ≤ n ∧ p = .slice A1 N c1 ∧ q = .int .i64 (k : Int) ∧ N = (pairsL rs k).length ∧ Own 102 wr w.heap.size A1 N c1 (ints (pairsL rs k)) ∧ Below w.heap.size w wr) (fun _ q _ => n - (intOf q).toNat)
  case atStart => exact ⟨0, 0, _, 0, Nat.zero_le _, rfl, rfl, rfl, Own.nil _ _ _, Below.refl _ _⟩
  case round =>
    obtain ⟨k, N, A1, c1, hk, rfl, rfl, hN, ho, hb⟩ := hrel
    have hN24 : N ≤ k * 24 := by rw [hN]; exact pairsL_le rs k
    have HN := Lib.hid hN
    clear hN
    by_cases hlt : k < n
    · obtain ⟨b, off, x, rfl, hbs, hx, hcx⟩ := (h.below hb).at_ hlt
      rw [ints_getD rs k (by rw [HL.out]; exact hlt)] at hx
      injection hx with hx
      subst hx
      have HNX : Hid (pairsL rs (k + 1) = pairsL rs k ++ pairRow (rs.getD k 0) k 24) := Lib.hid rfl
      have hm24 : rs.getD k 0 < 16777216 := by have := p8 n hn; have := hr k; omega
      obtain ⟨D, hD⟩ : ∃ D, D = rs.getD k 0 := ⟨_, rfl⟩
      rw [← hD] at hcx hm24 HNX
      obtain ⟨pk, hpk⟩ : ∃ pk, pk = pairsL rs k := ⟨_, rfl⟩
      rw [← hpk] at ho HN HNX
      have hT1 := hT.below hb
      clear hD hpk
      obtain ⟨wo, hwo⟩ : ∃ wo : World, wr = wo := ⟨_, rfl⟩
      rw [hwo] at ho hb hT1 hcx hbs ⊢
      clear hwo
      go_wp2_with fail
      refine (members_any D hm24 _ hT1).mono ?_
      rintro e w2 ⟨A2, c2, rfl, ho2, hb2⟩
      have hmb : (bitsOf D).length ≤ 24 := bitsOf_len D
      have hap : ∀ q, A1.map (·.block) = some q → A2.map (·.block) ≠ some q := fun q hq e => by have := (ho.lt q hq).2; have := (ho2.lt q e).1; omega
      have ho3 := ho.below hb2
      have hb3 := hb.trans (hb2.mono hb.size)
      have HPM : Hid (∀ t b, (bitsOf D)[t]? = some b → k ≤ b → pairMem D k (t + 1) = pairMem D k t ++ [pairOf k b]) := Lib.hid (fun t b => pairMem_yes D k t b)
      have HPN : Hid (∀ t b, (bitsOf D)[t]? = some b → ¬ k ≤ b → pairMem D k (t + 1) = pairMem D k t) := Lib.hid (fun t b => pairMem_no D k t b)
      have HPF : Hid (pairMem D k (bitsOf D).length = pairRow D k 24) := Lib.hid (pairMem_full D k _ (Nat.le_refl _))
      have HP0 : Hid (pairMem D k 0 = []) := Lib.hid rfl
      have HPL : Hid (∀ t, (pairMem D k t).length ≤ t) := Lib.hid (pairMem_le D k)
      have HB24 : Hid (∀ (t b : Nat), (bitsOf D)[t]? = some b → b < 24) := Lib.hid (fun t b hb => ((bitsOf_mem D b).1 (List.mem_of_getElem? hb)).1)
      obtain ⟨ms, hms⟩ : ∃ ms, ms = bitsOf D := ⟨_, rfl⟩
      rw [← hms] at ho2 hmb HPM HPN HPF HB24 ⊢
      obtain ⟨F, hF⟩ : ∃ F, F = pairMem D k := ⟨_, rfl⟩
      rw [← hF] at HPM HPN HPF HP0 HPL
      obtain ⟨M, hM⟩ : ∃ M, M = ms.length := ⟨_, rfl⟩
      rw [← hM] at ho2 hmb HPF ⊢
      have HM := Lib.hid hM
      clear hms hF hM hb2 ho hb hT1 hcx
      go_wp2_with fail
      go_loopw [3, 18] (fun p q wr => ∃ (t N' : Nat) (A1 : Option Addr) (c1 : Nat), t ≤ M ∧ p = .slice A1 N' c1 ∧ q = .int .i64 (t : Int) ∧ N' = N + (F t).length ∧ Own 102 wr w.heap.size A1 N' c1 (ints (pk ++ F t)) ∧ Below w.heap.size w wr ∧ Own 2 wr wo.heap.size A2 M c2 (ints ms) ∧ (∀ q, A1.map (·.block) = some q → A2.map (·.block) ≠ some q)) (fun _ q _ => M - (intOf q).toNat)
      case atStart => exact ⟨0, N, A1, c1, Nat.zero_le _, rfl, rfl, by rw [HP0.out]; rfl, by rw [HP0.out, List.append_nil]; exact ho3, hb3, ho2, hap⟩
      case round =>
        clear ho3 hb3 ho2 hap
        obtain ⟨t, N', A1, c1, ht, rfl, rfl, hN', ho, hb, ho2, hap⟩ := hrel
        have hft := HPL.out t
        have HN' := Lib.hid hN'
        have hNb : N' ≤ 240 := by omega
        clear hN' hft
        by_cases hlt2 : t < M
        · obtain ⟨b2, off2, x2, rfl, hbs2, hx2, hcx2⟩ := ho2.rd.at_ hlt2
          have hma : ms[t]? = some (ms.getD t 0) := by rw [List.getD_eq_getElem?_getD, List.getElem?_eq_getElem (by rw [← HM.out]; exact hlt2)]; rfl
          rw [ints_at hma] at hx2
          injection hx2 with hx2
          subst hx2
          obtain ⟨a, haa⟩ : ∃ a, a = ms.getD t 0 := ⟨_, rfl⟩
          rw [← haa] at hma hcx2
          have ha24 := HB24.out t a hma
          by_cases hle : k ≤ a
          · have hd : decide ((k : Int) ≤ (a : Int)) = true := decide_eq_true (by omega)
            have HS := Lib.hid (HPM.out t a hma hle)
            have hk62 : k ≤ 62 := by omega
            have ha62 : a ≤ 62 := by omega
            have HW1 : Hid (∀ ww : World, Calls Tryd.prog 99 #[.int .i64 0, .int .i64 (k : Int)] ww fun e w' => e = .returned (.int .i64 ((0 ||| 2 ^ k : Nat) : Int)) ∧ ww = w') := Lib.hid fun ww => with_any 0 k (by omega) hk62 ww
            have hpb : (0 ||| 2 ^ k) < 9223372036854775808 := by rw [Nat.zero_or]; exact p2_lt k hk62
            have HPO : Hid ((0 ||| 2 ^ k) ||| 2 ^ a = pairOf k a) := Lib.hid (by rw [Nat.zero_or]; rfl)
            obtain ⟨P, hP⟩ : ∃ P, P = 0 ||| 2 ^ k := ⟨_, rfl⟩
            rw [← hP] at HW1 hpb HPO
            have HW2 : Hid (∀ ww : World, Calls Tryd.prog 99 #[.int .i64 (P : Int), .int .i64 (a : Int)] ww fun e w' => e = .returned (.int .i64 ((P ||| 2 ^ a : Nat) : Int)) ∧ ww = w') := Lib.hid fun ww => with_any P a hpb ha62 ww
            rw [HPO.out] at HW2
            obtain ⟨X, hX⟩ : ∃ X, X = pairOf k a := ⟨_, rfl⟩
            rw [← hX] at HW2 HS
            have hml : N' + 1 ≤ maxLen := by unfold maxLen; omega
            have hby2 : (N' + 1) * 8 ≤ 140737488355328 := by omega
            clear hP hX haa hma HPM HPN HPO hpb
            go_wp2_with fail
            refine (HW1.out _).mono ?_
            rintro e w' ⟨rfl, rfl⟩
            go_wp2_with fail
            refine (HW2.out _).mono ?_
            rintro e w' ⟨rfl, rfl⟩
            go_wp2_with (at_builtin; refine wpList_append_own_at _ rfl _ _ 58 rfl w.heap.size 102 i0 (.int .i64 0) 1 8 Tryd.underlying58 hi hz0 hz1 hz2 rfl (by decide) (.slice A1 N' c1) N' ((ints (pk ++ F t)).map (Value.int .i64)) rfl (World.ownsRow.alloc ho _) ⟨wr.heap.size, 0, none⟩ 1 1 [.int .i64 (X : Int)] rfl rfl ?c1 ?c2 hml hby2 ?c5 ?_)
            case c1 => exact cell_one_new _ _ _
            case c2 => intro u hu; simp at hu; subst hu; rfl
            case c5 => have := hb.size; simp; omega
            intro v' w4 hown hg _ hat
            rw [ints_snoc_map, List.append_assoc, ← HS.out] at hown
            have hb4 : Below w.heap.size w w4 := (hb.alloc hb.size _).grown hg (by have := hb.size; simp; omega) (fun r hr => (World.ownsRow.lt ho r hr).1)
            have ho22 := ho2.apart (alloc_grown hg) (fun q hq e => by rw [own_block] at e; exact hap q e hq)
            obtain ⟨A3, c3, hv, ho4⟩ := own_shape hown
            have hap2 : ∀ q, A3.map (·.block) = some q → (some (⟨b2, off2, none⟩ : Addr)).map (·.block) ≠ some q := fun q hq e => by
              rw [hv, own_block, own_block] at hat
              rcases hat with h9 | h9
              · exact hap q (h9 ▸ hq) e
              · have h8 := (ho2.lt q e).2
                rw [hq] at h9
                injection h9 with h9
                have h7 : wr.heap.size ≤ (wr.alloc (.cells #[.int .i64 (X : Int)] 102)).heap.size := (below1 wr _).size
                omega
            rw [hv]
            clear hown hg hv ho hb ho2 hap hat
            go_wp2_with fail
            go_roundw
            case rel => exact ⟨t + 1, N' + 1, A3, c3, by omega, rfl, by go_num, by rw [HS.out, List.length_append, HN'.out]; rfl, ho4, hb4, ho22, hap2⟩
            case measure => simp [intOf]; omega
          · have hd : decide ((k : Int) ≤ (a : Int)) = false := decide_eq_false (by omega)
            have HS := Lib.hid (HPN.out t a hma hle)
            clear haa hma HPM HPN
            go_wp2_with fail
            go_roundw
            case rel => exact ⟨t + 1, N', A1, c1, by omega, rfl, by go_num, by rw [HS.out]; exact HN'.out, by rw [HS.out]; exact ho, hb, ho2, hap⟩
            case measure => simp [intOf]; omega
        · have htm : t = M := by omega
          subst htm
          rw [HPF.out] at ho HN'
          go_wp2_with fail
          go_roundw
          case rel => exact ⟨k + 1, N', A1, c1, by omega, rfl, by go_num, by rw [HNX.out, List.length_append, HN'.out, HN.out], by rw [HNX.out]; exact ho, hb⟩
          case measure => simp [intOf]; omega
    · have hkm : k = n := by omega
      subst hkm
      go_wp2_with fail
      go_ret
      obtain rfl := HN.out
      exact ⟨A1, c1, rfl, ho, hb⟩
end Go.Proofs.YtokikilfmglhhaaDoor
