/-
  The pairs of letters that depend on each other: both sides. The pair projections of a trace: both sides' lists of lists. PairProjections: both sides. Two words have one Foata form, and one list of pair projections, exactly if they are words of one trace: plain mathematics. The laws' own comparisons of lists of numbers, and of lists of lists. FnTraceForms: for every alphabet and every two lists the law answers true.
-/
import Derived.Test.YtokikilfmglhhaaDoorAreDep
import Derived.Maps.AppendAt
import Derived.Test.YtokikilfmglhhaaDoorPrj
import Derived.Test.YtokikilfmglhhaaDoorSSL
import Derived.Test.YtokikilfmglhhaaDoorSameM
import Derived.Test.YtokikilfmglhhaaDoorFoM
import Derived.Test.YtokikilfmglhhaaDoorTrIn
import Derived.Test.YtokikilfmglhhaaDoorB2
import Derived.Test.YtokikilfmglhhaaDoorSS
import Derived.Test.YtokikilfmglhhaaDoorEq64
import Derived.Test.YtokikilfmglhhaaDoorStA
import Derived.Test.YtokikilfmglhhaaDoorNfA
import Derived.Test.YtokikilfmglhhaaDoorFoataA
namespace Go.Proofs.YtokikilfmglhhaaDoor
open Go Go.RowKit
set_option linter.unusedVariables false
set_option maxRecDepth 100000

def pairOf (a b : Nat) : Nat := 2 ^ a ||| 2 ^ b
/-- The pairs of a with letters below k, from a on. -/
def pairRow (r a k : Nat) : List Nat := ((List.range k).filter fun b => decide (a ≤ b) && r.testBit b).map (pairOf a)
def pairsL (rs : List Nat) : Nat → List Nat
  | 0 => []
  | k + 1 => pairsL rs k ++ pairRow (rs.getD k 0) k 24
theorem pairRow_yes (r a k : Nat) (h1 : a ≤ k) (h2 : r.testBit k = true) : pairRow r a (k + 1) = pairRow r a k ++ [pairOf a k] := by
  unfold pairRow; rw [List.range_succ, List.filter_append, List.map_append]; simp [h1, h2]
theorem pairRow_no (r a k : Nat) (h : (decide (a ≤ k) && r.testBit k) = false) : pairRow r a (k + 1) = pairRow r a k := by
  unfold pairRow; rw [List.range_succ, List.filter_append, List.map_append]; simp [h]
theorem pairRow_le (r a k : Nat) : (pairRow r a k).length ≤ k := by
  unfold pairRow; rw [List.length_map]
  exact Nat.le_trans (List.length_filter_le _ _) (by rw [List.length_range]; exact Nat.le_refl _)
theorem pairRow_start (r a : Nat) : ∀ k, k ≤ a → pairRow r a k = []
  | 0, _ => rfl
  | k + 1, h => by rw [pairRow_no r a k (by have : ¬ a ≤ k := by omega
                                            simp [this]), pairRow_start r a k (by omega)]
theorem pairRow_full (r a n : Nat) (hr : r < 2 ^ n) : ∀ k, n ≤ k → pairRow r a k = pairRow r a n
  | 0, h => by have : n = 0 := by omega
               subst this; rfl
  | k + 1, h => by
    by_cases e : n = k + 1
    · rw [e]
    · rw [pairRow_no r a k (by have : r.testBit k = false := Nat.testBit_lt_two_pow (Nat.lt_of_lt_of_le hr (Nat.pow_le_pow_right (by decide) (by omega)))
                               simp [this]), pairRow_full r a n hr k (by omega)]
theorem pairsL_le (rs : List Nat) : ∀ k, (pairsL rs k).length ≤ k * 24
  | 0 => Nat.zero_le _
  | k + 1 => by
    show (pairsL rs k ++ _).length ≤ _
    rw [List.length_append]
    have := pairsL_le rs k; have := pairRow_le (rs.getD k 0) k 24; omega
/-- The same by the list of members, after j of them. -/
def pairMem (r a j : Nat) : List Nat := (((bitsOf r).take j).filter fun b => decide (a ≤ b)).map (pairOf a)
theorem pairMem_yes (r a j b : Nat) (hb : (bitsOf r)[j]? = some b) (h : a ≤ b) : pairMem r a (j + 1) = pairMem r a j ++ [pairOf a b] := by
  unfold pairMem; rw [List.take_add_one, hb, List.filter_append, List.map_append]; simp [h]
theorem pairMem_no (r a j b : Nat) (hb : (bitsOf r)[j]? = some b) (h : ¬ a ≤ b) : pairMem r a (j + 1) = pairMem r a j := by
  unfold pairMem; rw [List.take_add_one, hb, List.filter_append, List.map_append]; simp [h]
theorem pairMem_le (r a j : Nat) : (pairMem r a j).length ≤ j := by
  unfold pairMem; rw [List.length_map]
  exact Nat.le_trans (List.length_filter_le _ _) (by rw [List.length_take]; omega)
theorem pairMem_full (r a j : Nat) (hj : (bitsOf r).length ≤ j) : pairMem r a j = pairRow r a 24 := by
  unfold pairMem pairRow
  rw [List.take_of_length_le hj]
  unfold bitsOf upTo
  rw [List.filter_filter]
theorem own_block (A : Option Addr) (n c : Nat) : (Value.slice A n c).ownBlock = A.map (·.block) := by cases A <;> rfl
theorem alloc_grown {w w' : World} {o : Obj} {row : Option Nat} (hg : (w.alloc o).grownBy w' row) : w.grownBy w' row := by
  have hb := below1 w o
  exact ⟨hg.os.trans hb.os, hg.tape.trans hb.tape, hg.output.trans hb.output, Nat.le_trans hb.size hg.size, fun k hk hne => (hg.block k (Nat.lt_of_lt_of_le hk hb.size) hne).trans (hb.block k hk)⟩
set_option maxHeartbeats 3200000 in
theorem pairs_any (A : Option Addr) (n c : Nat) (rs : List Nat) (w : World) (h : Rd w A n (ints rs)) (hn : n ≤ 8) (hr : ∀ i, rs.getD i 0 < 2 ^ n) (hT : Tab w) :
    Calls Tryd.prog 105 #[.slice A n c] w (MakesE 102 w (pairsL rs n).length (ints (pairsL rs n))) := by
  obtain ⟨i0, hi, hz0, hz1, hz2⟩ := info_parts info_set
  have HL : Hid (rs.length = n) := Lib.hid (by have := h.1; rw [ints_len] at this; exact this)
  go_enter Tryd.func105, Tryd.ntmps105
  go_wp2_with fail
  go_loopw [3, 10] (fun p q wr => ∃ (k N : Nat) (A1 : Option Addr) (c1 : Nat), k ≤ n ∧ p = .slice A1 N c1 ∧ q = .int .i64 (k : Int) ∧ N = (pairsL rs k).length ∧ Own 102 wr w.heap.size A1 N c1 (ints (pairsL rs k)) ∧ Below w.heap.size w wr) (fun _ q _ => n - (intOf q).toNat)
  case atStart => exact ⟨0, 0, _, 0, Nat.zero_le _, rfl, rfl, rfl, Own.nil _ _ _, Below.refl _ _⟩
  case round =>
    obtain ⟨k, N, A1, c1, hk, rfl, rfl, hN, ho, hb⟩ := hrel
    have hN24 : N ≤ k * 24 := by rw [hN]; exact pairsL_le rs k
    have HN := Lib.hid hN
    clear hN
    by_cases hlt : k < n
    · obtain ⟨b, off, x, rfl, hbs, hx, hcx⟩ := (h.below hb).at_ hlt
      rw [ints_getD rs k (by rw [HL.out]; exact hlt)] at hx
      injection hx with hx
      subst hx
      have HNX : Hid (pairsL rs (k + 1) = pairsL rs k ++ pairRow (rs.getD k 0) k 24) := Lib.hid rfl
      have hm24 : rs.getD k 0 < 16777216 := by have := p8 n hn; have := hr k; omega
      obtain ⟨D, hD⟩ : ∃ D, D = rs.getD k 0 := ⟨_, rfl⟩
      rw [← hD] at hcx hm24 HNX
      obtain ⟨pk, hpk⟩ : ∃ pk, pk = pairsL rs k := ⟨_, rfl⟩
      rw [← hpk] at ho HN HNX
      have hT1 := hT.below hb
      clear hD hpk
      obtain ⟨wo, hwo⟩ : ∃ wo : World, wr = wo := ⟨_, rfl⟩
      rw [hwo] at ho hb hT1 hcx hbs ⊢
      clear hwo
      go_wp2_with fail
      refine (members_any D hm24 _ hT1).mono ?_
      rintro e w2 ⟨A2, c2, rfl, ho2, hb2⟩
      have hmb : (bitsOf D).length ≤ 24 := bitsOf_len D
      have hap : ∀ q, A1.map (·.block) = some q → A2.map (·.block) ≠ some q := fun q hq e => by have := (ho.lt q hq).2; have := (ho2.lt q e).1; omega
      have ho3 := ho.below hb2
      have hb3 := hb.trans (hb2.mono hb.size)
      have HPM : Hid (∀ t b, (bitsOf D)[t]? = some b → k ≤ b → pairMem D k (t + 1) = pairMem D k t ++ [pairOf k b]) := Lib.hid (fun t b => pairMem_yes D k t b)
      have HPN : Hid (∀ t b, (bitsOf D)[t]? = some b → ¬ k ≤ b → pairMem D k (t + 1) = pairMem D k t) := Lib.hid (fun t b => pairMem_no D k t b)
      have HPF : Hid (pairMem D k (bitsOf D).length = pairRow D k 24) := Lib.hid (pairMem_full D k _ (Nat.le_refl _))
      have HP0 : Hid (pairMem D k 0 = []) := Lib.hid rfl
      have HPL : Hid (∀ t, (pairMem D k t).length ≤ t) := Lib.hid (pairMem_le D k)
      have HB24 : Hid (∀ (t b : Nat), (bitsOf D)[t]? = some b → b < 24) := Lib.hid (fun t b hb => ((bitsOf_mem D b).1 (List.mem_of_getElem? hb)).1)
      obtain ⟨ms, hms⟩ : ∃ ms, ms = bitsOf D := ⟨_, rfl⟩
      rw [← hms] at ho2 hmb HPM HPN HPF HB24 ⊢
      obtain ⟨F, hF⟩ : ∃ F, F = pairMem D k := ⟨_, rfl⟩
      rw [← hF] at HPM HPN HPF HP0 HPL
      obtain ⟨M, hM⟩ : ∃ M, M = ms.length := ⟨_, rfl⟩
      rw [← hM] at ho2 hmb HPF ⊢
      have HM := Lib.hid hM
      clear hms hF hM hb2 ho hb hT1 hcx
      go_wp2_with fail
      go_loopw [3, 18] (fun p q wr => ∃ (t N' : Nat) (A1 : Option Addr) (c1 : Nat), t ≤ M ∧ p = .slice A1 N' c1 ∧ q = .int .i64 (t : Int) ∧ N' = N + (F t).length ∧ Own 102 wr w.heap.size A1 N' c1 (ints (pk ++ F t)) ∧ Below w.heap.size w wr ∧ Own 2 wr wo.heap.size A2 M c2 (ints ms) ∧ (∀ q, A1.map (·.block) = some q → A2.map (·.block) ≠ some q)) (fun _ q _ => M - (intOf q).toNat)
      case atStart => exact ⟨0, N, A1, c1, Nat.zero_le _, rfl, rfl, by rw [HP0.out]; rfl, by rw [HP0.out, List.append_nil]; exact ho3, hb3, ho2, hap⟩
      case round =>
        clear ho3 hb3 ho2 hap
        obtain ⟨t, N', A1, c1, ht, rfl, rfl, hN', ho, hb, ho2, hap⟩ := hrel
        have hft := HPL.out t
        have HN' := Lib.hid hN'
        have hNb : N' ≤ 240 := by omega
        clear hN' hft
        by_cases hlt2 : t < M
        · obtain ⟨b2, off2, x2, rfl, hbs2, hx2, hcx2⟩ := ho2.rd.at_ hlt2
          have hma : ms[t]? = some (ms.getD t 0) := by rw [List.getD_eq_getElem?_getD, List.getElem?_eq_getElem (by rw [← HM.out]; exact hlt2)]; rfl
          rw [ints_at hma] at hx2
          injection hx2 with hx2
          subst hx2
          obtain ⟨a, haa⟩ : ∃ a, a = ms.getD t 0 := ⟨_, rfl⟩
          rw [← haa] at hma hcx2
          have ha24 := HB24.out t a hma
          by_cases hle : k ≤ a
          · have hd : decide ((k : Int) ≤ (a : Int)) = true := decide_eq_true (by omega)
            have HS := Lib.hid (HPM.out t a hma hle)
            have hk62 : k ≤ 62 := by omega
            have ha62 : a ≤ 62 := by omega
            have HW1 : Hid (∀ ww : World, Calls Tryd.prog 99 #[.int .i64 0, .int .i64 (k : Int)] ww fun e w' => e = .returned (.int .i64 ((0 ||| 2 ^ k : Nat) : Int)) ∧ ww = w') := Lib.hid fun ww => with_any 0 k (by omega) hk62 ww
            have hpb : (0 ||| 2 ^ k) < 9223372036854775808 := by rw [Nat.zero_or]; exact p2_lt k hk62
            have HPO : Hid ((0 ||| 2 ^ k) ||| 2 ^ a = pairOf k a) := Lib.hid (by rw [Nat.zero_or]; rfl)
            obtain ⟨P, hP⟩ : ∃ P, P = 0 ||| 2 ^ k := ⟨_, rfl⟩
            rw [← hP] at HW1 hpb HPO
            have HW2 : Hid (∀ ww : World, Calls Tryd.prog 99 #[.int .i64 (P : Int), .int .i64 (a : Int)] ww fun e w' => e = .returned (.int .i64 ((P ||| 2 ^ a : Nat) : Int)) ∧ ww = w') := Lib.hid fun ww => with_any P a hpb ha62 ww
            rw [HPO.out] at HW2
            obtain ⟨X, hX⟩ : ∃ X, X = pairOf k a := ⟨_, rfl⟩
            rw [← hX] at HW2 HS
            have hml : N' + 1 ≤ maxLen := by unfold maxLen; omega
            have hby2 : (N' + 1) * 8 ≤ 140737488355328 := by omega
            clear hP hX haa hma HPM HPN HPO hpb
            go_wp2_with fail
            refine (HW1.out _).mono ?_
            rintro e w' ⟨rfl, rfl⟩
            go_wp2_with fail
            refine (HW2.out _).mono ?_
            rintro e w' ⟨rfl, rfl⟩
            go_wp2_with (at_builtin; refine wpList_append_own_at _ rfl _ _ 58 rfl w.heap.size 102 i0 (.int .i64 0) 1 8 Tryd.underlying58 hi hz0 hz1 hz2 rfl (by decide) (.slice A1 N' c1) N' ((ints (pk ++ F t)).map (Value.int .i64)) rfl (World.ownsRow.alloc ho _) ⟨wr.heap.size, 0, none⟩ 1 1 [.int .i64 (X : Int)] rfl rfl ?c1 ?c2 hml hby2 ?c5 ?_)
            case c1 => exact cell_one_new _ _ _
            case c2 => intro u hu; simp at hu; subst hu; rfl
            case c5 => have := hb.size; simp; omega
            intro v' w4 hown hg _ hat
            rw [ints_snoc_map, List.append_assoc, ← HS.out] at hown
            have hb4 : Below w.heap.size w w4 := (hb.alloc hb.size _).grown hg (by have := hb.size; simp; omega) (fun r hr => (World.ownsRow.lt ho r hr).1)
            have ho22 := ho2.apart (alloc_grown hg) (fun q hq e => by rw [own_block] at e; exact hap q e hq)
            obtain ⟨A3, c3, hv, ho4⟩ := own_shape hown
            have hap2 : ∀ q, A3.map (·.block) = some q → (some (⟨b2, off2, none⟩ : Addr)).map (·.block) ≠ some q := fun q hq e => by
              rw [hv, own_block, own_block] at hat
              rcases hat with h9 | h9
              · exact hap q (h9 ▸ hq) e
              · have h8 := (ho2.lt q e).2
                rw [hq] at h9
                injection h9 with h9
                have h7 : wr.heap.size ≤ (wr.alloc (.cells #[.int .i64 (X : Int)] 102)).heap.size := (below1 wr _).size
                omega
            rw [hv]
            clear hown hg hv ho hb ho2 hap hat
            go_wp2_with fail
            go_roundw
            case rel => exact ⟨t + 1, N' + 1, A3, c3, by omega, rfl, by go_num, by rw [HS.out, List.length_append, HN'.out]; rfl, ho4, hb4, ho22, hap2⟩
            case measure => simp [intOf]; omega
          · have hd : decide ((k : Int) ≤ (a : Int)) = false := decide_eq_false (by omega)
            have HS := Lib.hid (HPN.out t a hma hle)
            clear haa hma HPM HPN
            go_wp2_with fail
            go_roundw
            case rel => exact ⟨t + 1, N', A1, c1, by omega, rfl, by go_num, by rw [HS.out]; exact HN'.out, by rw [HS.out]; exact ho, hb, ho2, hap⟩
            case measure => simp [intOf]; omega
        · have htm : t = M := by omega
          subst htm
          rw [HPF.out] at ho HN'
          go_wp2_with fail
          go_roundw
          case rel => exact ⟨k + 1, N', A1, c1, by omega, rfl, by go_num, by rw [HNX.out, List.length_append, HN'.out, HN.out], by rw [HNX.out]; exact ho, hb⟩
          case measure => simp [intOf]; omega
    · have hkm : k = n := by omega
      subst hkm
      go_wp2_with fail
      go_ret
      obtain rfl := HN.out
      exact ⟨A1, c1, rfl, ho, hb⟩
end Go.Proofs.YtokikilfmglhhaaDoor
namespace Go.Proofs.YtokikilfmglhhaaDoor
open Go Go.RowKit
set_option linter.unusedVariables false
set_option maxRecDepth 100000

theorem info_sls : (Tryd.prog.info? 22).map (fun i => (i.zero, i.size, i.bytes)) = some (some (.slice none 0 0), 1, 24) := by kernel_rfl
/-- One more slice behind a row of slices: the element is new behind the row's elements; the row itself may have moved. -/
theorem OwnSS.snoc {w w1 w2 : World} {lo n N c : Nat} {A : Option Addr} {v' : Value} {At : Option Addr} {ct : Nat} {ys : List Int}
    {ts : List (Option Addr × Nat × List Int)} (h : OwnT w lo w.heap.size A n c ts) (hb : Below w.heap.size w w1) (ho : Own 2 w1 w.heap.size At N ct ys) (hlo : lo ≤ w.heap.size)
    (hrow : w2.ownsRow lo 22 1 v' (n + 1) (valsT ts ++ [.slice At N ct])) (hg : w1.grownBy w2 (A.map (·.block)))
    (hat : v'.ownBlock = A.map (·.block) ∨ ∃ g, v'.ownBlock = some g ∧ w1.heap.size ≤ g) :
    ∃ A' c', v' = .slice A' (n + 1) c' ∧ OwnSS w2 lo w2.heap.size A' (n + 1) c' (ts.map (fun t => t.2.2) ++ [ys]) := by
  obtain ⟨g9, c', rfl, _, _⟩ := World.ownsRow.form hrow (Nat.succ_pos n)
  obtain ⟨A', hA9⟩ : ∃ A', A' = some (⟨g9, 0, none⟩ : Addr) := ⟨_, rfl⟩
  rw [← hA9] at hrow hat ⊢
  have ht := h
  have hN : ys.length = N := ho.len
  have hsz : w.heap.size ≤ w1.heap.size := hb.size
  have hsz2 : w1.heap.size ≤ w2.heap.size := hg.size
  have hA : ∀ q, A.map (·.block) = some q → lo ≤ q ∧ q < w.heap.size := fun q hq => row_block ht.2.1 q hq
  have hAt : ∀ q, At.map (·.block) = some q → w.heap.size ≤ q ∧ q < w1.heap.size := fun q hq => ho.lt q hq
  have hA' : ∀ q, A'.map (·.block) = some q → A.map (·.block) = some q ∨ w1.heap.size ≤ q := fun q hq => by
    rw [own_block] at hat
    rcases hat with h9 | ⟨g, h9, h8⟩
    · exact .inl (h9 ▸ hq)
    · rw [hq] at h9; injection h9 with h9; exact .inr (by omega)
  refine ⟨A', c', rfl, ts ++ [(At, ct, ys)], by rw [List.map_append]; rfl, by rw [List.length_append, ht.1]; rfl, ?_, fun q hq => (row_block hrow q hq).2, fun j t hj => ?_⟩
  · have : valsT (ts ++ [(At, ct, ys)]) = valsT ts ++ [.slice At N ct] := by unfold valsT; rw [List.map_append, ← hN]; rfl
    rw [this]; exact hrow
  · rcases Nat.lt_or_ge j ts.length with hlt | hge
    · rw [List.getElem?_append_left hlt] at hj
      have h9 := ht.2.2.2 j t hj
      have hblk : ∀ q, t.1.map (·.block) = some q → q < w.heap.size := fun q hq => (h9.1.lt q hq).2
      refine ⟨(h9.1.below hb).apart hg (fun q hq e9 => (h9.2 q hq).2.1 e9), fun q hq => ⟨by have := hblk q hq; omega, fun e9 => ?_, fun l u hl hu => ?_⟩⟩
      · rcases hA' q e9 with h8 | h8
        · exact (h9.2 q hq).2.1 h8
        · have := hblk q hq; omega
      · rcases Nat.lt_or_ge l ts.length with hl2 | hl2
        · rw [List.getElem?_append_left hl2] at hu
          exact (h9.2 q hq).2.2 l u hl hu
        · rw [List.getElem?_append_right hl2] at hu
          cases hd : l - ts.length with
          | zero =>
            rw [hd] at hu
            injection hu with hu
            subst hu
            intro e8
            have := (hAt q e8).1; have := hblk q hq; omega
          | succ k => rw [hd] at hu; cases hu
    · rw [List.getElem?_append_right hge] at hj
      cases hd : j - ts.length with
      | zero =>
        rw [hd] at hj
        injection hj with hj
        subst hj
        have hjl : j = ts.length := by omega
        refine ⟨?_, fun q hq => ⟨by have := (hAt q hq).2; omega, fun e9 => ?_, fun l u hl hu e8 => ?_⟩⟩
        · show Own 2 w2 lo At ys.length ct ys
          rw [hN]
          exact (ho.mono hlo).apart hg (fun q hq e9 => by have := (hA q e9).2; have := (hAt q hq).1; omega)
        · have h7 := hAt q hq
          rcases hA' q e9 with h8 | h8
          · have := (hA q h8).2; omega
          · omega
        · rcases Nat.lt_or_ge l ts.length with hl2 | hl2
          · rw [List.getElem?_append_left hl2] at hu
            have := ((ht.2.2.2 l u hu).1.lt q e8).2
            have := (hAt q hq).1; omega
          · rw [List.getElem?_append_right hl2] at hu
            have : l - ts.length ≠ 0 := by omega
            cases hk : l - ts.length with
            | zero => exact this hk
            | succ k => rw [hk] at hu; cases hu
      | succ k => rw [hd] at hj; cases hj
def ppL (us ps : List Nat) : List (List Int) := ps.map fun p => ints (prjS us p)
theorem ppL_next (us ps : List Nat) (k p : Nat) (h : ps[k]? = some p) : ppL us (ps.take (k + 1)) = ppL us (ps.take k) ++ [ints (prjS us p)] := by
  unfold ppL; rw [List.take_add_one, h, List.map_append]; rfl
theorem ppL_len (us ps : List Nat) : (ppL us ps).length = ps.length := by unfold ppL; rw [List.length_map]
theorem ppL_sum (us : List Nat) : ∀ ps, sumL (ppL us ps) ≤ ps.length * us.length
  | [] => Nat.zero_le _
  | p :: r => by
    have e : sumL (ppL us (p :: r)) = (ints (prjS us p)).length + sumL (ppL us r) := by unfold sumL ppL; rw [List.map_cons, List.map_cons, List.sum_cons]
    rw [e, ints_len, List.length_cons, Nat.succ_mul]
    have := prjS_len us p; have := ppL_sum us r; omega
theorem pairsL_small (rs : List Nat) : ∀ k, k ≤ 24 → ∀ p, p ∈ pairsL rs k → p < 9223372036854775808
  | 0, _, p, h => by cases h
  | k + 1, hk, p, h => by
    rcases List.mem_append.1 h with h | h
    · exact pairsL_small rs k (by omega) p h
    · obtain ⟨b, hb, rfl⟩ := List.mem_map.1 h
      have hb24 := List.mem_range.1 (List.mem_filter.1 hb).1
      have h9 : pairOf k b < 2 ^ 63 := Nat.or_lt_two_pow (Nat.pow_lt_pow_right (by decide) (by omega)) (Nat.pow_lt_pow_right (by decide) (by omega))
      exact h9
set_option maxHeartbeats 3200000 in
theorem pairProjections_any (A : Option Addr) (n c : Nat) (rs : List Nat) (A1 : Option Addr) (m d : Nat) (vs : List Nat) (w : World) (h : Rd w A n (ints rs)) (hn : n ≤ 8) (hr : ∀ i, rs.getD i 0 < 2 ^ n) (h2 : Rd w A1 m (ints vs)) (hm : m ≤ 24) (hvs : ∀ p, p < m → vs.getD p 0 < 8) (hT : Tab w) :
    Calls Tryd.prog 61 #[.slice A n c, .slice A1 m d] w fun e w' => ∃ A' c', e = .returned (.slice A' (pairsL rs n).length c') ∧ OwnSS w' w.heap.size w'.heap.size A' (pairsL rs n).length c' (ppL vs (pairsL rs n)) ∧ Below w.heap.size w w' := by
  obtain ⟨i1, hi1, hy0, hy1, hy2⟩ := info_parts info_sls
  have HP := Lib.hid (pairs_any A n c rs w h hn hr hT)
  have hpl := pairsL_le rs n
  have HPB : Hid (∀ (k p : Nat), (pairsL rs n)[k]? = some p → p < 9223372036854775808) := Lib.hid fun k p hk => pairsL_small rs n (by omega) p (List.mem_of_getElem? hk)
  obtain ⟨ps, hps⟩ : ∃ ps, ps = pairsL rs n := ⟨_, rfl⟩
  rw [← hps] at HP HPB hpl ⊢
  obtain ⟨N, hN⟩ : ∃ N, N = ps.length := ⟨_, rfl⟩
  have HN := Lib.hid hN
  rw [← hN] at HP hpl ⊢
  clear hps hN
  go_enter Tryd.func61, Tryd.ntmps61
  go_wp2_with fail
  refine HP.out.mono ?_
  rintro e w2 ⟨A2, c2, rfl, hop, hbw⟩
  have hrd := hop.rd
  have hNb : N ≤ 192 := by omega
  have hby : ∀ k, k < N → (k + 1) * 24 ≤ 140737488355328 := fun k hk => by omega
  have HBY := Lib.hid hby
  have HB2 := Lib.hid hbw
  have h22 := h2.below hbw
  clear hop hby hbw h hpl
  go_wp2_with fail
  go_loopw [5, 11] (fun p q wr => ∃ (k : Nat) (A3 : Option Addr) (c3 : Nat), k ≤ N ∧ p = .slice A3 k c3 ∧ q = .int .i64 (k : Int) ∧ OwnSS wr w2.heap.size wr.heap.size A3 k c3 (ppL vs (ps.take k)) ∧ Below w2.heap.size w2 wr) (fun _ q _ => N - (intOf q).toNat)
  case atStart => exact ⟨0, none, 0, Nat.zero_le _, rfl, rfl, OwnSS.nil _ _, Below.refl _ _⟩
  case round =>
    skip
    obtain ⟨k, A3, c3, hk, rfl, rfl, hss, hb⟩ := hrel
    by_cases hlt : k < N
    · obtain ⟨b, off, x, rfl, hbs, hx, hcx⟩ := (hrd.below hb).at_ hlt
      have hma : ps[k]? = some (ps.getD k 0) := by rw [List.getD_eq_getElem?_getD, List.getElem?_eq_getElem (by rw [← HN.out]; exact hlt)]; rfl
      rw [ints_at hma] at hx
      injection hx with hx
      subst hx
      have HNX := Lib.hid (ppL_next vs ps k _ hma)
      have hP := HPB.out k _ hma
      obtain ⟨P, hPe⟩ : ∃ P, P = ps.getD k 0 := ⟨_, rfl⟩
      rw [← hPe] at hcx HNX hP
      have hpj := projection_any A1 m d P vs wr (h22.below hb) hm hP hvs
      obtain ⟨ys, hys⟩ : ∃ ys, ys = ints (prjS vs P) := ⟨_, rfl⟩
      rw [← hys] at hpj HNX
      obtain ⟨Y, hY⟩ : ∃ Y, Y = (prjS vs P).length := ⟨_, rfl⟩
      rw [← hY] at hpj
      obtain ⟨ts, hts, hot⟩ := hss
      have HTS := Lib.hid hts
      have hkb := HBY.out k hlt
      have hml : k + 1 ≤ maxLen := by unfold maxLen; omega
      clear hPe hys hY hma hts
      obtain ⟨wo, hwo⟩ : ∃ wo : World, wr = wo := ⟨_, rfl⟩
      rw [hwo] at hot hb hpj hcx hbs ⊢
      clear hwo
      have hdl : decide ((k : Int) < (N : Int)) = true := decide_eq_true (by omega)
      go_wp2_with fail
      refine hpj.mono ?_
      rintro e w3 ⟨At, ct, rfl, hel, hbe⟩
      have hrow3 := row_kept hot.2.1 (grownBy_of_below hbe) (fun q _ e => by cases e)
      have hrb : ∀ q, A3.map (·.block) = some q → w2.heap.size ≤ q := fun q hq => (row_block hot.2.1 q hq).1
      go_wp2_with (at_builtin; refine wpList_append_own_at _ rfl _ _ 29 rfl w2.heap.size 22 i1 (.slice none 0 0) 1 24 Tryd.underlying29 hi1 hy0 hy1 hy2 rfl (by decide) (.slice A3 k c3) k (valsT ts) rfl (World.ownsRow.alloc hrow3 _) ⟨w3.heap.size, 0, none⟩ 1 1 [.slice At Y ct] rfl rfl ?c1 ?c2 hml hkb ?c5 ?_)
      case c1 => exact cell_one_new _ _ _
      case c2 => intro u hu; simp at hu; subst hu; rfl
      case c5 => have := hb.size; have := hbe.size; simp; omega
      intro v' w4 hown hg _ hat
      have hbw3 := hb.trans (hbe.mono hb.size)
      have hb4 : Below w2.heap.size w2 w4 := (hbw3.alloc hbw3.size _).grown hg (by have := hbw3.size; simp; omega) (fun r hr => hrb r (by rw [own_block] at hr; exact hr))
      have hg3 := alloc_grown hg
      rw [own_block] at hg3 hat
      obtain ⟨A4, c4, hv, hss4⟩ := OwnSS.snoc hot hbe hel hb.size hown hg3 (hat.imp id fun h9 => ⟨_, h9, Nat.le_succ _⟩)
      rw [hv]
      rw [HTS.out, ← HNX.out] at hss4
      clear hown hg hv hot hb hbe hel hrow3 hg3 hat hbw3 hpj hcx
      go_wp2_with fail
      go_roundw
      case rel => exact ⟨k + 1, A4, c4, by omega, rfl, by go_num, hss4, hb4⟩
      case measure => simp [intOf]; omega
    · have hkm : k = N := by omega
      subst hkm
      have hdl : decide ((k : Int) < (k : Int)) = false := decide_eq_false (by omega)
      have HTK : Hid (ps.take k = ps) := Lib.hid (List.take_of_length_le (by rw [HN.out]; exact Nat.le_refl _))
      go_wp2_with fail
      go_ret
      rw [HTK.out] at hss
      exact ⟨A3, c3, rfl, hss.wide HB2.out.size (Nat.le_refl _), HB2.out.trans (hb.mono HB2.out.size)⟩
end Go.Proofs.YtokikilfmglhhaaDoor
namespace Go.Proofs.YtokikilfmglhhaaDoor
open Go Go.RowKit
set_option linter.unusedVariables false
set_option maxRecDepth 100000

def lssAns (f : List Nat → List Nat → List (List Int)) (L : Int) (xs us : List Int) : List (List Int) × Int := if wCode L xs us = 0 then (f (xs.map Int.toNat) (us.map Int.toNat), 0) else ([], wCode L xs us)
theorem lssAns_no (f : List Nat → List Nat → List (List Int)) (L : Int) (xs us : List Int) (h : alphB L xs = false) : lssAns f L xs us = ([], 1) := by
  have e : wCode L xs us = 1 := by unfold wCode; rw [if_neg (by rw [h]; decide)]
  unfold lssAns; rw [e]; rfl
theorem lssAns_bad (f : List Nat → List Nat → List (List Int)) (L : Int) (xs us : List Int) (h : alphB L xs = true) (h2 : wordB L us = false) : lssAns f L xs us = ([], 2) := by
  have e : wCode L xs us = 2 := by unfold wCode; rw [if_pos h, if_neg (by rw [h2]; decide)]
  unfold lssAns; rw [e]; rfl
theorem lssAns_yes (f : List Nat → List Nat → List (List Int)) (L : Int) (rs us : List Nat) (h : alphB L (ints rs) = true) (h2 : wordB L (ints us) = true) : lssAns f L (ints rs) (ints us) = (f rs us, 0) := by
  have e : wCode L (ints rs) (ints us) = 0 := by unfold wCode; rw [if_pos h, if_pos h2]
  unfold lssAns; rw [if_pos e, ints_toNat, ints_toNat]
theorem lssAns_small (f : List Nat → List Nat → List (List Int)) (b : Nat) (hf : ∀ rs us, rs.length ≤ 8 → us.length ≤ 24 → (f rs us).length ≤ b ∧ sumL (f rs us) ≤ b) (L : Int) (xs us : List Int) : (lssAns f L xs us).1.length ≤ b ∧ sumL (lssAns f L xs us).1 ≤ b := by
  unfold lssAns
  split
  · rename_i h
    unfold wCode at h
    split at h
    · rename_i ha
      split at h
      · rename_i hw
        refine hf _ _ ?_ ?_
        · rw [List.length_map]
          unfold alphB at ha
          rw [Bool.and_eq_true, decide_eq_true_eq] at ha
          omega
        · rw [List.length_map]
          unfold wordB at hw
          rw [Bool.and_eq_true, decide_eq_true_eq] at hw
          exact hw.1
      · omega
    · omega
  · exact ⟨Nat.zero_le _, Nat.zero_le _⟩
theorem lssPost_no {w w1 : World} {C : Int} (hb : Below w.heap.size w w1) : LssPost w 0 [] C (.returned (.tuple #[.slice none 0 0, .int .i64 C])) w1 := ⟨none, 0, rfl, OwnSS.nil _ _, hb⟩
theorem lssPost_yes {w w1 w2 : World} {A' : Option Addr} {c' N : Nat} {zss : List (List Int)} (hl : zss.length = N) (ho : OwnSS w2 w1.heap.size w2.heap.size A' N c' zss) (hB : Below w.heap.size w w1) (hb : Below w1.heap.size w1 w2) : LssPost w zss.length zss 0 (.returned (.tuple #[.slice A' N c', .int .i64 0])) w2 := by
  subst hl
  exact ⟨A', c', rfl, ho.wide hB.size (Nat.le_refl _), hB.trans (hb.mono hB.size)⟩
def ppR (rs us : List Nat) : List (List Int) := ppL us (pairsL rs rs.length)
def ppAns (L : Int) (xs us : List Int) : List (List Int) × Int := lssAns ppR L xs us
theorem ppAns_small (L : Int) (xs us : List Int) : (ppAns L xs us).1.length ≤ 4608 ∧ sumL (ppAns L xs us).1 ≤ 4608 := by
  refine lssAns_small ppR 4608 (fun rs us h1 h2 => ?_) L xs us
  have h3 := pairsL_le rs rs.length
  have h4 := ppL_sum us (pairsL rs rs.length)
  have h5 : (pairsL rs rs.length).length ≤ 192 := by omega
  have h6 : (pairsL rs rs.length).length * us.length ≤ 192 * 24 := Nat.mul_le_mul h5 h2
  unfold ppR
  rw [ppL_len]
  exact ⟨by omega, by omega⟩
set_option maxHeartbeats 3200000 in
theorem implPairProjections (L : Int) (A : Option Addr) (n c : Nat) (xs : List Int) (A1 : Option Addr) (m d : Nat) (us : List Int) (w : World) (h : Rd w A n xs) (hwf : Wf xs) (hL1 : -9223372036854775808 ≤ L) (hL2 : L ≤ 9223372036854775807) (hn : n ≤ maxLen) (h2 : Rd w A1 m us) (hwf2 : Wf us) (hm : m ≤ maxLen) (hT : Tab w) :
    Calls Tryd.prog 18 #[.agg #[.int .i64 L, .slice A n c], .slice A1 m d] w (LssPost w (ppAns L xs us).1.length (ppAns L xs us).1 (ppAns L xs us).2) := by
  have hn2 : n ≤ 9223372036854775807 := by unfold maxLen at hn; omega
  have hn1 := h.1
  have hm1 := h2.1
  have x0 := box_new 24 w L A n c
  have HB := Lib.hid (below2 w (.cells #[.int .i64 L, .slice A n c] 24) (.cells #[.slice A1 m d] 22))
  have hh := h.below HB.out
  have ht := rdT_box w (.cells #[.int .i64 L, .slice A n c] 24) A1 m d us 22 h2 hm
  have hh2 := h2.below HB.out
  have hT1 := hT.below HB.out
  have x1 := x0.next (below1 (w.alloc (.cells #[.int .i64 L, .slice A n c] 24)) (.cells #[.slice A1 m d] 22))
  cases ha : alphB L xs
  · rw [show ppAns L xs us = _ from lssAns_no ppR L xs us ha]
    have HA := Lib.hid ha
    clear ha ht hn1
    go_enter Tryd.func18, Tryd.ntmps18
    go_wp2_with fail
    refine (dependenceWith_no L _ _ _ _ _ _ xs [] _ hh hwf hL1 hL2 hn2 HA.out hT1).mono ?_
    rintro e w1 ⟨rfl, hb⟩
    go_wp2_with fail
    go_ret2
    exact lssPost_no (HB.out.trans (hb.mono HB.out.size))
  · cases hu : wordB L us
    · rw [show ppAns L xs us = _ from lssAns_bad ppR L xs us ha hu]
      obtain ⟨rs, rfl, rfl, h8, hr, hrel, hl, hd, _⟩ := alphB_nats L xs n hn1 ha
      have HU := Lib.hid hu
      clear ha hu
      go_enter Tryd.func18, Tryd.ntmps18
      go_wp2_with fail
      refine (dependenceWith_any _ _ _ _ _ _ rs _ _ hh hwf h8 hr hrel hd ht (by omega) hT1).mono ?_
      rw [okT_one, HU.out]
      rintro e w1 (⟨hok, _⟩ | ⟨hok, rfl, hb⟩)
      · cases hok
      go_wp2_with fail
      go_ret2
      exact lssPost_no (HB.out.trans (hb.mono HB.out.size))
    · obtain ⟨rs, rfl, rfl, h8, hr, hrel, hl, hd, _⟩ := alphB_nats L xs n hn1 ha
      obtain ⟨vs, rfl, hv24, hvn⟩ := wordB_nats n us hu
      have HU := Lib.hid hu
      rw [ints_len] at hm1
      have hm24 : m ≤ 24 := by omega
      rw [show ppAns (n : Int) (ints rs) (ints vs) = _ from lssAns_yes ppR (n : Int) rs vs ha hu]
      have HVP : Hid (∀ p, p < m → vs.getD p 0 < 8) := Lib.hid fun p hp => Nat.lt_of_lt_of_le (in_getD hvn p (by omega)) h8
      have HZ : Hid (ppR rs vs = ppL vs (pairsL rs n)) := Lib.hid (by unfold ppR; rw [hl])
      rw [HZ.out]
      have HZL : Hid ((ppL vs (pairsL rs n)).length = (pairsL rs n).length) := Lib.hid (ppL_len _ _)
      have HPJ : Hid (∀ ww A2 c2, Rd ww A2 n (ints rs) → Rd ww A1 m (ints vs) → Tab ww → Calls Tryd.prog 61 #[.slice A2 n c2, .slice A1 m d] ww fun e w' => ∃ A' c', e = .returned (.slice A' (pairsL rs n).length c') ∧ OwnSS w' ww.heap.size w'.heap.size A' (pairsL rs n).length c' (ppL vs (pairsL rs n)) ∧ Below ww.heap.size ww w') := Lib.hid fun ww A2 c2 q1 q2 q3 => pairProjections_any A2 n c2 rs A1 m d vs ww q1 h8 hr q2 hm24 HVP.out q3
      obtain ⟨zs, hzs⟩ : ∃ zs, zs = ppL vs (pairsL rs n) := ⟨_, rfl⟩
      obtain ⟨N, hN⟩ : ∃ N, N = (pairsL rs n).length := ⟨_, rfl⟩
      rw [← hzs, ← hN] at HPJ HZL
      rw [← hzs]
      clear ha hu hl hm1 hzs hN
      go_enter Tryd.func18, Tryd.ntmps18
      go_wp2_with fail
      refine (dependenceWith_any _ _ _ _ _ _ rs _ _ hh hwf h8 hr hrel hd ht (by omega) hT1).mono ?_
      rw [okT_one, HU.out]
      rintro e w1 (⟨hok, A2, c2, rfl, ho, hb⟩ | ⟨hok, _⟩)
      rotate_left
      · cases hok
      have y0 := (x1.next hb).c0
      have HB1 := Lib.hid (HB.out.trans (hb.mono HB.out.size))
      have HPQ := Lib.hid (HPJ.out w1 A2 c2 ho.rd (hh2.below hb) (hT1.below hb))
      clear ho hb hok ht hh hh2 hT1 hT h h2 x0 x1
      go_wp2_with fail
      refine HPQ.out.mono ?_
      rintro e w2 ⟨A3, c3, rfl, ho3, hb3⟩
      go_wp2_with fail
      go_ret2
      exact lssPost_yes HZL.out ho3 HB1.out hb3
end Go.Proofs.YtokikilfmglhhaaDoor
namespace Go.Proofs.YtokikilfmglhhaaDoor
open Go.RowKit
set_option linter.unusedVariables false
set_option maxRecDepth 100000

theorem ext_getD : ∀ (l m : List Nat), l.length = m.length → (∀ k, l.getD k 0 = m.getD k 0) → l = m
  | [], [], _, _ => rfl
  | [], b :: m, h, _ => by cases h
  | a :: l, [], h, _ => by cases h
  | a :: l, b :: m, h, h2 => by
    have h0 : a = b := h2 0
    have ht := ext_getD l m (Nat.succ.inj h) (fun k => h2 (k + 1))
    rw [h0, ht]
theorem padTo_getD (out : List Nat) (h k : Nat) : (padTo out h).getD k 0 = out.getD k 0 := by
  unfold padTo
  rw [List.getD_eq_getElem?_getD, List.getD_eq_getElem?_getD, List.getElem?_append]
  split
  · rfl
  · rename_i hk
    rw [List.getElem?_replicate, List.getElem?_eq_none (by omega : out.length ≤ k)]
    split <;> rfl
theorem foPut_getD (out : List Nat) (h a k : Nat) (h1 : 1 ≤ h) : (foPut out h a).getD k 0 = if k = h - 1 then out.getD k 0 ||| 2 ^ a else out.getD k 0 := by
  unfold foPut
  rw [getD_set _ _ _ _ (by rw [padTo_len]; omega), padTo_getD]
  by_cases e : k = h - 1
  · rw [if_pos e, if_pos e, e]
  · rw [if_neg e, if_neg e, padTo_getD]
/-- Whether a step has a letter on which a depends. -/
def depS (D : Nat → Nat → Bool) (s a : Nat) : Bool := (bitsOf s).any fun c => D c a
theorem depS_iff (D : Nat → Nat → Bool) (s a : Nat) : depS D s a = true ↔ ∃ c, c < 24 ∧ s.testBit c = true ∧ D c a = true := by
  unfold depS
  rw [List.any_eq_true]
  constructor
  · rintro ⟨c, hc, hd⟩
    have := (bitsOf_mem s c).1 hc
    exact ⟨c, this.1, this.2, hd⟩
  · rintro ⟨c, h1, h2, h3⟩
    exact ⟨c, (bitsOf_mem s c).2 ⟨h1, h2⟩, h3⟩
theorem depS_no (D : Nat → Nat → Bool) (s a : Nat) (h : ¬ ∃ c, c < 24 ∧ s.testBit c = true ∧ D c a = true) : depS D s a = false := by
  cases e : depS D s a
  · rfl
  · exact absurd ((depS_iff D s a).1 e) h
theorem depS_zero (D : Nat → Nat → Bool) (a : Nat) : depS D 0 a = false := depS_no D 0 a fun ⟨c, _, h, _⟩ => by rw [Nat.zero_testBit] at h; cases h
theorem depS_or (D : Nat → Nat → Bool) (s a b : Nat) (h : D a b = false) : depS D (s ||| 2 ^ a) b = depS D s b := by
  have : depS D (s ||| 2 ^ a) b = true ↔ depS D s b = true := by
    rw [depS_iff, depS_iff]
    constructor
    · rintro ⟨c, h1, h2, h3⟩
      rw [Nat.testBit_or, Bool.or_eq_true, Nat.testBit_two_pow, decide_eq_true_eq] at h2
      rcases h2 with h2 | h2
      · exact ⟨c, h1, h2, h3⟩
      · subst h2; rw [h] at h3; cases h3
    · rintro ⟨c, h1, h2, h3⟩
      exact ⟨c, h1, by rw [Nat.testBit_or, h2]; rfl, h3⟩
  cases h1 : depS D (s ||| 2 ^ a) b <;> cases h2 : depS D s b
  · rfl
  · exact absurd (this.2 h2) (by rw [h1]; decide)
  · exact absurd (this.1 h1) (by rw [h2]; decide)
  · rfl
/-- How many steps there are up to the last one with a letter on which a depends. -/
def lastD (D : Nat → Nat → Bool) (a : Nat) : List Nat → Nat
  | [] => 0
  | s :: out => if 0 < lastD D a out then lastD D a out + 1 else if depS D s a = true then 1 else 0
/-- h is that number. -/
def IsLast (D : Nat → Nat → Bool) (a : Nat) (out : List Nat) (h : Nat) : Prop := (h = 0 ∨ depS D (out.getD (h - 1) 0) a = true) ∧ ∀ k, h ≤ k → depS D (out.getD k 0) a = false
theorem IsLast.unique {D : Nat → Nat → Bool} {a : Nat} {out : List Nat} {h g : Nat} (h1 : IsLast D a out h) (h2 : IsLast D a out g) : h = g := by
  rcases Nat.lt_trichotomy h g with hl | hl | hl
  · rcases h2.1 with h0 | h0
    · omega
    · have := h1.2 (g - 1) (by omega); rw [this] at h0; cases h0
  · exact hl
  · rcases h1.1 with h0 | h0
    · omega
    · have := h2.2 (h - 1) (by omega); rw [this] at h0; cases h0
theorem lastD_is (D : Nat → Nat → Bool) (a : Nat) : ∀ out : List Nat, IsLast D a out (lastD D a out)
  | [] => ⟨.inl rfl, fun k _ => by rw [List.getD_nil]; exact depS_zero D a⟩
  | s :: out => by
    have ih := lastD_is D a out
    unfold lastD
    by_cases h : 0 < lastD D a out
    · rw [if_pos h]
      refine ⟨.inr ?_, fun k hk => ?_⟩
      · rcases ih.1 with h0 | h0
        · omega
        · have e : lastD D a out + 1 - 1 = (lastD D a out - 1) + 1 := by omega
          rw [e]; exact h0
      · have e : k = (k - 1) + 1 := by omega
        rw [e]; exact ih.2 (k - 1) (by omega)
    · rw [if_neg h]
      have h0 : lastD D a out = 0 := by omega
      by_cases h2 : depS D s a = true
      · rw [if_pos h2]
        refine ⟨.inr h2, fun k hk => ?_⟩
        have e : k = (k - 1) + 1 := by omega
        rw [e]; exact ih.2 (k - 1) (by omega)
      · rw [if_neg h2]
        refine ⟨.inl rfl, fun k _ => ?_⟩
        cases k with
        | zero => show depS D s a = false; cases e : depS D s a
                  · rfl
                  · exact absurd e h2
        | succ k => exact ih.2 k (by omega)
theorem lastD_le (D : Nat → Nat → Bool) (a : Nat) : ∀ out : List Nat, lastD D a out ≤ out.length
  | [] => Nat.le_refl _
  | s :: out => by
    have ih := lastD_le D a out
    unfold lastD
    rw [List.length_cons]
    split
    · omega
    · split <;> omega
/-- One more letter behind the steps. -/
def addF (D : Nat → Nat → Bool) (out : List Nat) (a : Nat) : List Nat := foPut out (lastD D a out + 1) a
theorem addF_getD (D : Nat → Nat → Bool) (out : List Nat) (a k : Nat) : (addF D out a).getD k 0 = if k = lastD D a out then out.getD k 0 ||| 2 ^ a else out.getD k 0 := by
  unfold addF; rw [foPut_getD _ _ _ _ (by omega)]; rfl
theorem addF_last (D : Nat → Nat → Bool) (out : List Nat) (a b : Nat) (h : D a b = false) : lastD D b (addF D out a) = lastD D b out := by
  have e : ∀ k, depS D ((addF D out a).getD k 0) b = depS D (out.getD k 0) b := fun k => by
    rw [addF_getD]
    split
    · exact depS_or D _ a b h
    · rfl
  refine IsLast.unique (lastD_is D b (addF D out a)) ?_
  have := lastD_is D b out
  exact ⟨this.1.imp id fun h1 => by rw [e]; exact h1, fun k hk => by rw [e]; exact this.2 k hk⟩
theorem addF_len (D : Nat → Nat → Bool) (out : List Nat) (a : Nat) : (addF D out a).length = max out.length (lastD D a out + 1) := foPut_len _ _ _
theorem addF_swap (D : Nat → Nat → Bool) (out : List Nat) (a b : Nat) (h : D a b = false) (h2 : D b a = false) : addF D (addF D out a) b = addF D (addF D out b) a := by
  refine ext_getD _ _ ?_ fun k => ?_
  · rw [addF_len, addF_len, addF_len, addF_len, addF_last D out a b h, addF_last D out b a h2]; omega
  · rw [addF_getD, addF_getD, addF_getD, addF_getD, addF_last D out a b h, addF_last D out b a h2]
    by_cases e1 : k = lastD D b out
    · by_cases e2 : k = lastD D a out
      · rw [if_pos e1, if_pos e2, if_pos e2, if_pos e1, Nat.or_assoc, Nat.or_comm (2 ^ a), ← Nat.or_assoc]
      · rw [if_pos e1, if_neg e2, if_neg e2, if_pos e1]
    · by_cases e2 : k = lastD D a out
      · rw [if_neg e1, if_pos e2, if_pos e2, if_neg e1]
      · rw [if_neg e1, if_neg e2, if_neg e2, if_neg e1]
theorem fold_free (D : Nat → Nat → Bool) (hsym : ∀ a b, D a b = D b a) (a : Nat) : ∀ (v out : List Nat), freeB D v a = true → (v.erase a).foldl (addF D) (addF D out a) = v.foldl (addF D) out
  | [], out, h => by simp [freeB] at h
  | c :: v, out, h => by
    rw [free_cons] at h
    by_cases e : c = a
    · subst e
      rw [List.erase_cons_head]; rfl
    · rw [if_neg e] at h
      cases hd : D c a with
      | true => rw [hd, if_pos rfl] at h; cases h
      | false =>
        rw [hd, if_neg (by decide)] at h
        rw [List.erase_cons_tail (by simpa using e), List.foldl_cons, List.foldl_cons, addF_swap D out a c (by rw [hsym]; exact hd) hd]
        exact fold_free D hsym a v (addF D out c) h
theorem fold_eqv (D : Nat → Nat → Bool) (n : Nat) (hsym : ∀ a b, D a b = D b a) (href : ∀ a, a < n → D a a = true) : ∀ (u v out : List Nat), (∀ x, x ∈ u → x < n) → (∀ x, x ∈ v → x < n) → Eqv D u v → u.foldl (addF D) out = v.foldl (addF D) out
  | [], v, out, _, hv, h => by rw [h.nil href hv]
  | a :: u, v, out, hu, hv, h => by
    obtain ⟨hf, he⟩ := h.step hsym (href a (hu a List.mem_cons_self))
    rw [List.foldl_cons, fold_eqv D n hsym href u (v.erase a) (addF D out a) (fun x hx => hu x (List.mem_cons_of_mem _ hx)) (fun x hx => hv x (List.mem_of_mem_erase hx)) he]
    exact fold_free D hsym a v out hf
/-- The letters of steps, one step after the other. -/
def fwd (out : List Nat) : List Nat := out.flatMap bitsOf
theorem prj_app (u v : List Nat) (x y : Nat) : prj (u ++ v) x y = prj u x y ++ prj v x y := by unfold prj; rw [List.filter_append]
theorem prj_none (u : List Nat) (x y : Nat) (h : ∀ c, c ∈ u → c ≠ x ∧ c ≠ y) : prj u x y = [] := by
  unfold prj
  rw [List.filter_eq_nil_iff]
  intro c hc
  have := h c hc
  simp [this.1, this.2]
theorem bits_put (s a : Nat) (ha : a < 24) (h : s.testBit a = false) : ∃ X Y, bitsOf s = X ++ Y ∧ bitsOf (s ||| 2 ^ a) = X ++ a :: Y := by
  unfold bitsOf upTo
  have e : List.range 24 = List.range a ++ a :: (List.range (23 - a)).map (fun i => a + 1 + i) := by
    have h1 : 24 = a + ((23 - a) + 1) := by omega
    rw [h1, List.range_add, List.range_succ_eq_map]
    have h2 : a + (23 - a + 1) - 1 - a = 23 - a := by omega
    congr 1
    rw [List.map_cons, List.map_map]
    congr 1
    refine List.map_congr_left fun i _ => ?_
    show a + (i + 1) = a + 1 + i
    omega
  rw [e]
  refine ⟨(List.range a).filter fun i => s.testBit i, ((List.range (23 - a)).map (fun i => a + 1 + i)).filter fun i => s.testBit i, ?_, ?_⟩
  · rw [List.filter_append, List.filter_cons_of_neg (by rw [h]; decide)]
  · rw [List.filter_append, List.filter_cons_of_pos (by rw [Nat.testBit_or, Nat.testBit_two_pow]; simp)]
    have q : ∀ i, i ≠ a → (s ||| 2 ^ a).testBit i = s.testBit i := fun i hi => by
      rw [Nat.testBit_or, Nat.testBit_two_pow, decide_eq_false (fun e => hi e.symm), Bool.or_false]
    congr 1
    · exact List.filter_congr fun i hi => q i (by have := List.mem_range.1 hi; omega)
    · congr 1
      refine List.filter_congr fun i hi => q i ?_
      obtain ⟨j, _, rfl⟩ := List.mem_map.1 hi
      omega
theorem fwd_app (u v : List Nat) : fwd (u ++ v) = fwd u ++ fwd v := by unfold fwd; rw [List.flatMap_append]
theorem fwd_zeros (k : Nat) : fwd (List.replicate k 0) = [] := by
  unfold fwd
  induction k with
  | zero => rfl
  | succ k ih =>
    rw [List.replicate_succ, List.flatMap_cons, ih]
    have : bitsOf 0 = [] := by decide
    rw [this]; rfl
theorem split_at (l : List Nat) (k : Nat) (hk : k < l.length) : l = l.take k ++ l.getD k 0 :: l.drop (k + 1) := by
  rw [List.getD_eq_getElem?_getD, List.getElem?_eq_getElem hk]
  show l = l.take k ++ l[k] :: l.drop (k + 1)
  rw [← List.drop_eq_getElem_cons hk, List.take_append_drop]
theorem fwd_add (D : Nat → Nat → Bool) (hsym : ∀ a b, D a b = D b a) (out : List Nat) (a : Nat) (ha : a < 24) (hr : D a a = true) : Eqv D (fwd (addF D out a)) (fwd out ++ [a]) := by
  have hl := lastD_is D a out
  have hle := lastD_le D a out
  obtain ⟨h, hh⟩ : ∃ h, h = lastD D a out := ⟨_, rfl⟩
  rw [← hh] at hl hle
  have hp : fwd (padTo out (h + 1)) = fwd out := by unfold padTo; rw [fwd_app, fwd_zeros, List.append_nil]
  have hlt : h < (padTo out (h + 1)).length := by rw [padTo_len]; omega
  have e1 := split_at (padTo out (h + 1)) h hlt
  have e2 : addF D out a = (padTo out (h + 1)).take h ++ ((padTo out (h + 1)).getD h 0 ||| 2 ^ a) :: (padTo out (h + 1)).drop (h + 1) := by
    unfold addF foPut
    rw [← hh]
    show (padTo out (h + 1)).set h _ = _
    rw [List.set_eq_take_append_cons_drop, if_pos hlt]; rfl
  have hno : ∀ k, h ≤ k → ∀ c, c ∈ bitsOf ((padTo out (h + 1)).getD k 0) → D c a = false := fun k hk c hc => by
    rw [padTo_getD] at hc
    have h1 := hl.2 k hk
    cases e : D c a
    · rfl
    · rw [(depS_iff D _ a).2 ⟨c, ((bitsOf_mem _ c).1 hc).1, ((bitsOf_mem _ c).1 hc).2, e⟩] at h1; cases h1
  obtain ⟨X, Y, hX, hY⟩ := bits_put ((padTo out (h + 1)).getD h 0) a ha (by
    cases e : ((padTo out (h + 1)).getD h 0).testBit a
    · rfl
    · have := hno h (Nat.le_refl _) a ((bitsOf_mem _ a).2 ⟨ha, e⟩); rw [hr] at this; cases this)
  obtain ⟨P, hP⟩ : ∃ P, P = (padTo out (h + 1)).take h := ⟨_, rfl⟩
  obtain ⟨Z, hZ⟩ : ∃ Z, Z = (padTo out (h + 1)).drop (h + 1) := ⟨_, rfl⟩
  have hz : ∀ c, c ∈ Y ++ fwd Z → D c a = false := fun c hc => by
    rcases List.mem_append.1 hc with h1 | h1
    · exact hno h (Nat.le_refl _) c (by rw [hX]; exact List.mem_append.2 (.inr h1))
    · unfold fwd at h1
      rw [List.mem_flatMap] at h1
      obtain ⟨s, hs, hc2⟩ := h1
      rw [hZ] at hs
      obtain ⟨j, hj, hje⟩ := List.getElem_of_mem hs
      rw [List.getElem_drop] at hje
      refine hno (h + 1 + j) (by omega) c ?_
      rw [List.getD_eq_getElem?_getD, List.getElem?_eq_getElem (by rw [List.length_drop] at hj; omega)]
      show c ∈ bitsOf _
      rw [hje]; exact hc2
  rw [← hP, ← hZ] at e1 e2
  have f1 : fwd out = fwd P ++ (X ++ (Y ++ fwd Z)) := by
    rw [← hp, e1, fwd_app]
    show fwd P ++ (bitsOf _ ++ fwd Z) = _
    rw [hX, List.append_assoc]
  have f2 : fwd (addF D out a) = fwd P ++ (X ++ a :: (Y ++ fwd Z)) := by
    rw [e2, fwd_app]
    show fwd P ++ (bitsOf _ ++ fwd Z) = _
    rw [hY, List.append_assoc]; rfl
  intro x y hxy
  rw [f1, f2]
  rw [prj_app, prj_app, prj_app, prj_app, prj_app, List.append_assoc, List.append_assoc]
  congr 2
  by_cases e : a = x ∨ a = y
  · rw [prj_in _ _ _ _ e, prj_none (Y ++ fwd Z) x y (fun c hc => by
      have h1 := hz c hc
      rcases e with e | e
      · subst e
        exact ⟨fun e2 => (by rw [e2, hr] at h1; cases h1), fun e2 => (by rw [e2, hsym, hxy] at h1; cases h1)⟩
      · subst e
        exact ⟨fun e2 => (by rw [e2, hxy] at h1; cases h1), fun e2 => (by rw [e2, hr] at h1; cases h1)⟩), prj_in a [] x y e]
    rfl
  · rw [prj_out _ _ _ _ (fun h => e (.inl h)) (fun h => e (.inr h)), prj_out a [] x y (fun h => e (.inl h)) (fun h => e (.inr h))]
    show prj (Y ++ fwd Z) x y = prj (Y ++ fwd Z) x y ++ []
    rw [List.append_nil]
theorem eqv_app {D : Nat → Nat → Bool} {u u' v : List Nat} (h : Eqv D u u') : Eqv D (u ++ v) (u' ++ v) := fun x y d => by rw [prj_app, prj_app, h x y d]
theorem fwd_fold (D : Nat → Nat → Bool) (n : Nat) (hn : n ≤ 24) (hsym : ∀ a b, D a b = D b a) (href : ∀ a, a < n → D a a = true) : ∀ (u out : List Nat), (∀ x, x ∈ u → x < n) → Eqv D (fwd (u.foldl (addF D) out)) (fwd out ++ u)
  | [], out, _ => by rw [List.append_nil]; exact Eqv.refl _ _
  | a :: u, out, hu => by
    have ha := hu a List.mem_cons_self
    rw [List.foldl_cons]
    refine (fwd_fold D n hn hsym href u (addF D out a) (fun x hx => hu x (List.mem_cons_of_mem _ hx))).trans ?_
    have := eqv_app (v := u) (fwd_add D hsym out a (by omega) (href a ha))
    rw [List.append_assoc] at this
    exact this
/-- The steps hold the letters at their heights. -/
theorem foTo_bit (rs us : List Nat) (i : Nat) (k b : Nat) : ((foTo rs us i).getD k 0).testBit b = true ↔ ∃ j, j < i ∧ us.getD j 0 = b ∧ hgt rs us j = k + 1 := by
  induction i with
  | zero =>
    show (([] : List Nat).getD k 0).testBit b = true ↔ _
    rw [List.getD_nil, Nat.zero_testBit]
    exact ⟨fun h => (by cases h), fun ⟨j, hj, _⟩ => (by omega)⟩
  | succ i ih =>
    show ((foPut _ _ _).getD k 0).testBit b = true ↔ _
    have hp := hgt_pos rs us i
    rw [foPut_getD _ _ _ _ hp]
    by_cases e : k = hgt rs us i - 1
    · rw [if_pos e, Nat.testBit_or, Bool.or_eq_true, ih, Nat.testBit_two_pow, decide_eq_true_eq]
      constructor
      · rintro (⟨j, h1, h2, h3⟩ | h)
        · exact ⟨j, by omega, h2, h3⟩
        · exact ⟨i, by omega, h, by omega⟩
      · rintro ⟨j, h1, h2, h3⟩
        by_cases ej : j = i
        · subst ej; exact .inr h2
        · exact .inl ⟨j, by omega, h2, h3⟩
    · rw [if_neg e, ih]
      constructor
      · rintro ⟨j, h1, h2, h3⟩; exact ⟨j, by omega, h2, h3⟩
      · rintro ⟨j, h1, h2, h3⟩
        by_cases ej : j = i
        · subst ej; omega
        · exact ⟨j, by omega, h2, h3⟩
theorem foTo_fold (rs us : List Nat) (n : Nat) (hn : n ≤ 24) (hu : ∀ x, x ∈ us → x < n) : ∀ i, i ≤ us.length → foTo rs us i = (us.take i).foldl (addF (RDep rs)) []
  | 0, _ => by rw [List.take_zero]; rfl
  | i + 1, hi => by
    have ih := foTo_fold rs us n hn hu i (by omega)
    have et : us.take (i + 1) = us.take i ++ [us.getD i 0] := by
      rw [List.take_add_one, List.getD_eq_getElem?_getD, List.getElem?_eq_getElem (by omega)]; rfl
    rw [et, List.foldl_append, ← ih]
    show foPut (foTo rs us i) (hgt rs us i) (us.getD i 0) = foPut (foTo rs us i) (lastD (RDep rs) (us.getD i 0) (foTo rs us i) + 1) (us.getD i 0)
    have hp := hgt_pos rs us i
    have hin : ∀ j, j < us.length → us.getD j 0 < n := fun j hj => hu _ (by rw [List.getD_eq_getElem?_getD, List.getElem?_eq_getElem hj]; exact List.getElem_mem _)
    have : IsLast (RDep rs) (us.getD i 0) (foTo rs us i) (hgt rs us i - 1) := by
      constructor
      · rcases hgt_or rs us i with h | ⟨j, hj, hd, h⟩
        · exact .inl (by omega)
        · refine .inr ((depS_iff _ _ _).2 ⟨us.getD j 0, by have := hin j (by omega); omega, ?_, hd⟩)
          exact (foTo_bit rs us i _ _).2 ⟨j, hj, rfl, by have := hgt_pos rs us j; omega⟩
      · intro k hk
        refine depS_no _ _ _ ?_
        rintro ⟨c, _, hc, hd⟩
        obtain ⟨j, hj, rfl, hjk⟩ := (foTo_bit rs us i k c).1 hc
        have := hgt_ge rs us i j hj hd
        omega
    have e := this.unique (lastD_is _ _ _)
    rw [← e]
    congr 1
    omega
theorem foM_fold (rs us : List Nat) (n : Nat) (hn : n ≤ 24) (hu : ∀ x, x ∈ us → x < n) : foM rs us = us.foldl (addF (RDep rs)) [] := by
  unfold foM
  rw [foTo_fold rs us n hn hu us.length (Nat.le_refl _), List.take_length]
/-- Foata forms are equal exactly if the words are words of one trace. -/
theorem foM_iff (rs : List Nat) (n : Nat) (hn : n ≤ 24) (hsym : ∀ a b, RDep rs a b = RDep rs b a) (href : ∀ a, a < n → RDep rs a a = true) (us vs : List Nat) (hu : ∀ x, x ∈ us → x < n) (hv : ∀ x, x ∈ vs → x < n) : foM rs us = foM rs vs ↔ Eqv (RDep rs) us vs := by
  rw [foM_fold rs us n hn hu, foM_fold rs vs n hn hv]
  constructor
  · intro h
    have h1 := fwd_fold (RDep rs) n hn hsym href us [] hu
    have h2 := fwd_fold (RDep rs) n hn hsym href vs [] hv
    rw [h] at h1
    exact h1.symm.trans h2
  · exact fold_eqv (RDep rs) n hsym href us vs [] hu hv
theorem pairsL_mem (rs : List Nat) (p : Nat) : ∀ n, p ∈ pairsL rs n ↔ ∃ a b, a < n ∧ b < 24 ∧ a ≤ b ∧ (rs.getD a 0).testBit b = true ∧ p = pairOf a b
  | 0 => ⟨fun h => (by cases h), fun ⟨a, b, h, _⟩ => (by omega)⟩
  | k + 1 => by
    show p ∈ pairsL rs k ++ pairRow (rs.getD k 0) k 24 ↔ _
    rw [List.mem_append, pairsL_mem rs p k]
    unfold pairRow
    rw [List.mem_map]
    constructor
    · rintro (⟨a, b, h⟩ | ⟨b, hb, rfl⟩)
      · exact ⟨a, b, by omega, h.2⟩
      · rw [List.mem_filter, List.mem_range, Bool.and_eq_true, decide_eq_true_eq] at hb
        exact ⟨k, b, by omega, hb.1, hb.2.1, hb.2.2, rfl⟩
    · rintro ⟨a, b, h1, h2, h3, h4, h5⟩
      by_cases e : a = k
      · subst e
        exact .inr ⟨b, by rw [List.mem_filter, List.mem_range, Bool.and_eq_true, decide_eq_true_eq]; exact ⟨h2, h3, h4⟩, h5.symm⟩
      · exact .inl ⟨a, b, by omega, h2, h3, h4, h5⟩
theorem prjS_pair (us : List Nat) (a b : Nat) : prjS us (pairOf a b) = prj us a b := by
  unfold prjS prj pairOf
  refine List.filter_congr fun x _ => ?_
  rw [Nat.testBit_or, Nat.testBit_two_pow, Nat.testBit_two_pow]
  congr 1 <;> (rw [decide_eq_decide]; exact eq_comm)
theorem prj_comm (us : List Nat) (a b : Nat) : prj us a b = prj us b a := by
  unfold prj
  exact List.filter_congr fun x _ => Bool.or_comm _ _
theorem ints_injs (u v : List Nat) : ints u = ints v ↔ u = v := ⟨fun h => by have := congrArg (List.map Int.toNat) h; rwa [ints_toNat, ints_toNat] at this, fun h => by rw [h]⟩
/-- Pair projections are equal exactly if the words are words of one trace. -/
theorem ppL_iff (rs : List Nat) (n : Nat) (hl : rs.length = n) (hn : n ≤ 24) (hr : ∀ i, rs.getD i 0 < 2 ^ n) (hsym : ∀ a b, RDep rs a b = RDep rs b a) (us vs : List Nat) : ppL us (pairsL rs n) = ppL vs (pairsL rs n) ↔ Eqv (RDep rs) us vs := by
  have key : ppL us (pairsL rs n) = ppL vs (pairsL rs n) ↔ ∀ p, p ∈ pairsL rs n → prjS us p = prjS vs p := by
    unfold ppL
    rw [List.map_inj_left]
    exact ⟨fun h p hp => (ints_injs _ _).1 (h p hp), fun h p hp => (ints_injs _ _).2 (h p hp)⟩
  rw [key]
  constructor
  · intro h x y hxy
    have hlt : ∀ a b, RDep rs a b = true → a < n := fun a b hab => by
      rcases Nat.lt_or_ge a n with h1 | h1
      · exact h1
      · unfold RDep at hab
        rw [List.getD_eq_getElem?_getD, List.getElem?_eq_none (by omega)] at hab
        change (0 : Nat).testBit b = true at hab
        rw [Nat.zero_testBit] at hab; cases hab
    have hx := hlt x y hxy
    have hy := hlt y x (by rw [hsym]; exact hxy)
    rcases Nat.le_total x y with hle | hle
    · have := h (pairOf x y) ((pairsL_mem rs _ n).2 ⟨x, y, hx, by omega, hle, hxy, rfl⟩)
      rwa [prjS_pair, prjS_pair] at this
    · have := h (pairOf y x) ((pairsL_mem rs _ n).2 ⟨y, x, hy, by omega, hle, by have := hsym x y; rw [hxy] at this; exact this.symm, rfl⟩)
      rw [prjS_pair, prjS_pair] at this
      rw [prj_comm us, prj_comm vs]; exact this
  · intro h p hp
    obtain ⟨a, b, _, _, _, h4, rfl⟩ := (pairsL_mem rs p n).1 hp
    rw [prjS_pair, prjS_pair]
    exact h a b h4
end Go.Proofs.YtokikilfmglhhaaDoor
namespace Go.Proofs.YtokikilfmglhhaaDoor
open Go.RowKit
set_option linter.unusedVariables false
set_option maxRecDepth 100000

set_option maxHeartbeats 800000 in
theorem likeInts_same (A B : Option Addr) (n c d : Nat) (xs ys : List Int) (w : World) (h : Rd w A n xs) (h2 : Rd w B n ys) (hn : n ≤ 9223372036854775807) :
    Calls Tryd.prog 19 #[.slice A n c, .slice B n d] w fun e w' => e = .returned (.bool (decide (xs = ys))) ∧ Below w.heap.size w w' := by
  go_enter Tryd.func19, Tryd.ntmps19
  go_wp2
  go_loopw [5] (fun i wr => ∃ k : Nat, k ≤ n ∧ i = .int .i64 k ∧ Below w.heap.size w wr ∧ xs.take k = ys.take k) (fun i _ => n - (intOf i).toNat)
  case atStart => exact ⟨0, Nat.zero_le _, rfl, Below.refl _ _, rfl⟩
  case round =>
    obtain ⟨k, hk, rfl, hb, hsame⟩ := hrel
    by_cases hlt : k < n
    · obtain ⟨b, off, x, rfl, hbs, hx, hcx⟩ := h.at_ hlt
      obtain ⟨b2, off2, y, rfl, hbs2, hy, hcy⟩ := h2.at_ hlt
      have hc1 : wr.cell? ⟨b, off + k, none⟩ = some (.int .i64 x) := (hb.cell (p := ⟨b, off + k, none⟩) hbs).trans hcx
      have hc2 : wr.cell? ⟨b2, off2 + k, none⟩ = some (.int .i64 y) := (hb.cell (p := ⟨b2, off2 + k, none⟩) hbs2).trans hcy
      have HX := Lib.hid hx
      have HY := Lib.hid hy
      have HS := Lib.hid hsame
      clear hx hy hcx hcy hsame
      by_cases hxy : x = y
      · subst hxy
        go_wp2
        go_quiet (fail)
        go_wp2
        go_roundw
        case rel => exact ⟨k + 1, by omega, by go_num, by first | exact below_drewN hb _ | exact hb.drew, take_same xs ys k x HS.out HX.out HY.out⟩
        case measure => simp [intOf]; omega
      · have hne1 : (x == y) = false := by simpa using hxy
        have hne2 : (x != y) = true := by simpa using hxy
        have HN : Hid (decide (xs = ys) = false) := Lib.hid (by
          apply decide_eq_false
          intro e
          apply hxy
          have h1 := HX.out
          rw [e, HY.out] at h1
          injection h1 with h1; exact h1.symm)
        clear hxy
        go_wp2
        go_quiet (fail)
        go_wp2
        go_ret
        exact ⟨ret_b _ _ HN.out.symm, by first | exact below_drewN hb _ | exact hb.drew⟩
    · obtain rfl : k = n := by omega
      have HN : Hid (decide (xs = ys) = true) := Lib.hid (by
        apply decide_eq_true
        rw [List.take_of_length_le (by have := h.1; omega), List.take_of_length_le (by have := h2.1; omega)] at hsame
        exact hsame)
      clear hsame
      go_wp2
      go_ret
      exact ⟨ret_b _ _ HN.out.symm, hb⟩
theorem likeInts_len (A B : Option Addr) (n m c d : Nat) (w : World) (hnm : n ≠ m) :
    Calls Tryd.prog 19 #[.slice A n c, .slice B m d] w fun e w' => e = .returned (.bool false) ∧ Below w.heap.size w w' := by
  have h1 : ((n : Int) != (m : Int)) = true := by simp; omega
  have h2 : ¬ ((n : Int) = (m : Int)) := by omega
  have h3 : ¬ (n = m) := hnm
  go_enter Tryd.func19, Tryd.ntmps19
  go_wp2
  go_ret
  exact ⟨rfl, Below.refl _ _⟩
theorem likeInts_any (A B : Option Addr) (n m c d : Nat) (xs ys : List Int) (w : World) (h : Rd w A n xs) (h2 : Rd w B m ys) (hn : n ≤ 9223372036854775807) :
    Calls Tryd.prog 19 #[.slice A n c, .slice B m d] w fun e w' => e = .returned (.bool (decide (xs = ys))) ∧ Below w.heap.size w w' := by
  by_cases e : n = m
  · subst e
    exact likeInts_same A B n c d xs ys w h h2 hn
  · have : decide (xs = ys) = false := decide_eq_false (fun e9 => e (by rw [← h.1, ← h2.1, e9]))
    rw [this]
    exact likeInts_len A B n m c d w e
theorem take_sameL (xs ys : List (List Int)) (k : Nat) (x : List Int) (h : xs.take k = ys.take k) (hx : xs[k]? = some x) (hy : ys[k]? = some x) : xs.take (k + 1) = ys.take (k + 1) := by
  rw [List.take_add_one, List.take_add_one, h, hx, hy]
set_option maxHeartbeats 1600000 in
theorem likeRows_same (A B : Option Addr) (n c d : Nat) (xss yss : List (List Int)) (w : World) (h : RdSS w A n xss) (h2 : RdSS w B n yss) (hn : n ≤ 9223372036854775807) :
    Calls Tryd.prog 20 #[.slice A n c, .slice B n d] w fun e w' => e = .returned (.bool (decide (xss = yss))) ∧ Below w.heap.size w w' := by
  obtain ⟨ts, e1, ht⟩ := h
  obtain ⟨us, e2, hu⟩ := h2
  have HE1 := Lib.hid e1
  have HE2 := Lib.hid e2
  clear e1 e2
  go_enter Tryd.func20, Tryd.ntmps20
  go_wp2
  go_loopw [5] (fun i wr => ∃ k : Nat, k ≤ n ∧ i = .int .i64 k ∧ Below w.heap.size w wr ∧ xss.take k = yss.take k) (fun i _ => n - (intOf i).toNat)
  case atStart => exact ⟨0, Nat.zero_le _, rfl, Below.refl _ _, rfl⟩
  case round =>
    obtain ⟨k, hk, rfl, hb, hsame⟩ := hrel
    have HS := Lib.hid hsame
    clear hsame
    by_cases hlt : k < n
    · obtain ⟨b, off, C, q, c1, xs, rfl, hbs, hx, hcx, hrd, hq⟩ := (ht.below hb).at_ hlt
      obtain ⟨b2, off2, C2, q2, c2, ys, rfl, hbs2, hx2, hcx2, hrd2, hq2⟩ := (hu.below hb).at_ hlt
      have HX : Hid (xss[k]? = some xs) := Lib.hid (by rw [← HE1.out, List.getElem?_map, hx]; rfl)
      have HY : Hid (yss[k]? = some ys) := Lib.hid (by rw [← HE2.out, List.getElem?_map, hx2]; rfl)
      have hq3 : q ≤ 9223372036854775807 := by unfold maxLen at hq; omega
      have hdw : Below wr.heap.size wr wr.drew := (Below.refl _ _).drew
      have HLI := Lib.hid (likeInts_any _ _ _ _ c1 c2 xs ys _ (hrd.below hdw) (hrd2.below hdw) hq3)
      clear hx hx2
      by_cases hxy : xs = ys
      · rw [decide_eq_true hxy] at HLI
        have HXY := Lib.hid hxy
        clear hxy
        go_wp2_with fail
        go_still_tail 8, (by kernel_rfl)
        change wpList _ _ _ _ _ wr.drew
        go_wp2_with fail
        refine HLI.out.mono ?_
        rintro e w4 ⟨rfl, hb4⟩
        have hb5 := hb.trans ((hdw.trans (hb4.mono hdw.size)).mono hb.size)
        go_wp2_with fail
        go_roundw
        case rel => exact ⟨k + 1, by omega, by go_num, hb5, take_sameL xss yss k xs HS.out HX.out (by rw [HXY.out]; exact HY.out)⟩
        case measure => simp [intOf]; omega
      · rw [decide_eq_false hxy] at HLI
        have HN : Hid (decide (xss = yss) = false) := Lib.hid (by
          apply decide_eq_false
          intro e
          apply hxy
          have h1 := HX.out
          rw [e, HY.out] at h1
          injection h1 with h1; exact h1.symm)
        clear hxy
        go_wp2_with fail
        go_still_tail 8, (by kernel_rfl)
        change wpList _ _ _ _ _ wr.drew
        go_wp2_with fail
        refine HLI.out.mono ?_
        rintro e w4 ⟨rfl, hb4⟩
        have hb5 := hb.trans ((hdw.trans (hb4.mono hdw.size)).mono hb.size)
        go_wp2_with fail
        go_ret
        exact ⟨ret_b _ _ HN.out.symm, hb5⟩
    · obtain rfl : k = n := by omega
      have HN : Hid (decide (xss = yss) = true) := Lib.hid (by
        apply decide_eq_true
        have h1 := HS.out
        rw [List.take_of_length_le (by rw [← HE1.out, List.length_map, ht.1]; exact Nat.le_refl _), List.take_of_length_le (by rw [← HE2.out, List.length_map, hu.1]; exact Nat.le_refl _)] at h1
        exact h1)
      go_wp2_with fail
      go_ret
      exact ⟨ret_b _ _ HN.out.symm, hb⟩
theorem likeRows_len (A B : Option Addr) (n m c d : Nat) (w : World) (hnm : n ≠ m) :
    Calls Tryd.prog 20 #[.slice A n c, .slice B m d] w fun e w' => e = .returned (.bool false) ∧ Below w.heap.size w w' := by
  have h1 : ((n : Int) != (m : Int)) = true := by simp; omega
  have h2 : ¬ ((n : Int) = (m : Int)) := by omega
  have h3 : ¬ (n = m) := hnm
  go_enter Tryd.func20, Tryd.ntmps20
  go_wp2
  go_ret
  exact ⟨rfl, Below.refl _ _⟩
theorem RdSS.len {w : World} {A : Option Addr} {n : Nat} {xss : List (List Int)} (h : RdSS w A n xss) : xss.length = n := by
  obtain ⟨ts, e1, ht⟩ := h
  rw [← e1, List.length_map, ht.1]
theorem likeRows_any (A B : Option Addr) (n m c d : Nat) (xss yss : List (List Int)) (w : World) (h : RdSS w A n xss) (h2 : RdSS w B m yss) (hn : n ≤ 9223372036854775807) :
    Calls Tryd.prog 20 #[.slice A n c, .slice B m d] w fun e w' => e = .returned (.bool (decide (xss = yss))) ∧ Below w.heap.size w w' := by
  by_cases e : n = m
  · subst e
    exact likeRows_same A B n c d xss yss w h h2 hn
  · have : decide (xss = yss) = false := decide_eq_false (fun e9 => e (by rw [← h.len, ← h2.len, e9]))
    rw [this]
    exact likeRows_len A B n m c d w e
end Go.Proofs.YtokikilfmglhhaaDoor
namespace Go.Proofs.YtokikilfmglhhaaDoor
open Go.RowKit
set_option linter.unusedVariables false
set_option maxRecDepth 100000

/-- The three facts that the law asks about. -/
theorem forms_same (rs vs ys : List Nat) (n : Nat) (hl : rs.length = n) (h8 : n ≤ 8) (hr : ∀ i, rs.getD i 0 < 2 ^ n) (hdep : Dep rs) (hv : ∀ x, x ∈ vs → x < n) (hy : ∀ x, x ∈ ys → x < n) (S : Bool) (hS : S = decide (nfR rs vs = nfR rs ys)) :
    decide (ints (nfR rs vs) = ints (nfR rs ys)) = S ∧ decide (ints (foM rs vs) = ints (foM rs ys)) = S ∧ decide (ppR rs vs = ppR rs ys) = S := by
  have hsym : ∀ a b, RDep rs a b = RDep rs b a := rdep_sym rs n hl hr hdep
  have href : ∀ a, a < n → RDep rs a a = true := fun a ha => hdep.1 a (by omega)
  have h1 := eqv_iff_nf hsym href vs ys hv hy
  have h2 := foM_iff rs n (by omega) hsym href vs ys hv hy
  have h3 := ppL_iff rs n hl (by omega) hr hsym vs ys
  have hN : ∀ ws, nfM (RDep rs) n ws = nfR rs ws := fun ws => by unfold nfR; rw [hl]
  have hP : ∀ ws, ppL ws (pairsL rs n) = ppR rs ws := fun ws => by unfold ppR; rw [hl]
  rw [hN, hN] at h1
  rw [hP, hP] at h3
  subst hS
  refine ⟨?_, ?_, ?_⟩
  · rw [decide_eq_decide]; exact ints_injs _ _
  · rw [decide_eq_decide, ints_injs, h2, h1]
  · rw [decide_eq_decide, h3, h1]
set_option maxHeartbeats 6400000 in
theorem walkTraceForms (L : Int) (A : Option Addr) (n c : Nat) (xs : List Int) (A1 : Option Addr) (m d : Nat) (us : List Int) (B1 : Option Addr) (q f : Nat) (ts : List Int) (w : World) (hL1 : -9223372036854775808 ≤ L) (hL2 : L ≤ 9223372036854775807) (h : Rd w A n xs) (hwf : Wf xs) (hn : n ≤ maxLen)
    (h2 : Rd w A1 m us) (hwf2 : Wf us) (hm : m ≤ maxLen) (h3 : Rd w B1 q ts) (hwf3 : Wf ts) (hq : q ≤ maxLen) (hT : Tab w) :
    Calls Tryd.prog 3 #[.agg #[.int .i64 L, .slice A n c], .slice A1 m d, .slice B1 q f] w fun e w' => e = .returned (.bool true) ∧ Below w.heap.size w w' := by
  have hn2 : n ≤ 9223372036854775807 := by unfold maxLen at hn; omega
  have hm2 : m ≤ 9223372036854775807 := by unfold maxLen at hm; omega
  have hq2 : q ≤ 9223372036854775807 := by unfold maxLen at hq; omega
  have HB := Lib.hid (below1 w (.cells #[.int .i64 L, .slice A n c] 24))
  have x0 := box_new 24 w L A n c
  have y0 := x0.c0
  have y1 := x0.c1
  by_cases hs1 : m ≤ 65536
  rotate_left
  · have hI : (65536 : Int) < (m : Int) := by omega
    go_enter Tryd.func3, Tryd.ntmps3
    go_wp2_with fail
    go_ret
    exact ⟨rfl, HB.out⟩
  have hI1 : ¬ (65536 : Int) < (m : Int) := by omega
  have hI1' : (m : Int) ≤ 65536 := by omega
  by_cases hs2 : q ≤ 65536
  rotate_left
  · have hI : (65536 : Int) < (q : Int) := by omega
    go_enter Tryd.func3, Tryd.ntmps3
    go_wp2_with fail
    go_ret
    exact ⟨rfl, HB.out⟩
  have hI2 : ¬ (65536 : Int) < (q : Int) := by omega
  have hI2' : (q : Int) ≤ 65536 := by omega
  have HW1 := Lib.hid fun (ww : World) (hw : Below w.heap.size w ww) => implAreSameTrace L A n c xs A1 m d us B1 q f ts ww (h.below hw) hwf hL1 hL2 hn (h2.below hw) hwf2 hm (h3.below hw) hwf3 hq (hT.below hw)
  have HW2 := Lib.hid fun (ww : World) (hw : Below w.heap.size w ww) => specAreSameTrace L A n c xs A1 m d us B1 q f ts ww (h.below hw) hwf hL1 hL2 hn (h2.below hw) hwf2 hm (h3.below hw) hwf3 hq
  have hm1 := h2.1
  have hq1 := h3.1
  have hn1 := h.1
  cases ha : alphB L xs
  · rw [stAns_no L xs us ts ha] at HW1 HW2
    clear ha
    go_enter Tryd.func3, Tryd.ntmps3
    go_wp2_with fail
    refine (HW1.out _ HB.out).mono ?_
    rintro e w1 ⟨rfl, hb1⟩
    have HB1 := Lib.hid (HB.out.trans (hb1.mono HB.out.size))
    have x1 := x0.next hb1
    have z0 := x1.c0
    have z1 := x1.c1
    go_wp2_with fail
    refine (HW2.out _ HB1.out).mono ?_
    rintro e w2 ⟨rfl, hb2⟩
    have HB2 := Lib.hid (HB1.out.trans (hb2.mono HB1.out.size))
    go_wp2_with fail
    go_ret
    exact ⟨rfl, HB2.out⟩
  cases hu : (wordB L us && wordB L ts)
  · rw [stAns_bad L xs us ts ha hu] at HW1 HW2
    clear ha hu
    go_enter Tryd.func3, Tryd.ntmps3
    go_wp2_with fail
    refine (HW1.out _ HB.out).mono ?_
    rintro e w1 ⟨rfl, hb1⟩
    have HB1 := Lib.hid (HB.out.trans (hb1.mono HB.out.size))
    have x1 := x0.next hb1
    have z0 := x1.c0
    have z1 := x1.c1
    go_wp2_with fail
    refine (HW2.out _ HB1.out).mono ?_
    rintro e w2 ⟨rfl, hb2⟩
    have HB2 := Lib.hid (HB1.out.trans (hb2.mono HB1.out.size))
    go_wp2_with fail
    go_ret
    exact ⟨rfl, HB2.out⟩
  have HW3 := Lib.hid fun (ww : World) (hw : Below w.heap.size w ww) => implNormalForm L A n c xs A1 m d us ww (h.below hw) hwf hL1 hL2 hn (h2.below hw) hwf2 hm (hT.below hw)
  have HW4 := Lib.hid fun (ww : World) (hw : Below w.heap.size w ww) => implNormalForm L A n c xs B1 q f ts ww (h.below hw) hwf hL1 hL2 hn (h3.below hw) hwf3 hq (hT.below hw)
  have HW5 := Lib.hid fun (ww : World) (hw : Below w.heap.size w ww) => implFoataForm L A n c xs A1 m d us ww (h.below hw) hwf hL1 hL2 hn (h2.below hw) hwf2 hm (hT.below hw)
  have HW6 := Lib.hid fun (ww : World) (hw : Below w.heap.size w ww) => implFoataForm L A n c xs B1 q f ts ww (h.below hw) hwf hL1 hL2 hn (h3.below hw) hwf3 hq (hT.below hw)
  have HW7 := Lib.hid fun (ww : World) (hw : Below w.heap.size w ww) => implPairProjections L A n c xs A1 m d us ww (h.below hw) hwf hL1 hL2 hn (h2.below hw) hwf2 hm (hT.below hw)
  have HW8 := Lib.hid fun (ww : World) (hw : Below w.heap.size w ww) => implPairProjections L A n c xs B1 q f ts ww (h.below hw) hwf hL1 hL2 hn (h3.below hw) hwf3 hq (hT.below hw)
  have hsm1 := ppAns_small L xs us
  have hsm2 := ppAns_small L xs ts
  obtain ⟨rs, rfl, rfl, h8, hr, hrel, hl, hd, _⟩ := alphB_nats L xs n hn1 ha
  have hu' := hu
  rw [Bool.and_eq_true] at hu'
  obtain ⟨vs, rfl, hv24, hvn⟩ := wordB_nats n us hu'.1
  obtain ⟨ys, rfl, hy24, hyn⟩ := wordB_nats n ts hu'.2
  rw [stAns_yes (n : Int) rs vs ys ha hu] at HW1 HW2
  rw [show nfAns (n : Int) (ints rs) (ints vs) = _ from wAns_yes _ (n : Int) rs vs ha hu'.1] at HW3
  rw [show nfAns (n : Int) (ints rs) (ints ys) = _ from wAns_yes _ (n : Int) rs ys ha hu'.2] at HW4
  rw [show foAns (n : Int) (ints rs) (ints vs) = _ from wAns_yes _ (n : Int) rs vs ha hu'.1] at HW5
  rw [show foAns (n : Int) (ints rs) (ints ys) = _ from wAns_yes _ (n : Int) rs ys ha hu'.2] at HW6
  rw [show ppAns (n : Int) (ints rs) (ints vs) = _ from lssAns_yes ppR (n : Int) rs vs ha hu'.1] at HW7 hsm1
  rw [show ppAns (n : Int) (ints rs) (ints ys) = _ from lssAns_yes ppR (n : Int) rs ys ha hu'.2] at HW8 hsm2
  obtain ⟨S, hS⟩ : ∃ S, S = decide (nfR rs vs = nfR rs ys) := ⟨_, rfl⟩
  have hf := forms_same rs vs ys n hl h8 hr ((depB_iff rs n hl hr).1 hd) hvn hyn S hS
  rw [← hS] at HW1 HW2
  have hk1 := nfR_len rs vs
  have hk2 := nfR_len rs ys
  have hk3 := foM_len rs vs
  have hk4 := foM_len rs ys
  obtain ⟨X3, e3⟩ : ∃ X, X = ints (nfR rs vs) := ⟨_, rfl⟩
  obtain ⟨X4, e4⟩ : ∃ X, X = ints (nfR rs ys) := ⟨_, rfl⟩
  obtain ⟨X5, e5⟩ : ∃ X, X = ints (foM rs vs) := ⟨_, rfl⟩
  obtain ⟨X6, e6⟩ : ∃ X, X = ints (foM rs ys) := ⟨_, rfl⟩
  obtain ⟨X7, e7⟩ : ∃ X, X = ppR rs vs := ⟨_, rfl⟩
  obtain ⟨X8, e8⟩ : ∃ X, X = ppR rs ys := ⟨_, rfl⟩
  rw [← e3] at HW3
  rw [← e4] at HW4
  rw [← e5] at HW5
  rw [← e6] at HW6
  rw [← e7] at HW7 hsm1
  rw [← e8] at HW8 hsm2
  rw [← e3, ← e4, ← e5, ← e6, ← e7, ← e8] at hf
  have hm24 : m ≤ 24 := by rw [ints_len] at hm1; omega
  have hq24 : q ≤ 24 := by rw [ints_len] at hq1; omega
  obtain ⟨K3, k3⟩ : ∃ K, K = X3.length := ⟨_, rfl⟩
  obtain ⟨K4, k4⟩ : ∃ K, K = X4.length := ⟨_, rfl⟩
  obtain ⟨K5, k5⟩ : ∃ K, K = X5.length := ⟨_, rfl⟩
  obtain ⟨K6, k6⟩ : ∃ K, K = X6.length := ⟨_, rfl⟩
  obtain ⟨K7, k7⟩ : ∃ K, K = X7.length := ⟨_, rfl⟩
  obtain ⟨K8, k8⟩ : ∃ K, K = X8.length := ⟨_, rfl⟩
  have HV3 : Hid (∀ ww : World, Below w.heap.size w ww → Calls Tryd.prog 16 #[.agg #[.int .i64 (n : Int), .slice A n c], .slice A1 m d] ww fun e w' => ∃ G k, e = .returned (.tuple #[.slice G K3 k, .int .i64 0]) ∧ Own 2 w' ww.heap.size G K3 k X3 ∧ Below ww.heap.size ww w') := Lib.hid (by rw [k3]; exact HW3.out)
  have HV4 : Hid (∀ ww : World, Below w.heap.size w ww → Calls Tryd.prog 16 #[.agg #[.int .i64 (n : Int), .slice A n c], .slice B1 q f] ww fun e w' => ∃ G k, e = .returned (.tuple #[.slice G K4 k, .int .i64 0]) ∧ Own 2 w' ww.heap.size G K4 k X4 ∧ Below ww.heap.size ww w') := Lib.hid (by rw [k4]; exact HW4.out)
  have HV5 : Hid (∀ ww : World, Below w.heap.size w ww → Calls Tryd.prog 17 #[.agg #[.int .i64 (n : Int), .slice A n c], .slice A1 m d] ww fun e w' => ∃ G k, e = .returned (.tuple #[.slice G K5 k, .int .i64 0]) ∧ Own 2 w' ww.heap.size G K5 k X5 ∧ Below ww.heap.size ww w') := Lib.hid (by rw [k5]; exact HW5.out)
  have HV6 : Hid (∀ ww : World, Below w.heap.size w ww → Calls Tryd.prog 17 #[.agg #[.int .i64 (n : Int), .slice A n c], .slice B1 q f] ww fun e w' => ∃ G k, e = .returned (.tuple #[.slice G K6 k, .int .i64 0]) ∧ Own 2 w' ww.heap.size G K6 k X6 ∧ Below ww.heap.size ww w') := Lib.hid (by rw [k6]; exact HW6.out)
  have HV7 : Hid (∀ ww : World, Below w.heap.size w ww → Calls Tryd.prog 18 #[.agg #[.int .i64 (n : Int), .slice A n c], .slice A1 m d] ww fun e w' => ∃ G k, e = .returned (.tuple #[.slice G K7 k, .int .i64 0]) ∧ OwnSS w' ww.heap.size w'.heap.size G K7 k X7 ∧ Below ww.heap.size ww w') := Lib.hid (by rw [k7]; exact HW7.out)
  have HV8 : Hid (∀ ww : World, Below w.heap.size w ww → Calls Tryd.prog 18 #[.agg #[.int .i64 (n : Int), .slice A n c], .slice B1 q f] ww fun e w' => ∃ G k, e = .returned (.tuple #[.slice G K8 k, .int .i64 0]) ∧ OwnSS w' ww.heap.size w'.heap.size G K8 k X8 ∧ Below ww.heap.size ww w') := Lib.hid (by rw [k8]; exact HW8.out)
  have hK3 : K3 ≤ 24 := by rw [k3, e3, ints_len]; omega
  have hK5 : K5 ≤ 24 := by rw [k5, e5, ints_len]; omega
  have hK7 : K7 ≤ 4608 := by rw [k7]; exact hsm1.1
  have HM7 : Hid (∀ z, z ∈ X7 → z.length ≤ maxLen) := Lib.hid fun z hz => Nat.le_trans (len_sumL X7 z hz) (Nat.le_trans hsm1.2 (by unfold maxLen; decide))
  have HM8 : Hid (∀ z, z ∈ X8 → z.length ≤ maxLen) := Lib.hid fun z hz => Nat.le_trans (len_sumL X8 z hz) (Nat.le_trans hsm2.2 (by unfold maxLen; decide))
  have HF1 := Lib.hid hf.1
  have HF2 := Lib.hid hf.2.1
  have HF3 := Lib.hid hf.2.2
  clear hf hS e3 e4 e5 e6 e7 e8 k3 k4 k5 k6 k7 k8 hk1 hk2 hk3 hk4 hsm1 hsm2 HW3 HW4 HW5 HW6 HW7 HW8 ha hu hu' hvn hyn hd hrel hr hl h h2 h3 hwf hwf2 hwf3 hm1 hq1 hn1 hT
  have hne : (S != S) = false := by cases S <;> rfl
  have heq : (S == S) = true := by cases S <;> rfl
  go_enter Tryd.func3, Tryd.ntmps3
  go_wp2_with fail
  refine (HW1.out _ HB.out).mono ?_
  rintro e w1 ⟨rfl, hb1⟩
  have HB1 := Lib.hid (HB.out.trans (hb1.mono HB.out.size))
  have x1 := x0.next hb1
  have z10 := x1.c0
  have z11 := x1.c1
  clear hb1
  go_wp2_with fail
  refine (HW2.out _ HB1.out).mono ?_
  rintro e w2 ⟨rfl, hb2⟩
  have HB2 := Lib.hid (HB1.out.trans (hb2.mono HB1.out.size))
  have x2 := x1.next hb2
  have z20 := x2.c0
  have z21 := x2.c1
  clear hb2
  go_wp2_with fail
  refine (HV3.out _ HB2.out).mono ?_
  rintro e w3 ⟨G3, j3, rfl, o3, hb3⟩
  have HB3 := Lib.hid (HB2.out.trans (hb3.mono HB2.out.size))
  have x3 := x2.next hb3
  have z30 := x3.c0
  have z31 := x3.c1
  have r3 := o3.rd
  clear hb3 o3
  go_wp2_with fail
  refine (HV4.out _ HB3.out).mono ?_
  rintro e w4 ⟨G4, j4, rfl, o4, hb4⟩
  have HB4 := Lib.hid (HB3.out.trans (hb4.mono HB3.out.size))
  have x4 := x3.next hb4
  have z40 := x4.c0
  have z41 := x4.c1
  have r34 := r3.below hb4
  have r4 := o4.rd
  clear hb4 o4 r3
  go_wp2_with fail
  refine (HV5.out _ HB4.out).mono ?_
  rintro e w5 ⟨G5, j5, rfl, o5, hb5⟩
  have HB5 := Lib.hid (HB4.out.trans (hb5.mono HB4.out.size))
  have x5 := x4.next hb5
  have z50 := x5.c0
  have z51 := x5.c1
  have r35 := r34.below hb5
  have r45 := r4.below hb5
  have r5 := o5.rd
  clear hb5 o5 r34 r4
  go_wp2_with fail
  refine (HV6.out _ HB5.out).mono ?_
  rintro e w6 ⟨G6, j6, rfl, o6, hb6⟩
  have HB6 := Lib.hid (HB5.out.trans (hb6.mono HB5.out.size))
  have x6 := x5.next hb6
  have z60 := x6.c0
  have z61 := x6.c1
  have r36 := r35.below hb6
  have r46 := r45.below hb6
  have r56 := r5.below hb6
  have r6 := o6.rd
  clear hb6 o6 r35 r45 r5
  go_wp2_with fail
  refine (HV7.out _ HB6.out).mono ?_
  rintro e w7 ⟨G7, j7, rfl, o7, hb7⟩
  have HB7 := Lib.hid (HB6.out.trans (hb7.mono HB6.out.size))
  have x7 := x6.next hb7
  have z70 := x7.c0
  have z71 := x7.c1
  have r37 := r36.below hb7
  have r47 := r46.below hb7
  have r57 := r56.below hb7
  have r67 := r6.below hb7
  have r7 := o7.rd HM7.out
  clear hb7 o7 r36 r46 r56 r6
  go_wp2_with fail
  refine (HV8.out _ HB7.out).mono ?_
  rintro e w8 ⟨G8, j8, rfl, o8, hb8⟩
  have HB8 := Lib.hid (HB7.out.trans (hb8.mono HB7.out.size))
  have r38 := r37.below hb8
  have r48 := r47.below hb8
  have r58 := r57.below hb8
  have r68 := r67.below hb8
  have r78 := r7.below hb8
  have r8 := o8.rd HM8.out
  have HL1 := Lib.hid (likeInts_any _ _ _ _ j3 j4 X3 X4 _ r38 r48 (by omega))
  rw [HF1.out] at HL1
  clear hb8 o8 r37 r47 r57 r67 r7
  go_wp2_with fail
  refine HL1.out.mono ?_
  rintro e w9 ⟨rfl, hb9⟩
  have HB9 := Lib.hid (HB8.out.trans (hb9.mono HB8.out.size))
  have HL2 := Lib.hid (likeInts_any _ _ _ _ j5 j6 X5 X6 _ (r58.below hb9) (r68.below hb9) (by omega))
  rw [HF2.out] at HL2
  have r79 := r78.below hb9
  have r89 := r8.below hb9
  clear hb9 r38 r48 r58 r68 r78 r8
  go_wp2_with fail
  refine HL2.out.mono ?_
  rintro e w10 ⟨rfl, hb10⟩
  have HB10 := Lib.hid (HB9.out.trans (hb10.mono HB9.out.size))
  have HL3 := Lib.hid (likeRows_any _ _ _ _ j7 j8 X7 X8 _ (r79.below hb10) (r89.below hb10) (by omega))
  rw [HF3.out] at HL3
  go_wp2_with fail
  refine HL3.out.mono ?_
  rintro e w11 ⟨rfl, hb11⟩
  go_wp2_with fail
  go_ret
  exact ⟨rfl, HB10.out.trans (hb11.mono HB10.out.size)⟩
end Go.Proofs.YtokikilfmglhhaaDoor
