/-
  One bit of a mask; copies of lists of sets; marks: by contracts.
-/
import Derived.Test.YtmifkbmgpofjbaaDoorRel
namespace Go.Proofs.YtmifkbmgpofjbaaDoor
open Go.RowKit
set_option linter.unusedVariables false
set_option maxRecDepth 100000

theorem bit_val (m k : Nat) (hm : m < 9223372036854775808) : (bits .and .i64 ((m : Int) / 2 ^ k) 1 == 1) = m.testBit k := by
  have e : (m : Int) / 2 ^ k = ((m / 2 ^ k : Nat) : Int) := by rw [Int.natCast_ediv, Int.natCast_pow]; rfl
  have hle : m / 2 ^ k ≤ m := Nat.div_le_self _ _
  have h1 := i64_and_nat (m / 2 ^ k) 1 (by omega) (by decide)
  rw [e, show (1 : Int) = ((1 : Nat) : Int) from rfl, h1, nat_mask1, Nat.testBit_eq_decide_div_mod_eq]
  rw [Bool.eq_iff_iff]
  simp only [beq_iff_eq, decide_eq_true_eq]
  omega
theorem bit_any (m k : Nat) (hm : m < 9223372036854775808) (hk : k ≤ 62) (w : World) :
    Calls Tryd.prog 82 #[.int .i64 (m : Int), .int .i64 (k : Int)] w fun e w' => e = .returned (.bool (m.testBit k)) ∧ w = w' := by
  go_enter Tryd.func82, Tryd.ntmps82
  go_wp2
  go_ret
  exact ⟨ret_b _ _ (bit_val m k hm), rfl⟩
theorem has_any (m k : Nat) (hm : m < 9223372036854775808) (hk : k ≤ 62) (w : World) :
    Calls Tryd.prog 92 #[.int .i64 (m : Int), .int .i64 (k : Int)] w fun e w' => e = .returned (.bool (m.testBit k)) ∧ w = w' := by
  go_enter Tryd.func92, Tryd.ntmps92
  go_wp2
  go_ret
  exact ⟨ret_b _ _ (bit_val m k hm), rfl⟩
/-- A maker of a list: its own slice of elements of type E that holds xs; nothing else is turned. -/
def MakesE (E : TypeId) (w : World) (n : Nat) (xs : List Int) (e : Ending) (w' : World) : Prop :=
  ∃ A c, e = .returned (.slice A n c) ∧ Own E w' w.heap.size A n c xs ∧ Below w.heap.size w w'
theorem rd_news {w : World} {b off n : Nat} {xs : List Int} (h : Rd w (some ⟨b, off, none⟩) n xs) (hn : 0 < n) :
    ∀ j u, (xs.map (Value.int .i64))[j]? = some u → w.cell? ((⟨b, off, none⟩ : Addr).add j) = some u := by
  intro j u hu
  obtain ⟨b', off', e, hb, hc⟩ := h.2 hn
  injection e with e
  injection e with e1 e2
  subst e1 e2
  rw [List.getElem?_map] at hu
  cases hx : xs[j]? with
  | none => rw [hx] at hu; cases hu
  | some x =>
    rw [hx] at hu
    injection hu with hu
    subst hu
    have e : (⟨b, off, none⟩ : Addr).add j = ⟨b, off + j, none⟩ := by
      unfold Addr.add
      by_cases h0 : j = 0 <;> simp [h0]
    rw [e]; exact hc j x hx

set_option maxHeartbeats 400000 in
theorem masksOf_any (A : Option Addr) (n c : Nat) (xs : List Int) (w : World) (h : Rd w A n xs) (hn : n ≤ 1048576) :
    Calls Tryd.prog 52 #[.slice A n c] w (MakesE 2 w n xs) := by
  obtain ⟨i0, hi, hz0, hz1, hz2⟩ := info_parts info_int
  have hml : n ≤ maxLen := by unfold maxLen; omega
  have hby : i0.bytes * n ≤ 281474976710656 := by rw [hz2]; omega
  go_enter Tryd.func52, Tryd.ntmps52
  go_wp2_with (first | (at_make; refine wpList_make_full _ rfl _ _ _ rfl w.heap.size 2 i0 (.int .i64 0) 1 Tryd.underlying22 hi hz0 hz1 _ _ (n : Int) (n : Int) n rfl rfl rfl rfl hby hml (Nat.le_refl _) ?_; intro w1 hown0 hg1))
  have hown : Own 2 w1 w.heap.size (some ⟨w.heap.size, 0, none⟩) n n (List.replicate n 0) := by
    unfold Own; rw [← made_int]; exact hown0
  clear hown0
  have hb1 : Below w.heap.size w w1 := (Below.refl _ _).grown hg1 (Nat.le_refl _) (by simp)
  clear hg1
  go_loopw [11] (fun i wr => ∃ k : Nat, k ≤ n ∧ i = .int .i64 k ∧ Own 2 wr w.heap.size (some ⟨w.heap.size, 0, none⟩) n n (xs.take k ++ List.replicate (n - k) 0) ∧ Below w.heap.size w wr) (fun i _ => n - (intOf i).toNat)
  case atStart => exact ⟨0, Nat.zero_le _, rfl, by simpa using hown, hb1⟩
  case round =>
    obtain ⟨k, hk, rfl, ho, hb⟩ := hrel
    by_cases hlt : k < n
    · obtain ⟨b, off, x, rfl, hbs, hx, hcx⟩ := h.at_ hlt
      have hc1 : wr.cell? ⟨b, off + k, none⟩ = some (.int .i64 x) := (hb.cell (p := ⟨b, off + k, none⟩) hbs).trans hcx
      have hf : wr.frozen? ⟨w.heap.size, k, none⟩ = false := ho.frozen k
      obtain ⟨u, hu⟩ : ∃ u, (xs.take k ++ List.replicate (n - k) 0)[k]? = some u := ⟨_, List.getElem?_eq_getElem (by have := h.1; simp; omega)⟩
      have hc2 : wr.cell? ⟨w.heap.size, k, none⟩ = some (.int .i64 u) := ho.cell hu
      have ho2 := ho.set_ k x
      rw [take_set_next xs _ k x hx (by have := h.1; simp; omega)] at ho2
      have hb2 := hb.setCell (p := ⟨w.heap.size, k, none⟩) (Nat.le_refl _) (.int .i64 x)
      have HX : Hid (xs[k]? = some x) := Lib.hid hx
      have HU : Hid ((xs.take k ++ List.replicate (n - k) 0)[k]? = some u) := Lib.hid hu
      clear hx hu hcx
      go_wp2
      go_roundw
      case rel => exact ⟨k + 1, by omega, by go_num, by have e : (List.replicate (n - k) (0 : Int)).drop 1 = List.replicate (n - (k + 1)) 0 := by { rw [List.drop_replicate]; congr 1 }
                                                        rw [← e]; exact ho2, hb2⟩
      case measure => simp [intOf]; omega
    · obtain rfl : k = n := by omega
      go_wp2
      go_ret
      refine ⟨_, _, rfl, ?_, hb⟩
      have e : xs.take k ++ List.replicate (k - k) 0 = xs := by rw [Nat.sub_self, List.replicate_zero, List.append_nil]; exact List.take_of_length_le (by have := h.1; omega)
      rw [← e]; exact ho
/-- The numbers k, k + 1 .. of n marks. -/
def marks (k n : Nat) : List Int := (List.range n).map fun i => ((k + i : Nat) : Int)
theorem marks_len (k n : Nat) : (marks k n).length = n := by simp [marks]
theorem marks_at (k n t : Nat) (h : t < n) : (marks k n)[t]? = some ((k + t : Nat) : Int) := by simp [marks, h]
theorem marks_next (xs : List Int) (k t : Nat) (h : t < xs.length) : (marks k t ++ xs.drop t).set t ((k + t : Nat) : Int) = marks k (t + 1) ++ xs.drop (t + 1) := by
  rw [List.set_append, if_neg (by rw [marks_len]; omega), marks_len, Nat.sub_self, List.drop_eq_getElem_cons h, List.set_cons_zero]
  unfold marks
  rw [List.range_succ]; simp
set_option maxHeartbeats 400000 in
theorem mark_any (E B : Nat) (A : Option Addr) (n c k : Nat) (xs : List Int) (w : World) (h : Own E w B A n c xs) (hn : n ≤ 1048576) (hk : k ≤ 1073741824) :
    Calls Tryd.prog 23 #[.slice A n c, .int .i64 (k : Int)] w fun e w' => e = .returned (.int .i64 ((k + n : Nat) : Int)) ∧ Own E w' B A n c (marks k n) ∧ w.grownBy w' (A.map (·.block)) := by
  go_enter Tryd.func23, Tryd.ntmps23
  go_wp2
  go_loopw [1, 5] (fun q i wr => ∃ t : Nat, t ≤ n ∧ i = .int .i64 t ∧ q = .int .i64 ((k + t : Nat) : Int) ∧ Own E wr B A n c (marks k t ++ xs.drop t) ∧ w.grownBy wr (A.map (·.block))) (fun _ i _ => n - (intOf i).toNat)
  case atStart => exact ⟨0, Nat.zero_le _, rfl, rfl, h, World.grownBy.refl _ _⟩
  case round =>
    obtain ⟨t, ht, rfl, rfl, ho, hg⟩ := hrel
    by_cases hlt : t < n
    · obtain ⟨g, rfl, hgB, hgl⟩ := ho.form (by omega)
      have hf : wr.frozen? ⟨g, t, none⟩ = false := ho.frozen t
      have hlen : t < xs.length := by have := h.len; omega
      obtain ⟨u, hu⟩ : ∃ u, (marks k t ++ xs.drop t)[t]? = some u := ⟨_, List.getElem?_eq_getElem (by simp [marks_len]; omega)⟩
      have hc2 : wr.cell? ⟨g, t, none⟩ = some (.int .i64 u) := ho.cell hu
      have ho2 := ho.set_ t ((k + t : Nat) : Int)
      rw [marks_next xs k t hlen] at ho2
      have hg2 : w.grownBy (wr.setCell ⟨g, t, none⟩ (.int .i64 ((k + t : Nat) : Int))) (some g) := grown_set hg t _
      have HU := Lib.hid hu
      clear hu
      go_wp2
      go_roundw
      case rel => exact ⟨t + 1, by omega, by go_num, by go_num, ho2, hg2⟩
      case measure => simp [intOf]; omega
    · obtain rfl : t = n := by omega
      have e : marks k t ++ xs.drop t = marks k t := by rw [List.drop_of_length_le (by have := h.len; omega), List.append_nil]
      rw [e] at ho
      clear e
      go_wp2
      go_ret
      exact ⟨rfl, ho, hg⟩
set_option maxHeartbeats 400000 in
theorem held_any (A : Option Addr) (n c k : Nat) (w : World) (h : Rd w A n (marks k n)) (hn : n ≤ 1048576) (hk : k ≤ 1073741824) :
    Calls Tryd.prog 24 #[.slice A n c, .int .i64 (k : Int)] w fun e w' => e = .returned (.int .i64 ((k + n : Nat) : Int)) ∧ w = w' := by
  go_enter Tryd.func24, Tryd.ntmps24
  go_wp2
  go_loop [1, 5] (fun q i => ∃ t : Nat, t ≤ n ∧ i = .int .i64 t ∧ q = .int .i64 ((k + t : Nat) : Int)) (fun _ i => n - (intOf i).toNat)
  case atStart => exact ⟨0, Nat.zero_le _, rfl, rfl⟩
  case round =>
    obtain ⟨t, ht, rfl, rfl⟩ := hrel
    by_cases hlt : t < n
    · obtain ⟨b, off, x, rfl, hbs, hx, hcx⟩ := h.at_ hlt
      rw [marks_at k n t hlt] at hx
      injection hx with hx
      subst hx
      go_wp2
      go_round
      case rel => exact ⟨t + 1, by omega, by go_num, by go_num⟩
      case measure => simp [intOf]; omega
    · obtain rfl : t = n := by omega
      go_wp2
      go_ret
      exact ⟨rfl, rfl⟩
end Go.Proofs.YtmifkbmgpofjbaaDoor
