/-
  Lists read from their end: slices.Reverse, and the model's l03Back.
-/
import Derived.Test.YtmooanfcedgfnaaDoorXchg
namespace Go.Proofs.YtmooanfcedgfnaaDoor
open Go.RowKit
set_option linter.unusedVariables false
set_option maxRecDepth 100000

def revM (ds : List Nat) (i : Nat) : List Nat := (List.range ds.length).map fun p => ds.getD (if p < i ∨ ds.length - i ≤ p then ds.length - 1 - p else p) 0
theorem revM_len (ds : List Nat) (i : Nat) : (revM ds i).length = ds.length := by simp [revM]
theorem revM_at (ds : List Nat) (i p : Nat) (hp : p < ds.length) : (revM ds i).getD p 0 = ds.getD (if p < i ∨ ds.length - i ≤ p then ds.length - 1 - p else p) 0 := getD_range_map _ _ _ hp
theorem revM_zero (ds : List Nat) : revM ds 0 = ds := by
  refine list_eq_getD _ _ ds.length (revM_len _ _) rfl fun p hp => ?_
  rw [revM_at _ _ _ hp, if_neg (by omega)]
theorem revM_next (ds : List Nat) (i j : Nat) (hij : i < j) (hj : i + j + 1 = ds.length) : ((revM ds i).set i ((revM ds i).getD j 0)).set j ((revM ds i).getD i 0) = revM ds (i + 1) := by
  refine list_eq_getD _ _ ds.length (by rw [List.length_set, List.length_set, revM_len]) (revM_len _ _) fun p hp => ?_
  rw [getD_set _ _ _ _ (by rw [List.length_set, revM_len]; omega), getD_set _ _ _ _ (by rw [revM_len]; omega), revM_at _ _ i (by omega), revM_at _ _ j (by omega), revM_at _ _ p hp, revM_at _ (i + 1) p hp]
  by_cases h1 : p = j
  · subst h1
    rw [if_pos rfl, if_neg (by omega), if_pos (by omega)]
    congr 1; omega
  · rw [if_neg h1]
    by_cases h2 : p = i
    · subst h2
      rw [if_pos rfl, if_neg (by omega), if_pos (by omega)]
      congr 1; omega
    · rw [if_neg h2]
      by_cases h3 : p < i ∨ ds.length - i ≤ p
      · rw [if_pos h3, if_pos (by omega)]
      · rw [if_neg h3, if_neg (by omega)]
theorem revM_end (ds : List Nat) (i : Nat) (h : ds.length ≤ 2 * i + 1) : revM ds i = ds.reverse := by
  refine list_eq_getD _ _ ds.length (revM_len _ _) List.length_reverse fun p hp => ?_
  rw [revM_at _ _ _ hp]
  have e : ds.reverse.getD p 0 = ds.getD (ds.length - 1 - p) 0 := by
    rw [List.getD_eq_getElem?_getD, List.getElem?_reverse hp, List.getD_eq_getElem?_getD]
  rw [e]
  split
  · rfl
  · congr 1; omega
set_option maxHeartbeats 1600000 in
theorem rev_some (B g n c : Nat) (ds : List Nat) (w : World) (h : Own 2 w B (some ⟨g, 0, none⟩) n c (ints ds)) (hn : n ≤ 1048576) :
    Calls Tryd.prog 99 #[.slice (some ⟨g, 0, none⟩) n c] w fun e w' => e = .returned (.tuple #[]) ∧ Own 2 w' B (some ⟨g, 0, none⟩) n c (ints ds.reverse) ∧ w.grownBy w' (some g) := by
  have hlen : ds.length = n := by have := h.len; rw [ints_len] at this; exact this
  have HL := Lib.hid hlen
  have mixed : Tryd.prog.follows .mixedOrders = true := by kernel_rfl
  have hw0 : wrap64 ((n : Int) - 1) = (n : Int) - 1 := by unfold wrap64; omega
  clear hlen
  go_enter Tryd.func99, Tryd.ntmps99
  go_wp2_with fail
  go_loopw [2, 3] (fun p q wr => ∃ k : Nat, 2 * k ≤ n + 1 ∧ p = .int .i64 (k : Int) ∧ q = .int .i64 ((n : Int) - 1 - (k : Int)) ∧ Own 2 wr B (some ⟨g, 0, none⟩) n c (ints (revM ds k)) ∧ w.grownBy wr (some g)) (fun p _ _ => n + 1 - (intOf p).toNat)
  case atStart => exact ⟨0, by omega, rfl, by simp, by rw [revM_zero]; exact h, World.grownBy.refl _ _⟩
  case round =>
    obtain ⟨k, hk, rfl, rfl, ho, hg⟩ := hrel
    by_cases hlt : 2 * k + 1 < n
    · obtain ⟨q, hq⟩ : ∃ q, q = n - 1 - k := ⟨_, rfl⟩
      have hqe : (n : Int) - 1 - (k : Int) = (q : Int) := by omega
      rw [hqe]
      have hnext := revM_next ds k q (by omega) (by rw [HL.out]; omega)
      obtain ⟨ga, ea, _, hca, hfa, hseta⟩ := own_stored ho (k := k) (by omega)
      cases ea
      obtain ⟨gb, eb, _, hcb, hfb, _⟩ := own_stored ho (k := q) (by omega)
      cases eb
      have h1 := hseta ((revM ds k).getD q 0)
      obtain ⟨gc, ec, _, _, _, hsetb⟩ := own_stored h1 (k := q) (by omega)
      cases ec
      have h2 := hsetb ((revM ds k).getD k 0)
      rw [hnext] at h2
      obtain ⟨X, hX⟩ : ∃ X, X = (revM ds k).getD k 0 := ⟨_, rfl⟩
      obtain ⟨Y, hY⟩ : ∃ Y, Y = (revM ds k).getD q 0 := ⟨_, rfl⟩
      rw [← hX] at hca h2
      rw [← hY] at hcb h2
      have hkn : k < n := by omega
      have hqn : q < n := by omega
      have hkq : (k : Int) < (q : Int) := by omega
      have hne1 : ¬ k = q := by omega
      have hne2 : ¬ q = k := by omega
      have H2 := Lib.hid h2
      have HQ := Lib.hid hqe
      have hg2 := grown_drew (grown_set (grown_set hg k (.int .i64 (Y : Int))) q (.int .i64 (X : Int)))
      have HG2 := Lib.hid hg2
      have hz1 : (0 : Int) ≤ (k : Int) := Int.natCast_nonneg _
      have hz2 : (0 : Int) ≤ (q : Int) := Int.natCast_nonneg _
      have hz3 : (k : Int) < (n : Int) := Int.ofNat_lt.2 hkn
      have hz4 : (q : Int) < (n : Int) := Int.ofNat_lt.2 hqn
      have ht1 : ((k : Int)).toNat = k := by simp
      have ht2 : ((q : Int)).toNat = q := by simp
      clear hX hY hq hseta hsetb h1 h2 hnext hg2 ho hg hqe hw0
      go_wp2_with fail
      go_big_region_o
      clear hz1 hz2 hz3 hz4 ht1 ht2 hca hcb hfa hfb
      go_wp2_with fail
      go_roundw
      case rel => exact ⟨k + 1, by omega, by go_num, by (have := HQ.out; go_num), H2.out, HG2.out⟩
      case measure => simp [intOf]; omega
    · have HEND : Hid (revM ds k = ds.reverse) := Lib.hid (revM_end ds k (by rw [HL.out]; omega))
      have hnl : ¬ ((k : Int) < (n : Int) - 1 - (k : Int)) := by omega
      have hd : decide ((k : Int) < (n : Int) - 1 - (k : Int)) = false := decide_eq_false hnl
      go_wp2_with fail
      exact bodyPost_end (results_none Tryd.results99 _ _ _) rfl ⟨rfl, by rw [← HEND.out]; exact ho, hg⟩
theorem rev_any (B n c : Nat) (A : Option Addr) (ds : List Nat) (w : World) (h : Own 2 w B A n c (ints ds)) (hn : n ≤ 1048576) :
    Calls Tryd.prog 99 #[.slice A n c] w fun e w' => e = .returned (.tuple #[]) ∧ Own 2 w' B A n c (ints ds.reverse) ∧ w.grownBy w' (A.map (·.block)) := by
  rcases Nat.eq_zero_or_pos n with h0 | h0
  · subst h0
    have hnil : ds = [] := List.eq_nil_of_length_eq_zero (by have := h.len; rw [ints_len] at this; exact this)
    subst hnil
    go_enter Tryd.func99, Tryd.ntmps99
    go_wp2_with fail
    go_loopw [2, 3] (fun p q wr => p = .int .i64 0 ∧ q = .int .i64 (-1) ∧ wr = w) (fun _ _ _ => 0)
    case atStart => exact ⟨rfl, rfl, rfl⟩
    case round =>
      obtain ⟨rfl, rfl, rfl⟩ := hrel
      go_wp2_with fail
      exact bodyPost_end (results_none Tryd.results99 _ _ _) rfl ⟨rfl, h, World.grownBy.refl _ _⟩
  · obtain ⟨g, rfl, _⟩ := h.form h0
    exact rev_some B g n c ds w h hn
end Go.Proofs.YtmooanfcedgfnaaDoor
