/-
  Lyndon traces: plain mathematics. Lyndon traces: the parts of the sums by the Moebius function. Lyndon traces: the model's Moebius function. CountLyndon: the model's side. slices.Concat of rows of any numbers. CountLyndon: the program's sums. CountLyndon: the program's side.
-/
import Derived.Test.YtcojodkcpemfdaaDoorB2
import Derived.Test.YtcojodkcpemfdaaDoorMc
import Derived.Test.YtcojodkcpemfdaaDoorM3
import Derived.Test.YtcojodkcpemfdaaDoorM2
import Derived.Lib.AppendZeros
import Derived.Deep.Upon
import Derived.RangeFuncRecord
import Derived.Deep.RegionLaw
import Derived.Deep.RegionWith
import Derived.Deep.OwnRows
import Derived.Deep.CutRange
namespace Go.Proofs.YtcojodkcpemfdaaDoor
open Go Go.RowKit
set_option linter.unusedVariables false
set_option maxRecDepth 100000

theorem wk_ex (x : Int) : ∃ q : Int, wrap64 x = x + 18446744073709551616 * q := ⟨(wrap64 x - x) / 18446744073709551616, by unfold wrap64; omega⟩
theorem wk_add (x q : Int) : wrap64 (x + 18446744073709551616 * q) = wrap64 x := by unfold wrap64; omega
/-- One step of the sums, in 64 bits. -/
theorem wk_sub (a b c : Int) : wrap64 (wrap64 a - wrap64 (c * wrap64 b)) = wrap64 (a - c * b) := by
  obtain ⟨q1, h1⟩ := wk_ex a
  obtain ⟨q2, h2⟩ := wk_ex b
  obtain ⟨q3, h3⟩ := wk_ex (c * wrap64 b)
  have h4 : c * wrap64 b = c * b + 18446744073709551616 * (c * q2) := by rw [h2, Int.mul_add, Int.mul_left_comm]
  rw [h3, h4, h1, show a + 18446744073709551616 * q1 - (c * b + 18446744073709551616 * (c * q2) + 18446744073709551616 * q3) = (a - c * b) + 18446744073709551616 * (q1 - c * q2 - q3) by omega, wk_add]
theorem wk_sub1 (a b : Int) : wrap64 (wrap64 a - wrap64 b) = wrap64 (a - b) := by unfold wrap64; omega
theorem wk_plus (a b c : Int) : wrap64 (wrap64 a + wrap64 (c * wrap64 b)) = wrap64 (a + c * b) := by
  have h := wk_sub a b (-c)
  obtain ⟨q1, h1⟩ := wk_ex a
  obtain ⟨q2, h2⟩ := wk_ex b
  obtain ⟨q3, h3⟩ := wk_ex (c * wrap64 b)
  have h4 : c * wrap64 b = c * b + 18446744073709551616 * (c * q2) := by rw [h2, Int.mul_add, Int.mul_left_comm]
  rw [h3, h4, h1, show a + 18446744073709551616 * q1 + (c * b + 18446744073709551616 * (c * q2) + 18446744073709551616 * q3) = (a + c * b) + 18446744073709551616 * (q1 + c * q2 + q3) by omega, wk_add]

/-- The sum for m after k of its terms. -/
def lyAcc (c s : Nat → Int) (m : Nat) : Nat → Int
  | 0 => -(m : Int) * c m
  | k + 1 => lyAcc c s m k - c (k + 1) * s (m - (k + 1))
def lyL (c : Nat → Int) : Nat → List Int
  | 0 => [0]
  | m + 1 => lyL c m ++ [lyAcc c (fun i => (lyL c m).getD i 0) (m + 1) m]
theorem lyL_len (c : Nat → Int) : ∀ m, (lyL c m).length = m + 1
  | 0 => rfl
  | m + 1 => by rw [lyL, List.length_append, lyL_len c m]; rfl
def lyS (c : Nat → Int) (m : Nat) : Int := (lyL c m).getD m 0
theorem lyL_at (c : Nat → Int) (i : Nat) : ∀ m, i ≤ m → (lyL c m).getD i 0 = lyS c i
  | 0, h => by rw [show i = 0 by omega]; rfl
  | m + 1, h => by
    rcases Nat.lt_or_ge i (m + 1) with h1 | h1
    · rw [lyL, List.getD_eq_getElem?_getD, List.getElem?_append_left (by rw [lyL_len]; exact h1), ← List.getD_eq_getElem?_getD]
      exact lyL_at c i m (by omega)
    · rw [show i = m + 1 by omega]; rfl
theorem lyAcc_congr (c s t : Nat → Int) (m : Nat) (h : ∀ i, i < m → s i = t i) : ∀ k, k < m → lyAcc c s m k = lyAcc c t m k
  | 0, _ => rfl
  | k + 1, hk => by rw [lyAcc, lyAcc, lyAcc_congr c s t m h k (by omega), h _ (by omega)]
theorem lyS_succ (c : Nat → Int) (m : Nat) : lyS c (m + 1) = lyAcc c (lyS c) (m + 1) m := by
  unfold lyS
  rw [lyL, List.getD_eq_getElem?_getD, List.getElem?_append_right (by rw [lyL_len]; exact Nat.le_refl _), lyL_len, Nat.sub_self]
  show lyAcc _ _ _ _ = _
  exact lyAcc_congr _ _ _ _ (fun i hi => lyL_at c i m (by omega)) m (by omega)
/-- The same sum as the model adds it up. -/
def lyM (c s : Nat → Int) (m : Nat) : Nat → Int
  | 0 => 0
  | k + 1 => if k + 1 = m then lyM c s m k - (m : Int) * c m else lyM c s m k - c (k + 1) * s (m - (k + 1))
theorem lyM_acc (c s : Nat → Int) (m : Nat) : ∀ k, k < m → lyM c s m k - (m : Int) * c m = lyAcc c s m k
  | 0, _ => by rw [lyM, lyAcc, Int.zero_sub, Int.neg_mul]
  | k + 1, hk => by
    rw [lyM, if_neg (by omega), lyAcc, ← lyM_acc c s m k (by omega)]; omega
theorem lyM_full (c s : Nat → Int) (m : Nat) : lyM c s (m + 1) (m + 1) = lyAcc c s (m + 1) m := by
  rw [lyM, if_pos rfl, lyM_acc c s (m + 1) m (by omega)]
theorem lyM_stop (c s : Nat → Int) (m K : Nat) (hc : ∀ k, K < k → c k = 0) : ∀ j, K ≤ j → j ≤ m → lyM c s m j = lyM c s m K
  | 0, h, _ => by rw [show K = 0 by omega]
  | j + 1, h, hm => by
    rcases Nat.lt_or_ge K (j + 1) with h1 | h1
    · rw [lyM, hc (j + 1) h1, lyM_stop c s m K hc j (by omega) (by omega)]
      split
      · rename_i e; rw [← e, hc (j + 1) h1]; omega
      · omega
    · rw [show K = j + 1 by omega]
def lyPA (s P : Nat → Int) (m : Nat) : Nat → Int
  | 0 => s m
  | d + 1 => if m % (d + 1) = 0 then lyPA s P m d - P (d + 1) else lyPA s P m d
def lyPL (s : Nat → Int) : Nat → List Int
  | 0 => [0]
  | m + 1 => lyPL s m ++ [lyPA s (fun i => (lyPL s m).getD i 0) (m + 1) m]
theorem lyPL_len (s : Nat → Int) : ∀ m, (lyPL s m).length = m + 1
  | 0 => rfl
  | m + 1 => by rw [lyPL, List.length_append, lyPL_len s m]; rfl
def lyP (s : Nat → Int) (m : Nat) : Int := (lyPL s m).getD m 0
theorem lyPL_at (s : Nat → Int) (i : Nat) : ∀ m, i ≤ m → (lyPL s m).getD i 0 = lyP s i
  | 0, h => by rw [show i = 0 by omega]; rfl
  | m + 1, h => by
    rcases Nat.lt_or_ge i (m + 1) with h1 | h1
    · rw [lyPL, List.getD_eq_getElem?_getD, List.getElem?_append_left (by rw [lyPL_len]; exact h1), ← List.getD_eq_getElem?_getD]
      exact lyPL_at s i m (by omega)
    · rw [show i = m + 1 by omega]; rfl
theorem lyPA_congr (s P Q : Nat → Int) (m : Nat) (h : ∀ i, i < m → P i = Q i) : ∀ k, k < m → lyPA s P m k = lyPA s Q m k
  | 0, _ => rfl
  | k + 1, hk => by rw [lyPA, lyPA, lyPA_congr s P Q m h k (by omega), h _ hk]
theorem lyP_succ (s : Nat → Int) (m : Nat) : lyP s (m + 1) = lyPA s (lyP s) (m + 1) m := by
  unfold lyP
  rw [lyPL, List.getD_eq_getElem?_getD, List.getElem?_append_right (by rw [lyPL_len]; exact Nat.le_refl _), lyPL_len, Nat.sub_self]
  show lyPA _ _ _ _ = _
  exact lyPA_congr _ _ _ _ (fun i hi => lyPL_at s i m (by omega)) m (by omega)
/-- The Moebius function by its loop: fuel, the next divisor, what is left, the sign. -/
def muGo : Nat → Nat → Nat → Int → Int
  | 0, _, _, o => o
  | f + 1, p, n, o => if p ≤ n then (if n % p = 0 then (if n / p % p = 0 then 0 else muGo f (p + 1) (n / p) (-o)) else muGo f (p + 1) n o) else o
def muF (n : Nat) : Int := muGo 24 2 n 1
theorem muGo_end (f p n : Nat) (o : Int) (h : n < p) : muGo f p n o = o := by
  cases f
  · rfl
  · rw [muGo, if_neg (by omega)]
def lyO (s : Nat → Int) (n : Nat) : Nat → Int
  | 0 => 0
  | d + 1 => if n % (d + 1) = 0 then lyO s n d + muF (d + 1) * s (n / (d + 1)) else lyO s n d
theorem muF_all : (List.range 25).map muF = [1, 1, -1, -1, 0, -1, 1, -1, 0, 0, 1, -1, 0, -1, 1, 1, 0, -1, 0, -1, 0, 1, 1, -1, 0] := by decide
theorem muF_at (d : Nat) (v : Int) (h : [1, 1, -1, -1, 0, -1, 1, -1, 0, 0, 1, -1, 0, -1, 1, 1, 0, -1, 0, -1, 0, 1, 1, -1, 0][d]? = some v) : muF d = v := by
  rw [← muF_all, List.getElem?_map] at h
  obtain ⟨x, hx, hv⟩ := Option.map_eq_some_iff.1 h
  obtain ⟨h1, h2⟩ := List.getElem?_eq_some_iff.1 hx
  rw [List.getElem_range] at h2
  rw [h2]; exact hv
end Go.Proofs.YtcojodkcpemfdaaDoor
namespace Go.Proofs.YtcojodkcpemfdaaDoor
open Go Go.RowKit
set_option linter.unusedVariables false
set_option maxRecDepth 100000

theorem lyp_1 (s : Nat → Int) : lyP s 1 = s 1 := (lyP_succ s 0).trans rfl
set_option maxHeartbeats 1600000 in
theorem lyo_1 (s : Nat → Int) : lyO s 1 1 = 0 + (1) * s 1 := rfl
theorem lyq_1 (s : Nat → Int) : lyO s 1 1 = lyP s 1 := by
  rw [lyo_1]
  have p1 := lyp_1 s
  omega
theorem lyp_2 (s : Nat → Int) : lyP s 2 = s 2 - lyP s 1 := (lyP_succ s 1).trans rfl
set_option maxHeartbeats 1600000 in
theorem lyo_2 (s : Nat → Int) : lyO s 2 2 = 0 + (1) * s 2 + (-1) * s 1 := rfl
theorem lyq_2 (s : Nat → Int) : lyO s 2 2 = lyP s 2 := by
  rw [lyo_2]
  have p1 := lyp_1 s
  have p2 := lyp_2 s
  omega
theorem lyp_3 (s : Nat → Int) : lyP s 3 = s 3 - lyP s 1 := (lyP_succ s 2).trans rfl
set_option maxHeartbeats 1600000 in
theorem lyo_3 (s : Nat → Int) : lyO s 3 3 = 0 + (1) * s 3 + (-1) * s 1 := rfl
theorem lyq_3 (s : Nat → Int) : lyO s 3 3 = lyP s 3 := by
  rw [lyo_3]
  have p1 := lyp_1 s
  have p3 := lyp_3 s
  omega
theorem lyp_4 (s : Nat → Int) : lyP s 4 = s 4 - lyP s 1 - lyP s 2 := (lyP_succ s 3).trans rfl
set_option maxHeartbeats 1600000 in
theorem lyo_4 (s : Nat → Int) : lyO s 4 4 = 0 + (1) * s 4 + (-1) * s 2 + (0) * s 1 := rfl
theorem lyq_4 (s : Nat → Int) : lyO s 4 4 = lyP s 4 := by
  rw [lyo_4]
  have p1 := lyp_1 s
  have p2 := lyp_2 s
  have p4 := lyp_4 s
  omega
theorem lyp_5 (s : Nat → Int) : lyP s 5 = s 5 - lyP s 1 := (lyP_succ s 4).trans rfl
set_option maxHeartbeats 1600000 in
theorem lyo_5 (s : Nat → Int) : lyO s 5 5 = 0 + (1) * s 5 + (-1) * s 1 := rfl
theorem lyq_5 (s : Nat → Int) : lyO s 5 5 = lyP s 5 := by
  rw [lyo_5]
  have p1 := lyp_1 s
  have p5 := lyp_5 s
  omega
theorem lyp_6 (s : Nat → Int) : lyP s 6 = s 6 - lyP s 1 - lyP s 2 - lyP s 3 := (lyP_succ s 5).trans rfl
set_option maxHeartbeats 1600000 in
theorem lyo_6 (s : Nat → Int) : lyO s 6 6 = 0 + (1) * s 6 + (-1) * s 3 + (-1) * s 2 + (1) * s 1 := rfl
theorem lyq_6 (s : Nat → Int) : lyO s 6 6 = lyP s 6 := by
  rw [lyo_6]
  have p1 := lyp_1 s
  have p2 := lyp_2 s
  have p3 := lyp_3 s
  have p6 := lyp_6 s
  omega
theorem lyp_7 (s : Nat → Int) : lyP s 7 = s 7 - lyP s 1 := (lyP_succ s 6).trans rfl
set_option maxHeartbeats 1600000 in
theorem lyo_7 (s : Nat → Int) : lyO s 7 7 = 0 + (1) * s 7 + (-1) * s 1 := rfl
theorem lyq_7 (s : Nat → Int) : lyO s 7 7 = lyP s 7 := by
  rw [lyo_7]
  have p1 := lyp_1 s
  have p7 := lyp_7 s
  omega
theorem lyp_8 (s : Nat → Int) : lyP s 8 = s 8 - lyP s 1 - lyP s 2 - lyP s 4 := (lyP_succ s 7).trans rfl
set_option maxHeartbeats 1600000 in
theorem lyo_8 (s : Nat → Int) : lyO s 8 8 = 0 + (1) * s 8 + (-1) * s 4 + (0) * s 2 + (0) * s 1 := rfl
theorem lyq_8 (s : Nat → Int) : lyO s 8 8 = lyP s 8 := by
  rw [lyo_8]
  have p1 := lyp_1 s
  have p2 := lyp_2 s
  have p4 := lyp_4 s
  have p8 := lyp_8 s
  omega
theorem lyp_9 (s : Nat → Int) : lyP s 9 = s 9 - lyP s 1 - lyP s 3 := (lyP_succ s 8).trans rfl
set_option maxHeartbeats 1600000 in
theorem lyo_9 (s : Nat → Int) : lyO s 9 9 = 0 + (1) * s 9 + (-1) * s 3 + (0) * s 1 := rfl
theorem lyq_9 (s : Nat → Int) : lyO s 9 9 = lyP s 9 := by
  rw [lyo_9]
  have p1 := lyp_1 s
  have p3 := lyp_3 s
  have p9 := lyp_9 s
  omega
theorem lyp_10 (s : Nat → Int) : lyP s 10 = s 10 - lyP s 1 - lyP s 2 - lyP s 5 := (lyP_succ s 9).trans rfl
set_option maxHeartbeats 1600000 in
theorem lyo_10 (s : Nat → Int) : lyO s 10 10 = 0 + (1) * s 10 + (-1) * s 5 + (-1) * s 2 + (1) * s 1 := rfl
theorem lyq_10 (s : Nat → Int) : lyO s 10 10 = lyP s 10 := by
  rw [lyo_10]
  have p1 := lyp_1 s
  have p2 := lyp_2 s
  have p5 := lyp_5 s
  have p10 := lyp_10 s
  omega
theorem lyp_11 (s : Nat → Int) : lyP s 11 = s 11 - lyP s 1 := (lyP_succ s 10).trans rfl
set_option maxHeartbeats 1600000 in
theorem lyo_11 (s : Nat → Int) : lyO s 11 11 = 0 + (1) * s 11 + (-1) * s 1 := rfl
theorem lyq_11 (s : Nat → Int) : lyO s 11 11 = lyP s 11 := by
  rw [lyo_11]
  have p1 := lyp_1 s
  have p11 := lyp_11 s
  omega
theorem lyp_12 (s : Nat → Int) : lyP s 12 = s 12 - lyP s 1 - lyP s 2 - lyP s 3 - lyP s 4 - lyP s 6 := (lyP_succ s 11).trans rfl
set_option maxHeartbeats 1600000 in
theorem lyo_12 (s : Nat → Int) : lyO s 12 12 = 0 + (1) * s 12 + (-1) * s 6 + (-1) * s 4 + (0) * s 3 + (1) * s 2 + (0) * s 1 := rfl
theorem lyq_12 (s : Nat → Int) : lyO s 12 12 = lyP s 12 := by
  rw [lyo_12]
  have p1 := lyp_1 s
  have p2 := lyp_2 s
  have p3 := lyp_3 s
  have p4 := lyp_4 s
  have p6 := lyp_6 s
  have p12 := lyp_12 s
  omega
theorem lyp_13 (s : Nat → Int) : lyP s 13 = s 13 - lyP s 1 := (lyP_succ s 12).trans rfl
set_option maxHeartbeats 1600000 in
theorem lyo_13 (s : Nat → Int) : lyO s 13 13 = 0 + (1) * s 13 + (-1) * s 1 := rfl
theorem lyq_13 (s : Nat → Int) : lyO s 13 13 = lyP s 13 := by
  rw [lyo_13]
  have p1 := lyp_1 s
  have p13 := lyp_13 s
  omega
theorem lyp_14 (s : Nat → Int) : lyP s 14 = s 14 - lyP s 1 - lyP s 2 - lyP s 7 := (lyP_succ s 13).trans rfl
set_option maxHeartbeats 1600000 in
theorem lyo_14 (s : Nat → Int) : lyO s 14 14 = 0 + (1) * s 14 + (-1) * s 7 + (-1) * s 2 + (1) * s 1 := rfl
theorem lyq_14 (s : Nat → Int) : lyO s 14 14 = lyP s 14 := by
  rw [lyo_14]
  have p1 := lyp_1 s
  have p2 := lyp_2 s
  have p7 := lyp_7 s
  have p14 := lyp_14 s
  omega
theorem lyp_15 (s : Nat → Int) : lyP s 15 = s 15 - lyP s 1 - lyP s 3 - lyP s 5 := (lyP_succ s 14).trans rfl
set_option maxHeartbeats 1600000 in
theorem lyo_15 (s : Nat → Int) : lyO s 15 15 = 0 + (1) * s 15 + (-1) * s 5 + (-1) * s 3 + (1) * s 1 := rfl
theorem lyq_15 (s : Nat → Int) : lyO s 15 15 = lyP s 15 := by
  rw [lyo_15]
  have p1 := lyp_1 s
  have p3 := lyp_3 s
  have p5 := lyp_5 s
  have p15 := lyp_15 s
  omega
theorem lyp_16 (s : Nat → Int) : lyP s 16 = s 16 - lyP s 1 - lyP s 2 - lyP s 4 - lyP s 8 := (lyP_succ s 15).trans rfl
set_option maxHeartbeats 1600000 in
theorem lyo_16 (s : Nat → Int) : lyO s 16 16 = 0 + (1) * s 16 + (-1) * s 8 + (0) * s 4 + (0) * s 2 + (0) * s 1 := rfl
theorem lyq_16 (s : Nat → Int) : lyO s 16 16 = lyP s 16 := by
  rw [lyo_16]
  have p1 := lyp_1 s
  have p2 := lyp_2 s
  have p4 := lyp_4 s
  have p8 := lyp_8 s
  have p16 := lyp_16 s
  omega
theorem lyp_17 (s : Nat → Int) : lyP s 17 = s 17 - lyP s 1 := (lyP_succ s 16).trans rfl
set_option maxHeartbeats 1600000 in
theorem lyo_17 (s : Nat → Int) : lyO s 17 17 = 0 + (1) * s 17 + (-1) * s 1 := rfl
theorem lyq_17 (s : Nat → Int) : lyO s 17 17 = lyP s 17 := by
  rw [lyo_17]
  have p1 := lyp_1 s
  have p17 := lyp_17 s
  omega
theorem lyp_18 (s : Nat → Int) : lyP s 18 = s 18 - lyP s 1 - lyP s 2 - lyP s 3 - lyP s 6 - lyP s 9 := (lyP_succ s 17).trans rfl
set_option maxHeartbeats 1600000 in
theorem lyo_18 (s : Nat → Int) : lyO s 18 18 = 0 + (1) * s 18 + (-1) * s 9 + (-1) * s 6 + (1) * s 3 + (0) * s 2 + (0) * s 1 := rfl
theorem lyq_18 (s : Nat → Int) : lyO s 18 18 = lyP s 18 := by
  rw [lyo_18]
  have p1 := lyp_1 s
  have p2 := lyp_2 s
  have p3 := lyp_3 s
  have p6 := lyp_6 s
  have p9 := lyp_9 s
  have p18 := lyp_18 s
  omega
theorem lyp_19 (s : Nat → Int) : lyP s 19 = s 19 - lyP s 1 := (lyP_succ s 18).trans rfl
set_option maxHeartbeats 1600000 in
theorem lyo_19 (s : Nat → Int) : lyO s 19 19 = 0 + (1) * s 19 + (-1) * s 1 := rfl
theorem lyq_19 (s : Nat → Int) : lyO s 19 19 = lyP s 19 := by
  rw [lyo_19]
  have p1 := lyp_1 s
  have p19 := lyp_19 s
  omega
theorem lyp_20 (s : Nat → Int) : lyP s 20 = s 20 - lyP s 1 - lyP s 2 - lyP s 4 - lyP s 5 - lyP s 10 := (lyP_succ s 19).trans rfl
set_option maxHeartbeats 1600000 in
theorem lyo_20 (s : Nat → Int) : lyO s 20 20 = 0 + (1) * s 20 + (-1) * s 10 + (0) * s 5 + (-1) * s 4 + (1) * s 2 + (0) * s 1 := rfl
theorem lyq_20 (s : Nat → Int) : lyO s 20 20 = lyP s 20 := by
  rw [lyo_20]
  have p1 := lyp_1 s
  have p2 := lyp_2 s
  have p4 := lyp_4 s
  have p5 := lyp_5 s
  have p10 := lyp_10 s
  have p20 := lyp_20 s
  omega
theorem lyp_21 (s : Nat → Int) : lyP s 21 = s 21 - lyP s 1 - lyP s 3 - lyP s 7 := (lyP_succ s 20).trans rfl
set_option maxHeartbeats 1600000 in
theorem lyo_21 (s : Nat → Int) : lyO s 21 21 = 0 + (1) * s 21 + (-1) * s 7 + (-1) * s 3 + (1) * s 1 := rfl
theorem lyq_21 (s : Nat → Int) : lyO s 21 21 = lyP s 21 := by
  rw [lyo_21]
  have p1 := lyp_1 s
  have p3 := lyp_3 s
  have p7 := lyp_7 s
  have p21 := lyp_21 s
  omega
theorem lyp_22 (s : Nat → Int) : lyP s 22 = s 22 - lyP s 1 - lyP s 2 - lyP s 11 := (lyP_succ s 21).trans rfl
set_option maxHeartbeats 1600000 in
theorem lyo_22 (s : Nat → Int) : lyO s 22 22 = 0 + (1) * s 22 + (-1) * s 11 + (-1) * s 2 + (1) * s 1 := rfl
theorem lyq_22 (s : Nat → Int) : lyO s 22 22 = lyP s 22 := by
  rw [lyo_22]
  have p1 := lyp_1 s
  have p2 := lyp_2 s
  have p11 := lyp_11 s
  have p22 := lyp_22 s
  omega
theorem lyp_23 (s : Nat → Int) : lyP s 23 = s 23 - lyP s 1 := (lyP_succ s 22).trans rfl
set_option maxHeartbeats 1600000 in
theorem lyo_23 (s : Nat → Int) : lyO s 23 23 = 0 + (1) * s 23 + (-1) * s 1 := rfl
theorem lyq_23 (s : Nat → Int) : lyO s 23 23 = lyP s 23 := by
  rw [lyo_23]
  have p1 := lyp_1 s
  have p23 := lyp_23 s
  omega
theorem lyp_24 (s : Nat → Int) : lyP s 24 = s 24 - lyP s 1 - lyP s 2 - lyP s 3 - lyP s 4 - lyP s 6 - lyP s 8 - lyP s 12 := (lyP_succ s 23).trans rfl
set_option maxHeartbeats 1600000 in
theorem lyo_24 (s : Nat → Int) : lyO s 24 24 = 0 + (1) * s 24 + (-1) * s 12 + (-1) * s 8 + (0) * s 6 + (1) * s 4 + (0) * s 3 + (0) * s 2 + (0) * s 1 := rfl
theorem lyq_24 (s : Nat → Int) : lyO s 24 24 = lyP s 24 := by
  rw [lyo_24]
  have p1 := lyp_1 s
  have p2 := lyp_2 s
  have p3 := lyp_3 s
  have p4 := lyp_4 s
  have p6 := lyp_6 s
  have p8 := lyp_8 s
  have p12 := lyp_12 s
  have p24 := lyp_24 s
  omega
set_option maxHeartbeats 3200000 in
theorem lyO_P (s : Nat → Int) (n : Nat) (h : 1 ≤ n) (hn : n ≤ 24) : lyO s n n = lyP s n := by
  match n, h, hn with
  | 1, _, _ => exact lyq_1 s
  | 2, _, _ => exact lyq_2 s
  | 3, _, _ => exact lyq_3 s
  | 4, _, _ => exact lyq_4 s
  | 5, _, _ => exact lyq_5 s
  | 6, _, _ => exact lyq_6 s
  | 7, _, _ => exact lyq_7 s
  | 8, _, _ => exact lyq_8 s
  | 9, _, _ => exact lyq_9 s
  | 10, _, _ => exact lyq_10 s
  | 11, _, _ => exact lyq_11 s
  | 12, _, _ => exact lyq_12 s
  | 13, _, _ => exact lyq_13 s
  | 14, _, _ => exact lyq_14 s
  | 15, _, _ => exact lyq_15 s
  | 16, _, _ => exact lyq_16 s
  | 17, _, _ => exact lyq_17 s
  | 18, _, _ => exact lyq_18 s
  | 19, _, _ => exact lyq_19 s
  | 20, _, _ => exact lyq_20 s
  | 21, _, _ => exact lyq_21 s
  | 22, _, _ => exact lyq_22 s
  | 23, _, _ => exact lyq_23 s
  | 24, _, _ => exact lyq_24 s
  | k + 25, _, h9 => exact absurd h9 (by omega)
end Go.Proofs.YtcojodkcpemfdaaDoor
namespace Go.Proofs.YtcojodkcpemfdaaDoor
open Go Go.RowKit
set_option linter.unusedVariables false
set_option maxRecDepth 100000
set_option maxHeartbeats 3200000 in
theorem l07Moebius_any (d : Nat) (h1 : 1 ≤ d) (hd : d ≤ 24) (w : World) :
    Calls Tryd.prog 94 #[.int .i64 (d : Int)] w fun e w' => e = .returned (.int .i64 (muF d)) ∧ w = w' := by
  have HV : Hid (muF d = muGo 24 2 d 1) := Lib.hid rfl
  obtain ⟨V, hV⟩ : ∃ V, V = muF d := ⟨_, rfl⟩
  rw [← hV] at HV ⊢
  clear hV
  go_enter Tryd.func94, Tryd.ntmps94
  go_wp2_with fail
  go_loopw [0, 3, 4] (fun a b c wz => ∃ (f p n : Nat) (o : Int), 1 ≤ p ∧ 1 ≤ n ∧ n ≤ 24 ∧ p ≤ 25 ∧ a = .int .i64 (n : Int) ∧ b = .int .i64 o ∧ c = .int .i64 (p : Int) ∧ (o = 1 ∨ o = -1) ∧ Hid (n < p + f) ∧ Hid (V = muGo f p n o) ∧ wz = w) (fun _ _ c _ => 25 - (intOf c).toNat)
  case atStart => exact ⟨24, 2, d, 1, by omega, h1, hd, by omega, rfl, rfl, rfl, Or.inl rfl, Lib.hid (by omega), HV, rfl⟩
  case round =>
    obtain ⟨f, p, n, o, hp, hn, hn24, hp25, rfl, rfl, rfl, ho, HF, HW, rfl⟩ := hrel
    by_cases hpn : p ≤ n
    · obtain ⟨g, hg⟩ : ∃ g, f = g + 1 := ⟨f - 1, by have := HF.out; omega⟩
      have HS : Hid (V = if n % p = 0 then (if n / p % p = 0 then 0 else muGo g (p + 1) (n / p) (-o)) else muGo g (p + 1) n o) := Lib.hid (by rw [HW.out, hg, muGo, if_pos hpn])
      have HG : Hid (n < p + 1 + g) := Lib.hid (by have := HF.out; omega)
      have hI : (p : Int) ≤ (n : Int) := by omega
      have hp0 : ¬ ((p : Int) = 0) := by omega
      have hrem : (n : Int) % (p : Int) = ((n % p : Nat) : Int) := (Int.natCast_emod n p).symm
      have hrem2 : Int.tmod (n : Int) (p : Int) = ((n % p : Nat) : Int) := by rw [Int.tmod_eq_emod_of_nonneg (by omega)]; exact hrem
      have hdiv : (n : Int) / (p : Int) = ((n / p : Nat) : Int) := (Int.natCast_ediv n p).symm
      have hdiv2 : Int.tdiv (n : Int) (p : Int) = ((n / p : Nat) : Int) := by rw [Int.tdiv_eq_ediv_of_nonneg (by omega)]; exact hdiv
      have HQ : Hid (n / p ≤ n) := Lib.hid (Nat.div_le_self _ _)
      have HQ1 : Hid (1 ≤ n / p) := Lib.hid ((Nat.le_div_iff_mul_le (by omega)).2 (by omega))
      obtain ⟨r, hr⟩ : ∃ r, r = n % p := ⟨_, rfl⟩
      obtain ⟨q, hq⟩ : ∃ q, q = n / p := ⟨_, rfl⟩
      rw [← hr] at hrem hrem2 HS
      rw [← hq] at hdiv hdiv2 HS HQ HQ1
      have hq24 : q ≤ 24 := by have := HQ.out; omega
      clear hr hq hg HW HF
      by_cases hr0 : r = 0
      · have HS2 : Hid (V = if q % p = 0 then 0 else muGo g (p + 1) q (-o)) := Lib.hid (by rw [HS.out, if_pos hr0])
        have hrem3 : (q : Int) % (p : Int) = ((q % p : Nat) : Int) := (Int.natCast_emod q p).symm
        have hrem4 : Int.tmod (q : Int) (p : Int) = ((q % p : Nat) : Int) := by rw [Int.tmod_eq_emod_of_nonneg (by omega)]; exact hrem3
        obtain ⟨t, ht⟩ : ∃ t, t = q % p := ⟨_, rfl⟩
        rw [← ht] at hrem3 hrem4 HS2
        clear ht HS
        subst hr0
        have hw : wrap64 (-o) = -o := by unfold wrap64; omega
        by_cases ht0 : t = 0
        · have HS3 : Hid (V = 0) := Lib.hid (by rw [HS2.out, if_pos ht0])
          subst ht0
          go_wp2_with fail
          go_ret
          rw [HS3.out]
          exact ⟨rfl, rfl⟩
        · have HS3 : Hid (V = muGo g (p + 1) q (-o)) := Lib.hid (by rw [HS2.out, if_neg ht0])
          have ht1 : ¬ ((t : Int) = 0) := by omega
          go_wp2_with fail
          go_roundw
          case rel => exact ⟨g, p + 1, q, -o, by omega, HQ1.out, hq24, by omega, rfl, by first | rfl | rw [hw], by go_num, by omega, Lib.hid (by have := HG.out; have := HQ.out; omega), HS3, trivial⟩
          case measure => simp [intOf]; omega
      · have HS2 : Hid (V = muGo g (p + 1) n o) := Lib.hid (by rw [HS.out, if_neg hr0])
        have hr1 : ¬ ((r : Int) = 0) := by omega
        go_wp2_with fail
        go_roundw
        case rel => exact ⟨g, p + 1, n, o, by omega, hn, hn24, by omega, rfl, rfl, by go_num, ho, HG, HS2, trivial⟩
        case measure => simp [intOf]; omega
    · have hI : ¬ (p : Int) ≤ (n : Int) := by omega
      have HS2 : Hid (V = o) := Lib.hid (by rw [HW.out, muGo_end _ _ _ _ (by omega)])
      go_wp2_with fail
      go_ret
      rw [HS2.out]
      exact ⟨rfl, rfl⟩
end Go.Proofs.YtcojodkcpemfdaaDoor
namespace Go.Proofs.YtcojodkcpemfdaaDoor
open Go Go.RowKit
set_option linter.unusedVariables false
set_option maxRecDepth 100000

theorem wz0 : wrap64 0 = 0 := by unfold wrap64; omega
/-- The number of Lyndon traces, in 64 bits, out of the list of the numbers of cliques. -/
def lyV (cs : List Int) (K : Nat) : Int := wrap64 (Int.tdiv (wrap64 (lyP (lyS (fun i => cs.getD i 0)) K)) (K : Int))
def lyAns (L : Int) (xs : List Int) (a : Int) : Int × Int :=
  if alphB L xs = true then (if lenB a = true then (if a = 0 then (0, 2) else (if ctB (xs.map Int.toNat) a.toNat = true then (lyV (cpM (stepsM (xs.map Int.toNat))) a.toNat, 0) else (0, 3))) else (0, 2)) else (0, 1)
theorem lyAns_no (L : Int) (xs : List Int) (a : Int) (h : alphB L xs = false) : lyAns L xs a = (0, 1) := by unfold lyAns; rw [if_neg (by rw [h]; decide)]
theorem lyAns_out (L : Int) (xs : List Int) (a : Int) (h : alphB L xs = true) (h2 : lenB a = false) : lyAns L xs a = (0, 2) := by unfold lyAns; rw [if_pos h, if_neg (by rw [h2]; decide)]
theorem lyAns_zero (L : Int) (xs : List Int) (h : alphB L xs = true) : lyAns L xs 0 = (0, 2) := by unfold lyAns; rw [if_pos h]; split <;> rfl
theorem lyAns_big (n k : Nat) (rs : List Nat) (h : alphB (n : Int) (ints rs) = true) (h2 : lenB (k : Int) = true) (h0 : 1 ≤ k) (h3 : ctB rs k = false) : lyAns (n : Int) (ints rs) (k : Int) = (0, 3) := by
  unfold lyAns; rw [if_pos h, if_pos h2, if_neg (by omega), ints_toNat, if_neg (by show ¬ ctB rs k = true; rw [h3]; decide)]
theorem lyAns_yes (n k : Nat) (rs : List Nat) (h : alphB (n : Int) (ints rs) = true) (h2 : lenB (k : Int) = true) (h0 : 1 ≤ k) (h3 : ctB rs k = true) : lyAns (n : Int) (ints rs) (k : Int) = (lyV (cpM (stepsM rs)) k, 0) := by
  unfold lyAns; rw [if_pos h, if_pos h2, if_neg (by omega), ints_toNat, if_pos (show ctB rs (k : Int).toNat = true from h3)]; rfl
set_option maxHeartbeats 6400000 in
theorem specCountLyndon (L : Int) (A : Option Addr) (n c : Nat) (xs : List Int) (a : Int) (w : World) (h : Rd w A n xs) (hwf : Wf xs) (hL1 : -9223372036854775808 ≤ L) (hL2 : L ≤ 9223372036854775807) (hn : n ≤ 9223372036854775807) (ha1 : -9223372036854775808 ≤ a) (ha2 : a ≤ 9223372036854775807) :
    Calls Tryd.prog 40 #[.agg #[.int .i64 L, .slice A n c], .int .i64 a] w (fun e w' => e = .returned (.tuple #[.int .i64 (lyAns L xs a).1, .int .i64 (lyAns L xs a).2]) ∧ Below w.heap.size w w') := by
  obtain ⟨i0, hi, hz0, hz1, hz2⟩ := info_parts info_int
  have HB := Lib.hid (below1 w (.cells #[.int .i64 L, .slice A n c] 29))
  have hh := h.below HB.out
  have x0 := box_new 29 w L A n c
  have HC := Lib.hid (l06Code_any L A n c xs a _ hh hn)
  cases ha : alphB L xs
  · rw [lyAns_no L xs a ha]
    rw [ha, if_neg (by decide)] at HC
    clear ha
    go_enter Tryd.func40, Tryd.ntmps40
    go_wp2_with fail
    refine HC.out.mono ?_
    rintro e w1 ⟨rfl, hb⟩
    go_wp2_with fail
    go_ret2
    exact ⟨rfl, HB.out.trans (hb.mono HB.out.size)⟩
  · rw [ha, if_pos rfl] at HC
    cases hl : lenB a
    · rw [lyAns_out L xs a ha hl]
      rw [hl, if_neg (by decide)] at HC
      clear ha hl
      go_enter Tryd.func40, Tryd.ntmps40
      go_wp2_with fail
      refine HC.out.mono ?_
      rintro e w1 ⟨rfl, hb⟩
      go_wp2_with fail
      go_ret2
      exact ⟨rfl, HB.out.trans (hb.mono HB.out.size)⟩
    · rw [hl, if_pos rfl] at HC
      have ha3 : 0 ≤ a ∧ a ≤ 24 := of_decide_eq_true hl
      obtain ⟨K, rfl⟩ := Int.eq_ofNat_of_zero_le ha3.1
      have hk : K ≤ 24 := by omega
      rcases Nat.eq_zero_or_pos K with h0 | h0
      · subst h0
        rw [show ((0 : Nat) : Int) = 0 from rfl, lyAns_zero L xs ha]
        clear ha hl ha3
        go_enter Tryd.func40, Tryd.ntmps40
        go_wp2_with fail
        refine HC.out.mono ?_
        rintro e w1 ⟨rfl, hb⟩
        go_wp2_with fail
        go_ret2
        exact ⟨rfl, HB.out.trans (hb.mono HB.out.size)⟩
      obtain ⟨rs, rfl, rfl, h8, hr, hrel, hlen, hd, _⟩ := alphB_nats L xs n h.1 ha
      have HM := Lib.hid (fun (ww : World) (h9 : Rd ww A n (ints rs)) => l06Many_any A n c K rs ww h9 h8 hr hk)
      have hI0 : ¬ ((K : Int) = 0) := by omega
      cases hc : ctB rs K
      · rw [lyAns_big n K rs ha hl h0 hc]
        rw [hc, if_neg (by decide)] at HM
        clear ha hl hc hlen hd hrel ha3
        go_enter Tryd.func40, Tryd.ntmps40
        go_wp2_with fail
        refine HC.out.mono ?_
        rintro e w1 ⟨rfl, hb⟩
        have HM1 := Lib.hid (HM.out w1 (hh.below hb))
        have HB1 := Lib.hid (HB.out.trans (hb.mono HB.out.size))
        have y0 := (x0.next hb).c0
        have y1 := (x0.next hb).c1
        go_wp2_with fail
        refine HM1.out.mono ?_
        rintro e w2 ⟨rfl, hb2⟩
        go_wp2_with fail
        go_ret2
        exact ⟨rfl, HB1.out.trans (hb2.mono HB1.out.size)⟩
      · rw [lyAns_yes n K rs ha hl h0 hc]
        rw [hc, if_pos rfl] at HM
        have HT := Lib.hid (fun (ww : World) (h9 : Rd ww A n (ints rs)) => l06Clique_any A n c rs ww h9 h8 hr)
        have HLE : Hid ((cpM (stepsM rs)).length ≤ 256) := Lib.hid (Nat.le_trans (cpM_len rs (by omega)) (by decide))
        obtain ⟨cs, hcs⟩ : ∃ cs, cs = cpM (stepsM rs) := ⟨_, rfl⟩
        rw [← hcs] at HT HLE ⊢
        obtain ⟨N, hN⟩ : ∃ N, N = cs.length := ⟨_, rfl⟩
        rw [← hN] at HT HLE
        have HNL := Lib.hid hN
        have HV : Hid (lyV cs K = wrap64 (Int.tdiv (wrap64 (lyO (lyS (fun i => cs.getD i 0)) K K)) (K : Int))) := Lib.hid (by rw [lyO_P _ K h0 hk]; rfl)
        obtain ⟨V, hV⟩ : ∃ V, V = lyV cs K := ⟨_, rfl⟩
        rw [← hV] at HV ⊢
        have HCZ : Hid (∀ k, N ≤ k → (fun i => cs.getD i 0) k = 0) := Lib.hid fun k hk9 => by show cs.getD k 0 = 0; rw [List.getD_eq_getElem?_getD, List.getElem?_eq_none (by rw [← HNL.out]; exact hk9)]; rfl
        obtain ⟨cf, hcf⟩ : ∃ cf : Nat → Int, cf = fun i => cs.getD i 0 := ⟨_, rfl⟩
        rw [← hcf] at HV HCZ
        have HCF := Lib.hid hcf
        obtain ⟨S, hS⟩ : ∃ S, S = lyS cf := ⟨_, rfl⟩
        rw [← hS] at HV
        have HS : Hid (∀ m i, i ≤ m → (lyL cf m).getD i 0 = S i) := Lib.hid fun m i h9 => by rw [hS]; exact lyL_at cf i m h9
        have HSN : Hid (∀ m, lyL cf (m + 1) = lyL cf m ++ [S (m + 1)]) := Lib.hid fun m => by
          rw [hS, lyS_succ, lyL]
          congr 2
          exact lyAcc_congr _ _ _ _ (fun i hi => lyL_at cf i m (by omega)) m (by omega)
        have HF1 : Hid (∀ m, lyM cf S (m + 1) (m + 1) = S (m + 1)) := Lib.hid fun m => by rw [hS, lyS_succ, lyM_full]
        have HF2 : Hid (∀ m j, N ≤ j + 1 → j ≤ m + 1 → lyM cf S (m + 1) j = S (m + 1)) := Lib.hid fun m j h9 h8 => by
          rw [← HF1.out m]; exact (lyM_stop cf S (m + 1) j (fun k hk9 => HCZ.out k (by omega)) (m + 1) h8 (Nat.le_refl _)).symm
        clear ha hl hc hlen hd hrel ha3 hr hcs hN hV hcf hS
        go_enter Tryd.func40, Tryd.ntmps40
        go_wp2_with fail
        refine HC.out.mono ?_
        rintro e w1 ⟨rfl, hb⟩
        have HM1 := Lib.hid (HM.out w1 (hh.below hb))
        have HB1 := Lib.hid (HB.out.trans (hb.mono HB.out.size))
        have x1 := x0.next hb
        have y0 := x1.c0
        have y1 := x1.c1
        go_wp2_with fail
        refine HM1.out.mono ?_
        rintro e w2 ⟨rfl, hb2⟩
        have HT2 := Lib.hid (HT.out w2 ((hh.below hb).below hb2))
        have HB2 := Lib.hid (HB1.out.trans (hb2.mono HB1.out.size))
        have z0 := (x1.next hb2).c0
        have z1 := (x1.next hb2).c1
        go_wp2_with fail
        refine HT2.out.mono ?_
        rintro e w3 ⟨A3, c3, rfl, oC, hb3⟩
        have HB3 := Lib.hid (HB2.out.trans (hb3.mono HB2.out.size))
        clear HC HM HT HM1 HT2 x0 x1 y0 y1 z0 z1 hh h hb hb2 hb3
        have oL : Own 2 (w3.alloc (.cells #[.int .i64 0] 2)) w3.heap.size (some ⟨w3.heap.size, 0, none⟩) 1 1 [0] := ⟨rfl, .inr ⟨w3.heap.size, 1, _, rfl, Nat.le_refl _, World.alloc_heap_new w3 _, Nat.le_refl _, by unfold maxLen; omega, rfl, by simp⟩⟩
        have hL3 := below1 w3 (.cells #[.int .i64 0] 2)
        have hN256 := HLE.out
        have rC := oC.rd
        clear oC
        go_wp2_with fail
        go_loopw [8, 9] (fun p q wz => ∃ (M cA : Nat) (A8 : Option Addr) (ps : List Int), 1 ≤ M ∧ M ≤ K + 1 ∧ p = .slice A8 M cA ∧ q = .int .i64 (M : Int) ∧ Own 2 wz w3.heap.size A8 M cA ps ∧ Hid (ps = (lyL cf (M - 1)).map wrap64) ∧ Below w3.heap.size w3 wz) (fun _ q _ => K + 1 - (intOf q).toNat)
        case atStart => exact ⟨1, 1, _, [0], Nat.le_refl _, by omega, rfl, rfl, oL, Lib.hid (by show [0] = [wrap64 0]; rw [wz0]), hL3⟩
        case round =>
          clear oL hL3
          obtain ⟨M, cA, A8, ps, hM1, hMK, rfl, rfl, oP, HP, hb⟩ := hrel
          have HPW : Hid (∀ i, i < M → ps[i]? = some (wrap64 (S i))) := Lib.hid fun i h9 => by
            rw [HP.out, List.getElem?_map, List.getElem?_eq_getElem (by rw [lyL_len]; omega)]
            have h8 := HS.out (M - 1) i (by omega)
            rw [List.getD_eq_getElem?_getD, List.getElem?_eq_getElem (by rw [lyL_len]; omega)] at h8
            rw [← h8]; rfl
          by_cases hmk : M ≤ K
          · have hI : (M : Int) ≤ (K : Int) := by omega
            have HPN : Hid (∀ v, v = wrap64 (S M) → ps ++ [v] = (lyL cf (M + 1 - 1)).map wrap64) := Lib.hid fun v hv => by
              have h9 := HSN.out (M - 1)
              rw [show M - 1 + 1 = M by omega] at h9
              rw [show M + 1 - 1 = M by omega, h9, List.map_append, ← HP.out, hv]; rfl
            have HG1 : Hid (lyM cf S M M = S M) := Lib.hid (by have h9 := HF1.out (M - 1); rw [show M - 1 + 1 = M by omega] at h9; exact h9)
            have HG2 : Hid (∀ j, N ≤ j + 1 → j ≤ M → lyM cf S M j = S M) := Lib.hid (by have h9 := HF2.out (M - 1); rw [show M - 1 + 1 = M by omega] at h9; exact h9)
            have HMS : Hid (∀ k, 1 ≤ k → lyM cf S M k = if k = M then lyM cf S M (k - 1) - (M : Int) * cf M else lyM cf S M (k - 1) - cf k * S (M - k)) := Lib.hid fun k h9 => by
              obtain ⟨j, rfl⟩ : ∃ j, k = j + 1 := ⟨k - 1, by omega⟩
              rfl
            go_wp2_with fail
            go_loopw [10, 11] (fun p q wz => ∃ (k : Nat) (v : Int), 1 ≤ k ∧ k ≤ M + 1 ∧ p = .int .i64 v ∧ q = .int .i64 (k : Int) ∧ Hid (v = wrap64 (lyM cf S M (k - 1))) ∧ Own 2 wz w3.heap.size A8 M cA ps ∧ Below w3.heap.size w3 wz) (fun _ q _ => M + 2 - (intOf q).toNat)
            case atStart => exact ⟨1, 0, Nat.le_refl _, by omega, rfl, rfl, Lib.hid wz0.symm, oP, hb⟩
            case round =>
              clear oP hb
              obtain ⟨k, v, hk1, hkM, rfl, rfl, HVV, oP, hb⟩ := hrel
              by_cases hgo : k ≤ M ∧ k < N
              · obtain ⟨hkm, hkn⟩ := hgo
                have hI1 : (k : Int) ≤ (M : Int) := by omega
                have hI2 : (k : Int) < (N : Int) := by omega
                obtain ⟨b, off, x, rfl, hbs, hx, hcx⟩ := (rC.below hb).at_ hkn
                have HX : Hid (cf k = x) := Lib.hid (by rw [HCF.out]; show cs.getD k 0 = x; rw [List.getD_eq_getElem?_getD, hx]; rfl)
                have HST := Lib.hid (HMS.out k hk1)
                clear hx
                by_cases hke : k = M
                · subst hke
                  have HV1 : Hid (wrap64 (v - wrap64 ((k : Int) * x)) = wrap64 (lyM cf S k (k + 1 - 1))) := Lib.hid (by rw [Nat.add_sub_cancel, HST.out, if_pos rfl, HVV.out, wk_sub1, HX.out])
                  go_wp2_with fail
                  go_roundw
                  case rel => exact ⟨k + 1, wrap64 (v - wrap64 ((k : Int) * x)), by omega, by omega, rfl, by go_num, HV1, oP, hb⟩
                  case measure => simp [intOf] <;> omega
                · have hkl : k < M := by omega
                  have hIe : ¬ ((k : Int) = (M : Int)) := by omega
                  obtain ⟨D, hD⟩ : ∃ D, D = M - k := ⟨_, rfl⟩
                  have hsub : (M : Int) - (k : Int) = (D : Int) := by omega
                  have hDM : D < M := by omega
                  obtain ⟨b2, off2, y, rfl, hbs2, hy, hcy⟩ := oP.rd.at_ hDM
                  rw [HPW.out D hDM] at hy
                  injection hy with hy
                  have HV1 : Hid (wrap64 (v - wrap64 (x * y)) = wrap64 (lyM cf S M (k + 1 - 1))) := Lib.hid (by rw [Nat.add_sub_cancel, HST.out, if_neg hke, HVV.out, ← hy, wk_sub, HX.out, ← hD])
                  have hD63 : D < 9223372036854775808 := by omega
                  clear hy hD
                  go_wp2_with fail
                  go_quiet (fail)
                  go_wp2_with fail
                  go_roundw
                  case rel => exact ⟨k + 1, wrap64 (v - wrap64 (x * y)), by omega, by omega, rfl, by go_num, HV1, oP.below (below_drewN (Below.refl _ _) _), below_drewN hb _⟩
                  case measure => simp [intOf] <;> omega
              · have HVE : Hid (v = wrap64 (S M)) := Lib.hid (by
                  rw [HVV.out]
                  by_cases h9 : k ≤ M
                  · rw [HG2.out (k - 1) (by omega) (by omega)]
                  · rw [show k - 1 = M by omega, HG1.out])
                have HPE := Lib.hid (HPN.out v HVE.out)
                have hml2 : M + 1 ≤ maxLen := by unfold maxLen; omega
                have hby2 : (M + 1) * 8 ≤ 140737488355328 := by omega
                rcases Nat.lt_or_ge M k with hkm | hkm
                · have hI1 : ¬ (k : Int) ≤ (M : Int) := by omega
                  go_wp2_with (first | (at_builtin; refine wpList_append_own _ rfl _ _ 22 rfl w3.heap.size 2 i0 (.int .i64 0) 1 8 Tryd.underlying22 hi hz0 hz1 hz2 rfl (by decide) (.slice A8 M cA) M (ps.map (Value.int .i64)) rfl (World.ownsRow.alloc oP _) ⟨wr.heap.size, 0, none⟩ 1 1 [.int .i64 v] rfl rfl ?c1 ?c2 hml2 hby2 ?c5 ?_))
                  (try case c1 => exact cell_one_new _ _ _)
                  case c2 => first | rfl | (intro z hz; simp at hz; subst hz; rfl)
                  case c5 => have := hb.size; simp; omega
                  intro v' w6 hown hg _
                  rw [show ps.map (Value.int .i64) ++ [Value.int .i64 v] = (ps ++ [v]).map (Value.int .i64) by rw [List.map_append]; rfl] at hown
                  have hb6 : Below w3.heap.size w3 w6 := (hb.alloc hb.size _).grown hg (by have := hb.size; simp; omega) (fun r hr => (oP.lt r (ownBlock_map' hr)).1)
                  obtain ⟨A5, c5, hv, ho5⟩ := own_shape hown
                  rw [hv]
                  clear hg hown hv oP hb
                  go_wp2_with fail
                  go_roundw
                  case rel => exact ⟨M + 1, c5, A5, ps ++ [v], by omega, by omega, rfl, by go_num, ho5, HPE, hb6⟩
                  case measure => simp [intOf] <;> omega
                · have hI1 : (k : Int) ≤ (M : Int) := by omega
                  have hI2 : ¬ (k : Int) < (N : Int) := by omega
                  go_wp2_with (first | (at_builtin; refine wpList_append_own _ rfl _ _ 22 rfl w3.heap.size 2 i0 (.int .i64 0) 1 8 Tryd.underlying22 hi hz0 hz1 hz2 rfl (by decide) (.slice A8 M cA) M (ps.map (Value.int .i64)) rfl (World.ownsRow.alloc oP _) ⟨wr.heap.size, 0, none⟩ 1 1 [.int .i64 v] rfl rfl ?c1 ?c2 hml2 hby2 ?c5 ?_))
                  (try case c1 => exact cell_one_new _ _ _)
                  case c2 => first | rfl | (intro z hz; simp at hz; subst hz; rfl)
                  case c5 => have := hb.size; simp; omega
                  intro v' w6 hown hg _
                  rw [show ps.map (Value.int .i64) ++ [Value.int .i64 v] = (ps ++ [v]).map (Value.int .i64) by rw [List.map_append]; rfl] at hown
                  have hb6 : Below w3.heap.size w3 w6 := (hb.alloc hb.size _).grown hg (by have := hb.size; simp; omega) (fun r hr => (oP.lt r (ownBlock_map' hr)).1)
                  obtain ⟨A5, c5, hv, ho5⟩ := own_shape hown
                  rw [hv]
                  clear hg hown hv oP hb
                  go_wp2_with fail
                  go_roundw
                  case rel => exact ⟨M + 1, c5, A5, ps ++ [v], by omega, by omega, rfl, by go_num, ho5, HPE, hb6⟩
                  case measure => simp [intOf] <;> omega
          · have hme : M = K + 1 := by omega
            have hI : ¬ (M : Int) ≤ (K : Int) := by omega
            clear HP hMK hM1
            go_wp2_with fail
            go_loopw [12, 13] (fun p q wz => ∃ (d : Nat) (v : Int), 1 ≤ d ∧ d ≤ K + 1 ∧ p = .int .i64 v ∧ q = .int .i64 (d : Int) ∧ Hid (v = wrap64 (lyO S K (d - 1))) ∧ Own 2 wz w3.heap.size A8 M cA ps ∧ Below w3.heap.size w3 wz) (fun _ q _ => K + 1 - (intOf q).toNat)
            case atStart => exact ⟨1, 0, Nat.le_refl _, by omega, rfl, rfl, Lib.hid wz0.symm, oP, hb⟩
            case round =>
              clear oP hb
              obtain ⟨d, v, hd1, hdK, rfl, rfl, HVV, oP, hb⟩ := hrel
              by_cases hdk : d ≤ K
              · have hI1 : (d : Int) ≤ (K : Int) := by omega
                have hp0 : ¬ ((d : Int) = 0) := by omega
                have hrem : (K : Int) % (d : Int) = ((K % d : Nat) : Int) := (Int.natCast_emod K d).symm
                have hrem2 : Int.tmod (K : Int) (d : Int) = ((K % d : Nat) : Int) := by rw [Int.tmod_eq_emod_of_nonneg (by omega)]; exact hrem
                have HST : Hid (lyO S K d = if K % d = 0 then lyO S K (d - 1) + muF d * S (K / d) else lyO S K (d - 1)) := Lib.hid (by
                  obtain ⟨j, rfl⟩ : ∃ j, d = j + 1 := ⟨d - 1, by omega⟩
                  rfl)
                obtain ⟨r, hr⟩ : ∃ r, r = K % d := ⟨_, rfl⟩
                rw [← hr] at hrem hrem2 HST
                clear hr
                by_cases hr0 : r = 0
                · have hdiv : (K : Int) / (d : Int) = ((K / d : Nat) : Int) := (Int.natCast_ediv K d).symm
                  have hdiv2 : Int.tdiv (K : Int) (d : Int) = ((K / d : Nat) : Int) := by rw [Int.tdiv_eq_ediv_of_nonneg (by omega)]; exact hdiv
                  have hQK : K / d ≤ K := Nat.div_le_self _ _
                  obtain ⟨Q, hQ⟩ : ∃ Q, Q = K / d := ⟨_, rfl⟩
                  rw [← hQ] at hdiv hdiv2 hQK HST
                  have hQM : Q < M := by omega
                  obtain ⟨b2, off2, y, rfl, hbs2, hy, hcy⟩ := oP.rd.at_ hQM
                  rw [HPW.out Q hQM] at hy
                  injection hy with hy
                  have HMU := Lib.hid (fun (ww : World) (m' : Nat) => Calls.quiet_of_same (w := ww) (n := m') ((l07Moebius_any d hd1 (by omega) _).mono fun _ _ ⟨he, hw⟩ => ⟨he, hw.symm⟩))
                  obtain ⟨U, hU⟩ : ∃ U, U = muF d := ⟨_, rfl⟩
                  rw [← hU] at HMU HST
                  have HV1 : Hid (wrap64 (v + wrap64 (U * y)) = wrap64 (lyO S K (d + 1 - 1))) := Lib.hid (by rw [Nat.add_sub_cancel, HST.out, if_pos hr0, HVV.out, ← hy, wk_plus])
                  clear hy hQ hU
                  subst hr0
                  go_wp2_with fail
                  go_quiet ((go_at_call 94; exact HMU.out _ _))
                  go_wp2_with fail
                  go_roundw
                  case rel => exact ⟨d + 1, wrap64 (v + wrap64 (U * y)), by omega, by omega, rfl, by go_num, HV1, oP.below (below_drewN (Below.refl _ _) _), below_drewN hb _⟩
                  case measure => simp [intOf] <;> omega
                · have hr1 : ¬ ((r : Int) = 0) := by omega
                  have HV1 : Hid (v = wrap64 (lyO S K (d + 1 - 1))) := Lib.hid (by rw [Nat.add_sub_cancel, HST.out, if_neg hr0, HVV.out])
                  go_wp2_with fail
                  go_roundw
                  case rel => exact ⟨d + 1, v, by omega, by omega, rfl, by go_num, HV1, oP, hb⟩
                  case measure => simp [intOf] <;> omega
              · have hI1 : ¬ (d : Int) ≤ (K : Int) := by omega
                have HVE : Hid (V = wrap64 (Int.tdiv v (K : Int))) := Lib.hid (by rw [HV.out, HVV.out, show d - 1 = K by omega])
                have hkp : (0 : Int) < (K : Int) := by omega
                go_wp2_with fail
                go_ret2
                rw [HVE.out]
                exact ⟨rfl, HB3.out.trans (hb.mono HB3.out.size)⟩
end Go.Proofs.YtcojodkcpemfdaaDoor
namespace Go.Proofs.YtcojodkcpemfdaaDoor
open Go Go.RowKit
set_option linter.unusedVariables false
set_option maxRecDepth 100000

theorem own_capI {E : TypeId} {w : World} {B n c : Nat} {A : Option Addr} {xs : List Int} (h : Own E w B A n c xs) : n ≤ c := by
  rcases h.2 with ⟨h0, h1⟩ | ⟨g, cap, cur, e1, _, _, h4, _⟩
  · injection h0 with _ h2 h3; omega
  · injection e1 with _ _ h3; omega
theorem wpList_append_zero {P : Program} {w : World} {ops : Array Oper} {rest : List Oper} {o : Oper} {a : Act} {Q : Exit → Act → World → Prop} (hgd : o.guard = none) (s x : Operand) (t : TypeId)
    (ho : o.op = .call { callee := .builtin .append, args := #[s, x], argTypes := #[t, t] }) (e : TypeId) (i : TypeInfo) (ht : P.underlying t = some (.slice e)) (hi : P.info? e = some i) (base : Option Addr) (sLen sCap c : Nat) (hle : sLen ≤ sCap)
    (hs : a.eval s = .slice base sLen sCap) (hx : a.eval x = .slice none 0 c) (h : wpList P ops Q rest (a.put o.dst (.slice base sLen sCap)) w) : wpList P ops Q (o :: rest) a w := by
  refine wpList_plain hgd fun K hK => ?_
  have hrun := run_append_nothing (P := P) w t t o.type e i ht hi base sLen sCap hle (.slice none 0 c) (Src.ofNil w ht c)
  unfold Oper.wp
  simp [execOp, ho, resolve, invoke, builtin, hs, hx, hrun, Result.andThen]
  exact hK _ _ h
theorem ints_app (u v : List Nat) : ints (u ++ v) = ints u ++ ints v := by unfold ints; rw [List.map_append]
/-- A slice that reads as numbers, wherever it lies, behind an own one. -/
theorem wpList_append_rdI {w : World} {ops : Array Oper} {rest : List Oper} {o : Oper} {a : Act} {Q : Exit → Act → World → Prop} (hgd : o.guard = none) (s x : Operand)
    (ho : o.op = .call { callee := .builtin .append, args := #[s, x], argTypes := #[22, 22] }) (base : Nat) (A : Option Addr) (N cA : Nat) (all : List Int) (hs : a.eval s = .slice A N cA) (hown : Own 2 w base A N cA all)
    (A2 : Option Addr) (m c2 : Nat) (ss : List Int) (hx : a.eval x = .slice A2 m c2) (h2 : Rd w A2 m ss) (h63 : N + m ≤ maxLen) (hby : (N + m) * 8 ≤ 140737488355328) (hbase : base ≤ w.heap.size)
    (h : ∀ A' c' w', Own 2 w' base A' (N + m) c' (all ++ ss) → w.grownBy w' (Value.slice A N cA).ownBlock → wpList Tryd.prog ops Q rest (a.put o.dst (.slice A' (N + m) c')) w') : wpList Tryd.prog ops Q (o :: rest) a w := by
  obtain ⟨i0, hi, hz0, hz1, hz2⟩ := info_parts info_int
  cases A2 with
  | none =>
    have hm0 : m = 0 := by
      rcases Nat.eq_zero_or_pos m with h0 | h0
      · exact h0
      · obtain ⟨b, off, e9, _⟩ := h2.2 h0; cases e9
    subst hm0
    have hs0 : ss = [] := List.eq_nil_of_length_eq_zero (by exact h2.1)
    subst hs0
    refine wpList_append_zero hgd s x 22 ho 2 i0 Tryd.underlying22 hi A N cA c2 (own_capI hown) hs hx ?_
    exact h A cA w (by rw [List.append_nil]; exact hown) (World.grownBy.refl _ _)
  | some ad =>
    have hl2 : (ss.map (Value.int .i64)).length = m * 1 := by rw [List.length_map, h2.1, Nat.mul_one]
    refine wpList_append_own w hgd s x 22 ho base 2 i0 (.int .i64 0) 1 8 Tryd.underlying22 hi hz0 hz1 hz2 rfl (by decide) (.slice A N cA) N (all.map (Value.int .i64)) hs hown ad m c2 (ss.map (Value.int .i64)) hx hl2 ?_ (ints_oneCell .i64 _) h63 hby hbase ?_
    · intro j u hu
      have hj : 0 < m := by
        rcases Nat.eq_zero_or_pos m with h0 | h0
        · have h8 : ss.map (Value.int .i64) = [] := List.eq_nil_of_length_eq_zero (by rw [hl2, h0])
          rw [h8] at hu; simp at hu
        · exact h0
      obtain ⟨b, off, e9, _⟩ := h2.2 hj
      injection e9 with e9
      subst e9
      exact rd_news h2 hj j u hu
    · intro v' w' hown' hg _
      have e8 : all.map (Value.int .i64) ++ ss.map (Value.int .i64) = (all ++ ss).map (Value.int .i64) := by rw [List.map_append]
      rw [e8] at hown'
      obtain ⟨A3, c3, rfl, ho3⟩ := own_shape hown'
      exact h A3 c3 w' ho3 hg
theorem flat_takeI (Ws : List (List Int)) (k : Nat) (h : k < Ws.length) : (Ws.take (k + 1)).flatten = (Ws.take k).flatten ++ Ws.getD k [] := by
  rw [List.take_add_one, List.getD_eq_getElem?_getD, List.getElem?_eq_getElem h, List.flatten_append]; simp
theorem flat_lenI (Ws : List (List Int)) (hm : ∀ k, (Ws.getD k []).length ≤ 64) : ∀ k, k ≤ Ws.length → (Ws.take k).flatten.length ≤ 64 * k
  | 0, _ => by simp
  | k + 1, h => by
    rw [flat_takeI Ws k (by omega), List.length_append]
    have := flat_lenI Ws hm k (by omega)
    have := hm k
    omega
set_option maxHeartbeats 1600000 in
theorem growNil_any (n : Nat) (hn : n ≤ 100000) (w : World) :
    Calls Tryd.prog 194 #[.slice none 0 0, .int .i64 (n : Int)] w fun e w' => ∃ (A : Option Addr) (c : Nat), e = .returned (.slice A 0 c) ∧ Own 2 w' w.heap.size A 0 c (ints []) ∧ Below w.heap.size w w' := by
  obtain ⟨i0, hi, hz0, hz1, hz2⟩ := info_parts info_int
  have hw0 : IntKind.i64.wrap ((n : Int) - 0) = (n : Int) := by rw [IntWalk.i64_left]; unfold wrap64; omega
  have hw1 : wrap64 (n : Int) = (n : Int) := by unfold wrap64; omega
  have hn0 : (0 : Int) ≤ (n : Int) := by omega
  rcases Nat.eq_zero_or_pos n with h0 | h0
  · subst h0
    go_enter Tryd.func194, Tryd.ntmps194
    go_wp2_with fail
    go_ret
    exact ⟨none, 0, rfl, Own.nil _ _ _, Below.refl _ _⟩
  · have hnp : (0 : Int) < (n : Int) := by omega
    have hrun := Lib.run_append_nil_zeros (P := Tryd.prog) w 22 3 22 2 i0 (.int .i64 0) .i64 .i64 Tryd.underlying22 Tryd.underlying3 hi hz0 n h0 (by omega) (by omega) (by rw [hz2]; omega)
    obtain ⟨cp, hcp⟩ : ∃ cp, cp = grownCap w n 0 2 := ⟨_, rfl⟩
    have hge : n ≤ cp := by rw [hcp]; exact grownCap_ge w n 0 _
    have hle : cp ≤ maxLen := by rw [hcp]; exact grownCap_le_maxLen w n 0 _ (by unfold maxLen; omega)
    rw [← hcp] at hrun
    obtain ⟨row, hrow⟩ : ∃ row, row = Builtin.zeroCells (Value.int .i64 0).cells n ++ Builtin.zeroCells (Value.int .i64 0).cells (cp - n) := ⟨_, rfl⟩
    have hrs : row.size = cp := by
      rw [hrow, Array.size_append]
      have hzc : ∀ k, (Builtin.zeroCells (Value.int .i64 0).cells k).size = k := fun k => by simp [Builtin.zeroCells, Value.cells]
      rw [hzc, hzc]; omega
    rw [← hrow] at hrun
    have HOWN : Hid (Own 2 (w.drew.alloc (.cells row 2)) w.heap.size (some ⟨w.heap.size, 0, none⟩) 0 cp (ints [])) := Lib.hid ⟨rfl, .inr ⟨w.heap.size, cp, row, rfl, Nat.le_refl _, World.alloc_heap_new w.drew _, Nat.zero_le _, hle, by rw [hrs, Nat.mul_one], by simp [ints]⟩⟩
    have HBE : Hid (Below w.heap.size w (w.drew.alloc (.cells row 2))) := Lib.hid ((Below.refl _ _).drew.alloc (Nat.le_refl _) _)
    clear hrow hcp
    go_enter Tryd.func194, Tryd.ntmps194
    go_wp2_with (at_builtin; refine Lib.wpList_append_run _ rfl _ _ _ _ rfl _ _ rfl rfl _ _ hrun ?_)
    go_wp2_with fail
    go_ret
    exact ⟨_, cp, rfl, HOWN.out, HBE.out⟩
set_option maxHeartbeats 3200000 in
theorem concat_int (T : Option Addr) (nT cT : Nat) (ts : List (Option Addr × Nat × Nat × List Int)) (Ws : List (List Int)) (w : World)
    (hT : RdT w T nT ts) (hnT : nT ≤ 24) (hlW : Ws.length = nT) (hW : ∀ k t, ts[k]? = some t → t.2.2.2 = Ws.getD k []) (hWm : ∀ k, (Ws.getD k []).length ≤ 64) :
    Calls Tryd.prog 154 #[.slice T nT cT] w (MakesE 2 w Ws.flatten.length Ws.flatten) := by
  have HLW := Lib.hid hlW
  have HW := Lib.hid hW
  have HFT : Hid (∀ k, k < nT → (Ws.take (k + 1)).flatten = (Ws.take k).flatten ++ Ws.getD k []) := Lib.hid (fun k hk => flat_takeI Ws k (by rw [hlW]; exact hk))
  have HFL : Hid (∀ k, k ≤ nT → (Ws.take k).flatten.length ≤ 64 * k) := Lib.hid (fun k hk => flat_lenI Ws hWm k (by rw [hlW]; exact hk))
  have HFA : Hid (Ws.take nT = Ws) := Lib.hid (List.take_of_length_le (by rw [hlW]; exact Nat.le_refl _))
  clear hlW hW hWm
  go_enter Tryd.func154, Tryd.ntmps154
  go_wp2_with fail
  go_loop [3, 11] (fun sv iv => ∃ k S : Nat, k ≤ nT ∧ iv = .int .i64 (k : Int) ∧ sv = .int .i64 (S : Int) ∧ S = (Ws.take k).flatten.length) (fun _ iv => nT - (intOf iv).toNat)
  case atStart => exact ⟨0, 0, Nat.zero_le _, rfl, rfl, rfl⟩
  case round =>
    obtain ⟨k, S, hk, rfl, rfl, hS⟩ := hrel
    have HS := Lib.hid hS
    have HSL : Hid (S ≤ 64 * k) := Lib.hid (by rw [hS]; exact HFL.out k hk)
    clear hS
    by_cases hlt : k < nT
    · obtain ⟨bt, ot, Bk, nk, ck, xk, rfl, hbt, htk, hct, hrk, hmk⟩ := hT.at_ hlt
      have hxk : xk = Ws.getD k [] := HW.out k _ htk
      have hnk : (Ws.getD k []).length = nk := by have := hrk.1; rw [hxk] at this; exact this
      have HSN : Hid (S + nk = (Ws.take (k + 1)).flatten.length) := Lib.hid (by rw [HFT.out k hlt, List.length_append, ← HS.out, hnk])
      have hsl := HSL.out
      have hsn : S + nk ≤ 64 * (k + 1) := by rw [HSN.out]; exact HFL.out (k + 1) hlt
      have hw1 : IntKind.i64.wrap ((S : Int) + (nk : Int)) = ((S + nk : Nat) : Int) := by rw [IntWalk.i64_left]; unfold wrap64; omega
      have hge : (0 : Int) ≤ ((S + nk : Nat) : Int) := by omega
      clear hxk hnk
      go_wp2_with fail
      go_round
      case rel => exact ⟨k + 1, S + nk, hlt, by go_num, by simp, HSN.out⟩
      case measure => simp [intOf]; omega
    · have hkm : k = nT := by omega
      subst hkm
      have HSF : Hid (S = Ws.flatten.length) := Lib.hid (by rw [HS.out, HFA.out])
      have HGR := Lib.hid (growNil_any S (by have := HSL.out; omega) w)
      go_wp2_with fail
      refine HGR.out.mono ?_
      rintro e w1 ⟨A0, c0, rfl, o0, hb1⟩
      go_wp2_with fail
      go_loopw [6, 27] (fun av iv wr => ∃ (j N cA : Nat) (A : Option Addr), j ≤ k ∧ av = .slice A N cA ∧ iv = .int .i64 (j : Int) ∧ N = (Ws.take j).flatten.length ∧ Own 2 wr w.heap.size A N cA (Ws.take j).flatten ∧ Below w.heap.size w wr) (fun _ iv _ => k - (intOf iv).toNat)
      case atStart => exact ⟨0, 0, c0, A0, Nat.zero_le _, rfl, rfl, rfl, o0, hb1⟩
      case round =>
        clear o0 hb1
        obtain ⟨j, N, cA, A, hj, rfl, rfl, hN, ho, hb⟩ := hrel
        have HN := Lib.hid hN
        have HNL : Hid (N ≤ 64 * j) := Lib.hid (by rw [hN]; exact HFL.out j hj)
        clear hN
        by_cases hlt2 : j < k
        · obtain ⟨bt, ot, Bk, nk, ck, xk, rfl, hbt, htk, hct, hrk, hmk⟩ := (hT.below hb).at_ hlt2
          have hxk : xk = Ws.getD j [] := HW.out j _ htk
          subst hxk
          have hnk : (Ws.getD j []).length = nk := by exact hrk.1
          have HSN : Hid (N + nk = (Ws.take (j + 1)).flatten.length) := Lib.hid (by rw [HFT.out j hlt2, List.length_append, ← HN.out, hnk])
          have hsn : N + nk ≤ 64 * (j + 1) := by rw [HSN.out]; exact HFL.out (j + 1) hlt2
          have HFJ := Lib.hid (HFT.out j hlt2)
          have hml : N + nk ≤ maxLen := by unfold maxLen; omega
          have hby : (N + nk) * 8 ≤ 140737488355328 := by omega
          have hbase := hb.size
          obtain ⟨al, hal⟩ : ∃ al, al = (Ws.take j).flatten := ⟨_, rfl⟩
          obtain ⟨v, hv⟩ : ∃ v, v = Ws.getD j [] := ⟨_, rfl⟩
          rw [← hal] at ho HFJ
          rw [← hv] at hrk HFJ
          clear hal hv hnk
          go_wp2_with (at_builtin; refine wpList_append_rdI rfl _ _ rfl w.heap.size A N cA al rfl ho Bk nk ck v rfl hrk hml hby hbase ?_; intro A6 c6 w6 o6 hg6; have HB6 : Hid (Below w.heap.size w w6) := Lib.hid (hb.grown hg6 hbase (fun k e9 => (ho.lt k (ownBlock_map' e9)).1)); rw [← HFJ.out] at o6)
          go_wp2_with fail
          go_roundw
          case rel => exact ⟨j + 1, N + nk, c6, A6, hlt2, rfl, by go_num, HSN.out, o6, HB6.out⟩
          case measure => simp [intOf]; omega
        · have hjk : j = k := by omega
          subst hjk
          have HE : Hid (N = Ws.flatten.length) := Lib.hid (by rw [HN.out, HFA.out])
          rw [HFA.out] at ho
          go_wp2_with fail
          go_ret
          rw [← HE.out]
          exact ⟨A, cA, rfl, ho, hb⟩
end Go.Proofs.YtcojodkcpemfdaaDoor
namespace Go.Proofs.YtcojodkcpemfdaaDoor
open Go Go.RowKit
set_option linter.unusedVariables false
set_option maxRecDepth 100000

/-- The row that make lays, in whatever world. -/
theorem made_new (w : World) (n : Nat) (hn : n ≤ 100) : Own 2 (w.alloc (.cells (madeCells #[.int .i64 0] n) 2)) w.heap.size (some ⟨w.heap.size, 0, none⟩) n n (List.replicate n 0) := by
  have h := own_made (w := w) (w1 := w.alloc (.cells (madeCells #[.int .i64 0] (n * 1)) 2)) (E := 2) (n := n) (World.ownsRow_lit w _ n (Nat.le_refl _) (by unfold maxLen; omega) (size_madeCells _ _))
  have e : ints (List.replicate n 0) = List.replicate n (0 : Int) := by simp [ints]
  rw [e, Nat.mul_one] at h
  exact h
/-- Two rows that make lays, one behind the other, in a region that draws. -/
theorem two_new (w : World) (n : Nat) (hn : n ≤ 100) : Own 2 ((w.alloc (.cells (madeCells #[.int .i64 0] n) 2)).alloc (.cells (madeCells #[.int .i64 0] n) 2)).drew w.heap.size (some ⟨w.heap.size, 0, none⟩) n n (List.replicate n 0) ∧ Own 2 ((w.alloc (.cells (madeCells #[.int .i64 0] n) 2)).alloc (.cells (madeCells #[.int .i64 0] n) 2)).drew w.heap.size (some ⟨w.heap.size + 1, 0, none⟩) n n (List.replicate n 0) ∧ Below w.heap.size w ((w.alloc (.cells (madeCells #[.int .i64 0] n) 2)).alloc (.cells (madeCells #[.int .i64 0] n) 2)).drew := by
  have e9 : (w.alloc (.cells (madeCells #[.int .i64 0] n) 2)).heap.size = w.heap.size + 1 := by simp
  have h1 := made_new w n hn
  have h2 := made_new (w.alloc (.cells (madeCells #[.int .i64 0] n) 2)) n hn
  have b1 := below1 w (.cells (madeCells #[.int .i64 0] n) 2)
  have b2 := below1 (w.alloc (.cells (madeCells #[.int .i64 0] n) 2)) (.cells (madeCells #[.int .i64 0] n) 2)
  have b3 : Below ((w.alloc (.cells (madeCells #[.int .i64 0] n) 2)).alloc (.cells (madeCells #[.int .i64 0] n) 2)).heap.size ((w.alloc (.cells (madeCells #[.int .i64 0] n) 2)).alloc (.cells (madeCells #[.int .i64 0] n) 2)) ((w.alloc (.cells (madeCells #[.int .i64 0] n) 2)).alloc (.cells (madeCells #[.int .i64 0] n) 2)).drew := (Below.refl _ _).drew
  have h3 := (h1.below b2).below b3
  have h4 := (h2.mono b1.size).below b3
  rw [e9] at h4
  exact ⟨h3, h4, (b1.trans (b2.mono b1.size)).trans (b3.mono (b1.trans (b2.mono b1.size)).size)⟩
set_option maxHeartbeats 1600000 in
theorem countLyndon_any (A : Option Addr) (n c K : Nat) (rs : List Nat) (w : World) (h : Rd w A n (ints rs)) (h8 : n ≤ 8) (hr : ∀ i, rs.getD i 0 < 2 ^ n) (hd : Dep rs) (hT : Tab w) (hK1 : 1 ≤ K) (hK : K ≤ 24) (hN1 : 1 ≤ (cpM (stepsM rs)).length) :
    Calls Tryd.prog 96 #[.slice A n c, .int .i64 (K : Int)] w fun e w' => e = .returned (.int .i64 (lyV (cpM (stepsM rs)) K)) ∧ Below w.heap.size w w' := by
  obtain ⟨i0, hi, hz0, hz1, hz2⟩ := info_parts info_int
  have hl : rs.length = n := by have := h.1; rw [ints_len] at this; exact this
  have hN9 := cpM_len rs (by omega)
  have HCP : Hid (∀ ww, Below w.heap.size w ww → Calls Tryd.prog 155 #[.slice A n c] ww (MakesE 2 ww (cpM (stepsM rs)).length (cpM (stepsM rs)))) := Lib.hid fun ww hw => cliquePolynomial_any A n c rs ww (h.below hw) h8 hr hd (hT.below hw)
  obtain ⟨cs, hcs⟩ : ∃ cs, cs = cpM (stepsM rs) := ⟨_, rfl⟩
  rw [← hcs] at HCP hN1 hN9 ⊢
  obtain ⟨N, hN⟩ : ∃ N, N = cs.length := ⟨_, rfl⟩
  rw [← hN] at HCP hN1 hN9
  have HNL := Lib.hid hN
  obtain ⟨cf, hcf⟩ : ∃ cf : Nat → Int, cf = fun i => cs.getD i 0 := ⟨_, rfl⟩
  have HV : Hid (lyV cs K = wrap64 (Int.tdiv (wrap64 (lyP (lyS cf) K)) (K : Int))) := Lib.hid (by rw [hcf]; rfl)
  obtain ⟨V, hV⟩ : ∃ V, V = lyV cs K := ⟨_, rfl⟩
  rw [← hV] at HV ⊢
  have hM : N + K ≤ 64 := by omega
  obtain ⟨M, hMe⟩ : ∃ M, M = N + K := ⟨_, rfl⟩
  have HCC : Hid (∀ ww (T : Option Addr) (cT : Nat) (B1 B2 : Option Addr) (d1 d2 : Nat), RdT ww T 2 [(B1, N, d1, cs), (B2, K, d2, List.replicate K 0)] → Calls Tryd.prog 154 #[.slice T 2 cT] ww (MakesE 2 ww M (cs ++ List.replicate K 0))) := Lib.hid fun ww T cT B1 B2 d1 d2 h9 => by
    have h7 := concat_int T 2 cT _ [cs, List.replicate K 0] ww h9 (by omega) rfl (fun k t hk => by
      match k, hk with
      | 0, hk => injection hk with hk; subst hk; rfl
      | 1, hk => injection hk with hk; subst hk; rfl
      | k + 2, hk => simp at hk) (fun k => by
      match k with
      | 0 => show cs.length ≤ 64; omega
      | 1 => show (List.replicate K (0 : Int)).length ≤ 64; rw [List.length_replicate]; omega
      | k + 2 => simp)
    rw [show [cs, List.replicate K 0].flatten = cs ++ List.replicate K 0 by simp, show (cs ++ List.replicate K (0 : Int)).length = M by rw [List.length_append, List.length_replicate, hMe, hN]] at h7
    exact h7
  have HX : Hid (∀ i, i < M → (cs ++ List.replicate K (0 : Int))[i]? = some (cf i)) := Lib.hid fun i h9 => by
    rw [hcf]
    rcases Nat.lt_or_ge i N with h7 | h7
    · rw [List.getElem?_append_left (by omega)]
      show _ = some (cs.getD i 0)
      rw [List.getD_eq_getElem?_getD, List.getElem?_eq_getElem (by omega)]; rfl
    · rw [List.getElem?_append_right (by omega), List.getElem?_replicate, if_pos (by omega)]
      show _ = some (cs.getD i 0)
      rw [List.getD_eq_getElem?_getD, List.getElem?_eq_none (by omega)]; rfl
  obtain ⟨xs, hxs⟩ : ∃ xs, xs = cs ++ List.replicate K (0 : Int) := ⟨_, rfl⟩
  rw [← hxs] at HCC HX
  have hMK : K < M := by omega
  have hM64 : M ≤ 64 := by omega
  have hml : K ≤ maxLen := by unfold maxLen; omega
  have hmlN : N ≤ maxLen := by unfold maxLen; omega
  have hcur : Below w.heap.size w w.drew := (Below.refl _ _).drew
  have hmk := run_make_row' (P := Tryd.prog) 22 2 (.int .i64 0) 8 Tryd.underlying22 info_int rfl .i64 .i64 K (by omega) (by omega)
  have HMN := Lib.hid (fun ww => made_new ww K (by omega))
  obtain ⟨K1, hK1⟩ : ∃ K1, K1 = K + 1 := ⟨_, rfl⟩
  have hmk2 := run_make_row' (P := Tryd.prog) 22 2 (.int .i64 0) 8 Tryd.underlying22 info_int rfl .i64 .i64 K1 (by omega) (by omega)
  have HMN2 := Lib.hid (fun ww => made_new ww K1 (by omega))
  have HMK2 := Lib.hid hmk2
  have HK1 := Lib.hid hK1
  clear hmk2 hK1
  clear hxs hcs hN hV hcf hMe h hT hd hr hl hM
  go_enter Tryd.func96, Tryd.ntmps96
  go_wp2_with fail
  go_region_law (first
    | (go_simp; go_at_call 155; first
        | ((with_reducible refine (HCP.out w.drew hcur).mono ?_); rintro e wa ⟨Ac, cc, rfl, oC, hba⟩; have hcur1 := hcur.trans (hba.mono hcur.size); have hcur2 := hcur1.trans ((below1 wa (.cells (madeCells #[.int .i64 0] K) 2)).mono hcur1.size); have oC2 := oC.below (below1 wa (.cells (madeCells #[.int .i64 0] K) 2)); have hRT := rdT_two (wa.alloc (.cells (madeCells #[.int .i64 0] K) 2)) Ac (some ⟨wa.heap.size, 0, none⟩) N cc K K cs (List.replicate K 0) 22 oC2.rd hmlN (HMN.out wa).rd hml; have e9 : (wa.alloc (.cells (madeCells #[.int .i64 0] K) 2)).heap.size = wa.heap.size + 1 := (by simp); rw [e9] at hRT; have hcur3 := hcur2.trans ((below1 (wa.alloc (.cells (madeCells #[.int .i64 0] K) 2)) (.cells #[.slice Ac N cc, .slice (some ⟨wa.heap.size, 0, none⟩) K K] 22)).mono hcur2.size))
        | ((with_reducible refine (HCP.out (w.alloc (.cells (madeCells #[.int .i64 0] K) 2)).drew (below1 w (.cells (madeCells #[.int .i64 0] K) 2)).drew).mono ?_); rintro e wa ⟨Ac, cc, rfl, oC, hba⟩; have oZ := ((HMN.out w).below (show Below (w.alloc (.cells (madeCells #[.int .i64 0] K) 2)).heap.size (w.alloc (.cells (madeCells #[.int .i64 0] K) 2)) (w.alloc (.cells (madeCells #[.int .i64 0] K) 2)).drew from (Below.refl _ _).drew)).below hba; have hcur1 : Below w.heap.size w (w.alloc (.cells (madeCells #[.int .i64 0] K) 2)).drew := (below1 w (.cells (madeCells #[.int .i64 0] K) 2)).drew; have hcur2 := hcur1.trans (hba.mono hcur1.size); have hRT := rdT_two wa Ac (some ⟨w.heap.size, 0, none⟩) N cc K K cs (List.replicate K 0) 22 oC.rd hmlN oZ.rd hml; have hcur3 := hcur2.trans ((below1 wa (.cells #[.slice Ac N cc, .slice (some ⟨w.heap.size, 0, none⟩) K K] 22)).mono hcur2.size)))
    | (go_simp; go_at_call 154; (with_reducible refine (HCC.out _ _ _ _ _ _ _ hRT).mono ?_); rintro e wd ⟨AX, cX, rfl, oX, hbd⟩; have hcur := hcur3.trans (hbd.mono hcur3.size)))
  all_goals (
    have rX := oX.rd
    clear hmk hcur1 hcur2 hcur3 hRT oC oX HCP HCC HMN hba hbd
    try clear oC2
    try clear e9
    try clear oZ
    obtain ⟨w5, hw5⟩ : ∃ w5 : World, w5 = wd := ⟨_, rfl⟩
    rw [← hw5] at hcur rX ⊢
    clear hw5
    go_wp2_with fail
    simp only [List.getElem_toArray, List.getElem_cons_succ, List.getElem_cons_zero, Act.put, List.setIfInBounds_toArray, List.set_cons_zero, List.set_cons_succ]
    go_cut [6, 7] from 17 to 22 (fun p q wx => ∃ gS gP : Nat, gS ≠ gP ∧ p = .slice (some ⟨gS, 0, none⟩) K1 K1 ∧ q = .slice (some ⟨gP, 0, none⟩) K1 K1 ∧ Own 2 wx w5.heap.size (some ⟨gS, 0, none⟩) K1 K1 (List.replicate K1 0) ∧ Own 2 wx w5.heap.size (some ⟨gP, 0, none⟩) K1 K1 (List.replicate K1 0) ∧ Below w5.heap.size w5 wx)
    case first =>
      have hmk2 := HMK2.out
      have hI : (K : Int) + 1 = (K1 : Int) := by have := HK1.out; omega
      go_region
      all_goals (
        go_wp2_with fail
        go_meet
        have T := two_new w5 K1 (by have := HK1.out; omega)
        first
        | exact ⟨w5.heap.size, w5.heap.size + 1, by omega, rfl, rfl, T.1, T.2.1, T.2.2⟩
        | exact ⟨w5.heap.size + 1, w5.heap.size, by omega, rfl, rfl, T.2.1, T.1, T.2.2⟩)
    case rest =>
      obtain ⟨gS, gP, hne, rfl, rfl, oS, oP, hb5⟩ := hcut
      have hgS := (oS.lt gS rfl).1
      have hgP := (oP.lt gP rfl).1
      have hKK : K1 = K + 1 := HK1.out
      obtain ⟨S, hS⟩ : ∃ S, S = lyS cf := ⟨_, rfl⟩
      obtain ⟨P, hP⟩ : ∃ P, P = lyP S := ⟨_, rfl⟩
      have HVE : Hid (V = wrap64 (Int.tdiv (wrap64 (P K)) (K : Int))) := Lib.hid (by rw [HV.out, hP, hS])
      have HSA : Hid (∀ m, 1 ≤ m → lyAcc cf S m (m - 1) = S m) := Lib.hid fun m h9 => by
        obtain ⟨j, rfl⟩ : ∃ j, m = j + 1 := ⟨m - 1, by omega⟩
        rw [hS, lyS_succ]; rfl
      have HPA : Hid (∀ m, 1 ≤ m → lyPA S P m (m - 1) = P m) := Lib.hid fun m h9 => by
        obtain ⟨j, rfl⟩ : ∃ j, m = j + 1 := ⟨m - 1, by omega⟩
        rw [hP, lyP_succ]; rfl
      clear hS hP HV HMK2 HMN2
      go_wp2_with fail
      go_loopw [8] (fun q wz => ∃ (m : Nat) (ss ps : List Int), 1 ≤ m ∧ m ≤ K + 1 ∧ q = .int .i64 (m : Int) ∧ Own 2 wz w5.heap.size (some ⟨gS, 0, none⟩) K1 K1 ss ∧ Own 2 wz w5.heap.size (some ⟨gP, 0, none⟩) K1 K1 ps ∧ Hid (∀ i, 1 ≤ i → i < m → ss[i]? = some (wrap64 (S i))) ∧ Hid (∀ i, 1 ≤ i → i < m → ps[i]? = some (wrap64 (P i))) ∧ Below w5.heap.size w5 wz) (fun q _ => K + 1 - (intOf q).toNat)
      case atStart => exact ⟨1, _, _, Nat.le_refl _, by omega, rfl, oS, oP, Lib.hid (fun i h1 h2 => absurd h2 (by omega)), Lib.hid (fun i h1 h2 => absurd h2 (by omega)), hb5⟩
      case round =>
        clear oS oP hb5
        obtain ⟨m, ss, ps, hm1, hmK, rfl, oS, oP, HSS, HPS, hb⟩ := hrel
        by_cases hmk : m ≤ K
        · have hI : (m : Int) ≤ (K : Int) := by omega
          have hmK1 : m < K1 := by omega
          have hmM : m < M := by omega
          obtain ⟨bX, oXf, x, rfl, hbX, hx, hcX⟩ := (rX.below hb).at_ hmM
          rw [HX.out m hmM] at hx
          injection hx with hx
          have hlS := oS.len
          have hcS := oS.cell (k := m) (x := ss.getD m 0) (by rw [List.getD_eq_getElem?_getD, List.getElem?_eq_getElem (by omega)]; rfl)
          have hfS := oS.frozen m
          have hneg : wrap64 (-(m : Int)) = -(m : Int) := by unfold wrap64; omega
          have oS1 := oS.set_ m (wrap64 (-(m : Int) * x))
          have oP1 := oP.apart (grown_set (World.grownBy.refl wr (some gS)) m (.int .i64 (wrap64 (-(m : Int) * x)))) (fun q hq e => by injection hq with hq; injection e with e; exact hne (e.trans hq.symm))
          have hb1 := hb.setCell (p := ⟨gS, m, none⟩) hgS (.int .i64 (wrap64 (-(m : Int) * x)))
          have HA0 : Hid (wrap64 (-(m : Int) * x) = wrap64 (lyAcc cf S m 0)) := Lib.hid (by rw [← hx]; rfl)
          have HSL : Hid (ss.length = K1) := Lib.hid hlS
          clear hx hlS
          go_wp2_with fail
          go_loopw [9] (fun q wz => ∃ (k : Nat) (s1 : List Int), 1 ≤ k ∧ k ≤ m ∧ q = .int .i64 (k : Int) ∧ Own 2 wz w5.heap.size (some ⟨gS, 0, none⟩) K1 K1 s1 ∧ Own 2 wz w5.heap.size (some ⟨gP, 0, none⟩) K1 K1 ps ∧ Hid (s1[m]? = some (wrap64 (lyAcc cf S m (k - 1)))) ∧ Hid (∀ i, 1 ≤ i → i < m → s1[i]? = some (wrap64 (S i))) ∧ Below w5.heap.size w5 wz) (fun q _ => m - (intOf q).toNat)
          case atStart => exact ⟨1, _, Nat.le_refl _, hm1, rfl, oS1, oP1, Lib.hid (by rw [List.getElem?_set_self (by have := HSL.out; omega), HA0.out]), Lib.hid (fun i h1 h2 => by rw [List.getElem?_set_ne (by omega)]; exact HSS.out i h1 h2), hb1⟩
          case round =>
            clear oS1 oP1 hb1 hcS hfS hcX oS oP hb HA0 HSS HSL
            obtain ⟨k, s1, hk1, hkm, rfl, oS, oP, HSM, HSI, hb⟩ := hrel
            by_cases hlt : k < m
            · have hI1 : (k : Int) < (m : Int) := by omega
              have hkM : k < M := by omega
              obtain ⟨bY, oY, y, eY, hbY, hy, hcY⟩ := (rX.below hb).at_ hkM
              injection eY with eY
              injection eY with eY1 eY2 _
              subst eY1 eY2
              rw [HX.out k hkM] at hy
              injection hy with hy
              obtain ⟨D, hD⟩ : ∃ D, D = m - k := ⟨_, rfl⟩
              have hsub : (m : Int) - (k : Int) = (D : Int) := by omega
              have hDK : D < K1 := by omega
              have HST : Hid (lyAcc cf S m (k + 1 - 1) = lyAcc cf S m (k - 1) - cf k * S D) := Lib.hid (by
                obtain ⟨j, rfl⟩ : ∃ j, k = j + 1 := ⟨k - 1, by omega⟩
                rw [hD]; rfl)
              have hm0 := HSM.out
              have hd0 := HSI.out D (by omega) (by omega)
              obtain ⟨v, hv⟩ : ∃ v, v = wrap64 (lyAcc cf S m (k - 1)) := ⟨_, rfl⟩
              obtain ⟨z, hz⟩ : ∃ z, z = wrap64 (S D) := ⟨_, rfl⟩
              rw [← hv] at hm0
              rw [← hz] at hd0
              have c1 := oS.cell hm0
              have c2 : wr.drew.cell? ⟨gS, m, none⟩ = some (.int .i64 v) := c1
              have c3 := oS.cell hd0
              have c4 : wr.drew.cell? ⟨gS, D, none⟩ = some (.int .i64 z) := c3
              have c5 : wr.drew.cell? ⟨bX, oXf + k, none⟩ = some (.int .i64 y) := hcY
              have c6 := oS.frozen m
              have c7 : wr.drew.frozen? ⟨gS, m, none⟩ = false := c6
              have hdrw : Below wr.heap.size wr wr.drew := (Below.refl _ _).drew
              have o2 := (oS.below hdrw).set_ m (wrap64 (v - wrap64 (y * z)))
              have p2 := (oP.below hdrw).apart (grown_set (World.grownBy.refl wr.drew (some gS)) m (.int .i64 (wrap64 (v - wrap64 (y * z))))) (fun q hq e => by injection hq with hq; injection e with e; exact hne (e.trans hq.symm))
              have b2 := (hb.trans (hdrw.mono hb.size)).setCell (p := ⟨gS, m, none⟩) hgS (.int .i64 (wrap64 (v - wrap64 (y * z))))
              have HV1 : Hid ((s1.set m (wrap64 (v - wrap64 (y * z))))[m]? = some (wrap64 (lyAcc cf S m (k + 1 - 1)))) := Lib.hid (by rw [List.getElem?_set_self (by have := oS.len; omega), HST.out, hv, hz, wk_sub, hy])
              have HV2 : Hid (∀ i, 1 ≤ i → i < m → (s1.set m (wrap64 (v - wrap64 (y * z))))[i]? = some (wrap64 (S i))) := Lib.hid (fun i h1 h2 => by rw [List.getElem?_set_ne (by omega)]; exact HSI.out i h1 h2)
              clear hy hv hz hD hm0 hd0
              go_wp2_with fail
              go_region
              all_goals (
                (try simp only [List.getElem_toArray, List.getElem_cons_succ, List.getElem_cons_zero, Act.put, List.setIfInBounds_toArray, List.set_cons_zero, List.set_cons_succ])
                go_wp2_with fail
                (try simp only [List.getElem_toArray, List.getElem_cons_succ, List.getElem_cons_zero, Act.put, List.setIfInBounds_toArray, List.set_cons_zero, List.set_cons_succ])
                go_roundw
                case rel => first | exact ⟨k + 1, _, by omega, by omega, by go_num, o2, p2, HV1, HV2, b2⟩ | (rw [← HK1.out]; refine ⟨_, _, _, _, _, _, _, _, _, _, _, _, _, _, _, _, _, _, _, _, _, _, _, ?_, rfl⟩; exact ⟨k + 1, _, by omega, by omega, by go_num, o2, p2, HV1, HV2, b2⟩)
                case measure => simp [intOf] <;> omega)
            · have hI1 : ¬ (k : Int) < (m : Int) := by omega
              have hm0 : s1[m]? = some (wrap64 (S m)) := by rw [HSM.out, show k = m by omega, HSA.out m hm1]
              have HS1 : Hid (∀ i, 1 ≤ i → i < m + 1 → s1[i]? = some (wrap64 (S i))) := Lib.hid fun i h1 h2 => by
                rcases Nat.lt_or_ge i m with h3 | h3
                · exact HSI.out i h1 h3
                · rw [show i = m by omega]; exact hm0
              obtain ⟨v, hv⟩ : ∃ v, v = wrap64 (S m) := ⟨_, rfl⟩
              rw [← hv] at hm0
              have hlP := oP.len
              have c1 := oS.cell hm0
              have c2 := oP.cell (k := m) (x := ps.getD m 0) (by rw [List.getD_eq_getElem?_getD, List.getElem?_eq_getElem (by omega)]; rfl)
              have c3 := oP.frozen m
              have o2 := oP.set_ m v
              have p2 := oS.apart (grown_set (World.grownBy.refl wr (some gP)) m (.int .i64 v)) (fun q hq e => by injection hq with hq; injection e with e; exact hne (hq.trans e.symm))
              have b2 := hb.setCell (p := ⟨gP, m, none⟩) hgP (.int .i64 v)
              have HV1 : Hid ((ps.set m v)[m]? = some (wrap64 (lyPA S P m 0))) := Lib.hid (by rw [List.getElem?_set_self (by omega), hv]; rfl)
              have HV2 : Hid (∀ i, 1 ≤ i → i < m → (ps.set m v)[i]? = some (wrap64 (P i))) := Lib.hid (fun i h1 h2 => by rw [List.getElem?_set_ne (by omega)]; exact HPS.out i h1 h2)
              clear hv hm0 hlP oS oP hb HSM HSI HPS
              go_wp2_with fail
              go_loopw [10] (fun q wz => ∃ (d : Nat) (p1 : List Int), 1 ≤ d ∧ d ≤ m ∧ q = .int .i64 (d : Int) ∧ Own 2 wz w5.heap.size (some ⟨gS, 0, none⟩) K1 K1 s1 ∧ Own 2 wz w5.heap.size (some ⟨gP, 0, none⟩) K1 K1 p1 ∧ Hid (p1[m]? = some (wrap64 (lyPA S P m (d - 1)))) ∧ Hid (∀ i, 1 ≤ i → i < m → p1[i]? = some (wrap64 (P i))) ∧ Below w5.heap.size w5 wz) (fun q _ => m - (intOf q).toNat)
              case atStart => exact ⟨1, _, Nat.le_refl _, hm1, rfl, p2, o2, HV1, HV2, b2⟩
              case round =>
                clear p2 o2 b2 c1 c2 c3 HV1 HV2
                obtain ⟨d, p1, hd1, hdm, rfl, oS, oP, HPM, HPI, hb⟩ := hrel
                by_cases hlt2 : d < m
                · have hI2 : (d : Int) < (m : Int) := by omega
                  have hp0 : ¬ ((d : Int) = 0) := by omega
                  have hrem : (m : Int) % (d : Int) = ((m % d : Nat) : Int) := (Int.natCast_emod m d).symm
                  have hrem2 : Int.tmod (m : Int) (d : Int) = ((m % d : Nat) : Int) := by rw [Int.tmod_eq_emod_of_nonneg (by omega)]; exact hrem
                  have HST : Hid (lyPA S P m (d + 1 - 1) = if m % d = 0 then lyPA S P m (d - 1) - P d else lyPA S P m (d - 1)) := Lib.hid (by
                    obtain ⟨j, rfl⟩ : ∃ j, d = j + 1 := ⟨d - 1, by omega⟩
                    rfl)
                  obtain ⟨r, hr⟩ : ∃ r, r = m % d := ⟨_, rfl⟩
                  rw [← hr] at hrem hrem2 HST
                  clear hr
                  by_cases hr0 : r = 0
                  · have hm0 := HPM.out
                    have hd0 := HPI.out d hd1 hlt2
                    obtain ⟨v, hv⟩ : ∃ v, v = wrap64 (lyPA S P m (d - 1)) := ⟨_, rfl⟩
                    obtain ⟨z, hz⟩ : ∃ z, z = wrap64 (P d) := ⟨_, rfl⟩
                    rw [← hv] at hm0
                    rw [← hz] at hd0
                    have hdK : d < K1 := by omega
                    have c1 := oP.cell hm0
                    have c2 : wr.drew.cell? ⟨gP, m, none⟩ = some (.int .i64 v) := c1
                    have c3 := oP.cell hd0
                    have c4 : wr.drew.cell? ⟨gP, d, none⟩ = some (.int .i64 z) := c3
                    have c6 := oP.frozen m
                    have c7 : wr.drew.frozen? ⟨gP, m, none⟩ = false := c6
                    have hdrw : Below wr.heap.size wr wr.drew := (Below.refl _ _).drew
                    have o2 := (oP.below hdrw).set_ m (wrap64 (v - z))
                    have p2 := (oS.below hdrw).apart (grown_set (World.grownBy.refl wr.drew (some gP)) m (.int .i64 (wrap64 (v - z)))) (fun q hq e => by injection hq with hq; injection e with e; exact hne (hq.trans e.symm))
                    have b2 := (hb.trans (hdrw.mono hb.size)).setCell (p := ⟨gP, m, none⟩) hgP (.int .i64 (wrap64 (v - z)))
                    have HV1 : Hid ((p1.set m (wrap64 (v - z)))[m]? = some (wrap64 (lyPA S P m (d + 1 - 1)))) := Lib.hid (by rw [List.getElem?_set_self (by have := oP.len; omega), HST.out, if_pos hr0, hv, hz, wk_sub1])
                    have HV2 : Hid (∀ i, 1 ≤ i → i < m → (p1.set m (wrap64 (v - z)))[i]? = some (wrap64 (P i))) := Lib.hid (fun i h1 h2 => by rw [List.getElem?_set_ne (by omega)]; exact HPI.out i h1 h2)
                    clear hv hz hm0 hd0
                    subst hr0
                    go_wp2_with fail
                    go_region
                    all_goals (
                      go_wp2_with fail
                      go_roundw
                      case rel => exact ⟨d + 1, _, by omega, by omega, by go_num, p2, o2, HV1, HV2, b2⟩
                      case measure => simp [intOf] <;> omega)
                  · have hr1 : ¬ ((r : Int) = 0) := by omega
                    have HV1 : Hid (p1[m]? = some (wrap64 (lyPA S P m (d + 1 - 1)))) := Lib.hid (by rw [HPM.out, HST.out, if_neg hr0])
                    go_wp2_with fail
                    go_roundw
                    case rel => exact ⟨d + 1, _, by omega, by omega, by go_num, oS, oP, HV1, HPI, hb⟩
                    case measure => simp [intOf] <;> omega
                · have hI2 : ¬ (d : Int) < (m : Int) := by omega
                  have HP1 : Hid (∀ i, 1 ≤ i → i < m + 1 → p1[i]? = some (wrap64 (P i))) := Lib.hid fun i h1 h2 => by
                    rcases Nat.lt_or_ge i m with h3 | h3
                    · exact HPI.out i h1 h3
                    · rw [show i = m by omega, HPM.out, show d = m by omega, HPA.out m hm1]
                  go_wp2_with fail
                  go_roundw
                  case rel => exact ⟨m + 1, by omega, by omega, by omega, s1, by first | exact oS | (rw [← hKK]; exact oS), p1, by first | exact oP | (rw [← hKK]; exact oP), HS1, HP1⟩
                  case measure => simp [intOf] <;> omega
        · have hI : ¬ (m : Int) ≤ (K : Int) := by omega
          have hk0 := HPS.out K hK1 (by omega)
          obtain ⟨v, hv⟩ : ∃ v, v = wrap64 (P K) := ⟨_, rfl⟩
          rw [← hv] at hk0
          have HVV : Hid (V = wrap64 (Int.tdiv v (K : Int))) := Lib.hid (by rw [HVE.out, hv])
          have c1 := oP.cell hk0
          have hKK2 : K < K1 := by omega
          have hkp : (0 : Int) < (K : Int) := by omega
          clear hv hk0
          go_wp2_with fail
          go_ret
          rw [HVV.out]
          exact ⟨rfl, hcur.trans (hb.mono hcur.size)⟩)
end Go.Proofs.YtcojodkcpemfdaaDoor
namespace Go.Proofs.YtcojodkcpemfdaaDoor
open Go Go.RowKit
set_option linter.unusedVariables false
set_option maxRecDepth 100000

theorem ct_zeroY {L : Int} {xs : List Int} {a : Int} (h : (ctAns L xs a).2 = 0) : alphB L xs = true ∧ lenB a = true ∧ ctB (xs.map Int.toNat) a.toNat = true ∧ (ctAns L xs a).1 = traM (xs.map Int.toNat) a.toNat := by
  unfold ctAns at h ⊢
  split at h
  · rename_i e1
    split at h
    · rename_i e2
      split at h
      · rename_i e3
        rw [if_pos e1, if_pos e2, if_pos e3]
        exact ⟨e1, e2, e3, rfl⟩
      · exact absurd h (by decide)
    · exact absurd h (by decide)
  · exact absurd h (by decide)
theorem cin_badY {w w' : World} {L : Int} {xs : List Int} {a : Int} {e : Ending} (h : CinPost w L xs a [] e w') (hc : (ctAns L xs a).2 ≠ 0) : e = .returned (.tuple #[.slice none 0 0, .int .i64 0, .int .i64 (ctAns L xs a).2]) ∧ Below w.heap.size w w' := by
  have hbad : badM L [] = false := rfl
  unfold CinPost at h
  unfold ctAns at hc ⊢
  rw [hbad, Bool.not_false, Bool.and_true] at h
  split at h
  · rename_i e1
    rw [if_pos e1] at hc ⊢
    split at h
    · rename_i e2
      rw [if_pos e2] at hc ⊢
      split at h
      · rename_i e3
        rw [if_pos e3] at hc
        exact absurd rfl hc
      · rename_i e3
        rw [if_neg e3]
        exact h
    · rename_i e2
      rw [if_neg e2]
      exact h
  · rename_i e1
    rw [if_neg e1]
    exact h
theorem cin_goodY {w w' : World} {L : Int} {xs : List Int} {a : Int} {e : Ending} (h : CinPost w L xs a [] e w') (hc : (ctAns L xs a).2 = 0) : ∃ A' c', e = .returned (.tuple #[.slice A' xs.length c', .int .i64 (ctAns L xs a).1, .int .i64 0]) ∧ Own 84 w' w.heap.size A' xs.length c' xs ∧ Below w.heap.size w w' := by
  obtain ⟨h1, h2, h3, h4⟩ := ct_zeroY hc
  have hbad : badM L [] = false := rfl
  unfold CinPost at h
  rw [hbad, Bool.not_false, Bool.and_true, if_pos h1, if_pos h2, if_pos h3] at h
  rw [h4]
  exact h
theorem cpStep_grow (xs : List Int) (s : Nat) : xs.length ≤ (cpStep xs s).length ∧ 1 ≤ (cpStep xs s).length := by
  unfold cpStep
  rw [List.length_set, padM_len]
  omega
theorem cpFold_grow : ∀ (fs : List Nat) (xs : List Int), xs.length ≤ (fs.foldl cpStep xs).length
  | [], xs => Nat.le_refl _
  | f :: fs, xs => Nat.le_trans (cpStep_grow xs f).1 (cpFold_grow fs (cpStep xs f))
theorem cpM_one (fs : List Nat) (h : fs ≠ []) : 1 ≤ (cpM fs).length := by
  cases fs with
  | nil => exact absurd rfl h
  | cons f fs => exact Nat.le_trans (cpStep_grow [] f).2 (cpFold_grow fs (cpStep [] f))
theorem steps_one (rs : List Nat) : stepsM rs ≠ [] := by
  intro h
  have h0 : 0 ∈ stepsM rs := by
    unfold stepsM
    refine List.mem_filter.2 ⟨List.mem_range.2 (p2_pos _), ?_⟩
    unfold stepB
    simp
  rw [h] at h0; cases h0
theorem ctB_zero (rs : List Nat) : ctB rs 0 = true := by
  unfold ctB
  rw [traM_zero]
  exact decide_eq_true (by unfold cntC; decide)
theorem lyAns_ct (L : Int) (xs : List Int) (a : Int) (h : (ctAns L xs a).2 ≠ 0) : lyAns L xs a = (0, (ctAns L xs a).2) := by
  unfold ctAns at h ⊢
  unfold lyAns
  split at h
  · rename_i e1
    rw [if_pos e1, if_pos e1]
    split at h
    · rename_i e2
      rw [if_pos e2, if_pos e2]
      split at h
      · exact absurd rfl h
      · rename_i e3
        by_cases ha : a = 0
        · subst ha
          exact absurd (ctB_zero _) e3
        · rw [if_neg ha, if_neg e3, if_neg e3]
    · rename_i e2
      rw [if_neg e2, if_neg e2]
  · rename_i e1
    rw [if_neg e1, if_neg e1]
set_option maxHeartbeats 1600000 in
theorem implCountLyndon (L : Int) (A : Option Addr) (n c : Nat) (xs : List Int) (a : Int) (w : World) (h : Rd w A n xs) (hwf : Wf xs) (hL1 : -9223372036854775808 ≤ L) (hL2 : L ≤ 9223372036854775807) (hn : n ≤ 9223372036854775807) (ha1 : -9223372036854775808 ≤ a) (ha2 : a ≤ 9223372036854775807) (hT : Tab w) :
    Calls Tryd.prog 41 #[.agg #[.int .i64 L, .slice A n c], .int .i64 a] w (fun e w' => e = .returned (.tuple #[.int .i64 (lyAns L xs a).1, .int .i64 (lyAns L xs a).2]) ∧ Below w.heap.size w w') := by
  have HB := Lib.hid (below1 w (.cells #[.int .i64 L, .slice A n c] 29))
  have hh := h.below HB.out
  have hT1 := hT.below HB.out
  have HC := Lib.hid (countIn_any L A n c xs a none 0 0 [] _ hh hwf hL1 hL2 hn (Rd.nil _ _) (fun x hx => (by cases hx)) (by omega) hT1)
  by_cases hc : (ctAns L xs a).2 = 0
  rotate_left
  · have HG := Lib.hid (fun e w' h9 => cin_badY (w := w.alloc (.cells #[.int .i64 L, .slice A n c] 29)) (w' := w') (e := e) h9 hc)
    rw [lyAns_ct L xs a hc]
    obtain ⟨C, hC⟩ : ∃ C, C = (ctAns L xs a).2 := ⟨_, rfl⟩
    rw [← hC] at HG hc ⊢
    have hc1 : (C != 0) = true := by simp [hc]
    clear hC hc
    go_enter Tryd.func41, Tryd.ntmps41
    go_wp2_with fail
    refine HC.out.mono ?_
    intro e w1 h9
    obtain ⟨rfl, hb⟩ := HG.out _ _ h9
    clear h9
    go_wp2_with fail
    go_ret2
    exact ⟨rfl, HB.out.trans (hb.mono HB.out.size)⟩
  obtain ⟨ha, hle, hct, hv⟩ := ct_zeroY hc
  have ha3 : 0 ≤ a ∧ a ≤ 24 := of_decide_eq_true hle
  obtain ⟨k, rfl⟩ := Int.eq_ofNat_of_zero_le ha3.1
  have hk : k ≤ 24 := by omega
  obtain ⟨rs, rfl, rfl, h8, hr, hrel, hlen, hd, _⟩ := alphB_nats L xs n h.1 ha
  have HG := Lib.hid (fun e w' h9 => cin_goodY (w := w.alloc (.cells #[.int .i64 (n : Int), .slice A n c] 29)) (w' := w') (e := e) h9 hc)
  rw [ints_len, hlen] at HG
  obtain ⟨V, hV⟩ : ∃ V, V = (ctAns (n : Int) (ints rs) (k : Int)).1 := ⟨_, rfl⟩
  rw [← hV] at HG
  by_cases hk0 : k = 0
  · subst hk0
    have e0 : lyAns (n : Int) (ints rs) ((0 : Nat) : Int) = (0, 2) := lyAns_zero (n : Int) (ints rs) ha
    rw [e0]
    clear hV hct hv ha hle hc hr hrel hlen hd
    go_enter Tryd.func41, Tryd.ntmps41
    go_wp2_with fail
    refine HC.out.mono ?_
    intro e w1 h9
    obtain ⟨A', c', rfl, ho, hb⟩ := HG.out _ _ h9
    clear h9
    go_wp2_with fail
    go_ret2
    exact ⟨rfl, HB.out.trans (hb.mono HB.out.size)⟩
  have hk1 : 1 ≤ k := by omega
  rw [ints_toNat] at hct
  rw [lyAns_yes n k rs ha hle hk1 hct]
  have hdep := (depB_iff rs n hlen hr).1 hd
  have hcp := cpM_one (stepsM rs) (steps_one rs)
  have HLY := Lib.hid (fun A' c' (ww : World) (h9 : Rd ww A' n (ints rs)) hT9 => countLyndon_any A' n c' k rs ww h9 h8 hr hdep hT9 hk1 hk hcp)
  have HTT := Lib.hid (fun ww hw => hT1.below (w' := ww) hw)
  obtain ⟨Z, hZ⟩ : ∃ Z, Z = lyV (cpM (stepsM rs)) k := ⟨_, rfl⟩
  rw [← hZ] at HLY ⊢
  have hk2 : ((k : Int) == 0) = false := by simp; omega
  clear hV hZ hct hv ha hle hc hr hrel hlen hd hdep hcp
  go_enter Tryd.func41, Tryd.ntmps41
  go_wp2_with fail
  refine HC.out.mono ?_
  intro e w1 h9
  obtain ⟨A', c', rfl, ho, hb⟩ := HG.out _ _ h9
  clear h9
  have HY := Lib.hid (HLY.out A' c' w1 ho.rd (HTT.out w1 hb))
  go_wp2_with fail
  refine HY.out.mono ?_
  rintro e w2 ⟨rfl, hb2⟩
  go_wp2_with fail
  go_ret2
  exact ⟨rfl, HB.out.trans ((hb.trans (hb2.mono hb.size)).mono HB.out.size)⟩
end Go.Proofs.YtcojodkcpemfdaaDoor
