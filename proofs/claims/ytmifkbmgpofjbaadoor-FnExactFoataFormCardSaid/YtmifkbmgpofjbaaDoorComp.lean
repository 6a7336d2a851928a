/-
  The components of a relation: the model's way and the program's, by contracts.
-/
import Derived.Test.YtmifkbmgpofjbaaDoorCov
namespace Go.Proofs.YtmifkbmgpofjbaaDoor
open Go.RowKit
set_option linter.unusedVariables false
set_option maxRecDepth 100000

def orM (rs qs : List Nat) : List Nat := (List.range rs.length).map fun i => rs.getD i 0 ||| qs.getD i 0
theorem orM_len (rs qs : List Nat) : (orM rs qs).length = rs.length := by simp [orM]
theorem orM_at (rs qs : List Nat) (i : Nat) (h : i < rs.length) : (orM rs qs).getD i 0 = rs.getD i 0 ||| qs.getD i 0 := getD_range_map _ _ _ h
theorem orM_lt (rs qs : List Nat) (n : Nat) (hn : rs.length = n) (hr : ∀ i, rs.getD i 0 < 2 ^ n) (hq : ∀ i, qs.getD i 0 < 2 ^ n) (i : Nat) : (orM rs qs).getD i 0 < 2 ^ n := by
  rcases Nat.lt_or_ge i n with h | h
  · rw [orM_at rs qs i (by omega)]; exact Nat.or_lt_two_pow (hr i) (hq i)
  · rw [getD_past _ n i (by rw [orM_len, hn]) h]; exact p2_pos n
/-- The relation in both directions. -/
def symM (rs : List Nat) : List Nat := orM rs (convM rs)
theorem symM_len (rs : List Nat) : (symM rs).length = rs.length := orM_len _ _
theorem symM_lt (rs : List Nat) (n : Nat) (hn : rs.length = n) (hr : ∀ i, rs.getD i 0 < 2 ^ n) (i : Nat) : (symM rs).getD i 0 < 2 ^ n := orM_lt rs _ n hn hr (convM_lt rs n hn) i
theorem symM_R (rs : List Nat) (n : Nat) (hn : rs.length = n) (hr : ∀ i, rs.getD i 0 < 2 ^ n) (i k : Nat) (hi : i < n) (hk : k < n) : R (symM rs) i k ↔ R rs i k ∨ R rs k i := by
  unfold R
  rw [symM, orM_at rs _ i (by omega), convM_at rs i (by omega), Nat.testBit_or, Bool.or_eq_true, colM_bit, hn]
  constructor
  · rintro (h | ⟨_, h⟩)
    · exact .inl h
    · exact .inr h
  · rintro (h | h)
    · exact .inl h
    · exact .inr ⟨hk, h⟩
theorem sym_RT (us : List Nat) (n : Nat) (hu : ∀ i, us.getD i 0 < 2 ^ n) (hs : ∀ i k, i < n → k < n → R us i k → R us k i) (i k : Nat) (hi : i < n) (h : RT us i k) : RT us k i := by
  induction h with
  | refl => exact .refl _
  | step h1 h2 ih =>
    have hj := RT.lt hu hi h1
    exact ((RT.refl _).step (hs _ _ hj (bit_lt (hu _) h2) h2)).trans ih
/-- The components that begin below t. -/
def compL (us : List Nat) (n : Nat) : Nat → List Nat
  | 0 => []
  | t + 1 => if low (reachM us t n) = t then compL us n t ++ [reachM us t n] else compL us n t
theorem compL_len (us : List Nat) (n t : Nat) : (compL us n t).length ≤ t := by
  induction t with
  | zero => exact Nat.le_refl _
  | succ t ih =>
    unfold compL
    split
    · rw [List.length_append]; simp; exact ih
    · omega
theorem reach_self (us : List Nat) (n t : Nat) (hn : us.length = n) (hu : ∀ i, us.getD i 0 < 2 ^ n) (ht : t < n) : (reachM us t n).testBit t = true := (reachM_bit us n t hn hu ht t).2 (.refl _)
theorem nonzero_of_bit {m b : Nat} (h : m.testBit b = true) : m ≠ 0 := by rintro rfl; simp at h
/-- A component begins with t exactly if no lesser one leads to t. -/
theorem comp_new (us : List Nat) (n t : Nat) (hn : us.length = n) (h24 : n ≤ 24) (hu : ∀ i, us.getD i 0 < 2 ^ n) (hs : ∀ i k, i < n → k < n → R us i k → R us k i) (ht : t < n) :
    low (reachM us t n) = t ↔ ¬ ∃ a, a < t ∧ RT us a t := by
  have hself := reach_self us n t hn hu ht
  have hlt := reachM_lt us n t n hu ht
  obtain ⟨h1, h2, _⟩ := low_bit (reachM us t n) (nonzero_of_bit hself) (lt63 h24 hlt)
  constructor
  · rintro e ⟨a, ha, hat⟩
    have := sym_RT us n hu hs a t (by omega) hat
    have hb := (reachM_bit us n t hn hu ht a).2 this
    rw [h2 a (by omega)] at hb; cases hb
  · intro hno
    apply Classical.byContradiction
    intro hne
    have hle : low (reachM us t n) ≤ t := by
      apply Classical.byContradiction
      intro hgt
      rw [h2 t (by omega)] at hself; cases hself
    have hb := (reachM_bit us n t hn hu ht _).1 h1
    exact hno ⟨low (reachM us t n), by omega, sym_RT us n hu hs t _ ht hb⟩
def compM (rs : List Nat) : List Nat := compL (symM rs) rs.length rs.length
theorem compM_len (rs : List Nat) : (compM rs).length ≤ rs.length := compL_len _ _ _


theorem rd_news2 {w wx : World} {ad : Addr} {n : Nat} {xs : List Int} (h : Rd w (some ad) n xs) (hwx : ∀ p : Addr, p.block < w.heap.size → wx.cell? p = w.cell? p) (hsz : w.heap.size ≤ wx.heap.size) :
    ∀ j u, (xs.map (Value.int .i64))[j]? = some u → wx.cell? (ad.add j) = some u := by
  intro j u hu
  have hj : 0 < n := by
    rcases Nat.eq_zero_or_pos n with h0 | h0
    · have : xs = [] := List.eq_nil_of_length_eq_zero (by have := h.1; omega)
      subst this; simp at hu
    · exact h0
  obtain ⟨b, off, e, _⟩ := h.2 hj
  injection e with e
  subst e
  exact rd_news (h.keep hsz hwx) hj j u hu
set_option maxHeartbeats 800000 in
theorem own_any (A : Option Addr) (n c : Nat) (xs : List Int) (w : World) (h : Rd w A n xs) (hn : n ≤ 1048576) :
    Calls Tryd.prog 84 #[.slice A n c] w (MakesE 2 w n xs) := by
  obtain ⟨i0, hi, hz0, hz1, hz2⟩ := info_parts info_int
  cases A with
  | none =>
    have hn0 : n = 0 := by
      rcases Nat.eq_zero_or_pos n with h0 | h0
      · exact h0
      · obtain ⟨b, off, e, _⟩ := h.2 h0; cases e
    have hx : xs = [] := List.eq_nil_of_length_eq_zero (by have := h.1; omega)
    subst hn0 hx
    go_enter Tryd.func84, Tryd.ntmps84
    go_wp2
    go_ret
    exact ⟨_, 0, rfl, World.ownsRow_lit w #[] 0 (Nat.le_refl _) (by unfold maxLen; omega) rfl, (Below.refl _ _).alloc (Nat.le_refl _) _⟩
  | some ad =>
    have hml : 0 + n ≤ maxLen := by unfold maxLen; omega
    have hby2 : (0 + n) * 8 ≤ 140737488355328 := by omega
    have hlen : (xs.map (Value.int .i64)).length = n * 1 := by rw [List.length_map, h.1, Nat.mul_one]
    have hone := ints_oneCell .i64 xs
    have hnews := fun wx => rd_news2 (wx := wx) h
    clear h
    go_enter Tryd.func84, Tryd.ntmps84
    go_wp2_with (first | (at_builtin; refine wpList_append_own _ rfl _ _ 22 rfl w.heap.size 2 i0 (.int .i64 0) 1 8 Tryd.underlying22 hi hz0 hz1 hz2 rfl (by decide) (.slice (some ⟨w.heap.size, 0, none⟩) 0 0) 0 [] rfl ?s0 ad n c (xs.map (Value.int .i64)) rfl hlen ?s1 hone hml hby2 ?s5 ?_))
    case s0 => exact World.ownsRow_lit _ #[] 0 (Nat.le_refl _) (by unfold maxLen; omega) rfl
    case s1 => exact hnews _ (fun p hp => World.cell?_alloc_lt w _ p hp) (by simp)
    case s5 => simp
    intro v1 w1 hown hg _
    have hb : Below w.heap.size w w1 := ((Below.refl _ _).alloc (Nat.le_refl _) _).grown hg (by simp) (by simp [Value.ownBlock])
    obtain ⟨A1, c1, hv, ho⟩ := own_shape hown
    rw [hv]
    clear hg hown hv
    go_wp2
    go_ret
    exact ⟨A1, c1, rfl, ho, hb⟩


def compAns (xs : List Int) : List Int × Int := ansR compM xs
theorem compAns_small (xs : List Int) : (compAns xs).1.length ≤ 24 := ansR_small compM 24 (fun rs h => Nat.le_trans (compM_len rs) h) xs
end Go.Proofs.YtmifkbmgpofjbaaDoor
