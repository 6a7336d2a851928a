/-
  The trace of a word that comes in, and its normal form: contracts.
-/
import Derived.Test.YtkifadmoedackaaDoorTrOf
import Derived.Test.YtkifadmoedackaaDoorWord3
namespace Go.Proofs.YtkifadmoedackaaDoor
open Go Go.RowKit
set_option linter.unusedVariables false
set_option maxRecDepth 100000

theorem rdep_sym (rs : List Nat) (n : Nat) (hl : rs.length = n) (hr : ∀ i, rs.getD i 0 < 2 ^ n) (hd : Dep rs) (a b : Nat) : RDep rs a b = RDep rs b a := by
  have key : ∀ a b, RDep rs a b = true → RDep rs b a = true := fun a b h => by
    have ha : a < n := by
      rcases Nat.lt_or_ge a n with h1 | h1
      · exact h1
      · unfold RDep at h; rw [getD_past _ n a hl h1, Nat.zero_testBit] at h; cases h
    have hb : b < n := bit_lt (hr a) h
    exact (hd.2 a b (by omega) (by omega)).1 h
  cases h1 : RDep rs a b
  · cases h2 : RDep rs b a
    · rfl
    · rw [key b a h2] at h1; cases h1
  · exact (key a b h1).symm
/-- The normal form of a word, by the rows of a dependence. -/
def nfR (rs us : List Nat) : List Nat := nfM (RDep rs) rs.length us
theorem nfGo_len (D : Nat → Nat → Bool) (n : Nat) : ∀ (k : Nat) (us : List Nat), (nfGo D n k us).length ≤ k
  | 0, _ => Nat.le_refl _
  | k + 1, us => by
    show (match leastFree D n us with | none => [] | some a => a :: nfGo D n k (us.erase a)).length ≤ k + 1
    cases leastFree D n us with
    | none => simp
    | some a => have := nfGo_len D n k (us.erase a); simp; omega
theorem nfR_len (rs us : List Nat) : (nfR rs us).length ≤ us.length := nfGo_len _ _ _ _
/-- Behind traceOf: the normal form. -/
theorem nf_from (A1 B1 : Option Addr) (c1 d1 m n : Nat) (rs us es : List Nat) (w : World) (hl : rs.length = n) (hr : ∀ i, rs.getD i 0 < 2 ^ n) (hd : Dep rs) (hu : us.length = m) (hus : ∀ p, p < m → us.getD p 0 < n) (hm : m ≤ 24)
    (hp : es.Perm (List.range m)) (hs : Srt (fun p => us.getD p 0) es 0 m) (h1 : Rd w A1 m (ints (letM us es m m))) (h2 : Rd w B1 m (ints (befM rs us es m m 0))) (hT : Tab w) :
    Calls Tryd.prog 63 #[.agg #[.slice A1 m c1, .slice B1 m d1]] w (MakesE 2 w m (ints (nfR rs us))) := by
  have hE := evs_of rs us es m hu hp hs
  have hsym := rdep_sym rs n hl hr hd
  have href : ∀ a, a < n → RDep rs a a = true := fun a ha => hd.1 a (by omega)
  refine normalForm_any m c1 d1 A1 B1 (letM us es m m) (befM rs us es m m 0) (nfR rs us) w h1 h2 hm (fun i => ?_) hT (goes_full hE hm hsym href hus) ?_
  · rcases Nat.lt_or_ge 0 m with h0 | h0
    · exact befM_lt rs us es m m 0 (by omega) i
    · rw [getD_past _ m i (befM_len _ _ _ _ _ _) (by omega)]; exact p2_pos m
  · unfold nfR
    rw [hl]
    exact (nfB_full hE hm hsym href hus).symm
end Go.Proofs.YtkifadmoedackaaDoor
