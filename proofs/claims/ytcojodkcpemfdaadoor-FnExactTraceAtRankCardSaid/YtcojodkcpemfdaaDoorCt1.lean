/-
  The clique polynomial: how it is added up, set after set. Plain mathematics: normal forms counted by their first letters, and by the sets of independent letters. The sets of independent letters, their sizes and signs: by contracts. CliquePolynomial: both sides. The inverse of a list: plain mathematics; the program's way and the model's, by contracts. The inverse of a list: the program's way. The numbers of traces are the inverse of the clique polynomial. The inverse of the clique polynomial counts the normal forms. The number of all traces of a length: the program's way.
-/
import Derived.Test.YtcojodkcpemfdaaDoorPop
import Derived.Test.YtcojodkcpemfdaaDoorAlStepM
import Derived.Test.YtcojodkcpemfdaaDoorSteps
import Derived.Maps.AppendAt
import Derived.Test.YtcojodkcpemfdaaDoorB1
import Derived.Test.YtcojodkcpemfdaaDoorTrOfM
namespace Go.Proofs.YtcojodkcpemfdaaDoor
open Go Go.RowKit
set_option linter.unusedVariables false
set_option maxRecDepth 100000

def sgnM (k : Nat) : Int := 1 - 2 * ((k % 2 : Nat) : Int)
def padM (xs : List Int) (k : Nat) : List Int := xs ++ List.replicate (k + 1 - xs.length) 0
theorem padM_len (xs : List Int) (k : Nat) : (padM xs k).length = max xs.length (k + 1) := by
  unfold padM; rw [List.length_append, List.length_replicate]; omega
theorem padM_done (xs : List Int) (k : Nat) (h : k < xs.length) : padM xs k = xs := by
  unfold padM; rw [show k + 1 - xs.length = 0 by omega]; simp
theorem padM_next (xs : List Int) (k : Nat) (h : xs.length ≤ k) : padM (xs ++ [0]) k = padM xs k := by
  unfold padM
  rw [List.length_append, List.length_singleton, List.append_assoc, List.singleton_append, ← List.replicate_succ]
  congr 2; omega
def cpStep (xs : List Int) (s : Nat) : List Int := (padM xs (ones24 s)).set (ones24 s) ((padM xs (ones24 s)).getD (ones24 s) 0 + sgnM (ones24 s))
/-- The coefficients that a list of sets gives. -/
def cpM (fs : List Nat) : List Int := fs.foldl cpStep []
theorem cpM_next (fs : List Nat) (t s : Nat) (h : fs[t]? = some s) : cpM (fs.take (t + 1)) = cpStep (cpM (fs.take t)) s := by
  unfold cpM; rw [List.take_add_one, h, List.foldl_append]; rfl
theorem ones24_8 (s : Nat) (h : s < 256) : ones24 s ≤ 8 := by
  unfold ones24
  rw [show s / 256 % 256 = 0 by omega, show s / 65536 = 0 by omega]
  have h1 := (byte_facts (s % 256) (by omega)).2.2.2.2.2
  have h2 : ones8 0 = 0 := by decide
  omega
theorem getD_pad (xs : List Int) (k i : Nat) : (padM xs k).getD i 0 = xs.getD i 0 := by
  unfold padM
  simp only [List.getD_eq_getElem?_getD]
  by_cases h : i < xs.length
  · rw [List.getElem?_append_left h]
  · rw [List.getElem?_append_right (by omega), List.getElem?_eq_none (l := xs) (by omega)]
    by_cases h2 : i - xs.length < k + 1 - xs.length
    · rw [List.getElem?_replicate_of_lt h2]; rfl
    · rw [List.getElem?_eq_none (by rw [List.length_replicate]; omega)]
theorem getD_put (xs : List Int) (k i : Nat) (v : Int) (h : k < xs.length) : (xs.set k v).getD i 0 = if i = k then v else xs.getD i 0 := by
  simp only [List.getD_eq_getElem?_getD, List.getElem?_set]
  by_cases e : i = k
  · subst e; rw [if_pos rfl, if_pos rfl, if_pos h]; rfl
  · rw [if_neg (fun h9 => e h9.symm), if_neg e]
theorem sgnM_small (k : Nat) : -1 ≤ sgnM k ∧ sgnM k ≤ 1 := by unfold sgnM; omega
theorem cp_facts (fs : List Nat) (hf : ∀ s, s ∈ fs → s < 256) : ∀ t, t ≤ fs.length → (cpM (fs.take t)).length ≤ 9 ∧ ∀ i, -(t : Int) ≤ (cpM (fs.take t)).getD i 0 ∧ (cpM (fs.take t)).getD i 0 ≤ t := by
  intro t
  induction t with
  | zero => intro _; exact ⟨by simp [cpM], fun i => by simp [cpM]⟩
  | succ t ih =>
    intro ht
    obtain ⟨h1, h2⟩ := ih (by omega)
    have hx : fs[t]? = some fs[t] := List.getElem?_eq_getElem (by omega)
    have h8 := ones24_8 _ (hf _ (List.getElem_mem (show t < fs.length by omega)))
    rw [cpM_next fs t _ hx]
    obtain ⟨k, hk⟩ : ∃ k, k = ones24 fs[t] := ⟨_, rfl⟩
    unfold cpStep
    rw [← hk] at h8 ⊢
    refine ⟨by rw [List.length_set, padM_len]; omega, fun i => ?_⟩
    rw [getD_put _ _ _ _ (by rw [padM_len]; omega)]
    have h3 := h2 i
    have h4 := h2 k
    have h5 := sgnM_small k
    split
    · rw [getD_pad]; omega
    · rw [getD_pad]; omega
theorem cpM_len (rs : List Nat) (h : rs.length ≤ 8) : (cpM (stepsM rs)).length ≤ 9 := by
  have := (cp_facts (stepsM rs) (fun s hs => by
    unfold stepsM at hs
    have h1 := List.mem_range.1 (List.mem_filter.1 hs).1
    have h2 : 2 ^ rs.length ≤ 256 := Nat.pow_le_pow_right (by decide) h
    omega) _ (Nat.le_refl _)).1
  rw [List.take_length] at this; exact this
/-- The number of ones by halving. -/
def cntO : Nat → Nat → Nat
  | 0, _ => 0
  | f + 1, s => s % 2 + cntO f (s / 2)
theorem cntO_8 : ∀ s, s < 256 → cntO 8 s = ones8 s := by decide
theorem cntO_zero : ∀ f, cntO f 0 = 0
  | 0 => rfl
  | f + 1 => by rw [cntO, cntO_zero f]
theorem ones24_cnt (s : Nat) (h : s < 256) : ones24 s = cntO 8 s := by
  rw [cntO_8 s h]
  unfold ones24
  rw [show s / 256 % 256 = 0 by omega, show s / 65536 = 0 by omega, show s % 256 = s by omega]
  have h2 : ones8 0 = 0 := by decide
  omega
end Go.Proofs.YtcojodkcpemfdaaDoor
namespace Go.Proofs.YtcojodkcpemfdaaDoor
open Go Go.RowKit
set_option linter.unusedVariables false
set_option maxRecDepth 100000

section
variable (D : Nat → Nat → Bool)
/-- c less, for each letter of a list, h of the letters behind it that do not depend on it. -/
def gStep (c : Int) (h : List Nat → Int) : List Nat → Int
  | [] => c
  | b :: B => gStep c h B - h (B.filter fun x => !D b x)
def gAll (M : Nat → Int) : Nat → List Nat → Int
  | 0 => fun _ => M 0
  | m + 1 => fun B => gStep D (M (m + 1)) (gAll M m) B
/-- What gStep takes away. -/
def gSum (h : List Nat → Int) : List Nat → Int
  | [] => 0
  | b :: B => gSum h B + h (B.filter fun x => !D b x)
theorem gStep_sum (c : Int) (h : List Nat → Int) : ∀ B, gStep D c h B = c - gSum D h B
  | [] => by simp [gStep, gSum]
  | b :: B => by rw [gStep, gSum, gStep_sum c h B]; omega
theorem filter_swap (p q : Nat → Bool) (l : List Nat) : (l.filter p).filter q = (l.filter q).filter p := by
  rw [List.filter_filter, List.filter_filter]
  exact List.filter_congr fun x _ => Bool.and_comm _ _
theorem gAll_perm (M : Nat → Int) (hsym : ∀ a b, D a b = D b a) : ∀ m B B', B.Perm B' → gAll D M m B = gAll D M m B' := by
  intro m
  induction m with
  | zero => intro B B' _; rfl
  | succ m ih =>
    intro B B' h
    show gStep D (M (m + 1)) (gAll D M m) B = gStep D (M (m + 1)) (gAll D M m) B'
    induction h with
    | nil => rfl
    | @cons x l1 l2 h1 e => rw [gStep, gStep, e, ih _ _ (h1.filter _)]
    | @swap a b l =>
      simp only [gStep]
      have key : ∀ a b, gAll D M m ((b :: l).filter fun x => !D a x) = if D a b = true then gAll D M m (l.filter fun x => !D a x) else (match m with | 0 => M 0 | k + 1 => gAll D M (k + 1) (l.filter fun x => !D a x) - gAll D M k ((l.filter fun x => !D a x).filter fun x => !D b x)) := by
        intro a b
        by_cases hd : D a b = true
        · rw [if_pos hd, List.filter_cons, hd]; rfl
        · rw [if_neg hd]
          have : D a b = false := by simpa using hd
          rw [List.filter_cons, this]
          cases m with
          | zero => rfl
          | succ k => rfl
      rw [key a b, key b a, hsym b a]
      by_cases hd : D a b = true
      · rw [if_pos hd, if_pos hd]; omega
      · rw [if_neg hd, if_neg hd]
        cases m with
        | zero => simp [gAll]
        | succ k =>
          simp only
          rw [filter_swap (fun x => !D a x) (fun x => !D b x)]; omega
    | trans _ _ e1 e2 => exact e1.trans e2
theorem gSum_perm (M : Nat → Int) (hsym : ∀ a b, D a b = D b a) (m : Nat) (B B' : List Nat) (h : B.Perm B') : gSum D (gAll D M m) B = gSum D (gAll D M m) B' := by
  have := gAll_perm D M hsym (m + 1) B B' h
  have e : ∀ X, gAll D M (m + 1) X = M (m + 1) - gSum D (gAll D M m) X := fun X => gStep_sum D _ _ X
  rw [e, e] at this; omega
/-- Letters in descending order ahead of other ones: each has the smaller ones and the other ones behind it. -/
theorem gSum_rev (h : List Nat → Int) (N : List Nat) (p : Nat → Bool) : ∀ k, gSum D h (((List.range k).filter p).reverse ++ N) = ((List.range k).filter p).foldl (fun s a => s + h ((((List.range a).filter p).reverse ++ N).filter fun x => !D a x)) (gSum D h N)
  | 0 => rfl
  | k + 1 => by
    rw [List.range_succ, List.filter_append]
    by_cases hp : p k = true
    · have e : [k].filter p = [k] := by simp [hp]
      rw [e, List.reverse_append, List.reverse_singleton, List.singleton_append, List.cons_append, gSum, gSum_rev h N p k, List.foldl_append]
      rfl
    · have e : [k].filter p = [] := by simp [hp]
      rw [e, List.append_nil, gSum_rev h N p k]
/-- How many normal forms of m letters there are whose first letter is one of those of p. -/
def tp (n : Nat) : Nat → (Nat → Bool) → Int
  | 0, _ => 1
  | m + 1, p => ((List.range n).filter p).foldl (fun s a => s + tp n m (fun x => (p x && decide (a ≤ x)) || D a x)) 0
def tM (n m : Nat) : Int := tp D n m fun _ => true
theorem foldl_shift (f : Nat → Int) : ∀ (l : List Nat) (c : Int), l.foldl (fun s a => s + f a) c = c + l.foldl (fun s a => s + f a) 0
  | [], c => by simp
  | a :: l, c => by rw [List.foldl_cons, List.foldl_cons, foldl_shift f l (c + f a), foldl_shift f l (0 + f a)]; omega
theorem foldl_congr' (f g : Nat → Int) : ∀ (l : List Nat) (c : Int), (∀ a, a ∈ l → f a = g a) → l.foldl (fun s a => s + f a) c = l.foldl (fun s a => s + g a) c
  | [], c, _ => rfl
  | a :: l, c, h => by rw [List.foldl_cons, List.foldl_cons, h a List.mem_cons_self, foldl_congr' f g l _ fun b hb => h b (List.mem_cons_of_mem _ hb)]
theorem split_perm (p : Nat → Bool) (n a : Nat) (ha : a ≤ n) : ((List.range n).filter fun x => !(p x && decide (a ≤ x))).Perm (((List.range a).filter p).reverse ++ (List.range n).filter fun x => !p x) := by
  refine List.Perm.trans ?_ ((List.reverse_perm _).symm.append_right _)
  induction n with
  | zero => obtain rfl : a = 0 := by omega
            exact List.Perm.refl _
  | succ n ih =>
    rw [List.range_succ, List.filter_append, List.filter_append]
    by_cases h : a ≤ n
    · rw [← List.append_assoc]
      refine (ih h).append ?_
      have e : [n].filter (fun x => !(p x && decide (a ≤ x))) = [n].filter fun x => !p x := by
        refine List.filter_congr fun x hx => ?_
        rw [List.mem_singleton.1 hx, decide_eq_true h, Bool.and_true]
      rw [e]
    · obtain rfl : a = n + 1 := by omega
      have e1 : (List.range n).filter (fun x => !(p x && decide (n + 1 ≤ x))) = List.range n := by
        rw [List.filter_eq_self]; intro x hx
        have := List.mem_range.1 hx
        rw [decide_eq_false (by omega), Bool.and_false]; rfl
      have e2 : [n].filter (fun x => !(p x && decide (n + 1 ≤ x))) = [n] := by simp
      rw [e1, e2, ← List.range_succ, ← List.filter_append, ← List.range_succ]
      exact (List.filter_append_perm p (List.range (n + 1))).symm
/-- What begins with letters of p is what the sets of letters beside p leave of all. -/
theorem tp_gAll (hsym : ∀ a b, D a b = D b a) (n : Nat) : ∀ m p, tp D n m p = gAll D (tM D n) m ((List.range n).filter fun x => !p x) := by
  intro m
  induction m with
  | zero => intro p; rfl
  | succ m ih =>
    have key : ∀ p, tp D n (m + 1) p = gSum D (gAll D (tM D n) m) (((List.range n).filter p).reverse ++ (List.range n).filter fun x => !p x) - gSum D (gAll D (tM D n) m) ((List.range n).filter fun x => !p x) := by
      intro p
      rw [gSum_rev, foldl_shift]
      have : tp D n (m + 1) p = ((List.range n).filter p).foldl (fun s a => s + gAll D (tM D n) m ((((List.range a).filter p).reverse ++ (List.range n).filter fun x => !p x).filter fun x => !D a x)) 0 := by
        show ((List.range n).filter p).foldl _ 0 = _
        refine foldl_congr' _ _ _ _ fun a ha => ?_
        have hn := List.mem_range.1 (List.mem_filter.1 ha).1
        rw [ih]
        refine gAll_perm D _ hsym m _ _ ?_
        have e : (List.range n).filter (fun x => !((p x && decide (a ≤ x)) || D a x)) = ((List.range n).filter fun x => !(p x && decide (a ≤ x))).filter fun x => !D a x := by
          rw [List.filter_filter]
          refine List.filter_congr fun x _ => ?_
          rw [Bool.not_or, Bool.and_comm]
        rw [e]
        exact (split_perm p n a (by omega)).filter _
      rw [this]; omega
    have htot : ∀ p, gSum D (gAll D (tM D n) m) (((List.range n).filter p).reverse ++ (List.range n).filter fun x => !p x) = gSum D (gAll D (tM D n) m) (List.range n) := fun p =>
      gSum_perm D _ hsym m _ _ (((List.reverse_perm _).append_right _).trans (List.filter_append_perm p (List.range n)))
    intro p
    have hall : tM D n (m + 1) = gSum D (gAll D (tM D n) m) (List.range n) := by
      have h1 := key fun _ => true
      rw [htot] at h1
      have e : (List.range n).filter (fun x => !(true : Bool)) = [] := by simp
      rw [e] at h1
      show tp D n (m + 1) (fun _ => true) = _
      rw [h1]; simp [gSum]
    rw [key p, htot p, ← hall]
    exact (gStep_sum D _ _ _).symm
/-- No letter can come first: nothing of length m + 1. -/
theorem gAll_full (hsym : ∀ a b, D a b = D b a) (n m : Nat) : gAll D (tM D n) (m + 1) (List.range n) = 0 := by
  have h := tp_gAll D hsym n (m + 1) fun _ => false
  have e : (List.range n).filter (fun x => !(false : Bool)) = List.range n := by simp
  rw [e] at h
  rw [← h]
  have e2 : (List.range n).filter (fun _ => false) = [] := List.filter_eq_nil_iff.2 fun _ _ => by simp
  show ((List.range n).filter fun _ => false).foldl _ 0 = 0
  rw [e2]; rfl
theorem tp_nonneg (n : Nat) : ∀ m p, 0 ≤ tp D n m p
  | 0, _ => by simp [tp]
  | m + 1, p => by
    show 0 ≤ ((List.range n).filter p).foldl _ 0
    have : ∀ (l : List Nat) (c : Int), 0 ≤ c → 0 ≤ l.foldl (fun s a => s + tp D n m (fun x => (p x && decide (a ≤ x)) || D a x)) c := by
      intro l
      induction l with
      | nil => intro c h; exact h
      | cons a l ih => intro c h; rw [List.foldl_cons]; exact ih _ (by have := tp_nonneg n m (fun x => (p x && decide (a ≤ x)) || D a x); omega)
    exact this _ 0 (Int.le_refl _)
theorem tM_mono (n m : Nat) (hn : 0 < n) : tM D n m ≤ tM D n (m + 1) := by
  show tM D n m ≤ ((List.range n).filter fun _ => true).foldl (fun s a => s + tp D n m (fun x => (true && decide (a ≤ x)) || D a x)) 0
  obtain ⟨k, rfl⟩ : ∃ k, n = k + 1 := ⟨n - 1, by omega⟩
  have e : (List.range (k + 1)).filter (fun _ => true) = 0 :: (List.range k).map Nat.succ := by rw [List.filter_eq_self.2 (fun _ _ => rfl), List.range_succ_eq_map]
  rw [e, List.foldl_cons, foldl_shift]
  have h0 : (fun x => (true && decide (0 ≤ x)) || D 0 x) = fun _ => true := by funext x; simp
  rw [h0]
  have h1 : 0 ≤ ((List.range k).map Nat.succ).foldl (fun s a => s + tp D (k + 1) m (fun x => (true && decide (a ≤ x)) || D a x)) 0 := by
    have : ∀ (l : List Nat) (c : Int), 0 ≤ c → 0 ≤ l.foldl (fun s a => s + tp D (k + 1) m (fun x => (true && decide (a ≤ x)) || D a x)) c := by
      intro l
      induction l with
      | nil => intro c h; exact h
      | cons a l ih => intro c h; rw [List.foldl_cons]; exact ih _ (by have := tp_nonneg D (k + 1) m (fun x => (true && decide (a ≤ x)) || D a x); omega)
    exact this _ 0 (Int.le_refl _)
  have : tM D (k + 1) m = tp D (k + 1) m (fun _ => true) := rfl
  rw [this]; omega
end

end Go.Proofs.YtcojodkcpemfdaaDoor
namespace Go.Proofs.YtcojodkcpemfdaaDoor
open Go Go.RowKit
set_option linter.unusedVariables false
set_option maxRecDepth 100000

theorem size_is (x : Nat) (hx : x < 16777216) (w : World) :
    Calls Tryd.prog 196 #[.int .i64 (x : Int)] w fun e w' => e = .returned (.int .i64 ((ones24 x : Nat) : Int)) ∧ w = w' := by
  have hx2 : x < 18446744073709551616 := by omega
  have HO := Lib.hid (onesCount_is x hx w)
  obtain ⟨k, hk⟩ : ∃ k, k = ones24 x := ⟨_, rfl⟩
  rw [← hk] at HO ⊢
  clear hk
  go_enter Tryd.func196, Tryd.ntmps196
  go_wp2_with (go_at_call 216; refine HO.out.mono ?_; rintro e w' ⟨rfl, rfl⟩)
  go_ret
  exact ⟨rfl, rfl⟩
theorem and_one (k : Nat) (h : k < 9223372036854775808) : bits .and .i64 (k : Int) 1 = ((k % 2 : Nat) : Int) := by
  rw [show (1 : Int) = ((1 : Nat) : Int) from rfl, i64_and_nat k 1 h (by decide)]
  congr 1; exact Nat.and_one_is_mod k
theorem sign_is (x : Nat) (hx : x < 256) (w : World) :
    Calls Tryd.prog 197 #[.int .i64 (x : Int)] w fun e w' => e = .returned (.int .i64 (sgnM (ones24 x))) ∧ w = w' := by
  have HO := Lib.hid (size_is x (by omega) w)
  have h8 := ones24_8 x hx
  obtain ⟨k, hk⟩ : ∃ k, k = ones24 x := ⟨_, rfl⟩
  rw [← hk] at HO h8 ⊢
  have HA := Lib.hid (and_one k (by omega))
  clear hk
  go_enter Tryd.func197, Tryd.ntmps197
  go_wp2_with (go_at_call 196; refine HO.out.mono ?_; rintro e w' ⟨rfl, rfl⟩)
  go_ret
  refine ⟨ret_i _ _ ?_, rfl⟩
  rw [HA.out]
  unfold sgnM wrap64
  omega
set_option maxHeartbeats 800000 in
theorem indep_any (A : Option Addr) (n c : Nat) (rs : List Nat) (w : World) (h : Rd w A n (ints rs)) (h8 : n ≤ 8) (hr : ∀ i, rs.getD i 0 < 2 ^ n) (hd : Dep rs) (hT : Tab w) :
    Calls Tryd.prog 195 #[.slice A n c] w (MakesE 84 w (stepsM rs).length (ints (stepsM rs))) := by
  have hl : rs.length = n := by have := h.1; rw [ints_len] at this; exact this
  have h24 : n ≤ 24 := by omega
  have hclt := cplM_lt rs n hl h24 hr
  have hlen := stepsM_len rs (by omega)
  have HE := Lib.hid (steps_eq rs n hl h8 hr hd)
  clear hl
  have hsm : (stepsM rs).length ≤ 4096 := by omega
  clear hlen
  go_enter Tryd.func195, Tryd.ntmps195
  go_wp2_with fail
  refine (complement_any _ _ _ rs _ h h24 hr).mono ?_
  rintro e w2 ⟨A2, c2, rfl, ho2, hb2⟩
  have hT3 := hT.below hb2
  go_wp2_with fail
  refine (cliques_any _ _ _ (cplM rs) _ ho2.rd h24 hclt hT3).mono ?_
  rw [HE.out]
  rintro e w3 (⟨_, A3, c3, rfl, ho3, hb3⟩ | ⟨h9, _⟩)
  · obtain ⟨M, hM⟩ : ∃ M, M = (stepsM rs).length := ⟨_, rfl⟩
    rw [← hM] at ho3 ⊢
    have HM := Lib.hid hM
    clear hM hsm
    go_wp2_with fail
    go_ret
    show MakesE _ _ (stepsM rs).length _ _ _
    rw [← HM.out]
    exact ⟨A3, c3, rfl, ho3.mono hb2.size, hb2.trans (hb3.mono hb2.size)⟩
  · omega
theorem bits8_any (s : Nat) (hs : s < 256) (w : World) :
    Calls Tryd.prog 150 #[.int .i64 (s : Int)] w fun e w' => e = .returned (.int .i64 ((ones24 s : Nat) : Int)) ∧ w = w' := by
  have HC := Lib.hid (ones24_cnt s hs)
  go_enter Tryd.func150, Tryd.ntmps150
  go_wp2
  go_loop [0, 3] (fun q i => ∃ (t x k : Nat), x * 2 ^ t ≤ s ∧ t ≤ 8 ∧ x < 2 ^ (8 - t) ∧ q = .int .i64 (x : Int) ∧ i = .int .i64 (k : Int) ∧ k ≤ t ∧ Hid (k + cntO (8 - t) x = cntO 8 s)) (fun q i => (intOf q).toNat)
  case atStart => exact ⟨0, s, 0, by omega, by omega, by simpa using hs, rfl, rfl, by omega, Lib.hid (by simp)⟩
  case round =>
    obtain ⟨t, x, k, hx, ht, hx8, rfl, rfl, hk, HS⟩ := hrel
    by_cases h0 : 0 < x
    · have hx256 : x < 256 := by
        have : 2 ^ (8 - t) ≤ 2 ^ 8 := Nat.pow_le_pow_right (by decide) (by omega)
        omega
      have ht8 : t < 8 := by
        rcases Nat.lt_or_ge t 8 with h | h
        · exact h
        · rw [show 8 - t = 0 by omega] at hx8; omega
      have HN : Hid (k + x % 2 + cntO (8 - (t + 1)) (x / 2) = cntO 8 s) := Lib.hid (by
        have h9 := HS.out
        rw [show 8 - t = (8 - (t + 1)) + 1 by omega, cntO] at h9
        omega)
      have hxn : x / 2 < 2 ^ (8 - (t + 1)) := by
        rw [show 8 - t = (8 - (t + 1)) + 1 by omega, Nat.pow_succ] at hx8; omega
      have hxm : (x / 2) * 2 ^ (t + 1) ≤ s := by
        refine Nat.le_trans ?_ hx
        rw [Nat.pow_succ, Nat.mul_comm (2 ^ t) 2, ← Nat.mul_assoc]
        exact Nat.mul_le_mul_right _ (Nat.div_mul_le_self x 2)
      have HX1 := Lib.hid hxn
      have HX2 := Lib.hid hxm
      clear hxn hxm hx hx8
      go_wp2
      go_round
      case rel => exact ⟨t + 1, x / 2, k + x % 2, HX2.out, by omega, HX1.out, by go_num, by go_num, by omega, HN⟩
      case measure => simp [intOf]; omega
    · obtain rfl : x = 0 := by omega
      have HK : Hid (ones24 s = k) := Lib.hid (by
        have h9 := HS.out
        rw [cntO_zero] at h9
        rw [HC.out]; omega)
      clear hx hx8
      go_wp2
      go_ret
      exact ⟨ret_i _ _ (by rw [HK.out]), rfl⟩
end Go.Proofs.YtcojodkcpemfdaaDoor
namespace Go.Proofs.YtcojodkcpemfdaaDoor
open Go Go.RowKit
set_option linter.unusedVariables false
set_option maxRecDepth 100000

theorem steps_lt (rs : List Nat) (h : rs.length ≤ 8) : ∀ s, s ∈ stepsM rs → s < 256 := by
  intro s hs
  unfold stepsM at hs
  have h1 := List.mem_range.1 (List.mem_filter.1 hs).1
  have h2 : 2 ^ rs.length ≤ 256 := Nat.pow_le_pow_right (by decide) h
  omega
theorem cpStep_of (xs ys : List Int) (s k : Nat) (hk : ones24 s = k) (hp : padM ys k = padM xs k) (hl : k < ys.length) : cpStep xs s = ys.set k (ys.getD k 0 + sgnM k) := by
  unfold cpStep
  rw [hk, ← hp, padM_done ys k hl]
theorem snoc_zero (ys : List Int) : ys.map (Value.int .i64) ++ [Value.int .i64 0] = (ys ++ [0]).map (Value.int .i64) := by simp
set_option maxHeartbeats 3200000 in
theorem cliquePolynomial_any (A : Option Addr) (n c : Nat) (rs : List Nat) (w : World) (h : Rd w A n (ints rs)) (h8 : n ≤ 8) (hr : ∀ i, rs.getD i 0 < 2 ^ n) (hd : Dep rs) (hT : Tab w) :
    Calls Tryd.prog 155 #[.slice A n c] w (MakesE 2 w (cpM (stepsM rs)).length (cpM (stepsM rs))) := by
  have hl : rs.length = n := by have := h.1; rw [ints_len] at this; exact this
  have hlt := steps_lt rs (by omega)
  have hle := stepsM_len rs (by omega)
  have HI := Lib.hid (indep_any A n c rs w h h8 hr hd hT)
  obtain ⟨i0, hi, hz0, hz1, hz2⟩ := info_parts info_int
  obtain ⟨fs, hfs⟩ : ∃ fs, fs = stepsM rs := ⟨_, rfl⟩
  rw [← hfs] at HI hlt hle ⊢
  have HF := Lib.hid (cp_facts fs hlt)
  have HLT := Lib.hid hlt
  obtain ⟨F, hF⟩ : ∃ F, F = fs.length := ⟨_, rfl⟩
  rw [← hF] at HI HF hle
  have HFL := Lib.hid hF
  clear hlt hfs hl hF h hr hd hT
  go_enter Tryd.func155, Tryd.ntmps155
  go_wp2_with fail
  refine HI.out.mono ?_
  rintro e w1 ⟨A1, c1, rfl, ho1, hb1⟩
  have HLEN : Hid ((ints fs).length = F) := Lib.hid (by rw [ints_len, HFL.out])
  go_wp2_with fail
  go_loopw [3, 9] (fun v i wr => ∃ (t q : Nat) (A2 : Option Addr) (c2 : Nat), t ≤ F ∧ i = .int .i64 t ∧ v = .slice A2 q c2 ∧ Own 2 wr w1.heap.size A2 q c2 (cpM (fs.take t)) ∧ Below w1.heap.size w1 wr) (fun _ i _ => F - (intOf i).toNat)
  case atStart => exact ⟨0, 0, none, 0, Nat.zero_le _, rfl, rfl, Own.nil _ _ _, Below.refl _ _⟩
  case round =>
    obtain ⟨t, q, A2, c2, ht, rfl, rfl, ho, hb⟩ := hrel
    by_cases hlt : t < F
    · obtain ⟨b, off, x, rfl, hbs, hx, hcx⟩ := (ho1.rd.below hb).at_ hlt
      obtain ⟨s, hs, rfl⟩ := nats_at fs t x (by rw [← HFL.out]; exact hlt) hx
      have hs8 := HLT.out s (List.mem_of_getElem? hs)
      have HS1 : Hid (∀ ww : World, Calls Tryd.prog 196 #[.int .i64 (s : Int)] ww fun e w' => e = .returned (.int .i64 ((ones24 s : Nat) : Int)) ∧ ww = w') := Lib.hid fun ww => size_is s (by omega) ww
      have HS2 : Hid (∀ ww : World, Calls Tryd.prog 197 #[.int .i64 (s : Int)] ww fun e w' => e = .returned (.int .i64 (sgnM (ones24 s))) ∧ ww = w') := Lib.hid fun ww => sign_is s hs8 ww
      have hk8 := ones24_8 s hs8
      have HN := Lib.hid (cpM_next fs t s hs)
      have HQ := Lib.hid ho.len
      obtain ⟨hq9, hv0⟩ := HF.out t (by omega)
      have HV := Lib.hid hv0
      have HST := Lib.hid (fun ys hp hl => cpStep_of (cpM (fs.take t)) ys s (ones24 s) rfl hp hl)
      have hg := sgnM_small (ones24 s)
      obtain ⟨k, hk⟩ : ∃ k, k = ones24 s := ⟨_, rfl⟩
      rw [← hk] at HS1 HS2 hk8 HST hg
      obtain ⟨xs, hxs⟩ : ∃ xs, xs = cpM (fs.take t) := ⟨_, rfl⟩
      rw [← hxs] at ho HN HV HST HQ hq9
      obtain ⟨G, hG⟩ : ∃ G, G = sgnM k := ⟨_, rfl⟩
      rw [← hG] at HS2 HST hg
      rw [HQ.out] at hq9
      clear hx hk hxs hv0 hs hG
      obtain ⟨w2, rfl⟩ : ∃ w9 : World, w9 = wr := ⟨_, rfl⟩
      go_wp2_with fail
      go_loopw [3] (fun v wx => ∃ (q1 : Nat) (A3 : Option Addr) (c3 : Nat) (ys : List Int), q1 ≤ 9 ∧ v = .slice A3 q1 c3 ∧ Own 2 wx w1.heap.size A3 q1 c3 ys ∧ Below w1.heap.size w1 wx ∧ Hid (padM ys k = padM xs k)) (fun v _ => k + 1 - (match v with | .slice _ n _ => n | _ => 0))
      case atStart => exact ⟨q, A2, c2, xs, hq9, rfl, ho, hb, Lib.hid rfl⟩
      case round =>
        clear ho hcx
        obtain ⟨q1, A3, c3, ys, hq1, rfl, ho, hb3, HP⟩ := hrel
        have HYL := Lib.hid ho.len
        by_cases hqk : q1 ≤ k
        · have hml : q1 + 1 ≤ maxLen := by unfold maxLen; omega
          have hby2 : (q1 + 1) * 8 ≤ 140737488355328 := by omega
          have HPN : Hid (padM (ys ++ [0]) k = padM xs k) := Lib.hid ((padM_next ys k (by rw [HYL.out]; exact hqk)).trans HP.out)
          obtain ⟨w3, rfl⟩ : ∃ w9 : World, w9 = wr := ⟨_, rfl⟩
          go_wp2_with fail
          refine (HS1.out _).mono ?_
          rintro e w' ⟨rfl, rfl⟩
          go_wp2_with (at_builtin; refine wpList_append_own _ rfl _ _ 22 rfl w1.heap.size 2 i0 (.int .i64 0) 1 8 Tryd.underlying22 hi hz0 hz1 hz2 rfl (by decide) (.slice A3 q1 c3) q1 (ys.map (Value.int .i64)) rfl (World.ownsRow.alloc ho _) ⟨w3.heap.size, 0, none⟩ 1 1 [.int .i64 0] rfl rfl ?s1 ?s2 hml hby2 ?s5 ?_)
          case s1 => exact cell_one_new _ _ _
          case s2 => intro u hu; simp at hu; subst hu; rfl
          case s5 => have := hb3.size; simp; omega
          intro v' w4 hown hg4 _
          rw [snoc_zero] at hown
          have hb4 : Below w1.heap.size w1 w4 := (hb3.alloc hb3.size _).grown hg4 (by have := hb3.size; simp; omega) (fun g hgr => (World.ownsRow.lt ho g hgr).1)
          obtain ⟨A4, c4, hv, ho4⟩ := own_shape hown
          rw [hv]
          clear hg4 hown hv
          go_wp2_with fail
          go_roundw
          case rel => exact ⟨q1 + 1, A4, c4, ys ++ [0], by omega, rfl, ho4, hb4, HPN⟩
          case measure => simp; omega
        · have hky : k < ys.length := by rw [HYL.out]; omega
          have HE := Lib.hid (HST.out ys HP.out hky)
          have HVK : Hid (-(t : Int) ≤ ys.getD k 0 ∧ ys.getD k 0 ≤ t) := Lib.hid (by
            have h9 := HV.out k
            rw [← getD_pad xs k, ← HP.out, getD_pad] at h9; exact h9)
          have hvb := HVK.out
          have hgy : ys[k]? = some (ys.getD k 0) := by rw [List.getD_eq_getElem?_getD, List.getElem?_eq_getElem hky]; rfl
          obtain ⟨g, rfl, hgB, hgl⟩ := ho.form (by omega)
          have hf : wr.drew.frozen? ⟨g, k, none⟩ = false := ho.frozen k
          have hc2 : wr.drew.cell? ⟨g, k, none⟩ = some (.int .i64 (ys.getD k 0)) := ho.cell hgy
          have hc1 : wr.cell? ⟨g, k, none⟩ = some (.int .i64 (ys.getD k 0)) := ho.cell hgy
          have ho2 := ho.set_ k (ys.getD k 0 + G)
          rw [← HE.out, ← HN.out] at ho2
          obtain ⟨V, hV⟩ : ∃ V, V = ys.getD k 0 := ⟨_, rfl⟩
          rw [← hV] at hc1 hc2 hvb ho2
          have hw1 : IntKind.i64.wrap (V + G) = V + G := by rw [IntKind.wrap_i64]; omega
          have hb2 := (hb3.drew).setCell (p := ⟨g, k, none⟩) hgB (.int .i64 (V + G))
          have hkq : k < q1 := by omega
          clear hky hgy hV
          go_wp2_with fail
          refine (HS1.out _).mono ?_
          rintro e w' ⟨rfl, rfl⟩
          go_wp2_with fail
          go_still_tail 9, (by kernel_rfl)
          still_call ((HS1.out _).mono fun _ _ ⟨he, hw⟩ => ⟨he, hw.symm⟩)
          repeat still_step
          still_call ((HS2.out _).mono fun _ _ ⟨he, hw⟩ => ⟨he, hw.symm⟩)
          repeat still_step
          refine wpStill_nil ?_
          change wpList _ _ _ _ _ wr.drew
          have ho5 : Own 2 (wr.drew.setCell ⟨g, k, none⟩ (.int .i64 (V + G))) w1.heap.size (some ⟨g, 0, none⟩) q1 c3 (cpM (fs.take (t + 1))) := ho2
          go_wp2_with fail
          go_roundw
          case rel => exact ⟨t + 1, q1, _, c3, by omega, by go_num, rfl, ho5, hb2⟩
          case measure => simp [intOf]; omega
    · obtain rfl : t = F := by omega
      have e9 : fs.take t = fs := by rw [HFL.out]; exact List.take_length
      rw [e9] at ho
      have HQ := Lib.hid ho.len
      clear e9
      go_wp2_with fail
      go_ret
      show MakesE _ _ (cpM fs).length _ _ _
      rw [HQ.out]
      exact ⟨A2, c2, rfl, ho.mono hb1.size, hb1.trans (hb.mono hb1.size)⟩
def cpAns (L : Int) (xs : List Int) : List Int × Int := if alphB L xs = true then (cpM (stepsM (xs.map Int.toNat)), 0) else ([], 1)
theorem cpAns_no (L : Int) (xs : List Int) (h : alphB L xs = false) : cpAns L xs = ([], 1) := by unfold cpAns; rw [if_neg (by rw [h]; decide)]
theorem cpAns_yes (n : Nat) (rs : List Nat) (h : alphB (n : Int) (ints rs) = true) : cpAns (n : Int) (ints rs) = (cpM (stepsM rs), 0) := by unfold cpAns; rw [if_pos h, ints_toNat]
theorem cpAns_small (L : Int) (xs : List Int) : (cpAns L xs).1.length ≤ 9 := by
  unfold cpAns
  split
  · rename_i h
    obtain ⟨rs, rfl, rfl, h8, _, _, hl, _, e⟩ := alphB_nats L xs _ rfl h
    rw [e]
    exact cpM_len rs (by omega)
  · exact Nat.zero_le _
/-- Two own rows in blocks of their own. -/
def TwoOwn (w0 wr : World) (A2 : Option Addr) (q c2 : Nat) (xs : List Int) (A1 : Option Addr) (F c1 : Nat) (zs : List Int) : Prop :=
  Own 2 wr w0.heap.size A2 q c2 xs ∧ Own 2 wr w0.heap.size A1 F c1 zs ∧ (∀ k, A2.map (·.block) = some k → A1.map (·.block) ≠ some k) ∧ Below w0.heap.size w0 wr
theorem ownB (A : Option Addr) (n c : Nat) (k : Nat) : (Value.slice A n c).ownBlock = some k ↔ A.map (·.block) = some k := by
  cases A <;> simp [Value.ownBlock]
theorem TwoOwn.grow {w0 wr w4 : World} {o : Obj} {A2 A1 : Option Addr} {q c2 F c1 : Nat} {xs zs xs' : List Int} {v' : Value} (h : TwoOwn w0 wr A2 q c2 xs A1 F c1 zs)
    (hown : w4.ownsRow w0.heap.size 2 1 v' (q + 1) (xs'.map (Value.int .i64))) (hg : (wr.alloc o).grownBy w4 (Value.slice A2 q c2).ownBlock) (hat : v'.ownBlock = (Value.slice A2 q c2).ownBlock ∨ v'.ownBlock = some (wr.heap.size + 1)) :
    ∃ A3 c3, v' = .slice A3 (q + 1) c3 ∧ TwoOwn w0 w4 A3 (q + 1) c3 xs' A1 F c1 zs := by
  obtain ⟨o2, o1, s, hb⟩ := h
  obtain ⟨A3, c3, rfl, ho3⟩ := own_shape hown
  have hsz : (wr.alloc o).heap.size = wr.heap.size + 1 := by simp
  refine ⟨A3, c3, rfl, ho3, (o1.below (below1 wr o)).apart hg (fun k hk e => s k ((ownB _ _ _ _).1 e) hk), fun k hk e => ?_, (hb.alloc hb.size o).grown hg (by have := hb.size; omega) (fun r e => (o2.lt r ((ownB _ _ _ _).1 e)).1)⟩
  have hk' := (ownB A3 (q + 1) c3 k).2 hk
  rcases hat with h9 | h9
  · rw [hk'] at h9; exact s k ((ownB _ _ _ _).1 h9.symm) e
  · rw [hk'] at h9; injection h9 with h9; have := (o1.lt k e).2; omega
theorem TwoOwn.put {w0 wr : World} {g : Nat} {A1 : Option Addr} {q c2 F c1 : Nat} {xs zs : List Int} (h : TwoOwn w0 wr (some ⟨g, 0, none⟩) q c2 xs A1 F c1 zs) (k : Nat) (x : Int) :
    TwoOwn w0 (wr.setCell ⟨g, k, none⟩ (.int .i64 x)) (some ⟨g, 0, none⟩) q c2 (xs.set k x) A1 F c1 zs := by
  obtain ⟨o2, o1, s, hb⟩ := h
  exact ⟨o2.set_ k x, o1.apart (grown_set (World.grownBy.refl wr (some g)) k _) (fun r hr e => by injection e with e; subst e; exact s g rfl hr), s, hb.setCell (p := ⟨g, k, none⟩) ((o2.lt g rfl).1) _⟩
set_option maxHeartbeats 3200000 in
theorem l06Clique_any (A : Option Addr) (n c : Nat) (rs : List Nat) (w : World) (h : Rd w A n (ints rs)) (h8 : n ≤ 8) (hr : ∀ i, rs.getD i 0 < 2 ^ n) :
    Calls Tryd.prog 93 #[.agg #[.int .i64 (n : Int), .slice A n c]] w (MakesE 2 w (cpM (stepsM rs)).length (cpM (stepsM rs))) := by
  have hl : rs.length = n := by have := h.1; rw [ints_len] at this; exact this
  have HB := Lib.hid (below1 w (.cells #[.int .i64 (n : Int), .slice A n c] 29))
  have hh := h.below HB.out
  have x0 := box_new 29 w (n : Int) A n c
  have hlt := steps_lt rs (by omega)
  have hle := stepsM_len rs (by omega)
  have HI : Hid (∀ w9 : World, Rd w9 A n (ints rs) → Calls Tryd.prog 149 #[.agg #[.int .i64 (n : Int), .slice A n c]] w9 (MakesE 2 w9 (stepsM rs).length (ints (stepsM rs)))) := Lib.hid fun w9 h9 => steps_any A n c rs w9 h9 h8 hr
  obtain ⟨i0, hi, hz0, hz1, hz2⟩ := info_parts info_int
  obtain ⟨fs, hfs⟩ : ∃ fs, fs = stepsM rs := ⟨_, rfl⟩
  rw [← hfs] at HI hlt hle ⊢
  have HF := Lib.hid (cp_facts fs hlt)
  have HLT := Lib.hid hlt
  obtain ⟨F, hF⟩ : ∃ F, F = fs.length := ⟨_, rfl⟩
  rw [← hF] at HI HF hle
  have HFL := Lib.hid hF
  clear hlt hfs hl hF h hr
  have HSZ := Lib.hid (size1 w (.cells #[.int .i64 (n : Int), .slice A n c] 29))
  obtain ⟨w0, hw0⟩ : ∃ w0, w0 = w.alloc (.cells #[.int .i64 (n : Int), .slice A n c] 29) := ⟨_, rfl⟩
  rw [← hw0] at hh HSZ
  have HB0 := Lib.hid (show Below w.heap.size w w0 by rw [hw0]; exact HB.out)
  have hk1 := below1 w0 (.cells #[] 2)
  have y0 := (x0.next (by rw [← hw0]; exact hk1)).c0
  have y1 := (x0.next (by rw [← hw0]; exact hk1)).c1
  have HO : Own 2 (w0.alloc (.cells #[] 2)) w0.heap.size (some ⟨w0.heap.size, 0, none⟩) 0 0 [] := World.ownsRow_lit w0 #[] 0 (Nat.le_refl _) (by unfold maxLen; omega) rfl
  have HS0 := Lib.hid (HI.out _ (hh.below hk1))
  rw [hw0] at HS0
  clear HI hh x0
  go_enter Tryd.func93, Tryd.ntmps93
  go_wp2_with fail
  refine HS0.out.mono ?_
  rintro e w1 ⟨A1, c1, rfl, ho1, hb1⟩
  rw [← hw0] at hb1 ho1
  have HO1 := HO.below hb1
  have HB1 := Lib.hid (HB0.out.trans ((hk1.trans (hb1.mono hk1.size)).mono HB0.out.size))
  have HSB := Lib.hid (HB0.out.size)
  have HBW := Lib.hid (hk1.trans (hb1.mono hk1.size))
  have HO2 : Own 2 w1 w0.heap.size (some ⟨w.heap.size + 1, 0, none⟩) 0 0 [] := by rw [← HSZ.out]; exact HO1
  have HT2 : TwoOwn w0 w1 (some ⟨w.heap.size + 1, 0, none⟩) 0 0 [] A1 F c1 (ints fs) := ⟨HO2, ho1.mono (by simp), fun k hk e => by
    have h1 := (ho1.lt k e).1
    have h9 : w.heap.size + 1 = k := by injection hk
    have := HSZ.out
    simp at h1; omega, HBW.out⟩
  have HLEN : Hid ((ints fs).length = F) := Lib.hid (by rw [ints_len, HFL.out])
  clear hw0 HO HO1 hk1 y0 y1 HS0 HB ho1 HO2 hb1 HBW
  go_wp2_with fail
  go_loopw [3, 5] (fun v i wr => ∃ (t q : Nat) (A2 : Option Addr) (c2 : Nat), t ≤ F ∧ i = .int .i64 t ∧ v = .slice A2 q c2 ∧ TwoOwn w0 wr A2 q c2 (cpM (fs.take t)) A1 F c1 (ints fs)) (fun _ i _ => F - (intOf i).toNat)
  case atStart => exact ⟨0, 0, _, 0, Nat.zero_le _, rfl, rfl, HT2⟩
  case round =>
    obtain ⟨t, q, A2, c2, ht, rfl, rfl, h2⟩ := hrel
    by_cases hlt : t < F
    · obtain ⟨b, off, x, rfl, hbs, hx, hcx⟩ := h2.2.1.rd.at_ hlt
      obtain ⟨s, hs, rfl⟩ := nats_at fs t x (by rw [← HFL.out]; exact hlt) hx
      have hs8 := HLT.out s (List.mem_of_getElem? hs)
      have HS1 : Hid (∀ ww : World, Calls Tryd.prog 150 #[.int .i64 (s : Int)] ww fun e w' => e = .returned (.int .i64 ((ones24 s : Nat) : Int)) ∧ ww = w') := Lib.hid fun ww => bits8_any s hs8 ww
      have hk8 := ones24_8 s hs8
      have HN := Lib.hid (cpM_next fs t s hs)
      have HQ := Lib.hid h2.1.len
      obtain ⟨hq9, hv0⟩ := HF.out t (by omega)
      have HV := Lib.hid hv0
      have HST := Lib.hid (fun ys hp hl => cpStep_of (cpM (fs.take t)) ys s (ones24 s) rfl hp hl)
      obtain ⟨k, hk⟩ : ∃ k, k = ones24 s := ⟨_, rfl⟩
      rw [← hk] at HS1 hk8 HST
      obtain ⟨xs, hxs⟩ : ∃ xs, xs = cpM (fs.take t) := ⟨_, rfl⟩
      rw [← hxs] at h2 HN HV HST HQ hq9
      rw [HQ.out] at hq9
      clear hx hk hxs hv0 hs
      obtain ⟨w2, rfl⟩ : ∃ w9 : World, w9 = wr := ⟨_, rfl⟩
      go_wp2_with fail
      refine (HS1.out _).mono ?_
      rintro e w' ⟨rfl, rfl⟩
      go_wp2_with fail
      go_loopw [3] (fun v wx => ∃ (q1 : Nat) (A3 : Option Addr) (c3 : Nat) (ys : List Int), q1 ≤ 9 ∧ v = .slice A3 q1 c3 ∧ TwoOwn w0 wx A3 q1 c3 ys (some ⟨b, off, none⟩) F c1 (ints fs) ∧ Hid (padM ys k = padM xs k)) (fun v _ => k + 1 - (match v with | .slice _ n _ => n | _ => 0))
      case atStart => exact ⟨q, A2, c2, xs, hq9, rfl, h2, Lib.hid rfl⟩
      case round =>
        clear h2 hcx
        obtain ⟨q1, A3, c3, ys, hq1, rfl, h2, HP⟩ := hrel
        have HYL := Lib.hid h2.1.len
        have hb3 := h2.2.2.2
        by_cases hqk : q1 ≤ k
        · have hml : q1 + 1 ≤ maxLen := by unfold maxLen; omega
          have hby2 : (q1 + 1) * 8 ≤ 140737488355328 := by omega
          have HPN : Hid (padM (ys ++ [0]) k = padM xs k) := Lib.hid ((padM_next ys k (by rw [HYL.out]; exact hqk)).trans HP.out)
          obtain ⟨w3, rfl⟩ : ∃ w9 : World, w9 = wr := ⟨_, rfl⟩
          go_wp2_with (at_builtin; refine wpList_append_own_at _ rfl _ _ 22 rfl w0.heap.size 2 i0 (.int .i64 0) 1 8 Tryd.underlying22 hi hz0 hz1 hz2 rfl (by decide) (.slice A3 q1 c3) q1 (ys.map (Value.int .i64)) rfl (World.ownsRow.alloc h2.1 _) ⟨w3.heap.size, 0, none⟩ 1 1 [.int .i64 0] rfl rfl ?s1 ?s2 hml hby2 ?s5 ?_)
          case s1 => exact cell_one_new _ _ _
          case s2 => intro u hu; simp at hu; subst hu; rfl
          case s5 => have := hb3.size; simp; omega
          intro v' w4 hown hg4 _ hat
          rw [snoc_zero] at hown
          obtain ⟨A4, c4, hv, h4⟩ := h2.grow hown hg4 hat
          rw [hv]
          clear hg4 hown hv hat h2
          go_wp2_with fail
          go_roundw
          case rel => exact ⟨q1 + 1, A4, c4, ys ++ [0], by omega, rfl, h4, HPN⟩
          case measure => simp; omega
        · have hky : k < ys.length := by rw [HYL.out]; omega
          have HE := Lib.hid (HST.out ys HP.out hky)
          have HVK : Hid (-(t : Int) ≤ ys.getD k 0 ∧ ys.getD k 0 ≤ t) := Lib.hid (by
            have h9 := HV.out k
            rw [← getD_pad xs k, ← HP.out, getD_pad] at h9; exact h9)
          have hvb := HVK.out
          have hgy : ys[k]? = some (ys.getD k 0) := by rw [List.getD_eq_getElem?_getD, List.getElem?_eq_getElem hky]; rfl
          obtain ⟨g, rfl, hgB, hgl⟩ := h2.1.form (by omega)
          have hf : wr.frozen? ⟨g, k, none⟩ = false := h2.1.frozen k
          have hc1 : wr.cell? ⟨g, k, none⟩ = some (.int .i64 (ys.getD k 0)) := h2.1.cell hgy
          have h5 := h2.put k (ys.getD k 0 + sgnM k)
          rw [← HE.out, ← HN.out] at h5
          obtain ⟨V, hV⟩ : ∃ V, V = ys.getD k 0 := ⟨_, rfl⟩
          rw [← hV] at hc1 hvb h5
          have HZ : Hid (V + sgnM k = V + 1 - 2 * ((k : Int) % 2)) := Lib.hid (by unfold sgnM; omega)
          rw [HZ.out] at h5
          have hkq : k < q1 := by omega
          clear hky hgy hV h2
          go_wp2_with fail
          go_roundw
          case rel => exact ⟨t + 1, q1, _, c3, by omega, by go_num, rfl, h5⟩
          case measure => simp [intOf]; omega
    · obtain rfl : t = F := by omega
      have e9 : fs.take t = fs := by rw [HFL.out]; exact List.take_length
      rw [e9] at h2
      have HQ := Lib.hid h2.1.len
      clear e9
      go_wp2_with fail
      go_ret
      show MakesE _ _ (cpM fs).length _ _ _
      rw [HQ.out]
      exact ⟨A2, c2, rfl, h2.1.mono HB0.out.size, HB0.out.trans (h2.2.2.2.mono HB0.out.size)⟩
end Go.Proofs.YtcojodkcpemfdaaDoor
namespace Go.Proofs.YtcojodkcpemfdaaDoor
open Go Go.RowKit
set_option linter.unusedVariables false
set_option maxRecDepth 100000

/-- What the first k products add up to, with the sign turned. -/
def cvS (p q : List Int) : Nat → Int
  | 0 => 0
  | k + 1 => cvS p q k - p.getD (k + 1) 0 * q.getD (q.length - (k + 1)) 0
def cvN (p q : List Int) : Nat := min (p.length - 1) q.length
/-- The next element of the inverse. -/
def nextV (p q : List Int) : Int := cvS p q (cvN p q)
def invQ (p : List Int) : Nat → List Int
  | 0 => [1]
  | n + 1 => invQ p n ++ [nextV p (invQ p n)]
theorem invQ_len (p : List Int) : ∀ n, (invQ p n).length = n + 1
  | 0 => rfl
  | n + 1 => by rw [invQ, List.length_append, invQ_len p n]; rfl
def maxB (x : Int) : Bool := decide (-1000000000000000 ≤ x ∧ x ≤ 1000000000000000)
theorem invQ_take (p : List Int) (n : Nat) : ∀ k, n ≤ k → ∀ i, i ≤ n → (invQ p k).getD i 0 = (invQ p n).getD i 0 := by
  intro k hk
  induction k with
  | zero => obtain rfl : n = 0 := by omega
            intro i _; rfl
  | succ k ih =>
    intro i hi
    by_cases h : n ≤ k
    · rw [← ih h i hi, invQ]
      simp only [List.getD_eq_getElem?_getD]
      rw [List.getElem?_append_left (by rw [invQ_len]; omega)]
    · obtain rfl : n = k + 1 := by omega
      rfl
theorem invQ_last (p : List Int) (n : Nat) : (invQ p (n + 1)).getD (n + 1) 0 = nextV p (invQ p n) := by
  rw [invQ]
  simp only [List.getD_eq_getElem?_getD]
  rw [List.getElem?_append_right (by rw [invQ_len]; omega), invQ_len]; simp
/-- All elements up to the n-th are small. -/
def invB (p : List Int) : Nat → Bool
  | 0 => true
  | n + 1 => invB p n && maxB (nextV p (invQ p n))
theorem invB_le (p : List Int) (n : Nat) : ∀ k, n ≤ k → invB p k = true → invB p n = true := by
  intro k hk
  induction k with
  | zero => obtain rfl : n = 0 := by omega
            exact fun h => h
  | succ k ih =>
    intro h
    by_cases e : n ≤ k
    · exact ih e (by rw [invB, Bool.and_eq_true] at h; exact h.1)
    · obtain rfl : n = k + 1 := by omega
      exact h
theorem invB_no (p : List Int) (n k : Nat) (hk : n ≤ k) (h : invB p n = false) : invB p k = false := by
  cases e : invB p k
  · rfl
  · rw [invB_le p n k hk e] at h; cases h
theorem invQ_small (p : List Int) : ∀ n, invB p n = true → ∀ i, -1000000000000000 ≤ (invQ p n).getD i 0 ∧ (invQ p n).getD i 0 ≤ 1000000000000000
  | 0, _, i => by
    rw [invQ]
    cases i with
    | zero => decide
    | succ i => simp
  | n + 1, h, i => by
    rw [invB, Bool.and_eq_true] at h
    have h2 := h.2
    unfold maxB at h2
    rw [decide_eq_true_eq] at h2
    rw [invQ]
    simp only [List.getD_eq_getElem?_getD]
    by_cases e : i < (invQ p n).length
    · rw [List.getElem?_append_left e]
      have := invQ_small p n h.1 i
      rw [List.getD_eq_getElem?_getD] at this; exact this
    · rw [List.getElem?_append_right (by omega)]
      by_cases e2 : i - (invQ p n).length = 0
      · rw [e2]; exact h2
      · rw [List.getElem?_eq_none (by simp; omega)]; decide
theorem mul_small (a b A B : Int) (hA : 0 ≤ A) (ha : -A ≤ a ∧ a ≤ A) (hb : -B ≤ b ∧ b ≤ B) : -(A * B) ≤ a * b ∧ a * b ≤ A * B := by
  have hB : 0 ≤ B := by omega
  have h1 : 0 ≤ (A - a) * (B - b) := Int.mul_nonneg (by omega) (by omega)
  have h2 : 0 ≤ (A - a) * (B + b) := Int.mul_nonneg (by omega) (by omega)
  have h3 : 0 ≤ (A + a) * (B - b) := Int.mul_nonneg (by omega) (by omega)
  have h4 : 0 ≤ (A + a) * (B + b) := Int.mul_nonneg (by omega) (by omega)
  rw [Int.sub_mul, Int.mul_sub, Int.mul_sub] at h1
  rw [Int.sub_mul, Int.mul_add, Int.mul_add] at h2
  rw [Int.add_mul, Int.mul_sub, Int.mul_sub] at h3
  rw [Int.add_mul, Int.mul_add, Int.mul_add] at h4
  constructor <;> omega
/-- What a list's inverse is answered. -/
def invAns (p : List Int) (n : Nat) : List Int × Bool := if invB p n = true then (invQ p n, true) else ([], false)
def bigC (c : Int) : Bool := decide (c < -1000) || decide (1000 < c)
def isAns (p : List Int) (n : Int) : List Int × Int :=
  if (decide (0 ≤ n ∧ n ≤ 24) && !p.any bigC) = true then (if p.head? = some 1 then (if invB p n.toNat = true then (invQ p n.toNat, 0) else ([], 3)) else ([], 5)) else ([], 2)
theorem isAns_small (p : List Int) (n : Int) : (isAns p n).1.length ≤ 25 := by
  unfold isAns
  split
  · rename_i h
    rw [Bool.and_eq_true, decide_eq_true_eq] at h
    split
    · split
      · show (invQ p n.toNat).length ≤ 25
        rw [invQ_len]; omega
      · exact Nat.zero_le _
    · exact Nat.zero_le _
  · exact Nat.zero_le _
end Go.Proofs.YtcojodkcpemfdaaDoor
namespace Go.Proofs.YtcojodkcpemfdaaDoor
open Go Go.RowKit
set_option linter.unusedVariables false
set_option maxRecDepth 100000

theorem cvS_next (p q : List Int) (j : Nat) (hj : 1 ≤ j) : cvS p q (j - 1) - p.getD j 0 * q.getD (q.length - j) 0 = cvS p q j := by
  obtain ⟨k, rfl⟩ : ∃ k, j = k + 1 := ⟨j - 1, by omega⟩
  rfl
theorem tdiv_parts (X : Int) (hX : -1000000000000000000 ≤ X ∧ X ≤ 1000000000000000000) : X.tdiv 1000000000000000 * 1000000000000000 + X.tmod 1000000000000000 = X ∧ -1000 ≤ X.tdiv 1000000000000000 ∧ X.tdiv 1000000000000000 ≤ 1000 ∧ -1000000000000000 < X.tmod 1000000000000000 ∧ X.tmod 1000000000000000 < 1000000000000000 := by
  have h1 := Int.mul_tdiv_add_tmod X 1000000000000000
  have h2 := Int.tmod_lt_of_pos X (show (0 : Int) < 1000000000000000 by decide)
  have h3 : -1000000000000000 < X.tmod 1000000000000000 := by
    have := Int.tmod_lt_of_pos (-X) (show (0 : Int) < 1000000000000000 by decide)
    rw [Int.neg_tmod] at this; omega
  omega
set_option maxHeartbeats 1600000 in
theorem nextOfInverse_any (A B : Option Addr) (n c m d : Nat) (ps qs : List Int) (w : World) (h : Rd w A n ps) (h2 : Rd w B m qs) (hn : n ≤ 1048576) (hm : m ≤ 24) (hp : ∀ i, -1000 ≤ ps.getD i 0 ∧ ps.getD i 0 ≤ 1000) (hq : ∀ i, -1000000000000000 ≤ qs.getD i 0 ∧ qs.getD i 0 ≤ 1000000000000000) :
    Calls Tryd.prog 213 #[.slice A n c, .slice B m d] w fun e w' => ∃ X : Int, e = .returned (.tuple #[.int .i64 X, .bool (maxB (nextV ps qs))]) ∧ (maxB (nextV ps qs) = true → X = nextV ps qs) ∧ Below w.heap.size w w' := by
  have HP := Lib.hid hp
  have HQ := Lib.hid hq
  have HL := Lib.hid h.1
  have HM := Lib.hid h2.1
  clear hp hq
  go_enter Tryd.func213, Tryd.ntmps213
  go_wp2
  go_loopw [6, 7, 8] (fun a b i wr => ∃ (j : Nat) (W R : Int), 1 ≤ j ∧ j ≤ m + 1 ∧ (1 < j → j ≤ n) ∧ a = .int .i64 W ∧ b = .int .i64 R ∧ i = .int .i64 j ∧ Hid (W * 1000000000000000 + R = cvS ps qs (j - 1)) ∧ (-1000 * (j - 1 : Int) ≤ W ∧ W ≤ 1000 * (j - 1 : Int)) ∧ (-1000000000000000 * (j - 1 : Int) ≤ R ∧ R ≤ 1000000000000000 * (j - 1 : Int)) ∧ Below w.heap.size w wr) (fun _ _ i _ => m + 1 - (intOf i).toNat)
  case atStart => exact ⟨1, 0, 0, Nat.le_refl _, by omega, by omega, rfl, rfl, rfl, Lib.hid rfl, by omega, by omega, Below.refl _ _⟩
  case round =>
    obtain ⟨j, W, R, hj1, hj2, hj3, rfl, rfl, rfl, HS, hW, hR, hb⟩ := hrel
    by_cases hlt : j < n
    · by_cases hlm : j ≤ m
      · obtain ⟨b, off, x, rfl, hbs, hx, hcx⟩ := (h.below hb).at_ hlt
        obtain ⟨t, ht⟩ : ∃ t, t = m - j := ⟨_, rfl⟩
        obtain ⟨b2, off2, y, rfl, hbs2, hy, hcy⟩ := (h2.below hb).at_ (k := t) (by omega)
        have hxv : ps.getD j 0 = x := by rw [List.getD_eq_getElem?_getD, hx]; rfl
        have hyv : qs.getD (qs.length - j) 0 = y := by rw [HM.out, ← ht, List.getD_eq_getElem?_getD, hy]; rfl
        have hpx := HP.out j
        have hqy := HQ.out (qs.length - j)
        rw [hxv] at hpx
        rw [hyv] at hqy
        have hmul := mul_small (-x) y 1000 1000000000000000 (by decide) (by omega) (by omega)
        have hnx := Lib.hid (cvS_next ps qs j hj1)
        rw [hxv, hyv] at hnx
        obtain ⟨X, hX⟩ : ∃ X, X = -x * y := ⟨_, rfl⟩
        have HX := Lib.hid hX
        have HT := Lib.hid ht
        have htm : t < m := by omega
        rw [← hX] at hmul
        have HXY : Hid (X = -(x * y)) := Lib.hid (by rw [hX]; exact Int.neg_mul x y)
        obtain ⟨Y, hY⟩ : ∃ Y, Y = -x := ⟨_, rfl⟩
        rw [← hY] at hX
        have hneg : IntKind.i64.wrap (-x) = Y := by rw [hY, IntKind.wrap_i64]; omega
        have hneg2 : wrap64 (-x) = Y := by rw [hY]; unfold wrap64; omega
        have hw2 : IntKind.i64.wrap (Y * y) = X := by rw [← hX, IntKind.wrap_i64]; omega
        have hidx : IntKind.i64.wrap ((m : Int) - (j : Int)) = (t : Int) := by rw [IntKind.wrap_i64]; omega
        obtain ⟨p1, p2, p3, p4, p5⟩ := tdiv_parts X (by omega)
        obtain ⟨Q, hQ⟩ : ∃ Q, Q = X.tdiv 1000000000000000 := ⟨_, rfl⟩
        obtain ⟨Z, hZ⟩ : ∃ Z, Z = X.tmod 1000000000000000 := ⟨_, rfl⟩
        rw [← hQ] at p1 p2 p3
        rw [← hZ] at p1 p4 p5
        have hq1 : wrap64 (W + X.tdiv 1000000000000000) = W + Q := by rw [← hQ]; unfold wrap64; omega
        have hq2 : wrap64 (R + X.tmod 1000000000000000) = R + Z := by rw [← hZ]; unfold wrap64; omega
        have HN : Hid ((W + Q) * 1000000000000000 + (R + Z) = cvS ps qs j) := Lib.hid (by
          have h9 := HS.out
          rw [← hnx.out]
          have := HXY.out
          omega)
        clear hx hy hxv hyv hX ht hQ hZ p1 hY HX
        go_wp2
        go_region
        go_wp2
        go_roundw
        case rel => exact ⟨j + 1, W + Q, R + Z, by omega, by omega, by omega, congrArg _ hq1, congrArg _ hq2, by go_num, HN, by omega, by omega, by first | exact below_drewN hb _ | exact hb.drew⟩
        case measure => simp [intOf]; omega
      · have HV : Hid (nextV ps qs = W * 1000000000000000 + R) := Lib.hid (by
          unfold nextV cvN
          rw [HL.out, HM.out, show min (n - 1) m = j - 1 by omega]; exact HS.out.symm)
        obtain ⟨p1, p2, p3, p4, p5⟩ := tdiv_parts R (by omega)
        obtain ⟨Q, hQ⟩ : ∃ Q, Q = R.tdiv 1000000000000000 := ⟨_, rfl⟩
        obtain ⟨Z, hZ⟩ : ∃ Z, Z = R.tmod 1000000000000000 := ⟨_, rfl⟩
        rw [← hQ] at p1 p2 p3
        rw [← hZ] at p1 p4 p5
        obtain ⟨V, hV⟩ : ∃ V, V = W + Q := ⟨_, rfl⟩
        have hq1 : wrap64 (W + R.tdiv 1000000000000000) = V := by rw [← hQ, hV]; unfold wrap64; omega
        have hVb : -40000 ≤ V ∧ V ≤ 40000 := by omega
        have HVS : Hid (W * 1000000000000000 + R = V * 1000000000000000 + Z) := Lib.hid (by omega)
        rw [HVS.out] at HV
        clear hV p1 p2 p3 hQ
        by_cases v1 : V < -1
        · have HM1 : Hid (maxB (nextV ps qs) = false) := Lib.hid (by rw [HV.out]; unfold maxB; rw [decide_eq_false (by omega)])
          go_wp2
          go_ret2
          rw [HM1.out]
          exact ⟨0, rfl, fun e => (by cases e), hb⟩
        · by_cases v2 : 1 < V
          · have HM1 : Hid (maxB (nextV ps qs) = false) := Lib.hid (by rw [HV.out]; unfold maxB; rw [decide_eq_false (by omega)])
            go_wp2
            go_ret2
            rw [HM1.out]
            exact ⟨0, rfl, fun e => (by cases e), hb⟩
          · obtain ⟨S, hS⟩ : ∃ S, S = V * 1000000000000000 + Z := ⟨_, rfl⟩
            have hSb : -9000000000000000 ≤ S ∧ S ≤ 9000000000000000 := by omega
            rw [← hS] at HV
            have hS1 : wrap64 (V * 1000000000000000 + R.tmod 1000000000000000) = S := by rw [← hZ, hS]; unfold wrap64; omega
            clear hS hZ
            by_cases s1 : -1000000000000000 ≤ S
            · by_cases s2 : S ≤ 1000000000000000
              · have HM1 : Hid (maxB (nextV ps qs) = true) := Lib.hid (by rw [HV.out]; unfold maxB; rw [decide_eq_true ⟨s1, s2⟩])
                go_wp2
                go_ret2
                rw [HM1.out]
                exact ⟨_, rfl, fun _ => HV.out.symm, hb⟩
              · have HM1 : Hid (maxB (nextV ps qs) = false) := Lib.hid (by rw [HV.out]; unfold maxB; rw [decide_eq_false (by omega)])
                go_wp2
                go_ret2
                rw [HM1.out]
                exact ⟨_, rfl, fun e => (by cases e), hb⟩
            · have HM1 : Hid (maxB (nextV ps qs) = false) := Lib.hid (by rw [HV.out]; unfold maxB; rw [decide_eq_false (by omega)])
              go_wp2
              go_ret2
              rw [HM1.out]; exact ⟨_, rfl, fun e => (by cases e), hb⟩
    · have HV : Hid (nextV ps qs = W * 1000000000000000 + R) := Lib.hid (by
          unfold nextV cvN
          rw [HL.out, HM.out, show min (n - 1) m = j - 1 by omega]; exact HS.out.symm)
      obtain ⟨p1, p2, p3, p4, p5⟩ := tdiv_parts R (by omega)
      obtain ⟨Q, hQ⟩ : ∃ Q, Q = R.tdiv 1000000000000000 := ⟨_, rfl⟩
      obtain ⟨Z, hZ⟩ : ∃ Z, Z = R.tmod 1000000000000000 := ⟨_, rfl⟩
      rw [← hQ] at p1 p2 p3
      rw [← hZ] at p1 p4 p5
      obtain ⟨V, hV⟩ : ∃ V, V = W + Q := ⟨_, rfl⟩
      have hq1 : wrap64 (W + R.tdiv 1000000000000000) = V := by rw [← hQ, hV]; unfold wrap64; omega
      have hVb : -40000 ≤ V ∧ V ≤ 40000 := by omega
      have HVS : Hid (W * 1000000000000000 + R = V * 1000000000000000 + Z) := Lib.hid (by omega)
      rw [HVS.out] at HV
      clear hV p1 p2 p3 hQ
      by_cases v1 : V < -1
      · have HM1 : Hid (maxB (nextV ps qs) = false) := Lib.hid (by rw [HV.out]; unfold maxB; rw [decide_eq_false (by omega)])
        go_wp2
        go_ret2
        rw [HM1.out]
        exact ⟨0, rfl, fun e => (by cases e), hb⟩
      · by_cases v2 : 1 < V
        · have HM1 : Hid (maxB (nextV ps qs) = false) := Lib.hid (by rw [HV.out]; unfold maxB; rw [decide_eq_false (by omega)])
          go_wp2
          go_ret2
          rw [HM1.out]
          exact ⟨0, rfl, fun e => (by cases e), hb⟩
        · obtain ⟨S, hS⟩ : ∃ S, S = V * 1000000000000000 + Z := ⟨_, rfl⟩
          have hSb : -9000000000000000 ≤ S ∧ S ≤ 9000000000000000 := by omega
          rw [← hS] at HV
          have hS1 : wrap64 (V * 1000000000000000 + R.tmod 1000000000000000) = S := by rw [← hZ, hS]; unfold wrap64; omega
          clear hS hZ
          by_cases s1 : -1000000000000000 ≤ S
          · by_cases s2 : S ≤ 1000000000000000
            · have HM1 : Hid (maxB (nextV ps qs) = true) := Lib.hid (by rw [HV.out]; unfold maxB; rw [decide_eq_true ⟨s1, s2⟩])
              go_wp2
              go_ret2
              rw [HM1.out]
              exact ⟨_, rfl, fun _ => HV.out.symm, hb⟩
            · have HM1 : Hid (maxB (nextV ps qs) = false) := Lib.hid (by rw [HV.out]; unfold maxB; rw [decide_eq_false (by omega)])
              go_wp2
              go_ret2
              rw [HM1.out]
              exact ⟨_, rfl, fun e => (by cases e), hb⟩
          · have HM1 : Hid (maxB (nextV ps qs) = false) := Lib.hid (by rw [HV.out]; unfold maxB; rw [decide_eq_false (by omega)])
            go_wp2
            go_ret2
            rw [HM1.out]; exact ⟨_, rfl, fun e => (by cases e), hb⟩
/-- The first elements of an inverse, or none. -/
def InvPost (w : World) (ps : List Int) (k : Nat) (e : Ending) (w' : World) : Prop :=
  (invB ps k = true ∧ ∃ A1 c1, e = .returned (.tuple #[.slice A1 (k + 1) c1, .bool true]) ∧ Own 2 w' w.heap.size A1 (k + 1) c1 (invQ ps k) ∧ Below w.heap.size w w') ∨ (invB ps k = false ∧ e = .returned (.tuple #[.slice none 0 0, .bool false]) ∧ Below w.heap.size w w')
theorem snoc_map (ys : List Int) (x : Int) : ys.map (Value.int .i64) ++ [Value.int .i64 x] = (ys ++ [x]).map (Value.int .i64) := by simp
set_option maxHeartbeats 1600000 in
theorem inverse_any (A : Option Addr) (n c k : Nat) (ps : List Int) (w : World) (h : Rd w A n ps) (hn : n ≤ 1048576) (hk : k ≤ 24) (hp : ∀ i, -1000 ≤ ps.getD i 0 ∧ ps.getD i 0 ≤ 1000) :
    Calls Tryd.prog 193 #[.slice A n c, .int .i64 (k : Int)] w (InvPost w ps k) := by
  have HP := Lib.hid hp
  obtain ⟨i0, hi, hz0, hz1, hz2⟩ := info_parts info_int
  clear hp
  go_enter Tryd.func193, Tryd.ntmps193
  go_wp2
  go_loopw [6, 11] (fun v i wr => ∃ (j : Nat) (A1 : Option Addr) (c1 : Nat), j ≤ k ∧ i = .int .i64 j ∧ v = .slice A1 (j + 1) c1 ∧ Own 2 wr w.heap.size A1 (j + 1) c1 (invQ ps j) ∧ Below w.heap.size w wr ∧ Hid (invB ps j = true)) (fun _ i _ => k - (intOf i).toNat)
  case atStart => exact ⟨0, _, 1, Nat.zero_le _, rfl, rfl, World.ownsRow_lit w #[.int .i64 1] 1 (Nat.le_refl _) (by unfold maxLen; omega) rfl, (Below.refl _ _).alloc (Nat.le_refl _) _, Lib.hid rfl⟩
  case round =>
    obtain ⟨j, A1, c1, hj, rfl, rfl, ho, hb, HI⟩ := hrel
    by_cases hlt : j < k
    · have hq := invQ_small ps j HI.out
      have HN := Lib.hid (nextOfInverse_any A A1 n c (j + 1) c1 ps (invQ ps j) wr (h.below hb) ho.rd hn (by omega) HP.out hq)
      have HB1 : Hid (invB ps (j + 1) = maxB (nextV ps (invQ ps j))) := Lib.hid (by rw [invB, HI.out]; rfl)
      have HQ1 : Hid (invQ ps (j + 1) = invQ ps j ++ [nextV ps (invQ ps j)]) := Lib.hid rfl
      obtain ⟨qs, hqs⟩ : ∃ qs, qs = invQ ps j := ⟨_, rfl⟩
      rw [← hqs] at HN HB1 HQ1 ho
      obtain ⟨V, hV⟩ : ∃ V, V = nextV ps qs := ⟨_, rfl⟩
      rw [← hV] at HN HB1 HQ1
      clear hqs hV hq
      go_wp2_with fail
      refine HN.out.mono ?_
      cases hM : maxB V
      · rw [hM] at HB1
        rintro e w2 ⟨X, rfl, -, hb2⟩
        clear hM
        go_wp2_with fail
        go_ret2
        exact .inr ⟨invB_no ps (j + 1) k (by omega) HB1.out, rfl, hb.trans (hb2.mono hb.size)⟩
      · rw [hM] at HB1
        rintro e w2 ⟨X, rfl, hX, hb2⟩
        have hX2 := hX rfl
        clear hX hM
        subst hX2
        have ho2 := ho.below hb2
        have hb12 := hb.trans (hb2.mono hb.size)
        have hml : j + 1 + 1 ≤ maxLen := by unfold maxLen; omega
        have hby2 : (j + 1 + 1) * 8 ≤ 140737488355328 := by omega
        go_wp2_with (at_builtin; refine wpList_append_own _ rfl _ _ 22 rfl w.heap.size 2 i0 (.int .i64 0) 1 8 Tryd.underlying22 hi hz0 hz1 hz2 rfl (by decide) (.slice A1 (j + 1) c1) (j + 1) (qs.map (Value.int .i64)) rfl (World.ownsRow.alloc ho2 _) ⟨w2.heap.size, 0, none⟩ 1 1 [.int .i64 X] rfl rfl ?s1 ?s2 hml hby2 ?s5 ?_)
        case s1 => exact cell_one_new _ _ _
        case s2 => intro u hu; simp at hu; subst hu; rfl
        case s5 => have := hb12.size; simp; omega
        intro v' w3 hown hg _
        rw [snoc_map, ← HQ1.out] at hown
        have hb3 : Below w.heap.size w w3 := (hb12.alloc hb12.size _).grown hg (by have := hb12.size; simp; omega) (fun g hgr => (World.ownsRow.lt ho2 g hgr).1)
        obtain ⟨A2, c2, hv, ho3⟩ := own_shape hown
        rw [hv]
        clear hg hown hv
        go_wp2_with fail
        go_roundw
        case rel => exact ⟨j + 1, A2, c2, by omega, by go_num, rfl, ho3, hb3, HB1⟩
        case measure => simp [intOf]; omega
    · obtain rfl : j = k := by omega
      go_wp2
      go_ret2
      exact .inl ⟨HI.out, A1, c1, rfl, ho, hb⟩
end Go.Proofs.YtcojodkcpemfdaaDoor
namespace Go.Proofs.YtcojodkcpemfdaaDoor
open Go Go.RowKit
set_option linter.unusedVariables false
set_option maxRecDepth 100000

def pS (f : Nat → Int) : List Nat → Int
  | [] => 0
  | s :: l => f s + pS f l
theorem pS_append (f : Nat → Int) (b : List Nat) : ∀ a, pS f (a ++ b) = pS f a + pS f b
  | [] => by simp [pS]
  | s :: a => by rw [List.cons_append, pS, pS, pS_append f b a]; omega
theorem pS_map (f : Nat → Int) (g : Nat → Nat) : ∀ a, pS f (a.map g) = pS (fun s => f (g s)) a
  | [] => rfl
  | s :: a => by rw [List.map_cons, pS, pS, pS_map f g a]
theorem pS_congr (f g : Nat → Int) : ∀ a, (∀ s, s ∈ a → f s = g s) → pS f a = pS g a
  | [], _ => rfl
  | s :: a, h => by rw [pS, pS, h s List.mem_cons_self, pS_congr f g a fun t ht => h t (List.mem_cons_of_mem _ ht)]
theorem pS_neg (f : Nat → Int) : ∀ a, pS (fun s => - f s) a = - pS f a
  | [] => rfl
  | s :: a => by rw [pS, pS, pS_neg f a]; omega
theorem pS_zero : ∀ a, pS (fun _ => 0) a = 0
  | [] => rfl
  | s :: a => by rw [pS, pS_zero a]; rfl
/-- What a set of k letters adds. -/
def kT (M : Nat → Int) (m k : Nat) : Int := if k ≤ m then sgnM k * M (m - k) else 0
def allP (p : Nat → Bool) (s : Nat) : Bool := (List.range 8).all fun i => !s.testBit i || p i
theorem allP_iff (p : Nat → Bool) (s : Nat) (hs : s < 256) : allP p s = true ↔ ∀ i, s.testBit i = true → p i = true := by
  unfold allP
  rw [List.all_eq_true]
  constructor
  · intro h i hi
    have h8 : i < 8 := by
      rcases Nat.lt_or_ge i 8 with h9 | h9
      · exact h9
      · rw [Nat.testBit_lt_two_pow (Nat.lt_of_lt_of_le hs (Nat.pow_le_pow_right (by decide) h9 : 2 ^ 8 ≤ 2 ^ i))] at hi; cases hi
    have := h i (List.mem_range.2 h8)
    rw [hi] at this; simpa using this
  · intro h i _
    cases e : s.testBit i with
    | false => rfl
    | true => rw [h i e]; rfl
theorem ones24_or (s k : Nat) (hk : k < 8) (hs : s < 2 ^ k) : ones24 (s ||| 2 ^ k) = ones24 s + 1 := by
  have h1 : ∀ k, k < 8 → ∀ s, s < 2 ^ k → ones8 (s ||| 2 ^ k) = ones8 s + 1 := by decide
  have h256 : 2 ^ k ≤ 128 := Nat.pow_le_pow_right (by decide) (by omega : k ≤ 7)
  have hor : s ||| 2 ^ k < 256 := Nat.or_lt_two_pow (n := 8) (by omega) (by omega)
  have h2 := h1 k hk s hs
  unfold ones24
  rw [show s / 256 % 256 = 0 by omega, show s / 65536 = 0 by omega, show s % 256 = s by omega, show (s ||| 2 ^ k) / 256 % 256 = 0 by omega, show (s ||| 2 ^ k) / 65536 = 0 by omega, show (s ||| 2 ^ k) % 256 = (s ||| 2 ^ k) by omega]
  omega
theorem sgnM_next (k : Nat) : sgnM (k + 1) = - sgnM k := by unfold sgnM; omega
theorem kT_next (M : Nat → Int) (m k : Nat) : kT M (m + 1) (k + 1) = - kT M m k := by
  unfold kT
  by_cases h : k ≤ m
  · rw [if_pos h, if_pos (by omega), sgnM_next, Int.neg_mul, show m + 1 - (k + 1) = m - k by omega]
  · rw [if_neg h, if_neg (by omega)]; rfl
theorem kT_low (M : Nat → Int) (k : Nat) : kT M 0 (k + 1) = 0 := by unfold kT; rw [if_neg (by omega)]
theorem filter_map' (f : Nat → Nat) (q : Nat → Bool) : ∀ l : List Nat, (l.map f).filter q = (l.filter fun s => q (f s)).map f
  | [] => rfl
  | s :: l => by
    rw [List.map_cons, List.filter_cons, List.filter_cons, filter_map' f q l]
    split <;> rfl
/-- The sets within p: the sum over them, letter after letter. -/
theorem fam_sum (D : Nat → Nat → Bool) (M : Nat → Int) (fit : Nat → Nat → Bool) (n : Nat) (h8 : n ≤ 8) (hfit : ∀ s k, k < n → s < 2 ^ k → fit s k = allP (fun x => !D k x) s) :
    ∀ k, k ≤ n → ∀ p m, pS (fun s => kT M m (ones24 s)) ((famM fit (List.range k)).filter (allP p)) = gAll D M m ((List.range k).filter p).reverse := by
  intro k
  induction k with
  | zero =>
    intro _ p m
    have e0 : (famM fit (List.range 0)).filter (allP p) = [0] := by
      have : allP p 0 = true := (allP_iff p 0 (by decide)).2 (fun i hi => by simp at hi)
      show ([0] : List Nat).filter (allP p) = [0]
      rw [List.filter_cons, this]; rfl
    rw [e0]
    have o0 : ones24 0 = 0 := by decide
    show kT M m (ones24 0) + 0 = _
    rw [o0]
    unfold kT
    rw [if_pos (Nat.zero_le _), show sgnM 0 = 1 by decide]
    cases m with
    | zero => show 1 * M 0 + 0 = M 0; omega
    | succ m => show 1 * M (m + 1) + 0 = M (m + 1); omega
  | succ k ih =>
    intro hk p m
    have ih' := ih (by omega)
    have hlt : ∀ s, s ∈ famM fit (List.range k) → s < 2 ^ k := famM_lt fit (List.range k) k (fun q hq => List.mem_range.1 hq)
    have hp256 : 2 ^ k ≤ 128 := Nat.pow_le_pow_right (by decide) (by omega : k ≤ 7)
    rw [List.range_succ, famM_snoc]
    unfold famStep
    rw [List.filter_append, pS_append, ih' p m, filter_map', pS_map, List.filter_append]
    have hor : ∀ s, s < 2 ^ k → allP p (s ||| 2 ^ k) = (allP p s && p k) := by
      intro s hs
      rw [Bool.eq_iff_iff, Bool.and_eq_true, allP_iff p _ (Nat.or_lt_two_pow (n := 8) (by omega) (by omega)), allP_iff p s (by omega)]
      constructor
      · intro h
        exact ⟨fun i hi => h i (by rw [Nat.testBit_or, hi]; rfl), h k (by rw [Nat.testBit_or, Nat.testBit_two_pow_self, Bool.or_true])⟩
      · rintro ⟨h1, h2⟩ i hi
        rw [Nat.testBit_or, Bool.or_eq_true] at hi
        rcases hi with hi | hi
        · exact h1 i hi
        · rw [Nat.testBit_two_pow] at hi
          have : k = i := by simpa using hi
          rw [← this]; exact h2
    by_cases hp : p k = true
    · have e1 : [k].filter p = [k] := by simp [hp]
      rw [e1, List.reverse_append, List.reverse_singleton, List.singleton_append]
      have e2 : ((famM fit (List.range k)).filter fun s => fit s k).filter (fun s => allP p (s ||| 2 ^ k)) = (famM fit (List.range k)).filter (allP fun x => p x && !D k x) := by
        rw [List.filter_filter]
        refine List.filter_congr fun s hs => ?_
        have hs2 := hlt s hs
        rw [hor s hs2, hp, Bool.and_true, hfit s k (by omega) hs2, Bool.eq_iff_iff, Bool.and_eq_true, allP_iff _ s (by omega), allP_iff _ s (by omega), allP_iff _ s (by omega)]
        constructor
        · rintro ⟨h1, h2⟩ i hi
          rw [h1 i hi, h2 i hi]; rfl
        · intro h
          refine ⟨fun i hi => ?_, fun i hi => ?_⟩
          · have := h i hi
            rw [Bool.and_eq_true] at this; exact this.1
          · have := h i hi
            rw [Bool.and_eq_true] at this; exact this.2
      rw [e2]
      have e3 : ∀ s, s ∈ (famM fit (List.range k)).filter (allP fun x => p x && !D k x) → kT M m (ones24 (s ||| 2 ^ k)) = kT M m (ones24 s + 1) := fun s hs => by
        rw [ones24_or s k (by omega) (hlt s (List.mem_filter.1 hs).1)]
      rw [pS_congr _ _ _ e3]
      have e4 : (((List.range k).filter p).reverse).filter (fun x => !D k x) = ((List.range k).filter fun x => p x && !D k x).reverse := by
        rw [List.filter_reverse, List.filter_filter]
        congr 1
        exact List.filter_congr fun x _ => Bool.and_comm _ _
      cases m with
      | zero =>
        rw [pS_congr _ (fun _ => 0) _ (fun s _ => kT_low M (ones24 s)), pS_zero]
        show gAll D M 0 _ + 0 = gAll D M 0 _
        rw [Int.add_zero]; rfl
      | succ m =>
        rw [pS_congr _ (fun s => - kT M m (ones24 s)) _ (fun s _ => kT_next M m (ones24 s)), pS_neg, ih' _ m]
        show gStep D (M (m + 1)) (gAll D M m) _ + _ = gStep D (M (m + 1)) (gAll D M m) (k :: _)
        rw [gStep, e4]; rfl
    · have e1 : [k].filter p = [] := by simp [hp]
      rw [e1, List.append_nil]
      have e2 : ((famM fit (List.range k)).filter fun s => fit s k).filter (fun s => allP p (s ||| 2 ^ k)) = [] := by
        rw [List.filter_eq_nil_iff]
        intro s hs
        rw [hor s (hlt s (List.mem_filter.1 hs).1)]
        simp [hp]
      rw [e2]
      show _ + (0 : Int) = _
      rw [Int.add_zero]
/-- A list of coefficients against a function. -/
def lS (f : Nat → Int) : List Int → Nat → Int
  | [], _ => 0
  | x :: l, j => x * f j + lS f l (j + 1)
theorem lS_zeros (f : Nat → Int) : ∀ k (l : List Int) j, lS f (l ++ List.replicate k 0) j = lS f l j := by
  have h0 : ∀ k j, lS f (List.replicate k 0) j = 0 := by
    intro k
    induction k with
    | zero => intro j; rfl
    | succ k ih => intro j; rw [List.replicate_succ, lS, ih]; simp
  intro k l
  induction l with
  | nil => intro j; exact h0 k j
  | cons x l ih => intro j; rw [List.cons_append, lS, lS, ih]
theorem lS_set (f : Nat → Int) (v : Int) : ∀ (l : List Int) (k j : Nat), k < l.length → lS f (l.set k (l.getD k 0 + v)) j = lS f l j + v * f (j + k)
  | [], k, j, h => by simp at h
  | x :: l, 0, j, _ => by
    show (x + v) * f j + lS f l (j + 1) = x * f j + lS f l (j + 1) + v * f (j + 0)
    rw [Int.add_mul, show j + 0 = j from rfl]; omega
  | x :: l, k + 1, j, h => by
    have ih := lS_set f v l k (j + 1) (by simp at h; omega)
    show x * f j + lS f (l.set k (l.getD k 0 + v)) (j + 1) = x * f j + lS f l (j + 1) + v * f (j + (k + 1))
    rw [ih, show j + 1 + k = j + (k + 1) by omega]; omega
theorem lS_step (f : Nat → Int) (xs : List Int) (s : Nat) : lS f (cpStep xs s) 0 = lS f xs 0 + sgnM (ones24 s) * f (ones24 s) := by
  unfold cpStep
  rw [lS_set f _ _ _ 0 (by rw [padM_len]; omega), Nat.zero_add]
  congr 1
  unfold padM
  exact lS_zeros f _ xs 0
theorem lS_cp (f : Nat → Int) : ∀ (fs : List Nat) (xs : List Int), lS f (fs.foldl cpStep xs) 0 = lS f xs 0 + pS (fun s => sgnM (ones24 s) * f (ones24 s)) fs
  | [], xs => by simp [pS]
  | s :: fs, xs => by rw [List.foldl_cons, lS_cp f fs, lS_step, pS]; omega
end Go.Proofs.YtcojodkcpemfdaaDoor
namespace Go.Proofs.YtcojodkcpemfdaaDoor
open Go Go.RowKit
set_option linter.unusedVariables false
set_option maxRecDepth 100000

theorem rdepS_sym (rs : List Nat) (n : Nat) (hn : rs.length = n) (hr : ∀ i, rs.getD i 0 < 2 ^ n) (hd : Dep rs) : ∀ a b, RDep rs a b = RDep rs b a := by
  have hout : ∀ a b, n ≤ a ∨ n ≤ b → RDep rs a b = false := by
    intro a b h
    unfold RDep
    rcases Nat.lt_or_ge a n with ha | ha
    · have hb : n ≤ b := by omega
      exact Nat.testBit_lt_two_pow (Nat.lt_of_lt_of_le (hr a) (Nat.pow_le_pow_right (by decide) hb))
    · rw [List.getD_eq_getElem?_getD, List.getElem?_eq_none (by omega)]; simp
  intro a b
  rcases Nat.lt_or_ge a n with ha | ha
  · rcases Nat.lt_or_ge b n with hb | hb
    · rw [Bool.eq_iff_iff]; exact hd.2 a b (by omega) (by omega)
    · rw [hout a b (.inr hb), hout b a (.inl hb)]
  · rw [hout a b (.inl ha), hout b a (.inr ha)]
theorem fit_ind (rs : List Nat) (n : Nat) (hn : rs.length = n) (h8 : n ≤ 8) (hr : ∀ i, rs.getD i 0 < 2 ^ n) (hd : Dep rs) (s k : Nat) (hk : k < n) (hs : s < 2 ^ k) : fitC (mutM (cplM rs)) s k = allP (fun x => !RDep rs k x) s := by
  have h24 : n ≤ 24 := by omega
  have hcl : (cplM rs).length = n := by rw [cplM_len, hn]
  have hclt := cplM_lt rs n hn h24 hr
  have hs2 : s < 2 ^ n := Nat.lt_trans hs (Nat.pow_lt_pow_right (by decide) hk)
  have hp := p24 n h24
  have hp8 : 2 ^ n ≤ 256 := Nat.pow_le_pow_right (by decide) h8
  have hmk := mutM_lt (cplM rs) n hcl hclt k
  rw [Bool.eq_iff_iff, allP_iff _ s (by omega)]
  unfold fitC
  rw [beq_iff_eq, dif_zero s _ (by omega) (by omega)]
  have hu : ∀ b, (((mutM (cplM rs)).getD k 0).testBit b = true ↔ b < n ∧ (¬ R rs k b ∨ b = k)) := by
    intro b
    rw [mutM_bit (cplM rs) n hcl k b hk]
    constructor
    · rintro ⟨h1, h2, h3⟩
      exact (cpl_R rs n hn h24 hr k b hk).1 h3
    · rintro ⟨h1, h2⟩
      refine ⟨h1, (cpl_R rs n hn h24 hr b k h1).2 ⟨hk, ?_⟩, (cpl_R rs n hn h24 hr k b hk).2 ⟨h1, h2⟩⟩
      rcases h2 with h2 | h2
      · exact .inl fun e => h2 ((hd.2 k b (by omega) (by omega)).2 e)
      · exact .inr h2.symm
  constructor
  · intro h b hb
    have hbk := bit_lt hs hb
    rcases ((hu b).1 (h b hb)).2 with h1 | h1
    · have : RDep rs k b = false := by
        cases e : RDep rs k b
        · rfl
        · exact absurd e h1
      rw [this]; rfl
    · omega
  · intro h b hb
    have hbk := bit_lt hs hb
    refine (hu b).2 ⟨by omega, .inl fun e => ?_⟩
    have h1 := h b hb
    have e' : RDep rs k b = true := e
    rw [e'] at h1; cases h1
def traM (rs : List Nat) (m : Nat) : Int := tM (RDep rs) rs.length m
theorem traM_zero (rs : List Nat) : traM rs 0 = 1 := rfl
theorem steps_sum (rs : List Nat) (n : Nat) (hn : rs.length = n) (h8 : n ≤ 8) (hr : ∀ i, rs.getD i 0 < 2 ^ n) (hd : Dep rs) (m : Nat) :
    pS (fun s => kT (traM rs) m (ones24 s)) (stepsM rs) = if m = 0 then 1 else 0 := by
  have hsym := rdepS_sym rs n hn hr hd
  have h1 := fam_sum (RDep rs) (traM rs) (fitC (mutM (cplM rs))) n h8 (fun s k hk hs => fit_ind rs n hn h8 hr hd s k hk hs) n (Nat.le_refl _) (fun _ => true) m
  have e0 : (famM (fitC (mutM (cplM rs))) (List.range n)).filter (allP fun _ => true) = stepsM rs := by
    rw [← steps_eq rs n hn h8 hr hd]
    unfold cliqM
    rw [cplM_len, hn, List.filter_eq_self]
    intro s _
    unfold allP
    rw [List.all_eq_true]
    intro i _; rw [Bool.or_true]
  have e1 : (List.range n).filter (fun _ => true) = List.range n := List.filter_eq_self.2 fun _ _ => rfl
  rw [e0, e1] at h1
  rw [h1]
  have hM : traM rs = tM (RDep rs) n := by funext q; unfold traM; rw [hn]
  rw [hM, gAll_perm (RDep rs) (tM (RDep rs) n) hsym m _ _ (List.reverse_perm _)]
  cases m with
  | zero => rfl
  | succ m => rw [gAll_full (RDep rs) hsym n m, if_neg (by omega)]
def fM (M : Nat → Int) (m j : Nat) : Int := if j ≤ m then M (m - j) else 0
theorem poly_sum (rs : List Nat) (n : Nat) (hn : rs.length = n) (h8 : n ≤ 8) (hr : ∀ i, rs.getD i 0 < 2 ^ n) (hd : Dep rs) (m : Nat) :
    lS (fM (traM rs) m) (cpM (stepsM rs)) 0 = if m = 0 then 1 else 0 := by
  unfold cpM
  rw [lS_cp, ← steps_sum rs n hn h8 hr hd m]
  show 0 + _ = _
  rw [Int.zero_add]
  refine pS_congr _ _ _ fun s _ => ?_
  unfold kT fM
  split
  · rfl
  · rw [Int.mul_zero]
theorem lS_low (f : Nat → Int) (a : Nat) (h : ∀ j, a ≤ j → f j = 0) : ∀ (l : List Int) (j : Nat), a ≤ j → lS f l j = 0
  | [], _, _ => rfl
  | x :: l, j, hj => by rw [lS, h j hj, lS_low f a h l (j + 1) (by omega)]; simp
theorem lS_append (f : Nat → Int) (b : List Int) : ∀ (a : List Int) (j : Nat), lS f (a ++ b) j = lS f a j + lS f b (j + a.length)
  | [], j => by simp [lS]
  | x :: a, j => by rw [List.cons_append, lS, lS, lS_append f b a (j + 1), List.length_cons, show j + 1 + a.length = j + (a.length + 1) by omega]; omega
/-- The coefficient of the empty set is 1. -/
theorem poly_head (rs : List Nat) (n : Nat) (hn : rs.length = n) (h8 : n ≤ 8) (hr : ∀ i, rs.getD i 0 < 2 ^ n) (hd : Dep rs) : ∃ l, cpM (stepsM rs) = 1 :: l := by
  have h := poly_sum rs n hn h8 hr hd 0
  cases e : cpM (stepsM rs) with
  | nil => rw [e] at h; simp [lS] at h
  | cons x l =>
    rw [e] at h
    have e0 : fM (traM rs) 0 0 = 1 := rfl
    rw [lS, e0, lS_low _ 1 (fun j hj => by unfold fM; rw [if_neg (by omega)]) l 1 (Nat.le_refl _), if_pos rfl] at h
    exact ⟨l, by rw [show x = 1 by omega]⟩
theorem cv_lS (M : Nat → Int) (m : Nat) (l q : List Int) (hq : q = (List.range (m + 1)).map M) : ∀ K, K ≤ l.length → K ≤ m + 1 → cvS (1 :: l) q K = - lS (fM M (m + 1)) (l.take K) 1
  | 0, _, _ => by simp [cvS, lS]
  | K + 1, h1, h2 => by
    have ih := cv_lS M m l q hq K (by omega) (by omega)
    have hl : l[K]? = some l[K] := List.getElem?_eq_getElem (by omega)
    rw [cvS, ih, List.take_add_one, hl]
    show _ = - lS (fM M (m + 1)) (l.take K ++ [l[K]]) 1
    rw [lS_append, List.length_take, Nat.min_eq_left (by omega)]
    have e1 : (1 :: l).getD (K + 1) 0 = l[K] := by rw [List.getD_eq_getElem?_getD, List.getElem?_cons_succ, hl]; rfl
    have e2 : q.getD (q.length - (K + 1)) 0 = M (m - K) := by
      rw [hq, List.length_map, List.length_range, List.getD_eq_getElem?_getD, List.getElem?_map, List.getElem?_range (by omega)]
      show M (m + 1 - (K + 1)) = _
      rw [show m + 1 - (K + 1) = m - K by omega]
    have e3 : lS (fM M (m + 1)) [l[K]] (1 + K) = l[K] * M (m - K) := by
      show l[K] * fM M (m + 1) (1 + K) + 0 = _
      unfold fM
      rw [if_pos (by omega), show m + 1 - (1 + K) = m - K by omega, Int.add_zero]
    rw [e1, e2, e3]; omega
theorem next_tra (rs : List Nat) (n : Nat) (hn : rs.length = n) (h8 : n ≤ 8) (hr : ∀ i, rs.getD i 0 < 2 ^ n) (hd : Dep rs) (m : Nat) (q : List Int) (hq : q = (List.range (m + 1)).map (traM rs)) :
    nextV (cpM (stepsM rs)) q = traM rs (m + 1) := by
  obtain ⟨l, hl⟩ := poly_head rs n hn h8 hr hd
  have h := poly_sum rs n hn h8 hr hd (m + 1)
  rw [hl] at h ⊢
  have hqm : q.length = m + 1 := by rw [hq, List.length_map, List.length_range]
  unfold nextV cvN
  rw [hqm, List.length_cons, Nat.add_sub_cancel]
  obtain ⟨K, hK⟩ : ∃ K, K = min l.length (m + 1) := ⟨_, rfl⟩
  rw [← hK, cv_lS (traM rs) m l q hq K (by omega) (by omega)]
  rw [lS, if_neg (by omega)] at h
  have e0 : fM (traM rs) (m + 1) 0 = traM rs (m + 1) := rfl
  rw [e0] at h
  have e1 : lS (fM (traM rs) (m + 1)) l 1 = lS (fM (traM rs) (m + 1)) (l.take K) 1 := by
    conv => lhs; rw [← List.take_append_drop K l]
    rw [lS_append, List.length_take]
    by_cases hlm : l.length ≤ m + 1
    · rw [List.drop_of_length_le (by omega)]; simp [lS]
    · rw [lS_low _ (m + 2) (fun j hj => by unfold fM; rw [if_neg (by omega)]) (l.drop K) _ (by omega), Int.add_zero]
  rw [e1] at h
  omega
theorem inv_tra (rs : List Nat) (n : Nat) (hn : rs.length = n) (h8 : n ≤ 8) (hr : ∀ i, rs.getD i 0 < 2 ^ n) (hd : Dep rs) : ∀ m, invQ (cpM (stepsM rs)) m = (List.range (m + 1)).map (traM rs)
  | 0 => rfl
  | m + 1 => by
    have ih := inv_tra rs n hn h8 hr hd m
    rw [invQ, next_tra rs n hn h8 hr hd m _ ih, ih, List.range_succ (n := m + 1), List.map_append]; rfl
theorem tra_nonneg (rs : List Nat) (m : Nat) : 0 ≤ traM rs m := tp_nonneg _ _ _ _
theorem tra_none (rs : List Nat) (h : rs.length = 0) (m : Nat) : traM rs (m + 1) = 0 := by
  unfold traM; rw [h]; rfl
def cntC : Int := 1000000000000000
/-- The inverse stays small exactly if its last element is. -/
theorem inv_ok (rs : List Nat) (n : Nat) (hn : rs.length = n) (h8 : n ≤ 8) (hr : ∀ i, rs.getD i 0 < 2 ^ n) (hd : Dep rs) : ∀ m, invB (cpM (stepsM rs)) m = decide (traM rs m ≤ cntC)
  | 0 => by rw [traM_zero]; rfl
  | m + 1 => by
    rw [invB, inv_ok rs n hn h8 hr hd m, next_tra rs n hn h8 hr hd m _ (inv_tra rs n hn h8 hr hd m)]
    have h0 := tra_nonneg rs (m + 1)
    have hm : traM rs m ≤ traM rs (m + 1) ∨ traM rs m ≤ 1 ∧ traM rs (m + 1) = 0 := by
      rcases Nat.eq_zero_or_pos rs.length with e | e
      · right
        refine ⟨?_, tra_none rs e m⟩
        cases m with
        | zero => rw [traM_zero]; decide
        | succ m => rw [tra_none rs e m]; decide
      · exact .inl (tM_mono (RDep rs) rs.length m e)
    unfold maxB cntC
    rw [Bool.eq_iff_iff, Bool.and_eq_true, decide_eq_true_eq, decide_eq_true_eq, decide_eq_true_eq]
    omega
end Go.Proofs.YtcojodkcpemfdaaDoor
namespace Go.Proofs.YtcojodkcpemfdaaDoor
open Go Go.RowKit
set_option linter.unusedVariables false
set_option maxRecDepth 100000

/-- The number and whether it is small. -/
def ctN (rs : List Nat) (k : Nat) : Int := if traM rs k ≤ cntC then traM rs k else 0
def ctB (rs : List Nat) (k : Nat) : Bool := decide (traM rs k ≤ cntC)
theorem poly_small (rs : List Nat) (n : Nat) (hn : rs.length = n) (h8 : n ≤ 8) (i : Nat) : -1000 ≤ (cpM (stepsM rs)).getD i 0 ∧ (cpM (stepsM rs)).getD i 0 ≤ 1000 := by
  have h1 := (cp_facts (stepsM rs) (steps_lt rs (by omega)) _ (Nat.le_refl _)).2 i
  rw [List.take_length] at h1
  have h2 := stepsM_len rs (by omega)
  omega
set_option maxHeartbeats 800000 in
theorem countTraces_any (A : Option Addr) (n c k : Nat) (rs : List Nat) (w : World) (h : Rd w A n (ints rs)) (h8 : n ≤ 8) (hr : ∀ i, rs.getD i 0 < 2 ^ n) (hd : Dep rs) (hT : Tab w) (hk : k ≤ 24) :
    Calls Tryd.prog 153 #[.slice A n c, .int .i64 (k : Int)] w fun e w' => e = .returned (.tuple #[.int .i64 (ctN rs k), .bool (ctB rs k)]) ∧ Below w.heap.size w w' := by
  have hl : rs.length = n := by have := h.1; rw [ints_len] at this; exact this
  have HP := Lib.hid (poly_small rs n hl h8)
  have HCP := Lib.hid (cliquePolynomial_any A n c rs w h h8 hr hd hT)
  have hplen := cpM_len rs (by omega)
  have HOK := Lib.hid (inv_ok rs n hl h8 hr hd k)
  have HQ := Lib.hid (inv_tra rs n hl h8 hr hd k)
  obtain ⟨ps, hps⟩ : ∃ ps, ps = cpM (stepsM rs) := ⟨_, rfl⟩
  rw [← hps] at HP HCP hplen HOK HQ
  obtain ⟨P, hP⟩ : ∃ P, P = ps.length := ⟨_, rfl⟩
  rw [← hP] at HCP hplen
  have HN : Hid (ctN rs k = if traM rs k ≤ cntC then traM rs k else 0) := Lib.hid rfl
  have HBB : Hid (ctB rs k = decide (traM rs k ≤ cntC)) := Lib.hid rfl
  clear hl hps hP h hr hd hT
  go_enter Tryd.func153, Tryd.ntmps153
  go_wp2_with fail
  refine HCP.out.mono ?_
  rintro e w1 ⟨A1, c1, rfl, ho1, hb1⟩
  have HI := Lib.hid (inverse_any A1 P c1 k ps w1 ho1.rd (by omega) hk HP.out)
  go_wp2_with fail
  refine HI.out.mono ?_
  by_cases hM : traM rs k ≤ cntC
  · have HT := Lib.hid hM
    rintro e w2 (⟨hi, A2, c2, rfl, ho2, hb2⟩ | ⟨hi, _⟩)
    · have hb12 := hb1.trans (hb2.mono hb1.size)
      rw [HQ.out] at ho2
      have hx : ((List.range (k + 1)).map (traM rs))[k]? = some (traM rs k) := by rw [List.getElem?_map, List.getElem?_range (by omega)]; rfl
      obtain ⟨g, rfl, hgB, hgl⟩ := ho2.form (by omega)
      have hc := ho2.cell hx
      obtain ⟨V, hV⟩ : ∃ V, V = traM rs k := ⟨_, rfl⟩
      rw [← hV] at hc
      have HVV := Lib.hid hV
      have hk1 : k < k + 1 := Nat.lt_succ_self k
      clear hi hM hx hV ho2
      go_wp2_with fail
      go_ret2
      rw [HN.out, HBB.out, if_pos HT.out, decide_eq_true HT.out, ← HVV.out]
      exact ⟨rfl, hb12⟩
    · rw [HOK.out, decide_eq_true HT.out] at hi; cases hi
  · have HT := Lib.hid hM
    rintro e w2 (⟨hi, _⟩ | ⟨hi, rfl, hb2⟩)
    · rw [HOK.out, decide_eq_false (by have := HT.out; omega)] at hi; cases hi
    · have hb12 := hb1.trans (hb2.mono hb1.size)
      clear hi hM
      go_wp2_with fail
      go_ret2
      rw [HN.out, HBB.out, if_neg (by have := HT.out; omega), decide_eq_false (by have := HT.out; omega)]
      exact ⟨rfl, hb12⟩
end Go.Proofs.YtcojodkcpemfdaaDoor
