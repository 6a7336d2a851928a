/-
  Mathematics of all symmetries: level by level is letter by letter. All symmetries: the program's side. SymmetriesOf: the program's side. SymmetriesOf: the model's side. SymmetriesOf: the model's recursion. SymmetriesOf: the model's side.
-/
import Derived.Test.YtcojodkcpemfdaaDoorMq
import Derived.Deep.RegionHeld3
import Derived.Deep.AppendLies
namespace Go.Proofs.YtcojodkcpemfdaaDoor
open Go Go.RowKit
set_option linter.unusedVariables false
set_option maxRecDepth 100000

/-- The beginnings of symmetries that are one letter longer. -/
def extS (rs : List Nat) (n : Nat) (s : List Nat) : List (List Nat) := ((List.range n).filter (fitB rs s)).map fun b => s ++ [b]
def levS (rs : List Nat) (n : Nat) : Nat → List (List Nat)
  | 0 => [[]]
  | k + 1 => (levS rs n k).flatMap (extS rs n)
/-- All symmetries that begin so, with k letters more. -/
def fullS (rs : List Nat) (n : Nat) : Nat → List Nat → List (List Nat)
  | 0, s => [s]
  | k + 1, s => (extS rs n s).flatMap (fullS rs n k)
theorem fullS_zero (rs : List Nat) (n : Nat) (s : List Nat) : fullS rs n 0 s = [s] := rfl
theorem fullS_succ (rs : List Nat) (n k : Nat) (s : List Nat) : fullS rs n (k + 1) s = (extS rs n s).flatMap (fullS rs n k) := rfl
theorem levS_full (rs : List Nat) (n : Nat) : ∀ k j, (levS rs n j).flatMap (fullS rs n k) = levS rs n (j + k)
  | 0, j => by
    have : ∀ l : List (List Nat), l.flatMap (fullS rs n 0) = l := fun l => by
      induction l with
      | nil => rfl
      | cons x l ih => rw [List.flatMap_cons, ih]; rfl
    exact this _
  | k + 1, j => by
    have h := levS_full rs n k (j + 1)
    have e : levS rs n (j + 1) = (levS rs n j).flatMap (extS rs n) := rfl
    rw [e, List.flatMap_assoc] at h
    rw [show j + (k + 1) = j + 1 + k by omega, ← h]; rfl
theorem levS_all (rs : List Nat) (n : Nat) : fullS rs n n [] = levS rs n n := by
  have h := levS_full rs n n 0
  rw [Nat.zero_add] at h
  rw [← h]
  show _ = [[]].flatMap _
  rw [List.flatMap_cons, List.flatMap_nil, List.append_nil]
/-- What has been gone through of the letters that can come next. -/
def partS (rs : List Nat) (n k : Nat) (s : List Nat) (b : Nat) : List (List Nat) := (((List.range b).filter (fitB rs s)).map fun b => s ++ [b]).flatMap (fullS rs n k)
theorem partS_zero (rs : List Nat) (n k : Nat) (s : List Nat) : partS rs n k s 0 = [] := rfl
theorem partS_yes (rs : List Nat) (n k : Nat) (s : List Nat) (b : Nat) (h : fitB rs s b = true) : partS rs n k s (b + 1) = partS rs n k s b ++ fullS rs n k (s ++ [b]) := by
  unfold partS
  rw [List.range_succ, List.filter_append, List.map_append, List.flatMap_append]
  congr 1
  simp [h]
theorem partS_no (rs : List Nat) (n k : Nat) (s : List Nat) (b : Nat) (h : fitB rs s b = false) : partS rs n k s (b + 1) = partS rs n k s b := by
  unfold partS
  rw [List.range_succ, List.filter_append, List.map_append, List.flatMap_append]
  simp [h]
theorem partS_all (rs : List Nat) (n k : Nat) (s : List Nat) : partS rs n k s n = fullS rs n (k + 1) s := rfl
/-- The list so far, and no more than one above the limit. -/
def capS (l : List (List Nat)) : List (List Nat) := l.take 1001
theorem capS_full (l m : List (List Nat)) (h : 1000 < (capS l).length) : capS (l ++ m) = capS l := by
  have h2 : 1001 ≤ l.length := by unfold capS at h; rw [List.length_take] at h; omega
  unfold capS; rw [List.take_append_of_le_length h2]
theorem capS_app (l m : List (List Nat)) : capS (capS l ++ m) = capS (l ++ m) := by
  unfold capS
  rcases Nat.lt_or_ge l.length 1001 with h | h
  · rw [List.take_of_length_le (l := l) (by omega)]
  · rw [List.take_append_of_le_length (by rw [List.length_take]; omega), List.take_take, Nat.min_self, List.take_append_of_le_length h]
theorem capS_small (l : List (List Nat)) (h : l.length ≤ 1001) : capS l = l := List.take_of_length_le h
theorem capS_len (l : List (List Nat)) : (capS l).length ≤ 1001 := by unfold capS; rw [List.length_take]; omega
theorem capS_over (l : List (List Nat)) : 1000 < (capS l).length ↔ 1000 < l.length := by unfold capS; rw [List.length_take]; omega
theorem extS_len (rs : List Nat) (n : Nat) (s t : List Nat) (h : t ∈ extS rs n s) : t.length = s.length + 1 ∧ ∀ x, x ∈ t → x ∈ s ∨ x < n := by
  obtain ⟨b, hb, rfl⟩ := List.mem_map.1 h
  have hb := (List.mem_filter.1 hb).1
  refine ⟨by rw [List.length_append]; rfl, fun x hx => ?_⟩
  rcases List.mem_append.1 hx with h1 | h1
  · exact .inl h1
  · rw [List.mem_singleton.1 h1]; exact .inr (List.mem_range.1 hb)
theorem levS_mem (rs : List Nat) (n : Nat) : ∀ k t, t ∈ levS rs n k → t.length = k ∧ ∀ x, x ∈ t → x < n
  | 0, t, h => by rw [List.mem_singleton.1 h]; exact ⟨rfl, fun x hx => by cases hx⟩
  | k + 1, t, h => by
    obtain ⟨s, hs, ht⟩ := List.mem_flatMap.1 h
    have h1 := levS_mem rs n k s hs
    have h2 := extS_len rs n s t ht
    exact ⟨by omega, fun x hx => (h2.2 x hx).elim (h1.2 x) id⟩
theorem fullS_len (rs : List Nat) (n : Nat) : ∀ k s t, t ∈ fullS rs n k s → t.length = s.length + k
  | 0, s, t, h => by rw [List.mem_singleton.1 h]; rfl
  | k + 1, s, t, h => by
    obtain ⟨u, hu, ht⟩ := List.mem_flatMap.1 h
    have h1 := extS_len rs n s u hu
    have h2 := fullS_len rs n k u t ht
    omega
/-- Letters that fit are not there yet: so there are never more than 8! of them. -/
theorem fit_new (rs s : List Nat) (b : Nat) (h : fitB rs s b = true) : b ∉ s := fun hb => by
  unfold fitB at h
  rw [List.all_eq_true] at h
  obtain ⟨i, hi, e⟩ := List.mem_iff_getElem.1 hb
  have h1 := h i (List.mem_range.2 hi)
  rw [Bool.and_eq_true, Bool.not_eq_true', beq_eq_false_iff_ne] at h1
  exact h1.1 (by rw [List.getD_eq_getElem?_getD, List.getElem?_eq_getElem hi]; exact e)
theorem levS_nodup (rs : List Nat) (n : Nat) : ∀ k t, t ∈ levS rs n k → t.Nodup
  | 0, t, h => by rw [List.mem_singleton.1 h]; exact List.nodup_nil
  | k + 1, t, h => by
    obtain ⟨s, hs, ht⟩ := List.mem_flatMap.1 h
    obtain ⟨b, hb, rfl⟩ := List.mem_map.1 ht
    have hn := fit_new rs s b (List.mem_filter.1 hb).2
    rw [List.nodup_append]
    refine ⟨levS_nodup rs n k s hs, by simp, fun x hx y hy e => ?_⟩
    rw [List.mem_singleton.1 hy] at e
    exact hn (e ▸ hx)
theorem nodup_below : ∀ (n : Nat) (l : List Nat), l.Nodup → (∀ x, x ∈ l → x < n) → l.length ≤ n
  | 0, l, _, h => by
    cases l with
    | nil => exact Nat.le_refl _
    | cons x l => exact absurd (h x List.mem_cons_self) (by omega)
  | n + 1, l, hn, h => by
    by_cases hm : n ∈ l
    · have h1 := nodup_below n (l.erase n) (hn.erase n) (fun x hx => by
        have h2 := h x (List.mem_of_mem_erase hx)
        have h3 : x ≠ n := fun e => by rw [e] at hx; exact (List.Nodup.not_mem_erase hn) hx
        omega)
      rw [List.length_erase_of_mem hm] at h1
      omega
    · have h1 := nodup_below n l hn (fun x hx => by
        have h2 := h x hx
        have h3 : x ≠ n := fun e => by rw [e] at hx; exact hm hx
        omega)
      omega
theorem filt_le (n : Nat) : ∀ (s : List Nat) (p : Nat → Bool), s.Nodup → (∀ x, x ∈ s → x < n) → (∀ b, p b = true → b ∉ s) → ((List.range n).filter p).length + s.length ≤ n := fun s p hn hs hp => by
  have h1 : (((List.range n).filter p) ++ s).Nodup := by
    rw [List.nodup_append]
    exact ⟨List.Pairwise.filter _ List.nodup_range, hn, fun x hx y hy e => hp x (List.mem_filter.1 hx).2 (e ▸ hy)⟩
  have h2 : ∀ x, x ∈ ((List.range n).filter p) ++ s → x ∈ List.range n := fun x hx => by
    rcases List.mem_append.1 hx with h | h
    · exact (List.mem_filter.1 h).1
    · exact List.mem_range.2 (hs x h)
  have h3 := nodup_below n _ h1 fun x hx => List.mem_range.1 (h2 x hx)
  rw [List.length_append] at h3
  exact h3
/-- n (n-1) .. : k factors. -/
def fallF (n : Nat) : Nat → Nat
  | 0 => 1
  | k + 1 => fallF n k * (n - k)
theorem levS_len (rs : List Nat) (n : Nat) : ∀ k, (levS rs n k).length ≤ fallF n k
  | 0 => Nat.le_refl _
  | k + 1 => by
    have key : ∀ l : List (List Nat), (∀ t, t ∈ l → t ∈ levS rs n k) → (l.flatMap (extS rs n)).length ≤ l.length * (n - k) := fun l => by
      induction l with
      | nil => intro _; simp
      | cons s l ih =>
        intro hl
        rw [List.flatMap_cons, List.length_append, List.length_cons, Nat.add_mul, Nat.one_mul]
        have h1 := ih fun t ht => hl t (List.mem_cons_of_mem _ ht)
        have hs := hl s List.mem_cons_self
        have h2 : (extS rs n s).length ≤ n - k := by
          unfold extS
          rw [List.length_map]
          have h3 := filt_le n s (fitB rs s) (levS_nodup rs n k s hs) (levS_mem rs n k s hs).2 (fun b hb => fit_new rs s b hb)
          rw [(levS_mem rs n k s hs).1] at h3
          omega
        omega
    exact Nat.le_trans (key _ fun t h => h) (Nat.mul_le_mul_right _ (levS_len rs n k))
theorem fallF_le (n k : Nat) (hn : n ≤ 8) (hk : k ≤ n) : fallF n k ≤ 40320 := by
  have : ∀ n, n ≤ 8 → ∀ k, k ≤ n → fallF n k ≤ 40320 := by decide
  exact this n hn k hk
end Go.Proofs.YtcojodkcpemfdaaDoor
namespace Go.Proofs.YtcojodkcpemfdaaDoor
open Go Go.RowKit
set_option linter.unusedVariables false
set_option maxRecDepth 100000

def OwnTy (w : World) (lo hi : Nat) (A : Option Addr) (n c : Nat) (ts : List (Option Addr × Nat × List Int)) : Prop :=
  ts.length = n ∧ w.ownsRow lo 97 1 (.slice A n c) n (valsT ts) ∧ (∀ q, A.map (·.block) = some q → q < hi) ∧
  ∀ (j : Nat) (t : Option Addr × Nat × List Int), ts[j]? = some t → Own 2 w lo t.1 t.2.2.length t.2.1 t.2.2 ∧ ∀ q, t.1.map (·.block) = some q → q < hi ∧ A.map (·.block) ≠ some q ∧ ∀ (l : Nat) (u : Option Addr × Nat × List Int), l ≠ j → ts[l]? = some u → u.1.map (·.block) ≠ some q
def OwnSy (w : World) (lo hi : Nat) (A : Option Addr) (n c : Nat) (xss : List (List Int)) : Prop := ∃ ts, ts.map (fun t => t.2.2) = xss ∧ OwnTy w lo hi A n c ts
theorem OwnTy.lt {w : World} {lo hi n c : Nat} {A : Option Addr} {ts : List (Option Addr × Nat × List Int)} (h : OwnTy w lo hi A n c ts) (q : Nat) (hq : A.map (·.block) = some q) : lo ≤ q ∧ q < hi := ⟨(row_block h.2.1 q hq).1, h.2.2.1 q hq⟩
theorem OwnTy.apart {w w' : World} {lo hi n c : Nat} {A : Option Addr} {ts : List (Option Addr × Nat × List Int)} (h : OwnTy w lo hi A n c ts) {row : Option Nat} (hg : w.grownBy w' row) (hne : ∀ r, row = some r → r < lo ∨ hi ≤ r) : OwnTy w' lo hi A n c ts := by
  refine ⟨h.1, row_kept h.2.1 hg (fun q hq e => ?_), h.2.2.1, fun j t ht => ⟨((h.2.2.2 j t ht).1).apart hg (fun q hq e => ?_), (h.2.2.2 j t ht).2⟩⟩
  · have h1 := h.lt q hq
    rcases hne q e with h2 | h2 <;> omega
  · have h1 := ((h.2.2.2 j t ht).1).lt q hq
    have h3 := ((h.2.2.2 j t ht).2 q hq).1
    rcases hne q e with h2 | h2 <;> omega
theorem OwnSy.apart {w w' : World} {lo hi n c : Nat} {A : Option Addr} {xss : List (List Int)} (h : OwnSy w lo hi A n c xss) {row : Option Nat} (hg : w.grownBy w' row) (hne : ∀ r, row = some r → r < lo ∨ hi ≤ r) : OwnSy w' lo hi A n c xss := by
  obtain ⟨ts, e, ho⟩ := h
  exact ⟨ts, e, ho.apart hg hne⟩
theorem OwnSy.below {w w' : World} {lo hi n c : Nat} {A : Option Addr} {xss : List (List Int)} (h : OwnSy w lo hi A n c xss) (hb : Below w.heap.size w w') : OwnSy w' lo hi A n c xss :=
  h.apart (grownBy_of_below hb) (fun r e => by cases e)
theorem OwnSy.len {w : World} {lo hi n c : Nat} {A : Option Addr} {xss : List (List Int)} (h : OwnSy w lo hi A n c xss) : xss.length = n := by
  obtain ⟨ts, e, ho⟩ := h
  rw [← e, List.length_map]; exact ho.1
theorem OwnSy.wide {w : World} {l u l' u' n c : Nat} {A : Option Addr} {xss : List (List Int)} (h : OwnSy w l u A n c xss) (h1 : l' ≤ l) (h2 : u ≤ u') : OwnSy w l' u' A n c xss := by
  obtain ⟨ts, e, ho⟩ := h
  refine ⟨ts, e, ho.1, ?_, fun q hq => Nat.lt_of_lt_of_le (ho.2.2.1 q hq) h2, fun j t hj => ⟨((ho.2.2.2 j t hj).1).mono h1, fun q hq => ⟨Nat.lt_of_lt_of_le ((ho.2.2.2 j t hj).2 q hq).1 h2, ((ho.2.2.2 j t hj).2 q hq).2⟩⟩⟩
  refine ⟨ho.2.1.1, ?_⟩
  rcases ho.2.1.2 with h0 | ⟨g, cap, cur, e, hg, rest⟩
  · exact .inl h0
  · exact .inr ⟨g, cap, cur, e, by omega, rest⟩
theorem OwnSy.nil {w : World} (l u : Nat) : OwnSy w l u none 0 0 [] :=
  ⟨[], rfl, rfl, World.ownsRow_nil w l _ _, fun q hq => (by cases hq), fun j t hj => (by cases hj)⟩
theorem info_sym : (Tryd.prog.info? 97).map (fun i => (i.zero, i.size, i.bytes)) = some (some (.slice none 0 0), 1, 24) := by kernel_rfl
theorem OwnSy.snoc {w w1 w2 : World} {lo n N c : Nat} {A : Option Addr} {v' : Value} {At : Option Addr} {ct : Nat} {ys : List Int}
    {ts : List (Option Addr × Nat × List Int)} (h : OwnTy w lo w.heap.size A n c ts) (hb : Below w.heap.size w w1) (ho : Own 2 w1 w.heap.size At N ct ys) (hlo : lo ≤ w.heap.size)
    (hrow : w2.ownsRow lo 97 1 v' (n + 1) (valsT ts ++ [.slice At N ct])) (hg : w1.grownBy w2 (A.map (·.block)))
    (hat : v'.ownBlock = A.map (·.block) ∨ ∃ g, v'.ownBlock = some g ∧ w1.heap.size ≤ g) :
    ∃ A' c', v' = .slice A' (n + 1) c' ∧ OwnSy w2 lo w2.heap.size A' (n + 1) c' (ts.map (fun t => t.2.2) ++ [ys]) := by
  obtain ⟨g9, c', rfl, _, _⟩ := World.ownsRow.form hrow (Nat.succ_pos n)
  obtain ⟨A', hA9⟩ : ∃ A', A' = some (⟨g9, 0, none⟩ : Addr) := ⟨_, rfl⟩
  rw [← hA9] at hrow hat ⊢
  have ht := h
  have hN : ys.length = N := ho.len
  have hsz : w.heap.size ≤ w1.heap.size := hb.size
  have hsz2 : w1.heap.size ≤ w2.heap.size := hg.size
  have hA : ∀ q, A.map (·.block) = some q → lo ≤ q ∧ q < w.heap.size := fun q hq => row_block ht.2.1 q hq
  have hAt : ∀ q, At.map (·.block) = some q → w.heap.size ≤ q ∧ q < w1.heap.size := fun q hq => ho.lt q hq
  have hA' : ∀ q, A'.map (·.block) = some q → A.map (·.block) = some q ∨ w1.heap.size ≤ q := fun q hq => by
    rw [own_block] at hat
    rcases hat with h9 | ⟨g, h9, h8⟩
    · exact .inl (h9 ▸ hq)
    · rw [hq] at h9; injection h9 with h9; exact .inr (by omega)
  refine ⟨A', c', rfl, ts ++ [(At, ct, ys)], by rw [List.map_append]; rfl, by rw [List.length_append, ht.1]; rfl, ?_, fun q hq => (row_block hrow q hq).2, fun j t hj => ?_⟩
  · have : valsT (ts ++ [(At, ct, ys)]) = valsT ts ++ [.slice At N ct] := by unfold valsT; rw [List.map_append, ← hN]; rfl
    rw [this]; exact hrow
  · rcases Nat.lt_or_ge j ts.length with hlt | hge
    · rw [List.getElem?_append_left hlt] at hj
      have h9 := ht.2.2.2 j t hj
      have hblk : ∀ q, t.1.map (·.block) = some q → q < w.heap.size := fun q hq => (h9.1.lt q hq).2
      refine ⟨(h9.1.below hb).apart hg (fun q hq e9 => (h9.2 q hq).2.1 e9), fun q hq => ⟨by have := hblk q hq; omega, fun e9 => ?_, fun l u hl hu => ?_⟩⟩
      · rcases hA' q e9 with h8 | h8
        · exact (h9.2 q hq).2.1 h8
        · have := hblk q hq; omega
      · rcases Nat.lt_or_ge l ts.length with hl2 | hl2
        · rw [List.getElem?_append_left hl2] at hu
          exact (h9.2 q hq).2.2 l u hl hu
        · rw [List.getElem?_append_right hl2] at hu
          cases hd : l - ts.length with
          | zero =>
            rw [hd] at hu
            injection hu with hu
            subst hu
            intro e8
            have := (hAt q e8).1; have := hblk q hq; omega
          | succ k => rw [hd] at hu; cases hu
    · rw [List.getElem?_append_right hge] at hj
      cases hd : j - ts.length with
      | zero =>
        rw [hd] at hj
        injection hj with hj
        subst hj
        have hjl : j = ts.length := by omega
        refine ⟨?_, fun q hq => ⟨by have := (hAt q hq).2; omega, fun e9 => ?_, fun l u hl hu e8 => ?_⟩⟩
        · show Own 2 w2 lo At ys.length ct ys
          rw [hN]
          exact (ho.mono hlo).apart hg (fun q hq e9 => by have := (hA q e9).2; have := (hAt q hq).1; omega)
        · have h7 := hAt q hq
          rcases hA' q e9 with h8 | h8
          · have := (hA q h8).2; omega
          · omega
        · rcases Nat.lt_or_ge l ts.length with hl2 | hl2
          · rw [List.getElem?_append_left hl2] at hu
            have := ((ht.2.2.2 l u hu).1.lt q e8).2
            have := (hAt q hq).1; omega
          · rw [List.getElem?_append_right hl2] at hu
            have : l - ts.length ≠ 0 := by omega
            cases hk : l - ts.length with
            | zero => exact this hk
            | succ k => rw [hk] at hu; cases hu
      | succ k => rw [hd] at hj; cases hj
set_option maxHeartbeats 400000 in
theorem cloneSy_any (A : Option Addr) (n c : Nat) (xs : List Int) (w : World) (h : Rd w A n xs) (hn : n ≤ 24) :
    Calls Tryd.prog 191 #[.slice A n c] w (MakesE 2 w n xs) := by
  have hnil := fun wx => Lib.run_eql_slice_nil (P := Tryd.prog) wx 97 2 A n c 0 0 Tryd.underlying97
  obtain ⟨i0, hi, hz0, hz1, hz2⟩ := info_parts info_int
  cases A with
  | none =>
    have hn0 : n = 0 := by
      rcases Nat.eq_zero_or_pos n with h0 | h0
      · exact h0
      · obtain ⟨b, off, e, _⟩ := h.2 h0; cases e
    have hx : xs = [] := List.eq_nil_of_length_eq_zero (by have := h.1; omega)
    subst hn0 hx
    go_enter Tryd.func191, Tryd.ntmps191
    go_wp2
    go_ret
    exact ⟨none, 0, rfl, Own.nil _ _ _, Below.refl _ _⟩
  | some ad =>
    have hads : 0 < n → ∃ b off, ad = ⟨b, off, none⟩ := fun h0 => by
      obtain ⟨b, off, e, _⟩ := h.2 h0
      injection e with e
      exact ⟨b, off, e⟩
    have hnews : ∀ wx : World, (∀ p : Addr, p.block < w.heap.size → wx.cell? p = w.cell? p) → w.heap.size ≤ wx.heap.size → ∀ j u, (xs.map (Value.int .i64))[j]? = some u → wx.cell? (ad.add j) = some u := by
      intro wx hwx hsz j u hu
      have hj : 0 < n := by
        rcases Nat.eq_zero_or_pos n with h0 | h0
        · have : xs = [] := List.eq_nil_of_length_eq_zero (by have := h.1; omega)
          subst this; simp at hu
        · exact h0
      obtain ⟨b, off, rfl⟩ := hads hj
      exact rd_news (h.keep hsz hwx) hj j u hu
    have hml : 0 + n ≤ maxLen := by unfold maxLen; omega
    have hby2 : (0 + n) * 8 ≤ 140737488355328 := by omega
    have hlen : (xs.map (Value.int .i64)).length = n * 1 := by rw [List.length_map, h.1, Nat.mul_one]
    have hone := ints_oneCell .i64 xs
    clear h hads
    go_enter Tryd.func191, Tryd.ntmps191
    go_wp2_with (first | (at_builtin; refine wpList_append_own _ rfl _ _ 97 rfl w.heap.size 2 i0 (.int .i64 0) 1 8 Tryd.underlying97 hi hz0 hz1 hz2 rfl (by decide) (.slice (some ⟨w.heap.size, 0, none⟩) 0 0) 0 [] rfl ?c0 ad n c (xs.map (Value.int .i64)) rfl hlen ?c1 hone hml hby2 ?c5 ?_))
    case c0 => exact World.ownsRow_lit _ #[] 0 (Nat.le_refl _) (by unfold maxLen; omega) rfl
    case c1 => exact hnews _ (fun p hp => World.cell?_alloc_lt w _ p hp) (by simp)
    case c5 => simp
    intro v1 w1 hown hg _
    have hb : Below w.heap.size w w1 := ((Below.refl _ _).alloc (Nat.le_refl _) _).grown hg (by simp) (by simp [Value.ownBlock])
    obtain ⟨A1, c1, hv, ho⟩ := own_shape hown
    rw [hv]
    clear hg hown hv
    go_wp2
    go_ret
    exact ⟨A1, c1, rfl, ho, hb⟩
theorem OwnSy.at_ {w : World} {lo hi n c j : Nat} {A : Option Addr} {xss : List (List Int)} (h : OwnSy w lo hi A n c xss) (hj : j < n) :
    ∃ g At ct ys, A = some ⟨g, 0, none⟩ ∧ g < hi ∧ w.cell? ⟨g, j, none⟩ = some (.slice At ys.length ct) ∧ xss[j]? = some ys ∧ Own 2 w lo At ys.length ct ys := by
  obtain ⟨ts, e, ho⟩ := h
  obtain ⟨g, cap, hvg, hbg, hlt⟩ := World.ownsRow.form ho.2.1 (by omega)
  have hA : A = some ⟨g, 0, none⟩ := by injection hvg
  have ht : ts[j]? = some (ts[j]'(by rw [ho.1]; exact hj)) := List.getElem?_eq_getElem _
  obtain ⟨t, hte⟩ : ∃ t, t = ts[j]'(by rw [ho.1]; exact hj) := ⟨_, rfl⟩
  rw [← hte] at ht
  refine ⟨g, t.1, t.2.1, t.2.2, hA, ho.2.2.1 g (by rw [hA]; rfl), ?_, by rw [← e, List.getElem?_map, ht]; rfl, (ho.2.2.2 j t ht).1⟩
  subst hA
  have := World.ownsRow.cells ho.2.1 (g := g) rfl j (Value.slice t.1 t.2.2.length t.2.1) (by unfold valsT; rw [List.getElem?_map, ht]; rfl)
  rw [add_zero_off] at this
  exact this
/-- The rows of a level, as numbers. -/
def levI (l : List (List Nat)) : List (List Int) := l.map ints
theorem levI_app (l m : List (List Nat)) : levI (l ++ m) = levI l ++ levI m := List.map_append
def midS (rs : List Nat) (n : Nat) (l : List (List Nat)) (j : Nat) : List (List Nat) := (l.take j).flatMap (extS rs n)
def prtS (rs s : List Nat) (b : Nat) : List (List Nat) := ((List.range b).filter (fitB rs s)).map fun b => s ++ [b]
theorem prtS_yes (rs s : List Nat) (b : Nat) (h : fitB rs s b = true) : prtS rs s (b + 1) = prtS rs s b ++ [s ++ [b]] := by
  unfold prtS; rw [List.range_succ, List.filter_append, List.map_append]; simp [h]
theorem prtS_no (rs s : List Nat) (b : Nat) (h : fitB rs s b = false) : prtS rs s (b + 1) = prtS rs s b := by
  unfold prtS; rw [List.range_succ, List.filter_append, List.map_append]; simp [h]
theorem prtS_le (rs s : List Nat) (b : Nat) : (prtS rs s b).length ≤ b := by
  unfold prtS; rw [List.length_map]
  exact Nat.le_trans (List.length_filter_le _ _) (by rw [List.length_range]; exact Nat.le_refl _)
theorem midS_next (rs : List Nat) (n : Nat) (l : List (List Nat)) (j : Nat) (s : List Nat) (h : l[j]? = some s) : midS rs n l (j + 1) = midS rs n l j ++ prtS rs s n := by
  unfold midS; rw [List.take_add_one, h, List.flatMap_append]
  congr 1
  show [s].flatMap _ = _
  rw [List.flatMap_cons, List.flatMap_nil, List.append_nil]; rfl
theorem midS_le (rs : List Nat) (n : Nat) (l : List (List Nat)) : ∀ j, (midS rs n l j).length ≤ j * n
  | 0 => by rw [Nat.zero_mul]; exact Nat.le_refl _
  | j + 1 => by
    have ih := midS_le rs n l j
    cases h : l[j]? with
    | none =>
      have : midS rs n l (j + 1) = midS rs n l j := by unfold midS; rw [List.take_add_one, h]; simp
      rw [this, Nat.add_mul]; omega
    | some s =>
      rw [midS_next rs n l j s h, List.length_append, Nat.add_mul]
      have := prtS_le rs s n
      omega
theorem midS_all (rs : List Nat) (n : Nat) (l : List (List Nat)) : midS rs n l l.length = l.flatMap (extS rs n) := by unfold midS; rw [List.take_length]
set_option maxHeartbeats 6400000 in
theorem symmetries_any (A2 : Option Addr) (n c2 : Nat) (rs : List Nat) (w : World) (hrd : Rd w A2 n (ints rs)) (h8 : n ≤ 8) (hr : ∀ i, rs.getD i 0 < 2 ^ n) :
    Calls Tryd.prog 147 #[.slice A2 n c2] w fun e w' => ∃ A' c', e = .returned (.slice A' (levS rs n n).length c') ∧ OwnSy w' w.heap.size w'.heap.size A' (levS rs n n).length c' (levI (levS rs n n)) ∧ Below w.heap.size w w' := by
  obtain ⟨i1, hi1, hy0, hy1, hy2⟩ := info_parts info_sym
  obtain ⟨i0, hi, hz0, hz1, hz2⟩ := info_parts info_int
  have HRR := Lib.hid hr
  have HLV : Hid (∀ k, k ≤ n → (levS rs n k).length ≤ 40320) := Lib.hid fun k hk => Nat.le_trans (levS_len rs n k) (fallF_le n k h8 hk)
  have HLM : Hid (∀ (k : Nat) (s : List Nat) (j : Nat), (levS rs n k)[j]? = some s → s.length = k ∧ ∀ x, x ∈ s → x < n) := Lib.hid fun k s j hj => levS_mem rs n k s (List.mem_of_getElem? hj)
  have HL0 : Hid (levS rs n 0 = [[]]) := Lib.hid rfl
  have HLS : Hid (∀ k, levS rs n (k + 1) = (levS rs n k).flatMap (extS rs n)) := Lib.hid fun k => rfl
  have h0 : OwnSy (w.alloc (.cells #[.slice none 0 0] 97)) w.heap.size (w.alloc (.cells #[.slice none 0 0] 97)).heap.size (some ⟨w.heap.size, 0, none⟩) 1 1 (levI [[]]) := ⟨[(none, 0, [])], rfl, rfl, World.ownsRow_lit w #[.slice none 0 0] 1 (Nat.le_refl _) (by unfold maxLen; omega) rfl, fun q hq => by have := Option.some.inj hq; have h8 : w.heap.size = q := this; rw [size1']; omega, fun j t hj => by
    cases j with
    | zero => injection hj with hj; subst hj; exact ⟨Own.nil _ _ _, fun q hq => by cases hq⟩
    | succ j => cases hj⟩
  obtain ⟨LV, hLV⟩ : ∃ LV, LV = levS rs n := ⟨_, rfl⟩
  rw [← hLV] at HLV HLM HL0 HLS ⊢
  clear hr hLV
  go_enter Tryd.func147, Tryd.ntmps147
  go_wp2_with fail
  go_loopw [3, 11] (fun p q wr => ∃ (k N : Nat) (A : Option Addr) (c : Nat), k ≤ n ∧ p = .slice A N c ∧ q = .int .i64 (k : Int) ∧ N = (LV k).length ∧ OwnSy wr w.heap.size wr.heap.size A N c (levI (LV k)) ∧ Below w.heap.size w wr) (fun _ q _ => n - (intOf q).toNat)
  case atStart => exact ⟨0, 1, _, 1, Nat.zero_le _, rfl, rfl, by rw [HL0.out]; rfl, by rw [HL0.out]; exact h0, below1 _ _⟩
  case round =>
    clear h0
    obtain ⟨k, N, A, c, hk, rfl, rfl, hN, hss, hb⟩ := hrel
    have HN := Lib.hid hN
    have hNb : N ≤ 40320 := by rw [hN]; exact HLV.out k hk
    clear hN
    by_cases hlt : k < n
    · have hdl : decide ((k : Int) < (n : Int)) = true := decide_eq_true (by omega)
      have HSS := Lib.hid hss
      obtain ⟨wo, hwo⟩ : ∃ wo : World, wo = wr := ⟨_, rfl⟩
      rw [← hwo] at HSS hb ⊢
      have HB := Lib.hid hb
      clear hss hwo hb
      go_wp2_with fail
      go_loopw [4, 15] (fun p q wr => ∃ (j M : Nat) (A' : Option Addr) (c' : Nat), j ≤ N ∧ p = .slice A' M c' ∧ q = .int .i64 (j : Int) ∧ M = (midS rs n (LV k) j).length ∧ OwnSy wr wo.heap.size wr.heap.size A' M c' (levI (midS rs n (LV k) j)) ∧ Below wo.heap.size wo wr) (fun _ q _ => N - (intOf q).toNat)
      case atStart => exact ⟨0, 0, none, 0, Nat.zero_le _, rfl, rfl, rfl, OwnSy.nil _ _, Below.refl _ _⟩
      case round =>
        obtain ⟨j, M, A', c', hj, rfl, rfl, hM, hss, hb⟩ := hrel
        by_cases hltj : j < N
        · have hdj : decide ((j : Int) < (N : Int)) = true := decide_eq_true (by omega)
          obtain ⟨g, At, ct, ys, hAe, hgl, hcell0, hys, hrow⟩ := HSS.out.at_ hltj
          have hcell := (hb.cell (p := ⟨g, j, none⟩) hgl).trans hcell0
          clear hcell0
          obtain ⟨s, hs, rfl⟩ : ∃ s, (LV k)[j]? = some s ∧ ys = ints s := by
            unfold levI at hys
            rw [List.getElem?_map] at hys
            cases h9 : (LV k)[j]? with
            | none => rw [h9] at hys; cases hys
            | some s => rw [h9] at hys; injection hys with hys; exact ⟨s, rfl, hys.symm⟩
          subst hAe
          have HSM := Lib.hid (HLM.out k s j hs)
          rw [ints_len, (HSM.out).1] at hcell hrow
          have HMN := Lib.hid (midS_next rs n (LV k) j s hs)
          have hMb := midS_le rs n (LV k) j
          rw [← hM] at hMb
          have hMb2 : M ≤ 322560 := Nat.le_trans hMb (Nat.le_trans (Nat.mul_le_mul (Nat.le_of_lt (Nat.lt_of_lt_of_le hltj hNb)) h8) (by decide))
          obtain ⟨md, hmd⟩ : ∃ md, md = midS rs n (LV k) j := ⟨_, rfl⟩
          rw [← hmd] at hM hss HMN
          have HM := Lib.hid hM
          have HROW := Lib.hid hrow
          clear hM hmd hMb hys hs hrow
          go_wp2_with fail
          go_loopw [4, 21] (fun p q wr => ∃ (b M' : Nat) (A' : Option Addr) (c' : Nat), b ≤ n ∧ p = .slice A' M' c' ∧ q = .int .i64 (b : Int) ∧ M' = M + (prtS rs s b).length ∧ OwnSy wr wo.heap.size wr.heap.size A' M' c' (levI (md ++ prtS rs s b)) ∧ Below wo.heap.size wo wr) (fun _ q _ => n - (intOf q).toNat)
          case atStart => exact ⟨0, M, A', c', Nat.zero_le _, rfl, rfl, rfl, by rw [show prtS rs s 0 = [] from rfl, List.append_nil]; exact hss, hb⟩
          case round =>
            clear hss hb hcell
            obtain ⟨b, M', A3, c3, hbn, rfl, rfl, hM', hss, hb⟩ := hrel
            have hpl := prtS_le rs s b
            have hMb3 : M' ≤ 322568 := by omega
            have HM' := Lib.hid hM'
            clear hM' hpl
            by_cases hltb : b < n
            · have hdb : decide ((b : Int) < (n : Int)) = true := decide_eq_true (by omega)
              have hb9 := HB.out.trans (hb.mono HB.out.size)
              have HFT := Lib.hid (fits_any A2 At n c2 k ct b rs s wr (hrd.below hb9) (by omega) HRR.out (HROW.out.below hb).rd hlt (HSM.out).2 hltb)
              obtain ⟨F, hF⟩ : ∃ F, F = fitB rs s b := ⟨_, rfl⟩
              rw [← hF] at HFT
              have HF := Lib.hid hF
              clear hF hb9
              cases F
              · have HP := Lib.hid (prtS_no rs s b HF.out.symm)
                go_wp2_with fail
                refine HFT.out.mono ?_
                rintro e w1 ⟨rfl, b1⟩
                have hss1 := (hss.below b1).wide (Nat.le_refl _) b1.size
                have hb1 := hb.trans (b1.mono hb.size)
                clear hss hb b1
                go_wp2_with fail
                go_roundw
                case rel => exact ⟨b + 1, M', A3, c3, hltb, rfl, by go_num, by rw [HP.out]; exact HM'.out, by rw [HP.out]; exact hss1, hb1⟩
                case measure => simp [intOf]; omega
              · have HP := Lib.hid (prtS_yes rs s b HF.out.symm)
                go_wp2_with fail
                refine HFT.out.mono ?_
                rintro e w1 ⟨rfl, b1⟩
                have hss1 := (hss.below b1).wide (Nat.le_refl _) b1.size
                have hb1 := hb.trans (b1.mono hb.size)
                clear hss hb b1
                have HCL := Lib.hid (cloneSy_any At k ct (ints s) w1 (HROW.out.below hb1).rd (by omega))
                have hml : k + 1 ≤ maxLen := by unfold maxLen; omega
                have hby2 : (k + 1) * 8 ≤ 140737488355328 := by omega
                have hml3 : M' + 1 ≤ maxLen := by unfold maxLen; omega
                have hby3 : (M' + 1) * 24 ≤ 140737488355328 := by omega
                obtain ⟨ts, hts, hot⟩ := hss1
                have HTS := Lib.hid hts
                clear hts
                go_wp2_with fail
                refine HCL.out.mono ?_
                rintro e w3 ⟨A4, c4, rfl, o4, b4⟩
                go_wp2_with (at_builtin; refine wpList_append_own _ rfl _ _ 97 rfl w1.heap.size 2 i0 (.int .i64 0) 1 8 Tryd.underlying97 hi hz0 hz1 hz2 rfl (by decide) (.slice A4 k c4) k ((ints s).map (Value.int .i64)) rfl (World.ownsRow.alloc o4 _) ⟨w3.heap.size, 0, none⟩ 1 1 [.int .i64 (b : Int)] rfl rfl ?c1 ?c2 hml hby2 ?c5 ?_)
                case c1 => exact cell_one_new _ _ _
                case c2 => intro u hu; simp at hu; subst hu; rfl
                case c5 => have := b4.size; simp; omega
                intro v5 w5 hown5 hg5 _
                rw [ints_snoc_map] at hown5
                have b5 : Below w1.heap.size w1 w5 := (b4.alloc b4.size _).grown hg5 (by have := b4.size; simp; omega) (fun r hr => (World.ownsRow.lt o4 r hr).1)
                obtain ⟨A5, c5, hv5, o5⟩ := own_shape hown5
                rw [hv5]
                clear hown5 hg5 hv5 o4 b4
                have hrow5 := row_kept hot.2.1 (grownBy_of_below b5) (fun q _ e => by cases e)
                have hrb : ∀ q, A3.map (·.block) = some q → wo.heap.size ≤ q := fun q hq => (row_block hot.2.1 q hq).1
                have hsz1 : wo.heap.size ≤ w1.heap.size := hb1.size
                go_wp2_with (at_builtin; refine wpList_append_own_at _ rfl _ _ 94 rfl wo.heap.size 97 i1 (.slice none 0 0) 1 24 Tryd.underlying94 hi1 hy0 hy1 hy2 rfl (by decide) (.slice A3 M' c3) M' (valsT ts) rfl (World.ownsRow.alloc hrow5 _) ⟨w5.heap.size, 0, none⟩ 1 1 [.slice A5 (k + 1) c5] rfl rfl ?d1 ?d2 hml3 hby3 ?d5 ?_)
                case d1 => exact cell_one_new _ _ _
                case d2 => intro u hu; simp at hu; subst hu; rfl
                case d5 => have := b5.size; simp; omega
                intro v6 w6 hown6 hg6 _ hat6
                have hbw5 : Below wo.heap.size wo w5 := hb1.trans (b5.mono hb1.size)
                have hb6 : Below wo.heap.size wo w6 := (hbw5.alloc hbw5.size _).grown hg6 (by have := hbw5.size; simp; omega) (fun r hr => by rw [own_block] at hr; exact hrb r hr)
                have hg7 := alloc_grown hg6
                rw [own_block] at hg7 hat6
                obtain ⟨A7, c7, hv7, hss7⟩ := OwnSy.snoc hot b5 o5 hsz1 hown6 hg7 (hat6.imp id fun h9 => ⟨_, h9, Nat.le_succ _⟩)
                rw [hv7]
                rw [HTS.out] at hss7
                clear hown6 hg6 hv7 hot b5 o5 hrow5 hg7 hat6 hbw5
                go_wp2_with fail
                go_roundw
                case rel => exact ⟨b + 1, M' + 1, A7, c7, hltb, rfl, by go_num, by rw [HP.out, List.length_append, HM'.out]; rfl, by rw [HP.out, ← List.append_assoc, levI_app]; exact hss7, hb6⟩
                case measure => simp [intOf]; omega
            · obtain rfl : b = n := by omega
              have hdb : decide ((b : Int) < (b : Int)) = false := decide_eq_false (by omega)
              go_wp2_with fail
              go_roundw
              case rel => exact ⟨j + 1, M', A3, c3, hltj, rfl, by go_num, by rw [HMN.out, List.length_append, HM'.out, HM.out], by rw [HMN.out]; exact hss, hb⟩
              case measure => simp [intOf]; omega
        · obtain rfl : j = N := by omega
          have hdj : decide ((j : Int) < (j : Int)) = false := decide_eq_false (by omega)
          have HA : Hid (midS rs n (LV k) j = LV (k + 1)) := Lib.hid (by rw [HN.out, midS_all, HLS.out])
          have HM := Lib.hid hM
          clear hM
          go_wp2_with fail
          go_roundw
          case rel => exact ⟨k + 1, M, A', c', hlt, rfl, by go_num, by rw [← HA.out]; exact HM.out, by rw [← HA.out]; exact hss.wide HB.out.size (Nat.le_refl _), HB.out.trans (hb.mono HB.out.size)⟩
          case measure => simp [intOf]; omega
    · obtain rfl : k = n := by omega
      have hdl : decide ((k : Int) < (k : Int)) = false := decide_eq_false (by omega)
      go_wp2_with fail
      go_ret
      rw [← HN.out]
      exact ⟨A, c, rfl, hss, hb⟩
end Go.Proofs.YtcojodkcpemfdaaDoor
namespace Go.Proofs.YtcojodkcpemfdaaDoor
open Go Go.RowKit
set_option linter.unusedVariables false
set_option maxRecDepth 100000

theorem row_mono {w : World} {l l' n c : Nat} {E : TypeId} {A : Option Addr} {vs : List Value} (h : w.ownsRow l E 1 (.slice A n c) n vs) (h1 : l' ≤ l) : w.ownsRow l' E 1 (.slice A n c) n vs := by
  refine ⟨h.1, ?_⟩
  rcases h.2 with h0 | ⟨g, cap, cur, e, hg, rest⟩
  · exact .inl h0
  · exact .inr ⟨g, cap, cur, e, by omega, rest⟩
/-- All symmetries and a code. -/
def symF (rs : List Nat) : List (List Int) × Int := if 1000 < (levS rs rs.length rs.length).length then ([], 3) else (levI (levS rs rs.length rs.length), 0)
def saAns (L : Int) (xs : List Int) : List (List Int) × Int := if alphB L xs = true then symF (xs.map Int.toNat) else ([], 1)
theorem saAns_no (L : Int) (xs : List Int) (h : alphB L xs = false) : saAns L xs = ([], 1) := if_neg (by rw [h]; decide)
theorem toNat_ints : ∀ rs : List Nat, (ints rs).map Int.toNat = rs
  | [] => rfl
  | r :: rs => by
    show (r : Int).toNat :: (ints rs).map Int.toNat = _
    rw [toNat_ints rs]; rfl
theorem saAns_yes (L : Int) (rs : List Nat) (h : alphB L (ints rs) = true) : saAns L (ints rs) = symF rs := by
  unfold saAns; rw [if_pos h, toNat_ints]
theorem symF_long (rs : List Nat) (n : Nat) (hl : rs.length = n) (h : 1000 < (levS rs n n).length) : symF rs = ([], 3) := by subst hl; exact if_pos h
theorem symF_yes (rs : List Nat) (n : Nat) (hl : rs.length = n) (h : (levS rs n n).length ≤ 1000) : symF rs = (levI (levS rs n n), 0) := by subst hl; exact if_neg (by omega)
theorem sumL_levI : ∀ (l : List (List Nat)) (k : Nat), (∀ t, t ∈ l → t.length = k) → sumL (levI l) = l.length * k
  | [], k, _ => by rw [List.length_nil, Nat.zero_mul]; rfl
  | t :: l, k, h => by
    have ih := sumL_levI l k fun t ht => h t (List.mem_cons_of_mem _ ht)
    have e : sumL (levI (t :: l)) = (ints t).length + sumL (levI l) := by unfold sumL levI; rw [List.map_cons, List.map_cons, List.sum_cons]
    rw [e, ih, ints_len, h t List.mem_cons_self, List.length_cons, Nat.add_mul]; omega
theorem saAns_small (L : Int) (xs : List Int) : (saAns L xs).1.length ≤ 1000 ∧ sumL (saAns L xs).1 ≤ 8000 := by
  cases ha : alphB L xs
  · rw [saAns_no L xs ha]; exact ⟨by decide, by decide⟩
  · have h24 : (xs.map Int.toNat).length ≤ 8 := by
      unfold alphB at ha
      rw [List.length_map]
      rw [Bool.and_eq_true, decide_eq_true_eq] at ha
      omega
    unfold saAns
    rw [if_pos ha]
    obtain ⟨rs, hrs⟩ : ∃ rs, rs = xs.map Int.toNat := ⟨_, rfl⟩
    rw [← hrs] at h24 ⊢
    rcases Nat.lt_or_ge 1000 (levS rs rs.length rs.length).length with h | h
    · rw [symF_long rs _ rfl h]; exact ⟨by decide, by decide⟩
    · rw [symF_yes rs _ rfl h]
      refine ⟨by show (levI _).length ≤ _; unfold levI; rw [List.length_map]; exact h, ?_⟩
      show sumL (levI _) ≤ _
      rw [sumL_levI _ rs.length fun t ht => (levS_mem rs _ _ t ht).1]
      exact Nat.le_trans (Nat.mul_le_mul h h24) (by decide)
/-- What symmetriesIn leaves, without words. -/
def SinPost (w : World) (n : Nat) (rs : List Nat) (e : Ending) (w' : World) : Prop :=
  (1000 < (levS rs n n).length ∧ e = .returned (.tuple #[.slice none 0 0, .slice none 0 0, .int .i64 3]) ∧ Below w.heap.size w w') ∨
  ((levS rs n n).length ≤ 1000 ∧ ∃ A2 c2 A' c', e = .returned (.tuple #[.slice A2 n c2, .slice A' (levS rs n n).length c', .int .i64 0]) ∧ OwnSy w' w.heap.size w'.heap.size A' (levS rs n n).length c' (levI (levS rs n n)) ∧ Rd w' A2 n (ints rs) ∧ Below w.heap.size w w')
set_option maxHeartbeats 3200000 in
theorem symmetriesIn_no (L : Int) (A : Option Addr) (n c : Nat) (xs : List Int) (w : World) (h : Rd w A n xs) (hwf : Wf xs) (hL1 : -9223372036854775808 ≤ L) (hL2 : L ≤ 9223372036854775807) (hn : n ≤ 9223372036854775807) (ha : alphB L xs = false) (hT : Tab w) :
    Calls Tryd.prog 90 #[.agg #[.int .i64 L, .slice A n c], .slice none 0 0] w fun e w' => e = .returned (.tuple #[.slice none 0 0, .slice none 0 0, .int .i64 1]) ∧ Below w.heap.size w w' := by
  have HB := Lib.hid (below1 w (.cells #[.int .i64 L, .slice A n c] 29))
  have hh := h.below HB.out
  have HA := Lib.hid ha
  have hT1 := hT.below HB.out
  clear ha
  go_enter Tryd.func90, Tryd.ntmps90
  go_wp2_with fail
  refine (dependenceWith_no L _ _ _ _ _ _ xs [] _ hh hwf hL1 hL2 hn HA.out hT1).mono ?_
  rintro e w1 ⟨rfl, hb⟩
  go_wp2_with fail
  go_ret3
  exact ⟨rfl, HB.out.trans (hb.mono HB.out.size)⟩
set_option maxHeartbeats 3200000 in
theorem symmetriesIn_any (A : Option Addr) (n c : Nat) (rs : List Nat) (w : World) (h : Rd w A n (ints rs)) (hwf : Wf (ints rs)) (h8 : n ≤ 8) (hr : ∀ i, rs.getD i 0 < 2 ^ n) (hrel : relB (ints rs) = true) (hd : depB rs = true) (hT : Tab w) :
    Calls Tryd.prog 90 #[.agg #[.int .i64 (n : Int), .slice A n c], .slice none 0 0] w (SinPost w n rs) := by
  have HB := Lib.hid (below1 w (.cells #[.int .i64 (n : Int), .slice A n c] 29))
  have hh := h.below HB.out
  have hT1 := hT.below HB.out
  have HDW := Lib.hid (dependenceWith_any A none n c 0 0 rs [] _ hh hwf h8 hr hrel hd ⟨rfl, (fun t ht => by cases ht), fun h => absurd h (by omega)⟩ (by omega) hT1)
  have HSY := Lib.hid (fun (ww : World) (A2 : Option Addr) (c2 : Nat) (h9 : Rd ww A2 n (ints rs)) => symmetries_any A2 n c2 rs ww h9 h8 hr)
  obtain ⟨K, hK⟩ : ∃ K, K = (levS rs n n).length := ⟨_, rfl⟩
  have HSP : Hid (∀ e w', SinPost w n rs e w' = ((1000 < K ∧ e = .returned (.tuple #[.slice none 0 0, .slice none 0 0, .int .i64 3]) ∧ Below w.heap.size w w') ∨ (K ≤ 1000 ∧ ∃ A2 c2 A' c', e = .returned (.tuple #[.slice A2 n c2, .slice A' K c', .int .i64 0]) ∧ OwnSy w' w.heap.size w'.heap.size A' K c' (levI (levS rs n n)) ∧ Rd w' A2 n (ints rs) ∧ Below w.heap.size w w'))) := Lib.hid fun e w' => by rw [hK]; rfl
  rw [← hK] at HSY
  have hKb : K ≤ 40320 := by rw [hK]; exact Nat.le_trans (levS_len rs n n) (fallF_le n n h8 (Nat.le_refl _))
  clear hK hr hrel hd
  go_enter Tryd.func90, Tryd.ntmps90
  go_wp2_with fail
  refine HDW.out.mono ?_
  rintro e w1 (⟨hok, A2, c2, rfl, ho, hb⟩ | ⟨hok, _⟩)
  rotate_left
  · exact absurd hok (by simp [okT])
  have hrd := ho.rd
  have HB1 := Lib.hid (HB.out.trans (hb.mono HB.out.size))
  clear ho hb hok
  go_wp2_with fail
  refine (HSY.out _ _ _ hrd).mono ?_
  rintro e w2 ⟨A', c', rfl, hss, b2⟩
  have HB2 := Lib.hid (HB1.out.trans (b2.mono HB1.out.size))
  have hrd2 := hrd.below b2
  by_cases hlong : 1000 < K
  · have hI : (1000 : Int) < (K : Int) := by omega
    go_wp2_with fail
    go_ret3
    rw [HSP.out]
    exact .inl ⟨hlong, rfl, HB2.out⟩
  · have hI : (K : Int) ≤ 1000 := by omega
    go_wp2_with fail
    go_ret3
    rw [HSP.out]
    exact .inr ⟨by omega, _, _, _, _, rfl, hss.wide HB1.out.size (Nat.le_refl _), hrd2, HB2.out⟩
set_option maxHeartbeats 6400000 in
theorem implSymmetriesOf (L : Int) (A : Option Addr) (n c : Nat) (xs : List Int) (w : World) (h : Rd w A n xs) (hwf : Wf xs) (hL1 : -9223372036854775808 ≤ L) (hL2 : L ≤ 9223372036854775807) (hn : n ≤ maxLen) (hT : Tab w) :
    Calls Tryd.prog 39 #[.agg #[.int .i64 L, .slice A n c]] w (LssPost w (saAns L xs).1.length (saAns L xs).1 (saAns L xs).2) := by
  obtain ⟨i1, hi1, hy0, hy1, hy2⟩ := info_parts info_sls
  have hn2 : n ≤ 9223372036854775807 := by unfold maxLen at hn; omega
  have hn1 := h.1
  have HB := Lib.hid (below1 w (.cells #[.int .i64 L, .slice A n c] 29))
  have hh := h.below HB.out
  have hT1 := hT.below HB.out
  cases ha : alphB L xs
  · rw [saAns_no L xs ha]
    have HN := Lib.hid (symmetriesIn_no L A n c xs _ hh hwf hL1 hL2 hn2 ha hT1)
    clear ha hn1
    go_enter Tryd.func39, Tryd.ntmps39
    go_wp2_with fail
    refine HN.out.mono ?_
    rintro e w1 ⟨rfl, hb⟩
    go_wp2_with fail
    go_ret2
    exact ⟨none, 0, rfl, OwnSS.nil _ _, HB.out.trans (hb.mono HB.out.size)⟩
  · obtain ⟨rs, rfl, rfl, h8, hr, hrel, hl, hd, _⟩ := alphB_nats L xs n hn1 ha
    rw [saAns_yes _ rs ha]
    have HSI := Lib.hid (symmetriesIn_any A n c rs _ hh hwf h8 hr hrel hd hT1)
    have HF1 := Lib.hid (symF_long rs n hl)
    have HF2 := Lib.hid (symF_yes rs n hl)
    unfold SinPost at HSI
    obtain ⟨LL, hLL⟩ : ∃ LL, LL = levS rs n n := ⟨_, rfl⟩
    rw [← hLL] at HSI HF1 HF2
    obtain ⟨K, hK⟩ : ∃ K, K = LL.length := ⟨_, rfl⟩
    rw [← hK] at HSI HF1 HF2
    have HK : Hid ((levI LL).length = K) := Lib.hid (by unfold levI; rw [List.length_map, hK])
    clear ha hr hrel hd hl hLL hK hn1
    rcases Nat.lt_or_ge 1000 K with hlong | hshort
    · rw [HF1.out hlong]
      go_enter Tryd.func39, Tryd.ntmps39
      go_wp2_with fail
      refine HSI.out.mono ?_
      rintro e w1 (⟨_, rfl, hb⟩ | ⟨h9, _⟩)
      rotate_left
      · omega
      go_wp2_with fail
      go_ret2
      exact ⟨none, 0, rfl, OwnSS.nil _ _, HB.out.trans (hb.mono HB.out.size)⟩
    · rw [HF2.out hshort, HK.out]
      go_enter Tryd.func39, Tryd.ntmps39
      go_wp2_with fail
      refine HSI.out.mono ?_
      rintro e w2 (⟨h9, _⟩ | ⟨_, A2, c2, A', c', rfl, ⟨ts, hts, hot⟩, -, hb⟩)
      · omega
      have HB2 := Lib.hid (HB.out.trans (hb.mono HB.out.size))
      have HTS := Lib.hid hts
      have HOT := Lib.hid hot
      have HLO := Lib.hid HB.out.size
      clear hts hot hb
      go_wp2_with fail
      go_loopw [7, 21] (fun p q wr => ∃ (j : Nat) (B : Option Addr) (d : Nat), j ≤ K ∧ p = .slice B j d ∧ q = .int .i64 (j : Int) ∧ wr.ownsRow w2.heap.size 22 1 (.slice B j d) j (valsT (ts.take j)) ∧ Below w2.heap.size w2 wr) (fun _ q _ => K - (intOf q).toNat)
      case atStart => exact ⟨0, none, 0, Nat.zero_le _, rfl, rfl, World.ownsRow_nil w2 _ _ _, Below.refl _ _⟩
      case round =>
        obtain ⟨j, B, d, hj, rfl, rfl, hrow, hb⟩ := hrel
        by_cases hlt : j < K
        · obtain ⟨g, cap, hvg, hbg, hgl⟩ := World.ownsRow.form HOT.out.2.1 (show 0 < K by omega)
          have hA : A' = some ⟨g, 0, none⟩ := by injection hvg
          have hlen : j < ts.length := by rw [HOT.out.1]; exact hlt
          have ht : ts[j]? = some (ts[j]'hlen) := List.getElem?_eq_getElem _
          obtain ⟨t, hte⟩ : ∃ t, t = ts[j]'hlen := ⟨_, rfl⟩
          rw [← hte] at ht
          subst hA
          have hc9 := World.ownsRow.cells HOT.out.2.1 (g := g) rfl j (Value.slice t.1 t.2.2.length t.2.1) (by unfold valsT; rw [List.getElem?_map, ht]; rfl)
          rw [add_zero_off] at hc9
          have hcell := (hb.cell (p := ⟨g, j, none⟩) hgl).trans hc9
          have HNX : Hid (valsT (ts.take (j + 1)) = valsT (ts.take j) ++ [.slice t.1 t.2.2.length t.2.1]) := Lib.hid (by
            rw [List.take_add_one, ht]; unfold valsT; rw [List.map_append]; rfl)
          obtain ⟨At, hAt⟩ : ∃ At, At = t.1 := ⟨_, rfl⟩
          obtain ⟨ct, hct⟩ : ∃ ct, ct = t.2.1 := ⟨_, rfl⟩
          obtain ⟨Y, hY⟩ : ∃ Y, Y = t.2.2.length := ⟨_, rfl⟩
          rw [← hAt, ← hct, ← hY] at hcell HNX
          have hml : j + 1 ≤ maxLen := by unfold maxLen; omega
          have hkb : (j + 1) * 24 ≤ 140737488355328 := by omega
          have hrb : ∀ q, B.map (·.block) = some q → w2.heap.size ≤ q := fun q hq => (row_block hrow q hq).1
          have hdl : decide ((j : Int) < (K : Int)) = true := decide_eq_true (by omega)
          clear hAt hct hY hte ht hc9 hvg hbg hgl hlen
          go_wp2_with (at_builtin; refine wpList_append_own_at _ rfl _ _ 25 rfl w2.heap.size 22 i1 (.slice none 0 0) 1 24 Tryd.underlying25 hi1 hy0 hy1 hy2 rfl (by decide) (.slice B j d) j (valsT (ts.take j)) rfl (World.ownsRow.alloc hrow _) ⟨wr.heap.size, 0, none⟩ 1 1 [.slice At Y ct] rfl rfl ?c1 ?c2 hml hkb ?c5 ?_)
          case c1 => exact cell_one_new _ _ _
          case c2 => intro u hu; simp at hu; subst hu; rfl
          case c5 => have := hb.size; simp; omega
          intro v' w4 hown hg _ hat
          have hb4 : Below w2.heap.size w2 w4 := (hb.alloc hb.size _).grown hg (by have := hb.size; simp; omega) (fun r hr => hrb r (by rw [own_block] at hr; exact hr))
          rw [← HNX.out] at hown
          obtain ⟨g4, d4, hv4, _, _⟩ := World.ownsRow.form hown (Nat.succ_pos j)
          rw [hv4] at hown ⊢
          clear hg hat hrow hb hcell hrb hv4
          go_wp2_with fail
          go_roundw
          case rel => exact ⟨j + 1, _, d4, hlt, rfl, by go_num, hown, hb4⟩
          case measure => simp [intOf]; omega
        · obtain rfl : j = K := by omega
          have hdl : decide ((j : Int) < (j : Int)) = false := decide_eq_false (by omega)
          have hwd : OwnSS wr w.heap.size wr.heap.size B j d (levI LL) := by
            have htk : ts.take j = ts := List.take_of_length_le (by rw [HOT.out.1]; exact Nat.le_refl _)
            rw [htk] at hrow
            refine ⟨ts, HTS.out, HOT.out.1, row_mono hrow HB2.out.size, fun q hq => (row_block hrow q hq).2, fun i t ht => ?_⟩
            have h9 := HOT.out.2.2.2 i t ht
            refine ⟨(h9.1.below hb).mono HLO.out, fun q hq => ⟨Nat.lt_of_lt_of_le (h9.2 q hq).1 hb.size, fun e9 => ?_, (h9.2 q hq).2.2⟩⟩
            have h7 := (row_block hrow q e9).1
            have h6 := (h9.2 q hq).1
            omega
          go_wp2_with fail
          go_ret2
          exact ⟨B, d, rfl, hwd, HB2.out.trans (hb.mono HB2.out.size)⟩
end Go.Proofs.YtcojodkcpemfdaaDoor
namespace Go.Proofs.YtcojodkcpemfdaaDoor
open Go Go.RowKit
set_option linter.unusedVariables false
set_option maxRecDepth 100000

theorem OwnSS.snocH {w w1 w2 : World} {lo hi n N c : Nat} {A : Option Addr} {v' : Value} {At : Option Addr} {ct : Nat} {ys : List Int}
    {ts : List (Option Addr × Nat × List Int)} (h : OwnT w lo hi A n c ts) (hb : Below w.heap.size w w1) (ho : Own 2 w1 hi At N ct ys) (hlo : lo ≤ hi) (hhi : hi ≤ w.heap.size)
    (hrow : w2.ownsRow lo 22 1 v' (n + 1) (valsT ts ++ [.slice At N ct])) (hg : w1.grownBy w2 (A.map (·.block)))
    (hat : v'.ownBlock = A.map (·.block) ∨ ∃ g, v'.ownBlock = some g ∧ w1.heap.size ≤ g) :
    ∃ A' c', v' = .slice A' (n + 1) c' ∧ OwnSS w2 lo w2.heap.size A' (n + 1) c' (ts.map (fun t => t.2.2) ++ [ys]) := by
  obtain ⟨g9, c', rfl, _, _⟩ := World.ownsRow.form hrow (Nat.succ_pos n)
  obtain ⟨A', hA9⟩ : ∃ A', A' = some (⟨g9, 0, none⟩ : Addr) := ⟨_, rfl⟩
  rw [← hA9] at hrow hat ⊢
  have ht := h
  have hN : ys.length = N := ho.len
  have hsz : w.heap.size ≤ w1.heap.size := hb.size
  have hsz2 : w1.heap.size ≤ w2.heap.size := hg.size
  have hA : ∀ q, A.map (·.block) = some q → lo ≤ q ∧ q < hi := fun q hq => ht.lt q hq
  have hAt : ∀ q, At.map (·.block) = some q → hi ≤ q ∧ q < w1.heap.size := fun q hq => ho.lt q hq
  have hA' : ∀ q, A'.map (·.block) = some q → A.map (·.block) = some q ∨ w1.heap.size ≤ q := fun q hq => by
    rw [own_block] at hat
    rcases hat with h9 | ⟨g, h9, h8⟩
    · exact .inl (h9 ▸ hq)
    · rw [hq] at h9; injection h9 with h9; exact .inr (by omega)
  refine ⟨A', c', rfl, ts ++ [(At, ct, ys)], by rw [List.map_append]; rfl, by rw [List.length_append, ht.1]; rfl, ?_, fun q hq => (row_block hrow q hq).2, fun j t hj => ?_⟩
  · have : valsT (ts ++ [(At, ct, ys)]) = valsT ts ++ [.slice At N ct] := by unfold valsT; rw [List.map_append, ← hN]; rfl
    rw [this]; exact hrow
  · rcases Nat.lt_or_ge j ts.length with hlt | hge
    · rw [List.getElem?_append_left hlt] at hj
      have h9 := ht.2.2.2 j t hj
      have hblk : ∀ q, t.1.map (·.block) = some q → q < hi := fun q hq => (h9.2 q hq).1
      refine ⟨(h9.1.below hb).apart hg (fun q hq e9 => (h9.2 q hq).2.1 e9), fun q hq => ⟨by have := hblk q hq; omega, fun e9 => ?_, fun l u hl hu => ?_⟩⟩
      · rcases hA' q e9 with h8 | h8
        · exact (h9.2 q hq).2.1 h8
        · have := hblk q hq; omega
      · rcases Nat.lt_or_ge l ts.length with hl2 | hl2
        · rw [List.getElem?_append_left hl2] at hu
          exact (h9.2 q hq).2.2 l u hl hu
        · rw [List.getElem?_append_right hl2] at hu
          cases hd : l - ts.length with
          | zero =>
            rw [hd] at hu
            injection hu with hu
            subst hu
            intro e8
            have := (hAt q e8).1; have := hblk q hq; omega
          | succ k => rw [hd] at hu; cases hu
    · rw [List.getElem?_append_right hge] at hj
      cases hd : j - ts.length with
      | zero =>
        rw [hd] at hj
        injection hj with hj
        subst hj
        have hjl : j = ts.length := by omega
        refine ⟨?_, fun q hq => ⟨by have := (hAt q hq).2; omega, fun e9 => ?_, fun l u hl hu e8 => ?_⟩⟩
        · show Own 2 w2 lo At ys.length ct ys
          rw [hN]
          exact (ho.mono hlo).apart hg (fun q hq e9 => by have := (hA q e9).2; have := (hAt q hq).1; omega)
        · have h7 := hAt q hq
          rcases hA' q e9 with h8 | h8
          · have := (hA q h8).2; omega
          · omega
        · rcases Nat.lt_or_ge l ts.length with hl2 | hl2
          · rw [List.getElem?_append_left hl2] at hu
            have := ((ht.2.2.2 l u hu).2 q e8).1
            have := (hAt q hq).1; omega
          · rw [List.getElem?_append_right hl2] at hu
            have : l - ts.length ≠ 0 := by omega
            cases hk : l - ts.length with
            | zero => exact this hk
            | succ k => rw [hk] at hu; cases hu
      | succ k => rw [hd] at hj; cases hj
theorem grown_join {w wr ww : World} {r r2 : Option Nat} (h : w.grownBy wr r) (hg : wr.grownBy ww r2) (hr : ∀ q, r2 = some q → r = some q ∨ w.heap.size ≤ q) : w.grownBy ww r :=
  ⟨hg.os.trans h.os, hg.tape.trans h.tape, hg.output.trans h.output, Nat.le_trans h.size hg.size, fun k hk hne => (hg.block k (Nat.lt_of_lt_of_le hk h.size) (fun e => by
    rcases hr k e.symm with h9 | h9
    · exact hne h9.symm
    · omega)).trans (h.block k hk hne)⟩
theorem ownss_block {w : World} {lo hi n c : Nat} {A : Option Addr} {xss : List (List Int)} (h : OwnSS w lo hi A n c xss) : ∀ q, A.map (·.block) = some q → lo ≤ q ∧ q < hi := by
  obtain ⟨ts, _, ho⟩ := h
  exact ho.lt
theorem grown_rowY {W W' : World} (hb : Below W.heap.size W W') (row : Option Nat) : W.grownBy W' row := ⟨hb.os, hb.tape, hb.output, hb.size, fun k hk _ => hb.block k hk⟩
set_option maxHeartbeats 1600000 in
theorem l01Index_any (A : Option Addr) (n c a : Nat) (ss : List Nat) (w : World) (h : Rd w A n (ints ss)) (hn : n ≤ 1048576) :
    Calls Tryd.prog 190 #[.slice A n c, .int .i64 (a : Int)] w fun e w' => (∃ r : Int, e = .returned (.int .i64 r) ∧ decide (0 ≤ r) = decide (a ∈ ss) ∧ -1 ≤ r ∧ r ≤ 1048576) ∧ w = w' := by
  have HLS : Hid (ss.length = n) := Lib.hid (by have := h.1; rw [ints_len] at this; exact this)
  go_enter Tryd.func190, Tryd.ntmps190
  go_wp2_with fail
  go_loopw [5] (fun i wr => ∃ k : Nat, k ≤ n ∧ i = .int .i64 (k : Int) ∧ w = wr ∧ Hid (∀ j, j < k → ss.getD j 0 ≠ a)) (fun i _ => n - (intOf i).toNat)
  case atStart => exact ⟨0, Nat.zero_le _, rfl, rfl, Lib.hid fun j hj => absurd hj (by omega)⟩
  case round =>
    obtain ⟨k, hk, rfl, rfl, hall⟩ := hrel
    by_cases hlt : k < n
    · obtain ⟨b1, off1, u, rfl, hbs, hx, hcx⟩ := h.at_ hlt
      rw [ints_getD ss k (by rw [HLS.out]; exact hlt)] at hx
      injection hx with hx
      obtain ⟨z, hz⟩ : ∃ z, z = ss.getD k 0 := ⟨_, rfl⟩
      rw [← hz] at hx
      subst hx
      have HZ := Lib.hid hz
      clear hz
      by_cases hza : z = a
      · have hd : ((z : Int) == (a : Int)) = true := by rw [hza]; simp
        have HM : Hid (a ∈ ss) := Lib.hid (by rw [← hza, HZ.out, List.getD_eq_getElem?_getD, List.getElem?_eq_getElem (by rw [HLS.out]; exact hlt)]; exact List.getElem_mem _)
        go_wp2_with fail
        go_ret
        exact ⟨⟨_, rfl, by rw [decide_eq_true HM.out]; exact decide_eq_true (by omega), by omega, by omega⟩, by first | rfl | trivial⟩
      · have hd : ((z : Int) == (a : Int)) = false := by simp; omega
        have HNX : Hid (∀ j, j < k + 1 → ss.getD j 0 ≠ a) := Lib.hid (fun j hj => by
          rcases Nat.lt_or_ge j k with h9 | h9
          · exact hall.out j h9
          · obtain rfl : j = k := by omega
            rw [← HZ.out]; exact hza)
        go_wp2_with fail
        go_roundw
        case rel => exact ⟨k + 1, by omega, by go_num, by first | rfl | trivial, HNX⟩
        case measure => simp [intOf]; omega
    · obtain rfl : k = n := by omega
      have HM : Hid (a ∉ ss) := Lib.hid (fun h9 => by
        obtain ⟨j, hj, e⟩ := List.mem_iff_getElem.1 h9
        exact hall.out j (by rw [← HLS.out]; exact hj) (by rw [List.getD_eq_getElem?_getD, List.getElem?_eq_getElem hj]; exact e))
      go_wp2_with fail
      go_ret
      exact ⟨⟨_, rfl, by rw [decide_eq_false HM.out]; rfl, by omega, by omega⟩, by first | rfl | trivial⟩
set_option maxHeartbeats 1600000 in
theorem l01Has_any (A : Option Addr) (n c a : Nat) (ss : List Nat) (w : World) (h : Rd w A n (ints ss)) (hn : n ≤ 1048576) :
    Calls Tryd.prog 146 #[.slice A n c, .int .i64 (a : Int)] w fun e w' => e = .returned (.bool (decide (a ∈ ss))) ∧ w = w' := by
  have HI := Lib.hid (l01Index_any A n c a ss w h hn)
  go_enter Tryd.func146, Tryd.ntmps146
  go_wp2_with fail
  refine HI.out.mono ?_
  rintro e w' ⟨⟨r, rfl, hr, h1, h2⟩, rfl⟩
  have HR := Lib.hid hr
  clear hr
  go_wp2_with fail
  go_ret
  exact ⟨ret_b _ _ (by rw [← HR.out]), by first | rfl | trivial⟩
theorem own_up {w : World} {lo hi n c : Nat} {A : Option Addr} {xs : List Int} (h : Own 2 w lo A n c xs) (hq : ∀ q, A.map (·.block) = some q → hi ≤ q) : Own 2 w hi A n c xs := by
  refine ⟨h.1, ?_⟩
  rcases h.2 with h0 | ⟨g, cap, cur, e, hg, rest⟩
  · exact .inl h0
  · have hA : A = some ⟨g, 0, none⟩ := by injection e
    exact .inr ⟨g, cap, cur, e, hq g (by rw [hA]; rfl), rest⟩
theorem OwnSS.one {w1 w2 : World} {lo N ct : Nat} {A At : Option Addr} {v' : Value} {ys : List Int} (ho : Own 2 w1 lo At N ct ys)
    (hrow : w2.ownsRow lo 22 1 v' 1 [.slice At N ct]) (hg : w1.grownBy w2 (A.map (·.block))) (hne : ∀ q, At.map (·.block) = some q → A.map (·.block) ≠ some q)
    (hat : v'.ownBlock = A.map (·.block) ∨ ∃ g, v'.ownBlock = some g ∧ w1.heap.size ≤ g) : ∃ A' c', v' = .slice A' 1 c' ∧ OwnSS w2 lo w2.heap.size A' 1 c' [ys] := by
  obtain ⟨g9, c', rfl, _, _⟩ := World.ownsRow.form hrow (Nat.succ_pos 0)
  obtain ⟨A', hA9⟩ : ∃ A', A' = some (⟨g9, 0, none⟩ : Addr) := ⟨_, rfl⟩
  rw [← hA9] at hrow hat ⊢
  have hN : ys.length = N := ho.len
  have hAt : ∀ q, At.map (·.block) = some q → lo ≤ q ∧ q < w1.heap.size := fun q hq => ho.lt q hq
  refine ⟨A', c', rfl, [(At, ct, ys)], rfl, rfl, by subst hN; exact hrow, fun q hq => (row_block hrow q hq).2, fun j t hj => ?_⟩
  cases j with
  | succ j => cases hj
  | zero =>
    injection hj with hj
    subst hj
    refine ⟨by show Own _ w2 lo At ys.length ct ys; rw [hN]; exact ho.apart hg (fun q hq e => hne q hq e), fun q hq => ⟨by have := (hAt q hq).2; have := hg.size; omega, fun e9 => ?_, fun l u hl hu => ?_⟩⟩
    · rw [own_block] at hat
      rcases hat with h9 | ⟨g, h9, h8⟩
      · rw [h9] at e9; exact hne q hq e9
      · rw [h9] at e9; injection e9 with e9; have := (hAt q hq).2; omega
    · cases l with
      | zero => exact absurd rfl hl
      | succ l => cases hu
/-- Whether a letter fits, by the first places. -/
def fitP (rs ss : List Nat) (ns a i : Nat) : Bool := !(decide (a ∈ ss)) && (List.range i).all fun j => RDep rs j ns == RDep rs (ss.getD j 0) a
theorem fitP_zero (rs ss : List Nat) (ns a : Nat) : fitP rs ss ns a 0 = !(decide (a ∈ ss)) := by unfold fitP; simp
theorem fitP_succ (rs ss : List Nat) (ns a i : Nat) : fitP rs ss ns a (i + 1) = (fitP rs ss ns a i && (RDep rs i ns == RDep rs (ss.getD i 0) a)) := by
  unfold fitP; rw [List.range_succ, List.all_append, List.all_cons, List.all_nil, Bool.and_true, Bool.and_assoc]
theorem fitP_all (rs ss : List Nat) (ns a : Nat) (h : ss.length = ns) : fitP rs ss ns a ns = fitB rs ss a := by
  subst h
  rw [Bool.eq_iff_iff]
  unfold fitP fitB
  rw [Bool.and_eq_true, Bool.not_eq_true', decide_eq_false_iff_not, List.all_eq_true, List.all_eq_true]
  constructor
  · rintro ⟨h1, h2⟩ i hi
    rw [Bool.and_eq_true, Bool.not_eq_true', beq_eq_false_iff_ne]
    refine ⟨fun e => h1 ?_, h2 i hi⟩
    have hi := List.mem_range.1 hi
    rw [← e, List.getD_eq_getElem?_getD, List.getElem?_eq_getElem hi]; exact List.getElem_mem _
  · intro h
    refine ⟨fun hm => ?_, fun i hi => ?_⟩
    · obtain ⟨j, hj, e⟩ := List.mem_iff_getElem.1 hm
      have h9 := h j (List.mem_range.2 hj)
      rw [Bool.and_eq_true, Bool.not_eq_true', beq_eq_false_iff_ne] at h9
      exact h9.1 (by rw [List.getD_eq_getElem?_getD, List.getElem?_eq_getElem hj]; exact e)
    · have h9 := h i hi
      rw [Bool.and_eq_true] at h9
      exact h9.2
/-- What the recursion answers: the list, with all symmetries that begin so, up to one above the limit. -/
def SyPost (w : World) (lo : Nat) (AL : Option Addr) (zs : List (List Nat)) (e : Ending) (w' : World) : Prop :=
  ∃ A' q' c', e = .returned (.slice A' q' c') ∧ q' = zs.length ∧ OwnSS w' lo w'.heap.size A' q' c' (levI zs) ∧ w.grownBy w' (AL.map (·.block)) ∧ (∀ k, A'.map (·.block) = some k → AL.map (·.block) = some k ∨ w.heap.size ≤ k)
def SyAll (rs : List Nat) (A : Option Addr) (n c k : Nat) : Prop :=
  ∀ (ns cs q cl lo hi : Nat) (SA AL : Option Addr) (ss : List Nat) (ls : List (List Nat)) (w : World), (∀ ww, Below lo w ww → Rd ww A n (ints rs)) → ns + k = n → (∀ x, x ∈ ss → x < n) → Own 2 w lo SA ns cs (ints ss) → ((∀ q, SA.map (·.block) = some q → hi ≤ q) ∨ (ls = [] ∧ ∀ q, SA.map (·.block) = some q → AL.map (·.block) ≠ some q)) →
    OwnSS w lo hi AL q cl (levI ls) → lo ≤ hi → hi ≤ w.heap.size → ls.length ≤ 1001 →
    Calls Tryd.prog 89 #[.agg #[.int .i64 (n : Int), .slice A n c], .slice SA ns cs, .slice AL q cl] w (SyPost w lo AL (capS (ls ++ fullS rs n k ss)))
theorem levI_len (l : List (List Nat)) : (levI l).length = l.length := by unfold levI; rw [List.length_map]
set_option maxHeartbeats 1600000 in
theorem l08Sym_over (rs : List Nat) (A : Option Addr) (n c ns cs q cl lo hi : Nat) (SA AL : Option Addr) (zs ls : List (List Nat)) (w : World) (hL : OwnSS w lo hi AL q cl (levI ls)) (hhi : hi ≤ w.heap.size) (hq : 1000 < q) (hz : zs = ls) :
    Calls Tryd.prog 89 #[.agg #[.int .i64 (n : Int), .slice A n c], .slice SA ns cs, .slice AL q cl] w (SyPost w lo AL zs) := by
  subst hz
  have hb := below1 w (.cells #[.int .i64 (n : Int), .slice A n c] 29)
  have HL := Lib.hid ((hL.below hb).wide (Nat.le_refl _) (Nat.le_trans hhi hb.size))
  have HQ : Hid (q = zs.length) := Lib.hid (by rw [← levI_len]; exact hL.len.symm)
  have HG := Lib.hid (grown_rowY hb (AL.map (·.block)))
  have hI : (1000 : Int) < (q : Int) := by omega
  clear hL hb
  go_enter Tryd.func89, Tryd.ntmps89
  go_wp2_with fail
  go_ret
  exact ⟨AL, q, cl, rfl, HQ.out, HL.out, HG.out, fun k hk => .inl hk⟩
set_option maxHeartbeats 1600000 in
theorem l08Sym_zero (rs : List Nat) (A : Option Addr) (n c : Nat) : SyAll rs A n c 0 := by
  intro ns cs q cl lo hi SA AL ss ls w hA hns hss hS hsep hL hlo hhi hls
  have hq : q = ls.length := by rw [← levI_len]; exact hL.len.symm
  rw [fullS_zero]
  by_cases hov : 1000 < q
  · exact l08Sym_over rs A n c ns cs q cl lo hi SA AL _ ls w hL hhi hov (by
      unfold capS; rw [List.take_append_of_le_length (by omega)]; exact List.take_of_length_le hls)
  · rw [capS_small _ (by rw [List.length_append, List.length_singleton]; omega)]
    obtain rfl : ns = n := by omega
    obtain ⟨i1, hi1, hy0, hy1, hy2⟩ := info_parts info_sls
    obtain ⟨w1, hw1⟩ : ∃ w1, w.alloc (.cells #[.int .i64 (ns : Int), .slice A ns c] 29) = w1 := ⟨_, rfl⟩
    have HW1 := Lib.hid hw1
    have hb := below1 w (.cells #[.int .i64 (ns : Int), .slice A ns c] 29)
    have x0 := box_new 29 w (ns : Int) A ns c
    rw [hw1] at hb x0
    have y0 := x0.c0
    have y1 := x0.c1
    obtain ⟨ts, hts, hot⟩ := hL
    have HTS := Lib.hid hts
    have hrow2 := row_kept hot.2.1 (grownBy_of_below hb) (fun q _ e => by cases e)
    have hsz := hb.size
    have HS2 := Lib.hid (hS.below hb)
    have HSEP := Lib.hid hsep
    have HB := Lib.hid hb
    have HQ := Lib.hid hq
    have hml : q + 1 ≤ maxLen := by unfold maxLen; omega
    have hkb : (q + 1) * 24 ≤ 140737488355328 := by omega
    have hI : (q : Int) ≤ 1000 := by omega
    have hd : ((ns : Int) == (ns : Int)) = true := by simp
    clear hts hS hA hb hq hw1 hsep
    go_enter Tryd.func89, Tryd.ntmps89
    go_upto_region 3 with fail
    rw [HW1.out]
    go_wp2_with (at_builtin; refine wpList_append_own_at _ rfl _ _ 25 rfl lo 22 i1 (.slice none 0 0) 1 24 Tryd.underlying25 hi1 hy0 hy1 hy2 rfl (by decide) (.slice AL q cl) q (valsT ts) rfl (World.ownsRow.alloc hrow2 _) ⟨w1.heap.size, 0, none⟩ 1 1 [.slice SA ns cs] rfl rfl ?c1 ?c2 hml hkb ?c5 ?_)
    try (case c1 => exact cell_one_new _ _ _)
    case c2 => first | rfl | (intro u hu; simp at hu; subst hu; rfl)
    case c5 => first | omega | (simp; omega)
    intro v' w7 hown hg _ hat
    have hg3 := alloc_grown hg
    rw [own_block] at hg3 hat
    obtain ⟨A7, c7, hv, hss7⟩ : ∃ A' c', v' = .slice A' (q + 1) c' ∧ OwnSS w7 lo w7.heap.size A' (q + 1) c' (ts.map (fun t => t.2.2) ++ [ints ss]) := by
      rcases HSEP.out with h9 | ⟨h9, h8⟩
      · exact OwnSS.snocH hot HB.out (own_up HS2.out h9) hlo hhi hown hg3 (hat.imp id fun h9 => ⟨_, h9, Nat.le_succ _⟩)
      · have hq0 : q = 0 := by rw [HQ.out, h9]; rfl
        subst hq0
        have hts0 : ts = [] := List.eq_nil_of_length_eq_zero hot.1
        subst hts0
        exact OwnSS.one HS2.out hown hg3 h8 (hat.imp id fun h9 => ⟨_, h9, Nat.le_succ _⟩)
    have hbl : ∀ k, A7.map (·.block) = some k → AL.map (·.block) = some k ∨ w.heap.size ≤ k := fun k hk => by
      rw [hv, own_block] at hat
      rcases hat with h9 | h9
      · exact .inl (h9 ▸ hk)
      · rw [h9] at hk; injection hk with hk; have := HB.out.size; exact .inr (by omega)
    rw [hv]
    rw [HTS.out] at hss7
    have HG : Hid (w.grownBy w7 (AL.map (·.block))) := Lib.hid ((grown_rowY HB.out _).trans hg3)
    clear hown hg hg3 hat hot hrow2 hv
    go_wp2_with fail
    go_ret
    exact ⟨A7, q + 1, c7, rfl, by rw [List.length_append, HQ.out]; rfl, by rw [levI_app]; exact hss7, HG.out, hbl⟩
end Go.Proofs.YtcojodkcpemfdaaDoor
namespace Go.Proofs.YtcojodkcpemfdaaDoor
open Go Go.RowKit
set_option linter.unusedVariables false
set_option maxRecDepth 100000

theorem Wd.of {P Q : Prop} (h : P) (f : P → Q) : Q := f h
set_option maxHeartbeats 12800000 in
theorem l08Sym_succ (rs : List Nat) (A : Option Addr) (n c k : Nat) (h8 : n ≤ 8) (hr : ∀ i, rs.getD i 0 < 2 ^ n) (IH : SyAll rs A n c k) : SyAll rs A n c (k + 1) := by
  intro ns cs q cl lo hi SA AL ss ls w hA hns hss0 hS hsep hL hlo hhi hls
  have hq : q = ls.length := by rw [← levI_len]; exact hL.len.symm
  by_cases hov : 1000 < q
  · exact l08Sym_over rs A n c ns cs q cl lo hi SA AL _ ls w hL hhi hov (by
      unfold capS; rw [List.take_append_of_le_length (by omega)]; exact List.take_of_length_le hls)
  · obtain ⟨i0, hi0, hz0, hz1, hz2⟩ := info_parts info_int
    have hnsn : ns < n := by omega
    have hALb := ownss_block hL
    have hSb : ∀ q, SA.map (·.block) = some q → AL.map (·.block) ≠ some q := fun q hq e => by
      rcases hsep with h9 | ⟨_, h9⟩
      · have := h9 q hq; have := (hALb q e).2; omega
      · exact h9 q hq e
    have HLS : Hid (ss.length = ns) := Lib.hid (by have := hS.rd.1; rw [ints_len] at this; exact this)
    obtain ⟨w0, hw0⟩ : ∃ w0, w.alloc (.cells #[.int .i64 (n : Int), .slice A n c] 29) = w0 := ⟨_, rfl⟩
    have HW0 := Lib.hid hw0
    have hb := below1 w (.cells #[.int .i64 (n : Int), .slice A n c] 29)
    have x0 := box_new 29 w (n : Int) A n c
    have hw0s : w0.heap.size = w.heap.size + 1 := by rw [← hw0]; simp
    rw [hw0] at hb x0
    have HAW : Hid (∀ ww, w0.grownBy ww (AL.map (·.block)) → Rd ww A n (ints rs)) := Lib.hid fun ww hg => hA ww ((hb.mono (by omega)).grown hg (by omega) (fun k e => (hALb k e).1))
    have HSW : Hid (∀ ww, w0.grownBy ww (AL.map (·.block)) → Own 2 ww lo SA ns cs (ints ss)) := Lib.hid fun ww hg => (hS.below hb).apart hg (fun q hq e => hSb q hq e)
    have HAB : Hid (∀ ww, w0.grownBy ww (AL.map (·.block)) → Below lo w ww) := Lib.hid fun ww hg => (hb.mono (by omega)).grown hg (by omega) (fun k e => (hALb k e).1)
    have HA9 := Lib.hid hA
    have HL0 := Lib.hid ((hL.below hb).wide (Nat.le_refl _) (show hi ≤ w0.heap.size by omega))
    have HGW := Lib.hid (fun r => grown_rowY hb r)
    have HIH := Lib.hid IH
    have HRR := Lib.hid hr
    have HSN := Lib.hid hss0
    obtain ⟨Z, hZ⟩ : ∃ Z : Nat → List (List Nat), Z = fun a => capS (ls ++ partS rs n k ss a) := ⟨_, rfl⟩
    have HZ0 : Hid (Z 0 = ls) := Lib.hid (by rw [hZ]; show capS (ls ++ partS rs n k ss 0) = ls; rw [partS_zero, List.append_nil, capS_small _ hls])
    have HZY : Hid (∀ a, fitB rs ss a = true → capS (Z a ++ fullS rs n k (ss ++ [a])) = Z (a + 1)) := Lib.hid (fun a h => by rw [hZ]; show capS (capS _ ++ _) = capS (ls ++ partS rs n k ss (a + 1)); rw [capS_app, partS_yes _ _ _ _ _ h, List.append_assoc])
    have HZN : Hid (∀ a, fitB rs ss a = false → Z (a + 1) = Z a) := Lib.hid (fun a h => by rw [hZ]; show capS (ls ++ partS rs n k ss (a + 1)) = capS (ls ++ partS rs n k ss a); rw [partS_no _ _ _ _ _ h])
    have HZA : Hid (capS (ls ++ fullS rs n (k + 1) ss) = Z n) := Lib.hid (by rw [hZ, ← partS_all])
    have HZL : Hid (∀ a, (Z a).length ≤ 1001) := Lib.hid (fun a => by rw [hZ]; exact capS_len _)
    have HQ : Hid (q = (Z 0).length) := Lib.hid (by rw [HZ0.out]; exact hq)
    rw [HZA.out]
    have HL1 : Hid (OwnSS w0 lo w0.heap.size AL q cl (levI (Z 0))) := Lib.hid (by rw [HZ0.out]; exact HL0.out)
    have hI : (q : Int) ≤ 1000 := by omega
    have hd : ((ns : Int) == (n : Int)) = false := by simp; omega
    have y0 := x0.c0
    have y1 := x0.c1
    have HNS : Hid (ns + (k + 1) = n) := Lib.hid hns
    have HHI : Hid (hi ≤ w.heap.size) := Lib.hid hhi
    have HLO : Hid (lo ≤ hi) := Lib.hid hlo
    have hns7 : ns < 8 := by omega
    clear hZ hw0 hq IH hL HL0 hA hS hb hr hss0 hsep hSb hns HZ0 hls hov hhi hlo
    go_enter Tryd.func89, Tryd.ntmps89
    go_wp2_with fail
    rw [HW0.out]
    go_loopw [2, 8] (fun p i wr => ∃ (a q2 c2 : Nat) (A2 : Option Addr), a ≤ n ∧ p = .slice A2 q2 c2 ∧ i = .int .i64 (a : Int) ∧ Hid (q2 = (Z a).length) ∧ OwnSS wr lo wr.heap.size A2 q2 c2 (levI (Z a)) ∧ w0.grownBy wr (AL.map (·.block)) ∧ (∀ k, A2.map (·.block) = some k → AL.map (·.block) = some k ∨ w0.heap.size ≤ k)) (fun _ i _ => n - (intOf i).toNat)
    case atStart => exact ⟨0, q, cl, AL, Nat.zero_le _, rfl, rfl, HQ, HL1.out, World.grownBy.refl _ _, fun k hk => .inl hk⟩
    case round =>
      clear y0 y1
      obtain ⟨a, q2, c2, A2, han, rfl, rfl, HQ2, hss, hg0, hbl⟩ := hrel
      have xr := x0.apart hg0 (fun e => by have := (hALb _ e).2; have := HHI.out; omega)
      have y0 := xr.c0
      have y1 := xr.c1
      by_cases hlt : a < n
      · have hst := HSW.out wr hg0
        have HHAS := Lib.hid (l01Has_any SA ns cs a ss wr hst.rd (by omega))
        have hrdr := HAW.out wr hg0
        have HP0 : Hid (fitP rs ss ns a 0 = !(decide (a ∈ ss))) := Lib.hid (fitP_zero rs ss ns a)
        have HPA : Hid (fitP rs ss ns a ns = fitB rs ss a) := Lib.hid (fitP_all rs ss ns a HLS.out)
        obtain ⟨has, hhas⟩ : ∃ b, b = decide (a ∈ ss) := ⟨_, rfl⟩
        rw [← hhas] at HHAS HP0
        have HDP : Hid (∀ (ww : World), Below wr.heap.size wr ww → ∀ x y, x < n → y < n → Calls Tryd.prog 141 #[.agg #[.int .i64 (n : Int), .slice A n c], .int .i64 (x : Int), .int .i64 (y : Int)] ww fun e w' => e = .returned (.bool (RDep rs x y)) ∧ Below ww.heap.size ww w') := Lib.hid fun ww hw x y hx hy => dep_any (n : Int) A n c x y rs ww (hrdr.below hw) (by omega) HRR.out hx hy
        have HST := Lib.hid hst
        have HSS := Lib.hid hss
        have HG0 := Lib.hid hg0
        have HBL := Lib.hid hbl
        clear hhas hst hss hg0 hbl hrdr
        go_wp2_with fail
        refine HHAS.out.mono ?_
        rintro e w' ⟨rfl, rfl⟩
        go_wp2_with fail
        go_loopw [9, 10] (fun fv iv wi => ∃ i : Nat, i ≤ ns ∧ fv = .bool (fitP rs ss ns a i) ∧ iv = .int .i64 (i : Int) ∧ Below wr.heap.size wr wi) (fun _ iv _ => ns - (intOf iv).toNat)
        case atStart => exact ⟨0, Nat.zero_le _, by rw [HP0.out], rfl, Below.refl _ _⟩
        case round =>
          clear y0 y1
          obtain ⟨i, hi9, rfl, rfl, hbi⟩ := hrel
          have xi := xr.next hbi
          have y0 := xi.c0
          have y1 := xi.c1
          by_cases hlti : i < ns
          · obtain ⟨bl, ol, u, eS, hbs, hxu, hcu⟩ := (HST.out.below hbi).rd.at_ hlti
            rw [ints_getD ss i (by rw [HLS.out]; exact hlti)] at hxu
            injection hxu with hxu
            obtain ⟨z, hz⟩ : ∃ z, z = ss.getD i 0 := ⟨_, rfl⟩
            have hzn : z < n := by rw [hz]; exact in_getD HSN.out i (by rw [HLS.out]; exact hlti)
            rw [← hz] at hxu
            subst hxu
            have HPS : Hid (fitP rs ss ns a (i + 1) = (fitP rs ss ns a i && (RDep rs i ns == RDep rs z a))) := Lib.hid (by rw [hz]; exact fitP_succ rs ss ns a i)
            have HDA := Lib.hid (fun (ww : World) (hw : Below wr.heap.size wr ww) => HDP.out ww (hbi.trans (hw.mono hbi.size)) i ns (by omega) hnsn)
            have HDB := Lib.hid (fun (ww : World) (hw : Below wr.heap.size wr ww) => HDP.out ww (hbi.trans (hw.mono hbi.size)) z a hzn hlt)
            obtain ⟨F, hF⟩ : ∃ F, F = fitP rs ss ns a i := ⟨_, rfl⟩
            obtain ⟨T1, hT1⟩ : ∃ T, T = RDep rs i ns := ⟨_, rfl⟩
            obtain ⟨T2, hT2⟩ : ∃ T, T = RDep rs z a := ⟨_, rfl⟩
            rw [← hT1] at HDA HPS
            rw [← hT2] at HDB HPS
            rw [← hF] at HPS ⊢
            have HKP : Hid (∀ ww, Below wr.heap.size wr ww → ww.cell? ⟨w.heap.size, 0, none⟩ = some (.int .i64 (n : Int)) ∧ ww.cell? ⟨w.heap.size, 1, none⟩ = some (.slice A n c) ∧ ww.cell? ⟨bl, ol + i, none⟩ = some (.int .i64 (z : Int))) := Lib.hid fun ww hw => by
              have x9 := xi.next hw
              exact ⟨x9.c0, x9.c1, (hw.cell (show (⟨bl, ol + i, none⟩ : Addr).block < wr.heap.size from hbs)).trans hcu⟩
            have hdr : Below wr.heap.size wr wr.drew := (Below.refl _ _).drew
            have kd := HKP.out _ hdr
            clear hz hF hT1 hT2
            subst eS
            cases F
            · go_wp2_with fail
              refine wp_region_held_drew (S := (fun ww => ww.cell? ⟨w.heap.size, 0, none⟩ = some (.int .i64 (n : Int)) ∧ ww.cell? ⟨w.heap.size, 1, none⟩ = some (.slice A n c) ∧ ww.cell? ⟨bl, ol + i, none⟩ = some (.int .i64 (z : Int)))) (by kernel_rfl) kd (fun hHeld => ?_)
              refine wpAnyH_take (i := 0) (oi := ⟨some 41, _, _, _, _, _⟩) (v := ?_) rfl (by kernel_rfl) (by kernel_rfl) (by kernel_rfl) (fun _ _ _ h => h) (Or.inl ⟨by kernel_rfl, ?_⟩) (by assumption) ?_
              rotate_left
              · (intro w9 hS9; (try dsimp only at hS9); go_simp; try with_reducible rfl)
              simp only [Act.put, List.setIfInBounds_toArray, List.set_cons_zero, List.set_cons_succ]
              refine wpAnyH_take (i := 1) (oi := ⟨some 42, _, _, _, _, _⟩) (v := ?_) rfl (by kernel_rfl) (by kernel_rfl) (by kernel_rfl) (fun _ _ _ h => h) (Or.inl ⟨by kernel_rfl, ?_⟩) (by assumption) ?_
              rotate_left
              · (intro w9 hS9; (try dsimp only at hS9); go_simp; try with_reducible rfl)
              simp only [Act.put, List.setIfInBounds_toArray, List.set_cons_zero, List.set_cons_succ]
              refine wpAnyH_take (i := 2) (oi := ⟨some 43, _, _, _, _, _⟩) (v := undef) rfl (by kernel_rfl) (by kernel_rfl) (by kernel_rfl) (fun _ _ _ h => h) (Or.inr ⟨by kernel_rfl, rfl⟩) (by assumption) ?_
              simp only [Act.put, List.setIfInBounds_toArray, List.set_cons_zero, List.set_cons_succ]
              refine wpAnyH_take (i := 3) (oi := ⟨some 44, _, _, _, _, _⟩) (v := undef) rfl (by kernel_rfl) (by kernel_rfl) (by kernel_rfl) (fun _ _ _ h => h) (Or.inr ⟨by kernel_rfl, rfl⟩) (by assumption) ?_
              simp only [Act.put, List.setIfInBounds_toArray, List.set_cons_zero, List.set_cons_succ]
              refine wpAnyH_take (i := 4) (oi := ⟨some 45, _, _, _, _, _⟩) (v := undef) rfl (by kernel_rfl) (by kernel_rfl) (by kernel_rfl) (fun _ _ _ h => h) (Or.inr ⟨by kernel_rfl, rfl⟩) (by assumption) ?_
              simp only [Act.put, List.setIfInBounds_toArray, List.set_cons_zero, List.set_cons_succ]
              refine wpAnyH_take (i := 5) (oi := ⟨some 46, _, _, _, _, _⟩) (v := undef) rfl (by kernel_rfl) (by kernel_rfl) (by kernel_rfl) (fun _ _ _ h => h) (Or.inr ⟨by kernel_rfl, rfl⟩) (by assumption) ?_
              simp only [Act.put, List.setIfInBounds_toArray, List.set_cons_zero, List.set_cons_succ]
              refine wpAnyH_take (i := 6) (oi := ⟨some 47, _, _, _, _, _⟩) (v := undef) rfl (by kernel_rfl) (by kernel_rfl) (by kernel_rfl) (fun _ _ _ h => h) (Or.inr ⟨by kernel_rfl, rfl⟩) (by assumption) ?_
              simp only [Act.put, List.setIfInBounds_toArray, List.set_cons_zero, List.set_cons_succ]
              refine wpAnyH_take (i := 7) (oi := ⟨some 48, _, _, _, _, _⟩) (v := undef) rfl (by kernel_rfl) (by kernel_rfl) (by kernel_rfl) (fun _ _ _ h => h) (Or.inr ⟨by kernel_rfl, rfl⟩) (by assumption) ?_
              simp only [Act.put, List.setIfInBounds_toArray, List.set_cons_zero, List.set_cons_succ]
              refine wpAnyH_take (i := 8) (oi := ⟨some 49, _, _, _, _, _⟩) (v := undef) rfl (by kernel_rfl) (by kernel_rfl) (by kernel_rfl) (fun _ _ _ h => h) (Or.inr ⟨by kernel_rfl, rfl⟩) (by assumption) ?_
              simp only [Act.put, List.setIfInBounds_toArray, List.set_cons_zero, List.set_cons_succ]
              refine wpAnyH_take (i := 9) (oi := ⟨some 50, _, _, _, _, _⟩) (v := undef) rfl (by kernel_rfl) (by kernel_rfl) (by kernel_rfl) (fun _ _ _ h => h) (Or.inr ⟨by kernel_rfl, rfl⟩) (by assumption) ?_
              simp only [Act.put, List.setIfInBounds_toArray, List.set_cons_zero, List.set_cons_succ]
              refine wpAnyH_take (i := 10) (oi := ⟨some 51, _, _, _, _, _⟩) (v := undef) rfl (by kernel_rfl) (by kernel_rfl) (by kernel_rfl) (fun _ _ _ h => h) (Or.inr ⟨by kernel_rfl, rfl⟩) (by assumption) ?_
              simp only [Act.put, List.setIfInBounds_toArray, List.set_cons_zero, List.set_cons_succ]
              refine wpAnyH_take (i := 11) (oi := ⟨some 52, _, _, _, _, _⟩) (v := undef) rfl (by kernel_rfl) (by kernel_rfl) (by kernel_rfl) (fun _ _ _ h => h) (Or.inr ⟨by kernel_rfl, rfl⟩) (by assumption) ?_
              simp only [Act.put, List.setIfInBounds_toArray, List.set_cons_zero, List.set_cons_succ]
              refine wpAnyH_take (i := 12) (oi := ⟨some 53, _, _, _, _, _⟩) (v := undef) rfl (by kernel_rfl) (by kernel_rfl) (by kernel_rfl) (fun _ _ _ h => h) (Or.inr ⟨by kernel_rfl, rfl⟩) (by assumption) ?_
              simp only [Act.put, List.setIfInBounds_toArray, List.set_cons_zero, List.set_cons_succ]
              refine wpAnyH_take (i := 13) (oi := ⟨some 54, _, _, _, _, _⟩) (v := undef) rfl (by kernel_rfl) (by kernel_rfl) (by kernel_rfl) (fun _ _ _ h => h) (Or.inr ⟨by kernel_rfl, rfl⟩) (by assumption) ?_
              simp only [Act.put, List.setIfInBounds_toArray, List.set_cons_zero, List.set_cons_succ]
              refine wpAnyH_take (i := 14) (oi := ⟨some 55, _, _, _, _, _⟩) (v := ?_) rfl (by kernel_rfl) (by kernel_rfl) (by kernel_rfl) (fun _ _ _ h => h) (Or.inl ⟨by kernel_rfl, ?_⟩) (by assumption) ?_
              rotate_left
              · (intro w9 hS9; (try dsimp only at hS9); go_simp; try with_reducible rfl)
              simp only [Act.put, List.setIfInBounds_toArray, List.set_cons_zero, List.set_cons_succ]
              refine wpAnyH_take (i := 15) (oi := ⟨some 9, _, _, _, _, _⟩) (v := ?_) rfl (by kernel_rfl) (by kernel_rfl) (by kernel_rfl) (fun _ _ _ h => h) (Or.inl ⟨by kernel_rfl, ?_⟩) (by assumption) ?_
              rotate_left
              · (intro w9 hS9; (try dsimp only at hS9); go_simp; try with_reducible rfl)
              simp only [Act.put, List.setIfInBounds_toArray, List.set_cons_zero, List.set_cons_succ]
              refine wpAnyH_done (by kernel_rfl) ?_ _
              have HX9 : Hid (fitP rs ss ns a (i + 1) = false) := Lib.hid (by rw [HPS.out]; rfl)
              have hb9 := hbi.trans (hdr.mono hbi.size)
              clear hHeld kd
              go_wp2_with fail
              go_roundw
              case rel => exact ⟨i + 1, hlti, by rw [HX9.out], by go_num, hb9⟩
              case measure => simp [intOf]; omega
            · go_wp2_with fail
              refine wp_region_held_drew (S := (fun ww => ww.cell? ⟨w.heap.size, 0, none⟩ = some (.int .i64 (n : Int)) ∧ ww.cell? ⟨w.heap.size, 1, none⟩ = some (.slice A n c) ∧ ww.cell? ⟨bl, ol + i, none⟩ = some (.int .i64 (z : Int)))) (by kernel_rfl) kd (fun hHeld => ?_)
              refine wpAnyH_take (i := 0) (oi := ⟨some 41, _, _, _, _, _⟩) (v := ?_) rfl (by kernel_rfl) (by kernel_rfl) (by kernel_rfl) (fun _ _ _ h => h) (Or.inl ⟨by kernel_rfl, ?_⟩) (by assumption) ?_
              rotate_left
              · (intro w9 hS9; (try dsimp only at hS9); go_simp; try with_reducible rfl)
              simp only [Act.put, List.setIfInBounds_toArray, List.set_cons_zero, List.set_cons_succ]
              refine wpAnyH_take (i := 1) (oi := ⟨some 42, _, _, _, _, _⟩) (v := ?_) rfl (by kernel_rfl) (by kernel_rfl) (by kernel_rfl) (fun _ _ _ h => h) (Or.inl ⟨by kernel_rfl, ?_⟩) (by assumption) ?_
              rotate_left
              · (intro w9 hS9; (try dsimp only at hS9); go_simp; try with_reducible rfl)
              simp only [Act.put, List.setIfInBounds_toArray, List.set_cons_zero, List.set_cons_succ]
              refine wpAnyH_take (i := 2) (oi := ⟨some 43, _, _, _, _, _⟩) (v := ?_) rfl (by kernel_rfl) (by kernel_rfl) (by kernel_rfl) (fun _ _ _ h => h) (Or.inl ⟨by kernel_rfl, ?_⟩) (by assumption) ?_
              rotate_left
              · (intro w9 hS9; (try dsimp only at hS9); go_simp; try with_reducible rfl)
              simp only [Act.put, List.setIfInBounds_toArray, List.set_cons_zero, List.set_cons_succ]
              refine wpAnyH_take (i := 3) (oi := ⟨some 44, _, _, _, _, _⟩) (v := ?_) rfl (by kernel_rfl) (by kernel_rfl) (by kernel_rfl) (fun _ _ _ h => h) (Or.inl ⟨by kernel_rfl, ?_⟩) (by assumption) ?_
              rotate_left
              · (intro w9 hS9; (try dsimp only at hS9); go_simp; try with_reducible rfl)
              simp only [Act.put, List.setIfInBounds_toArray, List.set_cons_zero, List.set_cons_succ]
              refine wpAnyH_take (i := 4) (oi := ⟨some 45, _, _, _, _, _⟩) (v := ?_) rfl (by kernel_rfl) (by kernel_rfl) (by kernel_rfl) (fun _ _ _ h => h) (Or.inl ⟨by kernel_rfl, ?_⟩) (by assumption) ?_
              rotate_left
              · (intro w9 hS9; (try dsimp only at hS9); go_simp; try with_reducible rfl)
              simp only [Act.put, List.setIfInBounds_toArray, List.set_cons_zero, List.set_cons_succ]
              refine wpAnyH_take (i := 6) (oi := ⟨some 47, _, _, _, _, _⟩) (v := ?_) rfl (by kernel_rfl) (by kernel_rfl) (by kernel_rfl) (fun _ _ _ h => h) (Or.inl ⟨by kernel_rfl, ?_⟩) (by assumption) ?_
              rotate_left
              · (intro w9 hS9; (try dsimp only at hS9); go_simp; try with_reducible rfl)
              simp only [Act.put, List.setIfInBounds_toArray, List.set_cons_zero, List.set_cons_succ]
              refine wpAnyH_take (i := 7) (oi := ⟨some 48, _, _, _, _, _⟩) (v := ?_) rfl (by kernel_rfl) (by kernel_rfl) (by kernel_rfl) (fun _ _ _ h => h) (Or.inl ⟨by kernel_rfl, ?_⟩) (by assumption) ?_
              rotate_left
              · (intro w9 hS9; (try dsimp only at hS9); go_simp; try with_reducible rfl)
              simp only [Act.put, List.setIfInBounds_toArray, List.set_cons_zero, List.set_cons_succ]
              refine wpAnyH_take (i := 8) (oi := ⟨some 49, _, _, _, _, _⟩) (v := ?_) rfl (by kernel_rfl) (by kernel_rfl) (by kernel_rfl) (fun _ _ _ h => h) (Or.inl ⟨by kernel_rfl, ?_⟩) (by assumption) ?_
              rotate_left
              · (intro w9 hS9; (try dsimp only at hS9); go_simp; try with_reducible rfl)
              simp only [Act.put, List.setIfInBounds_toArray, List.set_cons_zero, List.set_cons_succ]
              refine wpAnyH_take (i := 9) (oi := ⟨some 50, _, _, _, _, _⟩) (v := ?_) rfl (by kernel_rfl) (by kernel_rfl) (by kernel_rfl) (fun _ _ _ h => h) (Or.inl ⟨by kernel_rfl, ?_⟩) (by assumption) ?_
              rotate_left
              · (intro w9 hS9; (try dsimp only at hS9); go_simp; try with_reducible rfl)
              simp only [Act.put, List.setIfInBounds_toArray, List.set_cons_zero, List.set_cons_succ]
              refine wpAnyH_take (i := 10) (oi := ⟨some 51, _, _, _, _, _⟩) (v := ?_) rfl (by kernel_rfl) (by kernel_rfl) (by kernel_rfl) (fun _ _ _ h => h) (Or.inl ⟨by kernel_rfl, ?_⟩) (by assumption) ?_
              rotate_left
              · (intro w9 hS9; (try dsimp only at hS9); go_simp; try with_reducible rfl)
              simp only [Act.put, List.setIfInBounds_toArray, List.set_cons_zero, List.set_cons_succ]
              refine wpAnyH_take (i := 11) (oi := ⟨some 52, _, _, _, _, _⟩) (v := ?_) rfl (by kernel_rfl) (by kernel_rfl) (by kernel_rfl) (fun _ _ _ h => h) (Or.inl ⟨by kernel_rfl, ?_⟩) (by assumption) ?_
              rotate_left
              · (intro w9 hS9; (try dsimp only at hS9); go_simp; try with_reducible rfl)
              simp only [Act.put, List.setIfInBounds_toArray, List.set_cons_zero, List.set_cons_succ]
              refine wpAnyH_ready (rs := [5]) (by kernel_rfl) (by simp) ?_
              refine AllReadyH.cons (o := _) rfl (fun K hK => ?_) AllReadyH.nil
              go_simp
              go_at_call 141
              with_reducible refine (HDA.out _ hdr).mono ?_
              rintro e wF ⟨rfl, bF⟩
              have hF := hdr.trans (bF.mono hdr.size)
              have kf := HKP.out _ hF
              go_wp2_with fail
              refine hK.out _ _ kf (fun hHeldwF => ?_)
              clear hK K
              try simp only [Act.put, List.setIfInBounds_toArray, List.set_cons_zero, List.set_cons_succ]
              refine wpAnyH_ready (rs := [12]) (by kernel_rfl) (by simp) ?_
              refine AllReadyH.cons (o := _) rfl (fun K hK => ?_) AllReadyH.nil
              go_simp
              go_at_call 141
              with_reducible refine (HDB.out _ hF).mono ?_
              rintro e wG ⟨rfl, bG⟩
              have hG := hF.trans (bG.mono hF.size)
              have kg := HKP.out _ hG
              go_wp2_with fail
              refine hK.out _ _ kg (fun hHeldwG => ?_)
              clear hK K
              try simp only [Act.put, List.setIfInBounds_toArray, List.set_cons_zero, List.set_cons_succ]
              refine wpAnyH_take (i := 13) (oi := ⟨some 54, _, _, _, _, _⟩) (v := ?_) rfl (by kernel_rfl) (by kernel_rfl) (by kernel_rfl) (fun _ _ _ h => h) (Or.inl ⟨by kernel_rfl, ?_⟩) (by assumption) ?_
              rotate_left
              · (intro w9 hS9; (try dsimp only at hS9); go_simp; try with_reducible rfl)
              simp only [Act.put, List.setIfInBounds_toArray, List.set_cons_zero, List.set_cons_succ]
              refine wpAnyH_take (i := 14) (oi := ⟨some 55, _, _, _, _, _⟩) (v := ?_) rfl (by kernel_rfl) (by kernel_rfl) (by kernel_rfl) (fun _ _ _ h => h) (Or.inl ⟨by kernel_rfl, ?_⟩) (by assumption) ?_
              rotate_left
              · (intro w9 hS9; (try dsimp only at hS9); go_simp; try with_reducible rfl)
              simp only [Act.put, List.setIfInBounds_toArray, List.set_cons_zero, List.set_cons_succ]
              refine wpAnyH_take (i := 15) (oi := ⟨some 9, _, _, _, _, _⟩) (v := ?_) rfl (by kernel_rfl) (by kernel_rfl) (by kernel_rfl) (fun _ _ _ h => h) (Or.inl ⟨by kernel_rfl, ?_⟩) (by assumption) ?_
              rotate_left
              · (intro w9 hS9; (try dsimp only at hS9); go_simp; try with_reducible rfl)
              simp only [Act.put, List.setIfInBounds_toArray, List.set_cons_zero, List.set_cons_succ]
              refine wpAnyH_done (by kernel_rfl) ?_ _
              have HX9 : Hid (fitP rs ss ns a (i + 1) = (T1 == T2)) := Lib.hid (by rw [HPS.out, Bool.true_and])
              have hb9 := hbi.trans (hG.mono hbi.size)
              clear hHeld hHeldwF hHeldwG kd kf kg
              go_wp2_with fail
              go_roundw
              case rel => exact ⟨i + 1, hlti, by rw [HX9.out], by go_num, hb9⟩
              case measure => simp [intOf]; omega
          · obtain rfl : i = ns := by omega
            rw [HPA.out]
            obtain ⟨F, hF⟩ : ∃ F, F = fitB rs ss a := ⟨_, rfl⟩
            rw [← hF]
            have hssi := (HSS.out.below hbi).wide (Nat.le_refl _) hbi.size
            have hg0i := HG0.out.trans (grown_rowY hbi (AL.map (·.block)))
            have hsti := HST.out.below hbi
            cases F
            · have HZ9 : Hid (Z (a + 1) = Z a) := Lib.hid (HZN.out a hF.symm)
              clear hF
              go_wp2_with fail
              go_roundw
              case rel => exact ⟨a + 1, q2, c2, A2, by omega, rfl, by go_num, (by rw [HZ9.out]; exact HQ2), (by rw [HZ9.out]; exact hssi), hg0i, HBL.out⟩
              case measure => simp [intOf]; omega
            · have HZ9 : Hid (capS (Z a ++ fullS rs n k (ss ++ [a])) = Z (a + 1)) := Lib.hid (HZY.out a hF.symm)
              clear hF
              have HBLi : Hid (∀ q, A2.map (·.block) = some q → lo ≤ q ∧ q < wr.heap.size) := Lib.hid (ownss_block hssi)
              have hA2w : (A2.map (·.block)) ≠ some w.heap.size := fun e => by
                rcases HBL.out _ e with h9 | h9
                · have := (hALb _ h9).2; have := HHI.out; omega
                · omega
              have hwi : w.heap.size + 1 ≤ wr.heap.size := by have := HG0.out.size; have := hbi.size; omega
              have HOW : Hid (∀ ww, Below wr.heap.size wr ww → Calls Tryd.prog 104 #[.slice SA i cs] ww (MakesE 2 ww i (ints ss))) := Lib.hid fun ww hw => own_any SA i cs (ints ss) ww (hsti.below hw).rd (by omega)
              have HLI : Hid (∀ ww A4 c4, Below wr.heap.size wr ww → Own 2 ww wr.heap.size A4 (i + 1) c4 (ints (ss ++ [a])) → Calls Tryd.prog 89 #[.agg #[.int .i64 (n : Int), .slice A n c], .slice A4 (i + 1) c4, .slice A2 q2 c2] ww (SyPost ww lo A2 (Z (a + 1)))) := Lib.hid fun ww A4 c4 hw ho4 => by
                have h9 := HIH.out (i + 1) c4 q2 c2 lo wr.heap.size A4 A2 (ss ++ [a]) (Z a) ww (fun w9 hw9 => HA9.out w9 ((HAB.out _ (hg0i.trans (grown_rowY hw _))).trans hw9)) (by have := HNS.out; omega) (fun x hx => by
                  rcases List.mem_append.1 hx with h7 | h7
                  · exact HSN.out x h7
                  · rw [List.mem_singleton.1 h7]; exact hlt) (ho4.mono (by have := HLO.out; have := HHI.out; omega)) (.inl fun q hq => (ho4.lt q hq).1) (hssi.below hw) (by have := HLO.out; have := HHI.out; omega) hw.size (HZL.out a)
                rw [HZ9.out] at h9
                exact h9
              have hdr : Below wr.heap.size wr wr.drew := (Below.refl _ _).drew
              have HX := Lib.hid (fun ww (hw : Below wr.heap.size wr ww) => xi.next hw)
              have d0 := (xi.next hdr).c0
              have d1 := (xi.next hdr).c1
              have HSSI := Lib.hid hssi
              have HG0I := Lib.hid hg0i
              have hml : i + 1 ≤ maxLen := by unfold maxLen; omega
              have hby : (i + 1) * 8 ≤ 140737488355328 := by omega
              clear hssi hg0i hsti
              go_upto_region 15 with fail
              have hdb : Below wr.heap.size wr (wr.alloc (.cells #[.int .i64 (a : Int)] 2)).drew := (below1 wr (.cells #[.int .i64 (a : Int)] 2)).drew
              have hdbn : (wr.alloc (.cells #[.int .i64 (a : Int)] 2)).drew.heap[wr.heap.size]? = some (.cells #[.int .i64 (a : Int)] 2 (0, 0)) := heap_alloc_new wr (.cells #[.int .i64 (a : Int)] 2)
              have hdbn9 : wr.heap.size < (wr.alloc (.cells #[.int .i64 (a : Int)] 2)).drew.heap.size := by show wr.heap.size < (wr.alloc (.cells #[.int .i64 (a : Int)] 2)).heap.size; rw [size1']; omega
              have hdc : Below wr.heap.size wr (wr.drew.alloc (.cells #[.int .i64 (a : Int)] 2)) := hdr.alloc hdr.size (.cells #[.int .i64 (a : Int)] 2)
              have hdcn : (wr.drew.alloc (.cells #[.int .i64 (a : Int)] 2)).heap[wr.heap.size]? = some (.cells #[.int .i64 (a : Int)] 2 (0, 0)) := heap_alloc_new wr.drew (.cells #[.int .i64 (a : Int)] 2)
              have hdcn9 : wr.heap.size < (wr.drew.alloc (.cells #[.int .i64 (a : Int)] 2)).heap.size := by rw [size1']; exact Nat.lt_succ_self _
              have e0 := (HX.out _ hdb).c0
              have e1 := (HX.out _ hdb).c1
              have f0 := (HX.out _ hdc).c0
              have f1 := (HX.out _ hdc).c1
              clear y0 y1
              go_wp2_with fail
              go_region_held3 (fun w' => w'.cell? ⟨w.heap.size, 0, none⟩ = some (.int .i64 (n : Int)) ∧ w'.cell? ⟨w.heap.size, 1, none⟩ = some (.slice A n c)) (first | exact ⟨d0, d1⟩ | exact ⟨e0, e1⟩ | exact ⟨f0, f1⟩ | exact ⟨co0, co1⟩ | exact ⟨cs0, cs1⟩ | exact ⟨c70, c71⟩ | exact ⟨c90, c91⟩ | exact ⟨(HX.out _ hdb).c0, (HX.out _ hdb).c1⟩ | go_keep) (first
                | (go_at_call 104; (with_reducible refine (HOW.out _ hdr).mono ?_); rintro e wO ⟨A5, c5, rfl, o5, hO⟩; have hO1 := hdr.trans (hO.mono hdr.size); have o5' := o5.mono hdr.size; have co0 := (HX.out _ hO1).c0; have co1 := (HX.out _ hO1).c1; have hOb := hO1.alloc hO1.size (.cells #[.int .i64 (a : Int)] 2); have oB := World.ownsRow.alloc o5' (.cells #[.int .i64 (a : Int)] 2); have nB := heap_alloc_new wO (.cells #[.int .i64 (a : Int)] 2); have cs0 := (HX.out _ hOb).c0; have cs1 := (HX.out _ hOb).c1)
                | (go_at_call 104; (with_reducible refine (HOW.out _ hdb).mono ?_); rintro e wO ⟨A5, c5, rfl, o5, hO⟩; have hO1 := hdb.trans (hO.mono hdb.size); have o5' := o5.mono hdb.size; have co0 := (HX.out _ hO1).c0; have co1 := (HX.out _ hO1).c1; have hOb := hO1; have oB := o5'; have nB := (hO.block _ hdbn9).trans hdbn; have cs0 := (HX.out _ hOb).c0; have cs1 := (HX.out _ hOb).c1)
                | (go_at_call 104; (with_reducible refine (HOW.out _ hdc).mono ?_); rintro e wO ⟨A5, c5, rfl, o5, hO⟩; have hO1 := hdc.trans (hO.mono hdc.size); have o5' := o5.mono hdc.size; have co0 := (HX.out _ hO1).c0; have co1 := (HX.out _ hO1).c1; have hOb := hO1; have oB := o5'; have nB := (hO.block _ hdcn9).trans hdcn; have cs0 := (HX.out _ hOb).c0; have cs1 := (HX.out _ hOb).c1)
                | (refine step_append_lies _ (by rfl) _ _ _ (by rfl) wr.heap.size 2 i0 _ 1 8 Tryd.underlying22 hi0 hz0 hz1 hz2 rfl (by omega) (.slice A5 i c5) i ((ints ss).map (Value.int .i64)) (by rfl) oB ⟨_, 0, none⟩ 1 1 [.int .i64 (a : Int)] (by rfl) (by rfl) (World.news_of_block (cs := #[.int .i64 (a : Int)]) (t := 2) (fr := (0, 0)) nB) (by simp [Value.oneCell']) (by omega) hml hby hOb.size _ rfl ?_; intro gq cap w7 hown hg7 hat hlt9; have h7 := hOb.grown hg7 hOb.size (fun q e => (o5'.lt q (ownBlock_map' e)).1); have c70 := (HX.out _ h7).c0; have c71 := (HX.out _ h7).c1; rw [ints_snoc_map] at hown; have o7 : Own 2 w7 wr.heap.size (some ⟨gq, 0, none⟩) (i + 1) cap (ints (ss ++ [a])) := hown; clear hown)
                | (go_at_call 89; (with_reducible refine (HLI.out _ _ _ h7 o7).mono ?_); rintro e w9 ⟨A9, q9, c9, rfl, rfl, hss9, hg9, hbl9⟩; have x9 := (HX.out _ h7).apart hg9 hA2w; have c90 := x9.c0; have c91 := x9.c1))
              all_goals (
                have hg99 := grown_join (HG0I.out.trans (grown_rowY h7 _)) hg9 HBL.out
                have hbl99 : ∀ k, A9.map (·.block) = some k → AL.map (·.block) = some k ∨ w0.heap.size ≤ k := fun k hk => by
                  rcases hbl9 k hk with h9 | h9
                  · exact HBL.out k h9
                  · have := h7.size; exact .inr (by omega)
                have HR9 := Lib.hid (And.intro hss9 (And.intro hg99 hbl99))
                clear hss9 hg99 hbl99 hg9 hbl9
                go_wp2_with fail
                go_roundw
                case rel => exact ⟨a + 1, _, c9, A9, by omega, rfl, by go_num, Lib.hid rfl, HR9.out.1, HR9.out.2.1, HR9.out.2.2⟩
                case measure => simp [intOf]; omega)
      · obtain rfl : a = n := by omega
        have HG9 := Lib.hid ((HGW.out _).trans hg0)
        have hw0s2 : w.heap.size ≤ w0.heap.size := by omega
        go_wp2_with fail
        go_ret
        exact ⟨A2, q2, c2, rfl, HQ2.out, hss, HG9.out, fun k hk => (hbl k hk).imp id fun h9 => by omega⟩
theorem l08Sym_all (rs : List Nat) (A : Option Addr) (n c : Nat) (h8 : n ≤ 8) (hr : ∀ i, rs.getD i 0 < 2 ^ n) : ∀ k, SyAll rs A n c k
  | 0 => l08Sym_zero rs A n c
  | k + 1 => l08Sym_succ rs A n c k h8 hr (l08Sym_all rs A n c h8 hr k)
end Go.Proofs.YtcojodkcpemfdaaDoor
namespace Go.Proofs.YtcojodkcpemfdaaDoor
open Go Go.RowKit
set_option linter.unusedVariables false
set_option maxRecDepth 100000

set_option maxHeartbeats 6400000 in
theorem specSymmetriesOf (L : Int) (A : Option Addr) (n c : Nat) (xs : List Int) (w : World) (h : Rd w A n xs) (hwf : Wf xs) (hL1 : -9223372036854775808 ≤ L) (hL2 : L ≤ 9223372036854775807) (hn : n ≤ maxLen) :
    Calls Tryd.prog 38 #[.agg #[.int .i64 L, .slice A n c]] w (LssPost w (saAns L xs).1.length (saAns L xs).1 (saAns L xs).2) := by
  have hn2 : n ≤ 9223372036854775807 := by unfold maxLen at hn; omega
  have hn1 := h.1
  have HB := Lib.hid (below1 w (.cells #[.int .i64 L, .slice A n c] 29))
  have x0 := box_new 29 w L A n c
  have hh := h.below HB.out
  have HIS := Lib.hid (l02Is_any L A n c xs _ hh hn2)
  cases ha : alphB L xs
  · rw [saAns_no L xs ha]
    have HA := Lib.hid ha
    clear ha hn1
    go_enter Tryd.func38, Tryd.ntmps38
    go_wp2_with fail
    refine HIS.out.mono ?_
    rintro e w1 ⟨rfl, hb⟩
    rw [HA.out]
    go_wp2_with fail
    go_ret2
    exact ⟨none, 0, rfl, OwnSS.nil _ _, HB.out.trans (hb.mono HB.out.size)⟩
  · have HA := Lib.hid ha
    obtain ⟨rs, rfl, rfl, h8, hr, hrel, hl, hd, _⟩ := alphB_nats L xs n hn1 ha
    rw [saAns_yes _ rs ha]
    have HF1 := Lib.hid (symF_long rs n hl)
    have HF2 := Lib.hid (symF_yes rs n hl)
    have HALL := Lib.hid (l08Sym_all rs A n c h8 hr n)
    have HLV : Hid (fullS rs n n [] = levS rs n n) := Lib.hid (levS_all rs n)
    obtain ⟨LL, hLL⟩ : ∃ LL, LL = levS rs n n := ⟨_, rfl⟩
    rw [← hLL] at HF1 HF2 HLV
    have HOV : Hid (1000 < (capS LL).length ↔ 1000 < LL.length) := Lib.hid (capS_over LL)
    have HSM : Hid (LL.length ≤ 1000 → capS LL = LL) := Lib.hid fun h9 => capS_small LL (by omega)
    clear ha hr hrel hd hl hLL hn1
    go_enter Tryd.func38, Tryd.ntmps38
    go_wp2_with fail
    refine HIS.out.mono ?_
    rintro e w1 ⟨rfl, hb⟩
    rw [HA.out]
    have y0 := (x0.next hb).c0
    have y1 := (x0.next hb).c1
    have hrd := hh.below hb
    have HB1 := Lib.hid (HB.out.trans (hb.mono HB.out.size))
    have hb2 := below1 w1 (.cells #[] 2)
    have hb3 := hb2.alloc hb2.size (.cells #[] 22)
    have z0 := ((x0.next hb).next hb3).c0
    have z1 := ((x0.next hb).next hb3).c1
    have z2 := ((x0.next hb).next hb2).c0
    have z3 := ((x0.next hb).next hb2).c1
    have hs1 : (w1.alloc (.cells #[] 2)).heap.size = w1.heap.size + 1 := size1' _ _
    have hs2 : ((w1.alloc (.cells #[] 2)).alloc (.cells #[] 22)).heap.size = w1.heap.size + 2 := by rw [size1', size1']
    have hO : Own 2 ((w1.alloc (.cells #[] 2)).alloc (.cells #[] 22)) w1.heap.size (some ⟨w1.heap.size, 0, none⟩) 0 0 (ints []) := Own.below (World.ownsRow_lit w1 #[] 0 (Nat.le_refl _) (by unfold maxLen; omega) rfl) (below1 _ _)
    have hS : OwnSS ((w1.alloc (.cells #[] 2)).alloc (.cells #[] 22)) w1.heap.size (w1.heap.size + 2) (some ⟨w1.heap.size + 1, 0, none⟩) 0 0 (levI []) := ⟨[], rfl, rfl, by
      have := World.ownsRow_lit (e := 22) (size := 1) (w1.alloc (.cells #[] 2)) #[] 0 (base := w1.heap.size) (by rw [hs1]; omega) (by unfold maxLen; omega) rfl
      rw [hs1] at this; exact this, fun q hq => by have := Option.some.inj hq; have h8 : w1.heap.size + 1 = q := this; omega, fun j t hj => by cases hj⟩
    have HSY := Lib.hid (HALL.out 0 0 0 0 w1.heap.size (w1.heap.size + 2) (some ⟨w1.heap.size, 0, none⟩) (some ⟨w1.heap.size + 1, 0, none⟩) [] [] _ (fun ww hw => hrd.below (hb3.trans hw)) (by omega) (fun x hx => by cases hx) hO (.inr ⟨rfl, fun q hq e => by
      have h9 := Option.some.inj hq; have h8 := Option.some.inj e
      have h7 : w1.heap.size = q := h9
      have h6 : w1.heap.size + 1 = q := h8
      omega⟩) hS (by omega) (by rw [hs2]; exact Nat.le_refl _) (by show 0 ≤ 1001; omega))
    rw [List.nil_append, HLV.out] at HSY
    have HB3 := Lib.hid hb3
    clear hO hS hb2 hb3 hrd hb hs2
    go_wp2_with fail
    refine HSY.out.mono ?_
    rintro e w5 ⟨A5, q5, c5, rfl, rfl, hss, hg, -⟩
    have HB5 : Hid (Below w.heap.size w w5) := Lib.hid ((HB1.out.trans (HB3.out.mono HB1.out.size)).grown hg (by have := HB1.out.size; have := HB3.out.size; omega) (fun q e => by have h9 := Option.some.inj e; have h8 : w1.heap.size + 1 = q := h9; have := HB1.out.size; omega))
    have HSS := Lib.hid (hss.wide HB1.out.size (Nat.le_refl _))
    clear hss hg
    rcases Nat.lt_or_ge 1000 LL.length with hlong | hshort
    · obtain ⟨K, hK⟩ : ∃ K, K = (capS LL).length := ⟨_, rfl⟩
      have hI : (1000 : Int) < (K : Int) := by have := HOV.out.2 hlong; omega
      rw [← hK]
      clear hK
      go_wp2_with fail
      go_ret2
      rw [HF1.out hlong]
      exact ⟨none, 0, rfl, OwnSS.nil _ _, HB5.out⟩
    · have HF3 := Lib.hid (HF2.out hshort)
      have HK : Hid ((levI LL).length = LL.length) := Lib.hid (levI_len LL)
      have HC := HSM.out hshort
      rw [HC] at HSS ⊢
      obtain ⟨K, hK⟩ : ∃ K, K = LL.length := ⟨_, rfl⟩
      rw [← hK] at HSS HK hshort ⊢
      have hI : (K : Int) ≤ 1000 := by omega
      clear hK HC
      go_wp2_with fail
      go_ret2
      rw [HF3.out, HK.out]
      exact ⟨A5, c5, rfl, HSS.out, HB5.out⟩
end Go.Proofs.YtcojodkcpemfdaaDoor
