/-
  Products of alphabets: plain mathematics; the model's way, by contracts.
-/
import Derived.Test.YtbjkpkgnjeaimaaDoorJoin
import Derived.Test.YtbjkpkgnjeaimaaDoorSort
import Derived.Conc.MuLone
namespace Go.Proofs.YtbjkpkgnjeaimaaDoor
open Go.RowKit
set_option linter.unusedVariables false
set_option maxRecDepth 100000

def prodD (f : Bool) (rs qs : List Nat) (n1 : Nat) (i k : Nat) : Bool :=
  if i < n1 ∧ k < n1 then (rs.getD i 0).testBit k else if n1 ≤ i ∧ n1 ≤ k then (qs.getD (i - n1) 0).testBit (k - n1) else f
theorem prodD_low (f : Bool) (rs qs : List Nat) (n1 i k : Nat) (h1 : i < n1) (h2 : k < n1) : prodD f rs qs n1 i k = (rs.getD i 0).testBit k := by unfold prodD; rw [if_pos ⟨h1, h2⟩]
theorem prodD_high (f : Bool) (rs qs : List Nat) (n1 i k : Nat) (h1 : n1 ≤ i) (h2 : n1 ≤ k) : prodD f rs qs n1 i k = (qs.getD (i - n1) 0).testBit (k - n1) := by unfold prodD; rw [if_neg (by omega), if_pos ⟨h1, h2⟩]
theorem prodD_mix (f : Bool) (rs qs : List Nat) (n1 i k : Nat) (h : (i < n1 ∧ n1 ≤ k) ∨ (n1 ≤ i ∧ k < n1)) : prodD f rs qs n1 i k = f := by unfold prodD; rw [if_neg (by omega), if_neg (by omega)]
def prodM (f : Bool) (rs qs : List Nat) : List Nat := relM (rs.length + qs.length) (prodD f rs qs rs.length)
theorem prodM_len (f : Bool) (rs qs : List Nat) : (prodM f rs qs).length = rs.length + qs.length := by unfold prodM; rw [relM_len]
theorem prodD_refl (f : Bool) (rs qs : List Nat) (n1 n2 : Nat) (h1 : rs.length = n1) (h2 : qs.length = n2) (hd1 : Dep rs) (hd2 : Dep qs) (i : Nat) (hi : i < n1 + n2) : prodD f rs qs n1 i i = true := by
  rcases Nat.lt_or_ge i n1 with h | h
  · rw [prodD_low f rs qs n1 i i h h]; exact hd1.1 i (by omega)
  · rw [prodD_high f rs qs n1 i i h h]; exact hd2.1 (i - n1) (by omega)
theorem prodD_sym (f : Bool) (rs qs : List Nat) (n1 n2 : Nat) (h1 : rs.length = n1) (h2 : qs.length = n2) (hd1 : Dep rs) (hd2 : Dep qs) (i k : Nat) (hi : i < n1 + n2) (hk : k < n1 + n2) : prodD f rs qs n1 i k = prodD f rs qs n1 k i := by
  rcases Nat.lt_or_ge i n1 with h | h
  · rcases Nat.lt_or_ge k n1 with h' | h'
    · rw [prodD_low f rs qs n1 i k h h', prodD_low f rs qs n1 k i h' h]; exact Bool.eq_iff_iff.2 (hd1.2 i k (by omega) (by omega))
    · rw [prodD_mix f rs qs n1 i k (.inl ⟨h, h'⟩), prodD_mix f rs qs n1 k i (.inr ⟨h', h⟩)]
  · rcases Nat.lt_or_ge k n1 with h' | h'
    · rw [prodD_mix f rs qs n1 i k (.inr ⟨h, h'⟩), prodD_mix f rs qs n1 k i (.inl ⟨h', h⟩)]
    · rw [prodD_high f rs qs n1 i k h h', prodD_high f rs qs n1 k i h' h]; exact Bool.eq_iff_iff.2 (hd2.2 _ _ (by omega) (by omega))
/-- The program's way: the one behind the other, moved up. -/
def besM (rs qs : List Nat) : List Nat := rs ++ qs.map fun s => s * 2 ^ rs.length
theorem besM_len (rs qs : List Nat) : (besM rs qs).length = rs.length + qs.length := by simp [besM]
theorem besM_at (rs qs : List Nat) (i b : Nat) : ((besM rs qs).getD i 0).testBit b = if i < rs.length then (rs.getD i 0).testBit b else (decide (rs.length ≤ b) && (qs.getD (i - rs.length) 0).testBit (b - rs.length)) := by
  unfold besM
  rw [List.getD_eq_getElem?_getD]
  split
  · rename_i h
    rw [List.getElem?_append_left h, ← List.getD_eq_getElem?_getD]
  · rename_i h
    rw [List.getElem?_append_right (by omega), List.getElem?_map]
    cases hq : qs[i - rs.length]? with
    | none =>
      rw [List.getD_eq_getElem?_getD, hq]; simp
    | some q =>
      rw [List.getD_eq_getElem?_getD, hq]
      show (q * 2 ^ rs.length).testBit b = _
      rw [Nat.mul_comm, Nat.testBit_two_pow_mul]
      rfl
theorem besM_lt (rs qs : List Nat) (n1 n2 : Nat) (h1 : rs.length = n1) (h2 : qs.length = n2) (hr : ∀ i, rs.getD i 0 < 2 ^ n1) (hq : ∀ i, qs.getD i 0 < 2 ^ n2) (i : Nat) : (besM rs qs).getD i 0 < 2 ^ (n1 + n2) := by
  refine Nat.lt_pow_two_of_testBit _ fun b hb => ?_
  rw [besM_at, h1]
  split
  · rw [Nat.testBit_lt_two_pow (Nat.lt_of_lt_of_le (hr i) (Nat.pow_le_pow_right (by decide) (by omega)))]
  · rw [Nat.testBit_lt_two_pow (Nat.lt_of_lt_of_le (hq (i - n1)) (Nat.pow_le_pow_right (by decide) (by omega))), Bool.and_false]
theorem bes_eq (rs qs : List Nat) (n1 n2 : Nat) (h1 : rs.length = n1) (h2 : qs.length = n2) (hr : ∀ i, rs.getD i 0 < 2 ^ n1) (hq : ∀ i, qs.getD i 0 < 2 ^ n2) : besM rs qs = prodM false rs qs := by
  unfold prodM
  rw [h1, h2]
  refine relM_eq _ (n1 + n2) _ (by rw [besM_len, h1, h2]) (besM_lt rs qs n1 n2 h1 h2 hr hq) fun i b hi hb => ?_
  unfold R
  rw [besM_at, h1]
  rcases Nat.lt_or_ge i n1 with h | h
  · rw [if_pos h]
    rcases Nat.lt_or_ge b n1 with h' | h'
    · rw [prodD_low false rs qs n1 i b h h']
    · rw [prodD_mix false rs qs n1 i b (.inl ⟨h, h'⟩), Nat.testBit_lt_two_pow (Nat.lt_of_lt_of_le (hr i) (Nat.pow_le_pow_right (by decide) h'))]
  · rw [if_neg (by omega)]
    rcases Nat.lt_or_ge b n1 with h' | h'
    · rw [prodD_mix false rs qs n1 i b (.inr ⟨h, h'⟩), decide_eq_false (by omega), Bool.false_and]
    · rw [prodD_high false rs qs n1 i b h h', decide_eq_true h', Bool.true_and]
theorem joi_eq (rs qs : List Nat) (n1 n2 : Nat) (h1 : rs.length = n1) (h2 : qs.length = n2) (hn : n1 + n2 ≤ 8) (hr : ∀ i, rs.getD i 0 < 2 ^ n1) (hq : ∀ i, qs.getD i 0 < 2 ^ n2) (hd1 : Dep rs) (hd2 : Dep qs) : cplM (besM (cplM rs) (cplM qs)) = prodM true rs qs := by
  have c1 : (cplM rs).length = n1 := by rw [cplM_len, h1]
  have c2 : (cplM qs).length = n2 := by rw [cplM_len, h2]
  have l1 := cplM_lt rs n1 h1 (by omega) hr
  have l2 := cplM_lt qs n2 h2 (by omega) hq
  have bl : (besM (cplM rs) (cplM qs)).length = n1 + n2 := by rw [besM_len, c1, c2]
  have blt := besM_lt (cplM rs) (cplM qs) n1 n2 c1 c2 l1 l2
  unfold prodM
  rw [h1, h2]
  refine relM_eq _ (n1 + n2) _ (by rw [cplM_len, bl]) (cplM_lt _ (n1 + n2) bl (by omega) blt) fun i b hi hb => ?_
  rw [cpl_R _ (n1 + n2) bl (by omega) blt i b hi, bes_eq (cplM rs) (cplM qs) n1 n2 c1 c2 l1 l2]
  unfold prodM
  rw [c1, c2, relM_R _ _ i b hi]
  rcases Nat.lt_or_ge i n1 with h | h
  · rcases Nat.lt_or_ge b n1 with h' | h'
    · rw [prodD_low false _ _ n1 i b h h', prodD_low true rs qs n1 i b h h']
      have e := cpl_R rs n1 h1 (by omega) hr i b h
      unfold R at e
      rw [e]
      constructor
      · rintro ⟨_, h3 | h3⟩
        · exact Classical.byContradiction fun hn => h3 ⟨hb, h', .inl hn⟩
        · subst h3; exact hd1.1 b (by omega)
      · intro h3
        refine ⟨hb, ?_⟩
        by_cases e2 : b = i
        · exact .inr e2
        · exact .inl fun ⟨_, _, h4⟩ => h4.elim (fun h5 => h5 h3) e2
    · rw [prodD_mix false _ _ n1 i b (.inl ⟨h, h'⟩), prodD_mix true rs qs n1 i b (.inl ⟨h, h'⟩)]
      simp [hb]
  · rcases Nat.lt_or_ge b n1 with h' | h'
    · rw [prodD_mix false _ _ n1 i b (.inr ⟨h, h'⟩), prodD_mix true rs qs n1 i b (.inr ⟨h, h'⟩)]
      simp [hb]
    · rw [prodD_high false _ _ n1 i b h h', prodD_high true rs qs n1 i b h h']
      have e := cpl_R qs n2 h2 (by omega) hq (i - n1) (b - n1) (by omega)
      unfold R at e
      rw [e]
      constructor
      · rintro ⟨_, h3 | h3⟩
        · exact Classical.byContradiction fun hn => h3 ⟨hb, by omega, .inl hn⟩
        · subst h3; exact hd2.1 (b - n1) (by omega)
      · intro h3
        refine ⟨hb, ?_⟩
        by_cases e2 : b = i
        · exact .inr e2
        · exact .inl fun ⟨_, _, h4⟩ => h4.elim (fun h5 => h5 h3) (fun h5 => e2 (by omega))
def prodAns (f : Bool) (L1 : Int) (xs1 : List Int) (L2 : Int) (xs2 : List Int) : Int × List Int × Int :=
  if alphB L1 xs1 = true ∧ alphB L2 xs2 = true then (if xs1.length + xs2.length ≤ 8 then (((xs1.length + xs2.length : Nat) : Int), ints (prodM f (xs1.map Int.toNat) (xs2.map Int.toNat)), 0) else (0, [], 3)) else (0, [], 1)
theorem prodAns_small (f : Bool) (L1 : Int) (xs1 : List Int) (L2 : Int) (xs2 : List Int) : (prodAns f L1 xs1 L2 xs2).2.1.length ≤ 8 := by
  unfold prodAns
  split
  · split
    · rename_i h
      show (ints _).length ≤ 8
      rw [ints_len, prodM_len, List.length_map, List.length_map]; exact h
    · exact Nat.zero_le _
  · exact Nat.zero_le _
theorem prodAns_no (f : Bool) (L1 : Int) (xs1 : List Int) (L2 : Int) (xs2 : List Int) (h : ¬ (alphB L1 xs1 = true ∧ alphB L2 xs2 = true)) : prodAns f L1 xs1 L2 xs2 = (0, [], 1) := by unfold prodAns; rw [if_neg h]
theorem prodAns_big (f : Bool) (L1 : Int) (xs1 : List Int) (L2 : Int) (xs2 : List Int) (h1 : alphB L1 xs1 = true) (h2 : alphB L2 xs2 = true) (h : 8 < xs1.length + xs2.length) : prodAns f L1 xs1 L2 xs2 = (0, [], 3) := by unfold prodAns; rw [if_pos ⟨h1, h2⟩, if_neg (by omega)]
theorem prodAns_yes (f : Bool) (n1 n2 : Nat) (rs qs : List Nat) (h1 : alphB (n1 : Int) (ints rs) = true) (h2 : alphB (n2 : Int) (ints qs) = true) (hl1 : rs.length = n1) (hl2 : qs.length = n2) (h : n1 + n2 ≤ 8) : prodAns f (n1 : Int) (ints rs) (n2 : Int) (ints qs) = (((n1 + n2 : Nat) : Int), ints (prodM f rs qs), 0) := by
  unfold prodAns; rw [if_pos ⟨h1, h2⟩, ints_len, ints_len, hl1, hl2, if_pos h, ints_toNat, ints_toNat]
theorem below3 (w : World) (o1 o2 o3 : Obj) : Below w.heap.size w (((w.alloc o1).alloc o2).alloc o3) := (below2 w o1 o2).alloc (by simp; omega) o3
set_option maxHeartbeats 3200000 in
theorem specBeside_yes (f : Bool) (A1 A2 : Option Addr) (n1 c1 n2 c2 : Nat) (rs qs : List Nat) (w : World) (h1 : Rd w A1 n1 (ints rs)) (h2 : Rd w A2 n2 (ints qs)) (hn : n1 + n2 ≤ 8) (hr : ∀ i, rs.getD i 0 < 2 ^ n1) (hq : ∀ i, qs.getD i 0 < 2 ^ n2) (hd1 : Dep rs) (hd2 : Dep qs) (ha1 : alphB (n1 : Int) (ints rs) = true) (ha2 : alphB (n2 : Int) (ints qs) = true) :
    Calls Tryd.prog 73 #[.agg #[.int .i64 (n1 : Int), .slice A1 n1 c1], .agg #[.int .i64 (n2 : Int), .slice A2 n2 c2], .bool f] w (AlPost w ((n1 + n2 : Nat) : Int) (n1 + n2) (ints (prodM f rs qs)) 0) := by
  have hl1 : rs.length = n1 := by have := h1.1; rw [ints_len] at this; exact this
  have hl2 : qs.length = n2 := by have := h2.1; rw [ints_len] at this; exact this
  have HPM : Hid (prodM f rs qs = relM (n1 + n2) (prodD f rs qs n1)) := Lib.hid (by unfold prodM; rw [hl1, hl2])
  have HD1 := Lib.hid (prodD_refl f rs qs n1 n2 hl1 hl2 hd1 hd2)
  have HD2 := Lib.hid (prodD_sym f rs qs n1 n2 hl1 hl2 hd1 hd2)
  have HA1 := Lib.hid ha1
  have HA2 := Lib.hid ha2
  clear hl1 hl2 ha1 ha2 hd1 hd2
  have hn1 : n1 ≤ 9223372036854775807 := by omega
  have hn2 : n2 ≤ 9223372036854775807 := by omega
  have h241 : n1 ≤ 24 := by omega
  have h242 : n2 ≤ 24 := by omega
  have hN24 : n1 + n2 ≤ 24 := by omega
  have hN62 : n1 + n2 ≤ 62 := by omega
  have hsum : wrap64 ((n1 : Int) + (n2 : Int)) = ((n1 + n2 : Nat) : Int) := by unfold wrap64; omega
  have hn1N : n1 ≤ n1 + n2 := by omega
  obtain ⟨N, hN⟩ : ∃ N, N = n1 + n2 := ⟨_, rfl⟩
  have hsumI : (n1 : Int) + (n2 : Int) = (N : Int) := by omega
  rw [← hN] at HPM HD1 HD2 hn hN24 hN62 hsum hn1N ⊢
  have HN := Lib.hid hN
  clear hN
  obtain ⟨oX, hoX⟩ : ∃ o : Obj, o = .cells #[.int .i64 (n1 : Int), .slice A1 n1 c1] 27 := ⟨_, rfl⟩
  obtain ⟨oY, hoY⟩ : ∃ o : Obj, o = .cells #[.int .i64 (n2 : Int), .slice A2 n2 c2] 27 := ⟨_, rfl⟩
  obtain ⟨oR, hoR⟩ : ∃ o : Obj, o = .cells #[.int .i64 0, .slice none 0 0] 27 := ⟨_, rfl⟩
  have s1 := size1 w oX
  have s2 := size1 (w.alloc oX) oY
  have s3 := size1 ((w.alloc oX).alloc oY) oR
  have hB3 := below3 w oX oY oR
  have x0 : Box 27 (((w.alloc oX).alloc oY).alloc oR) w.heap.size (n1 : Int) A1 n1 c1 := by
    have h9 := ((box_new 27 w (n1 : Int) A1 n1 c1).next (below1 _ oY)).next (below1 _ oR)
    rw [← hoX] at h9; exact h9
  have y0 : Box 27 (((w.alloc oX).alloc oY).alloc oR) (w.heap.size + 1) (n2 : Int) A2 n2 c2 := by
    have h9 := (box_new 27 (w.alloc oX) (n2 : Int) A2 n2 c2).next (below1 _ oR)
    rw [← hoY, s1] at h9; exact h9
  have r0 : Box 27 (((w.alloc oX).alloc oY).alloc oR) (w.heap.size + 1 + 1) 0 none 0 0 := by
    have h9 := box_new 27 ((w.alloc oX).alloc oY) 0 none 0 0
    rw [← hoR, s2, s1] at h9; exact h9
  obtain ⟨w0, hw0⟩ : ∃ w0, w0 = ((w.alloc oX).alloc oY).alloc oR := ⟨_, rfl⟩
  rw [← hw0] at x0 y0 r0 hB3 s3
  have HB0 := Lib.hid hB3
  have HS0 : Hid (w0.heap.size = w.heap.size + 3) := Lib.hid (by omega)
  have e1 := h1.below hB3
  have e2 := h2.below hB3
  have HW0 := Lib.hid hw0
  rw [hoX, hoY, hoR] at hw0
  clear s1 s2 s3 hB3 hoX hoY hoR HW0
  go_enter Tryd.func73, Tryd.ntmps73
  go_wp2_with fail
  rw [← hw0]
  clear hw0
  refine (l02Is_any _ _ _ _ _ _ e1 hn1).mono ?_
  rintro e w1 ⟨rfl, hb1⟩
  rw [HA1.out]
  have x1 := x0.next hb1
  have y1 := y0.next hb1
  have r1 := r0.next hb1
  have u0 := y1.c0
  have u1 := y1.c1
  have HB1 := Lib.hid (HB0.out.trans (hb1.mono HB0.out.size))
  have S1 := Lib.hid hb1.size
  go_wp2_with fail
  refine (l02Is_any _ _ _ _ _ _ (e2.below hb1) hn2).mono ?_
  rintro e w2 ⟨rfl, hb2⟩
  rw [HA2.out]
  have x2 := x1.next hb2
  have y2 := y1.next hb2
  have r2 := r1.next hb2
  have v0 := y2.c0
  have v1 := x2.c0
  have HB2 := Lib.hid (HB1.out.trans (hb2.mono HB1.out.size))
  have S2 := Lib.hid hb2.size
  have f1 := (e1.below hb1).below hb2
  have f2 := (e2.below hb1).below hb2
  clear x0 y0 r0 x1 y1 r1 u0 u1
  go_wp2_with fail
  refine (free_any N _ hN62).mono ?_
  rintro e w3 ⟨A3, c3, rfl, ho3, hb3⟩
  have HLT := Lib.hid (fun q hq => ho3.lt q hq)
  have x3 := x2.next hb3
  have y3 := y2.next hb3
  have r3 := r2.next hb3
  have hs3 := hb3.size
  have k3 := below1 w3 (.cells #[.int .i64 (N : Int), .slice A3 N c3] 27)
  have HS2 : Hid (w.heap.size + 3 ≤ w2.heap.size) := Lib.hid (by have := HS0.out; have := S1.out; have := S2.out; omega)
  clear S1 S2 HS0
  go_wp2_with fail
  go_loopw [9] (fun i wr => ∃ (k : Nat) (zs : List Nat), k ≤ N ∧ i = .int .i64 k ∧ Own 2 wr w2.heap.size A3 N c3 (ints zs) ∧ Box 27 wr w3.heap.size (N : Int) A3 N c3 ∧ Box 27 wr w.heap.size (n1 : Int) A1 n1 c1 ∧ Box 27 wr (w.heap.size + 1) (n2 : Int) A2 n2 c2 ∧ Box 27 wr (w.heap.size + 1 + 1) 0 none 0 0 ∧ Below w2.heap.size w2 wr ∧ Joined zs N (prodD f rs qs n1) k 0) (fun i _ => N - (intOf i).toNat)
  case atStart => exact ⟨0, freeM N, Nat.zero_le _, rfl, ho3.below k3, box_new _ _ _ _ _ _, x3.next k3, y3.next k3, r3.next k3, hb3.trans (k3.mono hs3), joined_start N _⟩
  case round =>
    clear ho3 x3 y3 r3 k3 x2 y2 r2 v0 v1
    obtain ⟨k, zs, hk, rfl, ho, z, x, y, r, hb9, hj⟩ := hrel
    have HJ := Lib.hid hj
    clear hj
    have t0 := z.c0
    by_cases hlt : k < N
    · obtain ⟨wo, rfl⟩ : ∃ wo : World, wo = wr := ⟨_, rfl⟩
      go_wp2_with fail
      go_loopw [10] (fun i wr => ∃ (t : Nat) (zs : List Nat), t ≤ N ∧ i = .int .i64 t ∧ Own 2 wr w2.heap.size A3 N c3 (ints zs) ∧ Box 27 wr w3.heap.size (N : Int) A3 N c3 ∧ Box 27 wr w.heap.size (n1 : Int) A1 n1 c1 ∧ Box 27 wr (w.heap.size + 1) (n2 : Int) A2 n2 c2 ∧ Box 27 wr (w.heap.size + 1 + 1) 0 none 0 0 ∧ Below w2.heap.size w2 wr ∧ Joined zs N (prodD f rs qs n1) k t) (fun i _ => N - (intOf i).toNat)
      case atStart => exact ⟨0, zs, Nat.zero_le _, rfl, ho, z, x, y, r, hb9, HJ.out⟩
      case round =>
        clear ho z x y r hb9 HJ t0
        obtain ⟨t, zs, ht, rfl, ho, z, x, y, r, hb9, hj⟩ := hrel
        have HJ := Lib.hid hj
        clear hj
        have t0 := z.c0
        have t1 := z.c1
        have p0 := x.c0
        have p1 := x.c1
        have q0 := y.c0
        have q1 := y.c1
        by_cases hlt2 : t < N
        · by_cases hk1 : k < n1
          · by_cases ht1 : t < n1
            · skip
              have HDD : Hid (prodD f rs qs n1 k t = (rs.getD k 0).testBit t) := Lib.hid (by exact prodD_low f rs qs n1 k t hk1 ht1)
              go_wp2_with fail
              refine (dep_any _ _ _ _ k t rs _ (f1.below hb9) h241 hr hk1 ht1).mono ?_
              rintro e w4 ⟨rfl, hb4⟩
              rw [← HDD.out]
              have ho4 := ho.below hb4
              have z4 := z.next hb4
              have x4 := x.next hb4
              have y4 := y.next hb4
              have r4 := r.next hb4
              have hb94 := hb9.trans (hb4.mono hb9.size)
              have t0 := z4.c0
              have t1 := z4.c1
              cases hp : prodD f rs qs n1 k t
              · have HNX := Lib.hid (joined_no HJ.out hp)
                clear hp
                go_wp2_with fail
                go_roundw
                case rel => exact ⟨t + 1, zs, by omega, by go_num, ho4, z4, x4, y4, r4, hb94, HNX.out⟩
                case measure => simp [intOf]; omega
              · have HP := Lib.hid hp
                clear hp
                go_wp2_with fail
                refine (join_any _ _ _ _ _ _ k t zs _ ho4 hN24 hlt hlt2 HJ.out.2.1).mono ?_
                rintro e w5 ⟨rfl, ho5, hg5⟩
                have HNX := Lib.hid (joined_yes HJ.out HP.out hlt hlt2)
                have z5 := z4.apart hg5 (fun e => by have := (HLT.out _ e).2; omega)
                have x5 := x4.apart hg5 (fun e => by have := (HLT.out _ e).1; have := HS2.out; omega)
                have y5 := y4.apart hg5 (fun e => by have := (HLT.out _ e).1; have := HS2.out; omega)
                have r5 := r4.apart hg5 (fun e => by have := (HLT.out _ e).1; have := HS2.out; omega)
                have hb5 := hb94.grown hg5 hb94.size (fun q hq => (HLT.out q hq).1)
                go_wp2_with fail
                go_roundw
                case rel => exact ⟨t + 1, joinM zs k t, by omega, by go_num, ho5, z5, x5, y5, r5, hb5, HNX.out⟩
                case measure => simp [intOf]; omega
            · skip
              cases f
              · have hp : prodD false rs qs n1 k t = false := prodD_mix false rs qs n1 k t (by omega)
                have HNX := Lib.hid (joined_no HJ.out hp)
                clear hp
                go_wp2_with fail
                go_roundw
                case rel => exact ⟨t + 1, zs, by omega, by go_num, ho, z, x, y, r, hb9, HNX.out⟩
                case measure => simp [intOf]; omega
              · have HP : Hid (prodD true rs qs n1 k t = true) := Lib.hid (prodD_mix true rs qs n1 k t (by omega))
                go_wp2_with fail
                refine (join_any _ _ _ _ _ _ k t zs _ ho hN24 hlt hlt2 HJ.out.2.1).mono ?_
                rintro e w5 ⟨rfl, ho5, hg5⟩
                have HNX := Lib.hid (joined_yes HJ.out HP.out hlt hlt2)
                have z5 := z.apart hg5 (fun e => by have := (HLT.out _ e).2; omega)
                have x5 := x.apart hg5 (fun e => by have := (HLT.out _ e).1; have := HS2.out; omega)
                have y5 := y.apart hg5 (fun e => by have := (HLT.out _ e).1; have := HS2.out; omega)
                have r5 := r.apart hg5 (fun e => by have := (HLT.out _ e).1; have := HS2.out; omega)
                have hb5 := hb9.grown hg5 hb9.size (fun q hq => (HLT.out q hq).1)
                go_wp2_with fail
                go_roundw
                case rel => exact ⟨t + 1, joinM zs k t, by omega, by go_num, ho5, z5, x5, y5, r5, hb5, HNX.out⟩
                case measure => simp [intOf]; omega
          · by_cases ht1 : t < n1
            · skip
              cases f
              · have hp : prodD false rs qs n1 k t = false := prodD_mix false rs qs n1 k t (by omega)
                have HNX := Lib.hid (joined_no HJ.out hp)
                clear hp
                go_wp2_with fail
                go_roundw
                case rel => exact ⟨t + 1, zs, by omega, by go_num, ho, z, x, y, r, hb9, HNX.out⟩
                case measure => simp [intOf]; omega
              · have HP : Hid (prodD true rs qs n1 k t = true) := Lib.hid (prodD_mix true rs qs n1 k t (by omega))
                go_wp2_with fail
                refine (join_any _ _ _ _ _ _ k t zs _ ho hN24 hlt hlt2 HJ.out.2.1).mono ?_
                rintro e w5 ⟨rfl, ho5, hg5⟩
                have HNX := Lib.hid (joined_yes HJ.out HP.out hlt hlt2)
                have z5 := z.apart hg5 (fun e => by have := (HLT.out _ e).2; omega)
                have x5 := x.apart hg5 (fun e => by have := (HLT.out _ e).1; have := HS2.out; omega)
                have y5 := y.apart hg5 (fun e => by have := (HLT.out _ e).1; have := HS2.out; omega)
                have r5 := r.apart hg5 (fun e => by have := (HLT.out _ e).1; have := HS2.out; omega)
                have hb5 := hb9.grown hg5 hb9.size (fun q hq => (HLT.out q hq).1)
                go_wp2_with fail
                go_roundw
                case rel => exact ⟨t + 1, joinM zs k t, by omega, by go_num, ho5, z5, x5, y5, r5, hb5, HNX.out⟩
                case measure => simp [intOf]; omega
            · skip
              obtain ⟨k', hk'⟩ : ∃ k', k = n1 + k' := ⟨k - n1, by omega⟩
              obtain ⟨t', ht'⟩ : ∃ t', t = n1 + t' := ⟨t - n1, by omega⟩
              have hkI : (k : Int) - (n1 : Int) = (k' : Int) := by omega
              have htI : (t : Int) - (n1 : Int) = (t' : Int) := by omega
              have hk2 : k' < n2 := by have := HN.out; omega
              have ht2 : t' < n2 := by have := HN.out; omega
              have HDD : Hid (prodD f rs qs n1 k t = (qs.getD k' 0).testBit t') := Lib.hid (by rw [prodD_high f rs qs n1 k t (by omega) (by omega), show k - n1 = k' by omega, show t - n1 = t' by omega])
              clear hk' ht'
              go_wp2_with fail
              refine (dep_any _ _ _ _ k' t' qs _ (f2.below hb9) h242 hq hk2 ht2).mono ?_
              rintro e w4 ⟨rfl, hb4⟩
              rw [← HDD.out]
              have ho4 := ho.below hb4
              have z4 := z.next hb4
              have x4 := x.next hb4
              have y4 := y.next hb4
              have r4 := r.next hb4
              have hb94 := hb9.trans (hb4.mono hb9.size)
              have t0 := z4.c0
              have t1 := z4.c1
              cases hp : prodD f rs qs n1 k t
              · have HNX := Lib.hid (joined_no HJ.out hp)
                clear hp
                go_wp2_with fail
                go_roundw
                case rel => exact ⟨t + 1, zs, by omega, by go_num, ho4, z4, x4, y4, r4, hb94, HNX.out⟩
                case measure => simp [intOf]; omega
              · have HP := Lib.hid hp
                clear hp
                go_wp2_with fail
                refine (join_any _ _ _ _ _ _ k t zs _ ho4 hN24 hlt hlt2 HJ.out.2.1).mono ?_
                rintro e w5 ⟨rfl, ho5, hg5⟩
                have HNX := Lib.hid (joined_yes HJ.out HP.out hlt hlt2)
                have z5 := z4.apart hg5 (fun e => by have := (HLT.out _ e).2; omega)
                have x5 := x4.apart hg5 (fun e => by have := (HLT.out _ e).1; have := HS2.out; omega)
                have y5 := y4.apart hg5 (fun e => by have := (HLT.out _ e).1; have := HS2.out; omega)
                have r5 := r4.apart hg5 (fun e => by have := (HLT.out _ e).1; have := HS2.out; omega)
                have hb5 := hb94.grown hg5 hb94.size (fun q hq => (HLT.out q hq).1)
                go_wp2_with fail
                go_roundw
                case rel => exact ⟨t + 1, joinM zs k t, by omega, by go_num, ho5, z5, x5, y5, r5, hb5, HNX.out⟩
                case measure => simp [intOf]; omega
        · obtain rfl : t = N := by omega
          have HNX := Lib.hid (joined_row HJ.out)
          go_wp2_with fail
          go_roundw
          case rel => exact ⟨k + 1, zs, by omega, by go_num, ho, z, x, y, r, hb9, HNX.out⟩
          case measure => simp [intOf]; omega
    · obtain rfl : k = N := by omega
      have e9 : zs = prodM f rs qs := by rw [HPM.out]; exact joined_end HJ.out HD1.out HD2.out
      rw [e9] at ho
      clear e9
      have t1 := z.c1
      have f0 := r.fr 0
      have f1' := r.fr 1
      have q0 := r.c0
      have q1 := r.c1
      go_wp2
      refine ret_gen (fun W => Box 27 W (w.heap.size + 1 + 1) (k : Int) A3 k c3 ∧ Own 2 W w.heap.size A3 k c3 (ints (prodM f rs qs)) ∧ Below w.heap.size w W) ⟨r.set _ _ _ _, ?_, ?_⟩ ?_
      · have hnn : ∀ q, A3.map (·.block) = some q → q ≠ w.heap.size + 1 + 1 := fun q hq => by have := (HLT.out q hq).1; have := HS2.out; omega
        exact own_other (own_other (ho.mono (by have := HS2.out; omega)) _ _ _ hnn) _ _ _ hnn
      · exact ((HB2.out.trans (hb9.mono HB2.out.size)).setCell (p := ⟨w.heap.size + 1 + 1, 0, none⟩) (by show w.heap.size ≤ w.heap.size + 1 + 1; omega) _).setCell (p := ⟨w.heap.size + 1 + 1, 1, none⟩) (by show w.heap.size ≤ w.heap.size + 1 + 1; omega) _
      · rintro W ⟨x, o, b⟩
        have e0 := x.c0
        have e1 := x.c1
        exact bodyPost_ret (v := .tuple #[.agg #[.int .i64 (k : Int), .slice A3 k c3], .int .i64 0]) (by simp [results, Tryd.results73, go_sem, e0, e1]) rfl ⟨_, _, rfl, o, b⟩
end Go.Proofs.YtbjkpkgnjeaimaaDoor
