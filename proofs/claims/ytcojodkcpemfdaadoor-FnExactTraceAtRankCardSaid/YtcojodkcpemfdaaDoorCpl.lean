/-
  ComplementOf: both sides.
-/
import Derived.Test.YtcojodkcpemfdaaDoorFree
import Derived.Test.YtcojodkcpemfdaaDoorB2
import Derived.StillTailTactics
namespace Go.Proofs.YtcojodkcpemfdaaDoor
open Go.RowKit
set_option linter.unusedVariables false
set_option maxRecDepth 100000

/-- What a function from an alphabet to an alphabet answers: the letters, the list, the code: for a dependence f of it, else ErrInvalid. -/
def alAns (f : List Nat → List Nat) (L : Int) (xs : List Int) : Int × List Int × Int :=
  if alphB L xs = true then ((((f (xs.map Int.toNat)).length : Nat) : Int), ints (f (xs.map Int.toNat)), 0) else (0, [], 1)
theorem alAns_no (f : List Nat → List Nat) (L : Int) (xs : List Int) (h : alphB L xs = false) : alAns f L xs = (0, [], 1) := by unfold alAns; rw [if_neg (by rw [h]; decide)]
theorem alAns_yes (f : List Nat → List Nat) (n : Nat) (rs : List Nat) (h : alphB (n : Int) (ints rs) = true) : alAns f (n : Int) (ints rs) = ((((f rs).length : Nat) : Int), ints (f rs), 0) := by unfold alAns; rw [if_pos h, ints_toNat]
theorem alAns_small (f : List Nat → List Nat) (b : Nat) (hf : ∀ rs, rs.length ≤ 8 → (f rs).length ≤ b) (L : Int) (xs : List Int) : (alAns f L xs).2.1.length ≤ b := by
  unfold alAns
  split
  · rename_i h
    obtain ⟨rs, rfl, rfl, h8, _, _, hl, _, e⟩ := alphB_nats L xs _ rfl h
    rw [e]
    show (ints _).length ≤ b
    rw [ints_len]; exact hf _ (by rw [hl]; exact h8)
  · exact Nat.zero_le _
theorem minus_n (a b : Nat) (ha : a < 9223372036854775808) (hb : b < 9223372036854775808) (w : World) :
    Calls Tryd.prog 186 #[.int .i64 (a : Int), .int .i64 (b : Int)] w fun e w' => e = .returned (.int .i64 ((dif a b : Nat) : Int)) ∧ w = w' := minus_nat a b ha hb w
set_option maxHeartbeats 1600000 in
theorem complement_any (A : Option Addr) (n c : Nat) (rs : List Nat) (w : World) (h : Rd w A n (ints rs)) (hn : n ≤ 24) (hr : ∀ i, rs.getD i 0 < 2 ^ n) :
    Calls Tryd.prog 214 #[.slice A n c] w (MakesE 84 w n (ints (cplM rs))) := by
  have hlen : rs.length = n := by have := h.1; rw [ints_len] at this; exact this
  have HL := Lib.hid hlen
  clear hlen
  obtain ⟨i0, hi, hz0, hz1, hz2⟩ := info_parts info_set
  have hml : n ≤ maxLen := by unfold maxLen; omega
  have hby : i0.bytes * n ≤ 281474976710656 := by rw [hz2]; omega
  have hn62 : n ≤ 62 := by omega
  have hf63 : 2 ^ n - 1 < 9223372036854775808 := by have := p24 n hn; omega
  go_enter Tryd.func214, Tryd.ntmps214
  go_wp2_with (first | (at_make; refine wpList_make_full _ rfl _ _ _ rfl w.heap.size 84 i0 (.int .i64 0) 1 Tryd.underlying73 hi hz0 hz1 _ _ (n : Int) (n : Int) n rfl rfl rfl rfl hby hml (Nat.le_refl _) ?_; intro w1 hown0 hg1))
  have hown := own_made hown0
  clear hown0
  have hb1 : Below w.heap.size w w1 := (Below.refl _ _).grown hg1 (Nat.le_refl _) (by simp)
  clear hg1
  go_loopw [11] (fun i wr => ∃ (k : Nat) (ds : List Nat), k ≤ n ∧ i = .int .i64 k ∧ ds.length = n ∧ Own 84 wr w.heap.size (some ⟨w.heap.size, 0, none⟩) n n (ints ds) ∧ Below w.heap.size w wr ∧ (∀ i, i < n → ds.getD i 0 = if i < k then cplRow n (rs.getD i 0) i else (List.replicate n 0).getD i 0)) (fun i _ => n - (intOf i).toNat)
  case atStart => exact ⟨0, List.replicate n 0, Nat.zero_le _, rfl, List.length_replicate, hown, hb1, fun i hi => by rw [if_neg (by omega)]⟩
  case round =>
    clear hown hb1
    obtain ⟨k, ds, hk, rfl, hdl, ho, hb, hdw⟩ := hrel
    have HC := Lib.hid hdl
    have HW := Lib.hid hdw
    clear hdl hdw
    by_cases hlt : k < n
    · obtain ⟨b, off, x, rfl, hbs, hx, hcx⟩ := (h.below hb).at_ hlt
      have hx2 := ints_getD rs k (by rw [HL.out]; exact hlt)
      rw [hx2] at hx
      injection hx with hx
      subst hx
      obtain ⟨g, e9, hgB, hcell, hfr, hset⟩ := own_stored ho hlt
      cases e9
      have hst := Lib.hid (set_step (fun i => cplRow n (rs.getD i 0) i) (List.replicate n 0) ds n k HC.out hlt HW.out)
      have hm1 := lt63 hn (hr k)
      have hk62 : k ≤ 62 := by omega
      have hd63 : dif (2 ^ n - 1) (rs.getD k 0) < 9223372036854775808 := Nat.lt_of_le_of_lt (dif_le _ _) hf63
      have ho4 := hset (cplRow n (rs.getD k 0) k)
      have hb4 := hb.setCell (p := ⟨w.heap.size, k, none⟩) (Nat.le_refl _) (.int .i64 ((cplRow n (rs.getD k 0) k : Nat) : Int))
      have hrow : cplRow n (rs.getD k 0) k = dif (2 ^ n - 1) (rs.getD k 0) ||| 2 ^ k := rfl
      obtain ⟨D, hD⟩ : ∃ D, D = rs.getD k 0 := ⟨_, rfl⟩
      rw [← hD] at hcx hm1 hd63 ho4 hb4 hrow
      obtain ⟨F, hF⟩ : ∃ F, F = 2 ^ n - 1 := ⟨_, rfl⟩
      obtain ⟨M, hM⟩ : ∃ M, M = dif F D := ⟨_, rfl⟩
      rw [← hF] at hd63 hrow hf63
      rw [← hM] at hd63 hrow
      have hfirst : ∀ ww : World, Calls Tryd.prog 159 #[.int .i64 (n : Int)] ww fun e w' => e = .returned (.int .i64 (F : Int)) ∧ ww = w' := by rw [hF]; exact fun ww => firstNumbers_any n hn62 ww
      have hminus : ∀ ww : World, Calls Tryd.prog 186 #[.int .i64 (F : Int), .int .i64 (D : Int)] ww fun e w' => e = .returned (.int .i64 (M : Int)) ∧ ww = w' := by rw [hM]; exact fun ww => minus_nat F D hf63 hm1 ww
      obtain ⟨Q, hQ⟩ : ∃ Q, Q = cplRow n D k := ⟨_, rfl⟩
      have hwith : ∀ ww : World, Calls Tryd.prog 77 #[.int .i64 (M : Int), .int .i64 (k : Int)] ww fun e w' => e = .returned (.int .i64 (Q : Int)) ∧ ww = w' := by rw [hQ, hrow]; exact fun ww => with_any M k hd63 hk62 ww
      have HST : Hid (∀ i, i < n → (ds.set k Q).getD i 0 = if i < k + 1 then cplRow n (rs.getD i 0) i else (List.replicate n 0).getD i 0) := by rw [hQ, hD]; exact hst
      rw [← hQ] at ho4 hb4
      clear hD hF hM hQ hset hst hrow
      go_wp2_with (first | (go_at_call 159; refine (hfirst _).mono ?_; rintro e w' ⟨rfl, rfl⟩) | (go_at_call 186; refine (hminus _).mono ?_; rintro e w' ⟨rfl, rfl⟩) | (go_at_call 77; refine (hwith _).mono ?_; rintro e w' ⟨rfl, rfl⟩))
      go_roundw
      case rel => exact ⟨k + 1, ds.set k Q, by omega, by go_num, by rw [List.length_set]; exact HC.out, ho4, hb4, HST.out⟩
      case measure => simp [intOf]; omega
    · obtain rfl : k = n := by omega
      go_wp2
      go_ret
      refine ⟨_, _, rfl, ?_, hb⟩
      rw [← list_eq_getD ds (cplM rs) k HC.out (by rw [cplM_len, HL.out]) (fun i hi => by rw [HW.out i hi, if_pos hi, cplM_at rs i (by have := HL.out; omega), HL.out])]
      exact ho
theorem AlPost.no {w w' : World} (code : Int) (hb : Below w.heap.size w w') : AlPost w 0 0 [] code (.returned (.tuple #[.agg #[.int .i64 0, .slice none 0 0], .int .i64 code])) w' := ⟨none, 0, rfl, Own.nil _ _ _, hb⟩
end Go.Proofs.YtcojodkcpemfdaaDoor
