/-
  The letters at the places that are alone in their rows: lettersAlone, by a contract.
-/
import Derived.Test.YtpcgjldcdjlenaaDoorPos
import Derived.Deep.MidRow
namespace Go.Proofs.YtpcgjldcdjlenaaDoor
open Go Go.RowKit
set_option linter.unusedVariables false
set_option maxRecDepth 100000

theorem aloneM_congr (us : List Nat) (p q : Nat → Bool) : ∀ m, (∀ i, i < m → p i = q i) → aloneM us p m = aloneM us q m
  | 0, _ => rfl
  | k + 1, h => by
    show (if p k = true then aloneM us p k ||| 2 ^ us.getD k 0 else aloneM us p k) = (if q k = true then aloneM us q k ||| 2 ^ us.getD k 0 else aloneM us q k)
    rw [h k (by omega), aloneM_congr us p q k (fun i hi => h i (by omega))]
theorem row_cell {w : World} {b : Nat} {f : Nat → Nat} {T : TypeId} (h : w.heap[b]? = some (.cells (rowV f).toArray T (0, 0))) (i : Nat) (hi : i < 24) : w.cell? ⟨b, i, none⟩ = some (.int .i64 ((f i : Nat) : Int)) := by
  unfold World.cell?; rw [h]
  show ((rowV f).toArray)[i]? = _
  rw [List.getElem?_toArray]; exact rowV_at f i hi
theorem info_rows : (Tryd.prog.info? 81).map (·.size) = some 24 := by kernel_rfl
theorem row_range {w : World} (g k : Nat) (f : Nat → Nat) (h : ∀ i, i < 24 → w.cell? ⟨g, k + i, none⟩ = some (.int .i64 ((f i : Nat) : Int))) : w.rangeAt g k (rowV f) := fun j v hv => by
  have hj : j < 24 := by
    rcases Nat.lt_or_ge j 24 with h1 | h1
    · exact h1
    · rw [List.getElem?_eq_none (by rw [rowV_len]; exact h1)] at hv; cases hv
  rw [rowV_at f j hj] at hv
  injection hv with hv
  rw [h j hj, hv]
set_option maxHeartbeats 3200000 in
theorem lettersAlone_any (g m c : Nat) (A : Option Addr) (f f' h' : Nat → Nat) (us : List Nat) (w : World) (x : OBox w g A m c f' h') (hr : Rd w A m (ints us)) (hm : m ≤ 24) (hus : ∀ p, p < m → us.getD p 0 < 8) :
    Calls Tryd.prog 80 #[.pointer (some ⟨g, 0, none⟩), .agg #[.int .i64 ((f 0 : Nat) : Int), .int .i64 ((f 1 : Nat) : Int), .int .i64 ((f 2 : Nat) : Int), .int .i64 ((f 3 : Nat) : Int), .int .i64 ((f 4 : Nat) : Int), .int .i64 ((f 5 : Nat) : Int), .int .i64 ((f 6 : Nat) : Int), .int .i64 ((f 7 : Nat) : Int), .int .i64 ((f 8 : Nat) : Int), .int .i64 ((f 9 : Nat) : Int), .int .i64 ((f 10 : Nat) : Int), .int .i64 ((f 11 : Nat) : Int), .int .i64 ((f 12 : Nat) : Int), .int .i64 ((f 13 : Nat) : Int), .int .i64 ((f 14 : Nat) : Int), .int .i64 ((f 15 : Nat) : Int), .int .i64 ((f 16 : Nat) : Int), .int .i64 ((f 17 : Nat) : Int), .int .i64 ((f 18 : Nat) : Int), .int .i64 ((f 19 : Nat) : Int), .int .i64 ((f 20 : Nat) : Int), .int .i64 ((f 21 : Nat) : Int), .int .i64 ((f 22 : Nat) : Int), .int .i64 ((f 23 : Nat) : Int)]] w fun e w' => e = .returned (.int .i64 ((aloneM us (fun i => f i == 2 ^ i) m : Nat) : Int)) ∧ Below w.heap.size w w' := by
  have hlen : us.length = m := by have := hr.1; rw [ints_len] at this; exact this
  have HL := Lib.hid hlen
  have HUS := Lib.hid hus
  clear hlen hus
  obtain ⟨W1, hW1⟩ : ∃ W1, w.alloc (.cells #[.int .i64 ((f 0 : Nat) : Int), .int .i64 ((f 1 : Nat) : Int), .int .i64 ((f 2 : Nat) : Int), .int .i64 ((f 3 : Nat) : Int), .int .i64 ((f 4 : Nat) : Int), .int .i64 ((f 5 : Nat) : Int), .int .i64 ((f 6 : Nat) : Int), .int .i64 ((f 7 : Nat) : Int), .int .i64 ((f 8 : Nat) : Int), .int .i64 ((f 9 : Nat) : Int), .int .i64 ((f 10 : Nat) : Int), .int .i64 ((f 11 : Nat) : Int), .int .i64 ((f 12 : Nat) : Int), .int .i64 ((f 13 : Nat) : Int), .int .i64 ((f 14 : Nat) : Int), .int .i64 ((f 15 : Nat) : Int), .int .i64 ((f 16 : Nat) : Int), .int .i64 ((f 17 : Nat) : Int), .int .i64 ((f 18 : Nat) : Int), .int .i64 ((f 19 : Nat) : Int), .int .i64 ((f 20 : Nat) : Int), .int .i64 ((f 21 : Nat) : Int), .int .i64 ((f 22 : Nat) : Int), .int .i64 ((f 23 : Nat) : Int)] 81) = W1 := ⟨_, rfl⟩
  have hb1 : Below w.heap.size w W1 := by rw [← hW1]; exact (Below.refl _ w).alloc (Nat.le_refl _) _
  have r1 : W1.heap[w.heap.size]? = some (.cells (rowV f).toArray 81 (0, 0)) := by rw [← hW1]; exact heap_alloc_new w _
  obtain ⟨b, hbw⟩ : ∃ b, b = w.heap.size := ⟨_, rfl⟩
  rw [← hbw] at r1
  have x1 := x.next hb1
  have hr1 := hr.below hb1
  have z0 := x1.c0
  have HBL : Hid (b < W1.heap.size) := Lib.hid (Array.getElem?_eq_some_iff.1 r1).1
  have HAL : Hid (∀ k, aloneM us (fun i => f i == 2 ^ i) (k + 1) = if (f k == 2 ^ k) = true then aloneM us (fun i => f i == 2 ^ i) k ||| 2 ^ us.getD k 0 else aloneM us (fun i => f i == 2 ^ i) k) := Lib.hid fun k => rfl
  have HLT : Hid (∀ k, k ≤ m → aloneM us (fun i => f i == 2 ^ i) k < 2 ^ 8) := Lib.hid fun k hk => aloneM_lt us _ 8 k fun i hi => HUS.out i (by omega)
  obtain ⟨al, hal⟩ : ∃ al, al = aloneM us (fun i => f i == 2 ^ i) := ⟨_, rfl⟩
  have HZ : Hid (al 0 = 0) := Lib.hid (by rw [hal]; rfl)
  rw [← hal] at HAL HLT ⊢
  clear hal
  go_enter Tryd.func80, Tryd.ntmps80
  go_wp2_with fail
  rw [← hbw]
  have HB1 := Lib.hid hb1
  clear hW1 hb1 hbw hr x
  go_loopw [5, 13] (fun v q wr => ∃ k, k ≤ m ∧ q = .int .i64 ((k : Nat) : Int) ∧ v = .int .i64 ((al k : Nat) : Int) ∧ Below W1.heap.size W1 wr) (fun _ q _ => m - (intOf q).toNat)
  case atStart => exact ⟨0, Nat.zero_le _, rfl, by rw [HZ.out]; rfl, Below.refl _ _⟩
  case round =>
    obtain ⟨k, hk, rfl, rfl, hb⟩ := hrel
    by_cases hkm : k < m
    · obtain ⟨gu, ou, y, eU, hgu, hy, hcy⟩ := (hr1.below hb).at_ hkm
      rw [ints_getD us k (by rw [HL.out]; exact hkm)] at hy
      injection hy with hy
      obtain ⟨a, ha⟩ : ∃ a, a = us.getD k 0 := ⟨_, rfl⟩
      have ha8 : a < 8 := by rw [ha]; exact HUS.out k hkm
      rw [← ha] at hy
      have HA := Lib.hid ha
      subst hy eU
      have hcb := (hb.cell (p := ⟨b, k, none⟩) HBL.out).trans (row_cell r1 k (by omega))
      obtain ⟨M, hM⟩ : ∃ M, M = f k := ⟨_, rfl⟩
      rw [← hM] at hcb
      have HAK : Hid (al (k + 1) = if (M == 2 ^ k) = true then al k ||| 2 ^ a else al k) := Lib.hid (by rw [hM, ha]; exact HAL.out k)
      obtain ⟨S, hS⟩ : ∃ S, S = al k := ⟨_, rfl⟩
      have hS8 : S < 256 := by rw [hS]; exact HLT.out k hk
      rw [← hS] at HAK ⊢
      have hk24 : (k : Int) < 24 := by omega
      have hk62 : k ≤ 62 := by omega
      have hw64 := w64_p2 k hk62
      have hw2 : IntKind.i64.wrap (2 ^ k : Int) = wrap64 (2 ^ k : Int) := IntWalk.i64_left _
      clear ha hM hS
      by_cases hxy : M = 2 ^ k
      · have HN : Hid (al (k + 1) = S ||| 2 ^ a) := Lib.hid (by rw [HAK.out, if_pos (by rw [hxy]; simp)])
        have hq : ((M : Int) == wrap64 (2 ^ k : Int)) = true := by rw [hw64, hxy]; simp
        obtain ⟨T, hT⟩ : ∃ T, T = S ||| 2 ^ a := ⟨_, rfl⟩
        have HWI : Hid (∀ ww : World, Calls Tryd.prog 92 #[.int .i64 (S : Int), .int .i64 (a : Int)] ww fun e w' => e = .returned (.int .i64 (T : Int)) ∧ ww = w') := Lib.hid fun ww => by rw [hT]; exact with_any S a (by omega) (by omega) ww
        rw [← hT] at HN
        clear hw64 hxy hT
        go_wp2_with fail
        go_quiet (fail)
        go_wp2_with fail
        refine (HWI.out _).mono ?_
        rintro e w' ⟨rfl, rfl⟩
        go_wp2_with fail
        go_roundw
        case rel => exact ⟨k + 1, by omega, by go_num, by rw [HN.out], by first | exact below_drewN hb _ | exact hb.drew⟩
        case measure => simp [intOf]; omega
      · have hxi : ¬ ((M : Int) = ((2 ^ k : Nat) : Int)) := by omega
        have HN : Hid (al (k + 1) = S) := Lib.hid (by rw [HAK.out, if_neg (by simpa using hxy)])
        have hq : ((M : Int) == wrap64 (2 ^ k : Int)) = false := by rw [hw64]; simpa using hxi
        clear hw64 hxy hxi
        go_wp2_with fail
        go_quiet (fail)
        go_wp2_with fail
        go_roundw
        case rel => exact ⟨k + 1, by omega, by go_num, by rw [HN.out], by first | exact below_drewN hb _ | exact hb.drew⟩
        case measure => simp [intOf]; omega
    · have hke : k = m := by omega
      subst hke
      go_wp2_with fail
      go_ret
      exact ⟨rfl, HB1.out.trans (hb.mono HB1.out.size)⟩
end Go.Proofs.YtpcgjldcdjlenaaDoor
