/-
  How the places of a word are compared: cmp.Compare of their letters.
-/
import Derived.Test.YtcojodkcpemfdaaDoorStable
import Derived.Test.YtcojodkcpemfdaaDoorFoataT
namespace Go.Proofs.YtcojodkcpemfdaaDoor
open Go.RowKit
set_option linter.unusedVariables false
set_option linter.unusedSimpArgs false
set_option maxRecDepth 100000

def cmpI (x y : Int) : Int := if x < y then -1 else if y < x then 1 else 0
theorem cmpI_neg (x y : Int) : cmpI x y < 0 ↔ x < y := by unfold cmpI; split <;> (try split) <;> omega
theorem isNaN_any (x : Int) (w : World) : Calls Tryd.prog 204 #[.int .i64 x] w fun e w' => e = .returned (.bool false) ∧ w = w' := by
  go_enter Tryd.func204, Tryd.ntmps204
  go_wp2
  go_ret
  exact ⟨ret_b _ _ (by simp), rfl⟩
theorem compare_any (x y : Int) (w : World) : Calls Tryd.prog 168 #[.int .i64 x, .int .i64 y] w fun e w' => e = .returned (.int .i64 (cmpI x y)) ∧ w = w' := by
  by_cases h1 : x < y
  · have hc : Hid (cmpI x y = -1) := Lib.hid (by unfold cmpI; rw [if_pos h1])
    go_enter Tryd.func168, Tryd.ntmps168
    go_wp2_with fail
    refine (isNaN_any _ _).mono ?_
    rintro e w' ⟨rfl, rfl⟩
    go_wp2_with fail
    refine (isNaN_any _ _).mono ?_
    rintro e w' ⟨rfl, rfl⟩
    go_wp2_with fail
    go_ret
    exact ⟨ret_i _ _ hc.out.symm, rfl⟩
  · by_cases h2 : y < x
    · have hc : Hid (cmpI x y = 1) := Lib.hid (by unfold cmpI; rw [if_neg h1, if_pos h2])
      go_enter Tryd.func168, Tryd.ntmps168
      go_wp2_with fail
      refine (isNaN_any _ _).mono ?_
      rintro e w' ⟨rfl, rfl⟩
      go_wp2_with fail
      refine (isNaN_any _ _).mono ?_
      rintro e w' ⟨rfl, rfl⟩
      go_wp2_with fail
      go_ret
      exact ⟨ret_i _ _ hc.out.symm, rfl⟩
    · have hc : Hid (cmpI x y = 0) := Lib.hid (by unfold cmpI; rw [if_neg h1, if_neg h2])
      go_enter Tryd.func168, Tryd.ntmps168
      go_wp2_with fail
      refine (isNaN_any _ _).mono ?_
      rintro e w' ⟨rfl, rfl⟩
      go_wp2_with fail
      refine (isNaN_any _ _).mono ?_
      rintro e w' ⟨rfl, rfl⟩
      go_wp2_with fail
      go_ret
      exact ⟨ret_i _ _ hc.out.symm, rfl⟩
theorem traceCmp_any (bw m d i k : Nat) (A : Option Addr) (us : List Nat) (w : World) (hc : w.cell? ⟨bw, 0, none⟩ = some (.slice A m d)) (h : Rd w A m (ints us)) (hi : i < m) (hk : k < m) :
    Calls Tryd.prog 167 (#[.int .i64 (i : Int), .int .i64 (k : Int)] ++ #[.pointer (some ⟨bw, 0, none⟩)]) w fun e w' => e = .returned (.int .i64 (cmpI ((us.getD i 0 : Nat) : Int) ((us.getD k 0 : Nat) : Int))) ∧ ∃ q, w' = w.drewN q := by
  have hlen : us.length = m := by have := h.1; rw [ints_len] at this; exact this
  obtain ⟨b, off, x, e1, hbs, hx, hcx⟩ := h.at_ hi
  obtain ⟨b2, off2, y, e2, hbs2, hy, hcy⟩ := h.at_ hk
  subst e1
  cases e2
  rw [ints_getD us i (by omega)] at hx
  rw [ints_getD us k (by omega)] at hy
  injection hx with hx
  injection hy with hy
  subst hx hy
  obtain ⟨X, hX⟩ : ∃ X, X = us.getD i 0 := ⟨_, rfl⟩
  obtain ⟨Y, hY⟩ : ∃ Y, Y = us.getD k 0 := ⟨_, rfl⟩
  rw [← hX] at hcx ⊢
  rw [← hY] at hcy ⊢
  have mixed : Tryd.prog.follows .mixedOrders = true := by kernel_rfl
  clear hX hY h hlen
  show Calls _ _ #[.int .i64 (i : Int), .int .i64 (k : Int), .pointer (some ⟨bw, 0, none⟩)] w _
  go_enter Tryd.func167, Tryd.ntmps167
  go_wp2_with fail
  go_quiet_o (first | (go_at_call 168; refine Calls.quiet_of ((compare_any _ _ _).mono fun _ _ ⟨he, hw⟩ => ⟨he, 0, hw.symm⟩)))
  go_wp2_with fail
  go_ret
  exact ⟨rfl, _, rfl⟩
/-- The places' comparison is one that the stable sort may use. -/
theorem traceCmp_ok (bw g m d : Nat) (A : Option Addr) (us : List Nat) (w : World) (hc : w.cell? ⟨bw, 0, none⟩ = some (.slice A m d)) (h : Rd w A m (ints us)) (hg1 : bw ≠ g) (hg2 : ∀ b, 0 < m → A.map (·.block) = some b → some g ≠ some b) (hbw : bw < w.heap.size) :
    CmpOk w g m (fun p => us.getD p 0) (fun i k => cmpI ((us.getD i 0 : Nat) : Int) ((us.getD k 0 : Nat) : Int)) 167 #[.pointer (some ⟨bw, 0, none⟩)] := by
  refine ⟨fun x y => ?_, fun x y wx hx hy hg => ?_⟩
  · rw [cmpI_neg]; show _ ↔ us.getD x 0 < us.getD y 0; omega
  · refine traceCmp_any bw m d x y A us wx ?_ (h.far2 hg hg2) hx hy
    have h1 := hg.block bw hbw (fun e => hg1 (by injection e))
    rw [← hc]
    unfold World.cell?
    rw [h1]
end Go.Proofs.YtcojodkcpemfdaaDoor
