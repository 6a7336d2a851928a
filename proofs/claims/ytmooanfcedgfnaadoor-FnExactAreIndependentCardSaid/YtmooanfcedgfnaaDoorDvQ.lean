/-
  Division: the program's quotient, by a contract.
-/
import Derived.Test.YtmooanfcedgfnaaDoorDvC
import Derived.Test.YtmooanfcedgfnaaDoorDvS
namespace Go.Proofs.YtmooanfcedgfnaaDoor
open Go Go.RowKit
set_option linter.unusedVariables false
set_option maxRecDepth 100000

/-- The quotient: what is left of the second word, and whether the first one is a prefix. -/
def QuoPost (D : Nat → Nat → Bool) (us vs : List Nat) (w : World) (e : Ending) (w' : World) : Prop :=
  ∃ A c, e = .returned (.tuple #[.slice A (cmpM D us vs).2.2.length c, .bool (cutM D us vs).isSome]) ∧ Rd w' A (cmpM D us vs).2.2.length (ints (cmpM D us vs).2.2) ∧ (cmpM D us vs).2.2.length ≤ c ∧ Below w.heap.size w w'
theorem cmp_some (D : Nat → Nat → Bool) (us vs : List Nat) : decide ((cmpM D us vs).2.1.length = 0) = (cutM D us vs).isSome := by
  unfold cmpM
  cases h : cutM D us vs with
  | none =>
    have := cmp_uncut D us [] vs h
    show _ = false
    rw [decide_eq_false_iff_not]
    intro h9
    exact this (List.eq_nil_of_length_eq_zero h9)
  | some r => rw [cmp_cut D us [] vs r h]; rfl
set_option maxHeartbeats 1600000 in
theorem quotient_any (R A B : Option Addr) (n c m d q e0 : Nat) (rs us vs : List Nat) (w : World) (h : Rd w R n (ints rs)) (hn : n ≤ 24) (hr : ∀ i, rs.getD i 0 < 2 ^ n) (hsym : ∀ a b, RDep rs a b = RDep rs b a) (href : ∀ a, a < n → RDep rs a a = true)
    (h2 : Rd w A m (ints us)) (hm : m ≤ 1048576) (hus : ∀ x, x ∈ us → x < n) (h3 : Rd w B q (ints vs)) (hq : q ≤ 1048576) (hqe : q ≤ e0) (hvs : ∀ x, x ∈ vs → x < n) :
    Calls Tryd.prog 59 #[.slice R n c, .slice A m d, .slice B q e0] w (QuoPost (RDep rs) us vs w) := by
  have HC := Lib.hid (cmpare_any R A B n c m d q e0 rs us vs w h hn hr hsym href h2 hm hus h3 hq hqe hvs)
  have HS := Lib.hid (cmp_some (RDep rs) us vs)
  have HP := Lib.hid (cmp_parts (RDep rs) us [] [] vs)
  unfold CmpPost at HC
  unfold QuoPost
  unfold cmpM at HC HS ⊢
  obtain ⟨I, hI⟩ : ∃ I, I = (cutM (RDep rs) us vs).isSome := ⟨_, rfl⟩
  rw [← hI] at HS ⊢
  obtain ⟨C, hC⟩ : ∃ C, C = cmpGo (RDep rs) us [] [] vs := ⟨_, rfl⟩
  rw [← hC] at HC HS HP ⊢
  obtain ⟨p, f, s⟩ := C
  have HS' : Hid (decide (f.length = 0) = I) := HS
  have HC' : Hid (Calls Tryd.prog 67 #[.slice R n c, .slice A m d, .slice B q e0] w fun e w' => ∃ A0 c0 A1 c1 A2 c2, e = .returned (.agg #[.slice A0 p.length c0, .slice A1 f.length c1, .slice A2 s.length c2]) ∧ Rd w' A0 p.length (ints p) ∧ Rd w' A1 f.length (ints f) ∧ Rd w' A2 s.length (ints s) ∧ s.length ≤ c2 ∧ Below w.heap.size w w') := HC
  show Calls Tryd.prog 59 #[.slice R n c, .slice A m d, .slice B q e0] w fun e w' => ∃ A c, e = .returned (.tuple #[.slice A s.length c, .bool I]) ∧ Rd w' A s.length (ints s) ∧ s.length ≤ c ∧ Below w.heap.size w w'
  obtain ⟨F, hF⟩ : ∃ F, F = f.length := ⟨_, rfl⟩
  obtain ⟨S, hS⟩ : ∃ S, S = s.length := ⟨_, rfl⟩
  rw [← hF] at HS' HC'
  rw [← hS] at HC' ⊢
  have HE : Hid ((((F : Nat) : Int) == 0) = I) := Lib.hid (by rw [← HS'.out]; by_cases h0 : F = 0 <;> simp [h0])
  clear HC HS HP hI hC hF hS HS'
  go_enter Tryd.func59, Tryd.ntmps59
  go_wp2_with fail
  refine HC'.out.mono ?_
  rintro e w1 ⟨A0, c0, A1, c1, A2, c2, rfl, r0, r1, r2, hle, hb⟩
  have x1 := cbox_new w1 A0 p.length c0 A1 F c1 A2 S c2
  have y1 := x1.c1
  have y2 := x1.c2
  have HB := Lib.hid (hb.alloc hb.size (.cells #[.slice A0 p.length c0, .slice A1 F c1, .slice A2 S c2] 66))
  have HR2 := Lib.hid (r2.below (below1 w1 (.cells #[.slice A0 p.length c0, .slice A1 F c1, .slice A2 S c2] 66)))
  go_wp2_with fail
  go_quiet (fail)
  go_wp2_with fail
  go_ret2
  rw [HE.out]
  exact ⟨A2, c2, rfl, HR2.out, hle, below_drewN HB.out _⟩
end Go.Proofs.YtmooanfcedgfnaaDoor
