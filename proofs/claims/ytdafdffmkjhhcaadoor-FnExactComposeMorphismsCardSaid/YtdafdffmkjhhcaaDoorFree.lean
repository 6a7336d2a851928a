/-
  The alphabet of a dependence, and the alphabet of letters that are all independent: by contracts.
-/
import Derived.Test.YtdafdffmkjhhcaaDoorM1
import Derived.Test.YtdafdffmkjhhcaaDoorM3
import Derived.Test.YtdafdffmkjhhcaaDoorM2
import Derived.Deep.AppendLies
namespace Go.Proofs.YtdafdffmkjhhcaaDoor
open Go.RowKit
set_option linter.unusedVariables false
set_option maxRecDepth 100000

theorem ownBlock_map {A : Option Addr} {n c q : Nat} (h : (Value.slice A n c).ownBlock = some q) : A.map (·.block) = some q := by
  cases A with
  | none => cases h
  | some a => simpa [Value.ownBlock] using h
theorem size1 (w : World) (o : Obj) : (w.alloc o).heap.size = w.heap.size + 1 := by simp
theorem AlPost.from_ {w w1 w' : World} {VL : Int} {VN : Nat} {VX : List Int} {C : Int} {e : Ending} (h : AlPost w1 VL VN VX C e w') (hb : Below w.heap.size w w1) : AlPost w VL VN VX C e w' := by
  obtain ⟨A, c, rfl, ho, hb2⟩ := h
  exact ⟨A, c, rfl, ho.mono hb.size, hb.trans (hb2.mono hb.size)⟩
/-- What a maker of an alphabet leaves. -/
def MakesAl (w : World) (L : Int) (n : Nat) (xs : List Int) (e : Ending) (w' : World) : Prop :=
  ∃ A c, e = .returned (.agg #[.int .i64 L, .slice A n c]) ∧ Own 2 w' w.heap.size A n c xs ∧ Below w.heap.size w w'
theorem alphabetOf_any (A : Option Addr) (n c : Nat) (xs : List Int) (w : World) (h : Rd w A n xs) (hn : n ≤ 1048576) :
    Calls Tryd.prog 143 #[.slice A n c] w (MakesAl w (n : Int) n xs) := by
  have HB := Lib.hid (below1 w (.cells #[.int .i64 0, .slice none 0 0] 29))
  have hh := h.below HB.out
  go_enter Tryd.func143, Tryd.ntmps143
  go_wp2_with fail
  refine (masksOf_any _ _ _ _ _ hh hn).mono ?_
  rintro e w1 ⟨A1, c1, rfl, ho, hb⟩
  have x1 := (box_new 29 w 0 none 0 0).next hb
  have y0 := x1.c0
  have y1 := x1.c1
  have f0 := x1.fr 0
  have f1 := x1.fr 1
  have hs := size1 w (.cells #[.int .i64 0, .slice none 0 0] 29)
  go_wp2
  refine ret_gen (fun W => Box 29 W w.heap.size (n : Int) A1 n c1 ∧ Own 2 W w.heap.size A1 n c1 xs ∧ Below w.heap.size w W) ⟨x1.set _ _ _ _, ?_, ?_⟩ ?_
  · have ho2 := ho.mono HB.out.size
    have hne : ∀ q, A1.map (·.block) = some q → q ≠ w.heap.size := fun q hq => by have := (ho.lt q hq).1; omega
    exact own_other (own_other ho2 _ _ _ hne) _ _ _ hne
  · exact ((HB.out.trans (hb.mono HB.out.size)).setCell (p := ⟨w.heap.size, 0, none⟩) (Nat.le_refl _) _).setCell (p := ⟨w.heap.size, 1, none⟩) (Nat.le_refl _) _
  · rintro W ⟨x, o, b⟩
    have e0 := x.c0
    have e1 := x.c1
    exact bodyPost_ret (v := .agg #[.int .i64 (n : Int), .slice A1 n c1]) (by simp [results, Tryd.results143, go_sem, e0, e1]) rfl ⟨_, _, rfl, o, b⟩
end Go.Proofs.YtdafdffmkjhhcaaDoor
