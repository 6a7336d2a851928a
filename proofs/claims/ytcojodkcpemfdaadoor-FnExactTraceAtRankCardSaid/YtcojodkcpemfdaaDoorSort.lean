/-
  The library's sort of a list of sets, and appends that keep what a copy of the slice reads, by contracts.
-/
import Derived.Test.YtcojodkcpemfdaaDoorB2
import Derived.Test.YtcojodkcpemfdaaDoorSortP
import Derived.Sort.OwnSortedInts
import Derived.ArgAppend
namespace Go.Proofs.YtcojodkcpemfdaaDoor
open Go.RowKit Go.Sort Go.Shelf
set_option linter.unusedVariables false
set_option maxRecDepth 100000

/-- In ascending order. -/
def Asc (ys : List Nat) : Prop := ys.Pairwise (· < ·)
theorem asc_merge (ys : List Nat) (h : Asc ys) : ((ints ys).mergeSort fun x y => decide (x ≤ y)) = ints ys := by
  apply List.mergeSort_of_pairwise
  unfold ints
  rw [List.pairwise_map]
  exact List.Pairwise.imp (fun {a b} hab => by simp; omega) h
theorem sort_any (E B : Nat) (A : Option Addr) (n c : Nat) (ys : List Nat) (w : World) (h : Own E w B A n c (ints ys)) (hn : 0 < n) (hn2 : n ≤ 1048576) (ha : Asc ys) :
    Calls Tryd.prog 226 #[.slice A n c] w fun e w' => e = .returned (.tuple #[]) ∧ Own E w' B A n c (ints ys) ∧ w.grownBy w' (A.map (·.block)) := by
  rcases h.2 with ⟨_, h0⟩ | ⟨g, cap, cur, hv, hbg, hheap, hnc, hcm, hcs, htake⟩
  · omega
  · injection hv with hA hn3 hc3
    subst hA hc3
    have hlen : (ints ys).length = n := h.len
    have hH : Holds (Value.int .i64) w g 0 (ints ys).toArray := Go.holds_of_blockI hheap (by rw [hlen]; rw [Nat.mul_one] at htake; exact htake)
    have hlt : g < w.heap.size := (h.lt g rfl).2
    have hc := AnyG.slices_Sort_int Tryd.sortSet g 0 c (ints ys) w hH hlt (by omega)
    rw [hlen, asc_merge ys ha] at hc
    refine hc.mono fun e w' ⟨he, m, os, hw⟩ => ⟨he, ?_, ?_⟩
    · subst hw
      have ho := Go.ownsRow_sortedI (w := w) (base := B) (g := g) (cap := c) (n := m) (os := os) (ss := ints ys) (ts := ints ys) rfl hbg hheap (by rw [hlen]; exact hnc) hcm hcs
      rw [hlen] at ho
      exact ho
    · subst hw
      exact Go.grownBy_sortedI _
end Go.Proofs.YtcojodkcpemfdaaDoor
