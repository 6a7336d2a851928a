/-
  The closure of a relation: the model's growing sets and the program's rounds, by contracts.
-/
import Derived.Test.YtmifkbmgpofjbaaDoorBits
import Derived.Test.YtmifkbmgpofjbaaDoorMaskOf
import Derived.Test.YtmifkbmgpofjbaaDoorCloMath
import Derived.RegionTactic
import Derived.ChangeAlike
namespace Go.Proofs.YtmifkbmgpofjbaaDoor
open Go.RowKit
set_option linter.unusedVariables false
set_option maxRecDepth 100000

/-- What a function that answers a list and a code leaves. -/
def AnsPost (w : World) (ys : List Int) (code : Int) (e : Ending) (w' : World) : Prop :=
  ∃ A c, e = .returned (.tuple #[.slice A ys.length c, .int .i64 code]) ∧ Own 2 w' w.heap.size A ys.length c ys ∧ Below w.heap.size w w'

theorem lt63 {m n : Nat} (hn : n ≤ 24) (h : m < 2 ^ n) : m < 9223372036854775808 := by have := p24 n hn; omega
theorem or63 (a b : Nat) (ha : a < 9223372036854775808) (hb : b < 9223372036854775808) : bits .or .i64 (a : Int) (b : Int) = ((a ||| b : Nat) : Int) := i64_or_nat a b ha hb


theorem ints_snoc_map (ys : List Nat) (m : Nat) : (ints ys).map (Value.int .i64) ++ [Value.int .i64 ((m : Nat) : Int)] = (ints (ys ++ [m])).map (Value.int .i64) := by simp [ints]
theorem take_next_nat (ys : List Nat) (k : Nat) (h : k < ys.length) : ys.take k ++ [ys.getD k 0] = ys.take (k + 1) := by
  rw [List.take_add_one, List.getD_eq_getElem?_getD, List.getElem?_eq_getElem h]; rfl
theorem ans_yes {w w' : World} {A : Option Addr} {n c : Nat} {ys : List Int} (hl : ys.length = n) (ho : Own 2 w' w.heap.size A n c ys) (hb : Below w.heap.size w w') : AnsPost w ys 0 (.returned (.tuple #[.slice A n c, .int .i64 0])) w' := by
  subst hl; exact ⟨A, c, rfl, ho, hb⟩
theorem ans_no {w w' : World} (code : Int) (hb : Below w.heap.size w w') : AnsPost w [] code (.returned (.tuple #[.slice none 0 0, .int .i64 code])) w' := ⟨none, 0, rfl, Own.nil _ _ _, hb⟩

theorem own_stored {E : TypeId} {w : World} {B : Nat} {A : Option Addr} {n c k : Nat} {cs : List Nat} (h : Own E w B A n c (ints cs)) (hk : k < n) :
    ∃ g, A = some ⟨g, 0, none⟩ ∧ B ≤ g ∧ w.cell? ⟨g, k, none⟩ = some (.int .i64 ((cs.getD k 0 : Nat) : Int)) ∧ w.frozen? ⟨g, k, none⟩ = false ∧ (∀ m : Nat, Own E (w.setCell ⟨g, k, none⟩ (.int .i64 (m : Int))) B (some ⟨g, 0, none⟩) n c (ints (cs.set k m))) := by
  obtain ⟨g, rfl, hg, _⟩ := h.form (by omega)
  have hl : cs.length = n := by have := h.len; rw [ints_len] at this; exact this
  exact ⟨g, rfl, hg, h.cell (ints_getD cs k (by omega)), h.frozen k, fun m => by rw [← ints_set]; exact h.set_ k m⟩
theorem getD_set (cs : List Nat) (k m i : Nat) (hk : k < cs.length) : (cs.set k m).getD i 0 = if i = k then m else cs.getD i 0 := by
  rw [List.getD_eq_getElem?_getD, List.getD_eq_getElem?_getD, List.getElem?_set]
  by_cases e : k = i
  · subst e; simp [hk]
  · rw [if_neg e, if_neg (fun h => e h.symm)]

/-- What ClosureOfRelation answers. -/
def closAns (xs : List Int) : List Int × Int := if relB xs = true then (ints (closM (xs.map Int.toNat)), 0) else ([], 1)
theorem closAns_small (xs : List Int) : (closAns xs).1.length ≤ 24 := by
  unfold closAns
  split
  · rename_i h
    show (ints _).length ≤ 24
    rw [ints_len, closM_len, List.length_map]; exact relB_len xs h
  · show 0 ≤ 24; omega
theorem clos_nats (xs : List Int) (h : relB xs = true) : xs = ints (xs.map Int.toNat) ∧ ∀ i, (xs.map Int.toNat).getD i 0 < 2 ^ xs.length := by
  obtain ⟨rs, h1, h2, h3⟩ := relB_nats xs h
  have e : xs.map Int.toNat = rs := by
    rw [h1]; unfold ints; rw [List.map_map]
    conv => rhs; rw [← List.map_id rs]
    apply List.map_congr_left
    intro m _; simp
  rw [e]; exact ⟨h1, h3⟩
end Go.Proofs.YtmifkbmgpofjbaaDoor
