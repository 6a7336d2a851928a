/-
  Words for slices of int64: what a slice reads as; a slice that a call has made.
-/
import Derived.Test.YtmifkbmgpofjbaaDoorBase
import Derived.WalkKit
import Derived.OwnWalk
import Derived.Below
import Derived.Laws.OwnMore
import Derived.Deep.AppendLies
import Derived.Deep.Draws
import Derived.OpenShut
namespace Go.Proofs.YtmifkbmgpofjbaaDoor
open Go.RowKit
set_option linter.unusedVariables false
set_option maxRecDepth 100000

theorem add_zero_off (g j : Nat) : (⟨g, 0, none⟩ : Addr).add j = ⟨g, j, none⟩ := by
  unfold Addr.add
  by_cases h : j = 0 <;> simp [h]
/-- The slice value '.slice A n _' reads as the numbers xs. -/
def Rd (w : World) (A : Option Addr) (n : Nat) (xs : List Int) : Prop :=
  xs.length = n ∧ (0 < n → ∃ b off, A = some ⟨b, off, none⟩ ∧ b < w.heap.size ∧ ∀ j x, xs[j]? = some x → w.cell? ⟨b, off + j, none⟩ = some (.int .i64 x))
theorem Rd.at_ {w : World} {A : Option Addr} {n : Nat} {xs : List Int} (h : Rd w A n xs) {k : Nat} (hk : k < n) :
    ∃ b off x, A = some ⟨b, off, none⟩ ∧ b < w.heap.size ∧ xs[k]? = some x ∧ w.cell? ⟨b, off + k, none⟩ = some (.int .i64 x) := by
  obtain ⟨b, off, e, hb, hc⟩ := h.2 (by omega)
  have hl : k < xs.length := by have := h.1; omega
  exact ⟨b, off, xs[k], e, hb, List.getElem?_eq_getElem hl, hc k _ (List.getElem?_eq_getElem hl)⟩
theorem Rd.keep {w w' : World} {A : Option Addr} {n : Nat} {xs : List Int} (h : Rd w A n xs) (hs : w.heap.size ≤ w'.heap.size) (hk : ∀ p : Addr, p.block < w.heap.size → w'.cell? p = w.cell? p) : Rd w' A n xs :=
  ⟨h.1, fun hn => by
    obtain ⟨b, off, e, hb, hc⟩ := h.2 hn
    exact ⟨b, off, e, by omega, fun j x hx => (hk ⟨b, off + j, none⟩ hb).trans (hc j x hx)⟩⟩
theorem Rd.below {w w' : World} {A : Option Addr} {n : Nat} {xs : List Int} (h : Rd w A n xs) (hb : Below w.heap.size w w') : Rd w' A n xs :=
  h.keep hb.size fun _ hp => hb.cell hp
theorem Rd.nil (w : World) (A : Option Addr) : Rd w A 0 [] := ⟨rfl, fun h => absurd h (by omega)⟩

/-- The slice value '.slice A n c' is the call's own, made behind block B, and holds the numbers xs. -/
def Own (E : TypeId) (w : World) (B : Nat) (A : Option Addr) (n c : Nat) (xs : List Int) : Prop :=
  w.ownsRow B E 1 (.slice A n c) n (xs.map (Value.int .i64))
theorem Own.len {E : TypeId} {w : World} {B : Nat} {A : Option Addr} {n c : Nat} {xs : List Int} (h : Own E w B A n c xs) : xs.length = n := by
  have := h.1; simpa using this
theorem Own.rd {E : TypeId} {w : World} {B : Nat} {A : Option Addr} {n c : Nat} {xs : List Int} (h : Own E w B A n c xs) : Rd w A n xs := by
  refine ⟨h.len, fun hn => ?_⟩
  obtain ⟨g, cap, hv, _, hlt⟩ := World.ownsRow.form h hn
  have hA : A = some ⟨g, 0, none⟩ := by injection hv
  subst hA
  refine ⟨g, 0, rfl, hlt, fun j x hx => ?_⟩
  have := World.ownsRow.cells h (g := g) rfl j (.int .i64 x) (by simp [hx])
  rw [add_zero_off] at this
  rw [Nat.zero_add]; exact this
/-- An own slice of at least one element: where it lies. -/
theorem Own.form {E : TypeId} {w : World} {B : Nat} {A : Option Addr} {n c : Nat} {xs : List Int} (h : Own E w B A n c xs) (hn : 0 < n) :
    ∃ g, A = some ⟨g, 0, none⟩ ∧ B ≤ g ∧ g < w.heap.size := by
  obtain ⟨g, cap, hv, hb, hlt⟩ := World.ownsRow.form h hn
  exact ⟨g, by injection hv, hb, hlt⟩
theorem Own.cell {E : TypeId} {w : World} {B g n c k : Nat} {xs : List Int} {x : Int} (h : Own E w B (some ⟨g, 0, none⟩) n c xs) (hx : xs[k]? = some x) : w.cell? ⟨g, k, none⟩ = some (.int .i64 x) := by
  have := World.ownsRow.cells h (g := g) rfl k (.int .i64 x) (by simp [hx])
  rw [add_zero_off] at this
  exact this
theorem Own.frozen {E : TypeId} {w : World} {B g n c : Nat} {xs : List Int} (h : Own E w B (some ⟨g, 0, none⟩) n c xs) (k : Nat) : w.frozen? ⟨g, k, none⟩ = false := World.ownsRow.frozenAt h k
theorem Own.set_ {E : TypeId} {w : World} {B g n c : Nat} {xs : List Int} (h : Own E w B (some ⟨g, 0, none⟩) n c xs) (k : Nat) (x : Int) :
    Own E (w.setCell ⟨g, k, none⟩ (.int .i64 x)) B (some ⟨g, 0, none⟩) n c (xs.set k x) := by
  have := (World.ownsRow.stored h k (.int .i64 x)).1
  unfold Own
  rw [List.map_set]; exact this
theorem Own.kept {E : TypeId} {w w' : World} {B : Nat} {A : Option Addr} {n c : Nat} {xs : List Int} (h : Own E w B A n c xs) {row : Option Nat} (hg : w.grownBy w' row) (hne : A.map (·.block) = none ∨ A.map (·.block) ≠ row) : Own E w' B A n c xs := by
  refine World.ownsRow.kept h hg ?_
  cases A
  · exact .inl rfl
  · simpa [Value.ownBlock] using hne
/-- A world below whose heap's size nothing has turned keeps what is owned in it. -/
theorem grownBy_of_below {w w' : World} (h : Below w.heap.size w w') : w.grownBy w' none := ⟨h.os, h.tape, h.output, h.size, fun k hk _ => h.block k hk⟩
theorem Own.below {E : TypeId} {w w' : World} {B : Nat} {A : Option Addr} {n c : Nat} {xs : List Int} (h : Own E w B A n c xs) (hb : Below w.heap.size w w') : Own E w' B A n c xs := by
  refine h.kept (grownBy_of_below hb) ?_
  cases A <;> simp
theorem Own.mono {E : TypeId} {w : World} {B B' : Nat} {A : Option Addr} {n c : Nat} {xs : List Int} (h : Own E w B A n c xs) (hB : B' ≤ B) : Own E w B' A n c xs := by
  refine ⟨h.1, ?_⟩
  rcases h.2 with h0 | ⟨g, cap, cur, e, hg, rest⟩
  · exact .inl h0
  · exact .inr ⟨g, cap, cur, e, by omega, rest⟩
theorem Own.nil (E : TypeId) (w : World) (B : Nat) : Own E w B none 0 0 [] := World.ownsRow_nil w B _ _

theorem Own.lt {E : TypeId} {w : World} {B n c : Nat} {A : Option Addr} {xs : List Int} (h : Own E w B A n c xs) : ∀ k, A.map (·.block) = some k → B ≤ k ∧ k < w.heap.size := by
  intro k hk
  refine World.ownsRow.lt h k ?_
  cases A with
  | none => cases hk
  | some a => simpa [Value.ownBlock] using hk
/-- What is owned stays while another row is written. -/
theorem Own.apart {E : TypeId} {w w' : World} {B n c : Nat} {A : Option Addr} {xs : List Int} (h : Own E w B A n c xs) {row : Option Nat} (hg : w.grownBy w' row) (hne : ∀ k, A.map (·.block) = some k → row ≠ some k) : Own E w' B A n c xs := by
  refine h.kept hg ?_
  cases hA : A.map (·.block) with
  | none => exact .inl rfl
  | some k => exact .inr fun e => hne k hA e.symm
/-- What owns a row of numbers is a slice. -/
theorem own_shape {E : TypeId} {w : World} {B n : Nat} {v : Value} {xs : List Int} (h : w.ownsRow B E 1 v n (xs.map (Value.int .i64))) : ∃ A c, v = .slice A n c ∧ Own E w B A n c xs := by
  rcases h.2 with ⟨rfl, rfl⟩ | ⟨g, cap, cur, rfl, _⟩
  · exact ⟨none, 0, rfl, h⟩
  · exact ⟨_, cap, rfl, h⟩
theorem grown_set {w wr : World} {g : Nat} (h : w.grownBy wr (some g)) (t : Nat) (v : Value) : w.grownBy (wr.setCell ⟨g, t, none⟩ v) (some g) :=
  ⟨h.os, h.tape, h.output, by rw [World.size_setCell]; exact h.size, fun k hk hne => by rw [Below.heap_setCell wr _ v k (fun e => hne (by rw [e]))]; exact h.block k hk hne⟩
theorem below_drewN {B : Nat} {a w : World} (h : Below B a w) (n : Nat) : Below B a (w.drewN n) := ⟨h.os, h.tape, h.output, h.size, h.block⟩
theorem info_int : (Tryd.prog.info? 2).map (fun i => (i.zero, i.size, i.bytes)) = some (some (.int .i64 0), 1, 8) := by kernel_rfl
theorem info_set : (Tryd.prog.info? 70).map (fun i => (i.zero, i.size, i.bytes)) = some (some (.int .i64 0), 1, 8) := by kernel_rfl
theorem made_int (n : Nat) : (madeCells (Value.int .i64 0).cells (n * 1)).toList = (List.replicate n (0 : Int)).map (Value.int .i64) := by
  have : (Value.int .i64 0).cells = #[Value.int .i64 0] := rfl
  rw [this, toList_madeCells_one, Nat.mul_one, List.map_replicate]

/-- A maker's answer: a slice of its own that holds xs; nothing else is turned. -/
def Makes (w : World) (xs : List Int) (e : Ending) (w' : World) : Prop :=
  ∃ A c, e = .returned (.slice A xs.length c) ∧ Own 2 w' w.heap.size A xs.length c xs ∧ Below w.heap.size w w'

/-- All numbers of int64's kind. -/
def Wf (xs : List Int) : Prop := ∀ x ∈ xs, -9223372036854775808 ≤ x ∧ x ≤ 9223372036854775807
theorem Wf.at_ {xs : List Int} (h : Wf xs) {k : Nat} {x : Int} (hx : xs[k]? = some x) : -9223372036854775808 ≤ x ∧ x ≤ 9223372036854775807 := h x (List.mem_of_getElem? hx)
theorem block_lt_of_cell {w : World} {b o : Nat} {v : Value} (h : w.cell? ⟨b, o, none⟩ = some v) : b < w.heap.size := by
  rcases Nat.lt_or_ge b w.heap.size with hlt | hge
  · exact hlt
  · unfold World.cell? at h
    simp [Array.getElem?_eq_none hge] at h
theorem rd_of_row {w : World} {a : Option Addr} {len cap : Nat} {zs : List Int}
    (h : (a = none ∧ len = 0 ∧ cap = 0 ∧ zs = []) ∨ ∃ x, a = some x ∧ len ≤ cap ∧ cap ≤ maxLen ∧ zs.length = cap ∧ (∀ i, i < zs.length → w.cell? (x.add i) = some (.int .i64 (zs.getD i 0))) ∧ ∀ n ∈ zs, (Lit.int .i64 n).wf = true) :
    ∃ xs, Rd w a len xs ∧ Wf xs ∧ len ≤ maxLen := by
  rcases h with ⟨rfl, rfl, rfl, rfl⟩ | ⟨x, rfl, hl, hm, hz, hcell, hwz⟩
  · exact ⟨[], Rd.nil _ _, fun x hx => (by cases hx), Nat.zero_le _⟩
  · refine ⟨zs.take len, ⟨by rw [List.length_take]; omega, fun hn => ?_⟩, fun y hy => bounds_i64 (hwz y (List.mem_of_mem_take hy)), by omega⟩
    obtain ⟨b, off, spot⟩ := x
    have hc := hcell 0 (by omega)
    have hspot : spot = none := by simpa [Addr.add] using World.cell?_spot hc
    subst hspot
    have hc0 : w.cell? ⟨b, off, none⟩ = some (.int .i64 (zs.getD 0 0)) := by simpa [Addr.add] using hc
    refine ⟨b, off, rfl, block_lt_of_cell hc0, fun j y hy => ?_⟩
    have hj : j < len := by
      rcases Nat.lt_or_ge j len with h | h
      · exact h
      · rw [List.getElem?_eq_none (by rw [List.length_take]; omega)] at hy; cases hy
    have hc := hcell j (by omega)
    have e : (⟨b, off, none⟩ : Addr).add j = ⟨b, off + j, none⟩ := by
      unfold Addr.add
      by_cases h0 : j = 0 <;> simp [h0]
    rw [e] at hc
    rw [hc]
    rw [List.getElem?_take_of_lt hj] at hy
    rw [List.getD_eq_getElem?_getD, hy]; rfl
end Go.Proofs.YtmifkbmgpofjbaaDoor
