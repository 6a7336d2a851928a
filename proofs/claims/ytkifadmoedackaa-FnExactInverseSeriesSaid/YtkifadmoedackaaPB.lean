/-
  Words for slices of numbers; the laws' own helpers; a list searched by a closure: by contracts (for a program without sets).
-/
import Derived.Test.YtkifadmoedackaaRows
import Derived.Test.YtkifadmoedackaaMath
import Derived.WalkKit
import Derived.WalkLawsBesides
import Derived.WalkSpells
import Derived.Deep.DeepMust
import Derived.Lib.Hide
import Derived.OwnWalk
import Derived.Below
import Derived.Laws.OwnMore
import Derived.Deep.AppendLies
import Derived.Deep.Draws
import Derived.OpenShut
import Derived.Deep.QuietTactic
import Derived.BigQuiet
import Derived.Conc.MuLone
import Derived.Lib.SliceRun
import Derived.BigFrame
import Derived.RegionTactic
import Derived.Deep.RegionWith
import Derived.Deep.RegionLaw
namespace Go.Proofs.Ytkifadmoedackaa
open Go Go.RowKit
set_option linter.unusedVariables false
set_option maxRecDepth 100000
theorem w64_nat (r : Nat) (h : r < 9223372036854775808) : wrap64 (r : Int) = (r : Int) := by unfold wrap64; omega
theorem ret_i (a b : Int) (h : a = b) : Ending.returned (.int .i64 a) = .returned (.int .i64 b) := by rw [h]
theorem ret_b (a b : Bool) (h : a = b) : Ending.returned (.bool a) = .returned (.bool b) := by rw [h]
theorem in_any (n lo hi : Int) (w : World) :
    Calls Try.prog 10 #[.int .i64 n, .int .i64 lo, .int .i64 hi] w fun e w' => e = .returned (.bool (decide (lo ≤ n ∧ n ≤ hi))) ∧ w = w' := by
  go_enter Try.func10, Try.ntmps10
  go_wp2
  all_goals go_ret
  · exact ⟨ret_b _ _ (by simp [*]), rfl⟩
  · exact ⟨ret_b _ _ (by simp; omega), rfl⟩
theorem in_true (n lo hi : Int) (h : lo ≤ n ∧ n ≤ hi) (w : World) :
    Calls Try.prog 10 #[.int .i64 n, .int .i64 lo, .int .i64 hi] w fun e w' => e = .returned (.bool true) ∧ w = w' :=
  (in_any n lo hi w).mono fun _ _ ⟨he, hw⟩ => ⟨by rw [he, decide_eq_true h], hw⟩
theorem in_false (n lo hi : Int) (h : ¬ (lo ≤ n ∧ n ≤ hi)) (w : World) :
    Calls Try.prog 10 #[.int .i64 n, .int .i64 lo, .int .i64 hi] w fun e w' => e = .returned (.bool false) ∧ w = w' :=
  (in_any n lo hi w).mono fun _ _ ⟨he, hw⟩ => ⟨by rw [he, decide_eq_false h], hw⟩

theorem add_zero_off (g j : Nat) : (⟨g, 0, none⟩ : Addr).add j = ⟨g, j, none⟩ := by
  unfold Addr.add
  by_cases h : j = 0 <;> simp [h]
/-- The slice value '.slice A n _' reads as the numbers xs. -/
def Rd (w : World) (A : Option Addr) (n : Nat) (xs : List Int) : Prop :=
  xs.length = n ∧ (0 < n → ∃ b off, A = some ⟨b, off, none⟩ ∧ b < w.heap.size ∧ ∀ j x, xs[j]? = some x → w.cell? ⟨b, off + j, none⟩ = some (.int .i64 x))
theorem Rd.at_ {w : World} {A : Option Addr} {n : Nat} {xs : List Int} (h : Rd w A n xs) {k : Nat} (hk : k < n) :
    ∃ b off x, A = some ⟨b, off, none⟩ ∧ b < w.heap.size ∧ xs[k]? = some x ∧ w.cell? ⟨b, off + k, none⟩ = some (.int .i64 x) := by
  obtain ⟨b, off, e, hb, hc⟩ := h.2 (by omega)
  have hl : k < xs.length := by have := h.1; omega
  exact ⟨b, off, xs[k], e, hb, List.getElem?_eq_getElem hl, hc k _ (List.getElem?_eq_getElem hl)⟩
theorem Rd.keep {w w' : World} {A : Option Addr} {n : Nat} {xs : List Int} (h : Rd w A n xs) (hs : w.heap.size ≤ w'.heap.size) (hk : ∀ p : Addr, p.block < w.heap.size → w'.cell? p = w.cell? p) : Rd w' A n xs :=
  ⟨h.1, fun hn => by
    obtain ⟨b, off, e, hb, hc⟩ := h.2 hn
    exact ⟨b, off, e, by omega, fun j x hx => (hk ⟨b, off + j, none⟩ hb).trans (hc j x hx)⟩⟩
theorem Rd.below {w w' : World} {A : Option Addr} {n : Nat} {xs : List Int} (h : Rd w A n xs) (hb : Below w.heap.size w w') : Rd w' A n xs :=
  h.keep hb.size fun _ hp => hb.cell hp
theorem Rd.nil (w : World) (A : Option Addr) : Rd w A 0 [] := ⟨rfl, fun h => absurd h (by omega)⟩

/-- The slice value '.slice A n c' is the call's own, made behind block B, and holds the numbers xs. -/
def Own (E : TypeId) (w : World) (B : Nat) (A : Option Addr) (n c : Nat) (xs : List Int) : Prop :=
  w.ownsRow B E 1 (.slice A n c) n (xs.map (Value.int .i64))
theorem Own.len {E : TypeId} {w : World} {B : Nat} {A : Option Addr} {n c : Nat} {xs : List Int} (h : Own E w B A n c xs) : xs.length = n := by
  have := h.1; simpa using this
theorem Own.rd {E : TypeId} {w : World} {B : Nat} {A : Option Addr} {n c : Nat} {xs : List Int} (h : Own E w B A n c xs) : Rd w A n xs := by
  refine ⟨h.len, fun hn => ?_⟩
  obtain ⟨g, cap, hv, _, hlt⟩ := World.ownsRow.form h hn
  have hA : A = some ⟨g, 0, none⟩ := by injection hv
  subst hA
  refine ⟨g, 0, rfl, hlt, fun j x hx => ?_⟩
  have := World.ownsRow.cells h (g := g) rfl j (.int .i64 x) (by simp [hx])
  rw [add_zero_off] at this
  rw [Nat.zero_add]; exact this
/-- An own slice of at least one element: where it lies. -/
theorem Own.form {E : TypeId} {w : World} {B : Nat} {A : Option Addr} {n c : Nat} {xs : List Int} (h : Own E w B A n c xs) (hn : 0 < n) :
    ∃ g, A = some ⟨g, 0, none⟩ ∧ B ≤ g ∧ g < w.heap.size := by
  obtain ⟨g, cap, hv, hb, hlt⟩ := World.ownsRow.form h hn
  exact ⟨g, by injection hv, hb, hlt⟩
theorem Own.cell {E : TypeId} {w : World} {B g n c k : Nat} {xs : List Int} {x : Int} (h : Own E w B (some ⟨g, 0, none⟩) n c xs) (hx : xs[k]? = some x) : w.cell? ⟨g, k, none⟩ = some (.int .i64 x) := by
  have := World.ownsRow.cells h (g := g) rfl k (.int .i64 x) (by simp [hx])
  rw [add_zero_off] at this
  exact this
theorem Own.frozen {E : TypeId} {w : World} {B g n c : Nat} {xs : List Int} (h : Own E w B (some ⟨g, 0, none⟩) n c xs) (k : Nat) : w.frozen? ⟨g, k, none⟩ = false := World.ownsRow.frozenAt h k
theorem Own.set_ {E : TypeId} {w : World} {B g n c : Nat} {xs : List Int} (h : Own E w B (some ⟨g, 0, none⟩) n c xs) (k : Nat) (x : Int) :
    Own E (w.setCell ⟨g, k, none⟩ (.int .i64 x)) B (some ⟨g, 0, none⟩) n c (xs.set k x) := by
  have := (World.ownsRow.stored h k (.int .i64 x)).1
  unfold Own
  rw [List.map_set]; exact this
theorem Own.kept {E : TypeId} {w w' : World} {B : Nat} {A : Option Addr} {n c : Nat} {xs : List Int} (h : Own E w B A n c xs) {row : Option Nat} (hg : w.grownBy w' row) (hne : A.map (·.block) = none ∨ A.map (·.block) ≠ row) : Own E w' B A n c xs := by
  refine World.ownsRow.kept h hg ?_
  cases A
  · exact .inl rfl
  · simpa [Value.ownBlock] using hne
/-- A world below whose heap's size nothing has turned keeps what is owned in it. -/
theorem grownBy_of_below {w w' : World} (h : Below w.heap.size w w') : w.grownBy w' none := ⟨h.os, h.tape, h.output, h.size, fun k hk _ => h.block k hk⟩
theorem Own.below {E : TypeId} {w w' : World} {B : Nat} {A : Option Addr} {n c : Nat} {xs : List Int} (h : Own E w B A n c xs) (hb : Below w.heap.size w w') : Own E w' B A n c xs := by
  refine h.kept (grownBy_of_below hb) ?_
  cases A <;> simp
theorem Own.mono {E : TypeId} {w : World} {B B' : Nat} {A : Option Addr} {n c : Nat} {xs : List Int} (h : Own E w B A n c xs) (hB : B' ≤ B) : Own E w B' A n c xs := by
  refine ⟨h.1, ?_⟩
  rcases h.2 with h0 | ⟨g, cap, cur, e, hg, rest⟩
  · exact .inl h0
  · exact .inr ⟨g, cap, cur, e, by omega, rest⟩
theorem Own.nil (E : TypeId) (w : World) (B : Nat) : Own E w B none 0 0 [] := World.ownsRow_nil w B _ _

theorem Own.lt {E : TypeId} {w : World} {B n c : Nat} {A : Option Addr} {xs : List Int} (h : Own E w B A n c xs) : ∀ k, A.map (·.block) = some k → B ≤ k ∧ k < w.heap.size := by
  intro k hk
  refine World.ownsRow.lt h k ?_
  cases A with
  | none => cases hk
  | some a => simpa [Value.ownBlock] using hk
/-- What is owned stays while another row is written. -/
theorem Own.apart {E : TypeId} {w w' : World} {B n c : Nat} {A : Option Addr} {xs : List Int} (h : Own E w B A n c xs) {row : Option Nat} (hg : w.grownBy w' row) (hne : ∀ k, A.map (·.block) = some k → row ≠ some k) : Own E w' B A n c xs := by
  refine h.kept hg ?_
  cases hA : A.map (·.block) with
  | none => exact .inl rfl
  | some k => exact .inr fun e => hne k hA e.symm
/-- What owns a row of numbers is a slice. -/
theorem own_shape {E : TypeId} {w : World} {B n : Nat} {v : Value} {xs : List Int} (h : w.ownsRow B E 1 v n (xs.map (Value.int .i64))) : ∃ A c, v = .slice A n c ∧ Own E w B A n c xs := by
  rcases h.2 with ⟨rfl, rfl⟩ | ⟨g, cap, cur, rfl, _⟩
  · exact ⟨none, 0, rfl, h⟩
  · exact ⟨_, cap, rfl, h⟩
theorem grown_set {w wr : World} {g : Nat} (h : w.grownBy wr (some g)) (t : Nat) (v : Value) : w.grownBy (wr.setCell ⟨g, t, none⟩ v) (some g) :=
  ⟨h.os, h.tape, h.output, by rw [World.size_setCell]; exact h.size, fun k hk hne => by rw [Below.heap_setCell wr _ v k (fun e => hne (by rw [e]))]; exact h.block k hk hne⟩
theorem below_drewN {B : Nat} {a w : World} (h : Below B a w) (n : Nat) : Below B a (w.drewN n) := ⟨h.os, h.tape, h.output, h.size, h.block⟩
theorem info_int : (Try.prog.info? 2).map (fun i => (i.zero, i.size, i.bytes)) = some (some (.int .i64 0), 1, 8) := by kernel_rfl
theorem made_int (n : Nat) : (madeCells (Value.int .i64 0).cells (n * 1)).toList = (List.replicate n (0 : Int)).map (Value.int .i64) := by
  have : (Value.int .i64 0).cells = #[Value.int .i64 0] := rfl
  rw [this, toList_madeCells_one, Nat.mul_one, List.map_replicate]

/-- A maker's answer: a slice of its own that holds xs; nothing else is turned. -/
def Makes (w : World) (xs : List Int) (e : Ending) (w' : World) : Prop :=
  ∃ A c, e = .returned (.slice A xs.length c) ∧ Own 2 w' w.heap.size A xs.length c xs ∧ Below w.heap.size w w'

/-- All numbers of int64's kind. -/
def Wf (xs : List Int) : Prop := ∀ x ∈ xs, -9223372036854775808 ≤ x ∧ x ≤ 9223372036854775807
theorem Wf.at_ {xs : List Int} (h : Wf xs) {k : Nat} {x : Int} (hx : xs[k]? = some x) : -9223372036854775808 ≤ x ∧ x ≤ 9223372036854775807 := h x (List.mem_of_getElem? hx)
theorem block_lt_of_cell {w : World} {b o : Nat} {v : Value} (h : w.cell? ⟨b, o, none⟩ = some v) : b < w.heap.size := by
  rcases Nat.lt_or_ge b w.heap.size with hlt | hge
  · exact hlt
  · unfold World.cell? at h
    simp [Array.getElem?_eq_none hge] at h
theorem rd_of_row {w : World} {a : Option Addr} {len cap : Nat} {zs : List Int}
    (h : (a = none ∧ len = 0 ∧ cap = 0 ∧ zs = []) ∨ ∃ x, a = some x ∧ len ≤ cap ∧ cap ≤ maxLen ∧ zs.length = cap ∧ (∀ i, i < zs.length → w.cell? (x.add i) = some (.int .i64 (zs.getD i 0))) ∧ ∀ n ∈ zs, (Lit.int .i64 n).wf = true) :
    ∃ xs, Rd w a len xs ∧ Wf xs ∧ len ≤ maxLen := by
  rcases h with ⟨rfl, rfl, rfl, rfl⟩ | ⟨x, rfl, hl, hm, hz, hcell, hwz⟩
  · exact ⟨[], Rd.nil _ _, fun x hx => (by cases hx), Nat.zero_le _⟩
  · refine ⟨zs.take len, ⟨by rw [List.length_take]; omega, fun hn => ?_⟩, fun y hy => bounds_i64 (hwz y (List.mem_of_mem_take hy)), by omega⟩
    obtain ⟨b, off, spot⟩ := x
    have hc := hcell 0 (by omega)
    have hspot : spot = none := by simpa [Addr.add] using World.cell?_spot hc
    subst hspot
    have hc0 : w.cell? ⟨b, off, none⟩ = some (.int .i64 (zs.getD 0 0)) := by simpa [Addr.add] using hc
    refine ⟨b, off, rfl, block_lt_of_cell hc0, fun j y hy => ?_⟩
    have hj : j < len := by
      rcases Nat.lt_or_ge j len with h | h
      · exact h
      · rw [List.getElem?_eq_none (by rw [List.length_take]; omega)] at hy; cases hy
    have hc := hcell j (by omega)
    have e : (⟨b, off, none⟩ : Addr).add j = ⟨b, off + j, none⟩ := by
      unfold Addr.add
      by_cases h0 : j = 0 <;> simp [h0]
    rw [e] at hc
    rw [hc]
    rw [List.getElem?_take_of_lt hj] at hy
    rw [List.getD_eq_getElem?_getD, hy]; rfl

theorem take_set_next (xs : List Int) (ys : List Int) (k : Nat) (x : Int) (hx : xs[k]? = some x) (hy : ys.length = xs.length - k) :
    (xs.take k ++ ys).set k x = xs.take (k + 1) ++ ys.drop 1 := by
  have hk : k < xs.length := by
    rcases Nat.lt_or_ge k xs.length with h | h
    · exact h
    · rw [List.getElem?_eq_none h] at hx; cases hx
  have hl : (xs.take k).length = k := by rw [List.length_take]; omega
  rw [List.set_append, if_neg (by omega), hl, Nat.sub_self]
  cases ys with
  | nil => simp at hy; omega
  | cons y r =>
    rw [List.set_cons_zero, List.drop_one, List.tail_cons, List.take_add_one, hx]
    simp

set_option maxHeartbeats 400000 in
theorem toInt_any (A : Option Addr) (n c : Nat) (xs : List Int) (w : World) (h : Rd w A n xs) (hn : n ≤ 1048576) :
    Calls Try.prog 5 #[.slice A n c] w fun e w' => ∃ c', e = .returned (.slice (some ⟨w.heap.size, 0, none⟩) n c') ∧ Own 2 w' w.heap.size (some ⟨w.heap.size, 0, none⟩) n c' xs ∧ Below w.heap.size w w' := by
  obtain ⟨i0, hi, hz0, hz1, hz2⟩ := info_parts info_int
  have hml : n ≤ maxLen := by unfold maxLen; omega
  have hby : i0.bytes * n ≤ 281474976710656 := by rw [hz2]; omega
  go_enter Try.func5, Try.ntmps5
  go_wp2_with (first | (at_make; go_loud (refine wpList_make_full _ rfl _ _ _ rfl w.heap.size 2 i0 (.int .i64 0) 1 Try.underlying22 hi hz0 hz1 _ _ (n : Int) (n : Int) n rfl rfl rfl rfl hby hml (Nat.le_refl _) ?_); intro w1 hown0 hg1))
  have hown : Own 2 w1 w.heap.size (some ⟨w.heap.size, 0, none⟩) n n (List.replicate n 0) := by
    unfold Own; rw [← made_int]; exact hown0
  clear hown0
  have hb1 : Below w.heap.size w w1 := (Below.refl _ _).grown hg1 (Nat.le_refl _) (by simp)
  clear hg1
  go_loopw [4] (fun i wr => ∃ k : Nat, k ≤ n ∧ i = .int .i64 k ∧ Own 2 wr w.heap.size (some ⟨w.heap.size, 0, none⟩) n n (xs.take k ++ List.replicate (n - k) 0) ∧ Below w.heap.size w wr) (fun i _ => n - (intOf i).toNat)
  case atStart => exact ⟨0, Nat.zero_le _, rfl, by simpa using hown, hb1⟩
  case round =>
    obtain ⟨k, hk, rfl, ho, hb⟩ := hrel
    by_cases hlt : k < n
    · obtain ⟨b, off, x, rfl, hbs, hx, hcx⟩ := h.at_ hlt
      have hc1 : wr.cell? ⟨b, off + k, none⟩ = some (.int .i64 x) := (hb.cell (p := ⟨b, off + k, none⟩) hbs).trans hcx
      have hf : wr.frozen? ⟨w.heap.size, k, none⟩ = false := ho.frozen k
      obtain ⟨u, hu⟩ : ∃ u, (xs.take k ++ List.replicate (n - k) 0)[k]? = some u := ⟨_, List.getElem?_eq_getElem (by have := h.1; simp; omega)⟩
      have hc2 : wr.cell? ⟨w.heap.size, k, none⟩ = some (.int .i64 u) := ho.cell hu
      have ho2 := ho.set_ k x
      rw [take_set_next xs _ k x hx (by have := h.1; simp; omega)] at ho2
      have hb2 := hb.setCell (p := ⟨w.heap.size, k, none⟩) (Nat.le_refl _) (.int .i64 x)
      have HX : Hid (xs[k]? = some x) := Lib.hid hx
      have HU : Hid ((xs.take k ++ List.replicate (n - k) 0)[k]? = some u) := Lib.hid hu
      clear hx hu hcx
      go_wp2
      go_roundw
      case rel => exact ⟨k + 1, by omega, by go_num, by have e : (List.replicate (n - k) (0 : Int)).drop 1 = List.replicate (n - (k + 1)) 0 := by { rw [List.drop_replicate]; congr 1 }
                                                        rw [← e]; exact ho2, hb2⟩
      case measure => simp [intOf]; omega
    · obtain rfl : k = n := by omega
      go_wp2
      go_ret
      refine ⟨_, rfl, ?_, hb⟩
      have e : xs.take k ++ List.replicate (k - k) 0 = xs := by rw [Nat.sub_self, List.replicate_zero, List.append_nil]; exact List.take_of_length_le (by have := h.1; omega)
      rw [← e]; exact ho
set_option maxHeartbeats 400000 in
/-- Two slices with the same numbers are found equal. -/
theorem eq_true (A B : Option Addr) (n c d : Nat) (xs : List Int) (w : World) (h : Rd w A n xs) (h2 : Rd w B n xs) (hn : n ≤ 9223372036854775807) :
    Calls Try.prog 7 #[.slice A n c, .slice B n d] w fun e w' => e = .returned (.bool true) ∧ Below w.heap.size w w' := by
  go_enter Try.func7, Try.ntmps7
  go_wp2
  go_loopw [5] (fun i wr => ∃ k : Nat, k ≤ n ∧ i = .int .i64 k ∧ Below w.heap.size w wr) (fun i _ => n - (intOf i).toNat)
  case atStart => exact ⟨0, Nat.zero_le _, rfl, Below.refl _ _⟩
  case round =>
    obtain ⟨k, hk, rfl, hb⟩ := hrel
    by_cases hlt : k < n
    · obtain ⟨b, off, x, rfl, hbs, hx, hcx⟩ := h.at_ hlt
      obtain ⟨b2, off2, x2, rfl, hbs2, hx2, hcx2⟩ := h2.at_ hlt
      obtain rfl : x2 = x := by rw [hx] at hx2; injection hx2 with e; exact e.symm
      have hc1 : wr.cell? ⟨b, off + k, none⟩ = some (.int .i64 x2) := (hb.cell (p := ⟨b, off + k, none⟩) hbs).trans hcx
      have hc2 : wr.cell? ⟨b2, off2 + k, none⟩ = some (.int .i64 x2) := (hb.cell (p := ⟨b2, off2 + k, none⟩) hbs2).trans hcx2
      clear hx hx2 hcx hcx2 h h2
      go_wp2
      go_quiet (fail)
      go_wp2
      go_roundw
      case rel => exact ⟨k + 1, by omega, by go_num, by first | exact below_drewN hb _ | exact hb.drew⟩
      case measure => simp [intOf]; omega
    · obtain rfl : k = n := by omega
      go_wp2
      go_ret
      exact ⟨rfl, hb⟩
/-- A maker of a list: its own slice of elements of type E that holds xs; nothing else is turned. -/
def MakesE (E : TypeId) (w : World) (n : Nat) (xs : List Int) (e : Ending) (w' : World) : Prop :=
  ∃ A c, e = .returned (.slice A n c) ∧ Own E w' w.heap.size A n c xs ∧ Below w.heap.size w w'
theorem rd_news {w : World} {b off n : Nat} {xs : List Int} (h : Rd w (some ⟨b, off, none⟩) n xs) (hn : 0 < n) :
    ∀ j u, (xs.map (Value.int .i64))[j]? = some u → w.cell? ((⟨b, off, none⟩ : Addr).add j) = some u := by
  intro j u hu
  obtain ⟨b', off', e, hb, hc⟩ := h.2 hn
  injection e with e
  injection e with e1 e2
  subst e1 e2
  rw [List.getElem?_map] at hu
  cases hx : xs[j]? with
  | none => rw [hx] at hu; cases hu
  | some x =>
    rw [hx] at hu
    injection hu with hu
    subst hu
    have e : (⟨b, off, none⟩ : Addr).add j = ⟨b, off + j, none⟩ := by
      unfold Addr.add
      by_cases h0 : j = 0 <;> simp [h0]
    rw [e]; exact hc j x hx
/-- The numbers k, k + 1 .. of n marks. -/
def marks (k n : Nat) : List Int := (List.range n).map fun i => ((k + i : Nat) : Int)
theorem marks_len (k n : Nat) : (marks k n).length = n := by simp [marks]
theorem marks_at (k n t : Nat) (h : t < n) : (marks k n)[t]? = some ((k + t : Nat) : Int) := by simp [marks, h]
theorem marks_next (xs : List Int) (k t : Nat) (h : t < xs.length) : (marks k t ++ xs.drop t).set t ((k + t : Nat) : Int) = marks k (t + 1) ++ xs.drop (t + 1) := by
  rw [List.set_append, if_neg (by rw [marks_len]; omega), marks_len, Nat.sub_self, List.drop_eq_getElem_cons h, List.set_cons_zero]
  unfold marks
  rw [List.range_succ]; simp
set_option maxHeartbeats 400000 in
theorem mark_any (E B : Nat) (A : Option Addr) (n c k : Nat) (xs : List Int) (w : World) (h : Own E w B A n c xs) (hn : n ≤ 1048576) (hk : k ≤ 1073741824) :
    Calls Try.prog 8 #[.slice A n c, .int .i64 (k : Int)] w fun e w' => e = .returned (.int .i64 ((k + n : Nat) : Int)) ∧ Own E w' B A n c (marks k n) ∧ w.grownBy w' (A.map (·.block)) := by
  go_enter Try.func8, Try.ntmps8
  go_wp2
  go_loopw [1, 5] (fun q i wr => ∃ t : Nat, t ≤ n ∧ i = .int .i64 t ∧ q = .int .i64 ((k + t : Nat) : Int) ∧ Own E wr B A n c (marks k t ++ xs.drop t) ∧ w.grownBy wr (A.map (·.block))) (fun _ i _ => n - (intOf i).toNat)
  case atStart => exact ⟨0, Nat.zero_le _, rfl, rfl, h, World.grownBy.refl _ _⟩
  case round =>
    obtain ⟨t, ht, rfl, rfl, ho, hg⟩ := hrel
    by_cases hlt : t < n
    · obtain ⟨g, rfl, hgB, hgl⟩ := ho.form (by omega)
      have hf : wr.frozen? ⟨g, t, none⟩ = false := ho.frozen t
      have hlen : t < xs.length := by have := h.len; omega
      obtain ⟨u, hu⟩ : ∃ u, (marks k t ++ xs.drop t)[t]? = some u := ⟨_, List.getElem?_eq_getElem (by simp [marks_len]; omega)⟩
      have hc2 : wr.cell? ⟨g, t, none⟩ = some (.int .i64 u) := ho.cell hu
      have ho2 := ho.set_ t ((k + t : Nat) : Int)
      rw [marks_next xs k t hlen] at ho2
      have hg2 : w.grownBy (wr.setCell ⟨g, t, none⟩ (.int .i64 ((k + t : Nat) : Int))) (some g) := grown_set hg t _
      have HU := Lib.hid hu
      clear hu
      go_wp2
      go_roundw
      case rel => exact ⟨t + 1, by omega, by go_num, by go_num, ho2, hg2⟩
      case measure => simp [intOf]; omega
    · obtain rfl : t = n := by omega
      have e : marks k t ++ xs.drop t = marks k t := by rw [List.drop_of_length_le (by have := h.len; omega), List.append_nil]
      rw [e] at ho
      clear e
      go_wp2
      go_ret
      exact ⟨rfl, ho, hg⟩
set_option maxHeartbeats 400000 in
theorem held_any (A : Option Addr) (n c k : Nat) (w : World) (h : Rd w A n (marks k n)) (hn : n ≤ 1048576) (hk : k ≤ 1073741824) :
    Calls Try.prog 9 #[.slice A n c, .int .i64 (k : Int)] w fun e w' => e = .returned (.int .i64 ((k + n : Nat) : Int)) ∧ w = w' := by
  go_enter Try.func9, Try.ntmps9
  go_wp2
  go_loop [1, 5] (fun q i => ∃ t : Nat, t ≤ n ∧ i = .int .i64 t ∧ q = .int .i64 ((k + t : Nat) : Int)) (fun _ i => n - (intOf i).toNat)
  case atStart => exact ⟨0, Nat.zero_le _, rfl, rfl⟩
  case round =>
    obtain ⟨t, ht, rfl, rfl⟩ := hrel
    by_cases hlt : t < n
    · obtain ⟨b, off, x, rfl, hbs, hx, hcx⟩ := h.at_ hlt
      rw [marks_at k n t hlt] at hx
      injection hx with hx
      subst hx
      go_wp2
      go_round
      case rel => exact ⟨t + 1, by omega, by go_num, by go_num⟩
      case measure => simp [intOf]; omega
    · obtain rfl : t = n := by omega
      go_wp2
      go_ret
      exact ⟨rfl, rfl⟩
def AnsPost (w : World) (ys : List Int) (code : Int) (e : Ending) (w' : World) : Prop :=
  ∃ A c, e = .returned (.tuple #[.slice A ys.length c, .int .i64 code]) ∧ Own 2 w' w.heap.size A ys.length c ys ∧ Below w.heap.size w w'
theorem ans_yes {w w' : World} {A : Option Addr} {n c : Nat} {ys : List Int} (hl : ys.length = n) (ho : Own 2 w' w.heap.size A n c ys) (hb : Below w.heap.size w w') : AnsPost w ys 0 (.returned (.tuple #[.slice A n c, .int .i64 0])) w' := by
  subst hl; exact ⟨A, c, rfl, ho, hb⟩
theorem ans_no {w w' : World} (code : Int) (hb : Below w.heap.size w w') : AnsPost w [] code (.returned (.tuple #[.slice none 0 0, .int .i64 code])) w' := ⟨none, 0, rfl, Own.nil _ _ _, hb⟩
def idxB (p : Int → Bool) (xs : List Int) : Int := match xs.findIdx? p with | some k => (k : Int) | none => -1
theorem idxB_none (p : Int → Bool) (xs : List Int) (h : ∀ (k : Nat) (x : Int), xs[k]? = some x → p x = false) : idxB p xs = -1 := by
  unfold idxB
  rw [List.findIdx?_eq_none_iff.2]
  intro x hx
  obtain ⟨k, hk⟩ := List.mem_iff_getElem?.1 hx
  exact h k x hk
theorem idxB_some (p : Int → Bool) (xs : List Int) (k : Nat) (x : Int) (hx : xs[k]? = some x) (hp : p x = true) (h : ∀ j y, j < k → xs[j]? = some y → p y = false) : idxB p xs = (k : Int) := by
  unfold idxB
  have hk : k < xs.length := by
    rcases Nat.lt_or_ge k xs.length with h9 | h9
    · exact h9
    · rw [List.getElem?_eq_none h9] at hx; cases hx
  have e : xs.findIdx? p = some k := by
    rw [List.findIdx?_eq_some_iff_getElem]
    refine ⟨hk, ?_, fun j hj => ?_⟩
    · rw [List.getElem?_eq_getElem hk] at hx; injection hx with hx; rw [hx]; exact hp
    · have := h j (xs[j]'(by omega)) hj (List.getElem?_eq_getElem (by omega))
      rw [this]; decide
  rw [e]
theorem idxB_any (p : Int → Bool) (xs : List Int) : decide (0 ≤ idxB p xs) = xs.any p := by
  unfold idxB
  cases e : xs.findIdx? p with
  | none =>
    rw [List.findIdx?_eq_none_iff] at e
    symm
    show _ = decide ((0 : Int) ≤ -1)
    rw [decide_eq_false (by omega), List.any_eq_false]
    intro x hx; rw [e x hx]; decide
  | some k =>
    rw [List.findIdx?_eq_some_iff_getElem] at e
    obtain ⟨hk, hp, _⟩ := e
    show decide ((0 : Int) ≤ (k : Int)) = _
    rw [decide_eq_true (by omega)]
    symm
    rw [List.any_eq_true]
    exact ⟨_, List.getElem_mem hk, hp⟩
set_option maxHeartbeats 800000 in
theorem indexFuncI_any (p : Int → Bool) (f : FuncId) (lb : Array Value) (A : Option Addr) (n c : Nat) (xs : List Int) (w : World) (h : Rd w A n xs) (hn : n ≤ 1048576)
    (eg : ∀ args w, (callFunc f args).run Try.prog w = .ok (.enter f args) w)
    (hp : ∀ x, x ∈ xs → Calls Try.prog f (#[.int .i64 x] ++ lb) w fun e w' => e = .returned (.bool (p x)) ∧ w = w') :
    Calls Try.prog 15 #[.slice A n c, .func (.func f) #[] lb] w fun e w' => e = .returned (.int .i64 (idxB p xs)) ∧ w = w' := by
  have HP := Lib.hid hp
  have HL := Lib.hid h.1
  clear hp
  go_enter Try.func15, Try.ntmps15
  go_wp2
  go_loop [8] (fun q => ∃ k : Nat, k ≤ n ∧ q = .int .i64 k ∧ ∀ j y, j < k → xs[j]? = some y → p y = false) (fun q => n - (intOf q).toNat)
  case atStart => exact ⟨0, Nat.zero_le _, rfl, fun j y hj => absurd hj (Nat.not_lt_zero _)⟩
  case round =>
    obtain ⟨k, hk, rfl, hall⟩ := hrel
    have HA := Lib.hid hall
    clear hall
    by_cases hlt : k < n
    · obtain ⟨b, off, x, rfl, hbs, hx, hcx⟩ := h.at_ hlt
      have HC := Lib.hid (HP.out x (List.mem_of_getElem? hx))
      have HX := Lib.hid hx
      clear hx
      cases hpx : p x
      · have HF := Lib.hid hpx
        clear hpx
        go_wp2_with fail
        refine HC.out.mono ?_
        rintro e w' ⟨rfl, rfl⟩
        rw [HF.out]
        go_wp2
        go_round
        case rel => exact ⟨k + 1, by omega, by go_num, fun j y hj hy => by
          by_cases e : j = k
          · subst e
            have := HX.out
            rw [hy] at this
            injection this with this
            rw [this]; exact HF.out
          · exact HA.out j y (by omega) hy⟩
        case measure => simp [intOf]; omega
      · have HF := Lib.hid hpx
        clear hpx
        go_wp2_with fail
        refine HC.out.mono ?_
        rintro e w' ⟨rfl, rfl⟩
        rw [HF.out]
        go_wp2
        go_ret
        exact ⟨ret_i _ _ (idxB_some p xs k x HX.out HF.out HA.out).symm, rfl⟩
    · obtain rfl : k = n := by omega
      go_wp2
      go_ret
      refine ⟨ret_i _ _ (idxB_none p xs fun j x hx => HA.out j x ?_ hx).symm, rfl⟩
      rcases Nat.lt_or_ge j k with h9 | h9
      · exact h9
      · rw [List.getElem?_eq_none (by rw [HL.out]; exact h9)] at hx; cases hx
theorem containsFuncI_any (p : Int → Bool) (f : FuncId) (lb : Array Value) (A : Option Addr) (n c : Nat) (xs : List Int) (w : World) (h : Rd w A n xs) (hn : n ≤ 1048576)
    (eg : ∀ args w, (callFunc f args).run Try.prog w = .ok (.enter f args) w)
    (hp : ∀ x, x ∈ xs → Calls Try.prog f (#[.int .i64 x] ++ lb) w fun e w' => e = .returned (.bool (p x)) ∧ w = w') :
    Calls Try.prog 13 #[.slice A n c, .func (.func f) #[] lb] w fun e w' => e = .returned (.bool (xs.any p)) ∧ w = w' := by
  have HI := Lib.hid (indexFuncI_any p f lb A n c xs w h hn eg hp)
  have HE := Lib.hid (idxB_any p xs)
  obtain ⟨I, hI⟩ : ∃ I, I = idxB p xs := ⟨_, rfl⟩
  rw [← hI] at HI HE
  clear hp hI
  go_enter Try.func13, Try.ntmps13
  go_wp2_with fail
  refine HI.out.mono ?_
  rintro e w' ⟨rfl, rfl⟩
  go_wp2
  go_ret
  exact ⟨ret_b _ _ HE.out, rfl⟩
end Go.Proofs.Ytkifadmoedackaa
