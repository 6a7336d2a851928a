/-
  slices.Backward over numbers: the iterator's contract.
-/
import Derived.RangeFuncBox
import Derived.RangeFuncLeaves
import Derived.RangeFuncWrites
import Derived.RangeFuncNested
import Derived.Shelf.Abstract
import Derived.WalkKit
import Derived.OwnWalkIn
import Derived.TacticsInMore
import Derived.LoopNIn
import Derived.LoopIn
import Derived.Test.YtdafdffmkjhhcaaDoorGrP
namespace Go.Proofs.YtdafdffmkjhhcaaDoor
open Go Go.RowKit Go.Shelf
set_option linter.unusedVariables false
set_option linter.unusedSimpArgs false
set_option maxRecDepth 100000
attribute [local go_sem] Oper.semAt_some

/-- All blocks below n₀ but one lie as they lay. -/
structure KpO (n₀ bw : Nat) (W W' : World) : Prop where
  size : W.heap.size ≤ W'.heap.size
  same : ∀ k, k < n₀ → k ≠ bw → W'.heap[k]? = W.heap[k]?
theorem KpO.refl (n₀ bw : Nat) (W : World) : KpO n₀ bw W W := ⟨Nat.le_refl _, fun _ _ _ => rfl⟩
theorem KpO.trans {n₀ bw : Nat} {A B C : World} (h : KpO n₀ bw A B) (k : KpO n₀ bw B C) : KpO n₀ bw A C := ⟨Nat.le_trans h.size k.size, fun i h1 h2 => (k.same i h1 h2).trans (h.same i h1 h2)⟩
theorem KpO.cell {n₀ bw : Nat} {A B : World} (h : KpO n₀ bw A B) {p : Addr} (h1 : p.block < n₀) (h2 : p.block ≠ bw) : B.cell? p = A.cell? p := by
  unfold World.cell?; rw [h.same _ h1 h2]
theorem kpO_b {n₀ bw : Nat} {w : World} (hn : n₀ ≤ w.heap.size) (W : World) (l : Nat) (o o' : Obj) (hl : w.heap.size ≤ l) (h : W.heap[l]? = some o) (_ : o.isCells = false) (_ : o.isWalk = false) : KpO n₀ bw W (W.putObj l o') :=
  ⟨by simp, fun k h1 _ => World.putObj_heap_other (by omega)⟩
/-- An index and a number of a word of letters less than N. -/
abbrev Bk (N : Nat) := { x : Nat × Nat // x.2 < N }
def bkEnc (N : Nat) (x : Bk N) : Array Value := #[.int .i64 (x.1.1 : Int), .int .i64 (x.1.2 : Int)]
def bkL (N : Nat) : (ws : List Nat) → (∀ x, x ∈ ws → x < N) → Nat → List (Bk N)
  | [], _, _ => []
  | a :: ws, h, k => bkL N ws (fun x hx => h x (List.mem_cons_of_mem _ hx)) (k + 1) ++ [⟨(k, a), h a List.mem_cons_self⟩]
theorem bkL_len (N : Nat) : ∀ (ws : List Nat) (h : ∀ x, x ∈ ws → x < N) (k : Nat), (bkL N ws h k).length = ws.length
  | [], _, _ => rfl
  | a :: ws, h, k => by unfold bkL; rw [List.length_append, bkL_len N ws]; rfl
theorem bkL_vals (N : Nat) : ∀ (ws : List Nat) (h : ∀ x, x ∈ ws → x < N) (k : Nat), (bkL N ws h k).map (fun x => x.1.2) = ws.reverse
  | [], _, _ => rfl
  | a :: ws, h, k => by unfold bkL; rw [List.map_append, bkL_vals N ws, List.reverse_cons]; rfl
theorem bkL_at (N : Nat) : ∀ (ws : List Nat) (h : ∀ x, x ∈ ws → x < N) (k j : Nat) (x : Bk N), (bkL N ws h k)[j]? = some x → x.1.1 = k + (ws.length - 1 - j) ∧ j < ws.length ∧ ws[ws.length - 1 - j]? = some x.1.2
  | [], _, _, _, _, hx => by simp [bkL] at hx
  | a :: ws, h, k, j, x, hx => by
    unfold bkL at hx
    have hl := bkL_len N ws (fun x hx => h x (List.mem_cons_of_mem _ hx)) (k + 1)
    rcases Nat.lt_or_ge j ws.length with h1 | h1
    · rw [List.getElem?_append_left (by omega)] at hx
      obtain ⟨e1, e2, e3⟩ := bkL_at N ws _ (k + 1) j x hx
      simp only [List.length_cons]
      refine ⟨by omega, by omega, ?_⟩
      rw [show ws.length + 1 - 1 - j = (ws.length - 1 - j) + 1 by omega, List.getElem?_cons_succ]; exact e3
    · rw [List.getElem?_append_right (by omega), hl] at hx
      have hj : j = ws.length := by
        rcases Nat.lt_or_ge ws.length j with h2 | h2
        · have : (j - ws.length) ≠ 0 := by omega
          obtain ⟨q, hq⟩ := Nat.exists_eq_succ_of_ne_zero this
          rw [hq] at hx; simp at hx
        · omega
      subst hj
      rw [Nat.sub_self] at hx
      simp at hx
      subst hx
      simp only [List.length_cons]
      refine ⟨by omega, by omega, ?_⟩
      rw [show ws.length + 1 - 1 - ws.length = 0 by omega]; rfl
set_option maxHeartbeats 2000000 in
theorem back1_in (F : Fence) (n : Nat) (hf : F.fn 177) (hro : F.round = none) (hn : 1 ≤ n) (l Bs n₀ bw len cap N : Nat) (A : Option Addr) (L : List (Bk N)) (hlen : len ≤ 1048576) (hL : L.length = len)
    (hBs0 : Bs < n₀) (hBw : Bs ≠ bw) (J Jx : List (Bk N) → World → Prop)
    (hY : ∀ pre x W, J pre W → pre.length < len → YieldAt F (n - 1) Tryd.prog l (bkEnc N x) W fun e W' =>
      (e = .returned (.bool true) ∧ J (pre ++ [x]) W' ∧ KpO n₀ bw W W') ∨ (e = .returned (.bool false) ∧ Jx (pre ++ [x]) W'))
    (W : World) (hBs : W.cell? ⟨Bs, 0, none⟩ = some (.slice A len cap))
    (hc : 0 < len → ∃ b off, A = some ⟨b, off, none⟩ ∧ b < n₀ ∧ b ≠ bw ∧ ∀ j x, L[j]? = some x → x.1.1 = len - 1 - j ∧ W.cell? ⟨b, off + (len - 1 - j), none⟩ = some (.int .i64 (x.1.2 : Int))) (h0 : J [] W) :
    CallsIn F n Tryd.prog 177 #[.func (.yield l) #[] #[], .pointer (some ⟨Bs, 0, none⟩)] W fun e W' => (∃ v, e = .returned v) ∧
      ((∃ ys, ys = L ∧ J ys W') ∨ (∃ pre, True ∧ Jx pre W')) := by
  have HLL := Lib.hid hL
  clear hL
  refine callsIn_of_wp Tryd.func177 rfl hf ?_ hro
  simp only [Tryd.ntmps177, List.size_toArray, List.length_cons, List.length_nil, Nat.reduceAdd, Nat.reduceSub, Array.replicate_succ, Array.replicate_zero, List.push_toArray, List.append_toArray, List.nil_append, List.cons_append]
  gi_wp2
  gi_loopw [3] (fun i wr => ∃ k : Nat, k ≤ len ∧ i = .int .i64 ((len : Int) - 1 - (k : Int)) ∧ J (L.take k) wr ∧ KpO n₀ bw W wr)
    (fun i _ => (intOf i + 1).toNat)
  case atStart => exact ⟨0, Nat.zero_le _, by simp, by simpa using h0, KpO.refl _ _ _⟩
  case round =>
    obtain ⟨k, hk, rfl, hJs, hnx⟩ := hrel
    have hBs' : wr.cell? ⟨Bs, 0, none⟩ = some (.slice A len cap) := (hnx.cell (p := ⟨Bs, 0, none⟩) hBs0 hBw).trans hBs
    by_cases hlt : k < len
    · obtain ⟨q, hq⟩ : ∃ q, q = len - 1 - k := ⟨_, rfl⟩
      have hqe : (len : Int) - 1 - (k : Int) = (q : Int) := by omega
      have hqn : q < len := by omega
      obtain ⟨x, hx⟩ : ∃ x, L[k]? = some x := ⟨_, List.getElem?_eq_getElem (by rw [HLL.out]; exact hlt)⟩
      obtain ⟨b, off, rfl, hbn, hbb, hcc⟩ := hc (by omega)
      obtain ⟨hx1, hxc⟩ := hcc k x hx
      rw [← hq] at hx1 hxc
      obtain ⟨fn, tmps, assign, body, hy, hR⟩ := hY (L.take k) x wr hJs (by rw [List.length_take, HLL.out]; omega)
      have hy' : (Instr.yield l #[.int .i64 (q : Int), .int .i64 (x.1.2 : Int)]).run Tryd.prog wr = .ok (.round l fn tmps assign body) wr := by rw [← hx1]; exact hy
      have hcx' : wr.cell? ⟨b, off + q, none⟩ = some (.int .i64 (x.1.2 : Int)) := (hnx.cell (p := ⟨b, off + q, none⟩) hbn hbb).trans hxc
      have HX := Lib.hid hx
      rw [hqe]
      have hq0 : (0 : Int) ≤ (q : Int) := Int.natCast_nonneg _
      have HQ := Lib.hid hq
      have HQE := Lib.hid hqe
      clear hx hx1 hxc hcc hc hq hqe hy
      gi_wp2
      refine hR.mono ?_
      rintro e W3 (⟨rfl, hJ3, hk3⟩ | ⟨rfl, hJx3⟩)
      · gi_wp2
        go_roundw
        case rel => exact ⟨k + 1, by omega, by (have := HQ.out; go_num), by rw [List.take_add_one, HX.out]; exact hJ3, hnx.trans hk3⟩
        case measure => simp [intOf] <;> omega
      · gi_wp2
        refine bodyPost_ret (results_none rfl _ _ _) rfl ?_
        exact ⟨⟨_, rfl⟩, .inr ⟨_, trivial, hJx3⟩⟩
    · obtain rfl : k = len := by omega
      gi_wp2
      go_end0
      exact ⟨⟨_, rfl⟩, .inl ⟨_, rfl, by rw [List.take_of_length_le (by rw [HLL.out]; exact Nat.le_refl _)] at hJs; exact hJs⟩⟩
theorem back_stops (F : Fence) (n : Nat) (hf : F.fn 177) (hro : F.round = none) (hn : 1 ≤ n) (Bs n₀ bw len cap N : Nat) (A : Option Addr) (ws : List Nat) (hw : ∀ x, x ∈ ws → x < N) (hlen : len ≤ 1048576) (w : World) (hBsw : Bs < w.heap.size) (hBs0 : Bs < n₀) (hBw : Bs ≠ bw) (hn₀ : n₀ ≤ w.heap.size)
    (hBs : w.cell? ⟨Bs, 0, none⟩ = some (.slice A len cap)) (hr : Rd w A len (ints ws)) (hA : ∀ k, A.map (·.block) = some k → k < n₀ ∧ k ≠ bw) :
    SeqStopsK F n Tryd.prog 177 #[.pointer (some ⟨Bs, 0, none⟩)] (bkEnc N) (KpO n₀ bw) (fun ys => ys.map (fun x => x.1.2) = ws.reverse) (fun _ => True) len w := fun l J Jx W hW _ _ hY h0 => by
  have hwl : ws.length = len := by have := hr.1; rw [ints_len] at this; exact this
  have hr' := hr.below hW
  refine (back1_in F n hf hro hn l Bs n₀ bw len cap N A (bkL N ws hw 0) hlen (by rw [bkL_len]; exact hwl) hBs0 hBw J Jx hY W ((hW.cell (p := ⟨Bs, 0, none⟩) hBsw).trans hBs) (fun h9 => ?_) h0).mono ?_
  · obtain ⟨b, off, e, _, hcx⟩ := hr'.2 h9
    refine ⟨b, off, e, (hA b (by rw [e]; rfl)).1, (hA b (by rw [e]; rfl)).2, fun j x hx => ?_⟩
    obtain ⟨e1, e2, e3⟩ := bkL_at N ws hw 0 j x hx
    rw [hwl] at e1 e3
    refine ⟨by omega, hcx _ _ ?_⟩
    unfold ints; rw [List.getElem?_map, e3]; rfl
  · rintro e W' ⟨he, ⟨ys, rfl, hj⟩ | ⟨pre, _, hj⟩⟩
    · exact ⟨he, .inl ⟨_, bkL_vals N ws hw 0, hj⟩⟩
    · exact ⟨he, .inr ⟨_, trivial, hj⟩⟩
theorem backward_any (A : Option Addr) (n c : Nat) (w : World) :
    Calls Tryd.prog 159 #[.slice A n c] w fun e w' => e = .returned (.func (.func 177) #[] #[.pointer (some ⟨w.heap.size, 0, none⟩)]) ∧ w' = w.alloc (.cells #[.slice A n c] 22) := by
  go_enter Tryd.func159, Tryd.ntmps159
  go_wp2
  go_ret
  exact ⟨rfl, rfl⟩
end Go.Proofs.YtdafdffmkjhhcaaDoor
