/-
  The laws' dice by contracts: what is thrown lies in its range; nothing else is turned.
-/
import Derived.Test.YtfcipdojgkamgaaDoorComp
import Derived.Deep.QuietTactic
import Derived.BigQuiet
namespace Go.Proofs.YtfcipdojgkamgaaDoor
open Go.RowKit
set_option linter.unusedVariables false
set_option maxRecDepth 100000

/-- The slice value '.slice A n _' reads as the bytes bs. -/
def RdB (w : World) (A : Option Addr) (n : Nat) (bs : List Int) : Prop :=
  bs.length = n ∧ (0 < n → ∃ b off, A = some ⟨b, off, none⟩ ∧ b < w.heap.size ∧ ∀ j x, bs[j]? = some x → w.cell? ⟨b, off + j, none⟩ = some (.int .u8 x))
def WfB (bs : List Int) : Prop := ∀ x ∈ bs, 0 ≤ x ∧ x ≤ 255
theorem RdB.at_ {w : World} {A : Option Addr} {n : Nat} {xs : List Int} (h : RdB w A n xs) (hw : WfB xs) {k : Nat} (hk : k < n) :
    ∃ b off x, A = some ⟨b, off, none⟩ ∧ b < w.heap.size ∧ (0 ≤ x ∧ x ≤ 255) ∧ w.cell? ⟨b, off + k, none⟩ = some (.int .u8 x) := by
  obtain ⟨b, off, e, hb, hc⟩ := h.2 (by omega)
  have hl : k < xs.length := by have := h.1; omega
  exact ⟨b, off, xs[k], e, hb, hw _ (List.getElem_mem hl), hc k _ (List.getElem?_eq_getElem hl)⟩
theorem RdB.keep {w w' : World} {A : Option Addr} {n : Nat} {xs : List Int} (h : RdB w A n xs) (hs : w.heap.size ≤ w'.heap.size) (hk : ∀ p : Addr, p.block < w.heap.size → w'.cell? p = w.cell? p) : RdB w' A n xs :=
  ⟨h.1, fun hn => by
    obtain ⟨b, off, e, hb, hc⟩ := h.2 hn
    exact ⟨b, off, e, by omega, fun j x hx => (hk ⟨b, off + j, none⟩ hb).trans (hc j x hx)⟩⟩
theorem RdB.below {w w' : World} {A : Option Addr} {n : Nat} {xs : List Int} (h : RdB w A n xs) (hb : Below w.heap.size w w') : RdB w' A n xs :=
  h.keep hb.size fun _ hp => hb.cell hp
theorem rdB_of_row {w : World} {a : Option Addr} {len cap : Nat} {zs : List Int}
    (h : (a = none ∧ len = 0 ∧ cap = 0 ∧ zs = []) ∨ ∃ x, a = some x ∧ len ≤ cap ∧ cap ≤ maxLen ∧ zs.length = cap ∧ (∀ i, i < zs.length → w.cell? (x.add i) = some (.int .u8 (zs.getD i 0))) ∧ ∀ n ∈ zs, (Lit.int .u8 n).wf = true) :
    ∃ xs, RdB w a len xs ∧ WfB xs ∧ len ≤ maxLen := by
  rcases h with ⟨rfl, rfl, rfl, rfl⟩ | ⟨x, rfl, hl, hm, hz, hcell, hwz⟩
  · exact ⟨[], ⟨rfl, fun h => absurd h (by omega)⟩, fun x hx => (by cases hx), Nat.zero_le _⟩
  · refine ⟨zs.take len, ⟨by rw [List.length_take]; omega, fun hn => ?_⟩, fun y hy => bounds_u8 (hwz y (List.mem_of_mem_take hy)), by omega⟩
    obtain ⟨b, off, spot⟩ := x
    have hc := hcell 0 (by omega)
    have hspot : spot = none := by simpa [Addr.add] using World.cell?_spot hc
    subst hspot
    have hc0 : w.cell? ⟨b, off, none⟩ = some (.int .u8 (zs.getD 0 0)) := by simpa [Addr.add] using hc
    refine ⟨b, off, rfl, block_lt_of_cell hc0, fun j y hy => ?_⟩
    have hj : j < len := by
      rcases Nat.lt_or_ge j len with h | h
      · exact h
      · rw [List.getElem?_eq_none (by rw [List.length_take]; omega)] at hy; cases hy
    have hc := hcell j (by omega)
    have e : (⟨b, off, none⟩ : Addr).add j = ⟨b, off + j, none⟩ := by
      unfold Addr.add
      by_cases h0 : j = 0 <;> simp [h0]
    rw [e] at hc
    rw [hc]
    rw [List.getElem?_take_of_lt hj] at hy
    rw [List.getD_eq_getElem?_getD, hy]; rfl

/-- The dice lies in block g: its bytes, how many are used, its state. -/
def Dice (w : World) (B g : Nat) (A : Option Addr) (n c : Nat) (bs : List Int) : Prop :=
  B ≤ g ∧ RdB w A n bs ∧ (∀ b, 0 < n → A.map (·.block) = some b → b < B) ∧ ∃ i h : Nat, i ≤ n ∧ h < 18446744073709551616 ∧ w.heap[g]? = some (.cells #[.slice A n c, .int .i64 (i : Int), .int .u64 (h : Int)] 65 (0, 0))
theorem cells3 {w : World} {g : Nat} {a b c : Value} {T : TypeId} (h : w.heap[g]? = some (.cells #[a, b, c] T (0, 0))) :
    w.cell? ⟨g, 0, none⟩ = some a ∧ w.cell? ⟨g, 1, none⟩ = some b ∧ w.cell? ⟨g, 2, none⟩ = some c ∧ (∀ k, w.frozen? ⟨g, k, none⟩ = false) := by
  refine ⟨?_, ?_, ?_, fun k => ?_⟩
  · simp [World.cell?, h]
  · simp [World.cell?, h]
  · simp [World.cell?, h]
  · simp [World.frozen?, h]
def andff (y : Int) : Nat := (BitVec.ofInt 64 y).toNat &&& 16777215
theorem andff_le (y : Int) : andff y ≤ 16777215 := Nat.and_le_right
theorem and_ff (y : Int) : bits .and .u64 y 16777215 = ((andff y : Nat) : Int) := by
  have hx := andff_le y
  show IntKind.u64.wrap ((BitVec.ofInt 64 y &&& BitVec.ofInt 64 16777215).toNat : Int) = _
  rw [BitVec.toNat_and]
  have e : (BitVec.ofInt 64 16777215).toNat = 16777215 := by decide
  rw [e]; show IntKind.u64.wrap ((andff y : Nat) : Int) = _
  rw [IntKind.wrap_u64]; omega
theorem u64_some (y : Int) : ∃ H : Nat, H < 18446744073709551616 ∧ IntKind.u64.wrap y = (H : Int) := by
  refine ⟨(y % 18446744073709551616).toNat, by omega, ?_⟩
  rw [IntKind.wrap_u64]; omega
theorem and_some (y : Int) : ∃ X : Nat, X ≤ 16777215 ∧ bits .and .u64 y 16777215 = (X : Int) := ⟨andff y, andff_le y, and_ff y⟩
theorem heap_set {w : World} {g k : Nat} {cs : Array Value} {T : TypeId} (h : w.heap[g]? = some (.cells cs T (0, 0))) (v : Value) : (w.setCell ⟨g, k, none⟩ v).heap[g]? = some (.cells (cs.setIfInBounds k v) T (0, 0)) := by
  simp [World.setCell, Array.getElem?_modify, h]
theorem Dice.drewN {w : World} {B g n c : Nat} {A : Option Addr} {bs : List Int} (h : Dice w B g A n c bs) (k : Nat) : Dice (w.drewN k) B g A n c bs := h
theorem grown_drewN {w w' : World} {row : Option Nat} (h : w.grownBy w' row) (k : Nat) : w.grownBy (w'.drewN k) row := ⟨h.os, h.tape, h.output, h.size, h.block⟩
/-- The bytes stay while the dice's block is written. -/
theorem RdB.apart {w w' : World} {B g n : Nat} {A : Option Addr} {bs : List Int} (h : RdB w A n bs) (hab : ∀ b, 0 < n → A.map (·.block) = some b → b < B) (hB : B ≤ g) (hg : w.grownBy w' (some g)) : RdB w' A n bs := by
  refine ⟨h.1, fun hn => ?_⟩
  obtain ⟨b, off, e, hb, hc⟩ := h.2 hn
  refine ⟨b, off, e, by have := hg.size; omega, fun j x hx => ?_⟩
  have hbB := hab b hn (by rw [e]; rfl)
  rw [World.cell?_of_block (w := w) (hg.block b hb (by intro e2; injection e2 with e2; omega))]
  exact hc j x hx
set_option maxHeartbeats 1600000 in
theorem below_any (B g : Nat) (A : Option Addr) (n c m : Nat) (bs : List Int) (w : World) (h : Dice w B g A n c bs) (hwf : WfB bs) (hn : n ≤ 4096) (hm : 1 ≤ m) (hm2 : m ≤ 1073741824) :
    Calls Tryd.prog 39 #[.pointer (some ⟨g, 0, none⟩), .int .i64 (m : Int)] w fun e w' => ∃ r : Nat, r < m ∧ e = .returned (.int .i64 (r : Int)) ∧ Dice w' B g A n c bs ∧ w.grownBy w' (some g) := by
  obtain ⟨hBg, hrd, hab, i, hh, hi, hhh, hblk⟩ := h
  obtain ⟨hc0, hc1, hc2, hfr⟩ := cells3 hblk
  have hf1 := hfr 1
  have hf2 := hfr 2
  obtain ⟨H1, _, hk0⟩ := u64_some ((hh : Int) * 6364136223846793005)
  obtain ⟨H2, hH2, hk1⟩ := u64_some ((H1 : Int) + 1442695040888963407)
  obtain ⟨X, hX, hk2⟩ := and_some ((H2 : Int) / 8589934592)
  have hb1 := heap_set (k := 2) hblk (.int .u64 (H2 : Int))
  have hg1 := grown_set (World.grownBy.refl w (some g)) 2 (.int .u64 (H2 : Int))
  have hglt : g < w.heap.size := block_lt_of_cell hc0
  by_cases hin : i < n
  · obtain ⟨b, off, x, hA, hbs, hx, hcx⟩ := hrd.at_ hwf hin
    have hbB := hab b (by omega) (by rw [hA]; rfl)
    have hbg : b ≠ g := by omega
    have HR := Lib.hid hrd
    have HAB := Lib.hid hab
    have HBK := Lib.hid hb1
    subst hA
    have hblt : ((i : Int) < (n : Int)) := by omega
    have hcx2 : (w.setCell ⟨g, 2, none⟩ (.int .u64 (H2 : Int))).cell? ⟨b, off + i, none⟩ = some (.int .u8 x) := by
      rw [World.cell?_setCell_other w _ _ _ (fun e => by injection e with e1 _ _; omega)]; exact hcx
    obtain ⟨hd0, hd1, hd2, hdf⟩ := cells3 (w := w.setCell ⟨g, 2, none⟩ (.int .u64 (H2 : Int))) hb1
    have hdf1 := hdf 1
    clear hblk hfr hrd hab hb1 hdf
    have hfin : ((((X : Int) + x) % (m : Int)).toNat : Int) = ((X : Int) + x) % (m : Int) ∧ (((X : Int) + x) % (m : Int)).toNat < m := by
      have h1 := Int.emod_nonneg ((X : Int) + x) (show (m : Int) ≠ 0 by omega)
      have h2 := Int.emod_lt_of_pos ((X : Int) + x) (show (0 : Int) < (m : Int) by omega)
      constructor <;> omega
    have HF := Lib.hid hfin
    clear hfin
    go_enter Tryd.func39, Tryd.ntmps39
    go_wp2
    go_quiet (fail)
    go_wp2
    go_quiet (fail)
    go_wp2
    go_ret
    refine ⟨(((X : Int) + x) % (m : Int)).toNat, HF.out.2, ret_i _ _ HF.out.1.symm, ?_, ?_⟩
    · refine ⟨hBg, ?_, HAB.out, i + 1, H2, by omega, hH2, ?_⟩
      · exact HR.out.apart HAB.out hBg (grown_set (grown_drewN hg1 _) 1 _)
      · have := heap_set (w := (w.setCell ⟨g, 2, none⟩ (.int .u64 (H2 : Int))).drewN 0) (k := 1) HBK.out (.int .i64 ((i : Int) + 1))
        exact this
    · exact grown_set (grown_drewN hg1 _) 1 _
  · have hblt : ¬ ((i : Int) < (n : Int)) := by omega
    have HR := Lib.hid hrd
    have HAB := Lib.hid hab
    have HBK := Lib.hid hb1
    obtain ⟨hd0, hd1, hd2, hdf⟩ := cells3 (w := w.setCell ⟨g, 2, none⟩ (.int .u64 (H2 : Int))) hb1
    clear hblk hfr hrd hab hb1 hdf
    have hfin : (((X : Int) % (m : Int)).toNat : Int) = (X : Int) % (m : Int) ∧ ((X : Int) % (m : Int)).toNat < m := by
      have h1 := Int.emod_nonneg (X : Int) (show (m : Int) ≠ 0 by omega)
      have h2 := Int.emod_lt_of_pos (X : Int) (show (0 : Int) < (m : Int) by omega)
      constructor <;> omega
    have HF := Lib.hid hfin
    clear hfin
    go_enter Tryd.func39, Tryd.ntmps39
    go_wp2
    go_quiet (fail)
    go_wp2
    go_ret
    refine ⟨((X : Int) % (m : Int)).toNat, HF.out.2, ret_i _ _ HF.out.1.symm, ?_, ?_⟩
    · refine ⟨hBg, ?_, HAB.out, i, H2, by omega, hH2, ?_⟩
      · exact HR.out.apart HAB.out hBg (grown_drewN hg1 _)
      · exact HBK.out
    · exact grown_drewN hg1 _
theorem big_any (A : Option Addr) (n c : Nat) (w : World) :
    Calls Tryd.prog 34 #[.slice A n c] w fun e w' => e = .returned (.bool (decide ((4096 : Int) < (n : Int)))) ∧ w = w' := by
  go_enter Tryd.func34, Tryd.ntmps34
  go_wp2
  go_ret
  exact ⟨rfl, rfl⟩
set_option maxHeartbeats 1600000 in
theorem roll_any (A : Option Addr) (n c s : Nat) (bs : List Int) (w : World) (h : RdB w A n bs) (hab : ∀ b, 0 < n → A.map (·.block) = some b → b < w.heap.size) (hwf : WfB bs) (hn : n ≤ 4096) (hs : s ≤ 1000000) :
    Calls Tryd.prog 38 #[.slice A n c, .int .u64 (s : Int)] w fun e w' => ∃ g, e = .returned (.pointer (some ⟨g, 0, none⟩)) ∧ Dice w' w.heap.size g A n c bs ∧ Below w.heap.size w w' := by
  obtain ⟨H0, hH0, hk0⟩ := u64_some ((s : Int) * 7681)
  obtain ⟨H1, hH1, hk1⟩ := u64_some ((H0 : Int) + (n : Int))
  have hk2 : IntKind.u64.wrap (n : Int) = (n : Int) := IntWalk.u64_in _ (by omega)
  go_enter Tryd.func38, Tryd.ntmps38
  go_wp2
  go_loopw [6] (fun i wr => ∃ (k H : Nat), k ≤ n ∧ i = .int .i64 k ∧ H < 18446744073709551616 ∧ Hid (wr.heap[w.heap.size]? = some (.cells #[.slice A n c, .int .i64 0, .int .u64 (H : Int)] 65 (0, 0))) ∧ Below w.heap.size w wr) (fun i _ => n - (intOf i).toNat)
  case atStart => exact ⟨0, H1, Nat.zero_le _, rfl, hH1, Lib.hid (heap_alloc_new w _), (Below.refl _ _).alloc (Nat.le_refl _) _⟩
  case round =>
    obtain ⟨k, H, hk, rfl, hH, HB, hb⟩ := hrel
    obtain ⟨hc0, hc1, hc2, hfr⟩ := cells3 HB.out
    have hf2 := hfr 2
    by_cases hlt : k < n
    · obtain ⟨b, off, x, rfl, hbs, hx, hcx⟩ := (h.below hb).at_ hwf hlt
      have hbB := hab b (by omega) rfl
      obtain ⟨H3, hH3, hq0⟩ := u64_some ((H : Int) * 1099511628211)
      have hq1 : IntKind.u64.wrap x = x := IntWalk.u64_in _ (by omega)
      obtain ⟨H4, hH4, hq2⟩ := u64_some ((H3 : Int) + x)
      obtain ⟨H5, hH5, hq3⟩ := u64_some ((H4 : Int) + 5)
      have HB2 := Lib.hid (heap_set (k := 2) HB.out (.int .u64 (H5 : Int)))
      have hb2 := (hb.setCell (p := ⟨w.heap.size, 2, none⟩) (Nat.le_refl _) (.int .u64 (H5 : Int))).drew
      have hne : b ≠ w.heap.size := by omega
      clear hfr hk0 hk1 hk2
      go_wp2
      go_region
      all_goals go_wp2
      go_roundw
      case rel => exact ⟨k + 1, H5, by omega, by go_num, hH5, HB2, hb2⟩
      case measure => simp [intOf]; omega
    · obtain rfl : k = n := by omega
      clear hfr
      go_wp2
      go_ret
      exact ⟨w.heap.size, rfl, ⟨Nat.le_refl _, h.below hb, hab, 0, H, Nat.zero_le _, hH, HB.out⟩, hb⟩
end Go.Proofs.YtfcipdojgkamgaaDoor
