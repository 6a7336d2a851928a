/-
  Whether a list is a relation: the program's and the model's way, by contracts.
-/
import Derived.Test.YtmifkbmgpofjbaaDoorHelp
namespace Go.Proofs.YtmifkbmgpofjbaaDoor
open Go.RowKit
set_option linter.unusedVariables false
set_option maxRecDepth 100000

theorem p24 (n : Nat) (h : n ≤ 24) : 2 ^ n ≤ 16777216 := Nat.pow_le_pow_right (by decide) h

/-- What relationOf leaves. -/
def RelPost (w : World) (n : Nat) (xs : List Int) (e : Ending) (w' : World) : Prop :=
  (relB xs = true ∧ ∃ A c, e = .returned (.tuple #[.slice A n c, .bool true]) ∧ Own 70 w' w.heap.size A n c xs ∧ Below w.heap.size w w') ∨
  (relB xs = false ∧ e = .returned (.tuple #[.slice none 0 0, .bool false]) ∧ Below w.heap.size w w')

set_option maxHeartbeats 400000 in
theorem relationOf_any (A : Option Addr) (n c : Nat) (xs : List Int) (w : World) (h : Rd w A n xs) (hwf : Wf xs) (hn : n ≤ 9223372036854775807) :
    Calls Tryd.prog 95 #[.slice A n c] w (RelPost w n xs) := by
  by_cases h24 : n ≤ 24
  · obtain ⟨i0, hi, hz0, hz1, hz2⟩ := info_parts info_set
    have hml : n ≤ maxLen := by unfold maxLen; omega
    have hby : i0.bytes * n ≤ 281474976710656 := by rw [hz2]; omega
    go_enter Tryd.func95, Tryd.ntmps95
    go_wp2_with (first | (at_make; refine wpList_make_full _ rfl _ _ _ rfl w.heap.size 70 i0 (.int .i64 0) 1 Tryd.underlying48 hi hz0 hz1 _ _ (n : Int) (n : Int) n rfl rfl rfl rfl hby hml (Nat.le_refl _) ?_; intro w1 hown0 hg1))
    have hown : Own 70 w1 w.heap.size (some ⟨w.heap.size, 0, none⟩) n n (List.replicate n 0) := by
      unfold Own; rw [← made_int]; exact hown0
    clear hown0
    have hb1 : Below w.heap.size w w1 := (Below.refl _ _).grown hg1 (Nat.le_refl _) (by simp)
    clear hg1
    go_loopw [16] (fun i wr => ∃ k : Nat, k ≤ n ∧ i = .int .i64 k ∧ Own 70 wr w.heap.size (some ⟨w.heap.size, 0, none⟩) n n (xs.take k ++ List.replicate (n - k) 0) ∧ Below w.heap.size w wr ∧ (xs.take k).all (fun x => isMaskB x n) = true) (fun i _ => n - (intOf i).toNat)
    case atStart => exact ⟨0, Nat.zero_le _, rfl, by simpa using hown, hb1, rfl⟩
    case round =>
      obtain ⟨k, hk, rfl, ho, hb, hall⟩ := hrel
      by_cases hlt : k < n
      · obtain ⟨b, off, x, rfl, hbs, hx, hcx⟩ := h.at_ hlt
        have hc1 : wr.cell? ⟨b, off + k, none⟩ = some (.int .i64 x) := (hb.cell (p := ⟨b, off + k, none⟩) hbs).trans hcx
        have hxb := hwf.at_ hx
        have hf : wr.frozen? ⟨w.heap.size, k, none⟩ = false := ho.frozen k
        obtain ⟨u, hu⟩ : ∃ u, (xs.take k ++ List.replicate (n - k) 0)[k]? = some u := ⟨_, List.getElem?_eq_getElem (by have := h.1; simp; omega)⟩
        have hc2 : wr.cell? ⟨w.heap.size, k, none⟩ = some (.int .i64 u) := ho.cell hu
        have ho2 := ho.set_ k x
        rw [take_set_next xs _ k x hx (by have := h.1; simp; omega)] at ho2
        have hb2 := hb.setCell (p := ⟨w.heap.size, k, none⟩) (Nat.le_refl _) (.int .i64 x)
        have HX : Hid (xs[k]? = some x) := Lib.hid hx
        have HU : Hid ((xs.take k ++ List.replicate (n - k) 0)[k]? = some u) := Lib.hid hu
        have HA := Lib.hid hall
        have HL := Lib.hid h.1
        clear hx hu hcx hall
        by_cases hmk : isMaskB x n = true
        · go_wp2_with (go_at_call 65; refine (isMask_any _ _ hxb.1 hxb.2 _).mono ?_; rintro e w' ⟨rfl, rfl⟩)
          go_roundw
          case rel => exact ⟨k + 1, by omega, by go_num, by have e : (List.replicate (n - k) (0 : Int)).drop 1 = List.replicate (n - (k + 1)) 0 := by { rw [List.drop_replicate]; congr 1 }
                                                            rw [← e]; exact ho2, hb2, by rw [all_next (fun x => isMaskB x n) xs k _ HX.out, HA.out, hmk]; rfl⟩
          case measure => simp [intOf]; omega
        · have hmk2 : isMaskB x n = false := by simpa using hmk
          clear hmk
          go_wp2_with (go_at_call 65; refine (isMask_any _ _ hxb.1 hxb.2 _).mono ?_; rintro e w' ⟨rfl, rfl⟩)
          go_ret2
          exact .inr ⟨relB_no xs n k x HL.out HX.out hmk2, rfl, hb⟩
      · obtain rfl : k = n := by omega
        have e : xs.take k = xs := List.take_of_length_le (by have := h.1; omega)
        rw [e] at hall
        rw [e, Nat.sub_self, List.replicate_zero, List.append_nil] at ho
        have hyes := Lib.hid (relB_yes xs k h.1 h24 hall)
        clear hall e
        go_wp2
        go_ret2
        exact .inl ⟨hyes.out, _, _, rfl, ho, hb⟩
  · have hno := Lib.hid (relB_long xs (by have := h.1; omega))
    go_enter Tryd.func95, Tryd.ntmps95
    go_wp2
    go_ret2
    exact .inr ⟨hno.out, rfl, Below.refl _ _⟩
theorem relationOf_yes (A : Option Addr) (n c : Nat) (xs : List Int) (w : World) (h : Rd w A n xs) (hwf : Wf xs) (hn : n ≤ 9223372036854775807) (hr : relB xs = true) :
    Calls Tryd.prog 95 #[.slice A n c] w fun e w' => ∃ A c, e = .returned (.tuple #[.slice A n c, .bool true]) ∧ Own 70 w' w.heap.size A n c xs ∧ Below w.heap.size w w' :=
  (relationOf_any A n c xs w h hwf hn).mono fun e w' hp => by
    rcases hp with ⟨_, hp⟩ | ⟨h0, _⟩
    · exact hp
    · rw [hr] at h0; cases h0
theorem relationOf_no (A : Option Addr) (n c : Nat) (xs : List Int) (w : World) (h : Rd w A n xs) (hwf : Wf xs) (hn : n ≤ 9223372036854775807) (hr : relB xs = false) :
    Calls Tryd.prog 95 #[.slice A n c] w fun e w' => e = .returned (.tuple #[.slice none 0 0, .bool false]) ∧ Below w.heap.size w w' :=
  (relationOf_any A n c xs w h hwf hn).mono fun e w' hp => by
    rcases hp with ⟨h0, _⟩ | ⟨_, hp⟩
    · rw [hr] at h0; cases h0
    · exact hp

theorem full_q (k : Nat) (hk : k ≤ 62) (w : World) (m : Nat) :
    Calls Tryd.prog 63 #[.int .i64 (k : Int)] (w.drewN m) fun e w'' => e = .returned (.int .i64 ((2 ^ k - 1 : Nat) : Int)) ∧ ∃ m', w'' = w.drewN m' :=
  Calls.quiet_of_same ((full_any k hk _).mono fun _ _ ⟨he, hw⟩ => ⟨he, hw.symm⟩)
theorem in_true_q (n lo hi : Int) (h : lo ≤ n ∧ n ≤ hi) (w : World) (m : Nat) :
    Calls Tryd.prog 62 #[.int .i64 n, .int .i64 lo, .int .i64 hi] (w.drewN m) fun e w'' => e = .returned (.bool true) ∧ ∃ m', w'' = w.drewN m' :=
  Calls.quiet_of_same ((in_true n lo hi h _).mono fun _ _ ⟨he, hw⟩ => ⟨he, hw.symm⟩)
theorem in_false_q (n lo hi : Int) (h : ¬ (lo ≤ n ∧ n ≤ hi)) (w : World) (m : Nat) :
    Calls Tryd.prog 62 #[.int .i64 n, .int .i64 lo, .int .i64 hi] (w.drewN m) fun e w'' => e = .returned (.bool false) ∧ ∃ m', w'' = w.drewN m' :=
  Calls.quiet_of_same ((in_false n lo hi h _).mono fun _ _ ⟨he, hw⟩ => ⟨he, hw.symm⟩)
def inFull (m : Nat) (xs : List Int) : Bool := xs.all fun x => decide (0 ≤ x ∧ x ≤ ((2 ^ m - 1 : Nat) : Int))
set_option maxHeartbeats 400000 in
theorem masks_any (m : Nat) (hm : m ≤ 62) (A : Option Addr) (n c : Nat) (xs : List Int) (w : World) (h : Rd w A n xs) (hn : n ≤ 9223372036854775807) :
    Calls Tryd.prog 81 #[.int .i64 (m : Int), .slice A n c] w fun e w' => e = .returned (.bool (inFull m xs)) ∧ Below w.heap.size w w' := by
  go_enter Tryd.func81, Tryd.ntmps81
  go_wp2
  go_loopw [5] (fun i wr => ∃ k : Nat, k ≤ n ∧ i = .int .i64 k ∧ Below w.heap.size w wr ∧ (xs.take k).all (fun x => decide (0 ≤ x ∧ x ≤ ((2 ^ m - 1 : Nat) : Int))) = true) (fun i _ => n - (intOf i).toNat)
  case atStart => exact ⟨0, Nat.zero_le _, rfl, Below.refl _ _, rfl⟩
  case round =>
    obtain ⟨k, hk, rfl, hb, hall⟩ := hrel
    by_cases hlt : k < n
    · obtain ⟨b, off, x, rfl, hbs, hx, hcx⟩ := h.at_ hlt
      have hc1 : wr.cell? ⟨b, off + k, none⟩ = some (.int .i64 x) := (hb.cell (p := ⟨b, off + k, none⟩) hbs).trans hcx
      have HX := Lib.hid hx
      have HA := Lib.hid hall
      clear hx hcx hall
      by_cases hmk : 0 ≤ x ∧ x ≤ ((2 ^ m - 1 : Nat) : Int)
      · have HM := Lib.hid hmk
        clear hmk
        go_wp2_with fail
        go_quiet ((first | (go_at_call 63; exact full_q m hm _ _) | (go_at_call 62; exact in_true_q _ _ _ HM.out _ _)))
        go_wp2
        go_roundw
        case rel => exact ⟨k + 1, by omega, by go_num, by first | exact below_drewN hb _ | exact hb.drew, by rw [all_next _ xs k _ HX.out, HA.out, decide_eq_true HM.out]; rfl⟩
        case measure => simp [intOf]; omega
      · have HM := Lib.hid hmk
        clear hmk
        go_wp2_with fail
        go_quiet ((first | (go_at_call 63; exact full_q m hm _ _) | (go_at_call 62; exact in_false_q _ _ _ HM.out _ _)))
        go_wp2
        go_ret
        refine ⟨ret_b _ _ ?_, by first | exact below_drewN hb _ | exact hb.drew⟩
        symm
        show inFull m xs = false
        rw [Bool.eq_false_iff]
        intro hl
        have := List.all_eq_true.1 (show xs.all (fun x => decide (0 ≤ x ∧ x ≤ ((2 ^ m - 1 : Nat) : Int))) = true from hl) x (List.mem_of_getElem? HX.out)
        exact HM.out (by simpa using this)
    · obtain rfl : k = n := by omega
      have e : xs.take k = xs := List.take_of_length_le (by have := h.1; omega)
      rw [e] at hall
      have HA := Lib.hid hall
      clear hall e
      go_wp2
      go_ret
      exact ⟨ret_b _ _ (show true = inFull m xs from HA.out.symm), hb⟩
theorem all_mask (xs : List Int) (n : Nat) (hn : n ≤ 24) : (xs.all fun x => decide (0 ≤ x ∧ x ≤ ((2 ^ n - 1 : Nat) : Int))) = xs.all (fun x => isMaskB x n) := by
  congr 1
  funext x
  rw [isMaskB_in x n hn]
  have := p2_pos n
  congr 1
  apply propext
  constructor <;> rintro ⟨a, b⟩ <;> exact ⟨a, by omega⟩
end Go.Proofs.YtmifkbmgpofjbaaDoor
