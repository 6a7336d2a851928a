/-
  Lists of processes: the program's way and the model's to read them; DomainsOf: both sides.
-/
import Derived.Test.YtbjkpkgnjeaimaaDoorFree
import Derived.Test.YtbjkpkgnjeaimaaDoorConv
namespace Go.Proofs.YtbjkpkgnjeaimaaDoor
open Go.RowKit
set_option linter.unusedVariables false
set_option maxRecDepth 100000

theorem full_nats (n : Nat) (xs : List Int) (h : inFull n xs = true) : xs = ints (xs.map Int.toNat) ∧ ∀ i, (xs.map Int.toNat).getD i 0 < 2 ^ n := by
  have hall : ∀ x ∈ xs, 0 ≤ x ∧ x ≤ ((2 ^ n - 1 : Nat) : Int) := fun x hx => by
    have := List.all_eq_true.1 (show xs.all (fun x => decide (0 ≤ x ∧ x ≤ ((2 ^ n - 1 : Nat) : Int))) = true from h) x hx
    simpa using this
  constructor
  · unfold ints
    rw [List.map_map]
    conv => lhs; rw [← List.map_id xs]
    apply List.map_congr_left
    intro x hx
    have := hall x hx
    show x = ((x.toNat : Nat) : Int)
    omega
  · intro i
    rw [List.getD_eq_getElem?_getD, List.getElem?_map]
    cases hx : xs[i]? with
    | none => simp; exact p2_pos n
    | some x =>
      have := hall x (List.mem_of_getElem? hx)
      have := p2_pos n
      simp
      omega
/-- The code of a number of letters and a list of processes. -/
def prCode (a : Int) (xs : List Int) : Int := if 0 ≤ a ∧ a ≤ 8 ∧ inFull a.toNat xs = true then (if xs.length ≤ 16 then 0 else 3) else 2
theorem prCode_range (a : Int) (xs : List Int) (h : ¬ (0 ≤ a ∧ a ≤ 8)) : prCode a xs = 2 := by unfold prCode; rw [if_neg (fun e => h ⟨e.1, e.2.1⟩)]
theorem prCode_mask (n : Nat) (xs : List Int) (h : inFull n xs = false) : prCode (n : Int) xs = 2 := by unfold prCode; rw [if_neg (fun e => by have := e.2.2; rw [Int.toNat_natCast, h] at this; cases this)]
theorem prCode_big (n : Nat) (xs : List Int) (hn : n ≤ 8) (h : inFull n xs = true) (hl : 16 < xs.length) : prCode (n : Int) xs = 3 := by unfold prCode; rw [if_pos ⟨by omega, by omega, by rw [Int.toNat_natCast]; exact h⟩, if_neg (by omega)]
theorem prCode_ok (n : Nat) (xs : List Int) (hn : n ≤ 8) (h : inFull n xs = true) (hl : xs.length ≤ 16) : prCode (n : Int) xs = 0 := by unfold prCode; rw [if_pos ⟨by omega, by omega, by rw [Int.toNat_natCast]; exact h⟩, if_pos hl]
theorem prCode_zero (a : Int) (xs : List Int) (h : prCode a xs = 0) : ∃ n : Nat, a = (n : Int) ∧ n ≤ 8 ∧ inFull n xs = true ∧ xs.length ≤ 16 := by
  unfold prCode at h
  split at h
  · rename_i h1
    split at h
    · exact ⟨a.toNat, by omega, by omega, h1.2.2, by assumption⟩
    · cases h
  · cases h
theorem all_take_no (p : Int → Bool) (xs : List Int) (k : Nat) (x : Int) (hx : xs[k]? = some x) (h : p x = false) : xs.all p = false := by
  rw [Bool.eq_false_iff]
  intro e
  have := List.all_eq_true.1 e x (List.mem_of_getElem? hx)
  rw [h] at this; cases this
/-- What processesIn leaves. -/
def PrPost (w : World) (xs : List Int) (code : Int) (e : Ending) (w' : World) : Prop :=
  (code = 0 ∧ ∃ A c, e = .returned (.tuple #[.slice A xs.length c, .int .i64 0]) ∧ Own 57 w' w.heap.size A xs.length c xs ∧ Below w.heap.size w w') ∨
  (code ≠ 0 ∧ e = .returned (.tuple #[.slice none 0 0, .int .i64 code]) ∧ Below w.heap.size w w')
set_option maxHeartbeats 1600000 in
theorem processesIn_any (a : Int) (A : Option Addr) (m c : Nat) (xs : List Int) (w : World) (h : Rd w A m xs) (hwf : Wf xs) (hm : m ≤ 1048576) :
    Calls Tryd.prog 58 #[.int .i64 a, .slice A m c] w (PrPost w xs (prCode a xs)) := by
  have HL := Lib.hid h.1
  by_cases ha : 0 ≤ a ∧ a ≤ 8
  · obtain ⟨n, rfl⟩ : ∃ n : Nat, a = (n : Int) := ⟨a.toNat, by omega⟩
    have hn8 : n ≤ 8 := by omega
    have h24 : n ≤ 24 := by omega
    have HN := Lib.hid (decide_eq_true ha)
    have hi := info_set
    obtain ⟨i0, hi, hz0, hz1, hz2⟩ := info_parts info_set
    have hfa : inFull n xs = xs.all (fun x => isMaskB x (n : Int)) := by unfold inFull; exact all_mask xs n h24
    have HFA := Lib.hid hfa
    clear hfa ha
    go_enter Tryd.func58, Tryd.ntmps58
    go_wp2_with fail
    refine (isNum_any _ _).mono ?_
    rintro e w' ⟨rfl, rfl⟩
    rw [HN.out]
    go_wp2_with fail
    go_loopw [6, 14] (fun v q wr => ∃ (k : Nat) (A1 : Option Addr) (c1 : Nat), k ≤ m ∧ q = .int .i64 k ∧ v = .slice A1 k c1 ∧ Own 57 wr w.heap.size A1 k c1 (xs.take k) ∧ Below w.heap.size w wr ∧ (xs.take k).all (fun x => isMaskB x (n : Int)) = true) (fun _ q _ => m - (intOf q).toNat)
    case atStart => exact ⟨0, none, 0, Nat.zero_le _, rfl, rfl, Own.nil _ _ _, Below.refl _ _, rfl⟩
    case round =>
      obtain ⟨k, A1, c1, hk, rfl, rfl, ho, hb, hall⟩ := hrel
      have HA := Lib.hid hall
      clear hall
      by_cases hlt : k < m
      · obtain ⟨b, off, x, rfl, hbs, hx, hcx⟩ := (h.below hb).at_ hlt
        have hxb := hwf.at_ hx
        have HX := Lib.hid hx
        clear hx
        have hml : k + 1 ≤ maxLen := by unfold maxLen; omega
        have hby2 : (k + 1) * 8 ≤ 140737488355328 := by omega
        cases hmk : isMaskB x (n : Int)
        · have HM := Lib.hid hmk
          clear hmk
          have e9 : prCode (n : Int) xs = 2 := prCode_mask n xs (by rw [HFA.out]; exact all_take_no _ xs k x HX.out HM.out)
          have HE := Lib.hid e9
          clear e9
          go_wp2_with fail
          refine (isMask_any _ _ hxb.1 hxb.2 _).mono ?_
          rintro e w' ⟨rfl, rfl⟩
          rw [HM.out]
          go_wp2_with fail
          go_ret2
          rw [HE.out]
          exact .inr ⟨by decide, rfl, hb⟩
        · have HM := Lib.hid hmk
          clear hmk
          go_wp2_with fail
          refine (isMask_any _ _ hxb.1 hxb.2 _).mono ?_
          rintro e w' ⟨rfl, rfl⟩
          rw [HM.out]
          go_wp2_with (at_builtin; refine wpList_append_own _ rfl _ _ 50 rfl w.heap.size 57 i0 (.int .i64 0) 1 8 Tryd.underlying50 hi hz0 hz1 hz2 rfl (by decide) (.slice A1 k c1) k ((xs.take k).map (Value.int .i64)) rfl (World.ownsRow.alloc ho _) ⟨wr.heap.size, 0, none⟩ 1 1 [.int .i64 x] rfl rfl ?s1 ?s2 hml hby2 ?s5 ?_)
          case s1 => exact cell_one_new _ _ _
          case s2 => intro u hu; simp at hu; subst hu; rfl
          case s5 => have := hb.size; simp; omega
          intro v' w3 hown hg _
          have e1 : List.take k (xs.map (Value.int .i64)) ++ [.int .i64 x] = (xs.take (k + 1)).map (Value.int .i64) := by rw [← List.map_take, List.take_add_one, HX.out, List.map_append]; rfl
          rw [e1] at hown
          clear e1
          have hb3 : Below w.heap.size w w3 := (hb.alloc hb.size _).grown hg (by have := hb.size; simp; omega) (fun g hgr => (World.ownsRow.lt ho g hgr).1)
          obtain ⟨A2, c2, hv, ho3⟩ := own_shape hown
          rw [hv]
          clear hg hown hv
          go_wp2_with fail
          go_roundw
          case rel => exact ⟨k + 1, A2, c2, by omega, by go_num, rfl, ho3, hb3, by rw [all_next _ xs k x HX.out, HA.out, HM.out]; rfl⟩
          case measure => simp [intOf]; omega
      · obtain rfl : k = m := by omega
        have e : xs.take k = xs := List.take_of_length_le (by rw [HL.out]; exact Nat.le_refl _)
        rw [e] at ho
        have HF : Hid (inFull n xs = true) := Lib.hid (by rw [HFA.out]; have := HA.out; rw [e] at this; exact this)
        clear e
        by_cases h16 : 16 < k
        · have HE := Lib.hid (prCode_big n xs hn8 HF.out (by rw [HL.out]; exact h16))
          go_wp2_with fail
          go_ret2
          rw [HE.out]
          exact .inr ⟨by decide, rfl, hb⟩
        · have HE := Lib.hid (prCode_ok n xs hn8 HF.out (by rw [HL.out]; omega))
          go_wp2_with fail
          go_ret2
          rw [HE.out]
          refine .inl ⟨rfl, A1, c1, ?_, ?_, hb⟩
          · rw [HL.out]; rfl
          · rw [HL.out]; exact ho
  · have HN := Lib.hid (decide_eq_false ha)
    have HE := Lib.hid (prCode_range a xs ha)
    go_enter Tryd.func58, Tryd.ntmps58
    go_wp2_with fail
    refine (isNum_any _ _).mono ?_
    rintro e w' ⟨rfl, rfl⟩
    rw [HN.out]
    go_wp2_with fail
    go_ret2
    rw [HE.out]
    exact .inr ⟨by decide, rfl, Below.refl _ _⟩
set_option maxHeartbeats 800000 in
theorem l02Processes_any (a : Int) (A : Option Addr) (m c : Nat) (xs : List Int) (w : World) (h : Rd w A m xs) (hm : m ≤ 9223372036854775807) :
    Calls Tryd.prog 55 #[.int .i64 a, .slice A m c] w fun e w' => e = .returned (.int .i64 (prCode a xs)) ∧ Below w.heap.size w w' := by
  have HL := Lib.hid h.1
  by_cases ha : 0 ≤ a ∧ a ≤ 8
  · obtain ⟨n, rfl⟩ : ∃ n : Nat, a = (n : Int) := ⟨a.toNat, by omega⟩
    have hn8 : n ≤ 8 := by omega
    have HIN := Lib.hid ha
    cases hf : inFull n xs
    · have HF := Lib.hid hf
      have HE := Lib.hid (prCode_mask n xs hf)
      clear hf
      go_enter Tryd.func55, Tryd.ntmps55
      go_wp2_with fail
      refine (in_true _ _ _ HIN.out _).mono ?_
      rintro e w' ⟨rfl, rfl⟩
      go_wp2_with fail
      refine (masks_any n (by omega) _ _ _ _ _ h hm).mono ?_
      rintro e w1 ⟨rfl, hb1⟩
      rw [HF.out]
      go_wp2_with fail
      go_ret
      exact ⟨ret_i _ _ HE.out.symm, hb1⟩
    · have HF := Lib.hid hf
      clear hf
      by_cases h16 : 16 < m
      · have HE := Lib.hid (prCode_big n xs hn8 HF.out (by rw [HL.out]; exact h16))
        go_enter Tryd.func55, Tryd.ntmps55
        go_wp2_with fail
        refine (in_true _ _ _ HIN.out _).mono ?_
        rintro e w' ⟨rfl, rfl⟩
        go_wp2_with fail
        refine (masks_any n (by omega) _ _ _ _ _ h hm).mono ?_
        rintro e w1 ⟨rfl, hb1⟩
        rw [HF.out]
        go_wp2_with fail
        go_ret
        exact ⟨ret_i _ _ HE.out.symm, hb1⟩
      · have HE := Lib.hid (prCode_ok n xs hn8 HF.out (by rw [HL.out]; omega))
        go_enter Tryd.func55, Tryd.ntmps55
        go_wp2_with fail
        refine (in_true _ _ _ HIN.out _).mono ?_
        rintro e w' ⟨rfl, rfl⟩
        go_wp2_with fail
        refine (masks_any n (by omega) _ _ _ _ _ h hm).mono ?_
        rintro e w1 ⟨rfl, hb1⟩
        rw [HF.out]
        go_wp2_with fail
        go_ret
        exact ⟨ret_i _ _ HE.out.symm, hb1⟩
  · have HE := Lib.hid (prCode_range a xs ha)
    have HIN := Lib.hid ha
    go_enter Tryd.func55, Tryd.ntmps55
    go_wp2_with fail
    refine (in_false _ _ _ HIN.out _).mono ?_
    rintro e w' ⟨rfl, rfl⟩
    go_wp2_with fail
    go_ret
    exact ⟨ret_i _ _ HE.out.symm, Below.refl _ _⟩
end Go.Proofs.YtbjkpkgnjeaimaaDoor
