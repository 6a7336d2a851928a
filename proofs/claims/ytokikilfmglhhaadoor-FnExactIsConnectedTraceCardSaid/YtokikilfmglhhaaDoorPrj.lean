/-
  The letters of a word that are in a set: the program's way and the model's.
-/
import Derived.Test.YtokikilfmglhhaaDoorNfA
namespace Go.Proofs.YtokikilfmglhhaaDoor
open Go Go.RowKit
set_option linter.unusedVariables false
set_option maxRecDepth 100000

def prjS (us : List Nat) (M : Nat) : List Nat := us.filter fun a => M.testBit a
theorem prjS_len (us : List Nat) (M : Nat) : (prjS us M).length ≤ us.length := List.length_filter_le _ _
theorem prjS_in (us : List Nat) (M k : Nat) (hk : k < us.length) (h : M.testBit (us.getD k 0) = true) : prjS (us.take (k + 1)) M = prjS (us.take k) M ++ [us.getD k 0] := by
  unfold prjS
  rw [List.take_add_one, List.getElem?_eq_getElem hk, List.filter_append]
  rw [List.getD_eq_getElem?_getD, List.getElem?_eq_getElem hk] at h ⊢
  have h' : M.testBit us[k] = true := h
  simp [h']
theorem prjS_out (us : List Nat) (M k : Nat) (hk : k < us.length) (h : M.testBit (us.getD k 0) = false) : prjS (us.take (k + 1)) M = prjS (us.take k) M := by
  unfold prjS
  rw [List.take_add_one, List.getElem?_eq_getElem hk, List.filter_append]
  rw [List.getD_eq_getElem?_getD, List.getElem?_eq_getElem hk] at h
  have h' : M.testBit us[k] = false := h
  simp [h']
set_option maxHeartbeats 1600000 in
theorem projection_any (A : Option Addr) (m c M : Nat) (us : List Nat) (w : World) (h : Rd w A m (ints us)) (hm : m ≤ 24) (hM : M < 9223372036854775808) (hus : ∀ p, p < m → us.getD p 0 < 8) :
    Calls Tryd.prog 106 #[.slice A m c, .int .i64 (M : Int)] w (MakesE 2 w (prjS us M).length (ints (prjS us M))) := by
  obtain ⟨i0, hi, hz0, hz1, hz2⟩ := info_parts info_int
  have HL : Hid (us.length = m) := Lib.hid (by have := h.1; rw [ints_len] at this; exact this)
  have HUS := Lib.hid hus
  clear hus
  go_enter Tryd.func106, Tryd.ntmps106
  go_wp2_with fail
  go_loopw [5, 10] (fun p q wr => ∃ (k N : Nat) (A1 : Option Addr) (c1 : Nat), k ≤ m ∧ N ≤ k ∧ p = .slice A1 N c1 ∧ q = .int .i64 (k : Int) ∧ N = (prjS (us.take k) M).length ∧ Own 2 wr w.heap.size A1 N c1 (ints (prjS (us.take k) M)) ∧ Below w.heap.size w wr) (fun _ q _ => m - (intOf q).toNat)
  case atStart => exact ⟨0, 0, _, 0, Nat.zero_le _, Nat.le_refl _, rfl, rfl, rfl, Own.nil _ _ _, Below.refl _ _⟩
  case round =>
    obtain ⟨k, N, A1, c1, hk, hNk, rfl, rfl, hN, ho, hb⟩ := hrel
    have HN := Lib.hid hN
    clear hN
    by_cases hlt : k < m
    · obtain ⟨b, off, x, rfl, hbs, hx, hcx⟩ := (h.below hb).at_ hlt
      rw [ints_getD us k (by rw [HL.out]; exact hlt)] at hx
      injection hx with hx
      have hu8 := HUS.out k hlt
      have HIN : Hid (M.testBit (us.getD k 0) = true → prjS (us.take (k + 1)) M = prjS (us.take k) M ++ [us.getD k 0]) := Lib.hid (prjS_in us M k (by rw [HL.out]; exact hlt))
      have HOUT : Hid (M.testBit (us.getD k 0) = false → prjS (us.take (k + 1)) M = prjS (us.take k) M) := Lib.hid (prjS_out us M k (by rw [HL.out]; exact hlt))
      obtain ⟨X, hX⟩ : ∃ X, X = us.getD k 0 := ⟨_, rfl⟩
      rw [← hX] at hx hu8 HIN HOUT
      subst hx
      obtain ⟨t, ht⟩ : ∃ t, t = M.testBit X := ⟨_, rfl⟩
      rw [← ht] at HIN HOUT
      have HT : Hid (∀ ww : World, Calls Tryd.prog 98 #[.int .i64 (M : Int), .int .i64 (X : Int)] ww fun e w' => e = .returned (.bool t) ∧ ww = w') := Lib.hid fun ww => by rw [ht]; exact has_any M X hM (by omega) ww
      clear hX ht
      cases t
      · have HO := Lib.hid (HOUT.out rfl)
        clear HOUT HIN
        go_wp2_with fail
        refine (HT.out _).mono ?_
        rintro e w' ⟨rfl, rfl⟩
        go_wp2_with fail
        go_roundw
        case rel => exact ⟨k + 1, N, A1, c1, hlt, by omega, rfl, by go_num, by rw [HO.out]; exact HN.out, by rw [HO.out]; exact ho, hb⟩
        case measure => simp [intOf]; omega
      · have HI := Lib.hid (HIN.out rfl)
        clear HOUT HIN
        have hml : N + 1 ≤ maxLen := by unfold maxLen; omega
        have hby2 : (N + 1) * 8 ≤ 140737488355328 := by omega
        go_wp2_with fail
        refine (HT.out _).mono ?_
        rintro e w' ⟨rfl, rfl⟩
        go_wp2_with (at_builtin; refine wpList_append_own _ rfl _ _ 22 rfl w.heap.size 2 i0 (.int .i64 0) 1 8 Tryd.underlying22 hi hz0 hz1 hz2 rfl (by decide) (.slice A1 N c1) N ((ints (prjS (us.take k) M)).map (Value.int .i64)) rfl (World.ownsRow.alloc ho _) ⟨wr.heap.size, 0, none⟩ 1 1 [.int .i64 (X : Int)] rfl rfl ?c1 ?c2 hml hby2 ?c5 ?_)
        case c1 => exact cell_one_new _ _ _
        case c2 => intro u hu; simp at hu; subst hu; rfl
        case c5 => have := hb.size; simp; omega
        intro v' w2 hown hg _
        rw [ints_snoc_map, ← HI.out] at hown
        have hb2 : Below w.heap.size w w2 := (hb.alloc hb.size _).grown hg (by have := hb.size; simp; omega) (fun r hr => (World.ownsRow.lt ho r hr).1)
        obtain ⟨A2, c2, hv, ho2⟩ := own_shape hown
        rw [hv]
        clear hg hown hv ho hb
        go_wp2_with fail
        go_roundw
        case rel => exact ⟨k + 1, N + 1, A2, c2, hlt, by omega, rfl, by go_num, by rw [HI.out, List.length_append, ← HN.out]; rfl, ho2, hb2⟩
        case measure => simp [intOf]; omega
    · have hkm : k = m := by omega
      subst hkm
      have HTK : Hid (us.take k = us) := Lib.hid (List.take_of_length_le (by rw [HL.out]; exact Nat.le_refl _))
      go_wp2_with fail
      go_ret
      rw [HTK.out] at HN ho
      obtain rfl := HN.out
      exact ⟨A1, c1, rfl, ho, hb⟩
set_option maxHeartbeats 1600000 in
theorem project_any (A : Option Addr) (m c M : Nat) (us : List Nat) (w : World) (h : Rd w A m (ints us)) (hm : m ≤ 24) (hM : M < 9223372036854775808) (hus : ∀ p, p < m → us.getD p 0 < 8) :
    Calls Tryd.prog 130 #[.slice A m c, .int .i64 (M : Int)] w (MakesE 2 w (prjS us M).length (ints (prjS us M))) := by
  obtain ⟨i0, hi, hz0, hz1, hz2⟩ := info_parts info_int
  have HL : Hid (us.length = m) := Lib.hid (by have := h.1; rw [ints_len] at this; exact this)
  have HUS := Lib.hid hus
  clear hus
  go_enter Tryd.func130, Tryd.ntmps130
  go_wp2_with fail
  go_loopw [5, 6] (fun p q wr => ∃ (k N : Nat) (A1 : Option Addr) (c1 : Nat), k ≤ m ∧ N ≤ k ∧ p = .slice A1 N c1 ∧ q = .int .i64 (k : Int) ∧ N = (prjS (us.take k) M).length ∧ Own 2 wr w.heap.size A1 N c1 (ints (prjS (us.take k) M)) ∧ Below w.heap.size w wr) (fun _ q _ => m - (intOf q).toNat)
  case atStart => exact ⟨0, 0, _, 0, Nat.zero_le _, Nat.le_refl _, rfl, rfl, rfl, World.ownsRow_lit w #[] 0 (Nat.le_refl _) (by unfold maxLen; omega) rfl, (Below.refl _ _).alloc (Nat.le_refl _) _⟩
  case round =>
    obtain ⟨k, N, A1, c1, hk, hNk, rfl, rfl, hN, ho, hb⟩ := hrel
    have HN := Lib.hid hN
    clear hN
    by_cases hlt : k < m
    · obtain ⟨b, off, x, rfl, hbs, hx, hcx⟩ := (h.below hb).at_ hlt
      rw [ints_getD us k (by rw [HL.out]; exact hlt)] at hx
      injection hx with hx
      have hu8 := HUS.out k hlt
      have HIN : Hid (M.testBit (us.getD k 0) = true → prjS (us.take (k + 1)) M = prjS (us.take k) M ++ [us.getD k 0]) := Lib.hid (prjS_in us M k (by rw [HL.out]; exact hlt))
      have HOUT : Hid (M.testBit (us.getD k 0) = false → prjS (us.take (k + 1)) M = prjS (us.take k) M) := Lib.hid (prjS_out us M k (by rw [HL.out]; exact hlt))
      obtain ⟨X, hX⟩ : ∃ X, X = us.getD k 0 := ⟨_, rfl⟩
      rw [← hX] at hx hu8 HIN HOUT
      subst hx
      obtain ⟨t, ht⟩ : ∃ t, t = M.testBit X := ⟨_, rfl⟩
      rw [← ht] at HIN HOUT
      have HT : Hid (∀ ww : World, Calls Tryd.prog 89 #[.int .i64 (M : Int), .int .i64 (X : Int)] ww fun e w' => e = .returned (.bool t) ∧ ww = w') := Lib.hid fun ww => by rw [ht]; exact bit_any M X hM (by omega) ww
      clear hX ht
      cases t
      · have HO := Lib.hid (HOUT.out rfl)
        clear HOUT HIN
        go_wp2_with fail
        refine (HT.out _).mono ?_
        rintro e w' ⟨rfl, rfl⟩
        go_wp2_with fail
        go_roundw
        case rel => exact ⟨k + 1, N, A1, c1, hlt, by omega, rfl, by go_num, by rw [HO.out]; exact HN.out, by rw [HO.out]; exact ho, hb⟩
        case measure => simp [intOf]; omega
      · have HI := Lib.hid (HIN.out rfl)
        clear HOUT HIN
        have hml : N + 1 ≤ maxLen := by unfold maxLen; omega
        have hby2 : (N + 1) * 8 ≤ 140737488355328 := by omega
        go_wp2_with fail
        refine (HT.out _).mono ?_
        rintro e w' ⟨rfl, rfl⟩
        go_wp2_with (at_builtin; refine wpList_append_own _ rfl _ _ 22 rfl w.heap.size 2 i0 (.int .i64 0) 1 8 Tryd.underlying22 hi hz0 hz1 hz2 rfl (by decide) (.slice A1 N c1) N ((ints (prjS (us.take k) M)).map (Value.int .i64)) rfl (World.ownsRow.alloc ho _) ⟨wr.heap.size, 0, none⟩ 1 1 [.int .i64 (X : Int)] rfl rfl ?c1 ?c2 hml hby2 ?c5 ?_)
        case c1 => exact cell_one_new _ _ _
        case c2 => intro u hu; simp at hu; subst hu; rfl
        case c5 => have := hb.size; simp; omega
        intro v' w2 hown hg _
        rw [ints_snoc_map, ← HI.out] at hown
        have hb2 : Below w.heap.size w w2 := (hb.alloc hb.size _).grown hg (by have := hb.size; simp; omega) (fun r hr => (World.ownsRow.lt ho r hr).1)
        obtain ⟨A2, c2, hv, ho2⟩ := own_shape hown
        rw [hv]
        clear hg hown hv ho hb
        go_wp2_with fail
        go_roundw
        case rel => exact ⟨k + 1, N + 1, A2, c2, hlt, by omega, rfl, by go_num, by rw [HI.out, List.length_append, ← HN.out]; rfl, ho2, hb2⟩
        case measure => simp [intOf]; omega
    · have hkm : k = m := by omega
      subst hkm
      have HTK : Hid (us.take k = us) := Lib.hid (List.take_of_length_le (by rw [HL.out]; exact Nat.le_refl _))
      go_wp2_with fail
      go_ret
      rw [HTK.out] at HN ho
      obtain rfl := HN.out
      exact ⟨A1, c1, rfl, ho, hb⟩
end Go.Proofs.YtokikilfmglhhaaDoor
