/-
  ComposeMorphisms: both sides.
-/
import Derived.Test.YtdafdffmkjhhcaaDoorMoI
import Derived.Maps.AppendAt
namespace Go.Proofs.YtdafdffmkjhhcaaDoor
open Go Go.RowKit
set_option linter.unusedVariables false
set_option linter.unusedSimpArgs false
set_option maxRecDepth 100000

/-- The code of three alphabets and two letter maps. -/
def cmCode (L1 : Int) (xs1 : List Int) (L2 : Int) (xs2 : List Int) (L3 : Int) (xs3 : List Int) (X Y : List (List Int)) : Int :=
  if alphB L3 xs3 = false then 1 else if mCode L1 xs1 L2 xs2 X (lmB L2 L3 Y) = 0 then mCode L2 xs2 L3 xs3 Y true else mCode L1 xs1 L2 xs2 X (lmB L2 L3 Y)
/-- The images of the images, as long as they are short enough. -/
def cmL (rs3 : List Nat) (Ws Vs : List (List Nat)) : List (List Int) := Ws.map fun W => ints (nfR rs3 (imW Vs W))
def cmB (Ws Vs : List (List Nat)) : Bool := Ws.all fun W => decide ((imW Vs W).length ≤ 24)
def cmAns (L1 : Int) (xs1 : List Int) (L2 : Int) (xs2 : List Int) (L3 : Int) (xs3 : List Int) (X Y : List (List Int)) : List (List Int) × Int :=
  if cmCode L1 xs1 L2 xs2 L3 xs3 X Y = 0 then (if cmB (natW X) (natW Y) = true then (cmL (xs3.map Int.toNat) (natW X) (natW Y), 0) else ([], 3)) else ([], cmCode L1 xs1 L2 xs2 L3 xs3 X Y)
theorem cmCode_zero {L1 : Int} {xs1 : List Int} {L2 : Int} {xs2 : List Int} {L3 : Int} {xs3 : List Int} {X Y : List (List Int)} (h : cmCode L1 xs1 L2 xs2 L3 xs3 X Y = 0) :
    alphB L3 xs3 = true ∧ mCode L1 xs1 L2 xs2 X (lmB L2 L3 Y) = 0 ∧ mCode L2 xs2 L3 xs3 Y true = 0 := by
  unfold cmCode at h
  split at h
  · cases h
  · rename_i h1
    split at h
    · rename_i h2
      exact ⟨by simpa using h1, h2, h⟩
    · rename_i h2; exact absurd h h2
theorem cmL_take (rs3 : List Nat) (Ws Vs : List (List Nat)) (k : Nat) (h : k < Ws.length) : cmL rs3 (Ws.take (k + 1)) Vs = cmL rs3 (Ws.take k) Vs ++ [ints (nfR rs3 (imW Vs (Ws.getD k [])))] := by
  unfold cmL
  rw [List.take_add_one, List.getElem?_eq_getElem h, List.map_append]
  have e : Ws.getD k [] = Ws[k] := by rw [List.getD_eq_getElem?_getD, List.getElem?_eq_getElem h]; rfl
  rw [e]; rfl
theorem cmB_no (Ws Vs : List (List Nat)) (k : Nat) (h : k < Ws.length) (hl : 24 < (imW Vs (Ws.getD k [])).length) : cmB Ws Vs = false := by
  cases hb : cmB Ws Vs with
  | false => rfl
  | true =>
    unfold cmB at hb
    have h9 := List.all_eq_true.1 hb (Ws[k]) (List.getElem_mem _)
    have e : Ws.getD k [] = Ws[k] := by rw [List.getD_eq_getElem?_getD, List.getElem?_eq_getElem h]; rfl
    rw [e] at hl
    rw [decide_eq_true_eq] at h9
    omega
theorem cmB_yes (Ws Vs : List (List Nat)) (h : ∀ k, k < Ws.length → (imW Vs (Ws.getD k [])).length ≤ 24) : cmB Ws Vs = true := by
  unfold cmB
  rw [List.all_eq_true]
  intro W hW
  obtain ⟨k, hk, rfl⟩ := List.getElem_of_mem hW
  have h9 := h k hk
  have e : Ws.getD k [] = Ws[k] := by rw [List.getD_eq_getElem?_getD, List.getElem?_eq_getElem hk]; rfl
  rw [e] at h9
  exact decide_eq_true h9
theorem cmAns_small (L1 : Int) (xs1 : List Int) (L2 : Int) (xs2 : List Int) (L3 : Int) (xs3 : List Int) (X Y : List (List Int)) : (cmAns L1 xs1 L2 xs2 L3 xs3 X Y).1.length ≤ 8 ∧ sumL (cmAns L1 xs1 L2 xs2 L3 xs3 X Y).1 ≤ 192 := by
  unfold cmAns
  split
  · rename_i h0
    obtain ⟨ha3, h1, h2⟩ := cmCode_zero h0
    have hl := (mCode_len h1).1
    split
    · rename_i hb
      have hlen : (natW X).length ≤ 8 := by unfold natW; rw [List.length_map]; exact hl
      have h24 : ∀ W, W ∈ natW X → (ints (nfR (xs3.map Int.toNat) (imW (natW Y) W))).length ≤ 24 := fun W hW => by
        unfold cmB at hb
        have h9 := List.all_eq_true.1 hb W hW
        rw [decide_eq_true_eq] at h9
        rw [ints_len]; exact Nat.le_trans (nfR_len _ _) h9
      refine ⟨by show (List.map _ _).length ≤ 8; rw [List.length_map]; exact hlen, ?_⟩
      have key : ∀ Ws : List (List Nat), (∀ W, W ∈ Ws → (ints (nfR (xs3.map Int.toNat) (imW (natW Y) W))).length ≤ 24) → sumL (cmL (xs3.map Int.toNat) Ws (natW Y)) ≤ 24 * Ws.length := by
        intro Ws
        induction Ws with
        | nil => intro _; exact Nat.le_refl _
        | cons W r ih =>
          intro h9
          have h8 := ih (fun V hV => h9 V (List.mem_cons_of_mem _ hV))
          have h7 := h9 W List.mem_cons_self
          have e : sumL (cmL (xs3.map Int.toNat) (W :: r) (natW Y)) = (ints (nfR (xs3.map Int.toNat) (imW (natW Y) W))).length + sumL (cmL (xs3.map Int.toNat) r (natW Y)) := by unfold sumL cmL; simp
          rw [e, List.length_cons]; omega
      have := key (natW X) h24
      show sumL (cmL _ _ _) ≤ 192
      omega
    · exact ⟨Nat.zero_le _, Nat.zero_le _⟩
  · exact ⟨Nat.zero_le _, Nat.zero_le _⟩
theorem cmCode_a3 (L1 : Int) (xs1 : List Int) (L2 : Int) (xs2 : List Int) (L3 : Int) (xs3 : List Int) (X Y : List (List Int)) (h : alphB L3 xs3 = false) : cmCode L1 xs1 L2 xs2 L3 xs3 X Y = 1 := if_pos h
theorem cmCode_f (L1 : Int) (xs1 : List Int) (L2 : Int) (xs2 : List Int) (L3 : Int) (xs3 : List Int) (X Y : List (List Int)) (C : Int) (h : alphB L3 xs3 = true) (hC : mCode L1 xs1 L2 xs2 X (lmB L2 L3 Y) = C) (h0 : C ≠ 0) : cmCode L1 xs1 L2 xs2 L3 xs3 X Y = C := by
  unfold cmCode; rw [if_neg (by rw [h]; decide), hC, if_neg h0]
theorem cmCode_g (L1 : Int) (xs1 : List Int) (L2 : Int) (xs2 : List Int) (L3 : Int) (xs3 : List Int) (X Y : List (List Int)) (h : alphB L3 xs3 = true) (hC : mCode L1 xs1 L2 xs2 X (lmB L2 L3 Y) = 0) : cmCode L1 xs1 L2 xs2 L3 xs3 X Y = mCode L2 xs2 L3 xs3 Y true := by
  unfold cmCode; rw [if_neg (by rw [h]; decide), hC, if_pos rfl]
theorem cmCode_any1 (L1 : Int) (xs1 : List Int) (L2 : Int) (xs2 : List Int) (L3 : Int) (xs3 : List Int) (X Y : List (List Int)) (h : alphB L1 xs1 = false ∨ alphB L2 xs2 = false) : cmCode L1 xs1 L2 xs2 L3 xs3 X Y = 1 := by
  cases h3 : alphB L3 xs3
  · exact cmCode_a3 _ _ _ _ _ _ _ _ h3
  · refine cmCode_f _ _ _ _ _ _ _ _ 1 h3 ?_ (by decide)
    rcases h with h | h
    · exact mCode_no1 _ _ _ _ _ _ h
    · exact mCode_no2 _ _ _ _ _ _ h
theorem cmAns_err (L1 : Int) (xs1 : List Int) (L2 : Int) (xs2 : List Int) (L3 : Int) (xs3 : List Int) (X Y : List (List Int)) (C : Int) (h : cmCode L1 xs1 L2 xs2 L3 xs3 X Y = C) (h0 : C ≠ 0) : cmAns L1 xs1 L2 xs2 L3 xs3 X Y = ([], C) := by
  unfold cmAns; rw [h, if_neg h0]
theorem lss_err {w w' : World} (C : Int) (hb : Below w.heap.size w w') : LssPost w 0 [] C (.returned (.tuple #[.slice none 0 0, .int .i64 C])) w' := ⟨none, 0, rfl, OwnSS.nil _ _, hb⟩
theorem alloc_grown' {w w' : World} {o : Obj} {row : Option Nat} (hg : (w.alloc o).grownBy w' row) : w.grownBy w' row :=
  ⟨hg.os, hg.tape, hg.output, by have := hg.size; rw [size1'] at this; omega, fun k hk hne => by rw [hg.block k (by rw [size1']; omega) hne]; exact Below.heap_alloc w o k hk⟩
set_option maxHeartbeats 6400000 in
theorem implComposeMorphisms (L1 : Int) (R1 : Option Addr) (n1 c1 : Nat) (xs1 : List Int) (L2 : Int) (R2 : Option Addr) (n2 c2 : Nat) (xs2 : List Int) (L3 : Int) (R3 : Option Addr) (n3 c3 : Nat) (xs3 : List Int) (A : Option Addr) (n c : Nat) (X : List (List Int)) (B : Option Addr) (m d : Nat) (Y : List (List Int)) (w : World)
    (h1 : Rd w R1 n1 xs1) (hwf1 : Wf xs1) (hL11 : -9223372036854775808 ≤ L1) (hL12 : L1 ≤ 9223372036854775807) (hn1 : n1 ≤ maxLen)
    (h2 : Rd w R2 n2 xs2) (hwf2 : Wf xs2) (hL21 : -9223372036854775808 ≤ L2) (hL22 : L2 ≤ 9223372036854775807) (hn2 : n2 ≤ maxLen)
    (h3 : Rd w R3 n3 xs3) (hwf3 : Wf xs3) (hL31 : -9223372036854775808 ≤ L3) (hL32 : L3 ≤ 9223372036854775807) (hn3 : n3 ≤ maxLen)
    (h : RdSS w A n X) (hn : n ≤ 1048576) (h4 : RdSS w B m Y) (hm : m ≤ 1048576) (hT : Tab w) :
    Calls Tryd.prog 32 #[.agg #[.int .i64 L1, .slice R1 n1 c1], .agg #[.int .i64 L2, .slice R2 n2 c2], .agg #[.int .i64 L3, .slice R3 n3 c3], .slice A n c, .slice B m d] w (LssPost w (cmAns L1 xs1 L2 xs2 L3 xs3 X Y).1.length (cmAns L1 xs1 L2 xs2 L3 xs3 X Y).1 (cmAns L1 xs1 L2 xs2 L3 xs3 X Y).2) := by
  obtain ⟨i1, hi1, hy0, hy1, hy2⟩ := info_parts info_sls
  obtain ⟨ts, hts, ht⟩ := h
  obtain ⟨us, hus, hu⟩ := h4
  have hm1 : n1 ≤ 9223372036854775807 := by unfold maxLen at hn1; omega
  have hm2 : n2 ≤ 9223372036854775807 := by unfold maxLen at hn2; omega
  have hm3 : n3 ≤ 9223372036854775807 := by unfold maxLen at hn3; omega
  have HB := Lib.hid (below3' w (.cells #[.int .i64 L1, .slice R1 n1 c1] 29) (.cells #[.int .i64 L2, .slice R2 n2 c2] 29) (.cells #[.int .i64 L3, .slice R3 n3 c3] 29))
  have hh1 := h1.below HB.out
  have hh2 := h2.below HB.out
  have hh3 := h3.below HB.out
  have hht := ht.below HB.out
  have hhu := hu.below HB.out
  have x0 := ((box_new 29 w L1 R1 n1 c1).next (below1 _ (.cells #[.int .i64 L2, .slice R2 n2 c2] 29))).next (below1 _ (.cells #[.int .i64 L3, .slice R3 n3 c3] 29))
  have x1 := (box_new 29 (w.alloc (.cells #[.int .i64 L1, .slice R1 n1 c1] 29)) L2 R2 n2 c2).next (below1 _ (.cells #[.int .i64 L3, .slice R3 n3 c3] 29))
  have x2 := box_new 29 ((w.alloc (.cells #[.int .i64 L1, .slice R1 n1 c1] 29)).alloc (.cells #[.int .i64 L2, .slice R2 n2 c2] 29)) L3 R3 n3 c3
  rw [size1' w] at x1
  rw [size1' (w.alloc (.cells #[.int .i64 L1, .slice R1 n1 c1] 29)), size1' w] at x2
  obtain ⟨w1, hw1⟩ : ∃ w1, w1 = ((w.alloc (.cells #[.int .i64 L1, .slice R1 n1 c1] 29)).alloc (.cells #[.int .i64 L2, .slice R2 n2 c2] 29)).alloc (.cells #[.int .i64 L3, .slice R3 n3 c3] 29) := ⟨_, rfl⟩
  have HW1 := Lib.hid hw1
  rw [← hw1] at HB x0 x1 x2 hh1 hh2 hh3 hht hhu
  clear hw1
  have hT1 := hT.below HB.out
  have HI3 := Lib.hid (implIsAlphabet L3 R3 n3 c3 xs3 w1 hh3 hwf3 hL31 hL32 hm3 hT1)
  have HLM : Hid (∀ ww, Below w1.heap.size w1 ww → Calls Tryd.prog 62 #[.agg #[.int .i64 L2, .slice R2 n2 c2], .agg #[.int .i64 L3, .slice R3 n3 c3], .slice B m d] ww fun e w' => e = .returned (.bool (lmB L2 L3 Y)) ∧ Below ww.heap.size ww w') := Lib.hid (fun ww hw => by
    have h9 := isLetterMap_any L2 L3 R2 R3 B n2 c2 n3 c3 m d us ww (hhu.below hw) hm
    rw [hus] at h9; exact h9)
  have HMF : Hid (∀ ww, Below w1.heap.size w1 ww → Calls Tryd.prog 51 #[.agg #[.int .i64 L1, .slice R1 n1 c1], .agg #[.int .i64 L2, .slice R2 n2 c2], .slice A n c, .bool (lmB L2 L3 Y)] ww (MoPost ww n1 n2 n c A (xs1.map Int.toNat) (xs2.map Int.toNat) (mCode L1 xs1 L2 xs2 X (lmB L2 L3 Y)))) := Lib.hid (fun ww hw => by
    have h9 := morphismIn_any L1 L2 R1 R2 A n1 c1 n2 c2 n c xs1 xs2 (lmB L2 L3 Y) ts ww (hh1.below hw) hwf1 hL11 hL12 hm1 (hh2.below hw) hwf2 hL21 hL22 hm2 (hht.below hw) hn (hT1.below hw)
    rw [hts] at h9; exact h9)
  have HMG : Hid (∀ ww, Below w1.heap.size w1 ww → Calls Tryd.prog 51 #[.agg #[.int .i64 L2, .slice R2 n2 c2], .agg #[.int .i64 L3, .slice R3 n3 c3], .slice B m d, .bool true] ww (MoPost ww n2 n3 m d B (xs2.map Int.toNat) (xs3.map Int.toNat) (mCode L2 xs2 L3 xs3 Y true))) := Lib.hid (fun ww hw => by
    have h9 := morphismIn_any L2 L3 R2 R3 B n2 c2 n3 c3 m d xs2 xs3 true us ww (hh2.below hw) hwf2 hL21 hL22 hm2 (hh3.below hw) hwf3 hL31 hL32 hm3 (hhu.below hw) hm (hT1.below hw)
    rw [hus] at h9; exact h9)
  cases ha3 : alphB L3 xs3
  · rw [cmAns_err _ _ _ _ _ _ _ _ 1 (cmCode_a3 _ _ _ _ _ _ _ _ ha3) (by decide)]
    rw [ha3] at HI3
    clear ha3
    go_enter Tryd.func32, Tryd.ntmps32
    go_wp2_with fail
    rw [← HW1.out]
    refine HI3.out.mono ?_
    rintro e w2 ⟨rfl, hb2⟩
    go_wp2_with fail
    go_ret2
    exact lss_err 1 (HB.out.trans (hb2.mono HB.out.size))
  rw [ha3] at HI3
  by_cases hC1 : mCode L1 xs1 L2 xs2 X (lmB L2 L3 Y) = 0
  rotate_left
  · obtain ⟨C, hC⟩ : ∃ C, C = mCode L1 xs1 L2 xs2 X (lmB L2 L3 Y) := ⟨_, rfl⟩
    rw [← hC] at hC1 HMF
    rw [cmAns_err _ _ _ _ _ _ _ _ C (cmCode_f _ _ _ _ _ _ _ _ C ha3 hC.symm hC1) hC1]
    obtain ⟨Q, hQ⟩ : ∃ Q, Q = lmB L2 L3 Y := ⟨_, rfl⟩
    rw [← hQ] at HMF HLM
    have h0 := hC1
    have hd : (C == 0) = false := by simpa using hC1
    have hd2 : (C != 0) = true := by simpa using hC1
    clear hC hQ ha3 hts ht hus hu
    go_enter Tryd.func32, Tryd.ntmps32
    go_wp2_with fail
    rw [← HW1.out]
    refine HI3.out.mono ?_
    rintro e w2 ⟨rfl, hb2⟩
    have hcur : Below w2.heap.size w2 w2.drew := (Below.refl _ _).drew
    have HS9 : Hid (∀ w', Below w2.heap.size w2 w' → w'.cell? ⟨w.heap.size, 0, none⟩ = some (.int .i64 L1) ∧ w'.cell? ⟨w.heap.size, 1, none⟩ = some (.slice R1 n1 c1) ∧ w'.cell? ⟨w.heap.size + 1, 0, none⟩ = some (.int .i64 L2) ∧ w'.cell? ⟨w.heap.size + 1, 1, none⟩ = some (.slice R2 n2 c2) ∧ w'.cell? ⟨w.heap.size + 1 + 1, 0, none⟩ = some (.int .i64 L3) ∧ w'.cell? ⟨w.heap.size + 1 + 1, 1, none⟩ = some (.slice R3 n3 c3)) := Lib.hid (fun w' hw => ⟨(x0.next (hb2.trans (hw.mono hb2.size))).c0, (x0.next (hb2.trans (hw.mono hb2.size))).c1, (x1.next (hb2.trans (hw.mono hb2.size))).c0, (x1.next (hb2.trans (hw.mono hb2.size))).c1, (x2.next (hb2.trans (hw.mono hb2.size))).c0, (x2.next (hb2.trans (hw.mono hb2.size))).c1⟩)
    have hcd := HS9.out _ hcur
    have HLM9 := Lib.hid (fun ww hw => HLM.out ww (hb2.trans (Below.mono hw hb2.size)))
    have HMF9 := Lib.hid (fun ww hw => HMF.out ww (hb2.trans (Below.mono hw hb2.size)))
    have hcurB : Below w2.heap.size w2 ((w2.alloc (.cells #[.slice none 0 0, .slice none 0 0, .nilFunc] 69)).drew) := (below1 w2 (.cells #[.slice none 0 0, .slice none 0 0, .nilFunc] 69)).drew
    have hcurC : Below w2.heap.size w2 (w2.drew.alloc (.cells #[.slice none 0 0, .slice none 0 0, .nilFunc] 69)) := below_al hcur (.cells #[.slice none 0 0, .slice none 0 0, .nilFunc] 69)
    have zbB : Box3 69 ((w2.alloc (.cells #[.slice none 0 0, .slice none 0 0, .nilFunc] 69)).drew) w2.heap.size (.slice none 0 0) (.slice none 0 0) .nilFunc := box3_new 69 w2 _ _ _
    have zbC : Box3 69 (w2.drew.alloc (.cells #[.slice none 0 0, .slice none 0 0, .nilFunc] 69)) w2.heap.size (.slice none 0 0) (.slice none 0 0) .nilFunc := box3_new 69 w2.drew _ _ _
    go_upto_region 3 with fail
    go_cut [13] from 23 to 33 (fun q wx => q = .int .i64 C ∧ Below w2.heap.size w2 wx)
    case first =>
      go_region_held3 (fun w' => w'.cell? ⟨w.heap.size, 0, none⟩ = some (.int .i64 L1) ∧ w'.cell? ⟨w.heap.size, 1, none⟩ = some (.slice R1 n1 c1) ∧ w'.cell? ⟨w.heap.size + 1, 0, none⟩ = some (.int .i64 L2) ∧ w'.cell? ⟨w.heap.size + 1, 1, none⟩ = some (.slice R2 n2 c2) ∧ w'.cell? ⟨w.heap.size + 1 + 1, 0, none⟩ = some (.int .i64 L3) ∧ w'.cell? ⟨w.heap.size + 1 + 1, 1, none⟩ = some (.slice R3 n3 c3)) (first | exact hcd | exact HS9.out _ hcur | exact HS9.out _ hal | exact HS9.out _ hcurA | exact HS9.out _ hsb | exact HS9.out _ hcurB | exact HS9.out _ hcurC | go_keep) (first | (go_at_call 62; first | ((with_reducible refine (HLM9.out _ hcur).mono ?_); rintro e wa ⟨rfl, hba⟩; have hcz := hcur.size; have hcur := hcur.trans (hba.mono hcz); have hal := below_al hcur (.cells #[.slice none 0 0, .slice none 0 0, .nilFunc] 69); have zb := box3_new 69 wa (.slice none 0 0) (.slice none 0 0) .nilFunc; have hg := hcur.size) | ((with_reducible refine (HLM9.out _ hcurB).mono ?_); rintro e wa ⟨rfl, hba⟩; have hcz := hcurB.size; have hal := hcurB.trans (hba.mono hcz); have zb := zbB.next hba; have hg := Nat.le_refl w2.heap.size) | ((with_reducible refine (HLM9.out _ hcurC).mono ?_); rintro e wa ⟨rfl, hba⟩; have hcz := hcurC.size; have hal := hcurC.trans (hba.mono hcz); have zb := zbC.next hba; have hg := Nat.le_refl w2.heap.size)) | (go_at_call 51; first | ((with_reducible refine (HMF9.out _ hcur).mono ?_); rintro e wb (⟨hc9, -⟩ | ⟨-, rfl, hbb⟩) <;> first | exact absurd hc9 h0 | skip; have hcz := hcur.size; have hcur := hcur.trans (hbb.mono hcz); have hcurA := below_al hcur (.cells #[.slice none 0 0, .slice none 0 0, .nilFunc] 69); have hal := below_al hcur (.cells #[.slice none 0 0, .slice none 0 0, .nilFunc] 69); have zb := box3_new 69 wb (.slice none 0 0) (.slice none 0 0) .nilFunc; have hg := hcur.size; have q0 := zb.c0; have q1 := zb.c1; have q2 := zb.c2; have q4 := (zb.set01 (.slice none 0 0) (.slice none 0 0)).c2; have q5 := (zb.set01 (.slice none 0 0) (.slice none 0 0)).fr 2; have qf0 := zb.fr 0; have qf1 := zb.fr 1; have qf2 := zb.fr 2; have hsb := set3_below hal hg (.slice none 0 0) (.slice none 0 0) (.nilFunc)) | ((with_reducible refine (HMF9.out _ hal).mono ?_); rintro e wb (⟨hc9, -⟩ | ⟨-, rfl, hbb⟩) <;> first | exact absurd hc9 h0 | skip; have hcz := hal.size; have hal := hal.trans (hbb.mono hcz); have zb := zb.next hbb; have q0 := zb.c0; have q1 := zb.c1; have q2 := zb.c2; have q4 := (zb.set01 (.slice none 0 0) (.slice none 0 0)).c2; have q5 := (zb.set01 (.slice none 0 0) (.slice none 0 0)).fr 2; have qf0 := zb.fr 0; have qf1 := zb.fr 1; have qf2 := zb.fr 2; have hsb := set3_below hal hg (.slice none 0 0) (.slice none 0 0) (.nilFunc))))
      all_goals (
        go_wp2_with fail
        go_meet
        first
        | exact ⟨rfl, hcurA⟩
        | exact ⟨rfl, hsb⟩)
    case rest =>
      obtain ⟨rfl, hbc⟩ := hcut
      clear hcur hcd
      go_wp2_with fail
      go_ret2
      exact lss_err C (HB.out.trans ((hb2.trans (hbc.mono hb2.size)).mono HB.out.size))
  rw [hC1] at HMF
  by_cases hC2 : mCode L2 xs2 L3 xs3 Y true = 0
  rotate_left
  · obtain ⟨C, hC⟩ : ∃ C, C = mCode L2 xs2 L3 xs3 Y true := ⟨_, rfl⟩
    rw [cmAns_err _ _ _ _ _ _ _ _ C (by rw [cmCode_g _ _ _ _ _ _ _ _ ha3 hC1]; exact hC.symm) (by rw [hC]; exact hC2)]
    rw [← hC] at hC2 HMG
    obtain ⟨Q, hQ⟩ : ∃ Q, Q = lmB L2 L3 Y := ⟨_, rfl⟩
    rw [← hQ] at HMF HLM
    have hd : (C == 0) = false := by simpa using hC2
    have hd2 : (C != 0) = true := by simpa using hC2
    clear hC hQ ha3 hts ht hus hu hC1
    go_enter Tryd.func32, Tryd.ntmps32
    go_wp2_with fail
    rw [← HW1.out]
    refine HI3.out.mono ?_
    rintro e w2 ⟨rfl, hb2⟩
    have hcur : Below w2.heap.size w2 w2.drew := (Below.refl _ _).drew
    have HS9 : Hid (∀ w', Below w2.heap.size w2 w' → w'.cell? ⟨w.heap.size, 0, none⟩ = some (.int .i64 L1) ∧ w'.cell? ⟨w.heap.size, 1, none⟩ = some (.slice R1 n1 c1) ∧ w'.cell? ⟨w.heap.size + 1, 0, none⟩ = some (.int .i64 L2) ∧ w'.cell? ⟨w.heap.size + 1, 1, none⟩ = some (.slice R2 n2 c2) ∧ w'.cell? ⟨w.heap.size + 1 + 1, 0, none⟩ = some (.int .i64 L3) ∧ w'.cell? ⟨w.heap.size + 1 + 1, 1, none⟩ = some (.slice R3 n3 c3)) := Lib.hid (fun w' hw => ⟨(x0.next (hb2.trans (hw.mono hb2.size))).c0, (x0.next (hb2.trans (hw.mono hb2.size))).c1, (x1.next (hb2.trans (hw.mono hb2.size))).c0, (x1.next (hb2.trans (hw.mono hb2.size))).c1, (x2.next (hb2.trans (hw.mono hb2.size))).c0, (x2.next (hb2.trans (hw.mono hb2.size))).c1⟩)
    have hcd := HS9.out _ hcur
    have HLM9 := Lib.hid (fun ww hw => HLM.out ww (hb2.trans (Below.mono hw hb2.size)))
    have HMF9 := Lib.hid (fun ww hw => HMF.out ww (hb2.trans (Below.mono hw hb2.size)))
    have hcurB : Below w2.heap.size w2 ((w2.alloc (.cells #[.slice none 0 0, .slice none 0 0, .nilFunc] 69)).drew) := (below1 w2 (.cells #[.slice none 0 0, .slice none 0 0, .nilFunc] 69)).drew
    have hcurC : Below w2.heap.size w2 (w2.drew.alloc (.cells #[.slice none 0 0, .slice none 0 0, .nilFunc] 69)) := below_al hcur (.cells #[.slice none 0 0, .slice none 0 0, .nilFunc] 69)
    have zbB : Box3 69 ((w2.alloc (.cells #[.slice none 0 0, .slice none 0 0, .nilFunc] 69)).drew) w2.heap.size (.slice none 0 0) (.slice none 0 0) .nilFunc := box3_new 69 w2 _ _ _
    have zbC : Box3 69 (w2.drew.alloc (.cells #[.slice none 0 0, .slice none 0 0, .nilFunc] 69)) w2.heap.size (.slice none 0 0) (.slice none 0 0) .nilFunc := box3_new 69 w2.drew _ _ _
    go_upto_region 3 with fail
    go_cut [13] from 23 to 33 (fun q wx => q = .int .i64 0 ∧ Below w2.heap.size w2 wx)
    case first =>
      go_region_held3 (fun w' => w'.cell? ⟨w.heap.size, 0, none⟩ = some (.int .i64 L1) ∧ w'.cell? ⟨w.heap.size, 1, none⟩ = some (.slice R1 n1 c1) ∧ w'.cell? ⟨w.heap.size + 1, 0, none⟩ = some (.int .i64 L2) ∧ w'.cell? ⟨w.heap.size + 1, 1, none⟩ = some (.slice R2 n2 c2) ∧ w'.cell? ⟨w.heap.size + 1 + 1, 0, none⟩ = some (.int .i64 L3) ∧ w'.cell? ⟨w.heap.size + 1 + 1, 1, none⟩ = some (.slice R3 n3 c3)) (first | exact hcd | exact HS9.out _ hcur | exact HS9.out _ hal | exact HS9.out _ hcurA | exact HS9.out _ hsb | exact HS9.out _ hcurB | exact HS9.out _ hcurC | go_keep) (first | (go_at_call 62; first | ((with_reducible refine (HLM9.out _ hcur).mono ?_); rintro e wa ⟨rfl, hba⟩; have hcz := hcur.size; have hcur := hcur.trans (hba.mono hcz); have hal := below_al hcur (.cells #[.slice none 0 0, .slice none 0 0, .nilFunc] 69); have zb := box3_new 69 wa (.slice none 0 0) (.slice none 0 0) .nilFunc; have hg := hcur.size) | ((with_reducible refine (HLM9.out _ hcurB).mono ?_); rintro e wa ⟨rfl, hba⟩; have hcz := hcurB.size; have hal := hcurB.trans (hba.mono hcz); have zb := zbB.next hba; have hg := Nat.le_refl w2.heap.size) | ((with_reducible refine (HLM9.out _ hcurC).mono ?_); rintro e wa ⟨rfl, hba⟩; have hcz := hcurC.size; have hal := hcurC.trans (hba.mono hcz); have zb := zbC.next hba; have hg := Nat.le_refl w2.heap.size)) | (go_at_call 51; first | ((with_reducible refine (HMF9.out _ hcur).mono ?_); rintro e wb (⟨-, R7, c7, R8, c8, rfl, o7, o8, hbb⟩ | ⟨hc9, -, -⟩) <;> first | exact absurd rfl hc9 | skip; have hcz := hcur.size; have hcur := hcur.trans (hbb.mono hcz); have hcurA := below_al hcur (.cells #[.slice R7 n1 c7, .slice R8 n2 c8, .func (.func 94) #[.slice A n c] #[]] 69); have hal := below_al hcur (.cells #[.slice none 0 0, .slice none 0 0, .nilFunc] 69); have zb := box3_new 69 wb (.slice none 0 0) (.slice none 0 0) .nilFunc; have hg := hcur.size; have q0 := zb.c0; have q1 := zb.c1; have q2 := zb.c2; have q4 := (zb.set01 (.slice R7 n1 c7) (.slice R8 n2 c8)).c2; have q5 := (zb.set01 (.slice R7 n1 c7) (.slice R8 n2 c8)).fr 2; have qf0 := zb.fr 0; have qf1 := zb.fr 1; have qf2 := zb.fr 2; have hsb := set3_below hal hg (.slice R7 n1 c7) (.slice R8 n2 c8) (.func (.func 94) #[.slice A n c] #[])) | ((with_reducible refine (HMF9.out _ hal).mono ?_); rintro e wb (⟨-, R7, c7, R8, c8, rfl, o7, o8, hbb⟩ | ⟨hc9, -, -⟩) <;> first | exact absurd rfl hc9 | skip; have hcz := hal.size; have hal := hal.trans (hbb.mono hcz); have zb := zb.next hbb; have q0 := zb.c0; have q1 := zb.c1; have q2 := zb.c2; have q4 := (zb.set01 (.slice R7 n1 c7) (.slice R8 n2 c8)).c2; have q5 := (zb.set01 (.slice R7 n1 c7) (.slice R8 n2 c8)).fr 2; have qf0 := zb.fr 0; have qf1 := zb.fr 1; have qf2 := zb.fr 2; have hsb := set3_below hal hg (.slice R7 n1 c7) (.slice R8 n2 c8) (.func (.func 94) #[.slice A n c] #[]))))
      all_goals (
        go_wp2_with fail
        go_meet
        first
        | exact ⟨rfl, hcurA⟩
        | exact ⟨rfl, hsb⟩)
    case rest =>
      obtain ⟨rfl, hbc⟩ := hcut
      have hb3 := hb2.trans (hbc.mono hb2.size)
      have y0 := (x1.next hb3).c0
      have y1 := (x1.next hb3).c1
      have y2 := (x2.next hb3).c0
      have y3 := (x2.next hb3).c1
      have HG9 := Lib.hid (HMG.out wc hb3)
      clear hcur hcd
      go_wp2_with fail
      refine HG9.out.mono ?_
      rintro e w5 (⟨hc9, -⟩ | ⟨-, rfl, hb5⟩)
      · exact absurd hc9 hC2
      have hb6 := hb3.trans (hb5.mono hb3.size)
      go_wp2_with fail
      go_ret2
      exact lss_err C (below_al (HB.out.trans (hb6.mono HB.out.size)) _)
  rw [hC2] at HMG
  obtain ⟨hq, ha1, ha2, hE1, hE2, hXW, hWl, hWw⟩ := mCode_zero h1.1 h2.1 hC1
  obtain ⟨-, -, -, hE2', hE3, hYV, hVl, hVw⟩ := mCode_zero h2.1 h3.1 hC2
  obtain ⟨rs1, rfl, -, h8, hr1, hrel1, hl1, hd1, -⟩ := alphB_nats L1 xs1 n1 h1.1 ha1
  obtain ⟨rs2, rfl, -, h28, hr2, hrel2, hl2, hd2, -⟩ := alphB_nats L2 xs2 n2 h2.1 ha2
  obtain ⟨rs3, rfl, -, h38, hr3, hrel3, hl3, hd3, -⟩ := alphB_nats L3 xs3 n3 h3.1 ha3
  subst hE1 hE2 hE3
  have hnn : n = n1 := by
    have e := congrArg List.length hts
    rw [hXW, List.length_map, List.length_map, hWl] at e
    have := ht.1; omega
  subst hnn
  have hmm : m = n2 := by
    have e := congrArg List.length hus
    rw [hYV, List.length_map, List.length_map, hVl] at e
    have := hu.1; omega
  subst hmm
  have hcm : cmCode (n : Int) (ints rs1) (m : Int) (ints rs2) (n3 : Int) (ints rs3) X Y = 0 := by rw [cmCode_g _ _ _ _ _ _ _ _ ha3 hC1]; exact hC2
  obtain ⟨Ws, hWs⟩ : ∃ Ws, Ws = natW X := ⟨_, rfl⟩
  obtain ⟨Vs, hVs⟩ : ∃ Vs, Vs = natW Y := ⟨_, rfl⟩
  have hcA : cmAns (n : Int) (ints rs1) (m : Int) (ints rs2) (n3 : Int) (ints rs3) X Y = if cmB Ws Vs = true then (cmL rs3 Ws Vs, 0) else ([], 3) := by unfold cmAns; rw [if_pos hcm, ints_toNat, ← hWs, ← hVs]
  rw [← hWs] at hXW hWl hWw
  rw [← hVs] at hYV hVl hVw
  have HWT := Lib.hid (fun k t htk => rows_at (hts.trans hXW) k t htk)
  have HVT := Lib.hid (fun k t htk => rows_at (hus.trans hYV) k t htk)
  have HWW := Lib.hid hWw
  have HVW := Lib.hid hVw
  have HD3 := Lib.hid ((depB_iff rs3 n3 hl3 hr3).1 hd3)
  have HL3 := Lib.hid hl3
  have HR3 := Lib.hid hr3
  have HWL := Lib.hid hWl
  obtain ⟨ANS, hANS⟩ : ∃ P, P = (if cmB Ws Vs = true then (cmL rs3 Ws Vs, (0 : Int)) else ([], 3)) := ⟨_, rfl⟩
  have HA1 : Hid (cmB Ws Vs = true → ANS = (cmL rs3 Ws Vs, 0)) := Lib.hid (fun h => by rw [hANS, if_pos h])
  have HA2 : Hid (cmB Ws Vs = false → ANS = ([], 3)) := Lib.hid (fun h => by rw [hANS, if_neg (by rw [h]; decide)])
  rw [hcA, ← hANS]
  clear hANS
  have HIO : Hid (∀ (ww : World) (R5 R6 : Option Addr) (c5 c6 : Nat) (U : Option Addr) (q e9 k : Nat), Below w1.heap.size w1 ww → Rd ww R6 n3 (ints rs3) → Rd ww U q (ints (Ws.getD k [])) → Calls Tryd.prog 55 #[.agg #[.slice R5 m c5, .slice R6 n3 c6, .func (.func 94) #[.slice B m d] #[]], .slice U q e9] ww (LsPost ww (ints (poF rs3 (imW Vs (Ws.getD k []))).1).length (ints (poF rs3 (imW Vs (Ws.getD k []))).1) (poF rs3 (imW Vs (Ws.getD k []))).2)) := Lib.hid (fun ww R5 R6 c5 c6 U q e9 k hw hr hU =>
    letImageOf_any R5 R6 B m c5 n3 c6 d U q e9 rs3 (Ws.getD k []) us Vs ww hr (by omega) (by omega) HL3.out HR3.out HD3.out (hhu.below hw) HVT.out HVW.out hU (by have := hU.1; rw [ints_len] at this; have := (lm_at HWW.out k).1; omega) (lm_at HWW.out k).2 (hT1.below hw))
  · obtain ⟨Q, hQ⟩ : ∃ Q, Q = lmB (m : Int) (n3 : Int) Y := ⟨_, rfl⟩
    rw [← hQ] at HMF HLM
    rw [ints_toNat] at HMG HMF
    rw [ints_toNat] at HMG HMF
    clear hQ ha3 hcm hcA hC1 hC2 hq ha1 ha2 hXW hWl hWw hYV hVl hVw hWs hVs hts ht hus hu h1 h2 h3 hr1 hrel1 hl1 hd1 hr2 hrel2 hl2 hd2 hr3 hrel3 hl3 hd3 hT hE2'
    go_enter Tryd.func32, Tryd.ntmps32
    go_wp2_with fail
    rw [← HW1.out]
    refine HI3.out.mono ?_
    rintro e w2 ⟨rfl, hb2⟩
    have hcur : Below w2.heap.size w2 w2.drew := (Below.refl _ _).drew
    have HS9 : Hid (∀ w', Below w2.heap.size w2 w' → w'.cell? ⟨w.heap.size, 0, none⟩ = some (.int .i64 (n : Int)) ∧ w'.cell? ⟨w.heap.size, 1, none⟩ = some (.slice R1 n c1) ∧ w'.cell? ⟨w.heap.size + 1, 0, none⟩ = some (.int .i64 (m : Int)) ∧ w'.cell? ⟨w.heap.size + 1, 1, none⟩ = some (.slice R2 m c2) ∧ w'.cell? ⟨w.heap.size + 1 + 1, 0, none⟩ = some (.int .i64 (n3 : Int)) ∧ w'.cell? ⟨w.heap.size + 1 + 1, 1, none⟩ = some (.slice R3 n3 c3)) := Lib.hid (fun w' hw => ⟨(x0.next (hb2.trans (hw.mono hb2.size))).c0, (x0.next (hb2.trans (hw.mono hb2.size))).c1, (x1.next (hb2.trans (hw.mono hb2.size))).c0, (x1.next (hb2.trans (hw.mono hb2.size))).c1, (x2.next (hb2.trans (hw.mono hb2.size))).c0, (x2.next (hb2.trans (hw.mono hb2.size))).c1⟩)
    have hcd := HS9.out _ hcur
    have HLM9 := Lib.hid (fun ww hw => HLM.out ww (hb2.trans (Below.mono hw hb2.size)))
    have HMF9 := Lib.hid (fun ww hw => HMF.out ww (hb2.trans (Below.mono hw hb2.size)))
    have hcurB : Below w2.heap.size w2 ((w2.alloc (.cells #[.slice none 0 0, .slice none 0 0, .nilFunc] 69)).drew) := (below1 w2 (.cells #[.slice none 0 0, .slice none 0 0, .nilFunc] 69)).drew
    have hcurC : Below w2.heap.size w2 (w2.drew.alloc (.cells #[.slice none 0 0, .slice none 0 0, .nilFunc] 69)) := below_al hcur (.cells #[.slice none 0 0, .slice none 0 0, .nilFunc] 69)
    have zbB : Box3 69 ((w2.alloc (.cells #[.slice none 0 0, .slice none 0 0, .nilFunc] 69)).drew) w2.heap.size (.slice none 0 0) (.slice none 0 0) .nilFunc := box3_new 69 w2 _ _ _
    have zbC : Box3 69 (w2.drew.alloc (.cells #[.slice none 0 0, .slice none 0 0, .nilFunc] 69)) w2.heap.size (.slice none 0 0) (.slice none 0 0) .nilFunc := box3_new 69 w2.drew _ _ _
    go_upto_region 3 with fail
    go_cut [13] from 23 to 33 (fun q wx => q = .int .i64 0 ∧ Below w2.heap.size w2 wx)
    case first =>
      go_region_held3 (fun w' => w'.cell? ⟨w.heap.size, 0, none⟩ = some (.int .i64 (n : Int)) ∧ w'.cell? ⟨w.heap.size, 1, none⟩ = some (.slice R1 n c1) ∧ w'.cell? ⟨w.heap.size + 1, 0, none⟩ = some (.int .i64 (m : Int)) ∧ w'.cell? ⟨w.heap.size + 1, 1, none⟩ = some (.slice R2 m c2) ∧ w'.cell? ⟨w.heap.size + 1 + 1, 0, none⟩ = some (.int .i64 (n3 : Int)) ∧ w'.cell? ⟨w.heap.size + 1 + 1, 1, none⟩ = some (.slice R3 n3 c3)) (first | exact hcd | exact HS9.out _ hcur | exact HS9.out _ hal | exact HS9.out _ hcurA | exact HS9.out _ hsb | exact HS9.out _ hcurB | exact HS9.out _ hcurC | go_keep) (first | (go_at_call 62; first | ((with_reducible refine (HLM9.out _ hcur).mono ?_); rintro e wa ⟨rfl, hba⟩; have hcz := hcur.size; have hcur := hcur.trans (hba.mono hcz); have hal := below_al hcur (.cells #[.slice none 0 0, .slice none 0 0, .nilFunc] 69); have zb := box3_new 69 wa (.slice none 0 0) (.slice none 0 0) .nilFunc; have hg := hcur.size) | ((with_reducible refine (HLM9.out _ hcurB).mono ?_); rintro e wa ⟨rfl, hba⟩; have hcz := hcurB.size; have hal := hcurB.trans (hba.mono hcz); have zb := zbB.next hba; have hg := Nat.le_refl w2.heap.size) | ((with_reducible refine (HLM9.out _ hcurC).mono ?_); rintro e wa ⟨rfl, hba⟩; have hcz := hcurC.size; have hal := hcurC.trans (hba.mono hcz); have zb := zbC.next hba; have hg := Nat.le_refl w2.heap.size)) | (go_at_call 51; first | ((with_reducible refine (HMF9.out _ hcur).mono ?_); rintro e wb (⟨-, R7, c7, R8, c8, rfl, o7, o8, hbb⟩ | ⟨hc9, -, -⟩) <;> first | exact absurd rfl hc9 | skip; have hcz := hcur.size; have hcur := hcur.trans (hbb.mono hcz); have hcurA := below_al hcur (.cells #[.slice R7 n c7, .slice R8 m c8, .func (.func 94) #[.slice A n c] #[]] 69); have hal := below_al hcur (.cells #[.slice none 0 0, .slice none 0 0, .nilFunc] 69); have zb := box3_new 69 wb (.slice none 0 0) (.slice none 0 0) .nilFunc; have hg := hcur.size; have q0 := zb.c0; have q1 := zb.c1; have q2 := zb.c2; have q4 := (zb.set01 (.slice R7 n c7) (.slice R8 m c8)).c2; have q5 := (zb.set01 (.slice R7 n c7) (.slice R8 m c8)).fr 2; have qf0 := zb.fr 0; have qf1 := zb.fr 1; have qf2 := zb.fr 2; have hsb := set3_below hal hg (.slice R7 n c7) (.slice R8 m c8) (.func (.func 94) #[.slice A n c] #[])) | ((with_reducible refine (HMF9.out _ hal).mono ?_); rintro e wb (⟨-, R7, c7, R8, c8, rfl, o7, o8, hbb⟩ | ⟨hc9, -, -⟩) <;> first | exact absurd rfl hc9 | skip; have hcz := hal.size; have hal := hal.trans (hbb.mono hcz); have zb := zb.next hbb; have q0 := zb.c0; have q1 := zb.c1; have q2 := zb.c2; have q4 := (zb.set01 (.slice R7 n c7) (.slice R8 m c8)).c2; have q5 := (zb.set01 (.slice R7 n c7) (.slice R8 m c8)).fr 2; have qf0 := zb.fr 0; have qf1 := zb.fr 1; have qf2 := zb.fr 2; have hsb := set3_below hal hg (.slice R7 n c7) (.slice R8 m c8) (.func (.func 94) #[.slice A n c] #[]))))
      all_goals (
        go_wp2_with fail
        go_meet
        first
        | exact ⟨rfl, hcurA⟩
        | exact ⟨rfl, hsb⟩)
    case rest =>
      obtain ⟨rfl, hbc⟩ := hcut
      have hb3 := hb2.trans (hbc.mono hb2.size)
      have y0 := (x1.next hb3).c0
      have y1 := (x1.next hb3).c1
      have y2 := (x2.next hb3).c0
      have y3 := (x2.next hb3).c1
      have HG9 := Lib.hid (HMG.out wc hb3)
      clear hcur hcd
      go_wp2_with fail
      refine HG9.out.mono ?_
      rintro e w5 (⟨-, R5, c5, R6, c6, rfl, o5, o6, hb5⟩ | ⟨hc9, -⟩)
      rotate_left
      · exact absurd rfl hc9
      have hb6 := hb3.trans (hb5.mono hb3.size)
      have zb := box3_new 69 w5 (.slice R5 m c5) (.slice R6 n3 c6) (.func (.func 94) #[.slice B m d] #[])
      have hb7 := below_al hb6 (.cells #[.slice R5 m c5, .slice R6 n3 c6, .func (.func 94) #[.slice B m d] #[]] 69)
      have hr6 := o6.rd.below (below1 w5 (.cells #[.slice R5 m c5, .slice R6 n3 c6, .func (.func 94) #[.slice B m d] #[]] 69))
      clear y0 y1 y2 y3 HG9 o5 o6 hb5 hb6 hb3 hbc
      go_wp2_with fail
      obtain ⟨w6, hw6⟩ : ∃ w6, w6 = w5.alloc (.cells #[.slice R5 m c5, .slice R6 n3 c6, .func (.func 94) #[.slice B m d] #[]] 69) := ⟨_, rfl⟩
      rw [← hw6] at zb hb7 hr6 ⊢
      clear hw6
      have ht6 := hht.below hb7
      have HB7 := Lib.hid (HB.out.trans (hb7.mono HB.out.size))
      go_loopw [15, 49] (fun p i wr => ∃ (k : Nat) (A3 : Option Addr) (c3' : Nat), k ≤ n ∧ p = .slice A3 k c3' ∧ i = .int .i64 (k : Int) ∧ OwnSS wr w6.heap.size wr.heap.size A3 k c3' (cmL rs3 (Ws.take k) Vs) ∧ Below w6.heap.size w6 wr ∧ Hid (∀ j, j < k → (imW Vs (Ws.getD j [])).length ≤ 24)) (fun _ i _ => n - (intOf i).toNat)
      case atStart => exact ⟨0, none, 0, Nat.zero_le _, rfl, rfl, OwnSS.nil _ _, Below.refl _ _, Lib.hid (fun j hj => absurd hj (Nat.not_lt_zero _))⟩
      case round =>
        obtain ⟨k, A3, c3', hk, rfl, rfl, hss, hb, HSM⟩ := hrel
        obtain ⟨wo, hwo⟩ : ∃ wo, wo = wr := ⟨_, rfl⟩
        rw [← hwo] at hss hb ⊢
        clear hwo
        by_cases hlt : k < n
        · obtain ⟨b, off, U, q, e9, xs, rfl, hbs, hx, hcx, hrd, hq⟩ := (ht6.below hb).at_ hlt
          have hxs : xs = ints (Ws.getD k []) := HWT.out k _ hx
          subst hxs
          have q0 := (zb.next hb).c0
          have q1 := (zb.next hb).c1
          have q2 := (zb.next hb).c2
          have HI9 := Lib.hid (HIO.out wo R5 R6 c5 c6 U q e9 k (hb7.trans (hb.mono hb7.size)) (hr6.below hb) hrd)
          have HNX := Lib.hid (cmL_take rs3 Ws Vs k (by rw [HWL.out]; exact hlt))
          obtain ⟨W, hW⟩ : ∃ W, W = imW Vs (Ws.getD k []) := ⟨_, rfl⟩
          rw [← hW] at HI9 HNX
          have HWk : Hid (W = imW Vs (Ws.getD k [])) := Lib.hid hW
          clear hx hrd hW
          by_cases hlong : 24 < W.length
          · rw [poF_long rs3 W hlong] at HI9
            have HBN := Lib.hid (cmB_no Ws Vs k (by rw [HWL.out]; exact hlt) (by rw [← HWk.out]; exact hlong))
            obtain rfl := HA2.out HBN.out
            clear hlong
            go_wp2_with fail
            refine HI9.out.mono ?_
            rintro e w7 ⟨A7, c7, rfl, o7, hb8⟩
            go_wp2_with fail
            go_ret2
            exact lss_err 3 (HB7.out.trans ((hb.trans (hb8.mono hb.size)).mono HB7.out.size))
          · rw [poF_yes rs3 W (by omega)] at HI9
            have HSH : Hid ((imW Vs (Ws.getD k [])).length ≤ 24) := Lib.hid (by rw [← HWk.out]; omega)
            obtain ⟨ys, hys⟩ : ∃ ys, ys = ints (nfR rs3 W) := ⟨_, rfl⟩
            have HI8 : Hid (Calls Tryd.prog 55 #[.agg #[.slice R5 m c5, .slice R6 n3 c6, .func (.func 94) #[.slice B m d] #[]], .slice U q e9] wo (LsPost wo ys.length ys 0)) := Lib.hid (by rw [hys]; exact HI9.out)
            rw [← hys] at HNX
            obtain ⟨K, hK⟩ : ∃ K, K = ys.length := ⟨_, rfl⟩
            rw [← hK] at HI8
            obtain ⟨tt, htt, hot⟩ := hss
            have HTT := Lib.hid htt
            have hkb : (k + 1) * 24 ≤ 140737488355328 := by omega
            have hml : k + 1 ≤ maxLen := by unfold maxLen; omega
            clear hlong HI9 hys hK htt
            go_wp2_with fail
            refine HI8.out.mono ?_
            rintro e w3 ⟨At, ct, rfl, hel, hbe⟩
            clear q0 q1 q2
            have hrow3 := row_kept hot.2.1 (grownBy_of_below hbe) (fun q _ e => by cases e)
            have hrb : ∀ q, A3.map (·.block) = some q → w6.heap.size ≤ q := fun q hq => (row_block hot.2.1 q hq).1
            go_wp2_with (at_builtin; refine wpList_append_own_at _ rfl _ _ 25 rfl w6.heap.size 22 i1 (.slice none 0 0) 1 24 Tryd.underlying25 hi1 hy0 hy1 hy2 rfl (by decide) (.slice A3 k c3') k (valsT tt) rfl (World.ownsRow.alloc hrow3 _) ⟨w3.heap.size, 0, none⟩ 1 1 [.slice At K ct] rfl rfl ?c1 ?c2 hml hkb ?c5 ?_)
            case c1 => exact cell_one_new _ _ _
            case c2 => intro u hu; simp at hu; subst hu; rfl
            case c5 => have := hb.size; have := hbe.size; simp; omega
            intro v' w4 hown hg _ hat
            have hbw3 := hb.trans (hbe.mono hb.size)
            have hb4 : Below w6.heap.size w6 w4 := (hbw3.alloc hbw3.size _).grown hg (by have := hbw3.size; simp; omega) (fun r hr => hrb r (by rw [own_block] at hr; exact hr))
            have hg3 := alloc_grown' hg
            rw [own_block] at hg3 hat
            obtain ⟨A4, c4, hv, hss4⟩ := OwnSS.snoc hot hbe hel hb.size hown hg3 (hat.imp id fun h9 => ⟨_, h9, Nat.le_succ _⟩)
            rw [hv]
            rw [HTT.out, ← HNX.out] at hss4
            clear hown hg hv hot hb hbe hel hrow3 hg3 hat hbw3
            go_wp2_with fail
            go_roundw
            case rel => exact ⟨k + 1, A4, c4, by omega, rfl, by go_num, hss4, hb4, Lib.hid (fun j hj => by
              by_cases e : j = k
              · subst e; exact HSH.out
              · exact HSM.out j (by omega))⟩
            case measure => simp [intOf]; omega
        · obtain rfl : k = n := by omega
          have htk : Ws.take k = Ws := List.take_of_length_le (by rw [HWL.out]; exact Nat.le_refl _)
          rw [htk] at hss
          have HBY := Lib.hid (cmB_yes Ws Vs (fun j hj => HSM.out j (by rw [← HWL.out]; exact hj)))
          obtain rfl := HA1.out HBY.out
          have hl9 : (cmL rs3 Ws Vs).length = k := by unfold cmL; rw [List.length_map, HWL.out]
          clear htk
          go_wp2_with fail
          go_ret2
          have hb9 := HB7.out.trans (hb.mono HB7.out.size)
          exact ⟨_, _, rfl, hss.wide HB7.out.size (Nat.le_refl _), hb9⟩
set_option maxHeartbeats 6400000 in
theorem specComposeMorphisms (L1 : Int) (R1 : Option Addr) (n1 c1 : Nat) (xs1 : List Int) (L2 : Int) (R2 : Option Addr) (n2 c2 : Nat) (xs2 : List Int) (L3 : Int) (R3 : Option Addr) (n3 c3 : Nat) (xs3 : List Int) (A : Option Addr) (n c : Nat) (X : List (List Int)) (B : Option Addr) (m d : Nat) (Y : List (List Int)) (w : World)
    (h1 : Rd w R1 n1 xs1) (hwf1 : Wf xs1) (hL11 : -9223372036854775808 ≤ L1) (hL12 : L1 ≤ 9223372036854775807) (hn1 : n1 ≤ maxLen)
    (h2 : Rd w R2 n2 xs2) (hwf2 : Wf xs2) (hL21 : -9223372036854775808 ≤ L2) (hL22 : L2 ≤ 9223372036854775807) (hn2 : n2 ≤ maxLen)
    (h3 : Rd w R3 n3 xs3) (hwf3 : Wf xs3) (hL31 : -9223372036854775808 ≤ L3) (hL32 : L3 ≤ 9223372036854775807) (hn3 : n3 ≤ maxLen)
    (h : RdSS w A n X) (hn : n ≤ 1048576) (h4 : RdSS w B m Y) (hm : m ≤ 1048576) :
    Calls Tryd.prog 31 #[.agg #[.int .i64 L1, .slice R1 n1 c1], .agg #[.int .i64 L2, .slice R2 n2 c2], .agg #[.int .i64 L3, .slice R3 n3 c3], .slice A n c, .slice B m d] w (LssPost w (cmAns L1 xs1 L2 xs2 L3 xs3 X Y).1.length (cmAns L1 xs1 L2 xs2 L3 xs3 X Y).1 (cmAns L1 xs1 L2 xs2 L3 xs3 X Y).2) := by
  obtain ⟨i1, hi1, hy0, hy1, hy2⟩ := info_parts info_sls
  obtain ⟨ts, hts, ht⟩ := h
  obtain ⟨us, hus, hu⟩ := h4
  have hm1 : n1 ≤ 9223372036854775807 := by unfold maxLen at hn1; omega
  have hm2 : n2 ≤ 9223372036854775807 := by unfold maxLen at hn2; omega
  have hm3 : n3 ≤ 9223372036854775807 := by unfold maxLen at hn3; omega
  have HB := Lib.hid (below3' w (.cells #[.int .i64 L1, .slice R1 n1 c1] 29) (.cells #[.int .i64 L2, .slice R2 n2 c2] 29) (.cells #[.int .i64 L3, .slice R3 n3 c3] 29))
  have hh1 := h1.below HB.out
  have hh2 := h2.below HB.out
  have hh3 := h3.below HB.out
  have hht := ht.below HB.out
  have hhu := hu.below HB.out
  have x0 := ((box_new 29 w L1 R1 n1 c1).next (below1 _ (.cells #[.int .i64 L2, .slice R2 n2 c2] 29))).next (below1 _ (.cells #[.int .i64 L3, .slice R3 n3 c3] 29))
  have x1 := (box_new 29 (w.alloc (.cells #[.int .i64 L1, .slice R1 n1 c1] 29)) L2 R2 n2 c2).next (below1 _ (.cells #[.int .i64 L3, .slice R3 n3 c3] 29))
  have x2 := box_new 29 ((w.alloc (.cells #[.int .i64 L1, .slice R1 n1 c1] 29)).alloc (.cells #[.int .i64 L2, .slice R2 n2 c2] 29)) L3 R3 n3 c3
  rw [size1' w] at x1
  rw [size1' (w.alloc (.cells #[.int .i64 L1, .slice R1 n1 c1] 29)), size1' w] at x2
  obtain ⟨w1, hw1⟩ : ∃ w1, w1 = ((w.alloc (.cells #[.int .i64 L1, .slice R1 n1 c1] 29)).alloc (.cells #[.int .i64 L2, .slice R2 n2 c2] 29)).alloc (.cells #[.int .i64 L3, .slice R3 n3 c3] 29) := ⟨_, rfl⟩
  have HW1 := Lib.hid hw1
  rw [← hw1] at HB x0 x1 x2 hh1 hh2 hh3 hht hhu
  clear hw1
  have HI1 := Lib.hid (l02Is_any L1 R1 n1 c1 xs1 w1 hh1 hm1)
  have HI2 : Hid (∀ ww, Below w1.heap.size w1 ww → Calls Tryd.prog 58 #[.agg #[.int .i64 L2, .slice R2 n2 c2]] ww fun e w' => e = .returned (.bool (alphB L2 xs2)) ∧ Below ww.heap.size ww w') := Lib.hid (fun ww hw => l02Is_any L2 R2 n2 c2 xs2 ww (hh2.below hw) hm2)
  have HI3 : Hid (∀ ww, Below w1.heap.size w1 ww → Calls Tryd.prog 58 #[.agg #[.int .i64 L3, .slice R3 n3 c3]] ww fun e w' => e = .returned (.bool (alphB L3 xs3)) ∧ Below ww.heap.size ww w') := Lib.hid (fun ww hw => l02Is_any L3 R3 n3 c3 xs3 ww (hh3.below hw) hm3)
  cases ha1 : alphB L1 xs1
  · rw [cmAns_err _ _ _ _ _ _ _ _ 1 (cmCode_any1 _ _ _ _ _ _ _ _ (.inl ha1)) (by decide)]
    rw [ha1] at HI1
    clear ha1
    go_enter Tryd.func31, Tryd.ntmps31
    go_wp2_with fail
    rw [← HW1.out]
    refine HI1.out.mono ?_
    rintro e w2 ⟨rfl, hb2⟩
    go_wp2_with fail
    go_ret2
    exact lss_err 1 (HB.out.trans (hb2.mono HB.out.size))
  rw [ha1] at HI1
  cases ha2 : alphB L2 xs2
  · rw [cmAns_err _ _ _ _ _ _ _ _ 1 (cmCode_any1 _ _ _ _ _ _ _ _ (.inr ha2)) (by decide)]
    rw [ha2] at HI2
    clear ha1 ha2
    go_enter Tryd.func31, Tryd.ntmps31
    go_wp2_with fail
    rw [← HW1.out]
    refine HI1.out.mono ?_
    rintro e w2 ⟨rfl, hb2⟩
    have y10 := (x1.next hb2).c0
    have y11 := (x1.next hb2).c1
    have HG0 := Lib.hid (HI2.out _ hb2)
    go_wp2_with fail
    refine HG0.out.mono ?_
    rintro e w3 ⟨rfl, hc3⟩
    have hb3 := hb2.trans (hc3.mono hb2.size)
    clear y10 y11 
    go_wp2_with fail
    go_ret2
    exact lss_err 1 (HB.out.trans (hb3.mono HB.out.size))
  rw [ha2] at HI2
  cases ha3 : alphB L3 xs3
  · rw [cmAns_err _ _ _ _ _ _ _ _ 1 (cmCode_a3 _ _ _ _ _ _ _ _ ha3) (by decide)]
    rw [ha3] at HI3
    clear ha1 ha2 ha3
    go_enter Tryd.func31, Tryd.ntmps31
    go_wp2_with fail
    rw [← HW1.out]
    refine HI1.out.mono ?_
    rintro e w2 ⟨rfl, hb2⟩
    have y10 := (x1.next hb2).c0
    have y11 := (x1.next hb2).c1
    have HG0 := Lib.hid (HI2.out _ hb2)
    go_wp2_with fail
    refine HG0.out.mono ?_
    rintro e w3 ⟨rfl, hc3⟩
    have hb3 := hb2.trans (hc3.mono hb2.size)
    clear y10 y11 
    have y20 := (x2.next hb3).c0
    have y21 := (x2.next hb3).c1
    have HG1 := Lib.hid (HI3.out _ hb3)
    go_wp2_with fail
    refine HG1.out.mono ?_
    rintro e w4 ⟨rfl, hc4⟩
    have hb4 := hb3.trans (hc4.mono hb3.size)
    clear y20 y21 
    go_wp2_with fail
    go_ret2
    exact lss_err 1 (HB.out.trans (hb4.mono HB.out.size))
  rw [ha3] at HI3
  have hL2 := alphB_L8 L2 xs2 ha2
  have hL3 := alphB_L8 L3 xs3 ha3
  have HM1 : Hid (∀ ww, Below w1.heap.size w1 ww → Calls Tryd.prog 59 #[.agg #[.int .i64 L1, .slice R1 n1 c1], .agg #[.int .i64 L2, .slice R2 n2 c2], .slice A n c] ww fun e w' => e = .returned (.bool (lmB L1 L2 X)) ∧ Below ww.heap.size ww w') := Lib.hid (fun ww hw => by
    have h9 := l08Map_any L1 L2 R1 R2 A n1 c1 n2 c2 n c ts ww (hht.below hw) hn hL2.1 hL2.2
    rw [hts] at h9; exact h9)
  have HM2 : Hid (∀ ww, Below w1.heap.size w1 ww → Calls Tryd.prog 59 #[.agg #[.int .i64 L2, .slice R2 n2 c2], .agg #[.int .i64 L3, .slice R3 n3 c3], .slice B m d] ww fun e w' => e = .returned (.bool (lmB L2 L3 Y)) ∧ Below ww.heap.size ww w') := Lib.hid (fun ww hw => by
    have h9 := l08Map_any L2 L3 R2 R3 B n2 c2 n3 c3 m d us ww (hhu.below hw) hm hL3.1 hL3.2
    rw [hus] at h9; exact h9)
  cases hlm1 : lmB L1 L2 X
  · rw [cmAns_err _ _ _ _ _ _ _ _ 2 (cmCode_f _ _ _ _ _ _ _ _ 2 ha3 (mCode_bad _ _ _ _ _ _ ha1 ha2 (by rw [hlm1, Bool.and_false])) (by decide)) (by decide)]
    rw [hlm1] at HM1
    clear ha1 ha2 ha3 hlm1
    go_enter Tryd.func31, Tryd.ntmps31
    go_wp2_with fail
    rw [← HW1.out]
    refine HI1.out.mono ?_
    rintro e w2 ⟨rfl, hb2⟩
    have y10 := (x1.next hb2).c0
    have y11 := (x1.next hb2).c1
    have HG0 := Lib.hid (HI2.out _ hb2)
    go_wp2_with fail
    refine HG0.out.mono ?_
    rintro e w3 ⟨rfl, hc3⟩
    have hb3 := hb2.trans (hc3.mono hb2.size)
    clear y10 y11 
    have y20 := (x2.next hb3).c0
    have y21 := (x2.next hb3).c1
    have HG1 := Lib.hid (HI3.out _ hb3)
    go_wp2_with fail
    refine HG1.out.mono ?_
    rintro e w4 ⟨rfl, hc4⟩
    have hb4 := hb3.trans (hc4.mono hb3.size)
    clear y20 y21 
    have y00 := (x0.next hb4).c0
    have y01 := (x0.next hb4).c1
    have y10 := (x1.next hb4).c0
    have y11 := (x1.next hb4).c1
    have HG2 := Lib.hid (HM1.out _ hb4)
    go_wp2_with fail
    refine HG2.out.mono ?_
    rintro e w5 ⟨rfl, hc5⟩
    have hb5 := hb4.trans (hc5.mono hb4.size)
    clear y00 y01 y10 y11 
    go_wp2_with fail
    go_ret2
    exact lss_err 2 (HB.out.trans (hb5.mono HB.out.size))
  rw [hlm1] at HM1
  cases hlm2 : lmB L2 L3 Y
  · rw [cmAns_err _ _ _ _ _ _ _ _ 2 (cmCode_f _ _ _ _ _ _ _ _ 2 ha3 (mCode_bad _ _ _ _ _ _ ha1 ha2 (by rw [hlm2]; rfl)) (by decide)) (by decide)]
    rw [hlm2] at HM2
    clear ha1 ha2 ha3 hlm1 hlm2
    go_enter Tryd.func31, Tryd.ntmps31
    go_wp2_with fail
    rw [← HW1.out]
    refine HI1.out.mono ?_
    rintro e w2 ⟨rfl, hb2⟩
    have y10 := (x1.next hb2).c0
    have y11 := (x1.next hb2).c1
    have HG0 := Lib.hid (HI2.out _ hb2)
    go_wp2_with fail
    refine HG0.out.mono ?_
    rintro e w3 ⟨rfl, hc3⟩
    have hb3 := hb2.trans (hc3.mono hb2.size)
    clear y10 y11 
    have y20 := (x2.next hb3).c0
    have y21 := (x2.next hb3).c1
    have HG1 := Lib.hid (HI3.out _ hb3)
    go_wp2_with fail
    refine HG1.out.mono ?_
    rintro e w4 ⟨rfl, hc4⟩
    have hb4 := hb3.trans (hc4.mono hb3.size)
    clear y20 y21 
    have y00 := (x0.next hb4).c0
    have y01 := (x0.next hb4).c1
    have y10 := (x1.next hb4).c0
    have y11 := (x1.next hb4).c1
    have HG2 := Lib.hid (HM1.out _ hb4)
    go_wp2_with fail
    refine HG2.out.mono ?_
    rintro e w5 ⟨rfl, hc5⟩
    have hb5 := hb4.trans (hc5.mono hb4.size)
    clear y00 y01 y10 y11 
    have y10 := (x1.next hb5).c0
    have y11 := (x1.next hb5).c1
    have y20 := (x2.next hb5).c0
    have y21 := (x2.next hb5).c1
    have HG3 := Lib.hid (HM2.out _ hb5)
    go_wp2_with fail
    refine HG3.out.mono ?_
    rintro e w6 ⟨rfl, hc6⟩
    have hb6 := hb5.trans (hc6.mono hb5.size)
    clear y10 y11 y20 y21 
    go_wp2_with fail
    go_ret2
    exact lss_err 2 (HB.out.trans (hb6.mono HB.out.size))
  rw [hlm2] at HM2
  obtain ⟨rs1, rfl, rfl, h8, hr1, hrel1, hl1, hd1, -⟩ := alphB_nats L1 xs1 n1 h1.1 ha1
  obtain ⟨rs2, rfl, rfl, h28, hr2, hrel2, hl2, hd2, -⟩ := alphB_nats L2 xs2 n2 h2.1 ha2
  obtain ⟨rs3, rfl, rfl, h38, hr3, hrel3, hl3, hd3, -⟩ := alphB_nats L3 xs3 n3 h3.1 ha3
  obtain ⟨Ws, hXW, hWl0, hWw⟩ := lm_nats (n1 : Int) n2 X hlm1
  obtain ⟨Vs, hYV, hVl0, hVw⟩ := lm_nats (n2 : Int) n3 Y hlm2
  have hWl : Ws.length = n1 := by omega
  have hVl : Vs.length = n2 := by omega
  have hnn : n = n1 := by
    have e := congrArg List.length hts
    rw [hXW, List.length_map, List.length_map, hWl] at e
    have := ht.1; omega
  subst hnn
  have hmm : m = n2 := by
    have e := congrArg List.length hus
    rw [hYV, List.length_map, List.length_map, hVl] at e
    have := hu.1; omega
  subst hmm
  have HWT := Lib.hid (fun k t htk => rows_at (hts.trans hXW) k t htk)
  have HVT := Lib.hid (fun k t htk => rows_at (hus.trans hYV) k t htk)
  have HWW := Lib.hid hWw
  have HVW := Lib.hid hVw
  have HR1 : Hid (∀ ww, Below w1.heap.size w1 ww → Calls Tryd.prog 60 #[.agg #[.int .i64 (n : Int), .slice R1 n c1], .agg #[.int .i64 (m : Int), .slice R2 m c2], .slice A n c] ww fun e w' => e = .returned (.bool (morB rs1 rs2 Ws)) ∧ Below ww.heap.size ww w') := Lib.hid (fun ww hw => l08Morphism_any R1 R2 A n c1 m c2 c rs1 rs2 ts Ws ww (hh1.below hw) h8 hr1 (hh2.below hw) h28 hr2 (hht.below hw) HWT.out hWw)
  have HR2 : Hid (∀ ww, Below w1.heap.size w1 ww → Calls Tryd.prog 60 #[.agg #[.int .i64 (m : Int), .slice R2 m c2], .agg #[.int .i64 (n3 : Int), .slice R3 n3 c3], .slice B m d] ww fun e w' => e = .returned (.bool (morB rs2 rs3 Vs)) ∧ Below ww.heap.size ww w') := Lib.hid (fun ww hw => l08Morphism_any R2 R3 B m c2 n3 c3 d rs2 rs3 us Vs ww (hh2.below hw) h28 hr2 (hh3.below hw) h38 hr3 (hhu.below hw) HVT.out hVw)
  have hcX : mCode (n : Int) (ints rs1) (m : Int) (ints rs2) X (lmB (m : Int) (n3 : Int) Y) = if morB rs1 rs2 Ws = true then 0 else 5 := by
    rw [hlm2, hXW]
    exact mCode_in _ _ rs1 rs2 Ws true ha1 ha2 (by rw [← hXW, hlm1]; rfl) (natW_ints Ws)
  have hcY : mCode (m : Int) (ints rs2) (n3 : Int) (ints rs3) Y true = if morB rs2 rs3 Vs = true then 0 else 5 := by
    rw [hYV]
    exact mCode_in _ _ rs2 rs3 Vs true ha2 ha3 (by rw [← hYV, hlm2]; rfl) (natW_ints Vs)
  cases hmo1 : morB rs1 rs2 Ws
  · rw [cmAns_err _ _ _ _ _ _ _ _ 5 (cmCode_f _ _ _ _ _ _ _ _ 5 ha3 (by rw [hcX, hmo1]; rfl) (by decide)) (by decide)]
    rw [hmo1] at HR1
    clear hcX hcY ha1 ha2 ha3 hlm1 hlm2 hmo1 hXW hYV hWl0 hVl0 hWl hVl hWw hVw hts ht hus hu h1 h2 h3 hr1 hrel1 hl1 hd1 hr2 hrel2 hl2 hd2 hr3 hrel3 hl3 hd3
    go_enter Tryd.func31, Tryd.ntmps31
    go_wp2_with fail
    rw [← HW1.out]
    refine HI1.out.mono ?_
    rintro e w2 ⟨rfl, hb2⟩
    have y10 := (x1.next hb2).c0
    have y11 := (x1.next hb2).c1
    have HG0 := Lib.hid (HI2.out _ hb2)
    go_wp2_with fail
    refine HG0.out.mono ?_
    rintro e w3 ⟨rfl, hc3⟩
    have hb3 := hb2.trans (hc3.mono hb2.size)
    clear y10 y11 
    have y20 := (x2.next hb3).c0
    have y21 := (x2.next hb3).c1
    have HG1 := Lib.hid (HI3.out _ hb3)
    go_wp2_with fail
    refine HG1.out.mono ?_
    rintro e w4 ⟨rfl, hc4⟩
    have hb4 := hb3.trans (hc4.mono hb3.size)
    clear y20 y21 
    have y00 := (x0.next hb4).c0
    have y01 := (x0.next hb4).c1
    have y10 := (x1.next hb4).c0
    have y11 := (x1.next hb4).c1
    have HG2 := Lib.hid (HM1.out _ hb4)
    go_wp2_with fail
    refine HG2.out.mono ?_
    rintro e w5 ⟨rfl, hc5⟩
    have hb5 := hb4.trans (hc5.mono hb4.size)
    clear y00 y01 y10 y11 
    have y10 := (x1.next hb5).c0
    have y11 := (x1.next hb5).c1
    have y20 := (x2.next hb5).c0
    have y21 := (x2.next hb5).c1
    have HG3 := Lib.hid (HM2.out _ hb5)
    go_wp2_with fail
    refine HG3.out.mono ?_
    rintro e w6 ⟨rfl, hc6⟩
    have hb6 := hb5.trans (hc6.mono hb5.size)
    clear y10 y11 y20 y21 
    have y00 := (x0.next hb6).c0
    have y01 := (x0.next hb6).c1
    have y10 := (x1.next hb6).c0
    have y11 := (x1.next hb6).c1
    have HG4 := Lib.hid (HR1.out _ hb6)
    go_wp2_with fail
    refine HG4.out.mono ?_
    rintro e w7 ⟨rfl, hc7⟩
    have hb7 := hb6.trans (hc7.mono hb6.size)
    clear y00 y01 y10 y11 
    go_wp2_with fail
    go_ret2
    exact lss_err 5 (HB.out.trans (hb7.mono HB.out.size))
  rw [hmo1] at HR1
  have hC1 : mCode (n : Int) (ints rs1) (m : Int) (ints rs2) X (lmB (m : Int) (n3 : Int) Y) = 0 := by rw [hcX, hmo1]; rfl
  cases hmo2 : morB rs2 rs3 Vs
  · rw [cmAns_err _ _ _ _ _ _ _ _ 5 (by rw [cmCode_g _ _ _ _ _ _ _ _ ha3 hC1, hcY, hmo2]; rfl) (by decide)]
    rw [hmo2] at HR2
    clear hC1 hcX hcY ha1 ha2 ha3 hlm1 hlm2 hmo1 hmo2 hXW hYV hWl0 hVl0 hWl hVl hWw hVw hts ht hus hu h1 h2 h3 hr1 hrel1 hl1 hd1 hr2 hrel2 hl2 hd2 hr3 hrel3 hl3 hd3
    go_enter Tryd.func31, Tryd.ntmps31
    go_wp2_with fail
    rw [← HW1.out]
    refine HI1.out.mono ?_
    rintro e w2 ⟨rfl, hb2⟩
    have y10 := (x1.next hb2).c0
    have y11 := (x1.next hb2).c1
    have HG0 := Lib.hid (HI2.out _ hb2)
    go_wp2_with fail
    refine HG0.out.mono ?_
    rintro e w3 ⟨rfl, hc3⟩
    have hb3 := hb2.trans (hc3.mono hb2.size)
    clear y10 y11 
    have y20 := (x2.next hb3).c0
    have y21 := (x2.next hb3).c1
    have HG1 := Lib.hid (HI3.out _ hb3)
    go_wp2_with fail
    refine HG1.out.mono ?_
    rintro e w4 ⟨rfl, hc4⟩
    have hb4 := hb3.trans (hc4.mono hb3.size)
    clear y20 y21 
    have y00 := (x0.next hb4).c0
    have y01 := (x0.next hb4).c1
    have y10 := (x1.next hb4).c0
    have y11 := (x1.next hb4).c1
    have HG2 := Lib.hid (HM1.out _ hb4)
    go_wp2_with fail
    refine HG2.out.mono ?_
    rintro e w5 ⟨rfl, hc5⟩
    have hb5 := hb4.trans (hc5.mono hb4.size)
    clear y00 y01 y10 y11 
    have y10 := (x1.next hb5).c0
    have y11 := (x1.next hb5).c1
    have y20 := (x2.next hb5).c0
    have y21 := (x2.next hb5).c1
    have HG3 := Lib.hid (HM2.out _ hb5)
    go_wp2_with fail
    refine HG3.out.mono ?_
    rintro e w6 ⟨rfl, hc6⟩
    have hb6 := hb5.trans (hc6.mono hb5.size)
    clear y10 y11 y20 y21 
    have y00 := (x0.next hb6).c0
    have y01 := (x0.next hb6).c1
    have y10 := (x1.next hb6).c0
    have y11 := (x1.next hb6).c1
    have HG4 := Lib.hid (HR1.out _ hb6)
    go_wp2_with fail
    refine HG4.out.mono ?_
    rintro e w7 ⟨rfl, hc7⟩
    have hb7 := hb6.trans (hc7.mono hb6.size)
    clear y00 y01 y10 y11 
    have y10 := (x1.next hb7).c0
    have y11 := (x1.next hb7).c1
    have y20 := (x2.next hb7).c0
    have y21 := (x2.next hb7).c1
    have HG5 := Lib.hid (HR2.out _ hb7)
    go_wp2_with fail
    refine HG5.out.mono ?_
    rintro e w8 ⟨rfl, hc8⟩
    have hb8 := hb7.trans (hc8.mono hb7.size)
    clear y10 y11 y20 y21 
    go_wp2_with fail
    go_ret2
    exact lss_err 5 (HB.out.trans (hb8.mono HB.out.size))
  rw [hmo2] at HR2
  · have hC2 : mCode (m : Int) (ints rs2) (n3 : Int) (ints rs3) Y true = 0 := by rw [hcY, hmo2]; rfl
    have hcm : cmCode (n : Int) (ints rs1) (m : Int) (ints rs2) (n3 : Int) (ints rs3) X Y = 0 := by rw [cmCode_g _ _ _ _ _ _ _ _ ha3 hC1]; exact hC2
    have hWs : natW X = Ws := by rw [hXW, natW_ints]
    have hVs : natW Y = Vs := by rw [hYV, natW_ints]
    have hcA : cmAns (n : Int) (ints rs1) (m : Int) (ints rs2) (n3 : Int) (ints rs3) X Y = if cmB Ws Vs = true then (cmL rs3 Ws Vs, 0) else ([], 3) := by unfold cmAns; rw [if_pos hcm, ints_toNat, hWs, hVs]
    obtain ⟨ANS, hANS⟩ : ∃ P, P = (if cmB Ws Vs = true then (cmL rs3 Ws Vs, (0 : Int)) else ([], 3)) := ⟨_, rfl⟩
    have HA1 : Hid (cmB Ws Vs = true → ANS = (cmL rs3 Ws Vs, 0)) := Lib.hid (fun h => by rw [hANS, if_pos h])
    have HA2 : Hid (cmB Ws Vs = false → ANS = ([], 3)) := Lib.hid (fun h => by rw [hANS, if_neg (by rw [h]; decide)])
    rw [hcA, ← hANS]
    have HL3 := Lib.hid hl3
    have HR3 := Lib.hid hr3
    have HWL := Lib.hid hWl
    have HIM : Hid (∀ (ww : World) (U : Option Addr) (q e9 k : Nat), Below w1.heap.size w1 ww → Rd ww U q (ints (Ws.getD k [])) → Calls Tryd.prog 52 #[.slice B m d, .slice U q e9] ww (MakesE 2 ww (imW Vs (Ws.getD k [])).length (ints (imW Vs (Ws.getD k []))))) := Lib.hid (fun ww U q e9 k hw hU => l08Image_any B U m d q e9 n3 (Ws.getD k []) us Vs ww (hhu.below hw) HVT.out HVW.out hU (by have := hU.1; rw [ints_len] at this; have := (lm_at HWW.out k).1; omega) (lm_at HWW.out k).2)
    clear hANS hcA hcm hC2 hC1 hcX hcY ha1 ha2 ha3 hlm1 hlm2 hmo1 hmo2 hXW hYV hWl0 hVl0 hWl hVl hWw hVw hWs hVs hts ht hus hu h1 h2 h3 hr1 hrel1 hl1 hd1 hr2 hrel2 hl2 hd2 hr3 hrel3 hl3 hd3
    go_enter Tryd.func31, Tryd.ntmps31
    go_wp2_with fail
    rw [← HW1.out]
    refine HI1.out.mono ?_
    rintro e w2 ⟨rfl, hb2⟩
    have y10 := (x1.next hb2).c0
    have y11 := (x1.next hb2).c1
    have HG0 := Lib.hid (HI2.out _ hb2)
    go_wp2_with fail
    refine HG0.out.mono ?_
    rintro e w3 ⟨rfl, hc3⟩
    have hb3 := hb2.trans (hc3.mono hb2.size)
    clear y10 y11 
    have y20 := (x2.next hb3).c0
    have y21 := (x2.next hb3).c1
    have HG1 := Lib.hid (HI3.out _ hb3)
    go_wp2_with fail
    refine HG1.out.mono ?_
    rintro e w4 ⟨rfl, hc4⟩
    have hb4 := hb3.trans (hc4.mono hb3.size)
    clear y20 y21 
    have y00 := (x0.next hb4).c0
    have y01 := (x0.next hb4).c1
    have y10 := (x1.next hb4).c0
    have y11 := (x1.next hb4).c1
    have HG2 := Lib.hid (HM1.out _ hb4)
    go_wp2_with fail
    refine HG2.out.mono ?_
    rintro e w5 ⟨rfl, hc5⟩
    have hb5 := hb4.trans (hc5.mono hb4.size)
    clear y00 y01 y10 y11 
    have y10 := (x1.next hb5).c0
    have y11 := (x1.next hb5).c1
    have y20 := (x2.next hb5).c0
    have y21 := (x2.next hb5).c1
    have HG3 := Lib.hid (HM2.out _ hb5)
    go_wp2_with fail
    refine HG3.out.mono ?_
    rintro e w6 ⟨rfl, hc6⟩
    have hb6 := hb5.trans (hc6.mono hb5.size)
    clear y10 y11 y20 y21 
    have y00 := (x0.next hb6).c0
    have y01 := (x0.next hb6).c1
    have y10 := (x1.next hb6).c0
    have y11 := (x1.next hb6).c1
    have HG4 := Lib.hid (HR1.out _ hb6)
    go_wp2_with fail
    refine HG4.out.mono ?_
    rintro e w7 ⟨rfl, hc7⟩
    have hb7 := hb6.trans (hc7.mono hb6.size)
    clear y00 y01 y10 y11 
    have y10 := (x1.next hb7).c0
    have y11 := (x1.next hb7).c1
    have y20 := (x2.next hb7).c0
    have y21 := (x2.next hb7).c1
    have HG5 := Lib.hid (HR2.out _ hb7)
    go_wp2_with fail
    refine HG5.out.mono ?_
    rintro e w8 ⟨rfl, hc8⟩
    have hb8 := hb7.trans (hc8.mono hb7.size)
    clear y10 y11 y20 y21 
    have hnil : OwnSS (w8.alloc (.cells #[] 22)) w8.heap.size (w8.heap.size + 1) (some ⟨w8.heap.size, 0, none⟩) 0 0 [] := ⟨[], rfl, rfl, World.ownsRow_lit w8 #[] 0 (Nat.le_refl _) (by unfold maxLen; omega) rfl, fun q hq => by have := Option.some.inj hq; have h8 : w8.heap.size = q := this; omega, fun j t hj => by cases hj⟩
    have HS8 : Hid ((w8.alloc (.cells #[] 22)).heap.size = w8.heap.size + 1) := Lib.hid (by simp)
    have HB8 := Lib.hid (HB.out.trans (hb8.mono HB.out.size))
    go_wp2_with fail
    go_loopw [12, 13] (fun p i wr => ∃ (k : Nat) (A3 : Option Addr) (c3' : Nat), k ≤ n ∧ p = .slice A3 k c3' ∧ i = .int .i64 (k : Int) ∧ OwnSS wr w8.heap.size wr.heap.size A3 k c3' (cmL rs3 (Ws.take k) Vs) ∧ Below w8.heap.size w8 wr ∧ Hid (∀ j, j < k → (imW Vs (Ws.getD j [])).length ≤ 24)) (fun _ i _ => n - (intOf i).toNat)
    case atStart => exact ⟨0, _, 0, Nat.zero_le _, rfl, rfl, by rw [HS8.out]; exact hnil, below1 _ _, Lib.hid (fun j hj => absurd hj (Nat.not_lt_zero _))⟩
    case round =>
      clear hnil
      obtain ⟨k, A3, c3', hk, rfl, rfl, hss, hb, HSM⟩ := hrel
      obtain ⟨wo, hwo⟩ : ∃ wo, wo = wr := ⟨_, rfl⟩
      rw [← hwo] at hss hb ⊢
      clear hwo
      have hb1o := hb8.trans (hb.mono hb8.size)
      by_cases hlt : k < n
      · obtain ⟨b, off, U, q, e9, xs, rfl, hbs, hx, hcx, hrd, hq⟩ := (hht.below hb1o).at_ hlt
        have hxs : xs = ints (Ws.getD k []) := HWT.out k _ hx
        subst hxs
        have HI9 := Lib.hid (HIM.out wo U q e9 k hb1o hrd)
        have HNX := Lib.hid (cmL_take rs3 Ws Vs k (by rw [HWL.out]; exact hlt))
        have HIW := Lib.hid (imW_in HVW.out (Ws.getD k []))
        have hil := imW_len HVW.out (Ws.getD k [])
        have hw24 := (lm_at HWW.out k).1
        obtain ⟨W, hW⟩ : ∃ W, W = imW Vs (Ws.getD k []) := ⟨_, rfl⟩
        rw [← hW] at HI9 HNX HIW hil
        have HWk : Hid (W = imW Vs (Ws.getD k [])) := Lib.hid hW
        obtain ⟨K, hK⟩ : ∃ K, K = W.length := ⟨_, rfl⟩
        have HKL := Lib.hid hK
        rw [← hK] at HI9 hil
        have hK576 : K ≤ 576 := by omega
        clear hx hrd hW hK hil hw24
        by_cases hlong : 24 < K
        · have HBN := Lib.hid (cmB_no Ws Vs k (by rw [HWL.out]; exact hlt) (by rw [← HWk.out, ← HKL.out]; exact hlong))
          obtain rfl := HA2.out HBN.out
          have hd9 : decide ((24 : Int) < (K : Int)) = true := decide_eq_true (by omega)
          go_wp2_with fail
          refine HI9.out.mono ?_
          rintro e w9 ⟨A9, c9, rfl, o9, hb9⟩
          go_wp2_with fail
          go_ret2
          exact lss_err 3 (HB8.out.trans ((hb.trans (hb9.mono hb.size)).mono HB8.out.size))
        · have HSH : Hid ((imW Vs (Ws.getD k [])).length ≤ 24) := Lib.hid (by rw [← HWk.out, ← HKL.out]; omega)
          have hK24 : K ≤ 24 := by omega
          have hd9 : decide ((24 : Int) < (K : Int)) = false := decide_eq_false (by omega)
          have HNF : Hid (nfM (RDep rs3) n3 W = nfR rs3 W) := Lib.hid (by unfold nfR; rw [HL3.out])
          obtain ⟨tt, htt, hot⟩ := hss
          have HTT := Lib.hid htt
          have hkb : (k + 1) * 24 ≤ 140737488355328 := by omega
          have hml : k + 1 ≤ maxLen := by unfold maxLen; omega
          clear hlong htt
          go_wp2_with fail
          refine HI9.out.mono ?_
          rintro e w9 ⟨A9, c9, rfl, o9, hb9⟩
          have hb19 := hb1o.trans (hb9.mono hb1o.size)
          have y0 := (x2.next hb19).c0
          have y1 := (x2.next hb19).c1
          have HN9 := Lib.hid (l03Normal_any R3 A9 n3 c3 K c9 rs3 W w9 (hh3.below hb19) (by omega) HR3.out o9.rd hK24 (fun p hp => in_getD HIW.out p (by rw [← HKL.out]; exact hp)))
          rw [HNF.out] at HN9
          obtain ⟨ys, hys⟩ : ∃ ys, ys = ints (nfR rs3 W) := ⟨_, rfl⟩
          rw [← hys] at HN9 HNX
          clear o9 hys
          go_wp2_with fail
          refine HN9.out.mono ?_
          rintro e w3 ⟨At, ct, rfl, hel0, hb3⟩
          have hbe := hb9.trans (hb3.mono hb9.size)
          have hel := hel0.mono hb9.size
          clear y0 y1 hel0 hb3 hb9 hb19 hb1o
          have hrow3 := row_kept hot.2.1 (grownBy_of_below hbe) (fun q _ e => by cases e)
          have hrb : ∀ q, A3.map (·.block) = some q → w8.heap.size ≤ q := fun q hq => (row_block hot.2.1 q hq).1
          go_wp2_with (at_builtin; refine wpList_append_own_at _ rfl _ _ 25 rfl w8.heap.size 22 i1 (.slice none 0 0) 1 24 Tryd.underlying25 hi1 hy0 hy1 hy2 rfl (by decide) (.slice A3 k c3') k (valsT tt) rfl (World.ownsRow.alloc hrow3 _) ⟨w3.heap.size, 0, none⟩ 1 1 [.slice At K ct] rfl rfl ?c1 ?c2 hml hkb ?c5 ?_)
          case c1 => exact cell_one_new _ _ _
          case c2 => intro u hu; simp at hu; subst hu; rfl
          case c5 => have := hb.size; have := hbe.size; simp; omega
          intro v' w4 hown hg _ hat
          have hbw3 := hb.trans (hbe.mono hb.size)
          have hb4 : Below w8.heap.size w8 w4 := (hbw3.alloc hbw3.size _).grown hg (by have := hbw3.size; simp; omega) (fun r hr => hrb r (by rw [own_block] at hr; exact hr))
          have hg3 := alloc_grown' hg
          rw [own_block] at hg3 hat
          obtain ⟨A4, c4, hv, hss4⟩ := OwnSS.snoc hot hbe hel hb.size hown hg3 (hat.imp id fun h9 => ⟨_, h9, Nat.le_succ _⟩)
          rw [hv]
          rw [HTT.out, ← HNX.out] at hss4
          clear hown hg hv hot hb hbe hel hrow3 hg3 hat hbw3
          go_wp2_with fail
          go_roundw
          case rel => exact ⟨k + 1, A4, c4, by omega, rfl, by go_num, hss4, hb4, Lib.hid (fun j hj => by
            by_cases e : j = k
            · subst e; exact HSH.out
            · exact HSM.out j (by omega))⟩
          case measure => simp [intOf]; omega
      · obtain rfl : k = n := by omega
        have htk : Ws.take k = Ws := List.take_of_length_le (by rw [HWL.out]; exact Nat.le_refl _)
        rw [htk] at hss
        have HBY := Lib.hid (cmB_yes Ws Vs (fun j hj => HSM.out j (by rw [← HWL.out]; exact hj)))
        obtain rfl := HA1.out HBY.out
        have hl9 : (cmL rs3 Ws Vs).length = k := by unfold cmL; rw [List.length_map, HWL.out]
        clear htk
        go_wp2_with fail
        go_ret2
        have hb9 := HB8.out.trans (hb.mono HB8.out.size)
        exact ⟨_, _, rfl, hss.wide HB8.out.size (Nat.le_refl _), hb9⟩
end Go.Proofs.YtdafdffmkjhhcaaDoor
