/-
  The letters of steps, one step after the other: the program's way and the model's; lists that are compared.
-/
import Derived.Test.YtpcgjldcdjlenaaDoorNfA
import Derived.Test.YtpcgjldcdjlenaaDoorEq64
import Derived.Test.YtpcgjldcdjlenaaDoorFoata
import Derived.Test.YtpcgjldcdjlenaaDoorFoataT
namespace Go.Proofs.YtpcgjldcdjlenaaDoor
open Go Go.RowKit
set_option linter.unusedVariables false
set_option maxRecDepth 100000

def stW (us : List Nat) : List Nat := us.flatMap bitsOf
theorem stW_nil : stW [] = [] := rfl
theorem stW_snoc (us : List Nat) (a : Nat) : stW (us ++ [a]) = stW us ++ bitsOf a := by unfold stW; rw [List.flatMap_append]; simp
theorem stW_len (us : List Nat) : (stW us).length ≤ 24 * us.length := by
  induction us with
  | nil => exact Nat.le_refl _
  | cons a us ih =>
    show (bitsOf a ++ stW us).length ≤ _
    rw [List.length_append, List.length_cons]
    have := bitsOf_len a
    omega
theorem stW_lt (us : List Nat) (n : Nat) (h : ∀ a, a ∈ us → a < 2 ^ n) : ∀ u, u ∈ stW us → u < n := fun u hu => by
  unfold stW at hu
  rw [List.mem_flatMap] at hu
  obtain ⟨a, ha, hb⟩ := hu
  exact bit_lt (h a ha) ((bitsOf_mem a u).1 hb).2
/-- Whether a list is a Foata form, as both sides find it. -/
def ffB (n : Nat) (rs : List Nat) (xs : List Int) : Bool := (decide (xs.length ≤ 24) && xs.all fun x => isMaskB x (n : Int)) && (decide ((stW (xs.map Int.toNat)).length ≤ 24) && decide (ints (foM rs (stW (xs.map Int.toNat))) = xs))
theorem ff_long (n : Nat) (rs : List Nat) (xs : List Int) (h : 24 < xs.length) : ffB n rs xs = false := by
  unfold ffB; rw [decide_eq_false (by omega)]; rfl
theorem ff_bad (n : Nat) (rs : List Nat) (xs : List Int) (h : (xs.all fun x => isMaskB x (n : Int)) = false) : ffB n rs xs = false := by
  unfold ffB; rw [h, Bool.and_false]; rfl
theorem ff_ok (n : Nat) (rs : List Nat) (us : List Nat) (hl : us.length ≤ 24) (h : ((ints us).all fun x => isMaskB x (n : Int)) = true) : ffB n rs (ints us) = (decide ((stW us).length ≤ 24) && decide (foM rs (stW us) = us)) := by
  unfold ffB
  rw [ints_toNat, h, ints_len, decide_eq_true hl]
  have : decide (ints (foM rs (stW us)) = ints us) = decide (foM rs (stW us) = us) := by rw [decide_eq_decide]; exact ints_inj _ _
  rw [this]; rfl
theorem masks_nats (n : Nat) (hn : n ≤ 24) (xs : List Int) (h : (xs.all fun x => isMaskB x (n : Int)) = true) : ∃ us, xs = ints us ∧ ∀ a, a ∈ us → a < 2 ^ n := by
  rw [List.all_eq_true] at h
  have hx : ∀ x, x ∈ xs → 0 ≤ x ∧ x < ((2 ^ n : Nat) : Int) := fun x hx => by
    have := h x hx
    rwa [isMaskB_in x n hn, decide_eq_true_eq] at this
  refine ⟨xs.map Int.toNat, ?_, fun a ha => ?_⟩
  · unfold ints
    rw [List.map_map]
    symm
    have : xs.map ((fun m : Nat => (m : Int)) ∘ Int.toNat) = xs.map id := List.map_congr_left fun x hx9 => by have := (hx x hx9).1; show ((x.toNat : Nat) : Int) = x; omega
    rw [List.map_id] at this
    exact this
  · obtain ⟨x, hx9, rfl⟩ := List.mem_map.1 ha
    have := hx x hx9
    omega
theorem specList_zero (w : World) :
    Calls Tryd.prog 97 #[.int .i64 0] w fun e w' => ∃ g c, e = .returned (.slice (some ⟨g, 0, none⟩) 0 c) ∧ Own 2 w' w.heap.size (some ⟨g, 0, none⟩) 0 c (ints []) ∧ Below w.heap.size w w' := by
  go_enter Tryd.func97, Tryd.ntmps97
  go_wp2
  go_loopw [0, 3, 4] (fun q v i wr => q = .int .i64 0 ∧ v = .slice (some ⟨w.heap.size, 0, none⟩) 0 0 ∧ i = .int .i64 0 ∧ wr = w.alloc (.cells #[] 2)) (fun q _ _ _ => (intOf q).toNat)
  case atStart => exact ⟨rfl, rfl, rfl, rfl⟩
  case round =>
    obtain ⟨rfl, rfl, rfl, rfl⟩ := hrel
    go_wp2
    go_ret
    exact ⟨_, _, rfl, World.ownsRow_lit w #[] 0 (Nat.le_refl _) (by unfold maxLen; omega) rfl, (Below.refl _ _).alloc (Nat.le_refl _) _⟩
theorem bits_nil (x : Nat) (hx : x < 16777216) (h : bitsOf x = []) : x = 0 := by
  apply Nat.eq_of_testBit_eq
  intro i
  rw [Nat.zero_testBit]
  cases hb : x.testBit i
  · rfl
  · have hi : i < 24 := bit_lt (show x < 2 ^ 24 by omega) hb
    have := (bitsOf_mem x i).2 ⟨hi, hb⟩
    rw [h] at this; cases this
theorem specList_some (x : Nat) (hx : x < 16777216) (w : World) :
    Calls Tryd.prog 97 #[.int .i64 (x : Int)] w fun e w' => ∃ g c, e = .returned (.slice (some ⟨g, 0, none⟩) (bitsOf x).length c) ∧ Own 2 w' w.heap.size (some ⟨g, 0, none⟩) (bitsOf x).length c (ints (bitsOf x)) ∧ Below w.heap.size w w' := by
  by_cases h : 0 < (bitsOf x).length
  · refine (specList_any x hx w).mono ?_
    rintro e w' ⟨A, c, rfl, ho, hb⟩
    obtain ⟨g, rfl, _⟩ := ho.form h
    exact ⟨g, c, rfl, ho, hb⟩
  · have hnil : bitsOf x = [] := List.eq_nil_of_length_eq_zero (by omega)
    have hx0 := bits_nil x hx hnil
    subst hx0
    rw [hnil]
    exact specList_zero w
set_option maxHeartbeats 1600000 in
theorem l03Steps_any (A : Option Addr) (m c : Nat) (us : List Nat) (w : World) (h : Rd w A m (ints us)) (hm : m ≤ 24) (hus : ∀ a, a ∈ us → a < 16777216) :
    Calls Tryd.prog 66 #[.slice A m c] w (MakesE 2 w (stW us).length (ints (stW us))) := by
  obtain ⟨i0, hi, hz0, hz1, hz2⟩ := info_parts info_int
  have HL : Hid (us.length = m) := Lib.hid (by have := h.1; rw [ints_len] at this; exact this)
  have HUS := Lib.hid hus
  clear hus
  go_enter Tryd.func66, Tryd.ntmps66
  go_wp2_with fail
  go_loopw [3, 4] (fun p q wr => ∃ (k N : Nat) (A1 : Option Addr) (c1 : Nat), k ≤ m ∧ N ≤ 24 * k ∧ p = .slice A1 N c1 ∧ q = .int .i64 (k : Int) ∧ N = (stW (us.take k)).length ∧ Own 2 wr w.heap.size A1 N c1 (ints (stW (us.take k))) ∧ Below w.heap.size w wr) (fun _ q _ => m - (intOf q).toNat)
  case atStart => exact ⟨0, 0, _, 0, Nat.zero_le _, Nat.le_refl _, rfl, rfl, rfl, World.ownsRow_lit w #[] 0 (Nat.le_refl _) (by unfold maxLen; omega) rfl, (Below.refl _ _).alloc (Nat.le_refl _) _⟩
  case round =>
    obtain ⟨k, N, A1, c1, hk, hNk, rfl, rfl, hN, ho, hb⟩ := hrel
    have HN := Lib.hid hN
    clear hN
    by_cases hlt : k < m
    · obtain ⟨b, off, x, rfl, hbs, hx, hcx⟩ := (h.below hb).at_ hlt
      rw [ints_getD us k (by rw [HL.out]; exact hlt)] at hx
      injection hx with hx
      have hu24 : us.getD k 0 < 16777216 := HUS.out _ (by rw [List.getD_eq_getElem?_getD, List.getElem?_eq_getElem (by rw [HL.out]; exact hlt)]; exact List.getElem_mem _)
      have HSN : Hid (stW (us.take (k + 1)) = stW (us.take k) ++ bitsOf (us.getD k 0)) := Lib.hid (by
        rw [List.take_add_one, List.getElem?_eq_getElem (by rw [HL.out]; exact hlt), List.getD_eq_getElem?_getD, List.getElem?_eq_getElem (by rw [HL.out]; exact hlt)]
        exact stW_snoc _ _)
      obtain ⟨X, hX⟩ : ∃ X, X = us.getD k 0 := ⟨_, rfl⟩
      rw [← hX] at hx hu24 HSN
      subst hx
      clear hX
      have HLS : Hid (∀ ww : World, Calls Tryd.prog 97 #[.int .i64 (X : Int)] ww fun e w' => ∃ g c, e = .returned (.slice (some ⟨g, 0, none⟩) (bitsOf X).length c) ∧ Own 2 w' ww.heap.size (some ⟨g, 0, none⟩) (bitsOf X).length c (ints (bitsOf X)) ∧ Below ww.heap.size ww w') := Lib.hid fun ww => specList_some X hu24 ww
      obtain ⟨bs, hbs9⟩ : ∃ bs, bs = bitsOf X := ⟨_, rfl⟩
      have hbl : bs.length ≤ 24 := by rw [hbs9]; exact bitsOf_len X
      rw [← hbs9] at HSN HLS
      obtain ⟨K, hK⟩ : ∃ K, K = bs.length := ⟨_, rfl⟩
      have HK := Lib.hid hK
      rw [← hK] at hbl HLS
      clear hbs9 hK
      have hml : N + K ≤ maxLen := by unfold maxLen; omega
      have hby2 : (N + K) * 8 ≤ 140737488355328 := by omega
      have hone := ints_oneCell .i64 (ints bs)
      have hl1 : ((ints bs).map (Value.int .i64)).length = K * 1 := by rw [List.length_map, ints_len, HK.out, Nat.mul_one]
      have HL1 := Lib.hid hl1
      clear hl1
      go_wp2_with fail
      refine (HLS.out _).mono ?_
      rintro e w2 ⟨g, c2, rfl, ho2, hb2⟩
      have ho1 := ho.below hb2
      have hbw := hb.trans (hb2.mono hb.size)
      have hnews : ∀ j u, ((ints bs).map (Value.int .i64))[j]? = some u → w2.cell? ((⟨g, 0, none⟩ : Addr).add j) = some u := rd_news2 ho2.rd (fun _ _ => rfl) (Nat.le_refl _)
      have HNE := Lib.hid hnews
      clear hnews
      go_wp2_with (at_builtin; refine wpList_append_own _ rfl _ _ 22 rfl w.heap.size 2 i0 (.int .i64 0) 1 8 Tryd.underlying22 hi hz0 hz1 hz2 rfl (by decide) (.slice A1 N c1) N ((ints (stW (us.take k))).map (Value.int .i64)) rfl ho1 ⟨g, 0, none⟩ K c2 ((ints bs).map (Value.int .i64)) rfl HL1.out HNE.out hone hml hby2 hbw.size ?_)
      intro v' w3 hown hg _
      have e9 : (ints (stW (us.take k))).map (Value.int .i64) ++ (ints bs).map (Value.int .i64) = (ints (stW (us.take (k + 1)))).map (Value.int .i64) := by
        rw [HSN.out]; unfold ints; simp only [List.map_append]
      rw [e9] at hown
      have hb3 : Below w.heap.size w w3 := hbw.grown hg hbw.size (fun r hr => (World.ownsRow.lt ho1 r hr).1)
      obtain ⟨A3, c3, hv, ho3⟩ := own_shape hown
      rw [hv]
      clear hg hown hv ho ho1 hb hb2 ho2 hbw e9
      go_wp2_with fail
      go_roundw
      case rel => exact ⟨k + 1, N + K, A3, c3, hlt, by omega, rfl, by go_num, by rw [HSN.out, List.length_append, ← HN.out, HK.out], ho3, hb3⟩
      case measure => simp [intOf]; omega
    · have hkm : k = m := by omega
      subst hkm
      have HTK : Hid (us.take k = us) := Lib.hid (List.take_of_length_le (by rw [HL.out]; exact Nat.le_refl _))
      go_wp2_with fail
      go_ret
      rw [HTK.out] at HN ho
      obtain rfl := HN.out
      exact ⟨A1, c1, rfl, ho, hb⟩
set_option maxHeartbeats 800000 in
theorem same01_any (A B : Option Addr) (n c d : Nat) (xs ys : List Int) (w : World) (h : Rd w A n xs) (h2 : Rd w B n ys) (hn : n ≤ 9223372036854775807) :
    Calls Tryd.prog 96 #[.slice A n c, .slice B n d] w fun e w' => e = .returned (.bool (sameB xs ys)) ∧ Below w.heap.size w w' := by
  go_enter Tryd.func96, Tryd.ntmps96
  go_wp2
  go_loopw [5] (fun i wr => ∃ k : Nat, k ≤ n ∧ i = .int .i64 k ∧ Below w.heap.size w wr ∧ xs.take k = ys.take k) (fun i _ => n - (intOf i).toNat)
  case atStart => exact ⟨0, Nat.zero_le _, rfl, Below.refl _ _, rfl⟩
  case round =>
    obtain ⟨k, hk, rfl, hb, hsame⟩ := hrel
    by_cases hlt : k < n
    · obtain ⟨b, off, x, rfl, hbs, hx, hcx⟩ := h.at_ hlt
      obtain ⟨b2, off2, y, rfl, hbs2, hy, hcy⟩ := h2.at_ hlt
      have hc1 : wr.cell? ⟨b, off + k, none⟩ = some (.int .i64 x) := (hb.cell (p := ⟨b, off + k, none⟩) hbs).trans hcx
      have hc2 : wr.cell? ⟨b2, off2 + k, none⟩ = some (.int .i64 y) := (hb.cell (p := ⟨b2, off2 + k, none⟩) hbs2).trans hcy
      have HX := Lib.hid hx
      have HY := Lib.hid hy
      have HS := Lib.hid hsame
      clear hx hy hcx hcy hsame
      by_cases hxy : x = y
      · subst hxy
        go_wp2
        go_quiet (fail)
        go_wp2
        go_roundw
        case rel => exact ⟨k + 1, by omega, by go_num, by first | exact below_drewN hb _ | exact hb.drew, take_same xs ys k x HS.out HX.out HY.out⟩
        case measure => simp [intOf]; omega
      · have hne1 : (x == y) = false := by simpa using hxy
        have hne2 : (x != y) = true := by simpa using hxy
        have HN : Hid (sameB xs ys = false) := Lib.hid (by
          unfold sameB
          apply decide_eq_false
          intro e
          apply hxy
          have h1 := HX.out
          rw [e, HY.out] at h1
          injection h1 with h1; exact h1.symm)
        clear hxy
        go_wp2
        go_quiet (fail)
        go_wp2
        go_ret
        exact ⟨ret_b _ _ HN.out.symm, by first | exact below_drewN hb _ | exact hb.drew⟩
    · obtain rfl : k = n := by omega
      have HN : Hid (sameB xs ys = true) := Lib.hid (by
        unfold sameB
        apply decide_eq_true
        rw [List.take_of_length_le (by have := h.1; omega), List.take_of_length_le (by have := h2.1; omega)] at hsame
        exact hsame)
      clear hsame
      go_wp2
      go_ret
      exact ⟨ret_b _ _ HN.out.symm, hb⟩
set_option maxHeartbeats 800000 in
theorem same01_len (A B : Option Addr) (n m c d : Nat) (w : World) (hnm : n ≠ m) :
    Calls Tryd.prog 96 #[.slice A n c, .slice B m d] w fun e w' => e = .returned (.bool false) ∧ Below w.heap.size w w' := by
  have h1 : ((n : Int) != (m : Int)) = true := by simp; omega
  have h2 : ¬ ((n : Int) = (m : Int)) := by omega
  have h3 : ¬ (n = m) := hnm
  go_enter Tryd.func96, Tryd.ntmps96
  go_wp2
  go_ret
  exact ⟨rfl, Below.refl _ _⟩
theorem same01_two (A B : Option Addr) (n m c d : Nat) (xs ys : List Int) (w : World) (h : Rd w A n xs) (h2 : Rd w B m ys) (hn : n ≤ 9223372036854775807) :
    Calls Tryd.prog 96 #[.slice A n c, .slice B m d] w fun e w' => e = .returned (.bool (decide (xs = ys))) ∧ Below w.heap.size w w' := by
  by_cases e : n = m
  · subst e
    exact same01_any A B n c d xs ys w h h2 hn
  · have : decide (xs = ys) = false := decide_eq_false (fun e9 => e (by rw [← h.1, ← h2.1, e9]))
    rw [this]
    exact same01_len A B n m c d w e
/-- What wordWithSteps leaves. -/
def WsPost (us : List Nat) (ok : Bool) (w : World) (e : Ending) (w' : World) : Prop :=
  ∃ A N c, e = .returned (.tuple #[.slice A N c, .bool ok]) ∧ (ok = true → N = (stW us).length ∧ Own 2 w' w.heap.size A N c (ints (stW us))) ∧ Below w.heap.size w w'
set_option maxHeartbeats 3200000 in
theorem wordWithSteps_any (R A : Option Addr) (n m cr c : Nat) (rs : List Nat) (xs : List Int) (w : World) (hR : Rd w R n (ints rs)) (hn : n ≤ 8) (hr : ∀ i, rs.getD i 0 < 2 ^ n) (hd : Dep rs) (h : Rd w A m xs) (hwf : Wf xs) (hm : m ≤ 9223372036854775807) (hT : Tab w) :
    Calls Tryd.prog 68 #[.slice R n cr, .slice A m c] w (WsPost (xs.map Int.toNat) (ffB n rs xs) w) := by
  obtain ⟨i0, hi, hz0, hz1, hz2⟩ := info_parts info_int
  have HL : Hid (xs.length = m) := Lib.hid h.1
  by_cases hm24 : m ≤ 24
  · have HBAD : Hid (∀ x, x ∈ xs → isMaskB x (n : Int) = false → ffB n rs xs = false) := Lib.hid fun x hx hb => ff_bad n rs xs (by
      rw [Bool.eq_false_iff]
      intro e
      have := List.all_eq_true.1 e x hx
      rw [hb] at this; cases this)
    have HDEP := Lib.hid hd
    have HR := Lib.hid hr
    have HWF := Lib.hid hwf
    clear hd hr hwf
    go_enter Tryd.func68, Tryd.ntmps68
    go_wp2_with fail
    go_loopw [6, 14] (fun p q wr => ∃ (k N : Nat) (A1 : Option Addr) (c1 : Nat) (us : List Nat), k ≤ m ∧ N ≤ 24 * k ∧ p = .slice A1 N c1 ∧ q = .int .i64 (k : Int) ∧ xs.take k = ints us ∧ (∀ a, a ∈ us → a < 2 ^ n) ∧ (xs.take k).all (fun x => isMaskB x (n : Int)) = true ∧ N = (stW us).length ∧ Own 2 wr w.heap.size A1 N c1 (ints (stW us)) ∧ Below w.heap.size w wr) (fun _ q _ => m - (intOf q).toNat)
    case atStart => exact ⟨0, 0, none, 0, [], Nat.zero_le _, Nat.le_refl _, rfl, rfl, rfl, fun a ha => (by cases ha), rfl, rfl, Own.nil _ _ _, Below.refl _ _⟩
    case round =>
      obtain ⟨k, N, A1, c1, us, hk, hNk, rfl, rfl, hxu, hul, hall, hN, ho, hb⟩ := hrel
      have HXU := Lib.hid hxu
      have HUL := Lib.hid hul
      have HALL := Lib.hid hall
      have HN := Lib.hid hN
      clear hxu hul hall hN
      by_cases hlt : k < m
      · obtain ⟨b, off, x, rfl, hbs, hx, hcx⟩ := (h.below hb).at_ hlt
        have hxm : x ∈ xs := List.mem_of_getElem? hx
        obtain ⟨hx1, hx2⟩ := HWF.out x hxm
        have HX := Lib.hid hx
        cases hmk : isMaskB x (n : Int)
        · have HF := Lib.hid (HBAD.out x hxm hmk)
          have HMK := Lib.hid hmk
          clear hmk hx hxm
          go_wp2_with fail
          refine (isMask_any x (n : Int) hx1 hx2 _).mono ?_
          rintro e w' ⟨rfl, rfl⟩
          rw [HMK.out]
          go_wp2_with fail
          go_ret2
          rw [HF.out]
          exact ⟨none, 0, 0, rfl, fun e => (by cases e), hb⟩
        · have HMK := Lib.hid hmk
          rw [isMaskB_in x n (by omega), decide_eq_true_eq] at hmk
          obtain ⟨X, rfl⟩ := Int.eq_ofNat_of_zero_le hmk.1
          have hX2 : X < 2 ^ n := by omega
          have hX24 : X < 16777216 := by have := p8 n hn; omega
          have HTK : Hid (xs.take (k + 1) = ints (us ++ [X])) := Lib.hid (by rw [List.take_add_one, HX.out, HXU.out]; unfold ints; simp)
          have HALL1 : Hid ((xs.take (k + 1)).all (fun x => isMaskB x (n : Int)) = true) := Lib.hid (by rw [all_next _ xs k _ HX.out, HALL.out, HMK.out]; rfl)
          have HUL1 : Hid (∀ a, a ∈ us ++ [X] → a < 2 ^ n) := Lib.hid fun a ha => by
            rcases List.mem_append.1 ha with h1 | h1
            · exact HUL.out a h1
            · rw [List.mem_singleton.1 h1]; exact hX2
          have HSN : Hid (stW (us ++ [X]) = stW us ++ bitsOf X) := Lib.hid (stW_snoc _ _)
          have HLS : Hid (∀ ww : World, Tab ww → Calls Tryd.prog 87 #[.int .i64 (X : Int)] ww fun e w' => ∃ g c, e = .returned (.slice (some ⟨g, 0, none⟩) (bitsOf X).length c) ∧ Own 2 w' ww.heap.size (some ⟨g, 0, none⟩) (bitsOf X).length c (ints (bitsOf X)) ∧ Below ww.heap.size ww w') := Lib.hid fun ww ht => members_some X hX24 ww ht
          obtain ⟨bs, hbs9⟩ : ∃ bs, bs = bitsOf X := ⟨_, rfl⟩
          have hbl : bs.length ≤ 24 := by rw [hbs9]; exact bitsOf_len X
          rw [← hbs9] at HSN HLS
          obtain ⟨K, hK⟩ : ∃ K, K = bs.length := ⟨_, rfl⟩
          have HK := Lib.hid hK
          rw [← hK] at hbl HLS
          have hTr := hT.below hb
          clear hbs9 hK hmk hx hxm
          have hml : N + K ≤ maxLen := by unfold maxLen; omega
          have hby2 : (N + K) * 8 ≤ 140737488355328 := by omega
          have hone := ints_oneCell .i64 (ints bs)
          have HL1 : Hid (((ints bs).map (Value.int .i64)).length = K * 1) := Lib.hid (by rw [List.length_map, ints_len, HK.out, Nat.mul_one])
          go_wp2_with fail
          refine (isMask_any (X : Int) (n : Int) hx1 hx2 _).mono ?_
          rintro e w' ⟨rfl, rfl⟩
          rw [HMK.out]
          go_wp2_with fail
          refine (HLS.out _ hTr).mono ?_
          rintro e w2 ⟨g, c2, rfl, ho2, hb2⟩
          have ho1 := ho.below hb2
          have hbw := hb.trans (hb2.mono hb.size)
          have HNE : Hid (∀ j u, ((ints bs).map (Value.int .i64))[j]? = some u → w2.cell? ((⟨g, 0, none⟩ : Addr).add j) = some u) := Lib.hid (rd_news2 ho2.rd (fun _ _ => rfl) (Nat.le_refl _))
          go_wp2_with (at_builtin; refine wpList_append_own _ rfl _ _ 22 rfl w.heap.size 2 i0 (.int .i64 0) 1 8 Tryd.underlying22 hi hz0 hz1 hz2 rfl (by decide) (.slice A1 N c1) N ((ints (stW us)).map (Value.int .i64)) rfl ho1 ⟨g, 0, none⟩ K c2 ((ints bs).map (Value.int .i64)) rfl HL1.out HNE.out hone hml hby2 hbw.size ?_)
          intro v' w3 hown hg _
          have e9 : (ints (stW us)).map (Value.int .i64) ++ (ints bs).map (Value.int .i64) = (ints (stW (us ++ [X]))).map (Value.int .i64) := by
            rw [HSN.out]; unfold ints; simp only [List.map_append]
          rw [e9] at hown
          have hb3 : Below w.heap.size w w3 := hbw.grown hg hbw.size (fun r hr => (World.ownsRow.lt ho1 r hr).1)
          obtain ⟨A3, c3, hv, ho3⟩ := own_shape hown
          rw [hv]
          clear hg hown hv ho ho1 hb hb2 ho2 hbw e9
          go_wp2_with fail
          go_roundw
          case rel => exact ⟨k + 1, N + K, A3, c3, us ++ [X], hlt, by omega, rfl, by go_num, HTK.out, HUL1.out, HALL1.out, by rw [HSN.out, List.length_append, ← HN.out, HK.out], ho3, hb3⟩
          case measure => simp [intOf]; omega
      · have hkm : k = m := by omega
        subst hkm
        have hxs : xs = ints us := by rw [← HXU.out]; exact (List.take_of_length_le (by rw [HL.out]; exact Nat.le_refl _)).symm
        have hall9 := HALL.out
        rw [List.take_of_length_le (by rw [HL.out]; exact Nat.le_refl _)] at hall9
        subst hxs
        have hll := HL.out
        rw [ints_len] at hll
        have HFF := Lib.hid (ff_ok n rs us (by omega) hall9)
        have hSn : ∀ u, u ∈ stW us → u < n := stW_lt us n HUL.out
        by_cases hN24 : N ≤ 24
        · have hTr := hT.below hb
          have HST := Lib.hid (steps_prog R A1 n cr N c1 rs (stW us) wr (hR.below hb) hn HR.out HDEP.out ho.rd hN24 hSn hTr)
          have hfl : (foM rs (stW us)).length ≤ 1048576 := Nat.le_trans (foM_len rs (stW us)) (by have := HN.out; omega)
          obtain ⟨fs, hfs⟩ : ∃ fs, fs = foM rs (stW us) := ⟨_, rfl⟩
          rw [← hfs] at HST hfl HFF
          obtain ⟨K, hK⟩ : ∃ K, K = fs.length := ⟨_, rfl⟩
          rw [← hK] at HST hfl
          have HK := Lib.hid hK
          have hru := h.below hb
          clear hfs hK hall9
          go_wp2_with fail
          refine HST.out.mono ?_
          rintro e w2 ⟨A2, c2, rfl, ho2, hb2⟩
          have HMO := Lib.hid (masksOf_any A2 K c2 (ints fs) w2 ho2.rd hfl)
          clear HST
          go_wp2_with fail
          refine HMO.out.mono ?_
          rintro e w4 ⟨A4, c4, rfl, ho4, hb4⟩
          have hb24 := hb2.trans (hb4.mono hb2.size)
          have HEQ := Lib.hid (equal64_two A4 A K k c4 c (ints fs) (ints us) w4 ho4.rd (hru.below hb24) (by omega))
          clear HMO
          go_wp2_with fail
          refine HEQ.out.mono ?_
          rintro e w5 ⟨rfl, hb5⟩
          have HE : Hid (decide (ints fs = ints us) = ffB n rs (ints us)) := Lib.hid (by
            rw [HFF.out, ← HN.out, decide_eq_true hN24, Bool.true_and, decide_eq_decide]; exact ints_inj _ _)
          rw [HE.out]
          have hb25 := hb24.trans (hb5.mono hb24.size)
          go_wp2_with fail
          go_ret2
          exact ⟨A1, N, c1, rfl, fun _ => (by rw [ints_toNat]; exact ⟨HN.out, ho.below hb25⟩), hb.trans (hb25.mono hb.size)⟩
        · have HE : Hid (ffB n rs (ints us) = false) := Lib.hid (by rw [HFF.out, ← HN.out, decide_eq_false hN24]; rfl)
          clear hall9
          go_wp2_with fail
          go_ret2
          rw [HE.out]
          exact ⟨A1, N, c1, rfl, fun e => (by cases e), hb⟩
  · have HF := Lib.hid (ff_long n rs xs (by rw [HL.out]; omega))
    have hm25 : 24 < m := by omega
    go_enter Tryd.func68, Tryd.ntmps68
    go_wp2_with fail
    go_ret2
    rw [HF.out]
    exact ⟨none, 0, 0, rfl, fun e => (by cases e), Below.refl _ _⟩
end Go.Proofs.YtpcgjldcdjlenaaDoor
