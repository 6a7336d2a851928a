/-
  The walk of FnMasks.
-/
import Derived.Test.YtfcipdojgkamgaaDoorDice
namespace Go.Proofs.YtfcipdojgkamgaaDoor
open Go.RowKit
set_option linter.unusedVariables false
set_option maxRecDepth 100000

theorem Dice.below {w w' : World} {B g n c : Nat} {A : Option Addr} {bs : List Int} (h : Dice w B g A n c bs) (hb : Below w.heap.size w w') : Dice w' B g A n c bs := by
  obtain ⟨h1, h2, h3, i, H, hi, hH, hblk⟩ := h
  have hlt : g < w.heap.size := block_lt_of_cell (cells3 hblk).1
  exact ⟨h1, h2.below hb, h3, i, H, hi, hH, (hb.block g hlt).trans hblk⟩
theorem Dice.lt {w : World} {B g n c : Nat} {A : Option Addr} {bs : List Int} (h : Dice w B g A n c bs) : B ≤ g ∧ g < w.heap.size := by
  obtain ⟨h1, _, _, i, H, _, _, hblk⟩ := h
  exact ⟨h1, block_lt_of_cell (cells3 hblk).1⟩
theorem Dice.apart {w w' : World} {B g n c : Nat} {A : Option Addr} {bs : List Int} (h : Dice w B g A n c bs) {row : Option Nat} (hg : w.grownBy w' row) (hne : ∀ k, row = some k → g < k) : Dice w' B g A n c bs := by
  obtain ⟨h1, h2, h3, i, H, hi, hH, hblk⟩ := h
  have hlt : g < w.heap.size := block_lt_of_cell (cells3 hblk).1
  refine ⟨h1, ⟨h2.1, fun hn => ?_⟩, h3, i, H, hi, hH, ?_⟩
  · obtain ⟨b, off, e, hb, hc⟩ := h2.2 hn
    refine ⟨b, off, e, by have := hg.size; omega, fun j x hx => ?_⟩
    have hbB := h3 b hn (by rw [e]; rfl)
    rw [World.cell?_of_block (w := w) (hg.block b hb (fun e2 => by have := hne b e2.symm; omega))]
    exact hc j x hx
  · exact (hg.block g hlt (fun e2 => by have := hne g e2.symm; omega)).trans hblk
theorem Dice.alloc {w : World} {B g n c : Nat} {A : Option Addr} {bs : List Int} (h : Dice w B g A n c bs) (o : Obj) : Dice (w.alloc o) B g A n c bs :=
  h.below ((Below.refl _ _).alloc (Nat.le_refl _) _)

/-! ### plain -/
theorem upTo_mem (m k b : Nat) : b ∈ upTo m k ↔ b < k ∧ m.testBit b = true := by unfold upTo; rw [List.mem_filter, List.mem_range]
theorem upTo_sorted (m k i j x y : Nat) (hij : i < j) (hi : (upTo m k)[i]? = some x) (hj : (upTo m k)[j]? = some y) : x < y := by
  induction k generalizing i j with
  | zero => simp [upTo] at hi
  | succ k ih =>
    cases e : m.testBit k
    · rw [upTo_no m k e] at hi hj; exact ih i j hij hi hj
    · rw [upTo_yes m k e] at hi hj
      have hjl : j < (upTo m k ++ [k]).length := by
        rcases Nat.lt_or_ge j (upTo m k ++ [k]).length with h | h
        · exact h
        · rw [List.getElem?_eq_none h] at hj; cases hj
      rw [List.length_append] at hjl
      have hil : i < (upTo m k).length := by simp at hjl; omega
      rw [List.getElem?_append_left hil] at hi
      by_cases hjl2 : j < (upTo m k).length
      · rw [List.getElem?_append_left hjl2] at hj
        exact ih i j hij hi hj
      · rw [List.getElem?_append_right (by omega)] at hj
        have e2 : j - (upTo m k).length = 0 := by simp at hjl; omega
        rw [e2] at hj
        injection hj with hj
        subst hj
        exact ((upTo_mem m k x).1 (List.mem_of_getElem? hi)).1
theorem orAll_bit (xs : List Int) (b : Nat) : (orAll xs).testBit b = true ↔ ∃ x, x ∈ xs ∧ x.toNat = b := by
  have key : ∀ (m : Nat), (xs.foldl (fun m x => m ||| 2 ^ x.toNat) m).testBit b = true ↔ m.testBit b = true ∨ ∃ x, x ∈ xs ∧ x.toNat = b := by
    induction xs with
    | nil => intro m; simp
    | cons x r ih =>
      intro m
      rw [List.foldl_cons, ih, Nat.testBit_or, Bool.or_eq_true, p2_bit]
      constructor
      · rintro ((h | h) | ⟨y, hy, hb⟩)
        · exact .inl h
        · exact .inr ⟨x, List.mem_cons_self, h⟩
        · exact .inr ⟨y, List.mem_cons_of_mem _ hy, hb⟩
      · rintro (h | ⟨y, hy, hb⟩)
        · exact .inl (.inl h)
        · rcases List.mem_cons.1 hy with rfl | hy
          · exact .inl (.inr hb)
          · exact .inr ⟨y, hy, hb⟩
  unfold orAll
  rw [key]; simp
/-- A list of the members of m, each at least once, has the mask m. -/
theorem mask_of_members (m : Nat) (hm : m < 16777216) (ys : List Nat) (h : ∀ b, b ∈ ys ↔ b ∈ bitsOf m) : maskAns (ints ys) = ((m : Int), 0) := by
  have hall : (ints ys).all inSet = true := by
    rw [List.all_eq_true]
    intro x hx
    unfold ints at hx
    obtain ⟨b, hb, rfl⟩ := List.mem_map.1 hx
    have := (bitsOf_mem m b).1 ((h b).1 hb)
    simp [inSet]; omega
  rw [maskAns_yes _ hall]
  have e : orAll (ints ys) = m := by
    refine nat_ext (n := 24) (orAll_lt _ hall) (by omega) fun k hk => ?_
    rw [orAll_bit]
    constructor
    · rintro ⟨x, hx, rfl⟩
      unfold ints at hx
      obtain ⟨b, hb, rfl⟩ := List.mem_map.1 hx
      have := (bitsOf_mem m b).1 ((h b).1 hb)
      simpa using this.2
    · intro hb
      exact ⟨(k : Int), List.mem_map.2 ⟨k, (h k).2 ((bitsOf_mem m k).2 ⟨hk, hb⟩), rfl⟩, by simp⟩
  rw [e]

set_option maxHeartbeats 800000 in
theorem bits5_any (m : Nat) (hm : m < 16777216) (w : World) :
    Calls Tryd.prog 42 #[.int .i64 (m : Int)] w fun e w' => e = .returned (.int .i64 ((bitsOf m).length : Nat)) ∧ w = w' := by
  go_enter Tryd.func42, Tryd.ntmps42
  go_wp2
  go_loop [0, 3] (fun q v => ∃ k : Nat, k ≤ 24 ∧ q = .int .i64 ((m / 2 ^ k : Nat) : Int) ∧ v = .int .i64 ((upTo m k).length : Nat)) (fun q _ => (intOf q).toNat)
  case atStart => exact ⟨0, Nat.zero_le _, by rw [Nat.pow_zero, Nat.div_one], rfl⟩
  case round =>
    obtain ⟨k, hk, rfl, rfl⟩ := hrel
    have hdb := div_bit m k
    have hdn := div_next m k
    have hle : m / 2 ^ k ≤ m := Nat.div_le_self _ _
    have hul := upTo_len m k
    have hsk := Lib.hid (fun h : m / 2 ^ k = 0 => upTo_skip m k 24 hk (fun b h1 _ => high_bits m k b h h1))
    have hkk := Lib.hid (fun h : 0 < m / 2 ^ k => (show k < 24 by
      rcases Nat.lt_or_ge k 24 with h1 | h1
      · exact h1
      · have : m / 2 ^ k = 0 := Nat.div_eq_of_lt (Nat.lt_of_lt_of_le (show m < 2 ^ 24 by omega) (Nat.pow_le_pow_right (by decide) h1))
        omega))
    have hstep : (upTo m (k + 1)).length = (upTo m k).length + (m / 2 ^ k) % 2 := by
      rw [hdb]
      cases e : m.testBit k
      · rw [upTo_no m k e]; rfl
      · rw [upTo_yes m k e, List.length_append]; rfl
    obtain ⟨q, hq⟩ : ∃ q, q = m / 2 ^ k := ⟨_, rfl⟩
    rw [← hq] at hdn hle hsk hkk hstep ⊢
    obtain ⟨L, hL⟩ : ∃ L, L = (upTo m k).length := ⟨_, rfl⟩
    rw [← hL] at hul hstep ⊢
    have HDN := Lib.hid hdn
    have HST := Lib.hid hstep
    have HL := Lib.hid hL
    clear hq hdn hdb hstep hL
    by_cases hq0 : 0 < q
    · have hk24 := hkk.out hq0
      go_wp2
      go_round
      case rel => exact ⟨k + 1, by omega, by (have h9 := HDN.out; rw [← h9]; go_num), by rw [HST.out]; go_num⟩
      case measure => simp [intOf]; omega
    · have hz := hsk.out (by omega)
      have hq1 : q = 0 := by omega
      subst hq1
      clear hkk hsk
      have HZ := Lib.hid hz
      clear hz
      go_wp2
      go_ret
      exact ⟨ret_i _ _ (by unfold bitsOf; rw [HZ.out, ← HL.out]), rfl⟩

theorem nat_at (ls : List Nat) (k : Nat) (x : Int) (hl : k < ls.length) (hx : (ints ls)[k]? = some x) : ∃ X : Nat, ls[k]? = some X ∧ x = (X : Int) := by
  refine ⟨ls[k], List.getElem?_eq_getElem hl, ?_⟩
  rw [ints_at (List.getElem?_eq_getElem hl)] at hx
  exact (Option.some.inj hx).symm
theorem none_past (ls : List Nat) (k : Nat) (h : k = ls.length) : ∀ j X, k ≤ j → ls[j]? = some X → X ∈ ([] : List Nat) := by
  intro j X hj hX
  rw [List.getElem?_eq_none (by omega)] at hX; cases hX
theorem isMask_no (M : Nat) (hM : M < 16777216) : bits .or .i64 (M : Int) 16777216 = (M : Int) + 16777216 ∧ isMaskB ((M : Int) + 16777216) 24 = false := by
  constructor
  · have h := i64_or_nat M 16777216 (by omega) (by decide)
    rw [show (16777216 : Int) = ((16777216 : Nat) : Int) from rfl, h]
    have := nat_join 24 16777216 M (by decide) (by omega)
    rw [Nat.or_comm, this]; omega
  · unfold isMaskB
    have e : ((2 ^ (24 : Int).toNat : Nat) : Int) = 16777216 := by decide
    rw [e]
    apply decide_eq_false
    rintro ⟨_, _, _, h⟩
    omega
theorem isMask_yes (M : Nat) (hM : M < 16777216) : isMaskB (M : Int) 24 = true := by
  unfold isMaskB
  have e : ((2 ^ (24 : Int).toNat : Nat) : Int) = 16777216 := by decide
  rw [e]
  apply decide_eq_true
  exact ⟨by omega, by omega, by omega, by omega⟩
set_option maxHeartbeats 3200000 in
theorem walkMasks (A : Option Addr) (n c : Nat) (bs : List Int) (w : World) (h : RdB w A n bs) (hwf : WfB bs) (hl : n ≤ maxLen) (hT : Tab w) :
    Calls Tryd.prog 13 #[.slice A n c] w fun e w' => e = .returned (.bool true) ∧ Below w.heap.size w w' := by
  by_cases hn : n ≤ 4096
  · have hbig : decide ((4096 : Int) < (n : Int)) = false := decide_eq_false (by omega)
    have hbg : ¬ ((4096 : Int) < (n : Int)) := by omega
    have hab : ∀ b, 0 < n → A.map (·.block) = some b → b < w.heap.size := by
      intro b h0 hb
      obtain ⟨b', off, e, hb', _⟩ := h.2 h0
      rw [e] at hb; simp at hb; omega
    obtain ⟨i0, hi, hz0, hz1, hz2⟩ := info_parts info_int
    go_enter Tryd.func13, Tryd.ntmps13
    go_wp2_with fail
    refine (big_any A n c _).mono ?_
    rintro e w' ⟨rfl, rfl⟩
    rw [hbig]
    go_wp2_with fail
    refine (roll_any A n c 502 bs _ h hab hwf hn (by omega)).mono ?_
    rintro e w1 ⟨g, rfl, hd1, hb1⟩
    have hg1 := hd1.lt
    go_wp2_with fail
    refine (below_any _ g A n c 4096 bs _ hd1 hwf hn (by omega) (by omega)).mono ?_
    rintro e w2 ⟨r1, hr1, rfl, hd2, hgr2⟩
    have hb2 := hb1.grown hgr2 hb1.size (fun k hk => by injection hk with hk; omega)
    go_wp2_with fail
    refine (below_any _ g A n c 4096 bs _ hd2 hwf hn (by omega) (by omega)).mono ?_
    rintro e w3 ⟨r2, hr2, rfl, hd3, hgr3⟩
    have hb3 := hb2.grown hgr3 hb2.size (fun k hk => by injection hk with hk; omega)
    have hg3 := hd3.lt
    obtain ⟨M, hM⟩ : ∃ M, M = r1 * 4096 + r2 := ⟨_, rfl⟩
    have hMlt : M < 16777216 := by omega
    have hMi : ((r1 : Int) * 4096 + (r2 : Int)) = (M : Int) := by omega
    have hT3 := hT.below hb3
    have hm1 : -9223372036854775808 ≤ (M : Int) := by omega
    have hm2 : (M : Int) ≤ 9223372036854775807 := by omega
    clear hd1 hd2 hgr2 hgr3 hb1 hb2 hM
    go_wp2_with fail
    refine (implMembersOf (M : Int) hm1 hm2 _ hT3).mono ?_
    rintro e w4 ⟨A4, c4, rfl, hl4, hb4⟩
    rw [memAns_yes M (isMask_yes M hMlt)] at hl4 ⊢
    have hno := isMask_no M hMlt
    have hyes := isMask_yes M hMlt
    have hNl := bitsOf_len M
    have hd4 := hd3.below hb4
    have hb14 := hb3.trans (hb4.mono hb3.size)
    have hNN : (ints (bitsOf M)).length = (bitsOf M).length := ints_len _
    obtain ⟨N, hN⟩ : ∃ N, N = (bitsOf M).length := ⟨_, rfl⟩
    have hl4' : Own 2 w4 w3.heap.size A4 N c4 (ints (bitsOf M)) := by rw [hN, ← hNN]; exact hl4
    rw [show (ints (bitsOf M)).length = N by rw [hNN, hN]]
    have hb5 := fun wx => bits5_any M hMlt wx
    rw [← hN] at hb5 hNl
    have HN := Lib.hid hN
    have HNO := Lib.hid hno.2
    have hor := hno.1
    clear hl4 hNN hN hno hT3 hMi
    go_wp2_with fail
    refine (hb5 _).mono ?_
    rintro e w' ⟨rfl, rfl⟩
    go_wp2_with fail
    refine (isMask_any _ _ hm1 hm2 _).mono ?_
    rintro e w' ⟨rfl, rfl⟩
    rw [hyes]
    go_wp2_with fail
    refine (isMask_any _ 24 (by omega) (by omega) _).mono ?_
    rintro e w' ⟨rfl, rfl⟩
    rw [HNO.out]
    clear hor hyes hb5
    go_wp2_with fail
    go_loopw [7] (fun i wr => ∃ k : Nat, k ≤ N ∧ i = .int .i64 k ∧ Below w4.heap.size w4 wr) (fun i _ => N - (intOf i).toNat)
    case atStart => exact ⟨0, Nat.zero_le _, rfl, Below.refl _ _⟩
    case round =>
      obtain ⟨k, hk, rfl, hb⟩ := hrel
      by_cases hlt : k < N
      · have hrd := (hl4'.below hb).rd
        obtain ⟨b, off, x, rfl, hbs, hx, hcx⟩ := hrd.at_ hlt
        have hmx := nat_at (bitsOf M) k x (by have := HN.out; omega) hx
        obtain ⟨X, hX, rfl⟩ := hmx
        have hXm := (bitsOf_mem M X).1 (List.mem_of_getElem? hX)
        have hXlt := hXm.1
        have hand : bits .and .i64 ((M : Int) / 2 ^ X) 1 = 1 := by
          have h9 := bit_val M X (by omega)
          rw [hXm.2] at h9; simpa using h9
        have HX := Lib.hid hX
        have hu64 : IntKind.u64.wrap (X : Int) = (X : Int) := IntWalk.u64_in _ (by omega)
        clear hm1 hm2 hi hz0 hz1 hz2 hg1 hg3 hr1 hr2
        by_cases hk0 : k = 0
        · subst hk0
          have hcx0 : wr.cell? ⟨b, off, none⟩ = some (.int .i64 (X : Int)) := hcx
          clear hX hXm hx
          go_wp2
          go_quiet (fail)
          go_wp2
          go_roundw
          case rel => exact ⟨1, by omega, by go_num, by first | exact below_drewN hb _ | exact hb.drew⟩
          case measure => simp [intOf]; omega
        · obtain ⟨b1, off1, y, hadr, hbs2, hy, hcy⟩ := hrd.at_ (show k - 1 < N by omega)
          injection hadr with hadr
          injection hadr with hadr1 hadr2
          subst hadr1 hadr2
          have hmy := nat_at (bitsOf M) (k - 1) y (by have := HN.out; omega) hy
          obtain ⟨Y, hY, rfl⟩ := hmy
          have hlt3 := upTo_sorted M 24 (k - 1) k Y X (by omega) hY hX
          have hnle : decide (X ≤ Y) = false := decide_eq_false (by omega)
          have hYX : Y < X := hlt3
          have hkpos : 0 < k := by omega
          clear hX hXm hx hy hY hk0 hlt3 hrd
          go_wp2
          go_quiet (fail)
          go_wp2
          go_roundw
          case rel => exact ⟨k + 1, by omega, by go_num, by first | exact below_drewN hb _ | exact hb.drew⟩
          case measure => simp [intOf]; omega
      · obtain rfl : k = N := by omega
        have hd5 := hd4.below hb
        have hl5 := hl4'.below hb
        have hb15 := hb14.trans (hb.mono hb14.size)
        have HA4 := Lib.hid (fun q hq => (hl4'.lt q hq).1)
        have HA5 := Lib.hid (fun q hq => (hl5.lt q hq).2)
        have hg5 := hd5.lt
        have hg34 : g < w3.heap.size := hg3.2
        have HWO := Lib.hid hb15.size
        have HKN : Hid (k = (bitsOf M).length) := HN
        clear HN hl4' hd4 hd3 hb4 hb14 hb hm1 hm2 hg1 hr1 hr2 hlt hg3
        obtain ⟨wo, rfl⟩ : ∃ wo : World, wo = wr := ⟨_, rfl⟩
        go_wp2
        go_loopw [8, 9] (fun v i wr => ∃ (r : Nat) (ys : List Nat) (A5 : Option Addr) (c5 : Nat), r ≤ k ∧ i = .int .i64 ((r : Int) - 1) ∧ v = .slice A5 ys.length c5 ∧ Own 2 wr wo.heap.size A5 ys.length c5 (ints ys) ∧ Own 2 wr w3.heap.size A4 k c4 (ints (bitsOf M)) ∧ Dice wr w.heap.size g A n c bs ∧ Below w.heap.size w wr ∧ wo.heap.size ≤ wr.heap.size ∧ ys.length ≤ 2 * (k - r) ∧ (∀ y, y ∈ ys → y ∈ bitsOf M) ∧ (∀ j X, r ≤ j → (bitsOf M)[j]? = some X → X ∈ ys)) (fun _ i _ => (intOf i + 1).toNat)
        case atStart => exact ⟨k, [], _, 0, Nat.le_refl _, rfl, rfl, World.ownsRow_lit wo #[] 0 (Nat.le_refl _) (by unfold maxLen; omega) rfl, World.ownsRow.alloc hl5 _, hd5.alloc _, hb15.alloc hb15.size _, by simp, by simp, (fun y hy => by cases hy), none_past (bitsOf M) k HKN.out⟩
        case round =>
          clear hl5 hd5 hb15
          obtain ⟨r, ys, A5, c5, hr, rfl, rfl, ho, hl, hd, hb, hwo, hyl, hym, hyc⟩ := hrel
          have HYM := Lib.hid hym
          have HYC := Lib.hid hyc
          clear hym hyc
          by_cases hr0 : r = 0
          · subst hr0
            have hans : maskAns (ints ys) = ((M : Int), 0) := mask_of_members M hMlt ys (fun b => ⟨HYM.out b, fun hb => by
              obtain ⟨j, hj⟩ := List.getElem?_of_mem hb
              exact HYC.out j b (Nat.zero_le _) hj⟩)
            have hrd := ho.rd
            have hyb : ys.length ≤ 9223372036854775807 := by omega
            have HANS := Lib.hid hans
            rw [show (((0 : Nat) : Int) - 1) = -1 by omega]
            clear hans
            go_wp2_with fail
            refine (maskOf_any A5 ys.length c5 (ints ys) _ hrd hyb).mono ?_
            rintro e w' ⟨rfl, rfl⟩
            rw [HANS.out]
            go_wp2_with fail
            go_ret
            exact ⟨rfl, hb⟩
          · obtain ⟨j, rfl⟩ : ∃ j, r = j + 1 := ⟨r - 1, by omega⟩
            rw [show (((j + 1 : Nat) : Int) - 1) = (j : Int) by omega]
            have hjk : j < k := by omega
            obtain ⟨b, off, x, hA4, hbs, hx, hcx⟩ := hl.rd.at_ hjk
            obtain ⟨X, hX, rfl⟩ := nat_at (bitsOf M) j x (by have := HKN.out; omega) hx
            have hXm := List.mem_of_getElem? hX
            have HX := Lib.hid hX
            have HXM := Lib.hid hXm
            obtain ⟨L, hL⟩ : ∃ L, L = ys.length := ⟨_, rfl⟩
            rw [← hL] at ho hyl ⊢
            have HL := Lib.hid hL
            have hmlx : L + 1 ≤ maxLen := by unfold maxLen; omega
            have hby2 : (L + 1) * 8 ≤ 140737488355328 := by omega
            subst hA4
            clear hx hX hXm hL
            go_wp2_with (at_builtin; refine wpList_append_own _ rfl _ _ 22 rfl wo.heap.size 2 i0 (.int .i64 0) 1 8 Tryd.underlying22 hi hz0 hz1 hz2 rfl (by decide) (.slice A5 L c5) L ((ints ys).map (Value.int .i64)) rfl (World.ownsRow.alloc ho _) ⟨wr.heap.size, 0, none⟩ 1 1 [.int .i64 (X : Int)] rfl rfl ?s1 ?s2 hmlx hby2 ?s5 ?_)
            case s1 => exact cell_one_new _ _ _
            case s2 => intro u hu; simp at hu; subst hu; rfl
            case s5 => simp; omega
            intro v' wA hown hg _
            rw [ints_snoc_map] at hown
            have hrow : ∀ q, (Value.slice A5 L c5).ownBlock = some q → wo.heap.size ≤ q := fun q hq => (World.ownsRow.lt ho q hq).1
            have hbA : Below w.heap.size w wA := (hb.alloc hb.size _).grown hg (by have := hb.size; simp; omega) (fun q hq => by have := hrow q hq; have := HWO.out; omega)
            have hlA : Own 2 wA w3.heap.size (some ⟨b, off, none⟩) k c4 (ints (bitsOf M)) := Own.apart (World.ownsRow.alloc hl _) hg (fun q hq e => by have := hrow q e; have := HA5.out q hq; omega)
            have hdA : Dice wA w.heap.size g A n c bs := (hd.alloc _).apart hg (fun q hq => by have := hrow q hq; omega)
            have hsA : wo.heap.size ≤ wA.heap.size := by have := hg.size; simp at this; omega
            obtain ⟨A6, c6, hv, ho6⟩ := own_shape hown
            rw [hv]
            clear hg hown hv hrow ho hl hd hb hcx hbs
            go_wp2_with fail
            refine (below_any _ g A n c 3 bs _ hdA hwf hn (by omega) (by omega)).mono ?_
            rintro e wB ⟨r3, hr3, rfl, hdB, hgrB⟩
            have hbB := hbA.grown hgrB hbA.size (fun q hq => by injection hq with hq; omega)
            have hlB := hlA.apart hgrB (fun q hq e => by have := HA4.out q hq; injection e with e; omega)
            have hoB := ho6.apart hgrB (fun q hq e => by have := (ho6.lt q hq).1; injection e with e; omega)
            have hsB : wo.heap.size ≤ wB.heap.size := by have := hgrB.size; omega
            clear hbA hlA hdA hgrB ho6 hsA
            have HLN : Hid ((ys ++ [X]).length = L + 1) := Lib.hid (by rw [List.length_append, HL.out]; rfl)
            have HYM2 : Hid (∀ y, y ∈ ys ++ [X] → y ∈ bitsOf M) := Lib.hid (fun y hy => by
              rcases List.mem_append.1 hy with h | h
              · exact HYM.out y h
              · rw [List.mem_singleton.1 h]; exact HXM.out)
            have HYC2 : Hid (∀ q Z, j ≤ q → (bitsOf M)[q]? = some Z → Z ∈ ys ++ [X]) := Lib.hid (fun q Z hq hZ => by
              by_cases e : q = j
              · subst e
                have h9 := HX.out
                rw [h9] at hZ
                rw [Option.some.inj hZ]
                exact List.mem_append_right _ List.mem_cons_self
              · exact List.mem_append_left _ (HYC.out q Z (by omega) hZ))
            by_cases hr30 : r3 = 0
            · subst hr30
              go_wp2_with fail
              refine (below_any _ g A n c k bs _ hdB hwf hn (by omega) (by omega)).mono ?_
              rintro e wC ⟨r4, hr4, rfl, hdC, hgrC⟩
              have hbC := hbB.grown hgrC hbB.size (fun q hq => by injection hq with hq; omega)
              have hlC := hlB.apart hgrC (fun q hq e => by have := HA4.out q hq; injection e with e; omega)
              have hoC := hoB.apart hgrC (fun q hq e => by have := (hoB.lt q hq).1; injection e with e; omega)
              have hsC : wo.heap.size ≤ wC.heap.size := by have := hgrC.size; omega
              clear hbB hlB hdB hgrC hoB hsB
              obtain ⟨b2, off2, x2, hA42, hbs2, hx2, hcx2⟩ := hlC.rd.at_ hr4
              injection hA42 with hA42
              injection hA42 with hA421 hA422
              subst hA421 hA422
              obtain ⟨Z, hZ, rfl⟩ := nat_at (bitsOf M) r4 x2 (by have := HKN.out; omega) hx2
              have HZM := Lib.hid (List.mem_of_getElem? hZ)
              have hmly : L + 1 + 1 ≤ maxLen := by unfold maxLen; omega
              have hby3 : (L + 1 + 1) * 8 ≤ 140737488355328 := by omega
              clear hx2 hZ
              go_wp2_with (at_builtin; refine wpList_append_own _ rfl _ _ 22 rfl wo.heap.size 2 i0 (.int .i64 0) 1 8 Tryd.underlying22 hi hz0 hz1 hz2 rfl (by decide) (.slice A6 (L + 1) c6) (L + 1) ((ints (ys ++ [X])).map (Value.int .i64)) rfl (World.ownsRow.alloc hoC _) ⟨wC.heap.size, 0, none⟩ 1 1 [.int .i64 (Z : Int)] rfl rfl ?t1 ?t2 hmly hby3 ?t5 ?_)
              case t1 => exact cell_one_new _ _ _
              case t2 => intro u hu; simp at hu; subst hu; rfl
              case t5 => simp; omega
              intro v' wD hown hg _
              rw [ints_snoc_map] at hown
              have hrow : ∀ q, (Value.slice A6 (L + 1) c6).ownBlock = some q → wo.heap.size ≤ q := fun q hq => (World.ownsRow.lt hoC q hq).1
              have hbD : Below w.heap.size w wD := (hbC.alloc hbC.size _).grown hg (by have := hbC.size; simp; omega) (fun q hq => by have := hrow q hq; have := HWO.out; omega)
              have hlD : Own 2 wD w3.heap.size (some ⟨b, off, none⟩) k c4 (ints (bitsOf M)) := Own.apart (World.ownsRow.alloc hlC _) hg (fun q hq e => by have := hrow q e; have := HA5.out q hq; omega)
              have hdD : Dice wD w.heap.size g A n c bs := (hdC.alloc _).apart hg (fun q hq => by have := hrow q hq; omega)
              have hsD : wo.heap.size ≤ wD.heap.size := by have := hg.size; simp at this; omega
              obtain ⟨A7, c7, hv, ho7⟩ := own_shape hown
              have HLN2 : Hid ((ys ++ [X] ++ [Z]).length = L + 1 + 1) := Lib.hid (by rw [List.length_append, HLN.out]; rfl)
              rw [hv]
              clear hg hown hv hrow hoC hlC hdC hbC hcx2 hbs2
              go_wp2
              go_roundw
              case rel => exact ⟨j, ys ++ [X] ++ [Z], A7, c7, by omega, by go_num, by rw [HLN2.out], by rw [HLN2.out]; exact ho7, hlD, hdD, hbD, hsD, by rw [HLN2.out]; omega, fun y hy => by
                rcases List.mem_append.1 hy with h | h
                · exact HYM2.out y h
                · rw [List.mem_singleton.1 h]; exact HZM.out, fun q W hq hW => List.mem_append_left _ (HYC2.out q W hq hW)⟩
              case measure => simp [intOf]
            · have hne : (((r3 : Nat) : Int) == 0) = false := by simp; omega
              go_wp2
              go_roundw
              case rel => exact ⟨j, ys ++ [X], A6, c6, by omega, by go_num, by rw [HLN.out], by rw [HLN.out]; exact hoB, hlB, hdB, hbB, hsB, by rw [HLN.out]; omega, HYM2.out, HYC2.out⟩
              case measure => simp [intOf]
  · have hbig : decide ((4096 : Int) < (n : Int)) = true := decide_eq_true (by omega)
    go_enter Tryd.func13, Tryd.ntmps13
    go_wp2_with fail
    refine (big_any A n c _).mono ?_
    rintro e w' ⟨rfl, rfl⟩
    rw [hbig]
    go_wp2_with fail
    go_ret
    exact ⟨rfl, Below.refl _ _⟩
end Go.Proofs.YtfcipdojgkamgaaDoor
