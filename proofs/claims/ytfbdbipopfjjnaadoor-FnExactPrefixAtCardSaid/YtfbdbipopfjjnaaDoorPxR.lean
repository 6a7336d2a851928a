/-
  Downsets of positions and their letters: isDownset, lettersOf, l04Down, l04At, by contracts.
-/
import Derived.Test.YtfbdbipopfjjnaaDoorPos
import Derived.Test.YtfbdbipopfjjnaaDoorNfP
namespace Go.Proofs.YtfbdbipopfjjnaaDoor
open Go Go.RowKit
set_option linter.unusedVariables false
set_option maxRecDepth 100000

theorem all_take_next (p : Nat → Bool) (ms : List Nat) (t i : Nat) (h : ms[t]? = some i) : (ms.take (t + 1)).all p = ((ms.take t).all p && p i) := by
  rw [List.take_add_one, h, List.all_append]; simp
theorem all_no (p : Nat → Bool) (ms : List Nat) (t i : Nat) (h : ms[t]? = some i) (hp : p i = false) : ms.all p = false := by
  rw [Bool.eq_false_iff]; intro h2
  have := List.all_eq_true.1 h2 i (List.mem_of_getElem? h)
  rw [hp] at this; cases this
set_option maxHeartbeats 1600000 in
theorem isDownset_any (g m c x : Nat) (A : Option Addr) (D : Nat → Nat → Bool) (us : List Nat) (w : World) (bx : OBox w g A m c (dnF D us m) (upW D us m)) (hm : m ≤ 24) (hx : x < 2 ^ m) (hT : Tab w) :
    Calls Tryd.prog 62 #[.pointer (some ⟨g, 0, none⟩), .int .i64 (x : Int)] w fun e w' => e = .returned (.bool (dnB D us x)) ∧ Below w.heap.size w w' := by
  have h24 := p24 m hm
  obtain ⟨ms, hms⟩ : ∃ ms, ms = bitsOf x := ⟨_, rfl⟩
  have HME := Lib.hid (members_some x (by omega) w hT)
  rw [← hms] at HME
  have HDB : Hid (dnB D us x = ms.all fun i => dif (dnW D us i) x == 0) := Lib.hid (by rw [hms]; rfl)
  have HIN : Hid (∀ t i, ms[t]? = some i → i < m) := Lib.hid fun t i h => by
    have := List.mem_of_getElem? h
    rw [hms] at this
    exact bit_lt hx ((bitsOf_mem _ _).1 this).2
  obtain ⟨ml, hml⟩ : ∃ ml, ml = ms.length := ⟨_, rfl⟩
  have hml24 : ml ≤ 24 := by rw [hml, hms]; exact bitsOf_len x
  rw [← hml] at HME
  have HML := Lib.hid hml
  obtain ⟨P, hP⟩ : ∃ P, P = fun i => dif (dnW D us i) x == 0 := ⟨_, rfl⟩
  have HP := Lib.hid hP
  rw [← hP] at HDB
  have hx63 : x < 9223372036854775808 := by omega
  clear hms hml hP h24
  go_enter Tryd.func62, Tryd.ntmps62
  go_wp2_with fail
  refine HME.out.mono ?_
  rintro e w1 ⟨gm, cm, rfl, hom, hb1⟩
  have HB1 := Lib.hid hb1
  have bx1 := bx.next hb1
  have hrd := hom.rd
  clear hom hb1
  go_wp2_with fail
  go_loop [10] (fun q => ∃ t, t ≤ ml ∧ q = .int .i64 ((t : Nat) : Int) ∧ (ms.take t).all P = true) (fun q => ml - (intOf q).toNat)
  case atStart => exact ⟨0, Nat.zero_le _, rfl, rfl⟩
  case round =>
    obtain ⟨t, ht, rfl, hall⟩ := hrel
    by_cases htl : t < ml
    · obtain ⟨i, hi⟩ : ∃ i, ms[t]? = some i := ⟨_, List.getElem?_eq_getElem (by rw [← HML.out]; exact htl)⟩
      have him := HIN.out t i hi
      obtain ⟨b, off, y, eA, hbs, hy, hcy⟩ := hrd.at_ htl
      rw [ints_at hi] at hy
      injection hy with hy
      subst hy
      cases eA
      rw [Nat.zero_add] at hcy
      have HI := Lib.hid hi
      have hcf := bx1.cf i (by omega)
      rw [dnF_at _ _ _ _ him] at hcf
      have hd63 : dnW D us i < 9223372036854775808 := Nat.lt_of_lt_of_le (dnW_lt24 _ _ _) (by decide)
      obtain ⟨N, hN⟩ : ∃ N, N = dnW D us i := ⟨_, rfl⟩
      rw [← hN] at hcf hd63
      have HPI : Hid (P i = (((dif N x : Nat) : Int) == 0)) := Lib.hid (by rw [HP.out, hN, Bool.eq_iff_iff, beq_iff_eq, beq_iff_eq]; omega)
      have HWI : Hid (∀ ww : World, Calls Tryd.prog 106 #[.int .i64 (N : Int), .int .i64 (x : Int)] ww fun e w' => e = .returned (.bool (P i)) ∧ ww = w') := Lib.hid fun ww => by
        rw [HPI.out, ← i64_andNot_nat N x hd63 hx63]; exact isWithin_int _ _ ww
      have HALL := Lib.hid hall
      have hi24 : (i : Int) < 24 := by omega
      have hi0 : (0 : Int) ≤ (i : Int) := by omega
      clear hN hi hall
      cases hp : P i
      · have HF : Hid (dnB D us x = false) := Lib.hid (by rw [HDB.out]; exact all_no P ms t i HI.out hp)
        rw [hp] at HWI
        clear hp
        go_wp2_with fail
        refine (HWI.out _).mono ?_
        rintro e w' ⟨rfl, rfl⟩
        go_wp2_with fail
        go_ret
        exact ⟨ret_b _ _ HF.out.symm, HB1.out⟩
      · have HN : Hid ((ms.take (t + 1)).all P = true) := Lib.hid (by rw [all_take_next P ms t i HI.out, HALL.out, hp]; rfl)
        rw [hp] at HWI
        clear hp
        go_wp2_with fail
        refine (HWI.out _).mono ?_
        rintro e w' ⟨rfl, rfl⟩
        go_wp2_with fail
        go_round
        case rel => exact ⟨t + 1, by omega, by go_num, HN.out⟩
        case measure => simp [intOf]; omega
    · have hte : t = ml := by omega
      subst hte
      have HT : Hid (dnB D us x = true) := Lib.hid (by rw [HDB.out, ← hall, HML.out, List.take_length])
      clear hall
      go_wp2_with fail
      go_ret
      exact ⟨ret_b _ _ HT.out.symm, HB1.out⟩
theorem at_bits (us : List Nat) (m x : Nat) (hm : m ≤ 24) (hx : x < 2 ^ m) : atM us x m = (bitsOf x).map fun i => us.getD i 0 := by
  rw [atM_eq]
  unfold bitsOf
  rw [upTo_skip x m 24 hm fun b h1 _ => Nat.testBit_lt_two_pow (Nat.lt_of_lt_of_le hx (Nat.pow_le_pow_right (by decide) h1))]
theorem map_take_next (f : Nat → Nat) (ms : List Nat) (t i : Nat) (h : ms[t]? = some i) : (ms.take (t + 1)).map f = (ms.take t).map f ++ [f i] := by
  rw [List.take_add_one, h, List.map_append]; rfl
set_option maxHeartbeats 1600000 in
theorem lettersOf_any (g m c x : Nat) (A : Option Addr) (f h' : Nat → Nat) (us : List Nat) (w : World) (bx : OBox w g A m c f h') (hr : Rd w A m (ints us)) (hm : m ≤ 24) (hx : x < 2 ^ m) (hT : Tab w) :
    Calls Tryd.prog 63 #[.pointer (some ⟨g, 0, none⟩), .int .i64 (x : Int)] w (MakesE 2 w (atM us x m).length (ints (atM us x m))) := by
  have h24 := p24 m hm
  obtain ⟨i0, hi, hz0, hz1, hz2⟩ := info_parts info_int
  have hlen : us.length = m := by have := hr.1; rw [ints_len] at this; exact this
  have HL := Lib.hid hlen
  rw [at_bits us m x hm hx]
  obtain ⟨ms, hms⟩ : ∃ ms, ms = bitsOf x := ⟨_, rfl⟩
  rw [← hms]
  have HME := Lib.hid (members_some x (by omega) w hT)
  rw [← hms] at HME
  have HIN : Hid (∀ t i, ms[t]? = some i → i < m) := Lib.hid fun t i h => by
    have := List.mem_of_getElem? h
    rw [hms] at this
    exact bit_lt hx ((bitsOf_mem _ _).1 this).2
  rw [List.length_map]
  obtain ⟨gs, hgs⟩ : ∃ gs : Nat → List Nat, gs = fun t => (ms.take t).map fun i => us.getD i 0 := ⟨_, rfl⟩
  have HG0 : Hid (gs 0 = []) := Lib.hid (by rw [hgs]; rfl)
  have HGN : Hid (∀ t i, ms[t]? = some i → gs (t + 1) = gs t ++ [us.getD i 0]) := Lib.hid fun t i h9 => by rw [hgs]; exact map_take_next _ ms t i h9
  have hge : gs ms.length = ms.map fun i => us.getD i 0 := by rw [hgs]; show (ms.take ms.length).map _ = _; rw [List.take_length]
  rw [← hge]
  clear hge hgs
  obtain ⟨ml, hml⟩ : ∃ ml, ml = ms.length := ⟨_, rfl⟩
  have hml24 : ml ≤ 24 := by rw [hml, hms]; exact bitsOf_len x
  rw [← hml] at HME ⊢
  have HML := Lib.hid hml
  clear hms hml h24 hlen
  go_enter Tryd.func63, Tryd.ntmps63
  go_wp2_with fail
  refine HME.out.mono ?_
  rintro e w1 ⟨gm, cm, rfl, hom, hb1⟩
  have HB1 := Lib.hid hb1
  have bx1 := bx.next hb1
  have hr1 := hr.below hb1
  have hrd := hom.rd
  clear hom hb1 bx hr
  go_wp2_with fail
  go_loopw [5, 11] (fun v q wr => ∃ (t : Nat) (A1 : Option Addr) (c1 : Nat), t ≤ ml ∧ q = .int .i64 ((t : Nat) : Int) ∧ v = .slice A1 t c1 ∧ Own 2 wr w1.heap.size A1 t c1 (ints (gs t)) ∧ Below w1.heap.size w1 wr) (fun _ q _ => ml - (intOf q).toNat)
  case atStart => exact ⟨0, none, 0, Nat.zero_le _, rfl, rfl, by rw [HG0.out]; exact Own.nil _ _ _, Below.refl _ _⟩
  case round =>
    obtain ⟨t, A1, c1, ht, rfl, rfl, ho, hb⟩ := hrel
    by_cases htl : t < ml
    · obtain ⟨i, hi9⟩ : ∃ i, ms[t]? = some i := ⟨_, List.getElem?_eq_getElem (by rw [← HML.out]; exact htl)⟩
      have him := HIN.out t i hi9
      obtain ⟨b, off, y, eA, hbs, hy, hcy⟩ := (hrd.below hb).at_ htl
      rw [ints_at hi9] at hy
      injection hy with hy
      subst hy
      cases eA
      rw [Nat.zero_add] at hcy
      have bx2 := bx1.next hb
      have z0 := bx2.c0
      obtain ⟨gu, ou, xU, eU, hgu, hxU, hcU⟩ := (hr1.below hb).at_ him
      rw [ints_getD us i (by rw [HL.out]; exact him)] at hxU
      injection hxU with hxU
      have HNX : Hid (ints (gs (t + 1)) = ints (gs t ++ [us.getD i 0])) := Lib.hid (by rw [HGN.out t i hi9])
      obtain ⟨X, hX⟩ : ∃ X, X = us.getD i 0 := ⟨_, rfl⟩
      rw [← hX] at hxU HNX
      subst hxU eU
      have hmlx : t + 1 ≤ maxLen := by unfold maxLen; omega
      have hby2 : (t + 1) * 8 ≤ 140737488355328 := by omega
      have hi0 : (0 : Int) ≤ (i : Int) := by omega
      have hiz : (i : Int) < (m : Int) := by omega
      clear hX hi9
      go_wp2_with (at_builtin; refine wpList_append_own _ rfl _ _ 22 rfl w1.heap.size 2 i0 (.int .i64 0) 1 8 Tryd.underlying22 hi hz0 hz1 hz2 rfl (by decide) (.slice A1 t c1) t ((ints (gs t)).map (Value.int .i64)) rfl (World.ownsRow.alloc ho _) ⟨wr.heap.size, 0, none⟩ 1 1 [.int .i64 (X : Int)] rfl rfl ?c1 ?c2 hmlx hby2 ?c5 ?_)
      case c1 => exact cell_one_new _ _ _
      case c2 => intro u hu; simp at hu; subst hu; rfl
      case c5 => have := hb.size; simp; omega
      intro v' w3 hown hg _
      rw [ints_snoc_map, ← HNX.out] at hown
      have hb3 : Below w1.heap.size w1 w3 := (hb.alloc hb.size _).grown hg (by have := hb.size; simp; omega) (fun g hgr => (World.ownsRow.lt ho g hgr).1)
      obtain ⟨A2, c2, hv, ho3⟩ := own_shape hown
      rw [hv]
      clear hg hown hv ho hb
      go_wp2_with fail
      go_roundw
      case rel => exact ⟨t + 1, A2, c2, by omega, by go_num, rfl, ho3, hb3⟩
      case measure => simp [intOf]; omega
    · have hte : t = ml := by omega
      subst hte
      go_wp2_with fail
      go_ret
      exact ⟨A1, c1, rfl, ho.mono HB1.out.size, HB1.out.trans (hb.mono HB1.out.size)⟩
set_option maxHeartbeats 1600000 in
theorem l04Down_any (A : Option Addr) (m c x : Nat) (D : Nat → Nat → Bool) (us : List Nat) (w : World) (h : Rd w A m (ints (ordM D us m))) (hm : m ≤ 24) (hx : x < 2 ^ m) :
    Calls Tryd.prog 58 #[.slice A m c, .int .i64 (x : Int)] w fun e w' => e = .returned (.bool (upB D us m x)) ∧ w = w' := by
  have h24 := p24 m hm
  have hx63 : x < 9223372036854775808 := by omega
  obtain ⟨P, hP⟩ : ∃ P, P = fun i => x.testBit i || upW D us m i &&& x == 0 := ⟨_, rfl⟩
  have HUB : Hid (upB D us m x = (List.range m).all P) := Lib.hid (by rw [hP]; rfl)
  have HP := Lib.hid hP
  clear hP h24
  go_enter Tryd.func58, Tryd.ntmps58
  go_wp2_with fail
  go_loop [5] (fun q => ∃ t, t ≤ m ∧ q = .int .i64 ((t : Nat) : Int) ∧ (List.range t).all P = true) (fun q => m - (intOf q).toNat)
  case atStart => exact ⟨0, Nat.zero_le _, rfl, rfl⟩
  case round =>
    obtain ⟨t, ht, rfl, hall⟩ := hrel
    have HALL := Lib.hid hall
    clear hall
    by_cases htm : t < m
    · obtain ⟨b, off, y, eA, hbs, hy, hcy⟩ := h.at_ htm
      rw [ints_getD _ t (by rw [ordM_len]; exact htm), ordM_at _ _ _ _ htm] at hy
      injection hy with hy
      have hu := upW_lt D us m t
      have hp24 := p24 m hm
      have HPT : Hid (P t = (x.testBit t || upW D us m t &&& x == 0)) := Lib.hid (by rw [HP.out])
      obtain ⟨X, hX⟩ : ∃ X, X = upW D us m t := ⟨_, rfl⟩
      rw [← hX] at hy HPT hu
      have hand := i64_and_nat X x (by omega) hx63
      obtain ⟨Y, hY⟩ : ∃ Y, Y = X &&& x := ⟨_, rfl⟩
      rw [← hY] at hand HPT
      subst hy eA
      have HNX : Hid (P t = true → (List.range (t + 1)).all P = true) := Lib.hid fun h9 => by rw [List.range_succ, List.all_append, HALL.out]; simp [h9]
      have HNO : Hid (P t = false → upB D us m x = false) := Lib.hid fun h9 => by
        rw [HUB.out, Bool.eq_false_iff]; intro h8
        have := List.all_eq_true.1 h8 t (List.mem_range.2 htm)
        rw [h9] at this; cases this
      have HBT : Hid (∀ ww : World, Calls Tryd.prog 48 #[.int .i64 (x : Int), .int .i64 (t : Int)] ww fun e w' => e = .returned (.bool (x.testBit t)) ∧ ww = w') := Lib.hid fun ww => bit_any x t hx63 (by omega) ww
      obtain ⟨bt, hbt⟩ : ∃ bt, bt = x.testBit t := ⟨_, rfl⟩
      rw [← hbt] at HBT HPT
      clear hX hY hbt hu hp24
      cases bt
      · by_cases hY0 : Y = 0
        · have hq : ((Y : Int) != 0) = false := by rw [hY0]; rfl
          have HR := Lib.hid (HNX.out (by rw [HPT.out, hY0]; rfl))
          clear hY0
          go_wp2_with fail
          refine (HBT.out _).mono ?_
          rintro e w' ⟨rfl, rfl⟩
          go_wp2_with fail
          go_round
          case rel => exact ⟨t + 1, by omega, by go_num, HR.out⟩
          case measure => simp [intOf]; omega
        · have hq : ((Y : Int) != 0) = true := by simp; omega
          have HR := Lib.hid (HNO.out (by rw [HPT.out]; simp [hY0]))
          clear hY0
          go_wp2_with fail
          refine (HBT.out _).mono ?_
          rintro e w' ⟨rfl, rfl⟩
          go_wp2_with fail
          go_ret
          exact ⟨ret_b _ _ HR.out.symm, rfl⟩
      · have HR := Lib.hid (HNX.out (by rw [HPT.out]; rfl))
        go_wp2_with fail
        refine (HBT.out _).mono ?_
        rintro e w' ⟨rfl, rfl⟩
        go_wp2_with fail
        go_round
        case rel => exact ⟨t + 1, by omega, by go_num, HR.out⟩
        case measure => simp [intOf]; omega
    · have hte : t = m := by omega
      subst hte
      have HT : Hid (upB D us t x = true) := Lib.hid (by rw [HUB.out]; exact HALL.out)
      go_wp2_with fail
      go_ret
      exact ⟨ret_b _ _ HT.out.symm, rfl⟩
set_option maxHeartbeats 1600000 in
theorem l04At_any (A : Option Addr) (m c x : Nat) (us : List Nat) (w : World) (h : Rd w A m (ints us)) (hm : m ≤ 24) (hx : x < 2 ^ m) :
    Calls Tryd.prog 60 #[.slice A m c, .int .i64 (x : Int)] w (MakesE 2 w (atM us x m).length (ints (atM us x m))) := by
  have h24 := p24 m hm
  have hx63 : x < 9223372036854775808 := by omega
  obtain ⟨i0, hi, hz0, hz1, hz2⟩ := info_parts info_int
  have hlen : us.length = m := by have := h.1; rw [ints_len] at this; exact this
  have HL := Lib.hid hlen
  clear hlen h24
  go_enter Tryd.func60, Tryd.ntmps60
  go_wp2_with fail
  go_loopw [5, 6] (fun v q wr => ∃ (t : Nat) (A1 : Option Addr) (c1 : Nat), t ≤ m ∧ q = .int .i64 ((t : Nat) : Int) ∧ v = .slice A1 (atM us x t).length c1 ∧ Own 2 wr w.heap.size A1 (atM us x t).length c1 (ints (atM us x t)) ∧ Below w.heap.size w wr) (fun _ q _ => m - (intOf q).toNat)
  case atStart => exact ⟨0, _, 0, Nat.zero_le _, rfl, rfl, World.ownsRow_lit w #[] 0 (Nat.le_refl _) (by unfold maxLen; omega) rfl, (Below.refl _ _).alloc (Nat.le_refl _) _⟩
  case round =>
    obtain ⟨t, A1, c1, ht, rfl, rfl, ho, hb⟩ := hrel
    have hat : (atM us x t).length ≤ 24 := Nat.le_trans (atM_len us x t) (by omega)
    by_cases htm : t < m
    · have HNY : Hid (x.testBit t = true → atM us x (t + 1) = atM us x t ++ [us.getD t 0]) := Lib.hid fun h9 => by show (if x.testBit t = true then _ else _) = _; rw [if_pos h9]
      have HNN : Hid (x.testBit t = false → atM us x (t + 1) = atM us x t) := Lib.hid fun h9 => by show (if x.testBit t = true then _ else _) = _; rw [h9]; rfl
      have HBT : Hid (∀ ww : World, Calls Tryd.prog 48 #[.int .i64 (x : Int), .int .i64 (t : Int)] ww fun e w' => e = .returned (.bool (x.testBit t)) ∧ ww = w') := Lib.hid fun ww => bit_any x t hx63 (by omega) ww
      obtain ⟨bt, hbt⟩ : ∃ bt, bt = x.testBit t := ⟨_, rfl⟩
      rw [← hbt] at HBT HNY HNN
      obtain ⟨zs, has⟩ : ∃ zs, zs = atM us x t := ⟨_, rfl⟩
      rw [← has] at ho hat HNY HNN ⊢
      obtain ⟨L, hL⟩ : ∃ L, L = zs.length := ⟨_, rfl⟩
      rw [← hL] at ho hat ⊢
      have HLL := Lib.hid hL
      clear hbt has hL
      cases bt
      · have HN := Lib.hid (HNN.out rfl)
        go_wp2_with fail
        refine (HBT.out _).mono ?_
        rintro e w' ⟨rfl, rfl⟩
        go_wp2_with fail
        go_roundw
        case rel => exact ⟨t + 1, A1, c1, by omega, by go_num, by rw [HN.out, ← HLL.out], by rw [HN.out, ← HLL.out]; exact ho, hb⟩
        case measure => simp [intOf]; omega
      · have HN := Lib.hid (HNY.out rfl)
        obtain ⟨gu, ou, xU, eU, hgu, hxU, hcU⟩ := (h.below hb).at_ htm
        rw [ints_getD us t (by rw [HL.out]; exact htm)] at hxU
        injection hxU with hxU
        obtain ⟨X, hX⟩ : ∃ X, X = us.getD t 0 := ⟨_, rfl⟩
        rw [← hX] at hxU HN
        subst hxU eU
        have hmlx : L + 1 ≤ maxLen := by unfold maxLen; omega
        have hby2 : (L + 1) * 8 ≤ 140737488355328 := by omega
        clear hX
        go_wp2_with (first | (go_at_call 48; refine (HBT.out _).mono ?_; rintro e w' ⟨rfl, rfl⟩) | (at_builtin; refine wpList_append_own _ rfl _ _ 22 rfl w.heap.size 2 i0 (.int .i64 0) 1 8 Tryd.underlying22 hi hz0 hz1 hz2 rfl (by decide) (.slice A1 L c1) L ((ints zs).map (Value.int .i64)) rfl (World.ownsRow.alloc ho _) ⟨wr.heap.size, 0, none⟩ 1 1 [.int .i64 (X : Int)] rfl rfl ?c1 ?c2 hmlx hby2 ?c5 ?_))
        case c1 => exact cell_one_new _ _ _
        case c2 => intro u hu; simp at hu; subst hu; rfl
        case c5 => have := hb.size; simp; omega
        intro v' w3 hown hg _
        rw [ints_snoc_map, ← HN.out] at hown
        have hb3 : Below w.heap.size w w3 := (hb.alloc hb.size _).grown hg (by have := hb.size; simp; omega) (fun g hgr => (World.ownsRow.lt ho g hgr).1)
        obtain ⟨A2, c2, hv, ho3⟩ := own_shape hown
        rw [hv]
        have HL2 : Hid (L + 1 = (atM us x (t + 1)).length) := Lib.hid (by rw [HN.out, List.length_append, HLL.out]; rfl)
        clear hg hown hv ho hb
        go_wp2_with fail
        go_roundw
        case rel => exact ⟨t + 1, A2, c2, by omega, by go_num, by rw [← HL2.out], by rw [← HL2.out]; exact ho3, hb3⟩
        case measure => simp [intOf]; omega
    · have hte : t = m := by omega
      subst hte
      go_wp2_with fail
      go_ret
      exact ⟨A1, c1, rfl, ho, hb⟩
end Go.Proofs.YtfbdbipopfjjnaaDoor
