/-
  Signed letters and their numbers: the program's small functions by contracts.
-/
import Derived.Test.YtdafdffmkjhhcaaDoorGrD
import Derived.Test.YtdafdffmkjhhcaaDoorM2
namespace Go.Proofs.YtdafdffmkjhhcaaDoor
open Go Go.RowKit
set_option linter.unusedVariables false
set_option linter.unusedSimpArgs false
set_option maxRecDepth 100000

theorem opp_xor (a : Nat) : a ^^^ 1 = opp a := by
  apply Nat.eq_of_testBit_eq
  intro i
  rw [Nat.testBit_xor]
  cases i with
  | zero =>
    rw [Nat.testBit_zero, Nat.testBit_zero, Nat.testBit_zero]
    unfold opp
    split
    · rename_i h
      rw [show decide (a % 2 = 1) = false from decide_eq_false (by omega), show decide ((a + 1) % 2 = 1) = true from decide_eq_true (by omega)]; rfl
    · rename_i h
      rw [show decide (a % 2 = 1) = true from decide_eq_true (by omega), show decide ((a - 1) % 2 = 1) = false from decide_eq_false (by omega)]; rfl
  | succ i =>
    rw [Nat.testBit_succ, Nat.testBit_succ, Nat.testBit_succ, opp_half]; simp
theorem i64_xor1 (a : Nat) (ha : a < 1000000) : bits .xor .i64 (a : Int) 1 = ((opp a : Nat) : Int) := by
  have hx : a ^^^ 1 < 2 ^ 63 := Nat.xor_lt_two_pow (by omega) (by decide)
  have h1 : bits .xor .i64 (a : Int) ((1 : Nat) : Int) = ((a ^^^ 1 : Nat) : Int) := by
    show IntKind.i64.wrap ((BitVec.ofInt 64 (a : Int) ^^^ BitVec.ofInt 64 ((1 : Nat) : Int)).toNat : Int) = _
    rw [BitVec.toNat_xor, ofInt_u64 a (by omega), ofInt_u64 1 (by omega), i64_nat _ (by omega)]
  rw [opp_xor] at h1; exact h1
theorem opposite_any (a : Nat) (ha : a < 1000000) (w : World) :
    Calls Tryd.prog 126 #[.int .i64 (a : Int)] w fun e w' => e = .returned (.int .i64 ((opp a : Nat) : Int)) ∧ w = w' := by
  go_enter Tryd.func126, Tryd.ntmps126
  go_wp2
  go_ret
  exact ⟨ret_i _ _ (i64_xor1 a ha), rfl⟩
theorem l09Opposite_any (a : Nat) (ha : a < 1000000) (w : World) :
    Calls Tryd.prog 120 #[.int .i64 (a : Int)] w fun e w' => e = .returned (.int .i64 ((opp a : Nat) : Int)) ∧ w = w' := by
  have e1 : Int.tmod (a : Int) 2 = ((a % 2 : Nat) : Int) := by rw [Int.tmod_eq_emod_of_nonneg (by omega)]; omega
  go_enter Tryd.func120, Tryd.ntmps120
  go_wp2
  go_ret
  refine ⟨ret_i _ _ ?_, rfl⟩
  unfold opp
  split <;> omega
theorem isNegative_any (a : Nat) (w : World) :
    Calls Tryd.prog 163 #[.int .i64 (a : Int)] w fun e w' => e = .returned (.bool (a % 2 == 1)) ∧ w = w' := by
  go_enter Tryd.func163, Tryd.ntmps163
  go_wp2
  go_ret
  refine ⟨ret_b _ _ ?_, rfl⟩
  rw [Bool.eq_iff_iff, beq_iff_eq, beq_iff_eq]
  omega
set_option maxHeartbeats 800000 in
theorem numbersOf_any (A : Option Addr) (n c : Nat) (us : List Int) (w : World) (h : Rd w A n us) (hn : n ≤ 24) (hu : ∀ s, s ∈ us → sgB1 8 s = true) :
    Calls Tryd.prog 122 #[.slice A n c] w (MakesE 2 w n (ints (us.map inN))) := by
  obtain ⟨i0, hi, hz0, hz1, hz2⟩ := info_parts info_int
  have hml : n ≤ maxLen := by unfold maxLen; omega
  have hby : i0.bytes * n ≤ 281474976710656 := by rw [hz2]; omega
  have HL : Hid ((ints (us.map inN)).length = n) := Lib.hid (by rw [ints_len, List.length_map]; exact h.1)
  have HXS : Hid (∀ k x, us[k]? = some x → (ints (us.map inN))[k]? = some ((inN x : Nat) : Int)) := Lib.hid (fun k x hx => by unfold ints; rw [List.getElem?_map, List.getElem?_map, hx]; rfl)
  have HU := Lib.hid hu
  obtain ⟨zs, hzs⟩ : ∃ zs, zs = ints (us.map inN) := ⟨_, rfl⟩
  rw [← hzs] at HL HXS ⊢
  clear hzs hu
  go_enter Tryd.func122, Tryd.ntmps122
  go_wp2_with (first | (at_make; refine wpList_make_full _ rfl _ _ _ rfl w.heap.size 2 i0 (.int .i64 0) 1 Tryd.underlying22 hi hz0 hz1 _ _ (n : Int) (n : Int) n rfl rfl rfl rfl hby hml (Nat.le_refl _) ?_; intro w1 hown0 hg1))
  have hown : Own 2 w1 w.heap.size (some ⟨w.heap.size, 0, none⟩) n n (List.replicate n 0) := by
    unfold Own; rw [← made_int]; exact hown0
  clear hown0
  have hb1 : Below w.heap.size w w1 := (Below.refl _ _).grown hg1 (Nat.le_refl _) (by simp)
  clear hg1
  go_loopw [11] (fun i wr => ∃ k : Nat, k ≤ n ∧ i = .int .i64 k ∧ Own 2 wr w.heap.size (some ⟨w.heap.size, 0, none⟩) n n (zs.take k ++ List.replicate (n - k) 0) ∧ Below w.heap.size w wr) (fun i _ => n - (intOf i).toNat)
  case atStart => exact ⟨0, Nat.zero_le _, rfl, by simpa using hown, hb1⟩
  case round =>
    obtain ⟨k, hk, rfl, ho, hb⟩ := hrel
    by_cases hlt : k < n
    · obtain ⟨b, off, x, rfl, hbs, hx, hcx⟩ := h.at_ hlt
      have hc1 : wr.cell? ⟨b, off + k, none⟩ = some (.int .i64 x) := (hb.cell (p := ⟨b, off + k, none⟩) hbs).trans hcx
      have hf : wr.frozen? ⟨w.heap.size, k, none⟩ = false := ho.frozen k
      obtain ⟨u, hu⟩ : ∃ u, (zs.take k ++ List.replicate (n - k) 0)[k]? = some u := ⟨_, List.getElem?_eq_getElem (by have := HL.out; simp; omega)⟩
      have hc2 : wr.cell? ⟨w.heap.size, k, none⟩ = some (.int .i64 u) := ho.cell hu
      obtain ⟨hb1, hb2, hb3⟩ := (sgB1_iff _ _).1 (HU.out x (List.mem_of_getElem? hx))
      have HZ : Hid (∀ v, v = ((inN x : Nat) : Int) → Own 2 (wr.setCell ⟨w.heap.size, k, none⟩ (.int .i64 v)) w.heap.size (some ⟨w.heap.size, 0, none⟩) n n (zs.take (k + 1) ++ List.replicate (n - (k + 1)) 0)) := Lib.hid (fun v hv => by
        subst hv
        have ho2 := ho.set_ k ((inN x : Nat) : Int)
        rw [take_set_next zs _ k _ (HXS.out k x hx) (by have := HL.out; simp; omega)] at ho2
        have e : (List.replicate (n - k) (0 : Int)).drop 1 = List.replicate (n - (k + 1)) 0 := by { rw [List.drop_replicate]; congr 1 }
        rw [e] at ho2; exact ho2)
      have HBW : Hid (∀ v : Value, Below w.heap.size w (wr.setCell ⟨w.heap.size, k, none⟩ v)) := Lib.hid (fun v => hb.setCell (p := ⟨w.heap.size, k, none⟩) (Nat.le_refl _) v)
      have HU1 : Hid ((zs.take k ++ List.replicate (n - k) 0)[k]? = some u) := Lib.hid hu
      clear hx hu hcx
      by_cases hp : 0 < x
      · go_wp2
        go_roundw
        case rel => exact ⟨k + 1, by omega, by go_num, HZ.out _ (by rw [inN_pos hp]), HBW.out _⟩
        case measure => simp [intOf]; omega
      · go_wp2
        go_roundw
        case rel => exact ⟨k + 1, by omega, by go_num, HZ.out _ (by rw [inN_neg hp hb3]), HBW.out _⟩
        case measure => simp [intOf]; omega
    · obtain rfl : k = n := by omega
      go_wp2
      go_ret
      refine ⟨_, _, rfl, ?_, hb⟩
      have e : zs.take k ++ List.replicate (k - k) 0 = zs := by rw [Nat.sub_self, List.replicate_zero, List.append_nil]; exact List.take_of_length_le (by have := HL.out; omega)
      rw [← e]; exact ho
theorem map_at_ (f : Nat → Int) (vs : List Nat) (k x : Nat) (h : vs[k]? = some x) : (vs.map f)[k]? = some (f x) := by rw [List.getElem?_map, h]; rfl
theorem ints_get (vs : List Nat) (k : Nat) (x : Int) (h : (ints vs)[k]? = some x) : ∃ y, vs[k]? = some y ∧ x = (y : Int) := by
  unfold ints at h
  rw [List.getElem?_map] at h
  cases hv : vs[k]? with
  | none => rw [hv] at h; cases h
  | some y => rw [hv] at h; injection h with h; exact ⟨y, rfl, h.symm⟩
set_option maxHeartbeats 800000 in
theorem signedWord_any (A : Option Addr) (n c : Nat) (vs : List Nat) (w : World) (h : Rd w A n (ints vs)) (hn : n ≤ 1000) (hu : ∀ x, x ∈ vs → x < 48) :
    Calls Tryd.prog 127 #[.slice A n c] w (MakesE 2 w n (vs.map outI)) := by
  obtain ⟨i0, hi, hz0, hz1, hz2⟩ := info_parts info_int
  have hml : n ≤ maxLen := by unfold maxLen; omega
  have hby : i0.bytes * n ≤ 281474976710656 := by rw [hz2]; omega
  have HL : Hid ((vs.map outI).length = n) := Lib.hid (by rw [List.length_map]; have := h.1; rw [ints_len] at this; exact this)
  have HXS : Hid (∀ k x, vs[k]? = some x → (vs.map outI)[k]? = some (outI x)) := Lib.hid (fun k x hx => map_at_ outI vs k x hx)
  have HU := Lib.hid hu
  obtain ⟨zs, hzs⟩ : ∃ zs, zs = vs.map outI := ⟨_, rfl⟩
  rw [← hzs] at HL HXS ⊢
  clear hzs hu
  go_enter Tryd.func127, Tryd.ntmps127
  go_wp2_with (first | (at_make; refine wpList_make_full _ rfl _ _ _ rfl w.heap.size 2 i0 (.int .i64 0) 1 Tryd.underlying22 hi hz0 hz1 _ _ (n : Int) (n : Int) n rfl rfl rfl rfl hby hml (Nat.le_refl _) ?_; intro w1 hown0 hg1))
  have hown : Own 2 w1 w.heap.size (some ⟨w.heap.size, 0, none⟩) n n (List.replicate n 0) := by
    unfold Own; rw [← made_int]; exact hown0
  clear hown0
  have hb1 : Below w.heap.size w w1 := (Below.refl _ _).grown hg1 (Nat.le_refl _) (by simp)
  clear hg1
  go_loopw [11] (fun i wr => ∃ k : Nat, k ≤ n ∧ i = .int .i64 k ∧ Own 2 wr w.heap.size (some ⟨w.heap.size, 0, none⟩) n n (zs.take k ++ List.replicate (n - k) 0) ∧ Below w.heap.size w wr) (fun i _ => n - (intOf i).toNat)
  case atStart => exact ⟨0, Nat.zero_le _, rfl, by simpa using hown, hb1⟩
  case round =>
    obtain ⟨k, hk, rfl, ho, hb⟩ := hrel
    by_cases hlt : k < n
    · obtain ⟨b, off, x0, rfl, hbs, hx0, hcx⟩ := h.at_ hlt
      obtain ⟨x, hx, rfl⟩ := ints_get vs k x0 hx0
      have hc1 : wr.cell? ⟨b, off + k, none⟩ = some (.int .i64 (x : Int)) := (hb.cell (p := ⟨b, off + k, none⟩) hbs).trans hcx
      have hf : wr.frozen? ⟨w.heap.size, k, none⟩ = false := ho.frozen k
      obtain ⟨u, hu⟩ : ∃ u, (zs.take k ++ List.replicate (n - k) 0)[k]? = some u := ⟨_, List.getElem?_eq_getElem (by have := HL.out; simp; omega)⟩
      have hc2 : wr.cell? ⟨w.heap.size, k, none⟩ = some (.int .i64 u) := ho.cell hu
      have hx48 := HU.out x (List.mem_of_getElem? hx)
      have HOS : Hid (∀ v, Own 2 (wr.setCell ⟨w.heap.size, k, none⟩ (.int .i64 v)) w.heap.size (some ⟨w.heap.size, 0, none⟩) n n ((zs.take k ++ List.replicate (n - k) 0).set k v)) := Lib.hid (fun v => ho.set_ k v)
      have HZ : Hid ((zs.take k ++ List.replicate (n - k) 0).set k (outI x) = zs.take (k + 1) ++ List.replicate (n - (k + 1)) 0) := Lib.hid (by
        rw [take_set_next zs _ k _ (HXS.out k x hx) (by have := HL.out; simp; omega)]
        have e : (List.replicate (n - k) (0 : Int)).drop 1 = List.replicate (n - (k + 1)) 0 := by { rw [List.drop_replicate]; congr 1 }
        rw [e])
      have HBW : Hid (∀ v : Value, Below w.heap.size w (wr.setCell ⟨w.heap.size, k, none⟩ v)) := Lib.hid (fun v => hb.setCell (p := ⟨w.heap.size, k, none⟩) (Nat.le_refl _) v)
      have HU1 : Hid ((zs.take k ++ List.replicate (n - k) 0)[k]? = some u) := Lib.hid hu
      have HX := Lib.hid hx
      have HLS : Hid (k < (zs.take k ++ List.replicate (n - k) (0 : Int)).length) := Lib.hid (by have := HL.out; simp; omega)
      clear hx hu hcx hx0
      have hq : Int.tdiv (x : Int) 2 = ((x / 2 : Nat) : Int) := by rw [Int.tdiv_eq_ediv_of_nonneg (by omega)]; omega
      have hq2 : x / 2 < 24 := by omega
      obtain ⟨y, hy⟩ : ∃ y, y = x / 2 := ⟨_, rfl⟩
      have HY := Lib.hid hy
      rw [← hy] at hq hq2
      clear hy
      have ho1 := HOS.out ((y : Int) + 1)
      have hf1 := ho1.frozen k
      have hc3 : (wr.setCell ⟨w.heap.size, k, none⟩ (.int .i64 ((y : Int) + 1))).cell? ⟨w.heap.size, k, none⟩ = some (.int .i64 ((y : Int) + 1)) := ho1.cell (by rw [List.getElem?_set_self HLS.out])
      by_cases hp : x % 2 = 0
      · have hpb : (x % 2 == 1) = false := by rw [hp]; rfl
        have HV := Lib.hid (outI_even hp)
        go_wp2_with (go_at_call 163; refine (isNegative_any x _).mono ?_; rintro e w9 ⟨rfl, rfl⟩)
        go_roundw
        case rel => exact ⟨k + 1, by omega, by go_num, by rw [← HZ.out, HV.out, ← HY.out]; exact ho1, HBW.out _⟩
        case measure => simp [intOf]; omega
      · have hpb : (x % 2 == 1) = true := by rw [show x % 2 = 1 by omega]; rfl
        have HV := Lib.hid (outI_odd hp)
        have ho2 := ho1.set_ k (-((y : Int) + 1))
        rw [List.set_set] at ho2
        have hb2 := (HBW.out (.int .i64 ((y : Int) + 1))).setCell (p := ⟨w.heap.size, k, none⟩) (Nat.le_refl _) (.int .i64 (-((y : Int) + 1)))
        go_wp2_with (go_at_call 163; refine (isNegative_any x _).mono ?_; rintro e w9 ⟨rfl, rfl⟩)
        go_roundw
        case rel => exact ⟨k + 1, by omega, by go_num, by rw [← HZ.out, HV.out, ← HY.out]; exact ho2, hb2⟩
        case measure => simp [intOf]; omega
    · obtain rfl : k = n := by omega
      go_wp2
      go_ret
      refine ⟨_, _, rfl, ?_, hb⟩
      have e : zs.take k ++ List.replicate (k - k) 0 = zs := by rw [Nat.sub_self, List.replicate_zero, List.append_nil]; exact List.take_of_length_le (by have := HL.out; omega)
      rw [← e]; exact ho
set_option maxHeartbeats 1600000 in
theorem setSigned_any (s : Nat) (hs : s < 256) (w : World) (hT : Tab w) :
    Calls Tryd.prog 158 #[.int .i64 (s : Int)] w fun e w' => e = .returned (.int .i64 ((sgL (bitsOf s) : Nat) : Int)) ∧ Below w.heap.size w w' := by
  have HM := Lib.hid (members_any s (by omega) w hT)
  have HLT : Hid (∀ a, a ∈ bitsOf s → a < 8) := Lib.hid (fun a ha => by
    have h1 := ((bitsOf_mem s a).1 ha).2
    rcases Nat.lt_or_ge a 8 with h | h
    · exact h
    · rw [Nat.testBit_lt_two_pow (Nat.lt_of_lt_of_le (show s < 2 ^ 8 by omega) (Nat.pow_le_pow_right (by decide) h))] at h1; cases h1)
  have HL24 := Lib.hid (bitsOf_len s)
  obtain ⟨L, hL⟩ : ∃ L, L = bitsOf s := ⟨_, rfl⟩
  rw [← hL] at HM HLT HL24 ⊢
  clear hL
  obtain ⟨n, hn⟩ : ∃ n, n = L.length := ⟨_, rfl⟩
  have HN := Lib.hid hn
  rw [← hn] at HM HL24
  clear hn
  go_enter Tryd.func158, Tryd.ntmps158
  go_wp2_with fail
  refine HM.out.mono ?_
  rintro e w1 ⟨A, c, rfl, ho, hb⟩
  have hl24 := HL24.out
  go_wp2_with fail
  go_loop [3, 9] (fun m i => ∃ k : Nat, k ≤ n ∧ i = .int .i64 k ∧ m = .int .i64 ((sgL (L.take k) : Nat) : Int)) (fun _ i => n - (intOf i).toNat)
  case atStart => exact ⟨0, Nat.zero_le _, rfl, rfl⟩
  case round =>
    obtain ⟨k, hk, rfl, rfl⟩ := hrel
    have hsl := sgL_lt (L.take k) (fun a ha => HLT.out a (List.mem_of_mem_take ha))
    by_cases hlt : k < n
    · obtain ⟨b, off, x0, rfl, hbs, hx0, hcx⟩ := ho.rd.at_ hlt
      obtain ⟨x, hx, rfl⟩ := ints_get L k x0 hx0
      have hx8 := HLT.out x (List.mem_of_getElem? hx)
      have HNX : Hid (sgL (L.take k) ||| 2 ^ (2 * x) ||| 2 ^ (2 * x + 1) = sgL (L.take (k + 1))) := Lib.hid (by rw [List.take_add_one, hx]; exact (sgL_snoc _ _).symm)
      have HM1 : Hid (sgL (L.take k) ||| 2 ^ (2 * x) < 9223372036854775808) := Lib.hid (by
        have h1 : 2 ^ (2 * x) < 2 ^ 16 := Nat.pow_lt_pow_right (by decide) (by omega)
        have := Nat.or_lt_two_pow (show sgL (L.take k) < 2 ^ 16 by omega) h1
        omega)
      obtain ⟨M, hM⟩ : ∃ M, M = sgL (L.take k) := ⟨_, rfl⟩
      rw [← hM] at hsl HNX HM1 ⊢
      obtain ⟨y, hy⟩ : ∃ y, y = 2 * x := ⟨_, rfl⟩
      rw [← hy] at HNX HM1
      have e1 : (2 : Int) * (x : Int) = (y : Int) := by omega
      have e2 : (y : Int) + 1 = ((y + 1 : Nat) : Int) := by omega
      have hy16 : y < 16 := by omega
      obtain ⟨M2, hM2⟩ : ∃ M2, M2 = M ||| 2 ^ y := ⟨_, rfl⟩
      have HW1 := Lib.hid (with_any M y (by omega) (by omega))
      rw [← hM2] at HNX HM1 HW1
      have HW2 := Lib.hid (with_any M2 (y + 1) HM1.out (by omega))
      obtain ⟨z, hz⟩ : ∃ z, z = y + 1 := ⟨_, rfl⟩
      rw [← hz] at e2 HW2 HNX
      obtain ⟨M3, hM3⟩ : ∃ M3, M3 = M2 ||| 2 ^ z := ⟨_, rfl⟩
      rw [← hM3] at HW2 HNX
      clear hx hx0 hM hM2 hM3 hz hy
      go_wp2_with (first
        | (go_at_call 57; (with_reducible refine (HW1.out _).mono ?_); rintro e w9 ⟨rfl, rfl⟩)
        | (go_at_call 57; (with_reducible refine (HW2.out _).mono ?_); rintro e w9 ⟨rfl, rfl⟩))
      go_round
      case rel => exact ⟨k + 1, by omega, by go_num, by rw [HNX.out]⟩
      case measure => simp [intOf]; omega
    · obtain rfl : k = n := by omega
      go_wp2
      go_ret
      exact ⟨ret_i _ _ (by rw [List.take_of_length_le (by rw [← HN.out]; exact Nat.le_refl _)]), hb⟩
end Go.Proofs.YtdafdffmkjhhcaaDoor
