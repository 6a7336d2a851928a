/-
  The inverse of a list: the program's way.
-/
import Derived.Test.YtkifadmoedackaaInvM
namespace Go.Proofs.Ytkifadmoedackaa
open Go Go.RowKit
set_option linter.unusedVariables false
set_option maxRecDepth 100000

theorem cvS_next (p q : List Int) (j : Nat) (hj : 1 ≤ j) : cvS p q (j - 1) - p.getD j 0 * q.getD (q.length - j) 0 = cvS p q j := by
  obtain ⟨k, rfl⟩ : ∃ k, j = k + 1 := ⟨j - 1, by omega⟩
  rfl
theorem tdiv_parts (X : Int) (hX : -1000000000000000000 ≤ X ∧ X ≤ 1000000000000000000) : X.tdiv 1000000000000000 * 1000000000000000 + X.tmod 1000000000000000 = X ∧ -1000 ≤ X.tdiv 1000000000000000 ∧ X.tdiv 1000000000000000 ≤ 1000 ∧ -1000000000000000 < X.tmod 1000000000000000 ∧ X.tmod 1000000000000000 < 1000000000000000 := by
  have h1 := Int.mul_tdiv_add_tmod X 1000000000000000
  have h2 := Int.tmod_lt_of_pos X (show (0 : Int) < 1000000000000000 by decide)
  have h3 : -1000000000000000 < X.tmod 1000000000000000 := by
    have := Int.tmod_lt_of_pos (-X) (show (0 : Int) < 1000000000000000 by decide)
    rw [Int.neg_tmod] at this; omega
  omega
set_option maxHeartbeats 1600000 in
theorem nextOfInverse_any (A B : Option Addr) (n c m d : Nat) (ps qs : List Int) (w : World) (h : Rd w A n ps) (h2 : Rd w B m qs) (hn : n ≤ 1048576) (hm : m ≤ 24) (hp : ∀ i, -1000 ≤ ps.getD i 0 ∧ ps.getD i 0 ≤ 1000) (hq : ∀ i, -1000000000000000 ≤ qs.getD i 0 ∧ qs.getD i 0 ≤ 1000000000000000) :
    Calls Try.prog 16 #[.slice A n c, .slice B m d] w fun e w' => ∃ X : Int, e = .returned (.tuple #[.int .i64 X, .bool (maxB (nextV ps qs))]) ∧ (maxB (nextV ps qs) = true → X = nextV ps qs) ∧ Below w.heap.size w w' := by
  have HP := Lib.hid hp
  have HQ := Lib.hid hq
  have HL := Lib.hid h.1
  have HM := Lib.hid h2.1
  clear hp hq
  go_enter Try.func16, Try.ntmps16
  go_wp2
  go_loopw [6, 7, 8] (fun a b i wr => ∃ (j : Nat) (W R : Int), 1 ≤ j ∧ j ≤ m + 1 ∧ (1 < j → j ≤ n) ∧ a = .int .i64 W ∧ b = .int .i64 R ∧ i = .int .i64 j ∧ Hid (W * 1000000000000000 + R = cvS ps qs (j - 1)) ∧ (-1000 * (j - 1 : Int) ≤ W ∧ W ≤ 1000 * (j - 1 : Int)) ∧ (-1000000000000000 * (j - 1 : Int) ≤ R ∧ R ≤ 1000000000000000 * (j - 1 : Int)) ∧ Below w.heap.size w wr) (fun _ _ i _ => m + 1 - (intOf i).toNat)
  case atStart => exact ⟨1, 0, 0, Nat.le_refl _, by omega, by omega, rfl, rfl, rfl, Lib.hid rfl, by omega, by omega, Below.refl _ _⟩
  case round =>
    obtain ⟨j, W, R, hj1, hj2, hj3, rfl, rfl, rfl, HS, hW, hR, hb⟩ := hrel
    by_cases hlt : j < n
    · by_cases hlm : j ≤ m
      · obtain ⟨b, off, x, rfl, hbs, hx, hcx⟩ := (h.below hb).at_ hlt
        obtain ⟨t, ht⟩ : ∃ t, t = m - j := ⟨_, rfl⟩
        obtain ⟨b2, off2, y, rfl, hbs2, hy, hcy⟩ := (h2.below hb).at_ (k := t) (by omega)
        have hxv : ps.getD j 0 = x := by rw [List.getD_eq_getElem?_getD, hx]; rfl
        have hyv : qs.getD (qs.length - j) 0 = y := by rw [HM.out, ← ht, List.getD_eq_getElem?_getD, hy]; rfl
        have hpx := HP.out j
        have hqy := HQ.out (qs.length - j)
        rw [hxv] at hpx
        rw [hyv] at hqy
        have hmul := mul_small (-x) y 1000 1000000000000000 (by decide) (by omega) (by omega)
        have hnx := Lib.hid (cvS_next ps qs j hj1)
        rw [hxv, hyv] at hnx
        obtain ⟨X, hX⟩ : ∃ X, X = -x * y := ⟨_, rfl⟩
        have HX := Lib.hid hX
        have HT := Lib.hid ht
        have htm : t < m := by omega
        rw [← hX] at hmul
        have HXY : Hid (X = -(x * y)) := Lib.hid (by rw [hX]; exact Int.neg_mul x y)
        obtain ⟨Y, hY⟩ : ∃ Y, Y = -x := ⟨_, rfl⟩
        rw [← hY] at hX
        have hneg : IntKind.i64.wrap (-x) = Y := by rw [hY, IntKind.wrap_i64]; omega
        have hneg2 : wrap64 (-x) = Y := by rw [hY]; unfold wrap64; omega
        have hw2 : IntKind.i64.wrap (Y * y) = X := by rw [← hX, IntKind.wrap_i64]; omega
        have hidx : IntKind.i64.wrap ((m : Int) - (j : Int)) = (t : Int) := by rw [IntKind.wrap_i64]; omega
        obtain ⟨p1, p2, p3, p4, p5⟩ := tdiv_parts X (by omega)
        obtain ⟨Q, hQ⟩ : ∃ Q, Q = X.tdiv 1000000000000000 := ⟨_, rfl⟩
        obtain ⟨Z, hZ⟩ : ∃ Z, Z = X.tmod 1000000000000000 := ⟨_, rfl⟩
        rw [← hQ] at p1 p2 p3
        rw [← hZ] at p1 p4 p5
        have hq1 : wrap64 (W + X.tdiv 1000000000000000) = W + Q := by rw [← hQ]; unfold wrap64; omega
        have hq2 : wrap64 (R + X.tmod 1000000000000000) = R + Z := by rw [← hZ]; unfold wrap64; omega
        have HN : Hid ((W + Q) * 1000000000000000 + (R + Z) = cvS ps qs j) := Lib.hid (by
          have h9 := HS.out
          rw [← hnx.out]
          have := HXY.out
          omega)
        clear hx hy hxv hyv hX ht hQ hZ p1 hY HX
        go_wp2
        go_region
        go_wp2
        go_roundw
        case rel => exact ⟨j + 1, W + Q, R + Z, by omega, by omega, by omega, congrArg _ hq1, congrArg _ hq2, by go_num, HN, by omega, by omega, by first | exact below_drewN hb _ | exact hb.drew⟩
        case measure => simp [intOf]; omega
      · have HV : Hid (nextV ps qs = W * 1000000000000000 + R) := Lib.hid (by
          unfold nextV cvN
          rw [HL.out, HM.out, show min (n - 1) m = j - 1 by omega]; exact HS.out.symm)
        obtain ⟨p1, p2, p3, p4, p5⟩ := tdiv_parts R (by omega)
        obtain ⟨Q, hQ⟩ : ∃ Q, Q = R.tdiv 1000000000000000 := ⟨_, rfl⟩
        obtain ⟨Z, hZ⟩ : ∃ Z, Z = R.tmod 1000000000000000 := ⟨_, rfl⟩
        rw [← hQ] at p1 p2 p3
        rw [← hZ] at p1 p4 p5
        obtain ⟨V, hV⟩ : ∃ V, V = W + Q := ⟨_, rfl⟩
        have hq1 : wrap64 (W + R.tdiv 1000000000000000) = V := by rw [← hQ, hV]; unfold wrap64; omega
        have hVb : -40000 ≤ V ∧ V ≤ 40000 := by omega
        have HVS : Hid (W * 1000000000000000 + R = V * 1000000000000000 + Z) := Lib.hid (by omega)
        rw [HVS.out] at HV
        clear hV p1 p2 p3 hQ
        by_cases v1 : V < -1
        · have HM1 : Hid (maxB (nextV ps qs) = false) := Lib.hid (by rw [HV.out]; unfold maxB; rw [decide_eq_false (by omega)])
          go_wp2
          go_ret2
          rw [HM1.out]
          exact ⟨0, rfl, fun e => (by cases e), hb⟩
        · by_cases v2 : 1 < V
          · have HM1 : Hid (maxB (nextV ps qs) = false) := Lib.hid (by rw [HV.out]; unfold maxB; rw [decide_eq_false (by omega)])
            go_wp2
            go_ret2
            rw [HM1.out]
            exact ⟨0, rfl, fun e => (by cases e), hb⟩
          · obtain ⟨S, hS⟩ : ∃ S, S = V * 1000000000000000 + Z := ⟨_, rfl⟩
            have hSb : -9000000000000000 ≤ S ∧ S ≤ 9000000000000000 := by omega
            rw [← hS] at HV
            have hS1 : wrap64 (V * 1000000000000000 + R.tmod 1000000000000000) = S := by rw [← hZ, hS]; unfold wrap64; omega
            clear hS hZ
            by_cases s1 : -1000000000000000 ≤ S
            · by_cases s2 : S ≤ 1000000000000000
              · have HM1 : Hid (maxB (nextV ps qs) = true) := Lib.hid (by rw [HV.out]; unfold maxB; rw [decide_eq_true ⟨s1, s2⟩])
                go_wp2
                go_ret2
                rw [HM1.out]
                exact ⟨_, rfl, fun _ => HV.out.symm, hb⟩
              · have HM1 : Hid (maxB (nextV ps qs) = false) := Lib.hid (by rw [HV.out]; unfold maxB; rw [decide_eq_false (by omega)])
                go_wp2
                go_ret2
                rw [HM1.out]
                exact ⟨_, rfl, fun e => (by cases e), hb⟩
            · have HM1 : Hid (maxB (nextV ps qs) = false) := Lib.hid (by rw [HV.out]; unfold maxB; rw [decide_eq_false (by omega)])
              go_wp2
              go_ret2
              rw [HM1.out]; exact ⟨_, rfl, fun e => (by cases e), hb⟩
    · have HV : Hid (nextV ps qs = W * 1000000000000000 + R) := Lib.hid (by
          unfold nextV cvN
          rw [HL.out, HM.out, show min (n - 1) m = j - 1 by omega]; exact HS.out.symm)
      obtain ⟨p1, p2, p3, p4, p5⟩ := tdiv_parts R (by omega)
      obtain ⟨Q, hQ⟩ : ∃ Q, Q = R.tdiv 1000000000000000 := ⟨_, rfl⟩
      obtain ⟨Z, hZ⟩ : ∃ Z, Z = R.tmod 1000000000000000 := ⟨_, rfl⟩
      rw [← hQ] at p1 p2 p3
      rw [← hZ] at p1 p4 p5
      obtain ⟨V, hV⟩ : ∃ V, V = W + Q := ⟨_, rfl⟩
      have hq1 : wrap64 (W + R.tdiv 1000000000000000) = V := by rw [← hQ, hV]; unfold wrap64; omega
      have hVb : -40000 ≤ V ∧ V ≤ 40000 := by omega
      have HVS : Hid (W * 1000000000000000 + R = V * 1000000000000000 + Z) := Lib.hid (by omega)
      rw [HVS.out] at HV
      clear hV p1 p2 p3 hQ
      by_cases v1 : V < -1
      · have HM1 : Hid (maxB (nextV ps qs) = false) := Lib.hid (by rw [HV.out]; unfold maxB; rw [decide_eq_false (by omega)])
        go_wp2
        go_ret2
        rw [HM1.out]
        exact ⟨0, rfl, fun e => (by cases e), hb⟩
      · by_cases v2 : 1 < V
        · have HM1 : Hid (maxB (nextV ps qs) = false) := Lib.hid (by rw [HV.out]; unfold maxB; rw [decide_eq_false (by omega)])
          go_wp2
          go_ret2
          rw [HM1.out]
          exact ⟨0, rfl, fun e => (by cases e), hb⟩
        · obtain ⟨S, hS⟩ : ∃ S, S = V * 1000000000000000 + Z := ⟨_, rfl⟩
          have hSb : -9000000000000000 ≤ S ∧ S ≤ 9000000000000000 := by omega
          rw [← hS] at HV
          have hS1 : wrap64 (V * 1000000000000000 + R.tmod 1000000000000000) = S := by rw [← hZ, hS]; unfold wrap64; omega
          clear hS hZ
          by_cases s1 : -1000000000000000 ≤ S
          · by_cases s2 : S ≤ 1000000000000000
            · have HM1 : Hid (maxB (nextV ps qs) = true) := Lib.hid (by rw [HV.out]; unfold maxB; rw [decide_eq_true ⟨s1, s2⟩])
              go_wp2
              go_ret2
              rw [HM1.out]
              exact ⟨_, rfl, fun _ => HV.out.symm, hb⟩
            · have HM1 : Hid (maxB (nextV ps qs) = false) := Lib.hid (by rw [HV.out]; unfold maxB; rw [decide_eq_false (by omega)])
              go_wp2
              go_ret2
              rw [HM1.out]
              exact ⟨_, rfl, fun e => (by cases e), hb⟩
          · have HM1 : Hid (maxB (nextV ps qs) = false) := Lib.hid (by rw [HV.out]; unfold maxB; rw [decide_eq_false (by omega)])
            go_wp2
            go_ret2
            rw [HM1.out]; exact ⟨_, rfl, fun e => (by cases e), hb⟩
/-- The first elements of an inverse, or none. -/
def InvPost (w : World) (ps : List Int) (k : Nat) (e : Ending) (w' : World) : Prop :=
  (invB ps k = true ∧ ∃ A1 c1, e = .returned (.tuple #[.slice A1 (k + 1) c1, .bool true]) ∧ Own 2 w' w.heap.size A1 (k + 1) c1 (invQ ps k) ∧ Below w.heap.size w w') ∨ (invB ps k = false ∧ e = .returned (.tuple #[.slice none 0 0, .bool false]) ∧ Below w.heap.size w w')
theorem snoc_map (ys : List Int) (x : Int) : ys.map (Value.int .i64) ++ [Value.int .i64 x] = (ys ++ [x]).map (Value.int .i64) := by simp
set_option maxHeartbeats 1600000 in
theorem inverse_any (A : Option Addr) (n c k : Nat) (ps : List Int) (w : World) (h : Rd w A n ps) (hn : n ≤ 1048576) (hk : k ≤ 24) (hp : ∀ i, -1000 ≤ ps.getD i 0 ∧ ps.getD i 0 ≤ 1000) :
    Calls Try.prog 14 #[.slice A n c, .int .i64 (k : Int)] w (InvPost w ps k) := by
  have HP := Lib.hid hp
  obtain ⟨i0, hi, hz0, hz1, hz2⟩ := info_parts info_int
  clear hp
  go_enter Try.func14, Try.ntmps14
  go_wp2
  go_loopw [6, 11] (fun v i wr => ∃ (j : Nat) (A1 : Option Addr) (c1 : Nat), j ≤ k ∧ i = .int .i64 j ∧ v = .slice A1 (j + 1) c1 ∧ Own 2 wr w.heap.size A1 (j + 1) c1 (invQ ps j) ∧ Below w.heap.size w wr ∧ Hid (invB ps j = true)) (fun _ i _ => k - (intOf i).toNat)
  case atStart => exact ⟨0, _, 1, Nat.zero_le _, rfl, rfl, World.ownsRow_lit w #[.int .i64 1] 1 (Nat.le_refl _) (by unfold maxLen; omega) rfl, (Below.refl _ _).alloc (Nat.le_refl _) _, Lib.hid rfl⟩
  case round =>
    obtain ⟨j, A1, c1, hj, rfl, rfl, ho, hb, HI⟩ := hrel
    by_cases hlt : j < k
    · have hq := invQ_small ps j HI.out
      have HN := Lib.hid (nextOfInverse_any A A1 n c (j + 1) c1 ps (invQ ps j) wr (h.below hb) ho.rd hn (by omega) HP.out hq)
      have HB1 : Hid (invB ps (j + 1) = maxB (nextV ps (invQ ps j))) := Lib.hid (by rw [invB, HI.out]; rfl)
      have HQ1 : Hid (invQ ps (j + 1) = invQ ps j ++ [nextV ps (invQ ps j)]) := Lib.hid rfl
      obtain ⟨qs, hqs⟩ : ∃ qs, qs = invQ ps j := ⟨_, rfl⟩
      rw [← hqs] at HN HB1 HQ1 ho
      obtain ⟨V, hV⟩ : ∃ V, V = nextV ps qs := ⟨_, rfl⟩
      rw [← hV] at HN HB1 HQ1
      clear hqs hV hq
      go_wp2_with fail
      refine HN.out.mono ?_
      cases hM : maxB V
      · rw [hM] at HB1
        rintro e w2 ⟨X, rfl, -, hb2⟩
        clear hM
        go_wp2_with fail
        go_ret2
        exact .inr ⟨invB_no ps (j + 1) k (by omega) HB1.out, rfl, hb.trans (hb2.mono hb.size)⟩
      · rw [hM] at HB1
        rintro e w2 ⟨X, rfl, hX, hb2⟩
        have hX2 := hX rfl
        clear hX hM
        subst hX2
        have ho2 := ho.below hb2
        have hb12 := hb.trans (hb2.mono hb.size)
        have hml : j + 1 + 1 ≤ maxLen := by unfold maxLen; omega
        have hby2 : (j + 1 + 1) * 8 ≤ 140737488355328 := by omega
        go_wp2_with (at_builtin; refine wpList_append_own _ rfl _ _ 22 rfl w.heap.size 2 i0 (.int .i64 0) 1 8 Try.underlying22 hi hz0 hz1 hz2 rfl (by decide) (.slice A1 (j + 1) c1) (j + 1) (qs.map (Value.int .i64)) rfl (World.ownsRow.alloc ho2 _) ⟨w2.heap.size, 0, none⟩ 1 1 [.int .i64 X] rfl rfl ?s1 ?s2 hml hby2 ?s5 ?_)
        case s1 => exact cell_one_new _ _ _
        case s2 => intro u hu; simp at hu; subst hu; rfl
        case s5 => have := hb12.size; simp; omega
        intro v' w3 hown hg _
        rw [snoc_map, ← HQ1.out] at hown
        have hb3 : Below w.heap.size w w3 := (hb12.alloc hb12.size _).grown hg (by have := hb12.size; simp; omega) (fun g hgr => (World.ownsRow.lt ho2 g hgr).1)
        obtain ⟨A2, c2, hv, ho3⟩ := own_shape hown
        rw [hv]
        clear hg hown hv
        go_wp2_with fail
        go_roundw
        case rel => exact ⟨j + 1, A2, c2, by omega, by go_num, rfl, ho3, hb3, HB1⟩
        case measure => simp [intOf]; omega
    · obtain rfl : j = k := by omega
      go_wp2
      go_ret2
      exact .inl ⟨HI.out, A1, c1, rfl, ho, hb⟩
end Go.Proofs.Ytkifadmoedackaa
