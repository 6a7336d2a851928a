/-
  Products of alphabets: both sides.
-/
import Derived.Test.YtbjkpkgnjeaimaaDoorProd
namespace Go.Proofs.YtbjkpkgnjeaimaaDoor
open Go.RowKit
set_option linter.unusedVariables false
set_option maxRecDepth 100000

theorem bes_take (rs qs : List Nat) (k : Nat) (h : k < qs.length) : (besM rs qs).take (rs.length + (k + 1)) = (besM rs qs).take (rs.length + k) ++ [qs.getD k 0 * 2 ^ rs.length] := by
  have hl : rs.length + k < (besM rs qs).length := by rw [besM_len]; omega
  have e : (besM rs qs).getD (rs.length + k) 0 = qs.getD k 0 * 2 ^ rs.length := by
    unfold besM
    rw [List.getD_eq_getElem?_getD, List.getElem?_append_right (by omega), List.getElem?_map, show rs.length + k - rs.length = k by omega, List.getElem?_eq_getElem h, List.getD_eq_getElem?_getD, List.getElem?_eq_getElem h]; rfl
  rw [← e, show rs.length + (k + 1) = rs.length + k + 1 by omega]
  exact (take_next_nat _ _ hl).symm
set_option maxHeartbeats 1600000 in
theorem beside_any (A1 A2 : Option Addr) (n1 c1 n2 c2 : Nat) (rs qs : List Nat) (w : World) (h1 : Rd w A1 n1 (ints rs)) (h2 : Rd w A2 n2 (ints qs)) (hn : n1 + n2 ≤ 8) (hr : ∀ i, rs.getD i 0 < 2 ^ n1) (hq : ∀ i, qs.getD i 0 < 2 ^ n2) :
    Calls Tryd.prog 75 #[.slice A1 n1 c1, .slice A2 n2 c2] w (MakesE 57 w (n1 + n2) (ints (besM rs qs))) := by
  have hl1 : rs.length = n1 := by have := h1.1; rw [ints_len] at this; exact this
  have hl2 : qs.length = n2 := by have := h2.1; rw [ints_len] at this; exact this
  have HL2 := Lib.hid hl2
  have HTK : Hid (∀ k, k < n2 → (besM rs qs).take (n1 + (k + 1)) = (besM rs qs).take (n1 + k) ++ [qs.getD k 0 * 2 ^ n1]) := Lib.hid (fun k hk => by have := bes_take rs qs k (by omega); rw [hl1] at this; exact this)
  have HT0 : Hid ((besM rs qs).take (n1 + 0) = rs) := Lib.hid (by unfold besM; rw [Nat.add_zero, ← hl1, List.take_left])
  have HTE : Hid ((besM rs qs).take (n1 + n2) = besM rs qs) := Lib.hid (List.take_of_length_le (by rw [besM_len, hl1, hl2]; exact Nat.le_refl _))
  clear hl1 hl2
  have h241 : n1 ≤ 24 := by omega
  obtain ⟨i0, hi, hz0, hz1, hz2⟩ := info_parts info_set
  go_enter Tryd.func75, Tryd.ntmps75
  go_wp2_with fail
  refine (clone_any A1 n1 c1 _ _ h1 h241).mono ?_
  rintro e w1 ⟨B1, d1, rfl, ho1, hb1⟩
  go_wp2_with fail
  go_loopw [5, 12] (fun v i wr => ∃ (k : Nat) (A3 : Option Addr) (c3 : Nat), k ≤ n2 ∧ i = .int .i64 k ∧ v = .slice A3 (n1 + k) c3 ∧ Own 57 wr w.heap.size A3 (n1 + k) c3 (ints ((besM rs qs).take (n1 + k))) ∧ Below w.heap.size w wr) (fun _ i _ => n2 - (intOf i).toNat)
  case atStart => exact ⟨0, B1, d1, Nat.zero_le _, rfl, rfl, by rw [HT0.out]; exact ho1, hb1⟩
  case round =>
    clear ho1 hb1
    obtain ⟨k, A3, c3, hk, rfl, rfl, ho, hb⟩ := hrel
    by_cases hlt : k < n2
    · obtain ⟨b, off, x, rfl, hbs, hx, hcx⟩ := (h2.below hb).at_ hlt
      have hx2 := ints_getD qs k (by rw [HL2.out]; exact hlt)
      rw [hx2] at hx
      injection hx with hx
      subst hx
      have hqk := hq k
      have hP : 2 ^ n1 * 2 ^ n2 ≤ 256 := by rw [← Nat.pow_add]; exact p8 _ hn
      have hml : n1 + k + 1 ≤ maxLen := by unfold maxLen; omega
      have hby2 : (n1 + k + 1) * 8 ≤ 140737488355328 := by omega
      have hTK := HTK.out k hlt
      have hQ256 : qs.getD k 0 * 2 ^ n1 < 257 := by
        have : qs.getD k 0 * 2 ^ n1 ≤ 2 ^ n2 * 2 ^ n1 := Nat.mul_le_mul_right _ (Nat.le_of_lt hqk)
        rw [Nat.mul_comm (2 ^ n2)] at this; omega
      obtain ⟨D, hD⟩ : ∃ D, D = qs.getD k 0 := ⟨_, rfl⟩
      rw [← hD] at hcx hqk hTK hQ256
      obtain ⟨Q, hQ⟩ : ∃ Q, Q = D * 2 ^ n1 := ⟨_, rfl⟩
      rw [← hQ] at hTK hQ256
      have HTK2 := Lib.hid hTK
      have hQI : (D : Int) * 2 ^ n1 = (Q : Int) := by rw [hQ, Int.natCast_mul, Int.natCast_pow]; rfl
      have hwr : IntKind.i64.wrap ((D : Int) * 2 ^ n1) = (Q : Int) := by rw [hQI]; exact i64_nat Q (by omega)
      have hw64 : wrap64 ((D : Int) * 2 ^ n1) = (Q : Int) := by rw [hQI]; exact w64_nat Q (by omega)
      have hLN : Hid (n1 + (k + 1) = n1 + k + 1) := Lib.hid rfl
      obtain ⟨ys, hys⟩ : ∃ ys, ys = (besM rs qs).take (n1 + k) := ⟨_, rfl⟩
      rw [← hys] at ho HTK2
      obtain ⟨K, hK⟩ : ∃ K, K = n1 + k := ⟨_, rfl⟩
      rw [← hK] at ho hml hby2 hLN ⊢
      have HK := Lib.hid hK
      clear hx2 hD hQ hTK hys hK hP hqk hQI
      go_wp2_with (at_builtin; refine wpList_append_own _ rfl _ _ 51 rfl w.heap.size 57 i0 (.int .i64 0) 1 8 Tryd.underlying51 hi hz0 hz1 hz2 rfl (by decide) (.slice A3 K c3) K ((ints ys).map (Value.int .i64)) rfl (World.ownsRow.alloc ho _) ⟨wr.heap.size, 0, none⟩ 1 1 [.int .i64 (Q : Int)] rfl rfl ?s1 ?s2 hml hby2 ?s5 ?_)
      case s1 => exact cell_one_new _ _ _
      case s2 => intro u hu; simp at hu; subst hu; rfl
      case s5 => have := hb.size; simp; omega
      intro v' w3 hown hg _
      rw [ints_snoc_map, ← HTK2.out] at hown
      have hb3 : Below w.heap.size w w3 := (hb.alloc hb.size _).grown hg (by have := hb.size; simp; omega) (fun g hgr => (World.ownsRow.lt ho g hgr).1)
      obtain ⟨A4, c4, hv, ho3⟩ := own_shape hown
      rw [hv]
      clear hg hown hv
      go_wp2_with fail
      go_roundw
      case rel => exact ⟨k + 1, A4, c4, by omega, by go_num, by rw [hLN.out], by rw [hLN.out]; rw [hLN.out] at ho3; exact ho3, hb3⟩
      case measure => simp [intOf]; omega
    · obtain rfl : k = n2 := by omega
      rw [HTE.out] at ho
      go_wp2_with fail
      go_ret
      exact ⟨A3, c3, rfl, ho, hb⟩
set_option maxHeartbeats 800000 in
theorem joined_any (A1 A2 : Option Addr) (n1 c1 n2 c2 : Nat) (rs qs : List Nat) (w : World) (h1 : Rd w A1 n1 (ints rs)) (h2 : Rd w A2 n2 (ints qs)) (hn : n1 + n2 ≤ 8) (hr : ∀ i, rs.getD i 0 < 2 ^ n1) (hq : ∀ i, qs.getD i 0 < 2 ^ n2) :
    Calls Tryd.prog 76 #[.slice A1 n1 c1, .slice A2 n2 c2] w (MakesE 57 w (n1 + n2) (ints (cplM (besM (cplM rs) (cplM qs))))) := by
  have hl1 : rs.length = n1 := by have := h1.1; rw [ints_len] at this; exact this
  have hl2 : qs.length = n2 := by have := h2.1; rw [ints_len] at this; exact this
  have k1 := cplM_lt rs n1 hl1 (by omega) hr
  have k2 := cplM_lt qs n2 hl2 (by omega) hq
  have kb := besM_lt (cplM rs) (cplM qs) n1 n2 (by rw [cplM_len, hl1]) (by rw [cplM_len, hl2]) k1 k2
  have h241 : n1 ≤ 24 := by omega
  have h242 : n2 ≤ 24 := by omega
  have h243 : n1 + n2 ≤ 24 := by omega
  clear hl1 hl2
  go_enter Tryd.func76, Tryd.ntmps76
  go_wp2_with fail
  refine (complement_any _ _ _ rs _ h1 h241 hr).mono ?_
  rintro e w1 ⟨B1, d1, rfl, ho1, hb1⟩
  go_wp2_with fail
  refine (complement_any _ _ _ qs _ (h2.below hb1) h242 hq).mono ?_
  rintro e w2 ⟨B2, d2, rfl, ho2, hb2⟩
  have hb12 := hb1.trans (hb2.mono hb1.size)
  go_wp2_with fail
  refine (beside_any _ _ _ _ _ _ _ _ _ (ho1.rd.below hb2) ho2.rd hn k1 k2).mono ?_
  rintro e w3 ⟨B3, d3, rfl, ho3, hb3⟩
  have hb13 := hb12.trans (hb3.mono hb12.size)
  go_wp2_with fail
  refine (complement_any _ _ _ _ _ ho3.rd h243 kb).mono ?_
  rintro e w4 ⟨B4, d4, rfl, ho4, hb4⟩
  go_wp2_with fail
  go_ret
  exact ⟨B4, d4, rfl, ho4.mono hb13.size, hb13.trans (hb4.mono hb13.size)⟩
theorem prod_cases (f : Bool) (L1 : Int) (xs1 : List Int) (L2 : Int) (xs2 : List Int) :
    (alphB L1 xs1 = false) ∨ (alphB L1 xs1 = true ∧ alphB L2 xs2 = false) ∨ (alphB L1 xs1 = true ∧ alphB L2 xs2 = true) := by
  cases alphB L1 xs1 <;> cases alphB L2 xs2 <;> simp
set_option maxHeartbeats 1600000 in
theorem specBeside_any (f : Bool) (L1 L2 : Int) (A1 A2 : Option Addr) (n1 c1 n2 c2 : Nat) (xs1 xs2 : List Int) (w : World) (h1 : Rd w A1 n1 xs1) (h2 : Rd w A2 n2 xs2) (hwf1 : Wf xs1) (hL11 : -9223372036854775808 ≤ L1) (hL12 : L1 ≤ 9223372036854775807) (hn1 : n1 ≤ 9223372036854775807) (hwf2 : Wf xs2) (hL21 : -9223372036854775808 ≤ L2) (hL22 : L2 ≤ 9223372036854775807) (hn2 : n2 ≤ 9223372036854775807) :
    Calls Tryd.prog 73 #[.agg #[.int .i64 L1, .slice A1 n1 c1], .agg #[.int .i64 L2, .slice A2 n2 c2], .bool f] w (AlPost w (prodAns f L1 xs1 L2 xs2).1 (prodAns f L1 xs1 L2 xs2).2.1.length (prodAns f L1 xs1 L2 xs2).2.1 (prodAns f L1 xs1 L2 xs2).2.2) := by
  rcases prod_cases f L1 xs1 L2 xs2 with ha | ⟨ha, hb⟩ | ⟨ha, hb⟩
  · rw [prodAns_no f L1 xs1 L2 xs2 (by rw [ha]; simp)]
    have HA := Lib.hid ha
    clear ha
    obtain ⟨oX, hoX⟩ : ∃ o : Obj, o = .cells #[.int .i64 L1, .slice A1 n1 c1] 27 := ⟨_, rfl⟩
    obtain ⟨oY, hoY⟩ : ∃ o : Obj, o = .cells #[.int .i64 L2, .slice A2 n2 c2] 27 := ⟨_, rfl⟩
    obtain ⟨oR, hoR⟩ : ∃ o : Obj, o = .cells #[.int .i64 0, .slice none 0 0] 27 := ⟨_, rfl⟩
    have s1 := size1 w oX
    have s2 := size1 (w.alloc oX) oY
    have s3 := size1 ((w.alloc oX).alloc oY) oR
    have hB3 := below3 w oX oY oR
    have x0 : Box 27 (((w.alloc oX).alloc oY).alloc oR) w.heap.size L1 A1 n1 c1 := by
      have h9 := ((box_new 27 w L1 A1 n1 c1).next (below1 _ oY)).next (below1 _ oR)
      rw [← hoX] at h9; exact h9
    have y0 : Box 27 (((w.alloc oX).alloc oY).alloc oR) (w.heap.size + 1) L2 A2 n2 c2 := by
      have h9 := (box_new 27 (w.alloc oX) L2 A2 n2 c2).next (below1 _ oR)
      rw [← hoY, s1] at h9; exact h9
    have r0 : Box 27 (((w.alloc oX).alloc oY).alloc oR) (w.heap.size + 1 + 1) 0 none 0 0 := by
      have h9 := box_new 27 ((w.alloc oX).alloc oY) 0 none 0 0
      rw [← hoR, s2, s1] at h9; exact h9
    obtain ⟨w0, hw0⟩ : ∃ w0, w0 = ((w.alloc oX).alloc oY).alloc oR := ⟨_, rfl⟩
    rw [← hw0] at x0 y0 r0 hB3 s3
    have HB0 := Lib.hid hB3
    have HS0 : Hid (w0.heap.size = w.heap.size + 3) := Lib.hid (by omega)
    have e1 := h1.below hB3
    have e2 := h2.below hB3
    rw [hoX, hoY, hoR] at hw0
    clear s1 s2 s3 hB3 hoX hoY hoR
    go_enter Tryd.func73, Tryd.ntmps73
    go_wp2_with fail
    rw [← hw0]
    clear hw0
    refine (l02Is_any _ _ _ _ _ _ e1 hn1).mono ?_
    rintro e w1 ⟨rfl, hb1⟩
    rw [HA.out]
    have r1 := r0.next hb1
    have HB1 := Lib.hid (HB0.out.trans (hb1.mono HB0.out.size))
    have z0 := r1.c0
    have z1 := r1.c1
    have g0 := r1.fr 0
    have g1 := r1.fr 1
    go_wp2
    refine ret_gen (fun W => Box 27 W (w.heap.size + 1 + 1) 0 none 0 0 ∧ Below w.heap.size w W) ⟨r1.set _ _ _ _, (HB1.out.setCell (p := ⟨w.heap.size + 1 + 1, 0, none⟩) (by show w.heap.size ≤ w.heap.size + 1 + 1; omega) _).setCell (p := ⟨w.heap.size + 1 + 1, 1, none⟩) (by show w.heap.size ≤ w.heap.size + 1 + 1; omega) _⟩ ?_
    rintro W ⟨x, b⟩
    have q0 := x.c0
    have q1 := x.c1
    exact bodyPost_ret (v := .tuple #[.agg #[.int .i64 0, .slice none 0 0], .int .i64 1]) (by simp [results, Tryd.results73, go_sem, q0, q1]) rfl (AlPost.no 1 b)
  · rw [prodAns_no f L1 xs1 L2 xs2 (by rw [hb]; simp)]
    have HA := Lib.hid ha
    have HBB := Lib.hid hb
    clear ha hb
    obtain ⟨oX, hoX⟩ : ∃ o : Obj, o = .cells #[.int .i64 L1, .slice A1 n1 c1] 27 := ⟨_, rfl⟩
    obtain ⟨oY, hoY⟩ : ∃ o : Obj, o = .cells #[.int .i64 L2, .slice A2 n2 c2] 27 := ⟨_, rfl⟩
    obtain ⟨oR, hoR⟩ : ∃ o : Obj, o = .cells #[.int .i64 0, .slice none 0 0] 27 := ⟨_, rfl⟩
    have s1 := size1 w oX
    have s2 := size1 (w.alloc oX) oY
    have s3 := size1 ((w.alloc oX).alloc oY) oR
    have hB3 := below3 w oX oY oR
    have x0 : Box 27 (((w.alloc oX).alloc oY).alloc oR) w.heap.size L1 A1 n1 c1 := by
      have h9 := ((box_new 27 w L1 A1 n1 c1).next (below1 _ oY)).next (below1 _ oR)
      rw [← hoX] at h9; exact h9
    have y0 : Box 27 (((w.alloc oX).alloc oY).alloc oR) (w.heap.size + 1) L2 A2 n2 c2 := by
      have h9 := (box_new 27 (w.alloc oX) L2 A2 n2 c2).next (below1 _ oR)
      rw [← hoY, s1] at h9; exact h9
    have r0 : Box 27 (((w.alloc oX).alloc oY).alloc oR) (w.heap.size + 1 + 1) 0 none 0 0 := by
      have h9 := box_new 27 ((w.alloc oX).alloc oY) 0 none 0 0
      rw [← hoR, s2, s1] at h9; exact h9
    obtain ⟨w0, hw0⟩ : ∃ w0, w0 = ((w.alloc oX).alloc oY).alloc oR := ⟨_, rfl⟩
    rw [← hw0] at x0 y0 r0 hB3 s3
    have HB0 := Lib.hid hB3
    have HS0 : Hid (w0.heap.size = w.heap.size + 3) := Lib.hid (by omega)
    have e1 := h1.below hB3
    have e2 := h2.below hB3
    rw [hoX, hoY, hoR] at hw0
    clear s1 s2 s3 hB3 hoX hoY hoR
    go_enter Tryd.func73, Tryd.ntmps73
    go_wp2_with fail
    rw [← hw0]
    clear hw0
    refine (l02Is_any _ _ _ _ _ _ e1 hn1).mono ?_
    rintro e w1 ⟨rfl, hb1⟩
    rw [HA.out]
    have r1 := r0.next hb1
    have y1 := y0.next hb1
    have u0 := y1.c0
    have u1 := y1.c1
    have HB1 := Lib.hid (HB0.out.trans (hb1.mono HB0.out.size))
    go_wp2_with fail
    refine (l02Is_any _ _ _ _ _ _ (e2.below hb1) hn2).mono ?_
    rintro e w2 ⟨rfl, hb2⟩
    rw [HBB.out]
    have r2 := r1.next hb2
    have HB2 := Lib.hid (HB1.out.trans (hb2.mono HB1.out.size))
    have z0 := r2.c0
    have z1 := r2.c1
    have g0 := r2.fr 0
    have g1 := r2.fr 1
    go_wp2
    refine ret_gen (fun W => Box 27 W (w.heap.size + 1 + 1) 0 none 0 0 ∧ Below w.heap.size w W) ⟨r2.set _ _ _ _, (HB2.out.setCell (p := ⟨w.heap.size + 1 + 1, 0, none⟩) (by show w.heap.size ≤ w.heap.size + 1 + 1; omega) _).setCell (p := ⟨w.heap.size + 1 + 1, 1, none⟩) (by show w.heap.size ≤ w.heap.size + 1 + 1; omega) _⟩ ?_
    rintro W ⟨x, b⟩
    have q0 := x.c0
    have q1 := x.c1
    exact bodyPost_ret (v := .tuple #[.agg #[.int .i64 0, .slice none 0 0], .int .i64 1]) (by simp [results, Tryd.results73, go_sem, q0, q1]) rfl (AlPost.no 1 b)
  · by_cases h8 : n1 + n2 ≤ 8
    · obtain ⟨rs, rfl, rfl, _, hr, _, hl1, hd1, _⟩ := alphB_nats L1 xs1 n1 h1.1 ha
      obtain ⟨qs, rfl, rfl, _, hq, _, hl2, hd2, _⟩ := alphB_nats L2 xs2 n2 h2.1 hb
      rw [prodAns_yes f n1 n2 rs qs ha hb hl1 hl2 h8, ints_len, prodM_len, hl1, hl2]
      exact specBeside_yes f A1 A2 n1 c1 n2 c2 rs qs w h1 h2 h8 hr hq ((depB_iff rs n1 hl1 hr).1 hd1) ((depB_iff qs n2 hl2 hq).1 hd2) ha hb
    · rw [prodAns_big f L1 xs1 L2 xs2 ha hb (by rw [h1.1, h2.1]; omega)]
      obtain ⟨_, _, hLn1, h81, _⟩ := alphB_nats L1 xs1 n1 h1.1 ha
      obtain ⟨_, _, hLn2, h82, _⟩ := alphB_nats L2 xs2 n2 h2.1 hb
      have HA := Lib.hid ha
      have HBB := Lib.hid hb
      subst hLn1
      subst hLn2
      have hbig : ¬ ((n1 : Int) + (n2 : Int) ≤ 8) := by omega
      clear ha hb
      obtain ⟨oX, hoX⟩ : ∃ o : Obj, o = .cells #[.int .i64 (n1 : Int), .slice A1 n1 c1] 27 := ⟨_, rfl⟩
      obtain ⟨oY, hoY⟩ : ∃ o : Obj, o = .cells #[.int .i64 (n2 : Int), .slice A2 n2 c2] 27 := ⟨_, rfl⟩
      obtain ⟨oR, hoR⟩ : ∃ o : Obj, o = .cells #[.int .i64 0, .slice none 0 0] 27 := ⟨_, rfl⟩
      have s1 := size1 w oX
      have s2 := size1 (w.alloc oX) oY
      have s3 := size1 ((w.alloc oX).alloc oY) oR
      have hB3 := below3 w oX oY oR
      have x0 : Box 27 (((w.alloc oX).alloc oY).alloc oR) w.heap.size (n1 : Int) A1 n1 c1 := by
        have h9 := ((box_new 27 w (n1 : Int) A1 n1 c1).next (below1 _ oY)).next (below1 _ oR)
        rw [← hoX] at h9; exact h9
      have y0 : Box 27 (((w.alloc oX).alloc oY).alloc oR) (w.heap.size + 1) (n2 : Int) A2 n2 c2 := by
        have h9 := (box_new 27 (w.alloc oX) (n2 : Int) A2 n2 c2).next (below1 _ oR)
        rw [← hoY, s1] at h9; exact h9
      have r0 : Box 27 (((w.alloc oX).alloc oY).alloc oR) (w.heap.size + 1 + 1) 0 none 0 0 := by
        have h9 := box_new 27 ((w.alloc oX).alloc oY) 0 none 0 0
        rw [← hoR, s2, s1] at h9; exact h9
      obtain ⟨w0, hw0⟩ : ∃ w0, w0 = ((w.alloc oX).alloc oY).alloc oR := ⟨_, rfl⟩
      rw [← hw0] at x0 y0 r0 hB3 s3
      have HB0 := Lib.hid hB3
      have HS0 : Hid (w0.heap.size = w.heap.size + 3) := Lib.hid (by omega)
      have e1 := h1.below hB3
      have e2 := h2.below hB3
      rw [hoX, hoY, hoR] at hw0
      clear s1 s2 s3 hB3 hoX hoY hoR
      go_enter Tryd.func73, Tryd.ntmps73
      go_wp2_with fail
      rw [← hw0]
      clear hw0
      refine (l02Is_any _ _ _ _ _ _ e1 hn1).mono ?_
      rintro e w1 ⟨rfl, hb1⟩
      rw [HA.out]
      have r1 := r0.next hb1
      have y1 := y0.next hb1
      have x1 := x0.next hb1
      have u0 := y1.c0
      have u1 := y1.c1
      have HB1 := Lib.hid (HB0.out.trans (hb1.mono HB0.out.size))
      go_wp2_with fail
      refine (l02Is_any _ _ _ _ _ _ (e2.below hb1) hn2).mono ?_
      rintro e w2 ⟨rfl, hb2⟩
      rw [HBB.out]
      have r2 := r1.next hb2
      have v0 := (x1.next hb2).c0
      have v1 := (y1.next hb2).c0
      have HB2 := Lib.hid (HB1.out.trans (hb2.mono HB1.out.size))
      have z0 := r2.c0
      have z1 := r2.c1
      have g0 := r2.fr 0
      have g1 := r2.fr 1
      go_wp2
      refine ret_gen (fun W => Box 27 W (w.heap.size + 1 + 1) 0 none 0 0 ∧ Below w.heap.size w W) ⟨r2.set _ _ _ _, (HB2.out.setCell (p := ⟨w.heap.size + 1 + 1, 0, none⟩) (by show w.heap.size ≤ w.heap.size + 1 + 1; omega) _).setCell (p := ⟨w.heap.size + 1 + 1, 1, none⟩) (by show w.heap.size ≤ w.heap.size + 1 + 1; omega) _⟩ ?_
      rintro W ⟨x, b⟩
      have q0 := x.c0
      have q1 := x.c1
      exact bodyPost_ret (v := .tuple #[.agg #[.int .i64 0, .slice none 0 0], .int .i64 3]) (by simp [results, Tryd.results73, go_sem, q0, q1]) rfl (AlPost.no 3 b)
set_option maxHeartbeats 1600000 in
theorem productOf_any (F : FuncId) (M : List Nat → List Nat → List Nat) (f : Bool)
    (eg : ∀ args w, (callFunc F args).run Tryd.prog w = .ok (.enter F args) w)
    (hF : ∀ (B1 B2 : Option Addr) (n1 d1 n2 d2 : Nat) (rs qs : List Nat) (w : World), Rd w B1 n1 (ints rs) → Rd w B2 n2 (ints qs) → n1 + n2 ≤ 8 → (∀ i, rs.getD i 0 < 2 ^ n1) → (∀ i, qs.getD i 0 < 2 ^ n2) → Calls Tryd.prog F #[.slice B1 n1 d1, .slice B2 n2 d2] w (MakesE 57 w (n1 + n2) (ints (M rs qs))))
    (hM : ∀ (rs qs : List Nat) (n1 n2 : Nat), rs.length = n1 → qs.length = n2 → n1 + n2 ≤ 8 → (∀ i, rs.getD i 0 < 2 ^ n1) → (∀ i, qs.getD i 0 < 2 ^ n2) → Dep rs → Dep qs → M rs qs = prodM f rs qs)
    (L1 L2 : Int) (A1 A2 : Option Addr) (n1 c1 n2 c2 : Nat) (xs1 xs2 : List Int) (w : World) (h1 : Rd w A1 n1 xs1) (h2 : Rd w A2 n2 xs2) (hwf1 : Wf xs1) (hL11 : -9223372036854775808 ≤ L1) (hL12 : L1 ≤ 9223372036854775807) (hn1 : n1 ≤ 9223372036854775807) (hwf2 : Wf xs2) (hL21 : -9223372036854775808 ≤ L2) (hL22 : L2 ≤ 9223372036854775807) (hn2 : n2 ≤ 9223372036854775807) (hT : Tab w) :
    Calls Tryd.prog 74 #[.agg #[.int .i64 L1, .slice A1 n1 c1], .agg #[.int .i64 L2, .slice A2 n2 c2], .func (.func F) #[] #[]] w (AlPost w (prodAns f L1 xs1 L2 xs2).1 (prodAns f L1 xs1 L2 xs2).2.1.length (prodAns f L1 xs1 L2 xs2).2.1 (prodAns f L1 xs1 L2 xs2).2.2) := by
  have HFF := Lib.hid hF
  have HMM := Lib.hid hM
  clear hF hM
  obtain ⟨oX, hoX⟩ : ∃ o : Obj, o = .cells #[.int .i64 L1, .slice A1 n1 c1] 27 := ⟨_, rfl⟩
  obtain ⟨oY, hoY⟩ : ∃ o : Obj, o = .cells #[.int .i64 L2, .slice A2 n2 c2] 27 := ⟨_, rfl⟩
  obtain ⟨oR, hoR⟩ : ∃ o : Obj, o = .cells #[.int .i64 0, .slice none 0 0] 27 := ⟨_, rfl⟩
  have s1 := size1 w oX
  have s2 := size1 (w.alloc oX) oY
  have s3 := size1 ((w.alloc oX).alloc oY) oR
  have hB3 := below3 w oX oY oR
  have x0 : Box 27 (((w.alloc oX).alloc oY).alloc oR) w.heap.size L1 A1 n1 c1 := by
    have h9 := ((box_new 27 w L1 A1 n1 c1).next (below1 _ oY)).next (below1 _ oR)
    rw [← hoX] at h9; exact h9
  have y0 : Box 27 (((w.alloc oX).alloc oY).alloc oR) (w.heap.size + 1) L2 A2 n2 c2 := by
    have h9 := (box_new 27 (w.alloc oX) L2 A2 n2 c2).next (below1 _ oR)
    rw [← hoY, s1] at h9; exact h9
  have r0 : Box 27 (((w.alloc oX).alloc oY).alloc oR) (w.heap.size + 1 + 1) 0 none 0 0 := by
    have h9 := box_new 27 ((w.alloc oX).alloc oY) 0 none 0 0
    rw [← hoR, s2, s1] at h9; exact h9
  obtain ⟨w0, hw0⟩ : ∃ w0, w0 = ((w.alloc oX).alloc oY).alloc oR := ⟨_, rfl⟩
  rw [← hw0] at x0 y0 r0 hB3 s3
  have HB0 := Lib.hid hB3
  have HS0 : Hid (w0.heap.size = w.heap.size + 3) := Lib.hid (by omega)
  have e1 := h1.below hB3
  have e2 := h2.below hB3
  rw [hoX, hoY, hoR] at hw0
  clear s1 s2 s3 hB3 hoX hoY hoR
  have hT0 := hT.below HB0.out
  rcases prod_cases f L1 xs1 L2 xs2 with ha | ⟨ha, hb⟩ | ⟨ha, hb⟩
  · rw [prodAns_no f L1 xs1 L2 xs2 (by rw [ha]; simp)]
    have HA := Lib.hid ha
    clear ha
    go_enter Tryd.func74, Tryd.ntmps74
    go_wp2_with fail
    rw [← hw0]
    clear hw0
    refine (dependenceOf_no L1 _ _ _ xs1 _ e1 hwf1 hL11 hL12 hn1 HA.out hT0).mono ?_
    rintro e w1 ⟨rfl, hb1⟩
    have r1 := r0.next hb1
    have y1 := y0.next hb1
    have u0 := y1.c0
    have u1 := y1.c1
    have HB1 := Lib.hid (HB0.out.trans (hb1.mono HB0.out.size))
    cases hy : alphB L2 xs2
    · have HY := Lib.hid hy
      clear hy
      go_wp2_with fail
      refine (dependenceOf_no L2 _ _ _ xs2 _ (e2.below hb1) hwf2 hL21 hL22 hn2 HY.out (hT0.below hb1)).mono ?_
      rintro e w2 ⟨rfl, hb2⟩
      have r2 := r1.next hb2
      have HB2 := Lib.hid (HB1.out.trans (hb2.mono HB1.out.size))
      have z0 := r2.c0
      have z1 := r2.c1
      have g0 := r2.fr 0
      have g1 := r2.fr 1
      go_wp2
      refine ret_gen (fun W => Box 27 W (w.heap.size + 1 + 1) 0 none 0 0 ∧ Below w.heap.size w W) ⟨r2.set _ _ _ _, (HB2.out.setCell (p := ⟨w.heap.size + 1 + 1, 0, none⟩) (by show w.heap.size ≤ w.heap.size + 1 + 1; omega) _).setCell (p := ⟨w.heap.size + 1 + 1, 1, none⟩) (by show w.heap.size ≤ w.heap.size + 1 + 1; omega) _⟩ ?_
      rintro W ⟨x, b⟩
      have q0 := x.c0
      have q1 := x.c1
      exact bodyPost_ret (v := .tuple #[.agg #[.int .i64 0, .slice none 0 0], .int .i64 1]) (by simp [results, Tryd.results74, go_sem, q0, q1]) rfl (AlPost.no 1 b)
    · obtain ⟨qs, rfl, rfl, h8, hq, hrel, hl, hd, _⟩ := alphB_nats L2 xs2 n2 h2.1 hy
      clear hy hl
      go_wp2_with fail
      refine (dependenceOf_yes _ _ _ _ qs _ (e2.below hb1) hwf2 h8 rfl hq hrel hd (hT0.below hb1)).mono ?_
      rintro e w2 ⟨B2, d2, rfl, hob, hb2⟩
      have r2 := r1.next hb2
      have HB2 := Lib.hid (HB1.out.trans (hb2.mono HB1.out.size))
      have z0 := r2.c0
      have z1 := r2.c1
      have g0 := r2.fr 0
      have g1 := r2.fr 1
      go_wp2
      refine ret_gen (fun W => Box 27 W (w.heap.size + 1 + 1) 0 none 0 0 ∧ Below w.heap.size w W) ⟨r2.set _ _ _ _, (HB2.out.setCell (p := ⟨w.heap.size + 1 + 1, 0, none⟩) (by show w.heap.size ≤ w.heap.size + 1 + 1; omega) _).setCell (p := ⟨w.heap.size + 1 + 1, 1, none⟩) (by show w.heap.size ≤ w.heap.size + 1 + 1; omega) _⟩ ?_
      rintro W ⟨x, b⟩
      have q0 := x.c0
      have q1 := x.c1
      exact bodyPost_ret (v := .tuple #[.agg #[.int .i64 0, .slice none 0 0], .int .i64 1]) (by simp [results, Tryd.results74, go_sem, q0, q1]) rfl (AlPost.no 1 b)
  · rw [prodAns_no f L1 xs1 L2 xs2 (by rw [hb]; simp)]
    obtain ⟨rs, rfl, rfl, h8, hr, hrel, hl, hd, _⟩ := alphB_nats L1 xs1 n1 h1.1 ha
    have HY := Lib.hid hb
    clear ha hb hl
    go_enter Tryd.func74, Tryd.ntmps74
    go_wp2_with fail
    rw [← hw0]
    clear hw0
    refine (dependenceOf_yes _ _ _ _ rs _ e1 hwf1 h8 rfl hr hrel hd hT0).mono ?_
    rintro e w1 ⟨B1, d1, rfl, hoa, hb1⟩
    have r1 := r0.next hb1
    have y1 := y0.next hb1
    have u0 := y1.c0
    have u1 := y1.c1
    have HB1 := Lib.hid (HB0.out.trans (hb1.mono HB0.out.size))
    go_wp2_with fail
    refine (dependenceOf_no L2 _ _ _ xs2 _ (e2.below hb1) hwf2 hL21 hL22 hn2 HY.out (hT0.below hb1)).mono ?_
    rintro e w2 ⟨rfl, hb2⟩
    have r2 := r1.next hb2
    have HB2 := Lib.hid (HB1.out.trans (hb2.mono HB1.out.size))
    have z0 := r2.c0
    have z1 := r2.c1
    have g0 := r2.fr 0
    have g1 := r2.fr 1
    go_wp2
    refine ret_gen (fun W => Box 27 W (w.heap.size + 1 + 1) 0 none 0 0 ∧ Below w.heap.size w W) ⟨r2.set _ _ _ _, (HB2.out.setCell (p := ⟨w.heap.size + 1 + 1, 0, none⟩) (by show w.heap.size ≤ w.heap.size + 1 + 1; omega) _).setCell (p := ⟨w.heap.size + 1 + 1, 1, none⟩) (by show w.heap.size ≤ w.heap.size + 1 + 1; omega) _⟩ ?_
    rintro W ⟨x, b⟩
    have q0 := x.c0
    have q1 := x.c1
    exact bodyPost_ret (v := .tuple #[.agg #[.int .i64 0, .slice none 0 0], .int .i64 1]) (by simp [results, Tryd.results74, go_sem, q0, q1]) rfl (AlPost.no 1 b)
  · obtain ⟨rs, rfl, hLn1, h81, hr, hrel1, hl1, hd1, _⟩ := alphB_nats L1 xs1 n1 h1.1 ha
    obtain ⟨qs, rfl, hLn2, h82, hq, hrel2, hl2, hd2, _⟩ := alphB_nats L2 xs2 n2 h2.1 hb
    subst hLn1
    subst hLn2
    by_cases h8 : n1 + n2 ≤ 8
    · rw [prodAns_yes f n1 n2 rs qs ha hb hl1 hl2 h8, ints_len, prodM_len, hl1, hl2]
      have HPM := Lib.hid (HMM.out rs qs n1 n2 hl1 hl2 h8 hr hq ((depB_iff rs n1 hl1 hr).1 hd1) ((depB_iff qs n2 hl2 hq).1 hd2))
      have hle : (n1 : Int) + (n2 : Int) ≤ 8 := by omega
      have hK3 : n1 + n2 ≤ 1048576 := by omega
      clear ha hb hl1 hl2
      go_enter Tryd.func74, Tryd.ntmps74
      go_wp2_with fail
      rw [← hw0]
      clear hw0
      refine (dependenceOf_yes _ _ _ _ rs _ e1 hwf1 h81 rfl hr hrel1 hd1 hT0).mono ?_
      rintro e w1 ⟨B1, d1, rfl, hoa, hb1⟩
      have r1 := r0.next hb1
      have y1 := y0.next hb1
      have u0 := y1.c0
      have u1 := y1.c1
      have HB1 := Lib.hid (HB0.out.trans (hb1.mono HB0.out.size))
      have S1 := hb1.size
      go_wp2_with fail
      refine (dependenceOf_yes _ _ _ _ qs _ (e2.below hb1) hwf2 h82 rfl hq hrel2 hd2 (hT0.below hb1)).mono ?_
      rintro e w2 ⟨B2, d2, rfl, hob, hb2⟩
      have r2 := r1.next hb2
      have HB2 := Lib.hid (HB1.out.trans (hb2.mono HB1.out.size))
      have S2 := hb2.size
      go_wp2_with fail
      refine (HFF.out _ _ _ _ _ _ rs qs _ (hoa.rd.below hb2) hob.rd h8 hr hq).mono ?_
      rw [HPM.out]
      rintro e w3 ⟨B3, d3, rfl, hoc, hb3⟩
      have r3 := r2.next hb3
      have HB3 := Lib.hid (HB2.out.trans (hb3.mono HB2.out.size))
      have S3 := hb3.size
      go_wp2_with fail
      refine (alphabetOf_any _ _ _ _ _ hoc.rd hK3).mono ?_
      rintro e w4 ⟨B4, d4, rfl, hod, hb4⟩
      have HB4 := Lib.hid (HB3.out.trans (hb4.mono HB3.out.size))
      have r4 := r3.next hb4
      have z0 := r4.c0
      have z1 := r4.c1
      have g0 := r4.fr 0
      have g1 := r4.fr 1
      obtain ⟨K, hK⟩ : ∃ K, K = n1 + n2 := ⟨_, rfl⟩
      have HK := Lib.hid hK
      rw [← hK] at hod ⊢
      clear hK
      go_wp2
      refine ret_gen (fun W => Box 27 W (w.heap.size + 1 + 1) (K : Int) B4 K d4 ∧ Own 2 W w.heap.size B4 K d4 (ints (prodM f rs qs)) ∧ Below w.heap.size w W) ⟨r4.set _ _ _ _, ?_, ?_⟩ ?_
      · have hnn : ∀ q, B4.map (·.block) = some q → q ≠ w.heap.size + 1 + 1 := fun q hq => by have := (hod.lt q hq).1; have := HS0.out; omega
        exact own_other (own_other (hod.mono (by have := HS0.out; omega)) _ _ _ hnn) _ _ _ hnn
      · exact (HB4.out.setCell (p := ⟨w.heap.size + 1 + 1, 0, none⟩) (by show w.heap.size ≤ w.heap.size + 1 + 1; omega) _).setCell (p := ⟨w.heap.size + 1 + 1, 1, none⟩) (by show w.heap.size ≤ w.heap.size + 1 + 1; omega) _
      · rintro W ⟨x, o, b⟩
        have q0 := x.c0
        have q1 := x.c1
        rw [← HK.out]
        exact bodyPost_ret (v := .tuple #[.agg #[.int .i64 (K : Int), .slice B4 K d4], .int .i64 0]) (by simp [results, Tryd.results74, go_sem, q0, q1]) rfl ⟨_, _, rfl, o, b⟩
    · rw [prodAns_big f _ _ _ _ ha hb (by rw [h1.1, h2.1]; omega)]
      have hbig : ¬ ((n1 : Int) + (n2 : Int) ≤ 8) := by omega
      clear ha hb hl1 hl2
      go_enter Tryd.func74, Tryd.ntmps74
      go_wp2_with fail
      rw [← hw0]
      clear hw0
      refine (dependenceOf_yes _ _ _ _ rs _ e1 hwf1 h81 rfl hr hrel1 hd1 hT0).mono ?_
      rintro e w1 ⟨B1, d1, rfl, hoa, hb1⟩
      have r1 := r0.next hb1
      have y1 := y0.next hb1
      have u0 := y1.c0
      have u1 := y1.c1
      have HB1 := Lib.hid (HB0.out.trans (hb1.mono HB0.out.size))
      go_wp2_with fail
      refine (dependenceOf_yes _ _ _ _ qs _ (e2.below hb1) hwf2 h82 rfl hq hrel2 hd2 (hT0.below hb1)).mono ?_
      rintro e w2 ⟨B2, d2, rfl, hob, hb2⟩
      have r2 := r1.next hb2
      have HB2 := Lib.hid (HB1.out.trans (hb2.mono HB1.out.size))
      have z0 := r2.c0
      have z1 := r2.c1
      have g0 := r2.fr 0
      have g1 := r2.fr 1
      go_wp2
      refine ret_gen (fun W => Box 27 W (w.heap.size + 1 + 1) 0 none 0 0 ∧ Below w.heap.size w W) ⟨r2.set _ _ _ _, (HB2.out.setCell (p := ⟨w.heap.size + 1 + 1, 0, none⟩) (by show w.heap.size ≤ w.heap.size + 1 + 1; omega) _).setCell (p := ⟨w.heap.size + 1 + 1, 1, none⟩) (by show w.heap.size ≤ w.heap.size + 1 + 1; omega) _⟩ ?_
      rintro W ⟨x, b⟩
      have q0 := x.c0
      have q1 := x.c1
      exact bodyPost_ret (v := .tuple #[.agg #[.int .i64 0, .slice none 0 0], .int .i64 3]) (by simp [results, Tryd.results74, go_sem, q0, q1]) rfl (AlPost.no 3 b)
set_option maxHeartbeats 800000 in
theorem implDirectProduct (L1 : Int) (A1 : Option Addr) (n1 c1 : Nat) (xs1 : List Int) (L2 : Int) (A2 : Option Addr) (n2 c2 : Nat) (xs2 : List Int) (w : World) (h1 : Rd w A1 n1 xs1) (hwf1 : Wf xs1) (hL11 : -9223372036854775808 ≤ L1) (hL12 : L1 ≤ 9223372036854775807) (hn1 : n1 ≤ 9223372036854775807) (h2 : Rd w A2 n2 xs2) (hwf2 : Wf xs2) (hL21 : -9223372036854775808 ≤ L2) (hL22 : L2 ≤ 9223372036854775807) (hn2 : n2 ≤ 9223372036854775807) (hT : Tab w) :
    Calls Tryd.prog 39 #[.agg #[.int .i64 L1, .slice A1 n1 c1], .agg #[.int .i64 L2, .slice A2 n2 c2]] w (AlPost w (prodAns false L1 xs1 L2 xs2).1 (prodAns false L1 xs1 L2 xs2).2.1.length (prodAns false L1 xs1 L2 xs2).2.1 (prodAns false L1 xs1 L2 xs2).2.2) := by
  obtain ⟨oX, hoX⟩ : ∃ o : Obj, o = .cells #[.int .i64 L1, .slice A1 n1 c1] 27 := ⟨_, rfl⟩
  obtain ⟨oY, hoY⟩ : ∃ o : Obj, o = .cells #[.int .i64 L2, .slice A2 n2 c2] 27 := ⟨_, rfl⟩
  obtain ⟨oR, hoR⟩ : ∃ o : Obj, o = .cells #[.int .i64 0, .slice none 0 0] 27 := ⟨_, rfl⟩
  have s1 := size1 w oX
  have s2 := size1 (w.alloc oX) oY
  have s3 := size1 ((w.alloc oX).alloc oY) oR
  have hB3 := below3 w oX oY oR
  have x0 : Box 27 (((w.alloc oX).alloc oY).alloc oR) w.heap.size L1 A1 n1 c1 := by
    have h9 := ((box_new 27 w L1 A1 n1 c1).next (below1 _ oY)).next (below1 _ oR)
    rw [← hoX] at h9; exact h9
  have y0 : Box 27 (((w.alloc oX).alloc oY).alloc oR) (w.heap.size + 1) L2 A2 n2 c2 := by
    have h9 := (box_new 27 (w.alloc oX) L2 A2 n2 c2).next (below1 _ oR)
    rw [← hoY, s1] at h9; exact h9
  have r0 : Box 27 (((w.alloc oX).alloc oY).alloc oR) (w.heap.size + 1 + 1) 0 none 0 0 := by
    have h9 := box_new 27 ((w.alloc oX).alloc oY) 0 none 0 0
    rw [← hoR, s2, s1] at h9; exact h9
  obtain ⟨w0, hw0⟩ : ∃ w0, w0 = ((w.alloc oX).alloc oY).alloc oR := ⟨_, rfl⟩
  rw [← hw0] at x0 y0 r0 hB3 s3
  have HB0 := Lib.hid hB3
  have HS0 : Hid (w0.heap.size = w.heap.size + 3) := Lib.hid (by omega)
  have e1 := h1.below hB3
  have e2 := h2.below hB3
  rw [hoX, hoY, hoR] at hw0
  clear s1 s2 s3 hB3 hoX hoY hoR
  have hcall := productOf_any 75 (besM) false (fun args w => Go.MuLone.run_callFunc_enter (P := Tryd.prog) Tryd.func75 (by kernel_rfl) rfl args w) (fun B1 B2 n1 d1 n2 d2 rs qs w h1 h2 hn hr hq => beside_any B1 B2 n1 d1 n2 d2 rs qs w h1 h2 hn hr hq) (fun rs qs n1 n2 h1 h2 hn hr hq hd1 hd2 => bes_eq rs qs n1 n2 h1 h2 hr hq) L1 L2 A1 A2 n1 c1 n2 c2 xs1 xs2 w0 e1 e2 hwf1 hL11 hL12 hn1 hwf2 hL21 hL22 hn2 (hT.below HB0.out)
  obtain ⟨VL, hVL⟩ : ∃ VL, VL = (prodAns false L1 xs1 L2 xs2).1 := ⟨_, rfl⟩
  obtain ⟨VX, hVX⟩ : ∃ VX, VX = (prodAns false L1 xs1 L2 xs2).2.1 := ⟨_, rfl⟩
  obtain ⟨C, hC⟩ : ∃ C, C = (prodAns false L1 xs1 L2 xs2).2.2 := ⟨_, rfl⟩
  rw [← hVL, ← hVX, ← hC] at hcall ⊢
  have HC := Lib.hid hcall
  clear hcall hVL hVX hC
  go_enter Tryd.func39, Tryd.ntmps39
  go_wp2_with fail
  rw [← hw0]
  clear hw0
  refine HC.out.mono ?_
  obtain ⟨VN, hVN⟩ : ∃ VN, VN = VX.length := ⟨_, rfl⟩
  have HVN := Lib.hid hVN
  rw [← hVN]
  clear hVN
  rintro e w1 ⟨B1, d1, rfl, ho1, hb1⟩
  have HB1 := Lib.hid (HB0.out.trans (hb1.mono HB0.out.size))
  have r1 := r0.next hb1
  have z0 := r1.c0
  have z1 := r1.c1
  have g0 := r1.fr 0
  have g1 := r1.fr 1
  go_wp2
  refine ret_gen (fun W => Box 27 W (w.heap.size + 1 + 1) VL B1 VN d1 ∧ Own 2 W w.heap.size B1 VN d1 VX ∧ Below w.heap.size w W) ⟨r1.set _ _ _ _, ?_, ?_⟩ ?_
  · have hnn : ∀ q, B1.map (·.block) = some q → q ≠ w.heap.size + 1 + 1 := fun q hq => by have := (ho1.lt q hq).1; have := HS0.out; omega
    exact own_other (own_other (ho1.mono (by have := HS0.out; omega)) _ _ _ hnn) _ _ _ hnn
  · exact (HB1.out.setCell (p := ⟨w.heap.size + 1 + 1, 0, none⟩) (by show w.heap.size ≤ w.heap.size + 1 + 1; omega) _).setCell (p := ⟨w.heap.size + 1 + 1, 1, none⟩) (by show w.heap.size ≤ w.heap.size + 1 + 1; omega) _
  · rintro W ⟨x, o, b⟩
    have q0 := x.c0
    have q1 := x.c1
    rw [← HVN.out]
    exact bodyPost_ret (v := .tuple #[.agg #[.int .i64 VL, .slice B1 VN d1], .int .i64 C]) (by simp [results, Tryd.results39, go_sem, q0, q1]) rfl ⟨_, _, rfl, o, b⟩
set_option maxHeartbeats 800000 in
theorem specDirectProduct (L1 : Int) (A1 : Option Addr) (n1 c1 : Nat) (xs1 : List Int) (L2 : Int) (A2 : Option Addr) (n2 c2 : Nat) (xs2 : List Int) (w : World) (h1 : Rd w A1 n1 xs1) (hwf1 : Wf xs1) (hL11 : -9223372036854775808 ≤ L1) (hL12 : L1 ≤ 9223372036854775807) (hn1 : n1 ≤ 9223372036854775807) (h2 : Rd w A2 n2 xs2) (hwf2 : Wf xs2) (hL21 : -9223372036854775808 ≤ L2) (hL22 : L2 ≤ 9223372036854775807) (hn2 : n2 ≤ 9223372036854775807) :
    Calls Tryd.prog 38 #[.agg #[.int .i64 L1, .slice A1 n1 c1], .agg #[.int .i64 L2, .slice A2 n2 c2]] w (AlPost w (prodAns false L1 xs1 L2 xs2).1 (prodAns false L1 xs1 L2 xs2).2.1.length (prodAns false L1 xs1 L2 xs2).2.1 (prodAns false L1 xs1 L2 xs2).2.2) := by
  obtain ⟨oX, hoX⟩ : ∃ o : Obj, o = .cells #[.int .i64 L1, .slice A1 n1 c1] 27 := ⟨_, rfl⟩
  obtain ⟨oY, hoY⟩ : ∃ o : Obj, o = .cells #[.int .i64 L2, .slice A2 n2 c2] 27 := ⟨_, rfl⟩
  obtain ⟨oR, hoR⟩ : ∃ o : Obj, o = .cells #[.int .i64 0, .slice none 0 0] 27 := ⟨_, rfl⟩
  have s1 := size1 w oX
  have s2 := size1 (w.alloc oX) oY
  have s3 := size1 ((w.alloc oX).alloc oY) oR
  have hB3 := below3 w oX oY oR
  have x0 : Box 27 (((w.alloc oX).alloc oY).alloc oR) w.heap.size L1 A1 n1 c1 := by
    have h9 := ((box_new 27 w L1 A1 n1 c1).next (below1 _ oY)).next (below1 _ oR)
    rw [← hoX] at h9; exact h9
  have y0 : Box 27 (((w.alloc oX).alloc oY).alloc oR) (w.heap.size + 1) L2 A2 n2 c2 := by
    have h9 := (box_new 27 (w.alloc oX) L2 A2 n2 c2).next (below1 _ oR)
    rw [← hoY, s1] at h9; exact h9
  have r0 : Box 27 (((w.alloc oX).alloc oY).alloc oR) (w.heap.size + 1 + 1) 0 none 0 0 := by
    have h9 := box_new 27 ((w.alloc oX).alloc oY) 0 none 0 0
    rw [← hoR, s2, s1] at h9; exact h9
  obtain ⟨w0, hw0⟩ : ∃ w0, w0 = ((w.alloc oX).alloc oY).alloc oR := ⟨_, rfl⟩
  rw [← hw0] at x0 y0 r0 hB3 s3
  have HB0 := Lib.hid hB3
  have HS0 : Hid (w0.heap.size = w.heap.size + 3) := Lib.hid (by omega)
  have e1 := h1.below hB3
  have e2 := h2.below hB3
  rw [hoX, hoY, hoR] at hw0
  clear s1 s2 s3 hB3 hoX hoY hoR
  have hcall := specBeside_any false L1 L2 A1 A2 n1 c1 n2 c2 xs1 xs2 w0 e1 e2 hwf1 hL11 hL12 hn1 hwf2 hL21 hL22 hn2
  obtain ⟨VL, hVL⟩ : ∃ VL, VL = (prodAns false L1 xs1 L2 xs2).1 := ⟨_, rfl⟩
  obtain ⟨VX, hVX⟩ : ∃ VX, VX = (prodAns false L1 xs1 L2 xs2).2.1 := ⟨_, rfl⟩
  obtain ⟨C, hC⟩ : ∃ C, C = (prodAns false L1 xs1 L2 xs2).2.2 := ⟨_, rfl⟩
  rw [← hVL, ← hVX, ← hC] at hcall ⊢
  have HC := Lib.hid hcall
  clear hcall hVL hVX hC
  go_enter Tryd.func38, Tryd.ntmps38
  go_wp2_with fail
  rw [← hw0]
  clear hw0
  refine HC.out.mono ?_
  obtain ⟨VN, hVN⟩ : ∃ VN, VN = VX.length := ⟨_, rfl⟩
  have HVN := Lib.hid hVN
  rw [← hVN]
  clear hVN
  rintro e w1 ⟨B1, d1, rfl, ho1, hb1⟩
  have HB1 := Lib.hid (HB0.out.trans (hb1.mono HB0.out.size))
  have r1 := r0.next hb1
  have z0 := r1.c0
  have z1 := r1.c1
  have g0 := r1.fr 0
  have g1 := r1.fr 1
  go_wp2
  refine ret_gen (fun W => Box 27 W (w.heap.size + 1 + 1) VL B1 VN d1 ∧ Own 2 W w.heap.size B1 VN d1 VX ∧ Below w.heap.size w W) ⟨r1.set _ _ _ _, ?_, ?_⟩ ?_
  · have hnn : ∀ q, B1.map (·.block) = some q → q ≠ w.heap.size + 1 + 1 := fun q hq => by have := (ho1.lt q hq).1; have := HS0.out; omega
    exact own_other (own_other (ho1.mono (by have := HS0.out; omega)) _ _ _ hnn) _ _ _ hnn
  · exact (HB1.out.setCell (p := ⟨w.heap.size + 1 + 1, 0, none⟩) (by show w.heap.size ≤ w.heap.size + 1 + 1; omega) _).setCell (p := ⟨w.heap.size + 1 + 1, 1, none⟩) (by show w.heap.size ≤ w.heap.size + 1 + 1; omega) _
  · rintro W ⟨x, o, b⟩
    have q0 := x.c0
    have q1 := x.c1
    rw [← HVN.out]
    exact bodyPost_ret (v := .tuple #[.agg #[.int .i64 VL, .slice B1 VN d1], .int .i64 C]) (by simp [results, Tryd.results38, go_sem, q0, q1]) rfl ⟨_, _, rfl, o, b⟩
set_option maxHeartbeats 800000 in
theorem implFreeProduct (L1 : Int) (A1 : Option Addr) (n1 c1 : Nat) (xs1 : List Int) (L2 : Int) (A2 : Option Addr) (n2 c2 : Nat) (xs2 : List Int) (w : World) (h1 : Rd w A1 n1 xs1) (hwf1 : Wf xs1) (hL11 : -9223372036854775808 ≤ L1) (hL12 : L1 ≤ 9223372036854775807) (hn1 : n1 ≤ 9223372036854775807) (h2 : Rd w A2 n2 xs2) (hwf2 : Wf xs2) (hL21 : -9223372036854775808 ≤ L2) (hL22 : L2 ≤ 9223372036854775807) (hn2 : n2 ≤ 9223372036854775807) (hT : Tab w) :
    Calls Tryd.prog 41 #[.agg #[.int .i64 L1, .slice A1 n1 c1], .agg #[.int .i64 L2, .slice A2 n2 c2]] w (AlPost w (prodAns true L1 xs1 L2 xs2).1 (prodAns true L1 xs1 L2 xs2).2.1.length (prodAns true L1 xs1 L2 xs2).2.1 (prodAns true L1 xs1 L2 xs2).2.2) := by
  obtain ⟨oX, hoX⟩ : ∃ o : Obj, o = .cells #[.int .i64 L1, .slice A1 n1 c1] 27 := ⟨_, rfl⟩
  obtain ⟨oY, hoY⟩ : ∃ o : Obj, o = .cells #[.int .i64 L2, .slice A2 n2 c2] 27 := ⟨_, rfl⟩
  obtain ⟨oR, hoR⟩ : ∃ o : Obj, o = .cells #[.int .i64 0, .slice none 0 0] 27 := ⟨_, rfl⟩
  have s1 := size1 w oX
  have s2 := size1 (w.alloc oX) oY
  have s3 := size1 ((w.alloc oX).alloc oY) oR
  have hB3 := below3 w oX oY oR
  have x0 : Box 27 (((w.alloc oX).alloc oY).alloc oR) w.heap.size L1 A1 n1 c1 := by
    have h9 := ((box_new 27 w L1 A1 n1 c1).next (below1 _ oY)).next (below1 _ oR)
    rw [← hoX] at h9; exact h9
  have y0 : Box 27 (((w.alloc oX).alloc oY).alloc oR) (w.heap.size + 1) L2 A2 n2 c2 := by
    have h9 := (box_new 27 (w.alloc oX) L2 A2 n2 c2).next (below1 _ oR)
    rw [← hoY, s1] at h9; exact h9
  have r0 : Box 27 (((w.alloc oX).alloc oY).alloc oR) (w.heap.size + 1 + 1) 0 none 0 0 := by
    have h9 := box_new 27 ((w.alloc oX).alloc oY) 0 none 0 0
    rw [← hoR, s2, s1] at h9; exact h9
  obtain ⟨w0, hw0⟩ : ∃ w0, w0 = ((w.alloc oX).alloc oY).alloc oR := ⟨_, rfl⟩
  rw [← hw0] at x0 y0 r0 hB3 s3
  have HB0 := Lib.hid hB3
  have HS0 : Hid (w0.heap.size = w.heap.size + 3) := Lib.hid (by omega)
  have e1 := h1.below hB3
  have e2 := h2.below hB3
  rw [hoX, hoY, hoR] at hw0
  clear s1 s2 s3 hB3 hoX hoY hoR
  have hcall := productOf_any 76 (fun rs qs => cplM (besM (cplM rs) (cplM qs))) true (fun args w => Go.MuLone.run_callFunc_enter (P := Tryd.prog) Tryd.func76 (by kernel_rfl) rfl args w) (fun B1 B2 n1 d1 n2 d2 rs qs w h1 h2 hn hr hq => joined_any B1 B2 n1 d1 n2 d2 rs qs w h1 h2 hn hr hq) (fun rs qs n1 n2 h1 h2 hn hr hq hd1 hd2 => joi_eq rs qs n1 n2 h1 h2 hn hr hq hd1 hd2) L1 L2 A1 A2 n1 c1 n2 c2 xs1 xs2 w0 e1 e2 hwf1 hL11 hL12 hn1 hwf2 hL21 hL22 hn2 (hT.below HB0.out)
  obtain ⟨VL, hVL⟩ : ∃ VL, VL = (prodAns true L1 xs1 L2 xs2).1 := ⟨_, rfl⟩
  obtain ⟨VX, hVX⟩ : ∃ VX, VX = (prodAns true L1 xs1 L2 xs2).2.1 := ⟨_, rfl⟩
  obtain ⟨C, hC⟩ : ∃ C, C = (prodAns true L1 xs1 L2 xs2).2.2 := ⟨_, rfl⟩
  rw [← hVL, ← hVX, ← hC] at hcall ⊢
  have HC := Lib.hid hcall
  clear hcall hVL hVX hC
  go_enter Tryd.func41, Tryd.ntmps41
  go_wp2_with fail
  rw [← hw0]
  clear hw0
  refine HC.out.mono ?_
  obtain ⟨VN, hVN⟩ : ∃ VN, VN = VX.length := ⟨_, rfl⟩
  have HVN := Lib.hid hVN
  rw [← hVN]
  clear hVN
  rintro e w1 ⟨B1, d1, rfl, ho1, hb1⟩
  have HB1 := Lib.hid (HB0.out.trans (hb1.mono HB0.out.size))
  have r1 := r0.next hb1
  have z0 := r1.c0
  have z1 := r1.c1
  have g0 := r1.fr 0
  have g1 := r1.fr 1
  go_wp2
  refine ret_gen (fun W => Box 27 W (w.heap.size + 1 + 1) VL B1 VN d1 ∧ Own 2 W w.heap.size B1 VN d1 VX ∧ Below w.heap.size w W) ⟨r1.set _ _ _ _, ?_, ?_⟩ ?_
  · have hnn : ∀ q, B1.map (·.block) = some q → q ≠ w.heap.size + 1 + 1 := fun q hq => by have := (ho1.lt q hq).1; have := HS0.out; omega
    exact own_other (own_other (ho1.mono (by have := HS0.out; omega)) _ _ _ hnn) _ _ _ hnn
  · exact (HB1.out.setCell (p := ⟨w.heap.size + 1 + 1, 0, none⟩) (by show w.heap.size ≤ w.heap.size + 1 + 1; omega) _).setCell (p := ⟨w.heap.size + 1 + 1, 1, none⟩) (by show w.heap.size ≤ w.heap.size + 1 + 1; omega) _
  · rintro W ⟨x, o, b⟩
    have q0 := x.c0
    have q1 := x.c1
    rw [← HVN.out]
    exact bodyPost_ret (v := .tuple #[.agg #[.int .i64 VL, .slice B1 VN d1], .int .i64 C]) (by simp [results, Tryd.results41, go_sem, q0, q1]) rfl ⟨_, _, rfl, o, b⟩
set_option maxHeartbeats 800000 in
theorem specFreeProduct (L1 : Int) (A1 : Option Addr) (n1 c1 : Nat) (xs1 : List Int) (L2 : Int) (A2 : Option Addr) (n2 c2 : Nat) (xs2 : List Int) (w : World) (h1 : Rd w A1 n1 xs1) (hwf1 : Wf xs1) (hL11 : -9223372036854775808 ≤ L1) (hL12 : L1 ≤ 9223372036854775807) (hn1 : n1 ≤ 9223372036854775807) (h2 : Rd w A2 n2 xs2) (hwf2 : Wf xs2) (hL21 : -9223372036854775808 ≤ L2) (hL22 : L2 ≤ 9223372036854775807) (hn2 : n2 ≤ 9223372036854775807) :
    Calls Tryd.prog 40 #[.agg #[.int .i64 L1, .slice A1 n1 c1], .agg #[.int .i64 L2, .slice A2 n2 c2]] w (AlPost w (prodAns true L1 xs1 L2 xs2).1 (prodAns true L1 xs1 L2 xs2).2.1.length (prodAns true L1 xs1 L2 xs2).2.1 (prodAns true L1 xs1 L2 xs2).2.2) := by
  obtain ⟨oX, hoX⟩ : ∃ o : Obj, o = .cells #[.int .i64 L1, .slice A1 n1 c1] 27 := ⟨_, rfl⟩
  obtain ⟨oY, hoY⟩ : ∃ o : Obj, o = .cells #[.int .i64 L2, .slice A2 n2 c2] 27 := ⟨_, rfl⟩
  obtain ⟨oR, hoR⟩ : ∃ o : Obj, o = .cells #[.int .i64 0, .slice none 0 0] 27 := ⟨_, rfl⟩
  have s1 := size1 w oX
  have s2 := size1 (w.alloc oX) oY
  have s3 := size1 ((w.alloc oX).alloc oY) oR
  have hB3 := below3 w oX oY oR
  have x0 : Box 27 (((w.alloc oX).alloc oY).alloc oR) w.heap.size L1 A1 n1 c1 := by
    have h9 := ((box_new 27 w L1 A1 n1 c1).next (below1 _ oY)).next (below1 _ oR)
    rw [← hoX] at h9; exact h9
  have y0 : Box 27 (((w.alloc oX).alloc oY).alloc oR) (w.heap.size + 1) L2 A2 n2 c2 := by
    have h9 := (box_new 27 (w.alloc oX) L2 A2 n2 c2).next (below1 _ oR)
    rw [← hoY, s1] at h9; exact h9
  have r0 : Box 27 (((w.alloc oX).alloc oY).alloc oR) (w.heap.size + 1 + 1) 0 none 0 0 := by
    have h9 := box_new 27 ((w.alloc oX).alloc oY) 0 none 0 0
    rw [← hoR, s2, s1] at h9; exact h9
  obtain ⟨w0, hw0⟩ : ∃ w0, w0 = ((w.alloc oX).alloc oY).alloc oR := ⟨_, rfl⟩
  rw [← hw0] at x0 y0 r0 hB3 s3
  have HB0 := Lib.hid hB3
  have HS0 : Hid (w0.heap.size = w.heap.size + 3) := Lib.hid (by omega)
  have e1 := h1.below hB3
  have e2 := h2.below hB3
  rw [hoX, hoY, hoR] at hw0
  clear s1 s2 s3 hB3 hoX hoY hoR
  have hcall := specBeside_any true L1 L2 A1 A2 n1 c1 n2 c2 xs1 xs2 w0 e1 e2 hwf1 hL11 hL12 hn1 hwf2 hL21 hL22 hn2
  obtain ⟨VL, hVL⟩ : ∃ VL, VL = (prodAns true L1 xs1 L2 xs2).1 := ⟨_, rfl⟩
  obtain ⟨VX, hVX⟩ : ∃ VX, VX = (prodAns true L1 xs1 L2 xs2).2.1 := ⟨_, rfl⟩
  obtain ⟨C, hC⟩ : ∃ C, C = (prodAns true L1 xs1 L2 xs2).2.2 := ⟨_, rfl⟩
  rw [← hVL, ← hVX, ← hC] at hcall ⊢
  have HC := Lib.hid hcall
  clear hcall hVL hVX hC
  go_enter Tryd.func40, Tryd.ntmps40
  go_wp2_with fail
  rw [← hw0]
  clear hw0
  refine HC.out.mono ?_
  obtain ⟨VN, hVN⟩ : ∃ VN, VN = VX.length := ⟨_, rfl⟩
  have HVN := Lib.hid hVN
  rw [← hVN]
  clear hVN
  rintro e w1 ⟨B1, d1, rfl, ho1, hb1⟩
  have HB1 := Lib.hid (HB0.out.trans (hb1.mono HB0.out.size))
  have r1 := r0.next hb1
  have z0 := r1.c0
  have z1 := r1.c1
  have g0 := r1.fr 0
  have g1 := r1.fr 1
  go_wp2
  refine ret_gen (fun W => Box 27 W (w.heap.size + 1 + 1) VL B1 VN d1 ∧ Own 2 W w.heap.size B1 VN d1 VX ∧ Below w.heap.size w W) ⟨r1.set _ _ _ _, ?_, ?_⟩ ?_
  · have hnn : ∀ q, B1.map (·.block) = some q → q ≠ w.heap.size + 1 + 1 := fun q hq => by have := (ho1.lt q hq).1; have := HS0.out; omega
    exact own_other (own_other (ho1.mono (by have := HS0.out; omega)) _ _ _ hnn) _ _ _ hnn
  · exact (HB1.out.setCell (p := ⟨w.heap.size + 1 + 1, 0, none⟩) (by show w.heap.size ≤ w.heap.size + 1 + 1; omega) _).setCell (p := ⟨w.heap.size + 1 + 1, 1, none⟩) (by show w.heap.size ≤ w.heap.size + 1 + 1; omega) _
  · rintro W ⟨x, o, b⟩
    have q0 := x.c0
    have q1 := x.c1
    rw [← HVN.out]
    exact bodyPost_ret (v := .tuple #[.agg #[.int .i64 VL, .slice B1 VN d1], .int .i64 C]) (by simp [results, Tryd.results40, go_sem, q0, q1]) rfl ⟨_, _, rfl, o, b⟩
end Go.Proofs.YtbjkpkgnjeaimaaDoor
