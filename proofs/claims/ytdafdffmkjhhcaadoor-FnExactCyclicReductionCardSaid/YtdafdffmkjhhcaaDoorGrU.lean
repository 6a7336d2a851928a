/-
  The double alphabet of the model.
-/
import Derived.Test.YtdafdffmkjhhcaaDoorGrT
namespace Go.Proofs.YtdafdffmkjhhcaaDoor
open Go Go.RowKit
set_option linter.unusedVariables false
set_option linter.unusedSimpArgs false
set_option maxRecDepth 100000

def dblT (rs : List Nat) (N k : Nat) : List Nat := (List.range k).map fun a => mkM (fun b => RDep rs (a / 2) (b / 2)) N
theorem dblT_next (rs : List Nat) (N k : Nat) : dblT rs N (k + 1) = dblT rs N k ++ [mkM (fun b => RDep rs (k / 2) (b / 2)) N] := by unfold dblT; rw [List.range_succ]; simp
theorem dblT_full (rs : List Nat) (n : Nat) (hl : rs.length = n) : dblT rs (2 * n) (2 * n) = dblR rs := by subst hl; rfl
theorem mkM_yes (p : Nat → Bool) (k : Nat) (h : p k = true) : mkM p (k + 1) = mkM p k ||| 2 ^ k := by show (if p k = true then _ else _) = _; rw [if_pos h]
theorem mkM_no (p : Nat → Bool) (k : Nat) (h : p k = false) : mkM p (k + 1) = mkM p k := by show (if p k = true then _ else _) = _; rw [if_neg (by rw [h]; decide)]
def MakesG (w : World) (L : Int) (n : Nat) (xs : List Int) (e : Ending) (w' : World) : Prop :=
  ∃ A c, e = .returned (.agg #[.int .i64 L, .slice A n c]) ∧ Own 2 w' w.heap.size A n c xs ∧ Below w.heap.size w w'
theorem box_ne_own {T E : TypeId} {w : World} {g n c B k d : Nat} {L : Int} {A Q : Option Addr} {xs : List Int} (hT : E ≠ T) (x : Box T w g L A n c) (o : Own E w B Q k d xs) : ∀ q, Q.map (·.block) = some q → q ≠ g := by
  intro q hq e
  subst e
  obtain ⟨cur, hc⟩ := own_obj o hq
  have hx : w.heap[q]? = _ := x
  rw [hx] at hc
  injection hc with hc
  injection hc with _ h2
  exact hT h2.symm
set_option maxHeartbeats 3200000 in
theorem l09Double_any (A : Option Addr) (n c : Nat) (rs : List Nat) (w : World) (h : Rd w A n (ints rs)) (h8 : n ≤ 8) (hl : rs.length = n) (hr : ∀ i, rs.getD i 0 < 2 ^ n) :
    Calls Tryd.prog 69 #[.agg #[.int .i64 (n : Int), .slice A n c]] w (MakesG w ((2 * n : Nat) : Int) (2 * n) (ints (dblR rs))) := by
  obtain ⟨i0, hi, hz0, hz1, hz2⟩ := info_parts info_int
  have HL := Lib.hid hl
  have HR := Lib.hid hr
  have HFU := Lib.hid (dblT_full rs n hl)
  have hN2 : (2 : Int) * (n : Int) = ((2 * n : Nat) : Int) := by omega
  obtain ⟨N, hN⟩ : ∃ N, N = 2 * n := ⟨_, rfl⟩
  have HN := Lib.hid hN
  rw [← hN] at HFU hN2 ⊢
  have hN16 : N ≤ 16 := by omega
  clear hl hr hN
  have x0 := (box_new 29 w (n : Int) A n c).next (below1 (w.alloc (.cells #[.int .i64 (n : Int), .slice A n c] 29)) (.cells #[.int .i64 0, .slice none 0 0] 29))
  have y0 := x0.c0
  have y1 := x0.c1
  go_enter Tryd.func69, Tryd.ntmps69
  go_wp2_with fail
  have HB0 := Lib.hid ((below2 w (.cells #[.int .i64 (n : Int), .slice A n c] 29) (.cells #[.int .i64 0, .slice none 0 0] 29)))
  have hs0 : ((w.alloc (.cells #[.int .i64 (n : Int), .slice A n c] 29)).alloc (.cells #[.int .i64 0, .slice none 0 0] 29)).heap.size = w.heap.size + 1 + 1 := by simp
  have r0 : Box 29 ((w.alloc (.cells #[.int .i64 (n : Int), .slice A n c] 29)).alloc (.cells #[.int .i64 0, .slice none 0 0] 29)) (w.heap.size + 1) 0 none 0 0 := by have h9 := box_new 29 (w.alloc (.cells #[.int .i64 (n : Int), .slice A n c] 29)) 0 none 0 0; rw [World.size_alloc] at h9; exact h9
  obtain ⟨wA, hwA⟩ : ∃ wA, wA = (w.alloc (.cells #[.int .i64 (n : Int), .slice A n c] 29)).alloc (.cells #[.int .i64 0, .slice none 0 0] 29) := ⟨_, rfl⟩
  rw [← hwA] at HB0 hs0 r0 x0 ⊢
  clear hwA y0 y1
  have oA : Own 2 (wA.alloc (.cells #[] 2)) wA.heap.size (some ⟨wA.heap.size, 0, none⟩) 0 0 [] := World.ownsRow_lit wA #[] 0 (Nat.le_refl _) (by unfold maxLen; omega) rfl
  have HE := Lib.hid hs0
  rw [hs0] at oA
  have hhA := h.below HB0.out
  go_loopw [4] (fun i wr => ∃ (k : Nat) (A1 : Option Addr) (c1 : Nat), k ≤ N ∧ i = .int .i64 k ∧ Box 29 wr w.heap.size (n : Int) A n c ∧ Box 29 wr (w.heap.size + 1) 0 none 0 0 ∧ Box 29 wr (w.heap.size + 1 + 1 + 1) (N : Int) A1 k c1 ∧ Own 2 wr (w.heap.size + 1 + 1) A1 k c1 (ints (dblT rs N k)) ∧ (∀ q, A1.map (·.block) = some q → q ≠ w.heap.size + 1 + 1 + 1) ∧ Below w.heap.size w wr) (fun i _ => N - (intOf i).toNat)
  case atStart =>
    refine ⟨0, some ⟨w.heap.size + 1 + 1, 0, none⟩, 0, Nat.zero_le _, rfl, x0.next (below2 _ _ _), r0.next (below2 _ _ _), ?_, World.ownsRow.alloc oA _, by intro q hq; cases hq; show ¬ w.heap.size + 1 + 1 = _; omega, ?_⟩
    · have h9 := box_new 29 (wA.alloc (.cells #[] 2)) (N : Int) (some ⟨w.heap.size + 1 + 1, 0, none⟩) 0 0
      rw [World.size_alloc, HE.out] at h9; exact h9
    · exact HB0.out.trans ((below2 wA _ _).mono HB0.out.size)
  case round =>
    clear oA x0 r0 hs0 hhA
    obtain ⟨k, A1, c1, hk, rfl, xb, rb, yb, ho, hne, hb⟩ := hrel
    obtain ⟨wo, hwo⟩ : ∃ wo, wo = wr := ⟨_, rfl⟩
    rw [← hwo] at xb rb yb ho hb ⊢
    clear hwo
    have y0 := xb.c0
    have y1 := xb.c1
    by_cases hlt : k < N
    · have hk2 : k / 2 < n := by have := HN.out; omega
      have hqa : Int.tdiv (k : Int) 2 = ((k / 2 : Nat) : Int) := by rw [Int.tdiv_eq_ediv_of_nonneg (by omega)]; omega
      have hml : k + 1 ≤ maxLen := by unfold maxLen; omega
      have hby2 : (k + 1) * 8 ≤ 140737488355328 := by omega
      obtain ⟨ka, hka⟩ : ∃ ka, ka = k / 2 := ⟨_, rfl⟩
      have HKA := Lib.hid hka
      rw [← hka] at hk2 hqa
      clear hka
      go_wp2_with fail
      go_loopw [5, 6] (fun mv bv wr => ∃ b : Nat, b ≤ N ∧ bv = .int .i64 b ∧ mv = .int .i64 ((mkM (fun b => RDep rs ka (b / 2)) b : Nat) : Int) ∧ Below wo.heap.size wo wr) (fun _ bv _ => N - (intOf bv).toNat)
      case atStart => exact ⟨0, Nat.zero_le _, rfl, rfl, Below.refl _ _⟩
      case round =>
        obtain ⟨b, hb9, rfl, rfl, hbb⟩ := hrel
        have xb2 := xb.next hbb
        have z0 := xb2.c0
        have z1 := xb2.c1
        have hmk := mkM_lt (fun b => RDep rs ka (b / 2)) b 16 (by omega)
        by_cases hlt2 : b < N
        · have hb2 : b / 2 < n := by have := HN.out; omega
          have hqb : Int.tdiv (b : Int) 2 = ((b / 2 : Nat) : Int) := by rw [Int.tdiv_eq_ediv_of_nonneg (by omega)]; omega
          have HMY := Lib.hid (mkM_yes (fun b => RDep rs ka (b / 2)) b)
          have HMN := Lib.hid (mkM_no (fun b => RDep rs ka (b / 2)) b)
          obtain ⟨kb, hkb⟩ : ∃ kb, kb = b / 2 := ⟨_, rfl⟩
          have HDE := Lib.hid (dep_any (n : Int) A n c ka kb rs wr (h.below (hb.trans (hbb.mono hb.size))) (by omega) HR.out hk2 (by rw [hkb]; exact hb2))
          have HMY : Hid (RDep rs ka kb = true → mkM (fun b => RDep rs ka (b / 2)) (b + 1) = mkM (fun b => RDep rs ka (b / 2)) b ||| 2 ^ b) := Lib.hid (fun h9 => HMY.out (by rw [← hkb]; exact h9))
          have HMN : Hid (RDep rs ka kb = false → mkM (fun b => RDep rs ka (b / 2)) (b + 1) = mkM (fun b => RDep rs ka (b / 2)) b) := Lib.hid (fun h9 => HMN.out (by rw [← hkb]; exact h9))
          rw [← hkb] at hqb hb2
          obtain ⟨M2, hM2⟩ : ∃ M2, M2 = mkM (fun b => RDep rs ka (b / 2)) (b + 1) := ⟨_, rfl⟩
          have HM2 := Lib.hid hM2
          rw [← hM2] at HMY HMN
          obtain ⟨M, hM⟩ : ∃ M, M = mkM (fun b => RDep rs ka (b / 2)) b := ⟨_, rfl⟩
          rw [← hM] at HMY HMN hmk ⊢
          obtain ⟨P, hP⟩ : ∃ P : Nat, P = 2 ^ b := ⟨_, rfl⟩
          have HONE : Hid (∀ ww : World, Calls Tryd.prog 56 #[.int .i64 (b : Int)] ww fun e w' => e = .returned (.int .i64 (P : Int)) ∧ ww = w') := Lib.hid (by rw [hP]; exact fun ww => one_any b (by omega) ww)
          have hor : bits .or .i64 (M : Int) (P : Int) = ((M ||| P : Nat) : Int) := i64_or_nat M P (by omega) (by rw [hP]; exact p2_lt b (by omega))
          rw [← hP] at HMY
          clear hP hM hM2 hkb hmk
          cases hd : RDep rs ka kb with
          | true =>
            have hd' : (rs.getD ka 0).testBit kb = true := hd
            rw [hd'] at HDE
            have HE2 := Lib.hid (HMY.out hd)
            clear hd hd' HMY HMN
            go_wp2_with fail
            refine HDE.out.mono ?_
            rintro e w3 ⟨rfl, hb3⟩
            go_wp2_with (go_at_call 56; refine (HONE.out _).mono ?_; rintro e w' ⟨rfl, rfl⟩)
            go_roundw
            case rel => exact ⟨b + 1, by omega, by go_num, by rw [← HM2.out, HE2.out], hbb.trans (hb3.mono hbb.size)⟩
            case measure => simp [intOf]; omega
          | false =>
            have hd' : (rs.getD ka 0).testBit kb = false := hd
            rw [hd'] at HDE
            have HE2 := Lib.hid (HMN.out hd)
            clear hd hd' HMY HMN
            go_wp2_with fail
            refine HDE.out.mono ?_
            rintro e w3 ⟨rfl, hb3⟩
            go_wp2_with fail
            go_roundw
            case rel => exact ⟨b + 1, by omega, by go_num, by rw [← HM2.out, HE2.out], hbb.trans (hb3.mono hbb.size)⟩
            case measure => simp [intOf]; omega
        · have hbN : b = N := by omega
          subst hbN
          have yb2 := yb.next hbb
          have ho2 := ho.below hbb
          have u0 := yb2.c0
          have u1 := yb2.c1
          have HNX : Hid (ints (dblT rs b (k + 1)) = ints (dblT rs b k) ++ [((mkM (fun b => RDep rs ka (b / 2)) b : Nat) : Int)]) := Lib.hid (by rw [dblT_next, HKA.out]; unfold ints; rw [List.map_append]; rfl)
          obtain ⟨M, hM⟩ : ∃ M, M = mkM (fun b => RDep rs ka (b / 2)) b := ⟨_, rfl⟩
          rw [← hM] at HNX ⊢
          have HA1 : Hid (∀ q, A1.map (·.block) = some q → q ≠ w.heap.size ∧ q ≠ w.heap.size + 1) := Lib.hid (fun q hq => by have := (ho.lt q hq).1; omega)
          have HBW := Lib.hid (hb.trans (hbb.mono hb.size))
          have xb2' := xb.next hbb
          have rb2 := rb.next hbb
          have zz1 := fun o => (yb2.next (below1 wr o)).c1
          have hls : w.heap.size + 1 + 1 ≤ wr.heap.size := by have := yb2.lt; omega
          clear hM y0 y1 hlt2
          go_wp2_with (at_builtin; refine wpList_append_own _ rfl _ _ 22 rfl (w.heap.size + 1 + 1) 2 i0 (.int .i64 0) 1 8 Tryd.underlying22 hi hz0 hz1 hz2 rfl (by decide) (.slice A1 k c1) k ((ints (dblT rs b k)).map (Value.int .i64)) rfl (World.ownsRow.alloc ho2 _) ⟨wr.heap.size, 0, none⟩ 1 1 [.int .i64 (M : Int)] rfl rfl (cell_one_new _ _ _) (by intro u hu; simp at hu; subst hu; rfl) hml hby2 (by simp; omega) ?_; intro v' w2 hown hg _; rw [show (ints (dblT rs b k)).map (Value.int .i64) ++ [Value.int .i64 (M : Int)] = (ints (dblT rs b (k + 1))).map (Value.int .i64) from by rw [HNX.out, List.map_append]; rfl] at hown; obtain ⟨A2, c2, hv, ho3⟩ := own_shape hown; subst hv; have yb3 : Box 29 w2 (w.heap.size + 1 + 1 + 1) (b : Int) A1 k c1 := (yb2.next (below1 wr _)).apart hg (fun e => hne _ (ownBlock_map' e) rfl); have xb3 : Box 29 w2 w.heap.size (n : Int) A n c := (xb2'.next (below1 wr _)).apart hg (fun e => (HA1.out _ (ownBlock_map' e)).1 rfl); have rb3 : Box 29 w2 (w.heap.size + 1) 0 none 0 0 := (rb2.next (below1 wr _)).apart hg (fun e => (HA1.out _ (ownBlock_map' e)).2 rfl); have q1 := yb3.c1; have qf := yb3.fr 1; have HG := Lib.hid hg; clear hown hg)
          have hne2 := box_ne_own (show (2 : TypeId) ≠ 29 by decide) yb3 ho3
          have hb4 : Below w.heap.size w w2 := (HBW.out.alloc HBW.out.size _).grown HG.out (by have := HBW.out.size; simp; omega) (fun r hr => by have h9 := (World.ownsRow.lt ho2 r hr).1; omega)
          have yb4 := yb3.set1 A2 (k + 1) c2
          have xb4 := xb3.other (w.heap.size + 1 + 1 + 1) 1 (.slice A2 (k + 1) c2) (by omega)
          have rb4 := rb3.other (w.heap.size + 1 + 1 + 1) 1 (.slice A2 (k + 1) c2) (by omega)
          have ho4 := own_other ho3 (w.heap.size + 1 + 1 + 1) 1 (.slice A2 (k + 1) c2) hne2
          have hb5 := hb4.setCell (p := ⟨w.heap.size + 1 + 1 + 1, 1, none⟩) (by show w.heap.size ≤ w.heap.size + 1 + 1 + 1; omega) (.slice A2 (k + 1) c2)
          clear q1 qf zz1
          go_wp2_with fail
          go_roundw
          case rel => exact ⟨k + 1, A2, c2, by omega, by go_num, xb4, rb4, yb4, ho4, hne2, hb5⟩
          case measure => simp [intOf]; omega
    · have hkN : k = N := by omega
      subst hkN
      rw [HFU.out] at ho
      have v0 := rb.c0
      have v1 := rb.c1
      have f0 := rb.fr 0
      have f1 := rb.fr 1
      have t0 := yb.c0
      have t1 := yb.c1
      go_wp2
      refine ret_gen (fun W => Box 29 W (w.heap.size + 1) (k : Int) A1 k c1 ∧ Own 2 W w.heap.size A1 k c1 (ints (dblR rs)) ∧ Below w.heap.size w W) ⟨rb.set _ _ _ _, ?_, ?_⟩ ?_
      · have hnn : ∀ q, A1.map (·.block) = some q → q ≠ w.heap.size + 1 := fun q hq => by have := (ho.lt q hq).1; omega
        exact own_other (own_other (ho.mono (by omega)) _ _ _ hnn) _ _ _ hnn
      · exact (hb.setCell (p := ⟨w.heap.size + 1, 0, none⟩) (Nat.le_succ _) _).setCell (p := ⟨w.heap.size + 1, 1, none⟩) (Nat.le_succ _) _
      · rintro W ⟨x, o, b⟩
        have e0 := x.c0
        have e1 := x.c1
        exact bodyPost_ret (v := .agg #[.int .i64 (k : Int), .slice A1 k c1]) (by simp [results, Tryd.results69, go_sem, e0, e1]) rfl ⟨_, _, rfl, o, b⟩
end Go.Proofs.YtdafdffmkjhhcaaDoor
