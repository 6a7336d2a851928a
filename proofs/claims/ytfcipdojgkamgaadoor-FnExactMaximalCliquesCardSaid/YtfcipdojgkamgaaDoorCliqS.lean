/-
  The cliques of a relation: the model's way, by contracts.
-/
import Derived.Test.YtfcipdojgkamgaaDoorCliq
import Derived.Deep.RegionLaw
import Derived.Deep.AppendLies
namespace Go.Proofs.YtfcipdojgkamgaaDoor
open Go.RowKit
set_option linter.unusedVariables false
set_option maxRecDepth 100000

theorem sub_or (s u : Nat) (hs : s < 9223372036854775808) (hu : u < 9223372036854775808) : (dif s u == 0) = decide (s ||| u = u) := by
  rw [Bool.eq_iff_iff, beq_iff_eq, decide_eq_true_iff, dif_zero s u hs hu]
  constructor
  · intro h
    apply Nat.eq_of_testBit_eq
    intro b
    rw [Nat.testBit_or]
    cases e : s.testBit b
    · rfl
    · rw [h b e]; rfl
  · intro h b hb
    rw [← h, Nat.testBit_or, hb]; rfl
theorem one_same (k : Nat) (hk : k ≤ 62) (w : World) :
    Calls Tryd.prog 55 #[.int .i64 (k : Int)] w fun e w' => e = .returned (.int .i64 ((2 ^ k : Nat) : Int)) ∧ w' = w :=
  (one_any k hk w).mono fun _ _ ⟨he, hw⟩ => ⟨he, hw.symm⟩
/-- What the model's list of cliques leaves. -/
def SpecFam (w : World) (fs : List Nat) (e : Ending) (w' : World) : Prop :=
  (fs.length ≤ 4096 ∧ ∃ A c, e = .returned (.tuple #[.slice A fs.length c, .bool true]) ∧ Own 2 w' w.heap.size A fs.length c (ints fs) ∧ Below w.heap.size w w') ∨
  (4096 < fs.length ∧ e = .returned (.tuple #[.slice none 0 0, .bool false]) ∧ Below w.heap.size w w')
theorem take_range (n k : Nat) (h : k ≤ n) : (List.range n).take k = List.range k := by
  rw [List.take_range]; congr 1; omega
set_option maxHeartbeats 3200000 in
theorem specCliques_any (A : Option Addr) (n c : Nat) (rs : List Nat) (w : World) (h : Rd w A n (ints rs)) (hn : n ≤ 24) (hr : ∀ i, rs.getD i 0 < 2 ^ n) :
    Calls Tryd.prog 60 #[.slice A n c] w (SpecFam w (cliqM rs)) := by
  have hlen : rs.length = n := by have := h.1; rw [ints_len] at this; exact this
  have hmu := mutM_lt rs n hlen hr
  have hcv := convM_lt rs n hlen
  have HL := Lib.hid hlen
  have HCM : Hid (cliqM rs = famM (fitC (mutM rs)) (List.range n)) := Lib.hid (by unfold cliqM; rw [hlen])
  have HMU : Hid (∀ k, k < n → (mutM rs).getD k 0 = (convM rs).getD k 0 &&& rs.getD k 0) := Lib.hid (fun k hk => andM_at rs (convM rs) k (by omega))
  clear hlen
  obtain ⟨i0, hi, hz0, hz1, hz2⟩ := info_parts info_int
  go_enter Tryd.func60, Tryd.ntmps60
  go_wp2_with fail
  refine (specConverse_any A n c rs _ h hn hr).mono ?_
  rintro e w1 ⟨A1, c1, rfl, hob, hb1⟩
  go_wp2_with fail
  go_loopw [5, 6] (fun v q wr => ∃ (k : Nat) (A5 : Option Addr) (c5 : Nat), k ≤ n ∧ q = .int .i64 k ∧ v = .slice A5 (famM (fitC (mutM rs)) (List.range k)).length c5 ∧ Own 2 wr w1.heap.size A5 (famM (fitC (mutM rs)) (List.range k)).length c5 (ints (famM (fitC (mutM rs)) (List.range k))) ∧ Own 2 wr w.heap.size A1 n c1 (ints (convM rs)) ∧ Below w.heap.size w wr ∧ w1.heap.size ≤ wr.heap.size ∧ (famM (fitC (mutM rs)) (List.range k)).length ≤ 4096) (fun _ q _ => n - (intOf q).toNat)
  case atStart => exact ⟨0, _, 1, Nat.zero_le _, rfl, rfl, World.ownsRow_lit w1 #[.int .i64 0] 1 (Nat.le_refl _) (by unfold maxLen; omega) rfl, World.ownsRow.alloc hob _, hb1.alloc hb1.size _, by simp, by show 1 ≤ 4096; omega⟩
  case round =>
    have HB1 := Lib.hid (fun q hq => (hob.lt q hq).2)
    have HW1 := Lib.hid hb1.size
    clear hob hb1
    obtain ⟨k, A5, c5, hk, rfl, rfl, ho, hob, hb, hsz, hle⟩ := hrel
    by_cases hlt : k < n
    · obtain ⟨b, off, x, rfl, hbs, hx, hcx⟩ := (h.below hb).at_ hlt
      have hx2 := ints_getD rs k (by rw [HL.out]; exact hlt)
      rw [hx2] at hx
      injection hx with hx
      subst hx
      obtain ⟨b2, off2, x2, rfl, hbs2, hy, hcy⟩ := hob.rd.at_ hlt
      have hy2 := ints_getD (convM rs) k (by rw [convM_len, HL.out]; exact hlt)
      rw [hy2] at hy
      injection hy with hy
      subst hy
      have hm1 := lt63 hn (hr k)
      have hm2 := lt63 hn (hcv k)
      have hand := i64_and_nat _ _ hm1 hm2
      have hnear : rs.getD k 0 &&& (convM rs).getD k 0 = (mutM rs).getD k 0 := by rw [HMU.out k hlt, Nat.and_comm]
      rw [hnear] at hand
      have hk62 : k ≤ 62 := by omega
      have hU63 := lt63 hn (hmu k)
      have hnext : famM (fitC (mutM rs)) (List.range (k + 1)) = famStep (fun s => fitC (mutM rs) s k) (2 ^ k) (famM (fitC (mutM rs)) (List.range k)) := by rw [List.range_succ, famM_snoc]
      have hfl := famM_lt (fitC (mutM rs)) (List.range k) 24 (fun q hq => by have := List.mem_range.1 hq; omega)
      have hfit : ∀ s, s < 16777216 → fitC (mutM rs) s k = decide (s ||| (mutM rs).getD k 0 = (mutM rs).getD k 0) := fun s hs => sub_or s _ (by omega) hU63
      obtain ⟨fs, hfs⟩ : ∃ fs, fs = famM (fitC (mutM rs)) (List.range k) := ⟨_, rfl⟩
      rw [← hfs] at ho hle hnext hfl ⊢
      obtain ⟨L, hL⟩ : ∃ L, L = fs.length := ⟨_, rfl⟩
      rw [← hL] at ho hle ⊢
      obtain ⟨X, hX⟩ : ∃ X, X = rs.getD k 0 := ⟨_, rfl⟩
      obtain ⟨Y, hY⟩ : ∃ Y, Y = (convM rs).getD k 0 := ⟨_, rfl⟩
      obtain ⟨U, hU⟩ : ∃ U, U = (mutM rs).getD k 0 := ⟨_, rfl⟩
      rw [← hX, ← hY, ← hU] at hand
      rw [← hX] at hcx
      rw [← hY] at hcy
      rw [← hU] at hU63 hfit
      have hstep : ∃ p : Nat → Bool, p = fun s => fitC (mutM rs) s k := ⟨_, rfl⟩
      obtain ⟨p, hp⟩ := hstep
      have hpf : ∀ s, s < 16777216 → p s = decide (s ||| U = U) := fun s hs => by rw [hp]; exact hfit s hs
      rw [← hp] at hnext
      have HNX := Lib.hid hnext
      have HLL := Lib.hid hL
      have HFL := Lib.hid hfl
      have HPF := Lib.hid hpf
      have ho0 : Own 2 wr w1.heap.size A5 (famPart p (2 ^ k) fs 0).length c5 (ints (famPart p (2 ^ k) fs 0)) := by rw [famPart_zero, ← hL]; exact ho
      have HST : Hid (Value.slice A5 L c5 = .slice A5 (famPart p (2 ^ k) fs 0).length c5) := Lib.hid (by rw [famPart_zero, ← hL])
      have HPL := Lib.hid (famPart_le p (2 ^ k) fs)
      clear hx2 hy2 hm1 hm2 hnear hnext hfl hfit hfs hL hX hY hU hp hpf ho
      obtain ⟨wo, rfl⟩ : ∃ wo : World, wo = wr := ⟨_, rfl⟩
      go_wp2_with fail
      go_quiet (fail)
      go_wp2_with fail
      have hbq : Below w.heap.size w (wo.drewN 0) := hb
      go_loopw [5, 8] (fun v q wr => ∃ (t : Nat) (A6 : Option Addr) (c6 : Nat), t ≤ L ∧ q = .int .i64 t ∧ v = .slice A6 (famPart p (2 ^ k) fs t).length c6 ∧ Own 2 wr w1.heap.size A6 (famPart p (2 ^ k) fs t).length c6 (ints (famPart p (2 ^ k) fs t)) ∧ Own 2 wr w.heap.size (some ⟨b2, off2, none⟩) n c1 (ints (convM rs)) ∧ Below w.heap.size w wr ∧ w1.heap.size ≤ wr.heap.size ∧ (famPart p (2 ^ k) fs t).length ≤ 4096 + t) (fun _ q _ => L - (intOf q).toNat)
      case atStart => exact ⟨0, A5, c5, Nat.zero_le _, rfl, HST.out, ho0, hob, below_drewN hb _, hsz, by rw [famPart_zero, ← HLL.out]; omega⟩
      case round =>
        clear ho0 hob hb hsz hbq hcx hcy
        obtain ⟨t, A6, c6, ht, rfl, rfl, ho, hob, hb, hsz, hle6⟩ := hrel
        by_cases hlt2 : t < L
        · have htc : t < (famPart p (2 ^ k) fs t).length := by
            have h1 := congrArg List.length (famPart_take p (2 ^ k) fs t)
            rw [List.length_take] at h1
            have := HLL.out; omega
          obtain ⟨s, hss⟩ : ∃ s, fs[t]? = some s := ⟨_, List.getElem?_eq_getElem (by have := HLL.out; omega)⟩
          have hcs : (famPart p (2 ^ k) fs t)[t]? = some s := by
            unfold famPart; rw [List.getElem?_append_left (by have := HLL.out; omega)]; exact hss
          obtain ⟨g6, rfl, hg6B, hg6lt⟩ := ho.form (by omega)
          have hcell := ho.cell (ints_at hcs)
          have hs24 := HFL.out s (List.mem_of_getElem? hss)
          have hs24' : s < 16777216 := by omega
          have hor := or63 s U (by omega) hU63
          have hps := HPF.out s hs24'
          by_cases hsu : s ||| U = U
          · have hyes := famPart_yes p (2 ^ k) fs t s hss (by rw [hps]; exact decide_eq_true hsu)
            have HYES := Lib.hid hyes
            obtain ⟨cur, hcur⟩ : ∃ cur, cur = famPart p (2 ^ k) fs t := ⟨_, rfl⟩
            rw [← hcur] at ho hle6 htc HYES ⊢
            obtain ⟨L6, hL6⟩ : ∃ L6, L6 = cur.length := ⟨_, rfl⟩
            rw [← hL6] at ho hle6 htc ⊢
            have HL6 := Lib.hid hL6
            have HLN : Hid ((famPart p (2 ^ k) fs (t + 1)).length = L6 + 1) := Lib.hid (by rw [HYES.out, List.length_append, ← HL6.out]; rfl)
            have hs63 : s < 9223372036854775808 := by omega
            have horp := or_p2 s k hs63 hk62
            have hmlx : L6 + 1 ≤ maxLen := by unfold maxLen; omega
            have hby2 : (L6 + 1) * 8 ≤ 140737488355328 := by omega
            rw [hsu] at hor
            clear hyes hss hcs hcur hL6 hps hsu
            go_wp2_with fail
            go_region_law (first | (refine step_append_lies _ (by rfl) _ _ _ (by rfl) w1.heap.size 2 i0 _ 1 8 Tryd.underlying22 hi hz0 hz1 hz2 rfl (by omega) (.slice (some ⟨g6, 0, none⟩) L6 c6) L6 ((ints cur).map (Value.int .i64)) (by rfl) ((World.ownsRow.alloc ho _).drew) ⟨wr.heap.size, 0, none⟩ 1 1 [.int .i64 ((s ||| 2 ^ k : Nat) : Int)] (by rfl) (by rfl) (World.news_of_block (cs := #[.int .i64 ((s ||| 2 ^ k : Nat) : Int)]) (t := 2) (fr := (0, 0)) (heap_alloc_new wr _)) (by simp [Value.oneCell']) (by omega) hmlx hby2 (by simp; omega) (wr.heap.size + 1) (by simp) ?_; intro g cap w2 hown hg hat hlt9) | (go_simp; go_at_call 55; refine (one_same k hk62 _).mono ?_; rintro e w' ⟨rfl, rfl⟩))
            all_goals
              rw [ints_snoc_map, ← HYES.out] at hown
              have hb2 : Below w.heap.size w w2 := (below_drewN (hb.alloc hb.size _) 1).grown hg (by have := hb.size; simp; omega) (fun q hq => by have h9 := (World.ownsRow.lt ho q hq).1; have := HW1.out; omega)
              have hob2 : Own 2 w2 w.heap.size (some ⟨b2, off2, none⟩) n c1 (ints (convM rs)) := by
                refine Own.apart (World.ownsRow.drew (World.ownsRow.alloc hob _)) hg (fun q hq e9 => ?_)
                have h9 := (World.ownsRow.lt ho q e9).1
                have h8 := HB1.out q hq
                omega
              have hsz2 : w1.heap.size ≤ w2.heap.size := by have := hg.size; simp at this; omega
              rw [← HLN.out] at hown ⊢
              clear hg hat hlt9 hob ho hb
              go_wp2_with fail
              go_roundw
              case rel => exact ⟨t + 1, _, cap, by omega, by go_num, rfl, hown, hob2, hb2, hsz2, by rw [HLN.out]; omega⟩
              case measure => simp [intOf]; omega
          · have hno := famPart_no p (2 ^ k) fs t s hss (by rw [hps]; exact decide_eq_false hsu)
            have HNO := Lib.hid hno
            obtain ⟨V, hV⟩ : ∃ V, V = s ||| U := ⟨_, rfl⟩
            rw [← hV] at hor hsu
            clear hno hss hcs hps hV
            go_wp2_with fail
            go_roundw
            case rel => exact ⟨t + 1, _, c6, by omega, by go_num, by rw [HNO.out], by rw [HNO.out]; exact ho, hob, hb, hsz, by rw [HNO.out]; omega⟩
            case measure => simp [intOf]; omega
        · obtain rfl : t = L := by omega
          have hfull : famPart p (2 ^ k) fs t = famM (fitC (mutM rs)) (List.range (k + 1)) := by have h9 := HLL.out; rw [h9, famPart_full, ← HNX.out]
          rw [hfull] at ho hle6 ⊢
          obtain ⟨M, hM⟩ : ∃ M, M = (famM (fitC (mutM rs)) (List.range (k + 1))).length := ⟨_, rfl⟩
          have HM := Lib.hid hM
          rw [← hM] at ho hle6 ⊢
          clear hfull hM
          by_cases hbig : 4096 < M
          · go_wp2_with fail
            go_ret2
            refine .inr ⟨?_, rfl, hb⟩
            rw [HCM.out]
            have h9 := famM_take_le (fitC (mutM rs)) (List.range n) (k + 1)
            rw [take_range n (k + 1) hlt, ← HM.out] at h9
            omega
          · go_wp2_with fail
            go_roundw
            case rel => exact ⟨k + 1, A6, c6, by omega, by go_num, by rw [HM.out], by rw [← HM.out]; exact ho, hob, hb, hsz, by rw [← HM.out]; omega⟩
            case measure => simp [intOf]; omega
    · obtain rfl : k = n := by omega
      have hle2 := Lib.hid hle
      go_wp2
      go_ret2
      show SpecFam w (cliqM rs) _ _
      rw [HCM.out]
      exact .inl ⟨hle2.out, A5, c5, rfl, ho.mono HW1.out, hb⟩
theorem specCliquesOf (A : Option Addr) (n c : Nat) (xs : List Int) (w : World) (h : Rd w A n xs) (hn : n ≤ 9223372036854775807) :
    Calls Tryd.prog 28 #[.slice A n c] w (AnsPost w (cliqAns xs).1 (cliqAns xs).2) := by
  cases hr : relB xs
  · have e0 : cliqAns xs = ([], 1) := by unfold cliqAns; rw [if_neg (by rw [hr]; decide)]
    rw [e0]
    have HR := Lib.hid hr
    clear hr e0
    go_enter Tryd.func28, Tryd.ntmps28
    go_wp2_with fail
    refine (specIsRelation_any _ _ _ _ _ h hn).mono ?_
    rintro e w1 ⟨rfl, hb1⟩
    rw [HR.out]
    go_wp2_with fail
    go_ret2
    exact ans_no 1 hb1
  · obtain ⟨rs, rfl, hlen, h24, hrs⟩ := rel_nats xs n h.1 hr
    have e0 : cliqAns (ints rs) = famAns (cliqM rs) := by unfold cliqAns; rw [if_pos hr, nats_ints]
    rw [e0]
    have HR := Lib.hid hr
    clear hr e0 hlen
    go_enter Tryd.func28, Tryd.ntmps28
    go_wp2_with fail
    refine (specIsRelation_any _ _ _ _ _ h hn).mono ?_
    rintro e w1 ⟨rfl, hb1⟩
    rw [HR.out]
    have h1 := h.below hb1
    go_wp2_with fail
    refine (specCliques_any A n c rs _ h1 h24 hrs).mono ?_
    rintro e w2 hp
    rcases hp with ⟨hle, A2, c2, rfl, ho2, hb2⟩ | ⟨hgt, rfl, hb2⟩
    · have hans : famAns (cliqM rs) = (ints (cliqM rs), 0) := by unfold famAns; rw [if_pos hle]
      have HA := Lib.hid hans
      have hb12 := hb1.trans (hb2.mono hb1.size)
      have ho2' := ho2.mono hb1.size
      clear hans hle
      go_wp2_with fail
      go_ret2
      show AnsPost w (famAns (cliqM rs)).1 (famAns (cliqM rs)).2 _ _
      rw [HA.out]
      exact ans_yes (ints_len _) ho2' hb12
    · have hans : famAns (cliqM rs) = ([], 3) := by unfold famAns; rw [if_neg (by omega)]
      have HA := Lib.hid hans
      have hb12 := hb1.trans (hb2.mono hb1.size)
      clear hans hgt
      go_wp2_with fail
      go_ret2
      show AnsPost w (famAns (cliqM rs)).1 (famAns (cliqM rs)).2 _ _
      rw [HA.out]
      exact ans_no 3 hb12
end Go.Proofs.YtfcipdojgkamgaaDoor
