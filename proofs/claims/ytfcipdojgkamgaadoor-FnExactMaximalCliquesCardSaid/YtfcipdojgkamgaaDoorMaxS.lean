/-
  The maximal cliques of a relation: the model's side.
-/
import Derived.Test.YtfcipdojgkamgaaDoorMaxC
import Derived.Test.YtfcipdojgkamgaaDoorCliqS
namespace Go.Proofs.YtfcipdojgkamgaaDoor
open Go.RowKit
set_option linter.unusedVariables false
set_option maxRecDepth 100000

def mostM (us : List Nat) (c k : Nat) : Bool := (List.range k).all fun q => c.testBit q || !decide (c ||| us.getD q 0 = us.getD q 0)
theorem mostM_succ (us : List Nat) (c k : Nat) : mostM us c (k + 1) = (mostM us c k && (c.testBit k || !decide (c ||| us.getD k 0 = us.getD k 0))) := by
  unfold mostM; rw [List.range_succ, List.all_append]; simp
theorem max_eq (rs : List Nat) (n : Nat) (hl : rs.length = n) (hn : n ≤ 24) (hr : ∀ i, rs.getD i 0 < 2 ^ n) (c : Nat) (hc : c < 2 ^ n) : mostM (mutM rs) c n = maxC (mutM rs) n c := by
  have hp := p24 n hn
  have hp0 := p2_pos n
  have hx := comM_le (mutM rs) n (bitsOf c)
  have hsub : ∀ q, q < n → (c ||| (mutM rs).getD q 0 = (mutM rs).getD q 0 ↔ ∀ k, k ∈ bitsOf c → ((mutM rs).getD k 0).testBit q = true) := by
    intro q hq
    have h1 := sub_or c ((mutM rs).getD q 0) (by omega) (lt63 hn (mutM_lt rs n hl hr q))
    have h2 := dif_zero c ((mutM rs).getD q 0) (by omega) (lt63 hn (mutM_lt rs n hl hr q))
    constructor
    · intro h k hk
      have hkn := bitsOf_lt c n k hc hk
      rw [decide_eq_true h, beq_iff_eq] at h1
      have h3 := h2.1 h1 k ((bitsOf_mem c k).1 hk).2
      have h4 := (mutM_bit rs n hl q k hq).1 h3
      exact (mutM_bit rs n hl k q hkn).2 ⟨hq, h4.2.2, h4.2.1⟩
    · intro h
      have h3 : dif c ((mutM rs).getD q 0) = 0 := by
        refine h2.2 fun k hk => ?_
        have hkn : k < n := by
          rcases Nat.lt_or_ge k n with h5 | h5
          · exact h5
          · rw [Nat.testBit_lt_two_pow (Nat.lt_of_lt_of_le hc (Nat.pow_le_pow_right (by decide) h5))] at hk
            cases hk
        have h4 := (mutM_bit rs n hl k q hkn).1 (h k ((bitsOf_mem c k).2 ⟨by omega, hk⟩))
        exact (mutM_bit rs n hl q k hq).2 ⟨hkn, h4.2.2, h4.2.1⟩
      rw [h3] at h1
      exact of_decide_eq_true h1.symm
  rw [Bool.eq_iff_iff]
  unfold mostM maxC
  rw [List.all_eq_true, beq_iff_eq, dif_zero _ _ (by omega) (by omega)]
  constructor
  · intro h b hb
    obtain ⟨h1, h2⟩ := (comM_bit _ _ _ _).1 hb
    have h3 := h b (List.mem_range.2 h1)
    rw [Bool.or_eq_true] at h3
    rcases h3 with h3 | h3
    · exact h3
    · rw [decide_eq_true ((hsub b h1).2 h2)] at h3
      cases h3
  · intro h q hq
    have hq2 := List.mem_range.1 hq
    rw [Bool.or_eq_true]
    by_cases h1 : c.testBit q = true
    · exact .inl h1
    · refine .inr ?_
      have h2 : ¬ (c ||| (mutM rs).getD q 0 = (mutM rs).getD q 0) := fun e => h1 (h q ((comM_bit _ _ _ _).2 ⟨hq2, (hsub q hq2).1 e⟩))
      rw [decide_eq_false h2]; rfl
set_option maxHeartbeats 3200000 in
theorem specMaximal_yes (A : Option Addr) (n c : Nat) (rs : List Nat) (w : World) (h : Rd w A n (ints rs)) (hn : n ≤ 24) (hr : ∀ i, rs.getD i 0 < 2 ^ n) (hrel : relB (ints rs) = true) :
    Calls Tryd.prog 30 #[.slice A n c] w (AnsPost w (famAns (maxF rs)).1 (famAns (maxF rs)).2) := by
  have hlen : rs.length = n := by have := h.1; rw [ints_len] at this; exact this
  have e0 : cliqAns (ints rs) = famAns (cliqM rs) := by unfold cliqAns; rw [if_pos hrel, nats_ints]
  have hmu := mutM_lt rs n hlen hr
  have hcv := convM_lt rs n hlen
  have HL := Lib.hid hlen
  have HMU : Hid (∀ k, k < n → (mutM rs).getD k 0 = (convM rs).getD k 0 &&& rs.getD k 0) := Lib.hid (fun k hk => andM_at rs (convM rs) k (by omega))
  have HEQ := Lib.hid (max_eq rs n hlen hn hr)
  have HCL := Lib.hid (cliqM_lt rs n hlen)
  have hn64 : n ≤ 9223372036854775807 := by omega
  have hcall := specCliquesOf A n c (ints rs) w h hn64
  rw [e0] at hcall
  obtain ⟨i0, hi, hz0, hz1, hz2⟩ := info_parts info_int
  by_cases hle : (cliqM rs).length ≤ 4096
  · have hans : famAns (cliqM rs) = (ints (cliqM rs), 0) := by unfold famAns; rw [if_pos hle]
    have hml : (maxM rs).length ≤ 4096 := Nat.le_trans (maxM_len rs) hle
    have hans2 : famAns (maxF rs) = (ints (maxM rs), 0) := by unfold famAns maxF; rw [if_pos hle, if_pos hml]
    rw [hans] at hcall
    rw [hans2]
    obtain ⟨ds, hds⟩ : ∃ ds, ds = cliqM rs := ⟨_, rfl⟩
    obtain ⟨us, hus⟩ : ∃ us, us = mutM rs := ⟨_, rfl⟩
    have hmm : maxM rs = ds.filter (maxC us n) := by unfold maxM; rw [hds, hus, hlen]
    rw [hmm]
    rw [← hds] at hcall hle HCL
    rw [← hus] at hmu HMU HEQ
    have HC := Lib.hid hcall
    obtain ⟨L, hL⟩ : ∃ L, L = ds.length := ⟨_, rfl⟩
    have HLD := Lib.hid hL
    rw [← hL] at hle
    clear hcall hans hans2 hml hds hus hmm hlen hL e0 hrel
    go_enter Tryd.func30, Tryd.ntmps30
    go_wp2_with fail
    refine HC.out.mono ?_
    rintro e w1 ⟨A1, c1, rfl, ho1, hb1⟩
    rw [ints_len, ← HLD.out] at ho1 ⊢
    have h1 := h.below hb1
    go_wp2_with fail
    refine (specConverse_any A n c rs _ h1 hn hr).mono ?_
    rintro e w2 ⟨A2, c2, rfl, ho2, hb2⟩
    have hb02 := hb1.trans (hb2.mono hb1.size)
    have ho1b := ho1.below hb2
    have h2 := h.below hb02
    obtain ⟨w0, hw0⟩ : ∃ w0 : World, w0 = w2 := ⟨_, rfl⟩
    have HB02 := Lib.hid hb02
    have HS2 := Lib.hid hb02.size
    have HA2 := Lib.hid (fun q hq => (ho2.lt q hq).2)
    have HA1b := Lib.hid (fun q hq => (ho1b.lt q hq).2)
    rw [← hw0] at HB02 HS2 HA2 HA1b
    have HR2 := Lib.hid h2
    rw [← hw0] at HR2
    clear ho1 hb1 hb2 hb02 h1 h2 h
    go_wp2_with fail
    go_loopw [7, 8] (fun v q wr => ∃ (t : Nat) (A7 : Option Addr) (c7 : Nat), t ≤ L ∧ q = .int .i64 t ∧ v = .slice A7 ((ds.take t).filter (maxC us n)).length c7 ∧ Own 2 wr w0.heap.size A7 ((ds.take t).filter (maxC us n)).length c7 (ints ((ds.take t).filter (maxC us n))) ∧ Own 2 wr w.heap.size A1 L c1 (ints ds) ∧ Own 2 wr w1.heap.size A2 n c2 (ints (convM rs)) ∧ Below w0.heap.size w0 wr) (fun _ q _ => L - (intOf q).toNat)
    case atStart =>
      subst hw0
      exact ⟨0, _, 0, Nat.zero_le _, rfl, rfl, World.ownsRow_lit w0 #[] 0 (Nat.le_refl _) (by unfold maxLen; omega) rfl, World.ownsRow.alloc ho1b _, World.ownsRow.alloc ho2 _, (Below.refl _ _).alloc (Nat.le_refl _) _⟩
    case round =>
      clear ho1b ho2 hw0
      obtain ⟨t, A7, c7, ht, rfl, rfl, ho, hod, hou, hb⟩ := hrel
      by_cases hlt : t < L
      · obtain ⟨s, hss⟩ : ∃ s, ds[t]? = some s := ⟨_, List.getElem?_eq_getElem (by have := HLD.out; omega)⟩
        have hs := HCL.out s (List.mem_of_getElem? hss)
        have hs24 : s < 16777216 := by have := p24 n hn; omega
        have hs63 : s < 9223372036854775808 := by omega
        obtain ⟨g1, rfl, hg1B, hg1lt⟩ := hod.form (by omega)
        have hcell := hod.cell (ints_at hss)
        have hsn := filter_snoc (maxC us n) ds t s hss
        have hcl : ((ds.take t).filter (maxC us n)).length ≤ t := Nat.le_trans (List.length_filter_le ..) (by rw [List.length_take]; omega)
        obtain ⟨cur, hcur⟩ : ∃ cur, cur = (ds.take t).filter (maxC us n) := ⟨_, rfl⟩
        rw [← hcur] at ho hsn hcl ⊢
        obtain ⟨L7, hL7⟩ : ∃ L7, L7 = cur.length := ⟨_, rfl⟩
        rw [← hL7] at ho hcl ⊢
        have HMX := Lib.hid (HEQ.out s hs)
        have HSN := Lib.hid hsn
        have HL7 := Lib.hid hL7
        have HSS := Lib.hid hss
        obtain ⟨wo, hwo⟩ : ∃ wo : World, wo = wr := ⟨_, rfl⟩
        clear hss hsn hcur hL7 hs hcell
        go_wp2_with fail
        go_loopw [9, 10] (fun v q wx => ∃ (k : Nat), k ≤ n ∧ q = .int .i64 k ∧ v = .bool (mostM us s k) ∧ Own 2 wx w0.heap.size A7 L7 c7 (ints cur) ∧ Own 2 wx w.heap.size (some ⟨g1, 0, none⟩) L c1 (ints ds) ∧ Own 2 wx w1.heap.size A2 n c2 (ints (convM rs)) ∧ Below w0.heap.size w0 wx) (fun _ q _ => n - (intOf q).toNat)
        case atStart => exact ⟨0, Nat.zero_le _, rfl, rfl, ho, hod, hou, hb⟩
        case round =>
          clear ho hod hou hb hwo
          obtain ⟨k, hk, rfl, rfl, ho, hod, hou, hb⟩ := hrel
          have hcell := hod.cell (ints_at HSS.out)
          by_cases hltk : k < n
          · obtain ⟨b, off, x, rfl, hbs, hx, hcx⟩ := (HR2.out.below hb).at_ hltk
            have hx2 := ints_getD rs k (by rw [HL.out]; exact hltk)
            rw [hx2] at hx
            injection hx with hx
            subst hx
            obtain ⟨b2, off2, x2, rfl, hbs2, hy, hcy⟩ := hou.rd.at_ hltk
            have hy2 := ints_getD (convM rs) k (by rw [convM_len, HL.out]; exact hltk)
            rw [hy2] at hy
            injection hy with hy
            subst hy
            have hm1 := lt63 hn (hr k)
            have hm2 := lt63 hn (hcv k)
            have hand := i64_and_nat _ _ hm1 hm2
            have hnear : rs.getD k 0 &&& (convM rs).getD k 0 = us.getD k 0 := by rw [HMU.out k hltk, Nat.and_comm]
            rw [hnear] at hand
            have hk62 : k ≤ 62 := by omega
            have hU63 := lt63 hn (hmu k)
            have hms := mostM_succ us s k
            obtain ⟨X, hX⟩ : ∃ X, X = rs.getD k 0 := ⟨_, rfl⟩
            obtain ⟨Y, hY⟩ : ∃ Y, Y = (convM rs).getD k 0 := ⟨_, rfl⟩
            obtain ⟨U, hU⟩ : ∃ U, U = us.getD k 0 := ⟨_, rfl⟩
            obtain ⟨bo, hbo⟩ : ∃ bo, bo = mostM us s k := ⟨_, rfl⟩
            obtain ⟨bn, hbn⟩ : ∃ bn, bn = mostM us s (k + 1) := ⟨_, rfl⟩
            rw [← hX, ← hY, ← hU] at hand
            rw [← hX] at hcx
            rw [← hY] at hcy
            rw [← hU] at hU63 hms
            rw [← hbo] at hms ⊢
            rw [← hbn] at hms
            have HBN := Lib.hid hbn
            have hor := or63 s U hs63 hU63
            obtain ⟨V, hV⟩ : ∃ V, V = s ||| U := ⟨_, rfl⟩
            rw [← hV] at hor hms
            have HMSC := Lib.hid hms
            clear hx2 hy2 hm1 hm2 hnear hX hY hU hbo hbn hV hms
            go_wp2_with fail
            go_quiet (fail)
            cases hbit : s.testBit k
            · have HB := Lib.hid hbit
              clear hbit
              by_cases hvu : V = U
              · have hn2 : bn = false := by rw [HMSC.out, HB.out, decide_eq_true hvu]; simp
                have HN2 := Lib.hid hn2
                subst hvu
                clear hn2
                go_wp2_with (go_at_call 53; refine (bit_any s k hs63 hk62 _).mono ?_; rintro e w' ⟨rfl, rfl⟩; rw [HB.out])
                go_roundw
                case rel => exact ⟨k + 1, by omega, by go_num, by rw [← HBN.out, HN2.out], ho, hod, hou, below_drewN hb _⟩
                case measure => simp [intOf]; omega
              · have hn2 : bn = bo := by rw [HMSC.out, HB.out, decide_eq_false hvu]; simp
                have HN2 := Lib.hid hn2
                clear hn2
                go_wp2_with (go_at_call 53; refine (bit_any s k hs63 hk62 _).mono ?_; rintro e w' ⟨rfl, rfl⟩; rw [HB.out])
                go_roundw
                case rel => exact ⟨k + 1, by omega, by go_num, by rw [← HBN.out, HN2.out], ho, hod, hou, below_drewN hb _⟩
                case measure => simp [intOf]; omega
            · have HB := Lib.hid hbit
              have hn2 : bn = bo := by rw [HMSC.out, HB.out]; simp
              have HN2 := Lib.hid hn2
              clear hbit hn2
              go_wp2_with (go_at_call 53; refine (bit_any s k hs63 hk62 _).mono ?_; rintro e w' ⟨rfl, rfl⟩; rw [HB.out])
              go_roundw
              case rel => exact ⟨k + 1, by omega, by go_num, by rw [← HBN.out, HN2.out], ho, hod, hou, below_drewN hb _⟩
              case measure => simp [intOf]; omega
          · obtain rfl : k = n := by omega
            rw [HMX.out]
            cases hmx : maxC us k s
            · have hno : (ds.take (t + 1)).filter (maxC us k) = cur := by rw [HSN.out, hmx]; simp
              have HNO := Lib.hid hno
              clear hno hmx
              go_wp2_with fail
              go_roundw
              case rel => exact ⟨t + 1, A7, c7, by omega, by go_num, by rw [HNO.out, ← HL7.out], by rw [HNO.out, ← HL7.out]; exact ho, hod, hou, hb⟩
              case measure => simp [intOf]; omega
            · have hyes : (ds.take (t + 1)).filter (maxC us k) = cur ++ [s] := by rw [HSN.out, hmx]; simp
              have HYES := Lib.hid hyes
              have hmlx : L7 + 1 ≤ maxLen := by unfold maxLen; omega
              have hby2 : (L7 + 1) * 8 ≤ 140737488355328 := by omega
              clear hyes hmx
              go_wp2_with (at_builtin; refine wpList_append_own _ rfl _ _ 22 rfl w0.heap.size 2 i0 (.int .i64 0) 1 8 Tryd.underlying22 hi hz0 hz1 hz2 rfl (by decide) (.slice A7 L7 c7) L7 ((ints cur).map (Value.int .i64)) rfl (World.ownsRow.alloc ho _) ⟨wr.heap.size, 0, none⟩ 1 1 [.int .i64 (s : Int)] rfl rfl ?s1 ?s2 hmlx hby2 ?s5 ?_)
              case s1 => exact cell_one_new _ _ _
              case s2 => intro u hu; simp at hu; subst hu; rfl
              case s5 => have := hb.size; simp; omega
              intro v' w4 hown hg _
              rw [ints_snoc_map, ← HYES.out] at hown
              have hb4 : Below w0.heap.size w0 w4 := (hb.alloc hb.size _).grown hg (by have := hb.size; simp; omega) (fun q hq => (World.ownsRow.lt ho q hq).1)
              have hod4 : Own 2 w4 w.heap.size (some ⟨g1, 0, none⟩) L c1 (ints ds) := by
                refine Own.apart (World.ownsRow.alloc hod _) hg (fun q hq e => ?_)
                have h9 := (World.ownsRow.lt ho q e).1
                have h8 := HA1b.out q hq
                omega
              have hou4 : Own 2 w4 w1.heap.size A2 k c2 (ints (convM rs)) := by
                refine Own.apart (World.ownsRow.alloc hou _) hg (fun q hq e => ?_)
                have h9 := (World.ownsRow.lt ho q e).1
                have h8 := HA2.out q hq
                omega
              obtain ⟨A8, c8, hv, ho8⟩ := own_shape hown
              have hl8 : L7 + 1 = ((ds.take (t + 1)).filter (maxC us k)).length := by rw [HYES.out, List.length_append, ← HL7.out]; rfl
              rw [hl8] at hv ho8
              rw [hv]
              clear hg hown hv hl8 hod hou ho hb
              go_wp2
              go_roundw
              case rel => exact ⟨t + 1, A8, c8, by omega, by go_num, rfl, ho8, hod4, hou4, hb4⟩
              case measure => simp [intOf]; omega
      · obtain rfl : t = L := by omega
        have htd : ds.take t = ds := by rw [HLD.out]; exact List.take_length
        rw [htd] at ho ⊢
        have hbb := HB02.out.trans (hb.mono HS2.out)
        have ho' := ho.mono HS2.out
        clear ho hod hou hb htd
        go_wp2
        go_ret2
        exact ans_yes (ints_len _) ho' hbb
  · have hans : famAns (cliqM rs) = ([], 3) := by unfold famAns; rw [if_neg hle]
    have hans2 : famAns (maxF rs) = ([], 3) := by unfold famAns maxF; rw [if_neg hle, if_neg hle]
    rw [hans] at hcall
    rw [hans2]
    have HC := Lib.hid hcall
    clear hcall hans hans2 e0 hle
    go_enter Tryd.func30, Tryd.ntmps30
    go_wp2_with fail
    refine HC.out.mono ?_
    rintro e w1 ⟨A1, c1, rfl, ho1, hb1⟩
    go_wp2_with fail
    go_ret2
    exact ans_no 3 hb1
theorem specMaximalCliques (A : Option Addr) (n c : Nat) (xs : List Int) (w : World) (h : Rd w A n xs) (hn : n ≤ 9223372036854775807) :
    Calls Tryd.prog 30 #[.slice A n c] w (AnsPost w (maxAns xs).1 (maxAns xs).2) := by
  cases hr : relB xs
  · have e0 : maxAns xs = ([], 1) := by unfold maxAns; rw [if_neg (by rw [hr]; decide)]
    have e1 : cliqAns xs = ([], 1) := by unfold cliqAns; rw [if_neg (by rw [hr]; decide)]
    rw [e0]
    have hcall := specCliquesOf A n c xs w h hn
    rw [e1] at hcall
    have HC := Lib.hid hcall
    clear hr e0 e1 hcall
    go_enter Tryd.func30, Tryd.ntmps30
    go_wp2_with fail
    refine HC.out.mono ?_
    rintro e w1 ⟨A1, c1, rfl, ho1, hb1⟩
    go_wp2_with fail
    go_ret2
    exact ans_no 1 hb1
  · obtain ⟨rs, rfl, hlen, h24, hrs⟩ := rel_nats xs n h.1 hr
    have e0 : maxAns (ints rs) = famAns (maxF rs) := by unfold maxAns; rw [if_pos hr, nats_ints]
    rw [e0]
    exact specMaximal_yes A n c rs w h h24 hrs hr
end Go.Proofs.YtfcipdojgkamgaaDoor
