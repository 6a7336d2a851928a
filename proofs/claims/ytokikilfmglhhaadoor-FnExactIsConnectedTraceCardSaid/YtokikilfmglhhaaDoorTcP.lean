/-
  The components of a trace: the program's side.
-/
import Derived.Test.YtokikilfmglhhaaDoorTcM
import Derived.Test.YtokikilfmglhhaaDoorPpr
namespace Go.Proofs.YtokikilfmglhhaaDoor
open Go Go.RowKit
set_option linter.unusedVariables false
set_option maxRecDepth 100000

theorem take_mem (ms : List Nat) (k i : Nat) (hk : k < ms.length) : i ∈ ms.take (k + 1) ↔ i ∈ ms.take k ∨ i = ms.getD k 0 := by
  rw [List.take_add_one, List.getElem?_eq_getElem hk, List.mem_append, List.getD_eq_getElem?_getD, List.getElem?_eq_getElem hk]
  simp
theorem ext_getD' (l m : List Nat) (h : l.length = m.length) (h2 : ∀ k, k < l.length → l.getD k 0 = m.getD k 0) : l = m := by
  apply List.ext_getElem h
  intro i h1 h3
  have := h2 i h1
  rw [List.getD_eq_getElem?_getD, List.getD_eq_getElem?_getD, List.getElem?_eq_getElem h1, List.getElem?_eq_getElem h3] at this
  exact this
theorem compL_lt' (us : List Nat) (n : Nat) (hu : ∀ i, us.getD i 0 < 2 ^ n) : ∀ t, t ≤ n → ∀ p, p ∈ compL us n t → p < 2 ^ n
  | 0, _, p, h => by cases h
  | t + 1, ht, p, h => by
    unfold compL at h
    split at h
    · rcases List.mem_append.1 h with h1 | h1
      · exact compL_lt' us n hu t (by omega) p h1
      · rw [List.mem_singleton.1 h1]; exact reachM_lt us n t n hu (by omega)
    · exact compL_lt' us n hu t (by omega) p h
set_option maxHeartbeats 1600000 in
theorem among_any (A : Option Addr) (n c s : Nat) (rs : List Nat) (w : World) (h : Rd w A n (ints rs)) (hn : n ≤ 8) (hr : ∀ i, rs.getD i 0 < 2 ^ n) (hs : s < 2 ^ n) (hT : Tab w) :
    Calls Tryd.prog 131 #[.slice A n c, .int .i64 (s : Int)] w (MakesE 102 w n (ints (amM rs s))) := by
  obtain ⟨i0, hi, hz0, hz1, hz2⟩ := info_parts info_set
  have HL : Hid (rs.length = n) := Lib.hid (by have := h.1; rw [ints_len] at this; exact this)
  have HR := Lib.hid hr
  have hml : n ≤ maxLen := by unfold maxLen; omega
  have hby : i0.bytes * n ≤ 281474976710656 := by rw [hz2]; omega
  have hp8 : 2 ^ n ≤ 256 := Nat.pow_le_pow_right (by decide) hn
  have hs24 : s < 16777216 := by omega
  have HS := Lib.hid hs
  have hmb : (bitsOf s).length ≤ 24 := bitsOf_len s
  have HBM : Hid (∀ a, a ∈ bitsOf s ↔ a < 24 ∧ s.testBit a = true) := Lib.hid (fun a => bitsOf_mem s a)
  have HME := Lib.hid fun ww (hT : Tab ww) => members_any s hs24 ww hT
  obtain ⟨ms, hms⟩ : ∃ ms, ms = bitsOf s := ⟨_, rfl⟩
  rw [← hms] at hmb HBM HME
  obtain ⟨M, hM⟩ : ∃ M, M = ms.length := ⟨_, rfl⟩
  rw [← hM] at hmb HME
  have HM := Lib.hid hM
  clear hr hs hms hM
  go_enter Tryd.func131, Tryd.ntmps131
  go_wp2_with (first | (at_make; refine wpList_make_full _ rfl _ _ _ rfl w.heap.size 102 i0 (.int .i64 0) 1 Tryd.underlying59 hi hz0 hz1 _ _ (n : Int) (n : Int) n rfl rfl rfl rfl hby hml (Nat.le_refl _) ?_; intro w1 hown0 hg1))
  have hown := own_made hown0
  clear hown0
  have hb1 : Below w.heap.size w w1 := (Below.refl _ _).grown hg1 (Nat.le_refl _) (by simp)
  clear hg1
  refine (HME.out _ (hT.below hb1)).mono ?_
  rintro e w2 ⟨A2, c2, rfl, ho2, hb2⟩
  have hb12 := hb1.trans (hb2.mono hb1.size)
  have hown2 := hown.below hb2
  have ho2m := ho2.mono hb1.size
  have hap : ∀ q, A2.map (·.block) = some q → q ≠ w.heap.size := fun q hq => by
    have h1 := (ho2.lt q hq).1
    have h2 : w.heap.size < w1.heap.size := (hown.lt w.heap.size rfl).2
    omega
  clear hown ho2 hb1 hb2
  go_wp2_with fail
  go_loopw [14] (fun i wr => ∃ (k : Nat) (ds : List Nat), k ≤ M ∧ i = .int .i64 (k : Int) ∧ ds.length = n ∧ Own 102 wr w.heap.size (some ⟨w.heap.size, 0, none⟩) n n (ints ds) ∧ Own 2 wr w.heap.size A2 M c2 (ints ms) ∧ Below w.heap.size w wr ∧ (∀ i, i < n → ds.getD i 0 = if i ∈ ms.take k then rs.getD i 0 &&& s else 0)) (fun i _ => M - (intOf i).toNat)
  case atStart => exact ⟨0, List.replicate n 0, Nat.zero_le _, rfl, List.length_replicate, hown2, ho2m, hb12, fun i _ => by rw [replicate_getD]; simp⟩
  case round =>
    clear hown2 ho2m hb12
    obtain ⟨k, ds, hk, rfl, hcl, ho, hom, hb, hw9⟩ := hrel
    have HC := Lib.hid hcl
    have HW := Lib.hid hw9
    clear hcl hw9
    by_cases hlt : k < M
    · obtain ⟨b2, off2, x2, rfl, hbs2, hx2, hcx2⟩ := hom.rd.at_ hlt
      have hkm : k < ms.length := by rw [← HM.out]; exact hlt
      rw [ints_getD ms k hkm] at hx2
      injection hx2 with hx2
      have hmem : ms.getD k 0 ∈ ms := by rw [List.getD_eq_getElem?_getD, List.getElem?_eq_getElem hkm]; exact List.getElem_mem _
      have hsb := (HBM.out _).1 hmem
      have han : ms.getD k 0 < n := bit_lt HS.out hsb.2
      have HTK : Hid (∀ i, i ∈ ms.take (k + 1) ↔ i ∈ ms.take k ∨ i = ms.getD k 0) := Lib.hid fun i => take_mem ms k i hkm
      obtain ⟨a, ha⟩ : ∃ a, a = ms.getD k 0 := ⟨_, rfl⟩
      rw [← ha] at hx2 han HTK
      subst hx2
      obtain ⟨g, hgg, hgB, hcell, hfr, hset⟩ := own_stored ho han
      injection hgg with hgg
      injection hgg with hgg _ _
      subst hgg
      obtain ⟨b, off, y, eA, hbs, hy, hcy⟩ := (h.below hb).at_ han
      rw [ints_getD rs a (by rw [HL.out]; exact han)] at hy
      injection hy with hy
      have hrl := HR.out a
      have hand : bits .and .i64 ((rs.getD a 0 : Nat) : Int) (s : Int) = ((rs.getD a 0 &&& s : Nat) : Int) := i64_and_nat _ _ (by omega) (by omega)
      have ho4 := hset (rs.getD a 0 &&& s)
      have hb4 := hb.setCell (p := ⟨w.heap.size, a, none⟩) (Nat.le_refl _) (.int .i64 ((rs.getD a 0 &&& s : Nat) : Int))
      have ho24 := hom.apart (grown_set (World.grownBy.refl wr (some w.heap.size)) a (.int .i64 ((rs.getD a 0 &&& s : Nat) : Int))) (fun q hq e => hap q hq (by injection e with e; exact e.symm))
      have HST : Hid (∀ i, i < n → (ds.set a (rs.getD a 0 &&& s)).getD i 0 = if i ∈ ms.take (k + 1) then rs.getD i 0 &&& s else 0) := Lib.hid fun i hi => by
        rw [getD_set ds a _ i (by rw [HC.out]; exact han)]
        by_cases e : i = a
        · rw [if_pos e, if_pos ((HTK.out i).2 (.inr e)), e]
        · rw [if_neg e, HW.out i hi]
          by_cases e2 : i ∈ ms.take k
          · rw [if_pos e2, if_pos ((HTK.out i).2 (.inl e2))]
          · rw [if_neg e2, if_neg (fun h9 => ((HTK.out i).1 h9).elim e2 e)]
      obtain ⟨V, hV⟩ : ∃ V, V = rs.getD a 0 &&& s := ⟨_, rfl⟩
      rw [← hV] at hand ho4 hb4 ho24 HST
      obtain ⟨D, hD⟩ : ∃ D, D = rs.getD a 0 := ⟨_, rfl⟩
      rw [← hD] at hy hand hrl
      subst hy eA
      clear hV hD ha hmem hsb hset
      go_wp2_with fail
      go_roundw
      case rel => exact ⟨k + 1, ds.set a V, hlt, by go_num, by rw [List.length_set]; exact HC.out, ho4, ho24, hb4, HST.out⟩
      case measure => simp [intOf]; omega
    · have hkm : k = M := by omega
      subst hkm
      have HE : Hid (ds = amM rs s) := Lib.hid (by
        refine ext_getD' _ _ (by rw [HC.out, amM_len, HL.out]) fun i hi => ?_
        rw [HC.out] at hi
        rw [HW.out i hi, amM_at rs s i (by rw [HL.out]; exact hi), List.take_of_length_le (by rw [HM.out]; exact Nat.le_refl _)]
        by_cases e : s.testBit i = true
        · rw [if_pos e, if_pos ((HBM.out i).2 ⟨by omega, e⟩)]
        · rw [if_neg e, if_neg (fun h9 => e ((HBM.out i).1 h9).2)])
      rw [HE.out] at ho
      go_wp2_with fail
      go_ret
      exact ⟨_, _, rfl, ho, hb⟩
set_option maxHeartbeats 6400000 in
theorem components_any (A : Option Addr) (n c : Nat) (rs : List Nat) (A1 : Option Addr) (m d : Nat) (vs : List Nat) (w : World) (h : Rd w A n (ints rs)) (hl : rs.length = n) (hn : n ≤ 8) (hr : ∀ i, rs.getD i 0 < 2 ^ n) (hdep : Dep rs) (h2 : Rd w A1 m (ints vs)) (hm : m ≤ 24) (hvs : ∀ x, x ∈ vs → x < n) (hT : Tab w) :
    Calls Tryd.prog 87 #[.slice A n c, .slice A1 m d] w fun e w' => ∃ A' c', e = .returned (.slice A' (prtL rs n (ltM vs) n).length c') ∧ OwnSS w' w.heap.size w'.heap.size A' (prtL rs n (ltM vs) n).length c' (tcL rs vs (prtL rs n (ltM vs) n)) ∧ Below w.heap.size w w' := by
  obtain ⟨i1, hi1, hy0, hy1, hy2⟩ := info_parts info_sls
  have HLV : Hid (vs.length = m) := Lib.hid (by have := h2.1; rw [ints_len] at this; exact this)
  have HVN := Lib.hid hvs
  have HR := Lib.hid hr
  have HLR := Lib.hid hl
  have HDEP := Lib.hid hdep
  have HR63 : Hid (∀ i, rs.getD i 0 < 9223372036854775808) := Lib.hid fun i => lt63 (by omega) (hr i)
  have hp8 : 2 ^ n ≤ 256 := Nat.pow_le_pow_right (by decide) hn
  have hsn := ltM_lt n vs hvs
  have HLT : Hid (∀ k, k < m → ltM (vs.take (k + 1)) = ltM (vs.take k) ||| 2 ^ vs.getD k 0) := Lib.hid fun k hk => by
    have : vs.take (k + 1) = vs.take k ++ [vs.getD k 0] := by rw [List.take_add_one, List.getD_eq_getElem?_getD, List.getElem?_eq_getElem (by rw [HLV.out]; exact hk)]; rfl
    rw [this, ltM_snoc]
  have HLB : Hid (∀ k, ltM (vs.take k) < 2 ^ n) := Lib.hid fun k => ltM_lt n _ (fun x hx => hvs x (List.mem_of_mem_take hx))
  have HLF : Hid (ltM (vs.take m) = ltM vs) := Lib.hid (by rw [List.take_of_length_le (by rw [HLV.out]; exact Nat.le_refl _)])
  have HFI := Lib.hid (compM_filter rs n (ltM vs) hl (by omega) hr hdep hsn)
  have HAM : Hid (∀ ww, Rd ww A n (ints rs) → Tab ww → Calls Tryd.prog 131 #[.slice A n c, .int .i64 (ltM vs : Int)] ww (MakesE 102 ww n (ints (amM rs (ltM vs))))) := Lib.hid fun ww h9 hT9 => among_any A n c (ltM vs) rs ww h9 hn hr hsn hT9
  have hcl := compM_len (amM rs (ltM vs))
  rw [amM_len, hl] at hcl
  have HCL : Hid (∀ ww A9 c9, Rd ww A9 n (ints (amM rs (ltM vs))) → Tab ww → Calls Tryd.prog 132 #[.slice A9 n c9] ww (MakesE 102 ww (compM (amM rs (ltM vs))).length (ints (compM (amM rs (ltM vs)))))) := Lib.hid fun ww A9 c9 h9 hT9 => classes_any A9 n c9 _ ww h9 (by omega) (amM_lt rs n (ltM vs) hl hr) hT9
  have HCB : Hid (∀ p, p ∈ compM (amM rs (ltM vs)) → p < 2 ^ n) := Lib.hid fun p hp => by
    have := compL_lt' (usM rs (ltM vs)) n (usM_lt rs n (ltM vs) hl hr) n (Nat.le_refl _) p
    refine this ?_
    unfold compM at hp
    rw [amM_len, hl] at hp
    exact hp
  obtain ⟨S, hS⟩ : ∃ S, S = ltM vs := ⟨_, rfl⟩
  rw [← hS] at HFI HAM HCL HCB hsn HLF hcl ⊢
  obtain ⟨PL, hPL⟩ : ∃ PL, PL = prtL rs n S n := ⟨_, rfl⟩
  rw [← hPL] at HFI ⊢
  obtain ⟨ps, hps⟩ : ∃ ps, ps = compM (amM rs S) := ⟨_, rfl⟩
  rw [← hps] at HFI HCL HCB hcl
  obtain ⟨N, hN⟩ : ∃ N, N = ps.length := ⟨_, rfl⟩
  rw [← hN] at HCL hcl
  have HN := Lib.hid hN
  have HFIN : Hid (∀ k, k < N → (ps.take (k + 1)).filter (fun c => dif c S == 0) = (ps.take k).filter (fun c => dif c S == 0) ++ if (dif (ps.getD k 0) S == 0) = true then [ps.getD k 0] else []) := Lib.hid fun k hk => by
    have : ps.take (k + 1) = ps.take k ++ [ps.getD k 0] := by rw [List.take_add_one, List.getD_eq_getElem?_getD, List.getElem?_eq_getElem (by rw [← HN.out]; exact hk)]; rfl
    rw [this, List.filter_append]
    congr 1
    by_cases e : (dif (ps.getD k 0) S == 0) = true
    · rw [if_pos e]; exact List.filter_cons_of_pos e
    · rw [if_neg e]; exact List.filter_cons_of_neg e
  have HFLE : Hid (∀ k, k ≤ N → ((ps.take k).filter (fun c => dif c S == 0)).length ≤ k) := Lib.hid fun k hk => Nat.le_trans (List.length_filter_le _ _) (by rw [List.length_take]; omega)
  have HFAL : Hid ((ps.take N).filter (fun c => dif c S == 0) = PL) := Lib.hid (by rw [List.take_of_length_le (by rw [HN.out]; exact Nat.le_refl _)]; exact HFI.out)
  have HSL := Lib.hid hsn
  clear hS hPL hps hN hr hl hdep hvs hsn HFI
  go_enter Tryd.func87, Tryd.ntmps87
  go_wp2_with fail
  go_loopw [5, 13] (fun p q wr => ∃ k : Nat, k ≤ m ∧ p = .int .i64 (ltM (vs.take k) : Int) ∧ q = .int .i64 (k : Int) ∧ wr = w) (fun _ q _ => m - (intOf q).toNat)
  case atStart => exact ⟨0, Nat.zero_le _, rfl, rfl, rfl⟩
  case round =>
    obtain ⟨k, hk, rfl, rfl, rfl⟩ := hrel
    by_cases hlt : k < m
    · obtain ⟨b, off, x, rfl, hbs, hx, hcx⟩ := h2.at_ hlt
      rw [ints_getD vs k (by rw [HLV.out]; exact hlt)] at hx
      injection hx with hx
      have hxn := HVN.out (vs.getD k 0) (by rw [List.getD_eq_getElem?_getD, List.getElem?_eq_getElem (by rw [HLV.out]; exact hlt)]; exact List.getElem_mem _)
      have HST := Lib.hid (HLT.out k hlt)
      have hb1 := HLB.out k
      obtain ⟨X, hX⟩ : ∃ X, X = vs.getD k 0 := ⟨_, rfl⟩
      rw [← hX] at hx hxn HST
      subst hx
      obtain ⟨Y, hY⟩ : ∃ Y, Y = ltM (vs.take k) := ⟨_, rfl⟩
      rw [← hY] at hb1 HST ⊢
      clear hX hY
      go_wp2_with fail
      refine (with_any Y X (by omega) (by omega) _).mono ?_
      rintro e w' ⟨rfl, rfl⟩
      go_wp2_with fail
      go_roundw
      case rel => exact ⟨k + 1, hlt, by rw [HST.out], by go_num, trivial⟩
      case measure => simp [intOf]; omega
    · have hkm : k = m := by omega
      subst hkm
      rw [HLF.out]
      go_wp2_with fail
      refine (HAM.out _ h hT).mono ?_
      rintro e w1 ⟨A2, c2, rfl, o2, hb1⟩
      go_wp2_with fail
      refine (HCL.out _ _ _ o2.rd (hT.below hb1)).mono ?_
      rintro e w2 ⟨A3, c3, rfl, o3, hb2⟩
      have hb02 := hb1.trans (hb2.mono hb1.size)
      have HB2 := Lib.hid hb02
      have hrd := o3.rd
      have hh := h.below hb02
      have hh2 := h2.below hb02
      have hT2 := hT.below hb02
      have hby : ∀ k, k < N → (k + 1) * 24 ≤ 140737488355328 := fun k hk => by omega
      have HBY := Lib.hid hby
      clear o2 o3 hb1 hb2 hb02 h h2 hT hby
      go_wp2_with fail
      go_loopw [8, 26] (fun p q wr => ∃ (k F : Nat) (A4 : Option Addr) (c4 : Nat), k ≤ N ∧ F ≤ k ∧ F = ((ps.take k).filter (fun c => dif c S == 0)).length ∧ p = .slice A4 F c4 ∧ q = .int .i64 (k : Int) ∧ OwnSS wr w2.heap.size wr.heap.size A4 F c4 (tcL rs vs ((ps.take k).filter (fun c => dif c S == 0))) ∧ Below w2.heap.size w2 wr) (fun _ q _ => N - (intOf q).toNat)
      case atStart => exact ⟨0, 0, none, 0, Nat.zero_le _, Nat.le_refl _, rfl, rfl, rfl, OwnSS.nil _ _, Below.refl _ _⟩
      case round =>
        obtain ⟨j, F, A4, c4, hj, hFj, hF, rfl, rfl, hss, hb⟩ := hrel
        have HF := Lib.hid hF
        clear hF
        by_cases hlt : j < N
        · obtain ⟨b, off, x, rfl, hbs, hx, hcx⟩ := (hrd.below hb).at_ hlt
          rw [ints_getD ps j (by rw [← HN.out]; exact hlt)] at hx
          injection hx with hx
          have hpn := HCB.out (ps.getD j 0) (by rw [List.getD_eq_getElem?_getD, List.getElem?_eq_getElem (by rw [← HN.out]; exact hlt)]; exact List.getElem_mem _)
          have HNX := Lib.hid (HFIN.out j hlt)
          obtain ⟨P, hP⟩ : ∃ P, P = ps.getD j 0 := ⟨_, rfl⟩
          rw [← hP] at hx hpn HNX
          subst hx
          have HIW : Hid (∀ ww, Calls Tryd.prog 133 #[.int .i64 (P : Int), .int .i64 (S : Int)] ww fun e w' => e = .returned (.bool (dif P S == 0)) ∧ ww = w') := Lib.hid fun ww => by
            have h9 := isWithin_int (P : Int) (S : Int) ww
            rw [i64_andNot_nat P S (by omega) (by have := HSL.out; omega)] at h9
            have e9 : (((dif P S : Nat) : Int) == 0) = (dif P S == 0) := by
              by_cases h0 : dif P S = 0
              · rw [h0]; rfl
              · have h1 : ¬ ((dif P S : Nat) : Int) = 0 := by omega
                rw [beq_false_of_ne h1, beq_false_of_ne h0]
            rw [e9] at h9
            exact h9
          obtain ⟨t, ht⟩ : ∃ t, t = (dif P S == 0) := ⟨_, rfl⟩
          rw [← ht] at HIW HNX
          clear hP ht
          obtain ⟨wo, hwo⟩ : ∃ wo : World, wr = wo := ⟨_, rfl⟩
          rw [hwo] at hss hb hcx hbs ⊢
          clear hwo
          have hdl : decide ((j : Int) < (N : Int)) = true := decide_eq_true (by omega)
          cases t
          · have HNY : Hid ((ps.take (j + 1)).filter (fun c => dif c S == 0) = (ps.take j).filter (fun c => dif c S == 0)) := Lib.hid (by rw [HNX.out, if_neg (by decide), List.append_nil])
            go_wp2_with fail
            refine (HIW.out _).mono ?_
            rintro e w' ⟨rfl, rfl⟩
            go_wp2_with fail
            go_roundw
            case rel => exact ⟨j + 1, F, A4, c4, hlt, by omega, by rw [HNY.out]; exact HF.out, rfl, by go_num, by rw [HNY.out]; exact hss, hb⟩
            case measure => simp [intOf]; omega
          · have HNY : Hid (tcL rs vs ((ps.take (j + 1)).filter (fun c => dif c S == 0)) = tcL rs vs ((ps.take j).filter (fun c => dif c S == 0)) ++ [ints (nfR rs (prjS vs P))] ∧ ((ps.take (j + 1)).filter (fun c => dif c S == 0)).length = F + 1) := Lib.hid (by
              rw [HNX.out, if_pos rfl]
              refine ⟨by unfold tcL; rw [List.map_append]; rfl, ?_⟩
              rw [List.length_append, ← HF.out]; rfl)
            have hpj := projection_any A1 k d P vs wo (hh2.below hb) hm (by omega) (fun p hp => by have := HVN.out (vs.getD p 0) (by rw [List.getD_eq_getElem?_getD, List.getElem?_eq_getElem (by rw [HLV.out]; exact hp)]; exact List.getElem_mem _); omega)
            have hYm : (prjS vs P).length ≤ k := by rw [← HLV.out]; exact prjS_len vs P
            have HYN : Hid (∀ x, x ∈ prjS vs P → x < n) := Lib.hid fun x hx => HVN.out x ((List.mem_filter.1 hx).1)
            obtain ⟨zs, hzs⟩ : ∃ zs, zs = prjS vs P := ⟨_, rfl⟩
            rw [← hzs] at hpj hYm HYN HNY
            obtain ⟨Y, hY⟩ : ∃ Y, Y = zs.length := ⟨_, rfl⟩
            rw [← hY] at hpj hYm
            have HLZ : Hid (zs.length = Y) := Lib.hid hY.symm
            have HZK : Hid (∀ p, p < Y → zs.getD p 0 < n) := Lib.hid fun p hp => in_getD HYN.out p (by rw [HLZ.out]; exact hp)
            have HPJ := Lib.hid hpj
            obtain ⟨ts, hts, hot⟩ := hss
            have HTS := Lib.hid hts
            have hkb := HBY.out F (by omega)
            have hml : F + 1 ≤ maxLen := by unfold maxLen; omega
            have hrs' := hh.below hb
            have hTo := hT2.below hb
            clear hzs hY hts hpj
            go_wp2_with fail
            refine (HIW.out _).mono ?_
            rintro e w' ⟨rfl, rfl⟩
            go_wp2_with fail
            refine HPJ.out.mono ?_
            rintro e w3 ⟨A5, c5, rfl, o5, hb3⟩
            have HT1 := Lib.hid (traceOf_any A A5 n Y c c5 rs zs w3 (hrs'.below hb3) o5.rd (by omega) (by omega) HZK.out HR63.out (hTo.below hb3))
            have hT3 := hTo.below hb3
            clear o5
            go_wp2_with fail
            refine HT1.out.mono ?_
            rintro e v1 ⟨E1, g1, F1, k1, es1, rfl, hp, hs, h1, h2, -, -, ha1⟩
            have HN1 := Lib.hid (nf_from E1 F1 g1 k1 Y n rs zs es1 v1 HLR.out HR.out HDEP.out HLZ.out HZK.out (by omega) hp hs h1 h2 (hT3.below ha1))
            have hb3v := hb3.trans (ha1.mono hb3.size)
            clear hp hs h1 h2 ha1 hb3
            go_wp2_with fail
            refine HN1.out.mono ?_
            rintro e u1 ⟨G1, l1, rfl, ho1, hb1⟩
            have hbe := hb3v.trans (hb1.mono hb3v.size)
            have hel := ho1.mono hb3v.size
            have hrow3 := row_kept hot.2.1 (grownBy_of_below hbe) (fun q _ e => by cases e)
            have hrb : ∀ q, A4.map (·.block) = some q → w2.heap.size ≤ q := fun q hq => (row_block hot.2.1 q hq).1
            clear ho1 hb1 hb3v
            go_wp2_with (at_builtin; refine wpList_append_own_at _ rfl _ _ 29 rfl w2.heap.size 22 i1 (.slice none 0 0) 1 24 Tryd.underlying29 hi1 hy0 hy1 hy2 rfl (by decide) (.slice A4 F c4) F (valsT ts) rfl (World.ownsRow.alloc hrow3 _) ⟨u1.heap.size, 0, none⟩ 1 1 [.slice G1 Y l1] rfl rfl ?c1 ?c2 hml hkb ?c5 ?_)
            case c1 => exact cell_one_new _ _ _
            case c2 => intro u hu; simp at hu; subst hu; rfl
            case c5 => have := hb.size; have := hbe.size; simp; omega
            intro v' w4 hown hg _ hat
            have hbw3 := hb.trans (hbe.mono hb.size)
            have hb4 : Below w2.heap.size w2 w4 := (hbw3.alloc hbw3.size _).grown hg (by have := hbw3.size; simp; omega) (fun r hr => hrb r (by rw [own_block] at hr; exact hr))
            have hg3 := alloc_grown hg
            rw [own_block] at hg3 hat
            obtain ⟨A6, c6, hv, hss4⟩ := OwnSS.snoc hot hbe hel hb.size hown hg3 (hat.imp id fun h9 => ⟨_, h9, Nat.le_succ _⟩)
            rw [hv]
            rw [HTS.out, ← HNY.out.1] at hss4
            clear hown hg hv hot hb hbe hel hrow3 hg3 hat hbw3 hcx
            go_wp2_with fail
            go_roundw
            case rel => exact ⟨j + 1, F + 1, A6, c6, hlt, by omega, HNY.out.2.symm, rfl, by go_num, hss4, hb4⟩
            case measure => simp [intOf]; omega
        · have hkm : j = N := by omega
          subst hkm
          have hdl : decide ((j : Int) < (j : Int)) = false := decide_eq_false (by omega)
          rw [HFAL.out] at hss HF
          obtain rfl := HF.out
          go_wp2_with fail
          go_ret
          exact ⟨A4, c4, rfl, hss.wide HB2.out.size (Nat.le_refl _), HB2.out.trans (hb.mono HB2.out.size)⟩
end Go.Proofs.YtokikilfmglhhaaDoor
