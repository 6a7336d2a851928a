/-
  The components of a trace: the model's side.
-/
import Derived.Test.YtokikilfmglhhaaDoorTcM
import Derived.Test.YtokikilfmglhhaaDoorPpr
import Derived.Test.YtokikilfmglhhaaDoorNfA
import Derived.Deep.RegionLaw
namespace Go.Proofs.YtokikilfmglhhaaDoor
open Go Go.RowKit
set_option linter.unusedVariables false
set_option maxRecDepth 100000

/-- An append of one slice behind an own row of slices, in a region that draws. -/
theorem step_append_ss {w : World} {ops : Array Oper} {o : Oper} {a : Act} {K : Act → World → Prop} {Q : Exit → Act → World → Prop} {E : Prop} (hgd : o.guard = none) (s x : Operand)
    (ho : o.op = .call { callee := .builtin .append, args := #[s, x], argTypes := #[29, 29] }) (base : Nat) (A : Option Addr) (N cA : Nat) (vals : List Value) (hs : a.eval s = .slice A N cA) (hown : w.ownsRow base 22 1 (.slice A N cA) N vals)
    (ad : Addr) (v : Value) (hx : a.eval x = .slice (some ad) 1 1) (hc : ∀ j u, [v][j]? = some u → w.cell? (ad.add j) = some u) (h1 : v.oneCell' = true) (h63 : N + 1 ≤ maxLen) (hby : (N + 1) * 24 ≤ 140737488355328) (hbase : base ≤ w.heap.size)
    (h : ∀ v' w', w'.ownsRow base 22 1 v' (N + 1) (vals ++ [v]) → w.grownBy w' (A.map (·.block)) → (v'.ownBlock = A.map (·.block) ∨ v'.ownBlock = some w.heap.size) → K (a.put o.dst v') w') :
    if Region.wanted o (yielded ops a.tmps) = true then Oper.wp Tryd.prog o a w K Q else E := by
  have hw : Region.wanted o (yielded ops a.tmps) = true := by simp [Region.wanted, hgd]
  rw [if_pos hw]
  obtain ⟨i1, hi1, hy0, hy1, hy2⟩ := info_parts info_sls
  obtain ⟨v', w', hr, hown', hg, _, hat⟩ := run_append_own_at (P := Tryd.prog) w base 29 o.type 22 i1 (.slice none 0 0) 1 24 Tryd.underlying29 hi1 hy0 hy1 hy2 rfl (by decide) (.slice A N cA) N vals hown ad 1 1 [v] rfl hc (by intro u hu; simp at hu; subst hu; exact h1) h63 hby hbase
  unfold Oper.wp execOp
  simp only [ho, resolve, invoke, builtin, Sem.run_bind, Sem.run_pure, Result.andThen_ok, List.map_toArray, List.map_cons, List.map_nil, hs, hx, hr]
  rw [own_block] at hg hat
  exact h _ w' hown' hg hat
set_option maxHeartbeats 1600000 in
theorem l07Letters_any (A1 : Option Addr) (m d n : Nat) (vs : List Nat) (w : World) (h2 : Rd w A1 m (ints vs)) (hm : m ≤ 24) (hn : n ≤ 8) (hvs : ∀ x, x ∈ vs → x < n) :
    Calls Tryd.prog 127 #[.slice A1 m d] w fun e w' => e = .returned (.int .i64 (ltM vs : Int)) ∧ Below w.heap.size w w' := by
  have HLV : Hid (vs.length = m) := Lib.hid (by have := h2.1; rw [ints_len] at this; exact this)
  have HVN := Lib.hid hvs
  have HLT : Hid (∀ k, k < m → ltM (vs.take (k + 1)) = ltM (vs.take k) ||| 2 ^ vs.getD k 0) := Lib.hid fun k hk => by
    have : vs.take (k + 1) = vs.take k ++ [vs.getD k 0] := by rw [List.take_add_one, List.getD_eq_getElem?_getD, List.getElem?_eq_getElem (by rw [HLV.out]; exact hk)]; rfl
    rw [this, ltM_snoc]
  have HLB : Hid (∀ k, ltM (vs.take k) < 2 ^ n) := Lib.hid fun k => ltM_lt n _ (fun x hx => hvs x (List.mem_of_mem_take hx))
  have HLF : Hid (ltM (vs.take m) = ltM vs) := Lib.hid (by rw [List.take_of_length_le (by rw [HLV.out]; exact Nat.le_refl _)])
  have hp8 : 2 ^ n ≤ 256 := Nat.pow_le_pow_right (by decide) hn
  clear hvs
  go_enter Tryd.func127, Tryd.ntmps127
  go_wp2_with fail
  go_loopw [3, 4] (fun p q wr => ∃ k : Nat, k ≤ m ∧ p = .int .i64 (ltM (vs.take k) : Int) ∧ q = .int .i64 (k : Int) ∧ Below w.heap.size w wr) (fun _ q _ => m - (intOf q).toNat)
  case atStart => exact ⟨0, Nat.zero_le _, rfl, rfl, Below.refl _ _⟩
  case round =>
    obtain ⟨k, hk, rfl, rfl, hb⟩ := hrel
    by_cases hlt : k < m
    · obtain ⟨b, off, x, rfl, hbs, hx, hcx⟩ := (h2.below hb).at_ hlt
      rw [ints_getD vs k (by rw [HLV.out]; exact hlt)] at hx
      injection hx with hx
      have hxn := HVN.out (vs.getD k 0) (by rw [List.getD_eq_getElem?_getD, List.getElem?_eq_getElem (by rw [HLV.out]; exact hlt)]; exact List.getElem_mem _)
      have HST := Lib.hid (HLT.out k hlt)
      have hb1 := HLB.out k
      obtain ⟨X, hX⟩ : ∃ X, X = vs.getD k 0 := ⟨_, rfl⟩
      rw [← hX] at hx hxn HST
      subst hx
      have hpx : 2 ^ X < 9223372036854775808 := p2_lt X (by omega)
      obtain ⟨Y, hY⟩ : ∃ Y, Y = ltM (vs.take k) := ⟨_, rfl⟩
      rw [← hY] at hb1 HST ⊢
      have HOR := Lib.hid (or63 Y (2 ^ X) (by omega) hpx)
      have HON := Lib.hid fun ww => one_any X (by omega) ww
      obtain ⟨P, hP⟩ : ∃ P, P = 2 ^ X := ⟨_, rfl⟩
      rw [← hP] at HST HOR HON hpx
      have hor := HOR.out
      clear hX hY hP
      go_wp2_with fail
      refine (HON.out _).mono ?_
      rintro e w' ⟨rfl, rfl⟩
      go_wp2_with fail
      go_roundw
      case rel => exact ⟨k + 1, hlt, by rw [HST.out], by go_num, hb⟩
      case measure => simp [intOf]; omega
    · have hkm : k = m := by omega
      subst hkm
      rw [HLF.out]
      go_wp2_with fail
      go_ret
      exact ⟨rfl, hb⟩
set_option maxHeartbeats 1600000 in
theorem l06Reach_any (A : Option Addr) (n c M : Nat) (rs : List Nat) (w : World) (h : Rd w A n (ints rs)) (hn : n ≤ 8) (hr : ∀ i, rs.getD i 0 < 2 ^ n) (hM : M < 2 ^ n) :
    Calls Tryd.prog 129 #[.agg #[.int .i64 (n : Int), .slice A n c], .int .i64 (M : Int)] w fun e w' => e = .returned (.int .i64 (reachL rs M n : Int)) ∧ Below w.heap.size w w' := by
  have HL : Hid (rs.length = n) := Lib.hid (by have := h.1; rw [ints_len] at this; exact this)
  have HR := Lib.hid hr
  have hp8 : 2 ^ n ≤ 256 := Nat.pow_le_pow_right (by decide) hn
  have HB := Lib.hid (below1 w (.cells #[.int .i64 (n : Int), .slice A n c] 24))
  have x0 := box_new 24 w (n : Int) A n c
  have hh := h.below HB.out
  have HNX : Hid (∀ k, reachL rs M (k + 1) = if M.testBit k = true then reachL rs M k ||| rs.getD k 0 else reachL rs M k) := Lib.hid fun k => rfl
  have HRL : Hid (∀ k, reachL rs M k < 2 ^ n) := Lib.hid (reachL_lt rs n M hr)
  obtain ⟨w1, hw1⟩ : ∃ w1, w.alloc (.cells #[.int .i64 (n : Int), .slice A n c] 24) = w1 := ⟨_, rfl⟩
  rw [hw1] at HB x0 hh
  clear hr h
  go_enter Tryd.func129, Tryd.ntmps129
  go_wp2_with fail
  go_loopw [5, 6] (fun p q wr => ∃ k : Nat, k ≤ n ∧ p = .int .i64 (reachL rs M k : Int) ∧ q = .int .i64 (k : Int) ∧ wr = w1) (fun _ q _ => n - (intOf q).toNat)
  case atStart => exact ⟨0, Nat.zero_le _, rfl, rfl, rfl⟩
  case round =>
    obtain ⟨k, hk, rfl, rfl, rfl⟩ := hrel
    have y0 := x0.c0
    have y1 := x0.c1
    by_cases hlt : k < n
    · obtain ⟨b, off, x, rfl, hbs, hx, hcx⟩ := hh.at_ hlt
      rw [ints_getD rs k (by rw [HL.out]; exact hlt)] at hx
      injection hx with hx
      have hrk := HR.out k
      have hb1 := HRL.out k
      have HN := Lib.hid (HNX.out k)
      have HBI := Lib.hid fun ww => bit_any M k (by omega) (by omega) ww
      obtain ⟨D, hD⟩ : ∃ D, D = rs.getD k 0 := ⟨_, rfl⟩
      rw [← hD] at hx hrk HN
      obtain ⟨Y, hY⟩ : ∃ Y, Y = reachL rs M k := ⟨_, rfl⟩
      rw [← hY] at hb1 HN ⊢
      subst hx
      obtain ⟨t, ht⟩ : ∃ t, t = M.testBit k := ⟨_, rfl⟩
      rw [← ht] at HBI HN
      have HOR := Lib.hid (or63 Y D (by omega) (by omega))
      have hor := HOR.out
      clear hD hY ht
      cases t
      · have HN2 : Hid (reachL rs M (k + 1) = Y) := Lib.hid (by rw [HN.out]; rfl)
        go_wp2_with fail
        refine (HBI.out _).mono ?_
        rintro e w' ⟨rfl, rfl⟩
        go_wp2_with fail
        go_roundw
        case rel => exact ⟨k + 1, hlt, by rw [HN2.out], by go_num, trivial⟩
        case measure => simp [intOf]; omega
      · have HN2 : Hid (reachL rs M (k + 1) = Y ||| D) := Lib.hid (by rw [HN.out]; rfl)
        go_wp2_with fail
        refine (HBI.out _).mono ?_
        rintro e w' ⟨rfl, rfl⟩
        go_wp2_with fail
        go_roundw
        case rel => exact ⟨k + 1, hlt, by rw [HN2.out], by go_num, trivial⟩
        case measure => simp [intOf]; omega
    · have hkm : k = n := by omega
      subst hkm
      go_wp2_with fail
      go_ret
      exact ⟨rfl, HB.out⟩
set_option maxHeartbeats 12800000 in
theorem l07Parts_any (A : Option Addr) (n c : Nat) (rs : List Nat) (A1 : Option Addr) (m d : Nat) (vs : List Nat) (w : World) (h : Rd w A n (ints rs)) (hl : rs.length = n) (hn : n ≤ 8) (hr : ∀ i, rs.getD i 0 < 2 ^ n) (hdep : Dep rs) (h2 : Rd w A1 m (ints vs)) (hm : m ≤ 24) (hvs : ∀ x, x ∈ vs → x < n) :
    Calls Tryd.prog 86 #[.agg #[.int .i64 (n : Int), .slice A n c], .slice A1 m d] w fun e w' => ∃ A' c', e = .returned (.slice A' (prtL rs n (ltM vs) n).length c') ∧ OwnSS w' w.heap.size w'.heap.size A' (prtL rs n (ltM vs) n).length c' (tcL rs vs (prtL rs n (ltM vs) n)) ∧ Below w.heap.size w w' := by
  have HLV : Hid (vs.length = m) := Lib.hid (by have := h2.1; rw [ints_len] at this; exact this)
  have HVN := Lib.hid hvs
  have HR := Lib.hid hr
  have HLR := Lib.hid hl
  have HDEP := Lib.hid hdep
  have hp8 : 2 ^ n ≤ 256 := Nat.pow_le_pow_right (by decide) hn
  have hsn := ltM_lt n vs hvs
  have HV8 : Hid (∀ p, p < m → vs.getD p 0 < 8) := Lib.hid fun p hp => by
    have := hvs (vs.getD p 0) (by rw [List.getD_eq_getElem?_getD, List.getElem?_eq_getElem (by rw [HLV.out]; exact hp)]; exact List.getElem_mem _)
    omega
  have hB := below1 w (.cells #[.int .i64 (n : Int), .slice A n c] 24)
  have x0 := box_new 24 w (n : Int) A n c
  obtain ⟨w1, hw1⟩ : ∃ w1 : World, (w.alloc (.cells #[.int .i64 (n : Int), .slice A n c] 24)) = w1 := ⟨_, rfl⟩
  have HW1 := Lib.hid hw1
  have HS1 : Hid (w1.heap.size = w.heap.size + 1) := Lib.hid (by rw [← hw1]; simp)
  rw [hw1] at hB x0
  have hC := below1 w1 (.cells #[] 22)
  have hBC := hB.trans (hC.mono hB.size)
  have HLE := Lib.hid (l07Letters_any A1 m d n vs (w1.alloc (.cells #[] 22)) (h2.below hBC) hm hn hvs)
  have hnil : OwnSS (w1.alloc (.cells #[] 22)) w1.heap.size (w1.heap.size + 1) (some ⟨w1.heap.size, 0, none⟩) 0 0 [] := ⟨[], rfl, rfl, World.ownsRow_lit w1 #[] 0 (Nat.le_refl _) (by unfold maxLen; omega) rfl, fun q hq => by have := Option.some.inj hq; have h8 : w1.heap.size = q := this; omega, fun j t hj => by cases hj⟩
  have HBB := Lib.hid hB
  have hh1 := h.below hB
  have hh2 := h2.below hB
  have HL0 : Hid (LeftM rs (ltM vs) 0 (ltM vs)) := Lib.hid (left_zero rs (ltM vs))
  obtain ⟨S, hS⟩ : ∃ S, S = ltM vs := ⟨_, rfl⟩
  rw [← hS] at HLE HL0 hsn ⊢
  have HP0 : Hid (prtL rs n S 0 = []) := Lib.hid rfl
  have HPL : Hid (∀ t, (prtL rs n S t).length ≤ t) := Lib.hid (prtL_len rs n S)
  clear hw1 hBC hS hvs hr hdep h h2 hl
  go_enter Tryd.func86, Tryd.ntmps86
  go_wp2_with fail
  rw [HW1.out]
  refine HLE.out.mono ?_
  rintro e w2 ⟨rfl, hbw⟩
  have hbw1 := hC.trans (hbw.mono hC.size)
  have hs9 : (w1.alloc (.cells #[] 22)).heap.size = w1.heap.size + 1 := by simp
  have hss0 : OwnSS w2 w1.heap.size w2.heap.size (some ⟨w1.heap.size, 0, none⟩) 0 0 [] := (hnil.below hbw).wide (Nat.le_refl _) (by have := hbw.size; omega)
  have hby : ∀ k, k < n → (k + 1) * 24 ≤ 140737488355328 := fun k hk => by omega
  have HBY := Lib.hid hby
  clear hby hbw hnil hC hB
  go_wp2_with fail
  go_loopw [5, 6, 7] (fun p l q wr => ∃ (k F left : Nat) (A3 : Option Addr) (c3 : Nat), k ≤ n ∧ F ≤ k ∧ F = (prtL rs n S k).length ∧ p = .slice A3 F c3 ∧ l = .int .i64 (left : Int) ∧ q = .int .i64 (k : Int) ∧ left < 2 ^ n ∧ LeftM rs S k left ∧ OwnSS wr w1.heap.size wr.heap.size A3 F c3 (tcL rs vs (prtL rs n S k)) ∧ Below w1.heap.size w1 wr) (fun _ _ q _ => n - (intOf q).toNat)
  case atStart => exact ⟨0, 0, S, _, 0, Nat.zero_le _, Nat.le_refl _, by rw [HP0.out]; rfl, rfl, rfl, rfl, hsn, HL0.out, by rw [HP0.out, ← HS1.out]; exact hss0, hbw1⟩
  case round =>
    clear hss0 hbw1
    obtain ⟨k, F, left, A3, c3, hk, hFk, hF, rfl, rfl, rfl, hlf, hLM, hss, hb⟩ := hrel
    have HF := Lib.hid hF
    have HLM := Lib.hid hLM
    have x1 := x0.next hb
    have y0 := x1.c0
    have y1 := x1.c1
    clear hF hLM
    by_cases hlt : k < n
    · have HBI := Lib.hid fun ww => bit_any left k (by omega) (by omega) ww
      have HON := Lib.hid fun ww => one_any k (by omega) ww
      have HNO : Hid (left.testBit k = false → LeftM rs S (k + 1) left ∧ prtL rs n S (k + 1) = prtL rs n S k) := Lib.hid fun h9 => left_no rs n S k left HLR.out (by omega) HR.out HDEP.out hlt HLM.out h9
      have HYE : Hid (left.testBit k = true → partM rs left k n = reachM (usM rs S) k n ∧ partM rs left k n ≤ left ∧ LeftM rs S (k + 1) (left - partM rs left k n) ∧ prtL rs n S (k + 1) = prtL rs n S k ++ [partM rs left k n]) := Lib.hid fun h9 => left_yes rs n S k left HLR.out hn HR.out HDEP.out hlt hlf HLM.out h9
      have HPM : Hid (∀ j, partM rs left k (j + 1) = reachL rs (partM rs left k j) n &&& (left ||| partM rs left k j)) := Lib.hid fun j => by
        show reachL rs (partM rs left k j) rs.length &&& _ = _
        rw [HLR.out]
      have HPB : Hid (∀ j, partM rs left k j < 2 ^ n) := Lib.hid fun j => by
        cases j with
        | zero => exact Nat.pow_lt_pow_right (by decide) hlt
        | succ j => rw [HPM.out]; exact Nat.lt_of_le_of_lt Nat.and_le_left (reachL_lt rs n _ HR.out n)
      obtain ⟨t, ht⟩ : ∃ t, t = left.testBit k := ⟨_, rfl⟩
      rw [← ht] at HBI HNO HYE
      clear ht
      cases t
      · have HN := Lib.hid (HNO.out rfl)
        clear HYE HNO
        go_wp2_with fail
        refine (HBI.out _).mono ?_
        rintro e w' ⟨rfl, rfl⟩
        go_wp2_with fail
        go_roundw
        case rel => exact ⟨k + 1, F, left, A3, c3, hlt, by omega, by rw [HN.out.2]; exact HF.out, rfl, rfl, by go_num, hlf, HN.out.1, by rw [HN.out.2]; exact hss, hb⟩
        case measure => simp [intOf]; omega
      · have HN := Lib.hid (HYE.out rfl)
        have HPI : Hid ((2 ^ k : Nat) = partM rs left k 0) := Lib.hid rfl
        clear HYE HNO
        go_wp2_with fail
        refine (HBI.out _).mono ?_
        rintro e w' ⟨rfl, rfl⟩
        go_wp2_with fail
        refine (HON.out _).mono ?_
        rintro e w' ⟨rfl, rfl⟩
        rw [HPI.out]
        obtain ⟨wo, hwo⟩ : ∃ wo : World, wr = wo := ⟨_, rfl⟩
        rw [hwo] at hss hb x1 y0 y1 ⊢
        clear hwo
        go_wp2_with fail
        go_loopw [8, 9] (fun p q wz => ∃ j : Nat, j ≤ n ∧ p = .int .i64 (partM rs left k j : Int) ∧ q = .int .i64 (j : Int) ∧ Below wo.heap.size wo wz) (fun _ q _ => n - (intOf q).toNat)
        case atStart => exact ⟨0, Nat.zero_le _, rfl, rfl, Below.refl _ _⟩
        case round =>
          obtain ⟨j, hj, rfl, rfl, hbz⟩ := hrel
          have xz := x1.next hbz
          have z0 := xz.c0
          have z1 := xz.c1
          by_cases hjl : j < n
          · have HP := Lib.hid (HPM.out j)
            have hpb := HPB.out j
            have hpb2 := HPB.out (j + 1)
            obtain ⟨P, hP⟩ : ∃ P, P = partM rs left k j := ⟨_, rfl⟩
            rw [← hP] at HP hpb ⊢
            have HRE := Lib.hid (l06Reach_any A n c P rs _ ((hh1.below hb).below hbz) hn HR.out hpb)
            have hrl := reachL_lt rs n P HR.out n
            have HOR := Lib.hid (or63 left P (by omega) (by omega))
            have hor := HOR.out
            have hlp : left ||| P < 2 ^ n := Nat.or_lt_two_pow hlf hpb
            obtain ⟨Z, hZ⟩ : ∃ Z, Z = reachL rs P n := ⟨_, rfl⟩
            rw [← hZ] at HRE HP hrl
            have HAN := Lib.hid (i64_and_nat Z (left ||| P) (by omega) (by omega))
            have han := HAN.out
            clear hP hZ
            go_wp2_with fail
            refine HRE.out.mono ?_
            rintro e w5 ⟨rfl, hb5⟩
            have hb05 := hbz.trans (hb5.mono hbz.size)
            go_wp2_with fail
            go_roundw
            case rel => exact ⟨j + 1, hjl, by rw [HP.out], by go_num, hb05⟩
            case measure => simp [intOf]; omega
          · have hjn : j = n := by omega
            subst hjn
            have hpl := HN.out.2.1
            have hpb := HPB.out j
            have HLN := Lib.hid HN.out.2.2.1
            have HPN := Lib.hid HN.out.2.2.2
            obtain ⟨P, hP⟩ : ∃ P, P = partM rs left k j := ⟨_, rfl⟩
            rw [← hP] at hpl hpb HLN HPN ⊢
            clear hP
            have HTN : Hid (tcL rs vs (prtL rs j S (k + 1)) = tcL rs vs (prtL rs j S k) ++ [ints (nfR rs (prjS vs P))] ∧ (prtL rs j S (k + 1)).length = F + 1) := Lib.hid (by
              rw [HPN.out]
              refine ⟨by unfold tcL; rw [List.map_append]; rfl, ?_⟩
              rw [List.length_append, ← HF.out]; rfl)
            have hsub : wrap64 ((left : Int) - (P : Int)) = ((left - P : Nat) : Int) := by unfold wrap64; omega
            have hlq : left - P < 2 ^ j := by omega
            have hcur : Below wo.heap.size wo wr.drew := hbz.drew
            have HPJ : Hid (∀ ww, Below wo.heap.size wo ww → Calls Tryd.prog 130 #[.slice A1 m d, .int .i64 (P : Int)] ww (MakesE 2 ww (prjS vs P).length (ints (prjS vs P)))) := Lib.hid fun ww hw => project_any A1 m d P vs ww ((hh2.below hb).below hw) hm (by omega) HV8.out
            have hYm : (prjS vs P).length ≤ m := by rw [← HLV.out]; exact prjS_len vs P
            have HYN : Hid (∀ x, x ∈ prjS vs P → x < j) := Lib.hid fun x hx => HVN.out x (List.mem_filter.1 hx).1
            obtain ⟨zs, hzs⟩ : ∃ zs, zs = prjS vs P := ⟨_, rfl⟩
            rw [← hzs] at HPJ hYm HYN HTN
            obtain ⟨Y, hY⟩ : ∃ Y, Y = zs.length := ⟨_, rfl⟩
            rw [← hY] at HPJ hYm
            have HNF : Hid (∀ ww A5 c5, Below wo.heap.size wo ww → Rd ww A5 Y (ints zs) → Calls Tryd.prog 71 #[.agg #[.int .i64 (j : Int), .slice A j c], .slice A5 Y c5] ww (MakesE 2 ww Y (ints (nfR rs zs)))) := Lib.hid fun ww A5 c5 hw h5 => by
              have h9 := l03Normal_any A A5 j c Y c5 rs zs ww ((hh1.below hb).below hw) (by omega) HR.out h5 (by omega) (fun p hp => in_getD HYN.out p (by rw [← hY]; exact hp))
              have e9 : nfM (RDep rs) j zs = nfR rs zs := by unfold nfR; rw [HLR.out]
              rw [e9] at h9
              exact h9
            obtain ⟨ts, hts, hot⟩ := hss
            have HTS := Lib.hid hts
            have hkb := HBY.out F (by omega)
            have hml : F + 1 ≤ maxLen := by unfold maxLen; omega
            have hrb : ∀ q, A3.map (·.block) = some q → w1.heap.size ≤ q := fun q hq => (row_block hot.2.1 q hq).1
            have s0 := (x1.next hcur).c0
            have s1 := (x1.next hcur).c1
            clear hzs hY hts HPM HPB HN
            go_wp2_with fail
            go_region_law (first
              | (go_simp; go_at_call 130; (refine (HPJ.out _ hcur).mono ?_); rintro e w3 ⟨A5, c5, rfl, o5, hb3⟩; have hcur3 := hcur.trans (hb3.mono hcur.size); have s0 := (x1.next hcur3).c0; have s1 := (x1.next hcur3).c1)
              | (go_simp; go_at_call 71; (refine (HNF.out _ _ _ hcur3 o5.rd).mono ?_); rintro e u1 ⟨G1, l1, rfl, o1, hb1⟩; have hbe := hcur3.trans (hb1.mono hcur3.size); have hel := o1.mono hcur3.size; have hrow3 := row_kept hot.2.1 (grownBy_of_below hbe) (fun q _ e => by cases e); have s0 := (x1.next hbe).c0; have s1 := (x1.next hbe).c1)
              | (refine step_append_ss rfl (.tmp 41) (.tmp 47) rfl w1.heap.size A3 F c3 (valsT ts) (by go_simp) (World.ownsRow.alloc hrow3 _) ⟨u1.heap.size, 0, none⟩ (.slice G1 Y l1) (by go_simp) (cell_one_new _ _ _) rfl hml hkb (by have := hb.size; have := hbe.size; simp; omega) ?_; intro v' w4 hown hg hat))
            all_goals (
              have hbw3 := hb.trans (hbe.mono hb.size)
              have hb4 : Below w1.heap.size w1 w4 := (hbw3.alloc hbw3.size _).grown hg (by have := hbw3.size; simp; omega) (fun r hr => hrb r hr)
              have hg3 := alloc_grown hg
              obtain ⟨A6, c6, hv, hss4⟩ := OwnSS.snoc hot hbe hel hb.size hown hg3 (hat.imp id fun h9 => ⟨_, h9, (below1 u1 (.cells #[.slice G1 Y l1] 22)).size⟩)
              rw [hv]
              rw [HTS.out, ← HTN.out.1] at hss4
              clear hown hg hv hot hb hbe hel hrow3 hg3 hat hbw3
              go_wp2_with fail
              go_roundw
              case rel => exact ⟨k + 1, F + 1, left - P, A6, c6, hlt, by omega, HTN.out.2.symm, rfl, by rw [Int.ofNat_sub hpl], by go_num, hlq, HLN.out, hss4, hb4⟩
              case measure => simp [intOf]; omega)
    · have hkm : k = n := by omega
      subst hkm
      obtain rfl := HF.out
      go_wp2_with fail
      go_ret
      exact ⟨A3, c3, rfl, hss.wide HBB.out.size (Nat.le_refl _), HBB.out.trans (hb.mono HBB.out.size)⟩
end Go.Proofs.YtokikilfmglhhaaDoor
