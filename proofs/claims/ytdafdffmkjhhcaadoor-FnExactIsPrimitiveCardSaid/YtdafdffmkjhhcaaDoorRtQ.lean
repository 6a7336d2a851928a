/-
  Roots of traces: the program's search.
-/
import Derived.Test.YtdafdffmkjhhcaaDoorRtP
namespace Go.Proofs.YtdafdffmkjhhcaaDoor
open Go Go.RowKit
set_option linter.unusedVariables false
set_option maxRecDepth 100000

set_option maxHeartbeats 6400000 in
theorem root_any (R A1 : Option Addr) (n c m d : Nat) (rs vs : List Nat) (w : World) (h : Rd w R n (ints rs)) (hl : rs.length = n) (hn : n ≤ 8) (hr : ∀ i, rs.getD i 0 < 2 ^ n) (hdep : Dep rs) (h2 : Rd w A1 m (ints vs)) (hm : m ≤ 24) (hvs : ∀ x, x ∈ vs → x < n) (hT : Tab w) :
    Calls Tryd.prog 84 #[.slice R n c, .slice A1 m d] w fun e w' => ∃ A' c', e = .returned (.tuple #[.slice A' (rtF rs vs).1.length c', .int .i64 ((rtF rs vs).2 : Int)]) ∧ Own 2 w' w.heap.size A' (rtF rs vs).1.length c' (ints (rtF rs vs).1) ∧ Below w.heap.size w w' := by
  have HLV : Hid (vs.length = m) := Lib.hid (by have := h2.1; rw [ints_len] at this; exact this)
  have HVN := Lib.hid hvs
  have HR := Lib.hid hr
  have HLR := Lib.hid hl
  have HDEP := Lib.hid hdep
  have HR63 : Hid (∀ i, rs.getD i 0 < 9223372036854775808) := Lib.hid fun i => lt63 (by omega) (hr i)
  have HRK : Hid (∀ x, x < m → vs.getD x 0 < n) := Lib.hid fun x hx => in_getD HVN.out x (by rw [HLV.out]; exact hx)
  have HSL : Hid (∀ k, (shF vs k).length * k ≤ m ∧ (shF vs k).length ≤ m) := Lib.hid fun k => ⟨by rw [← HLV.out]; exact sh_len vs k, by rw [← HLV.out]; exact shTo_len vs k vs.length⟩
  have HSN : Hid (∀ k x, x ∈ shF vs k → x < n) := Lib.hid fun k => sh_lt vs k n hvs
  have HNL : Hid (∀ ws, (∀ x, x ∈ ws → x < n) → (nfR rs ws).length = ws.length) := Lib.hid fun ws hw => by
    have e : nfR rs ws = nfM (RDep rs) n ws := by unfold nfR; rw [hl]
    have hsym : ∀ a b, RDep rs a b = RDep rs b a := rdep_sym rs n hl hr hdep
    have href : ∀ a, a < n → RDep rs a a = true := fun a ha => hdep.1 a (by omega)
    rw [e]
    exact Eqv.len hsym href _ ws (fun x hx => by
      unfold nfM at hx
      exact nfGo_ltR _ _ _ _ x hx) hw (nfGo_eqv hsym href ws.length ws rfl hw)
  have HT0 := Lib.hid (traceOf_any R A1 n m c d rs vs w h h2 hm (by omega) HRK.out HR63.out hT)
  have HV0 : Hid (rtF rs vs = rtGo rs vs m) := Lib.hid (by unfold rtF; rw [HLV.out])
  have HN0L : Hid ((nfR rs vs).length = m) := Lib.hid (by rw [HNL.out vs HVN.out, HLV.out])
  obtain ⟨V, hV⟩ : ∃ V, V = rtF rs vs := ⟨_, rfl⟩
  rw [← hV] at HV0 ⊢
  clear hV hr hl hdep hvs
  go_enter Tryd.func84, Tryd.ntmps84
  go_wp2_with fail
  refine HT0.out.mono ?_
  rintro e v0 ⟨E0, g0, F0, k0, es0, rfl, hp0, hs0, hh1, hh2, -, -, ha0⟩
  have HNF0 := Lib.hid (nf_from E0 F0 g0 k0 m n rs vs es0 v0 HLR.out HR.out HDEP.out HLV.out HRK.out hm hp0 hs0 hh1 hh2 (hT.below ha0))
  clear hp0 hs0 hh1 hh2
  go_wp2_with fail
  refine HNF0.out.mono ?_
  rintro e u0 ⟨G0, l0, rfl, o0, hb0⟩
  have hb00 := ha0.trans (hb0.mono ha0.size)
  have o0' := o0.mono ha0.size
  clear o0 hb0 ha0
  go_wp2_with fail
  go_loopw [7] (fun p wr => ∃ k : Nat, k ≤ m ∧ p = .int .i64 (k : Int) ∧ Hid (V = rtGo rs vs k) ∧ Own 2 wr w.heap.size G0 m l0 (ints (nfR rs vs)) ∧ Below w.heap.size w wr) (fun p _ => (intOf p).toNat)
  case atStart => exact ⟨m, Nat.le_refl _, rfl, HV0, o0', hb00⟩
  case round =>
    clear o0' hb00
    obtain ⟨k, hk, rfl, HV, oN, hb⟩ := hrel
    by_cases hk1 : 1 < k
    · have hI : (1 : Int) < (k : Int) := by omega
      have hrR := h.below hb
      have hrA := h2.below hb
      have hTw := hT.below hb
      have HSH := Lib.hid (share_any A1 m d k vs wr hrA hm (fun x hx => Nat.lt_of_lt_of_le (HVN.out x hx) (Nat.le_trans hn (by decide))) (by omega) (by omega))
      have hs1 := (HSL.out k).1
      have hs2 := (HSL.out k).2
      have HYE := Lib.hid (rtGo_yes rs vs k hk1)
      have HNE := Lib.hid (rtGo_no rs vs k hk1)
      have HPN := Lib.hid (HSN.out k)
      have HRL : Hid ((repV k (shF vs k)).length = (shF vs k).length * k) := Lib.hid (repV_len k _)
      obtain ⟨p, hp⟩ : ∃ p, p = shF vs k := ⟨_, rfl⟩
      rw [← hp] at HSH hs1 hs2 HYE HNE HPN HRL
      obtain ⟨q, hq⟩ : ∃ q, q = p.length := ⟨_, rfl⟩
      have HLP : Hid (p.length = q) := Lib.hid hq.symm
      rw [← hq] at HSH hs1 hs2 HRL
      obtain ⟨Q, hQ⟩ : ∃ Q, Q = q * k := ⟨_, rfl⟩
      have HQ := Lib.hid hQ
      rw [← hQ] at HRL hs1
      have HRN : Hid (∀ x, x ∈ repV k p → x < n) := Lib.hid fun x hx => HPN.out x (repV_mem hx)
      have HK1 : Hid (∀ x, x < Q → (repV k p).getD x 0 < n) := Lib.hid fun x hx => in_getD HRN.out x (by rw [HRL.out]; exact hx)
      have HK2 : Hid (∀ x, x < q → p.getD x 0 < n) := Lib.hid fun x hx => in_getD HPN.out x (by rw [HLP.out]; exact hx)
      have hQ24 : Q ≤ 24 := by omega
      have hq24 : q ≤ 24 := by omega
      have hk24 : k ≤ 24 := by omega
      have hn24 : n ≤ 24 := by omega
      clear hp hq hQ hk1
      go_wp2_with fail
      refine HSH.out.mono ?_
      rintro e w2 ⟨A2, c2, rfl, o2, hb2⟩
      have HRP := Lib.hid (repeat_ints A2 q c2 k p w2 o2.rd hq24 hk24)
      rw [← HQ.out] at HRP
      have r2 := o2.rd
      have oN2 := oN.below hb2
      have hbB2 := hb.trans (hb2.mono hb.size)
      clear o2 oN
      go_wp2_with fail
      refine HRP.out.mono ?_
      rintro e w3 ⟨A3, c3, rfl, o3, hb3⟩
      have r23 := r2.below hb3
      have oN3 := oN2.below hb3
      have hbB3 := hbB2.trans (hb3.mono hbB2.size)
      have HT1 := Lib.hid (traceOf_any R A3 n Q c c3 rs (repV k p) w3 (h.below hbB3) o3.rd hQ24 hn24 HK1.out HR63.out (hT.below hbB3))
      clear o3 r2 oN2 hb3 hb2
      go_wp2_with fail
      refine HT1.out.mono ?_
      rintro e v1 ⟨E1, g1, F1, k1, es1, rfl, hp1, hs1', hh1, hh2, -, -, ha1⟩
      have r24 := r23.below ha1
      have oN4 := oN3.below ha1
      have hbB4 := hbB3.trans (ha1.mono hbB3.size)
      have HN1 := Lib.hid (nf_from E1 F1 g1 k1 Q n rs (repV k p) es1 v1 HLR.out HR.out HDEP.out HRL.out HK1.out hQ24 hp1 hs1' hh1 hh2 (hT.below hbB4))
      clear hp1 hs1' hh1 hh2 r23 oN3 ha1
      go_wp2_with fail
      refine HN1.out.mono ?_
      rintro e u1 ⟨G1, l1, rfl, o1, hb1⟩
      have r25 := r24.below hb1
      have oN5 := oN4.below hb1
      have hbB5 := hbB4.trans (hb1.mono hbB4.size)
      have HEQ := Lib.hid (equal64_two G1 G0 Q m l1 l0 (ints (nfR rs (repV k p))) (ints (nfR rs vs)) u1 o1.rd oN5.rd (by omega))
      clear o1 r24 oN4 hb1
      have HDE : Hid (decide (ints (nfR rs (repV k p)) = ints (nfR rs vs)) = decide (nfR rs (repV k p) = nfR rs vs)) := Lib.hid (by rw [decide_eq_decide]; exact ints_inj _ _)
      rw [HDE.out] at HEQ
      by_cases heq : nfR rs (repV k p) = nfR rs vs
      · rw [decide_eq_true heq] at HEQ
        have HVA : Hid (V = (nfR rs p, k)) := Lib.hid (by rw [HV.out, HYE.out heq])
        have hNP := HNL.out p HPN.out
        rw [HLP.out] at hNP
        have HNP := Lib.hid hNP
        clear heq hNP
        go_wp2_with fail
        refine HEQ.out.mono ?_
        rintro e w6 ⟨rfl, hb6⟩
        have r26 := r25.below hb6
        have hbB6 := hbB5.trans (hb6.mono hbB5.size)
        have HT2 := Lib.hid (traceOf_any R A2 n q c c2 rs p w6 (h.below hbB6) r26 hq24 hn24 HK2.out HR63.out (hT.below hbB6))
        go_wp2_with fail
        refine HT2.out.mono ?_
        rintro e v2 ⟨E2, g2, F2, k2, es2, rfl, hp2, hs2', hh1, hh2, -, -, ha2⟩
        have hbB7 := hbB6.trans (ha2.mono hbB6.size)
        have HN2 := Lib.hid (nf_from E2 F2 g2 k2 q n rs p es2 v2 HLR.out HR.out HDEP.out HLP.out HK2.out hq24 hp2 hs2' hh1 hh2 (hT.below hbB7))
        clear hp2 hs2' hh1 hh2
        go_wp2_with fail
        refine HN2.out.mono ?_
        rintro e u2 ⟨G2, l2, rfl, o2, hb2⟩
        have hwk : wrap64 (k : Int) = (k : Int) := by unfold wrap64; omega
        go_wp2_with fail
        go_ret2
        rw [HVA.out]
        refine ⟨G2, l2, ?_, ?_, hbB7.trans (hb2.mono hbB7.size)⟩
        · show _ = Ending.returned (.tuple #[.slice G2 (nfR rs p).length l2, .int .i64 (k : Int)])
          rw [HNP.out]; rfl
        · show Own _ _ _ G2 (nfR rs p).length l2 (ints (nfR rs p))
          rw [HNP.out]
          exact o2.mono hbB7.size
      · rw [decide_eq_false heq] at HEQ
        have HVA : Hid (V = rtGo rs vs (k - 1)) := Lib.hid (by rw [HV.out, HNE.out heq])
        have hsub : wrap64 ((k : Int) - 1) = ((k - 1 : Nat) : Int) := by unfold wrap64; omega
        have hsb2 : (k : Int) - 1 = ((k - 1 : Nat) : Int) := by omega
        clear heq
        go_wp2_with fail
        refine HEQ.out.mono ?_
        rintro e w6 ⟨rfl, hb6⟩
        have hbB6 := hbB5.trans (hb6.mono hbB5.size)
        have oN6 := oN5.below hb6
        go_wp2_with fail
        go_roundw
        case rel => exact ⟨k - 1, by omega, by first | rfl | (rw [← hsb2]; go_num) | go_num, HVA, oN6, hbB6⟩
        case measure => simp [intOf]; omega
    · have hI : ¬ (1 : Int) < (k : Int) := by omega
      have HVA : Hid (V = (nfR rs vs, 1)) := Lib.hid (by rw [HV.out, rtGo_end rs vs k (by omega)])
      go_wp2_with fail
      go_ret2
      rw [HVA.out]
      refine ⟨G0, l0, ?_, ?_, hb⟩
      · show _ = Ending.returned (.tuple #[.slice G0 (nfR rs vs).length l0, .int .i64 ((1 : Nat) : Int)])
        rw [HN0L.out]; rfl
      · show Own _ _ _ G0 (nfR rs vs).length l0 (ints (nfR rs vs))
        rw [HN0L.out]
        exact oN
end Go.Proofs.YtdafdffmkjhhcaaDoor
