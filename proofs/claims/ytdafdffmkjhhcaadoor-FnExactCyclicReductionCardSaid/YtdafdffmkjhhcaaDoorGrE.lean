/-
  The normal form of an element: the program's side.
-/
import Derived.Test.YtdafdffmkjhhcaaDoorGrW
import Derived.Test.YtdafdffmkjhhcaaDoorGrV
namespace Go.Proofs.YtdafdffmkjhhcaaDoor
open Go Go.RowKit
set_option linter.unusedVariables false
set_option linter.unusedSimpArgs false
set_option maxRecDepth 100000

def pF (ds W : List Nat) : List Nat × Int := if 24 < W.length then ([], 3) else (nfR ds W, 0)
theorem pF_long (ds W : List Nat) (h : 24 < W.length) : pF ds W = ([], 3) := if_pos h
theorem pF_yes (ds W : List Nat) (h : W.length ≤ 24) : pF ds W = (nfR ds W, 0) := if_neg (by omega)
def eF (ds W : List Nat) : List Int × Int := ((pF ds W).1.map outI, (pF ds W).2)
theorem eF_len (ds W : List Nat) : (eF ds W).1.length ≤ 24 := by
  unfold eF
  rcases Nat.lt_or_ge 24 W.length with h | h
  · rw [pF_long ds W h]; simp
  · rw [pF_yes ds W h, List.length_map]; exact Nat.le_trans (nfR_len ds W) h
set_option maxHeartbeats 1600000 in
theorem product_w (R A1 T : Option Addr) (N c m d cT : Nat) (ds W : List Nat) (w : World) (hrd : Rd w R N (ints ds)) (hN : N ≤ 16) (hl : ds.length = N) (hr : ∀ i, ds.getD i 0 < 2 ^ N) (hdep : Dep ds)
    (h2 : Rd w A1 m (ints W)) (hm : m ≤ 900) (hW : ∀ x, x ∈ W → x < N) (hRT : RdT w T 1 [(A1, m, d, ints W)]) (hT : Tab w) :
    Calls Tryd.prog 100 #[.slice R N c, .slice T 1 cT] w (LsPost w (ints (pF ds W).1).length (ints (pF ds W).1) (pF ds W).2) := by
  have HLK : Hid (W.length = m) := Lib.hid (by have := h2.1; rw [ints_len] at this; exact this)
  have HLR := Lib.hid hl
  have HR := Lib.hid hr
  have HDEP := Lib.hid hdep
  have HR63 : Hid (∀ i, ds.getD i 0 < 9223372036854775808) := Lib.hid fun i => lt63 (by omega) (hr i)
  have HCO := Lib.hid (concat_int T 1 cT _ [ints W] w hRT (by omega) rfl (fun k t hk => by
    match k, hk with
    | 0, hk => injection hk with hk; subst hk; rfl
    | k + 1, hk => simp at hk) (fun k => by
    match k with
    | 0 => show (ints W).length ≤ 1024; rw [ints_len, HLK.out]; omega
    | k + 1 => simp))
  rw [show [ints W].flatten = ints W by simp, ints_len, HLK.out] at HCO
  have HRK : Hid (∀ x, x < m → W.getD x 0 < N) := Lib.hid fun x hx => in_getD hW x (by rw [HLK.out]; exact hx)
  by_cases hlong : 24 < m
  · have HA := Lib.hid (pF_long ds W (by rw [HLK.out]; exact hlong))
    have hI : (24 : Int) < (m : Int) := by omega
    clear hlong hl hr hdep hW
    go_enter Tryd.func100, Tryd.ntmps100
    go_wp2_with fail
    refine HCO.out.mono ?_
    rintro e w1 ⟨A3, c3, rfl, o3, hb⟩
    go_wp2_with fail
    go_ret2
    rw [HA.out]
    exact LsPost.of_ans (ans_no 3 hb)
  · have HA := Lib.hid (pF_yes ds W (by rw [HLK.out]; omega))
    have hk24 : m ≤ 24 := by omega
    have hI : (m : Int) ≤ 24 := by omega
    have h24 : N ≤ 24 := by omega
    clear hlong hl hr hdep hW
    go_enter Tryd.func100, Tryd.ntmps100
    go_wp2_with fail
    refine HCO.out.mono ?_
    rintro e w1 ⟨A3, c3, rfl, o3, hb⟩
    have hrd1 := hrd.below hb
    have hW1 := o3.rd
    have hT1 := hT.below hb
    have HT1 := Lib.hid (traceOf_any R A3 N m c c3 ds W _ hrd1 hW1 hk24 h24 HRK.out HR63.out hT1)
    go_wp2_with fail
    refine HT1.out.mono ?_
    rintro e v1 ⟨E1, g1, F1, k1, es1, rfl, hp, hs, h1, h2, -, -, ha1⟩
    have HN1 := Lib.hid (nf_from E1 F1 g1 k1 m N ds W es1 v1 HLR.out HR.out HDEP.out HLK.out HRK.out hk24 hp hs h1 h2 ((hT1).below ha1))
    clear hp hs h1 h2
    go_wp2_with fail
    refine HN1.out.mono ?_
    rintro e u1 ⟨G1, l1, rfl, ho1, hb1⟩
    go_wp2_with fail
    go_ret2
    rw [HA.out]
    have HZ := hb.trans (ha1.mono hb.size)
    exact LsPost.of_ans (ans_yes ho1.len (ho1.mono HZ.size) (HZ.trans (hb1.mono HZ.size)))
set_option maxHeartbeats 3200000 in
theorem element_any (R T : Option Addr) (N cr nT cT : Nat) (ds : List Nat) (ts : List (Option Addr × Nat × Nat × List Int)) (Ws : List (List Nat)) (w : World) (hR : Rd w R N (ints ds)) (hN : N ≤ 16) (hl : ds.length = N) (hr : ∀ i, ds.getD i 0 < 2 ^ N) (hgd : GD (RDep ds) N) (hdep : Dep ds)
    (hRT : RdT w T nT ts) (hnT : nT ≤ 24) (hlW : Ws.length = nT) (hW : ∀ k t, ts[k]? = some t → t.2.2.2 = ints (Ws.getD k [])) (hWm : ∀ k, (Ws.getD k []).length ≤ 576) (hWl : Ws.flatten.length ≤ 900) (hWn : ∀ x, x ∈ Ws.flatten → x < N) (hT : Tab w) :
    Calls Tryd.prog 76 #[.agg #[.slice R N cr], .slice T nT cT] w (LsPost w (eF ds (redW (RDep ds) Ws.flatten)).1.length (eF ds (redW (RDep ds) Ws.flatten)).1 (eF ds (redW (RDep ds) Ws.flatten)).2) := by
  have mixed : Tryd.prog.follows .mixedOrders = true := by kernel_rfl
  have HB := Lib.hid (below1 w (.cells #[.slice R N cr] 93))
  have g0 : Boxed (w.alloc (.cells #[.slice R N cr] 93)) w.heap.size 93 (.slice R N cr) := Boxed.new w _ _
  have hR1 := hR.below HB.out
  have HRE := Lib.hid (reduced_any R T N cr nT cT ds ts Ws (w.alloc (.cells #[.slice R N cr] 93)).drew (hR1.below (Below.refl _ _).drew) hN hl hr hgd ((hRT.below HB.out).below (Below.refl _ _).drew) hnT hlW hW hWm hWl hWn)
  have HWL : Hid (∀ x, x ∈ redW (RDep ds) Ws.flatten → x < N) := Lib.hid (redW_lt hWn)
  have HLE : Hid ((redW (RDep ds) Ws.flatten).length ≤ 900) := Lib.hid (Nat.le_trans (redW_len _) hWl)
  obtain ⟨W, hWW⟩ : ∃ W, W = redW (RDep ds) Ws.flatten := ⟨_, rfl⟩
  rw [← hWW] at HRE HWL HLE ⊢
  obtain ⟨m, hm⟩ : ∃ m, m = W.length := ⟨_, rfl⟩
  rw [← hm] at HRE HLE
  have HM := Lib.hid hm
  have HL := Lib.hid hl
  have HR := Lib.hid hr
  have HDEP := Lib.hid hdep
  have HE : Hid (eF ds W = ((pF ds W).1.map outI, (pF ds W).2)) := Lib.hid rfl
  have HPN : Hid (∀ x, x ∈ (pF ds W).1 → x < 48) := Lib.hid (fun x hx => by
    rcases Nat.lt_or_ge 24 W.length with h | h
    · rw [pF_long ds W h] at hx; cases hx
    · rw [pF_yes ds W h] at hx; have := nfR_ltG ds W x hx; omega)
  have HPL : Hid ((pF ds W).1.length ≤ 24) := Lib.hid (by have := eF_len ds W; unfold eF at this; rwa [List.length_map] at this)
  obtain ⟨wA, hwA⟩ : ∃ wA, wA = w.alloc (.cells #[.slice R N cr] 93) := ⟨_, rfl⟩
  rw [← hwA] at HB g0 hR1 HRE
  have HPR : Hid (∀ (wq : World) (Aq : Option Addr) (cq : Nat), Below wA.heap.size wA wq → Rd wq Aq m (ints W) → Calls Tryd.prog 100 #[.slice R N cr, .slice (some ⟨wq.heap.size, 0, none⟩) 1 1] (wq.alloc (.cells #[.slice Aq m cq] 22)) (LsPost (wq.alloc (.cells #[.slice Aq m cq] 22)) (ints (pF ds W).1).length (ints (pF ds W).1) (pF ds W).2)) := Lib.hid (fun wq Aq cq hq ho =>
    product_w R Aq _ N cr m cq 1 ds W _ ((hR1.below hq).below (below1 _ _)) hN HL.out HR.out HDEP.out (ho.below (below1 _ _)) HLE.out HWL.out (rdT_one wq Aq m cq (ints W) _ ho (by have := HLE.out; unfold maxLen; omega)) (((hT.below HB.out).below hq).below (below1 _ _)))
  obtain ⟨pw, pc, hP⟩ : ∃ pw pc, pF ds W = (pw, pc) := ⟨_, _, rfl⟩
  rw [hP] at HE HPN HPL HPR
  obtain ⟨Z, hZ⟩ : ∃ Z, Z = pw.map outI := ⟨_, rfl⟩
  obtain ⟨pl, hpl⟩ : ∃ pl, pl = pw.length := ⟨_, rfl⟩
  have HZL : Hid (Z.length = pl) := Lib.hid (by rw [hZ, hpl]; exact List.length_map ..)
  have HPR : Hid (∀ (wq : World) (Aq : Option Addr) (cq : Nat), Below wA.heap.size wA wq → Rd wq Aq m (ints W) → Calls Tryd.prog 100 #[.slice R N cr, .slice (some ⟨wq.heap.size, 0, none⟩) 1 1] (wq.alloc (.cells #[.slice Aq m cq] 22)) (LsPost (wq.alloc (.cells #[.slice Aq m cq] 22)) pl (ints pw) pc)) := Lib.hid (by
    intro wq Aq cq h1 h2
    have h3 := HPR.out wq Aq cq h1 h2
    rw [ints_len, show (pw, pc).1.length = pl from hpl.symm] at h3
    exact h3)
  have HSG : Hid (∀ (A7 : Option Addr) (c7 : Nat) (w7 : World), Rd w7 A7 pl (ints pw) → Calls Tryd.prog 127 #[.slice A7 pl c7] w7 (MakesE 2 w7 pl Z)) := Lib.hid (fun A7 c7 w7 h7 => by rw [hZ]; exact signedWord_any A7 pl c7 pw w7 h7 (by rw [hpl]; have : pw.length ≤ 24 := HPL.out; omega) HPN.out)
  have HE2 : eF ds W = (Z, pc) := by rw [HE.out, hZ]
  rw [HE2]
  show Calls _ _ _ _ (LsPost w Z.length Z pc)
  rw [HZL.out]
  clear hWW hm hl hr hdep hgd hW hWm hWl hWn hlW hRT hP HE HE2 hZ hpl HPN HPL HM HWL HDEP HL HR HLE
  have gc := g0.cell
  have hC : Below wA.heap.size wA wA.drew := (Below.refl _ _).drew
  go_enter Tryd.func76, Tryd.ntmps76
  go_wp2_with fail
  rw [← hwA]
  clear hwA
  go_region_law (first
    | (go_simp; (with_reducible refine HRE.out.mono ?_); rintro e wq ⟨Aq, cq, rfl, oq, hq⟩; have hC := hC.trans (hq.mono hC.size); have gbq : Boxed wq w.heap.size 93 (.slice R N cr) := (hC.block _ g0.lt).trans g0; have gc := gbq.cell; have gcl : ∀ o : Obj, (wq.alloc o).cell? ⟨w.heap.size, 0, none⟩ = some (.slice R N cr) := fun o => (gbq.alloc o).cell)
    | (go_simp; (with_reducible refine (HPR.out wq Aq cq hC oq.rd).mono ?_); rintro e wr ⟨Ar, crr, rfl, orr, hr⟩; have HOR := Lib.hid orr; have HBR : Hid (Below w.heap.size w wr) := Lib.hid (have h1 := HB.out.trans (hC.mono HB.out.size); have h2 := h1.trans ((below1 wq (.cells #[.slice Aq m cq] 22)).mono h1.size); h2.trans (hr.mono h2.size)); clear orr hr))
  all_goals
    have HSW := Lib.hid (HSG.out Ar crr wr HOR.out.rd)
    clear gc gcl HSG HPR HRE
    go_wp2_with fail
    refine HSW.out.mono ?_
    rintro e w7 ⟨A7, c7, rfl, o7, hb7⟩
    go_wp2_with fail
    go_ret2
    exact ⟨A7, c7, rfl, o7.mono HBR.out.size, HBR.out.trans (hb7.mono HBR.out.size)⟩
end Go.Proofs.YtdafdffmkjhhcaaDoor
