/-
  CliquePolynomial: both sides.
-/
import Derived.Test.YtkifadmoedackaaDoorCpC
import Derived.Maps.AppendAt
namespace Go.Proofs.YtkifadmoedackaaDoor
open Go Go.RowKit
set_option linter.unusedVariables false
set_option maxRecDepth 100000

theorem steps_lt (rs : List Nat) (h : rs.length ≤ 8) : ∀ s, s ∈ stepsM rs → s < 256 := by
  intro s hs
  unfold stepsM at hs
  have h1 := List.mem_range.1 (List.mem_filter.1 hs).1
  have h2 : 2 ^ rs.length ≤ 256 := Nat.pow_le_pow_right (by decide) h
  omega
theorem cpStep_of (xs ys : List Int) (s k : Nat) (hk : ones24 s = k) (hp : padM ys k = padM xs k) (hl : k < ys.length) : cpStep xs s = ys.set k (ys.getD k 0 + sgnM k) := by
  unfold cpStep
  rw [hk, ← hp, padM_done ys k hl]
theorem snoc_zero (ys : List Int) : ys.map (Value.int .i64) ++ [Value.int .i64 0] = (ys ++ [0]).map (Value.int .i64) := by simp
set_option maxHeartbeats 3200000 in
theorem cliquePolynomial_any (A : Option Addr) (n c : Nat) (rs : List Nat) (w : World) (h : Rd w A n (ints rs)) (h8 : n ≤ 8) (hr : ∀ i, rs.getD i 0 < 2 ^ n) (hd : Dep rs) (hT : Tab w) :
    Calls Tryd.prog 50 #[.slice A n c] w (MakesE 2 w (cpM (stepsM rs)).length (cpM (stepsM rs))) := by
  have hl : rs.length = n := by have := h.1; rw [ints_len] at this; exact this
  have hlt := steps_lt rs (by omega)
  have hle := stepsM_len rs (by omega)
  have HI := Lib.hid (indep_any A n c rs w h h8 hr hd hT)
  obtain ⟨i0, hi, hz0, hz1, hz2⟩ := info_parts info_int
  obtain ⟨fs, hfs⟩ : ∃ fs, fs = stepsM rs := ⟨_, rfl⟩
  rw [← hfs] at HI hlt hle ⊢
  have HF := Lib.hid (cp_facts fs hlt)
  have HLT := Lib.hid hlt
  obtain ⟨F, hF⟩ : ∃ F, F = fs.length := ⟨_, rfl⟩
  rw [← hF] at HI HF hle
  have HFL := Lib.hid hF
  clear hlt hfs hl hF h hr hd hT
  go_enter Tryd.func50, Tryd.ntmps50
  go_wp2_with fail
  refine HI.out.mono ?_
  rintro e w1 ⟨A1, c1, rfl, ho1, hb1⟩
  have HLEN : Hid ((ints fs).length = F) := Lib.hid (by rw [ints_len, HFL.out])
  go_wp2_with fail
  go_loopw [3, 9] (fun v i wr => ∃ (t q : Nat) (A2 : Option Addr) (c2 : Nat), t ≤ F ∧ i = .int .i64 t ∧ v = .slice A2 q c2 ∧ Own 2 wr w1.heap.size A2 q c2 (cpM (fs.take t)) ∧ Below w1.heap.size w1 wr) (fun _ i _ => F - (intOf i).toNat)
  case atStart => exact ⟨0, 0, none, 0, Nat.zero_le _, rfl, rfl, Own.nil _ _ _, Below.refl _ _⟩
  case round =>
    obtain ⟨t, q, A2, c2, ht, rfl, rfl, ho, hb⟩ := hrel
    by_cases hlt : t < F
    · obtain ⟨b, off, x, rfl, hbs, hx, hcx⟩ := (ho1.rd.below hb).at_ hlt
      obtain ⟨s, hs, rfl⟩ := nats_at fs t x (by rw [← HFL.out]; exact hlt) hx
      have hs8 := HLT.out s (List.mem_of_getElem? hs)
      have HS1 : Hid (∀ ww : World, Calls Tryd.prog 82 #[.int .i64 (s : Int)] ww fun e w' => e = .returned (.int .i64 ((ones24 s : Nat) : Int)) ∧ ww = w') := Lib.hid fun ww => size_is s (by omega) ww
      have HS2 : Hid (∀ ww : World, Calls Tryd.prog 95 #[.int .i64 (s : Int)] ww fun e w' => e = .returned (.int .i64 (sgnM (ones24 s))) ∧ ww = w') := Lib.hid fun ww => sign_is s hs8 ww
      have hk8 := ones24_8 s hs8
      have HN := Lib.hid (cpM_next fs t s hs)
      have HQ := Lib.hid ho.len
      obtain ⟨hq9, hv0⟩ := HF.out t (by omega)
      have HV := Lib.hid hv0
      have HST := Lib.hid (fun ys hp hl => cpStep_of (cpM (fs.take t)) ys s (ones24 s) rfl hp hl)
      have hg := sgnM_small (ones24 s)
      obtain ⟨k, hk⟩ : ∃ k, k = ones24 s := ⟨_, rfl⟩
      rw [← hk] at HS1 HS2 hk8 HST hg
      obtain ⟨xs, hxs⟩ : ∃ xs, xs = cpM (fs.take t) := ⟨_, rfl⟩
      rw [← hxs] at ho HN HV HST HQ hq9
      obtain ⟨G, hG⟩ : ∃ G, G = sgnM k := ⟨_, rfl⟩
      rw [← hG] at HS2 HST hg
      rw [HQ.out] at hq9
      clear hx hk hxs hv0 hs hG
      obtain ⟨w2, rfl⟩ : ∃ w9 : World, w9 = wr := ⟨_, rfl⟩
      go_wp2_with fail
      go_loopw [3] (fun v wx => ∃ (q1 : Nat) (A3 : Option Addr) (c3 : Nat) (ys : List Int), q1 ≤ 9 ∧ v = .slice A3 q1 c3 ∧ Own 2 wx w1.heap.size A3 q1 c3 ys ∧ Below w1.heap.size w1 wx ∧ Hid (padM ys k = padM xs k)) (fun v _ => k + 1 - (match v with | .slice _ n _ => n | _ => 0))
      case atStart => exact ⟨q, A2, c2, xs, hq9, rfl, ho, hb, Lib.hid rfl⟩
      case round =>
        clear ho hcx
        obtain ⟨q1, A3, c3, ys, hq1, rfl, ho, hb3, HP⟩ := hrel
        have HYL := Lib.hid ho.len
        by_cases hqk : q1 ≤ k
        · have hml : q1 + 1 ≤ maxLen := by unfold maxLen; omega
          have hby2 : (q1 + 1) * 8 ≤ 140737488355328 := by omega
          have HPN : Hid (padM (ys ++ [0]) k = padM xs k) := Lib.hid ((padM_next ys k (by rw [HYL.out]; exact hqk)).trans HP.out)
          obtain ⟨w3, rfl⟩ : ∃ w9 : World, w9 = wr := ⟨_, rfl⟩
          go_wp2_with fail
          refine (HS1.out _).mono ?_
          rintro e w' ⟨rfl, rfl⟩
          go_wp2_with (at_builtin; refine wpList_append_own _ rfl _ _ 22 rfl w1.heap.size 2 i0 (.int .i64 0) 1 8 Tryd.underlying22 hi hz0 hz1 hz2 rfl (by decide) (.slice A3 q1 c3) q1 (ys.map (Value.int .i64)) rfl (World.ownsRow.alloc ho _) ⟨w3.heap.size, 0, none⟩ 1 1 [.int .i64 0] rfl rfl ?s1 ?s2 hml hby2 ?s5 ?_)
          case s1 => exact cell_one_new _ _ _
          case s2 => intro u hu; simp at hu; subst hu; rfl
          case s5 => have := hb3.size; simp; omega
          intro v' w4 hown hg4 _
          rw [snoc_zero] at hown
          have hb4 : Below w1.heap.size w1 w4 := (hb3.alloc hb3.size _).grown hg4 (by have := hb3.size; simp; omega) (fun g hgr => (World.ownsRow.lt ho g hgr).1)
          obtain ⟨A4, c4, hv, ho4⟩ := own_shape hown
          rw [hv]
          clear hg4 hown hv
          go_wp2_with fail
          go_roundw
          case rel => exact ⟨q1 + 1, A4, c4, ys ++ [0], by omega, rfl, ho4, hb4, HPN⟩
          case measure => simp; omega
        · have hky : k < ys.length := by rw [HYL.out]; omega
          have HE := Lib.hid (HST.out ys HP.out hky)
          have HVK : Hid (-(t : Int) ≤ ys.getD k 0 ∧ ys.getD k 0 ≤ t) := Lib.hid (by
            have h9 := HV.out k
            rw [← getD_pad xs k, ← HP.out, getD_pad] at h9; exact h9)
          have hvb := HVK.out
          have hgy : ys[k]? = some (ys.getD k 0) := by rw [List.getD_eq_getElem?_getD, List.getElem?_eq_getElem hky]; rfl
          obtain ⟨g, rfl, hgB, hgl⟩ := ho.form (by omega)
          have hf : wr.drew.frozen? ⟨g, k, none⟩ = false := ho.frozen k
          have hc2 : wr.drew.cell? ⟨g, k, none⟩ = some (.int .i64 (ys.getD k 0)) := ho.cell hgy
          have hc1 : wr.cell? ⟨g, k, none⟩ = some (.int .i64 (ys.getD k 0)) := ho.cell hgy
          have ho2 := ho.set_ k (ys.getD k 0 + G)
          rw [← HE.out, ← HN.out] at ho2
          obtain ⟨V, hV⟩ : ∃ V, V = ys.getD k 0 := ⟨_, rfl⟩
          rw [← hV] at hc1 hc2 hvb ho2
          have hw1 : IntKind.i64.wrap (V + G) = V + G := by rw [IntKind.wrap_i64]; omega
          have hb2 := (hb3.drew).setCell (p := ⟨g, k, none⟩) hgB (.int .i64 (V + G))
          have hkq : k < q1 := by omega
          clear hky hgy hV
          go_wp2_with fail
          refine (HS1.out _).mono ?_
          rintro e w' ⟨rfl, rfl⟩
          go_wp2_with fail
          go_still_tail 9, (by kernel_rfl)
          still_call ((HS1.out _).mono fun _ _ ⟨he, hw⟩ => ⟨he, hw.symm⟩)
          repeat still_step
          still_call ((HS2.out _).mono fun _ _ ⟨he, hw⟩ => ⟨he, hw.symm⟩)
          repeat still_step
          refine wpStill_nil ?_
          change wpList _ _ _ _ _ wr.drew
          have ho5 : Own 2 (wr.drew.setCell ⟨g, k, none⟩ (.int .i64 (V + G))) w1.heap.size (some ⟨g, 0, none⟩) q1 c3 (cpM (fs.take (t + 1))) := ho2
          go_wp2_with fail
          go_roundw
          case rel => exact ⟨t + 1, q1, _, c3, by omega, by go_num, rfl, ho5, hb2⟩
          case measure => simp [intOf]; omega
    · obtain rfl : t = F := by omega
      have e9 : fs.take t = fs := by rw [HFL.out]; exact List.take_length
      rw [e9] at ho
      have HQ := Lib.hid ho.len
      clear e9
      go_wp2_with fail
      go_ret
      show MakesE _ _ (cpM fs).length _ _ _
      rw [HQ.out]
      exact ⟨A2, c2, rfl, ho.mono hb1.size, hb1.trans (hb.mono hb1.size)⟩
def cpAns (L : Int) (xs : List Int) : List Int × Int := if alphB L xs = true then (cpM (stepsM (xs.map Int.toNat)), 0) else ([], 1)
theorem cpAns_no (L : Int) (xs : List Int) (h : alphB L xs = false) : cpAns L xs = ([], 1) := by unfold cpAns; rw [if_neg (by rw [h]; decide)]
theorem cpAns_yes (n : Nat) (rs : List Nat) (h : alphB (n : Int) (ints rs) = true) : cpAns (n : Int) (ints rs) = (cpM (stepsM rs), 0) := by unfold cpAns; rw [if_pos h, ints_toNat]
theorem cpAns_small (L : Int) (xs : List Int) : (cpAns L xs).1.length ≤ 9 := by
  unfold cpAns
  split
  · rename_i h
    obtain ⟨rs, rfl, rfl, h8, _, _, hl, _, e⟩ := alphB_nats L xs _ rfl h
    rw [e]
    exact cpM_len rs (by omega)
  · exact Nat.zero_le _
set_option maxHeartbeats 800000 in
theorem implCliquePolynomial (L : Int) (A : Option Addr) (n c : Nat) (xs : List Int) (w : World) (h : Rd w A n xs) (hwf : Wf xs) (hL1 : -9223372036854775808 ≤ L) (hL2 : L ≤ 9223372036854775807) (hn : n ≤ 9223372036854775807) (hT : Tab w) :
    Calls Tryd.prog 16 #[.agg #[.int .i64 L, .slice A n c]] w (LsPost w (cpAns L xs).1.length (cpAns L xs).1 (cpAns L xs).2) := by
  have HB := Lib.hid (below1 w (.cells #[.int .i64 L, .slice A n c] 28))
  have hh := h.below HB.out
  have hT1 := hT.below HB.out
  cases ha : alphB L xs
  · rw [cpAns_no L xs ha]
    have HA := Lib.hid ha
    clear ha
    go_enter Tryd.func16, Tryd.ntmps16
    go_wp2_with fail
    refine (dependenceOf_no L _ _ _ xs _ hh hwf hL1 hL2 hn HA.out hT1).mono ?_
    rintro e w1 ⟨rfl, hb⟩
    go_wp2_with fail
    go_ret2
    exact LsPost.of_ans (ans_no 1 (HB.out.trans (hb.mono HB.out.size)))
  · obtain ⟨rs, rfl, rfl, h8, hr, hrel, hl, hd, _⟩ := alphB_nats L xs n h.1 ha
    rw [cpAns_yes n rs ha]
    have HD := Lib.hid ((depB_iff rs n hl hr).1 hd)
    clear ha hl
    go_enter Tryd.func16, Tryd.ntmps16
    go_wp2_with fail
    refine (dependenceOf_yes _ _ _ _ rs _ hh hwf h8 rfl hr hrel hd hT1).mono ?_
    rintro e w1 ⟨A1, c1, rfl, ho1, hb1⟩
    have HB1 := Lib.hid (HB.out.trans (hb1.mono HB.out.size))
    have hT2 := hT1.below hb1
    have HCP := Lib.hid (cliquePolynomial_any A1 n c1 rs w1 ho1.rd h8 hr HD.out hT2)
    go_wp2_with fail
    refine HCP.out.mono ?_
    rintro e w2 ⟨A2, c2, rfl, ho2, hb2⟩
    obtain ⟨K, hK⟩ : ∃ K, K = (cpM (stepsM rs)).length := ⟨_, rfl⟩
    have HK := Lib.hid hK
    rw [← hK] at ho2 ⊢
    clear hK
    have ho3 := ho2.mono HB1.out.size
    have HB2 := Lib.hid (HB1.out.trans (hb2.mono HB1.out.size))
    go_wp2_with fail
    go_ret2
    exact LsPost.of_ans (ans_yes HK.out.symm ho3 HB2.out)
/-- Two own rows in blocks of their own. -/
def TwoOwn (w0 wr : World) (A2 : Option Addr) (q c2 : Nat) (xs : List Int) (A1 : Option Addr) (F c1 : Nat) (zs : List Int) : Prop :=
  Own 2 wr w0.heap.size A2 q c2 xs ∧ Own 2 wr w0.heap.size A1 F c1 zs ∧ (∀ k, A2.map (·.block) = some k → A1.map (·.block) ≠ some k) ∧ Below w0.heap.size w0 wr
theorem ownB (A : Option Addr) (n c : Nat) (k : Nat) : (Value.slice A n c).ownBlock = some k ↔ A.map (·.block) = some k := by
  cases A <;> simp [Value.ownBlock]
theorem TwoOwn.grow {w0 wr w4 : World} {o : Obj} {A2 A1 : Option Addr} {q c2 F c1 : Nat} {xs zs xs' : List Int} {v' : Value} (h : TwoOwn w0 wr A2 q c2 xs A1 F c1 zs)
    (hown : w4.ownsRow w0.heap.size 2 1 v' (q + 1) (xs'.map (Value.int .i64))) (hg : (wr.alloc o).grownBy w4 (Value.slice A2 q c2).ownBlock) (hat : v'.ownBlock = (Value.slice A2 q c2).ownBlock ∨ v'.ownBlock = some (wr.heap.size + 1)) :
    ∃ A3 c3, v' = .slice A3 (q + 1) c3 ∧ TwoOwn w0 w4 A3 (q + 1) c3 xs' A1 F c1 zs := by
  obtain ⟨o2, o1, s, hb⟩ := h
  obtain ⟨A3, c3, rfl, ho3⟩ := own_shape hown
  have hsz : (wr.alloc o).heap.size = wr.heap.size + 1 := by simp
  refine ⟨A3, c3, rfl, ho3, (o1.below (below1 wr o)).apart hg (fun k hk e => s k ((ownB _ _ _ _).1 e) hk), fun k hk e => ?_, (hb.alloc hb.size o).grown hg (by have := hb.size; omega) (fun r e => (o2.lt r ((ownB _ _ _ _).1 e)).1)⟩
  have hk' := (ownB A3 (q + 1) c3 k).2 hk
  rcases hat with h9 | h9
  · rw [hk'] at h9; exact s k ((ownB _ _ _ _).1 h9.symm) e
  · rw [hk'] at h9; injection h9 with h9; have := (o1.lt k e).2; omega
theorem TwoOwn.put {w0 wr : World} {g : Nat} {A1 : Option Addr} {q c2 F c1 : Nat} {xs zs : List Int} (h : TwoOwn w0 wr (some ⟨g, 0, none⟩) q c2 xs A1 F c1 zs) (k : Nat) (x : Int) :
    TwoOwn w0 (wr.setCell ⟨g, k, none⟩ (.int .i64 x)) (some ⟨g, 0, none⟩) q c2 (xs.set k x) A1 F c1 zs := by
  obtain ⟨o2, o1, s, hb⟩ := h
  exact ⟨o2.set_ k x, o1.apart (grown_set (World.grownBy.refl wr (some g)) k _) (fun r hr e => by injection e with e; subst e; exact s g rfl hr), s, hb.setCell (p := ⟨g, k, none⟩) ((o2.lt g rfl).1) _⟩
set_option maxHeartbeats 3200000 in
theorem l06Clique_any (A : Option Addr) (n c : Nat) (rs : List Nat) (w : World) (h : Rd w A n (ints rs)) (h8 : n ≤ 8) (hr : ∀ i, rs.getD i 0 < 2 ^ n) :
    Calls Tryd.prog 48 #[.agg #[.int .i64 (n : Int), .slice A n c]] w (MakesE 2 w (cpM (stepsM rs)).length (cpM (stepsM rs))) := by
  have hl : rs.length = n := by have := h.1; rw [ints_len] at this; exact this
  have HB := Lib.hid (below1 w (.cells #[.int .i64 (n : Int), .slice A n c] 28))
  have hh := h.below HB.out
  have x0 := box_new 28 w (n : Int) A n c
  have hlt := steps_lt rs (by omega)
  have hle := stepsM_len rs (by omega)
  have HI : Hid (∀ w9 : World, Rd w9 A n (ints rs) → Calls Tryd.prog 52 #[.agg #[.int .i64 (n : Int), .slice A n c]] w9 (MakesE 2 w9 (stepsM rs).length (ints (stepsM rs)))) := Lib.hid fun w9 h9 => steps_any A n c rs w9 h9 h8 hr
  obtain ⟨i0, hi, hz0, hz1, hz2⟩ := info_parts info_int
  obtain ⟨fs, hfs⟩ : ∃ fs, fs = stepsM rs := ⟨_, rfl⟩
  rw [← hfs] at HI hlt hle ⊢
  have HF := Lib.hid (cp_facts fs hlt)
  have HLT := Lib.hid hlt
  obtain ⟨F, hF⟩ : ∃ F, F = fs.length := ⟨_, rfl⟩
  rw [← hF] at HI HF hle
  have HFL := Lib.hid hF
  clear hlt hfs hl hF h hr
  have HSZ := Lib.hid (size1 w (.cells #[.int .i64 (n : Int), .slice A n c] 28))
  obtain ⟨w0, hw0⟩ : ∃ w0, w0 = w.alloc (.cells #[.int .i64 (n : Int), .slice A n c] 28) := ⟨_, rfl⟩
  rw [← hw0] at hh HSZ
  have HB0 := Lib.hid (show Below w.heap.size w w0 by rw [hw0]; exact HB.out)
  have hk1 := below1 w0 (.cells #[] 2)
  have y0 := (x0.next (by rw [← hw0]; exact hk1)).c0
  have y1 := (x0.next (by rw [← hw0]; exact hk1)).c1
  have HO : Own 2 (w0.alloc (.cells #[] 2)) w0.heap.size (some ⟨w0.heap.size, 0, none⟩) 0 0 [] := World.ownsRow_lit w0 #[] 0 (Nat.le_refl _) (by unfold maxLen; omega) rfl
  have HS0 := Lib.hid (HI.out _ (hh.below hk1))
  rw [hw0] at HS0
  clear HI hh x0
  go_enter Tryd.func48, Tryd.ntmps48
  go_wp2_with fail
  refine HS0.out.mono ?_
  rintro e w1 ⟨A1, c1, rfl, ho1, hb1⟩
  rw [← hw0] at hb1 ho1
  have HO1 := HO.below hb1
  have HB1 := Lib.hid (HB0.out.trans ((hk1.trans (hb1.mono hk1.size)).mono HB0.out.size))
  have HSB := Lib.hid (HB0.out.size)
  have HBW := Lib.hid (hk1.trans (hb1.mono hk1.size))
  have HO2 : Own 2 w1 w0.heap.size (some ⟨w.heap.size + 1, 0, none⟩) 0 0 [] := by rw [← HSZ.out]; exact HO1
  have HT2 : TwoOwn w0 w1 (some ⟨w.heap.size + 1, 0, none⟩) 0 0 [] A1 F c1 (ints fs) := ⟨HO2, ho1.mono (by simp), fun k hk e => by
    have h1 := (ho1.lt k e).1
    have h9 : w.heap.size + 1 = k := by injection hk
    have := HSZ.out
    simp at h1; omega, HBW.out⟩
  have HLEN : Hid ((ints fs).length = F) := Lib.hid (by rw [ints_len, HFL.out])
  clear hw0 HO HO1 hk1 y0 y1 HS0 HB ho1 HO2 hb1 HBW
  go_wp2_with fail
  go_loopw [3, 5] (fun v i wr => ∃ (t q : Nat) (A2 : Option Addr) (c2 : Nat), t ≤ F ∧ i = .int .i64 t ∧ v = .slice A2 q c2 ∧ TwoOwn w0 wr A2 q c2 (cpM (fs.take t)) A1 F c1 (ints fs)) (fun _ i _ => F - (intOf i).toNat)
  case atStart => exact ⟨0, 0, _, 0, Nat.zero_le _, rfl, rfl, HT2⟩
  case round =>
    obtain ⟨t, q, A2, c2, ht, rfl, rfl, h2⟩ := hrel
    by_cases hlt : t < F
    · obtain ⟨b, off, x, rfl, hbs, hx, hcx⟩ := h2.2.1.rd.at_ hlt
      obtain ⟨s, hs, rfl⟩ := nats_at fs t x (by rw [← HFL.out]; exact hlt) hx
      have hs8 := HLT.out s (List.mem_of_getElem? hs)
      have HS1 : Hid (∀ ww : World, Calls Tryd.prog 54 #[.int .i64 (s : Int)] ww fun e w' => e = .returned (.int .i64 ((ones24 s : Nat) : Int)) ∧ ww = w') := Lib.hid fun ww => bits8_any s hs8 ww
      have hk8 := ones24_8 s hs8
      have HN := Lib.hid (cpM_next fs t s hs)
      have HQ := Lib.hid h2.1.len
      obtain ⟨hq9, hv0⟩ := HF.out t (by omega)
      have HV := Lib.hid hv0
      have HST := Lib.hid (fun ys hp hl => cpStep_of (cpM (fs.take t)) ys s (ones24 s) rfl hp hl)
      obtain ⟨k, hk⟩ : ∃ k, k = ones24 s := ⟨_, rfl⟩
      rw [← hk] at HS1 hk8 HST
      obtain ⟨xs, hxs⟩ : ∃ xs, xs = cpM (fs.take t) := ⟨_, rfl⟩
      rw [← hxs] at h2 HN HV HST HQ hq9
      rw [HQ.out] at hq9
      clear hx hk hxs hv0 hs
      obtain ⟨w2, rfl⟩ : ∃ w9 : World, w9 = wr := ⟨_, rfl⟩
      go_wp2_with fail
      refine (HS1.out _).mono ?_
      rintro e w' ⟨rfl, rfl⟩
      go_wp2_with fail
      go_loopw [3] (fun v wx => ∃ (q1 : Nat) (A3 : Option Addr) (c3 : Nat) (ys : List Int), q1 ≤ 9 ∧ v = .slice A3 q1 c3 ∧ TwoOwn w0 wx A3 q1 c3 ys (some ⟨b, off, none⟩) F c1 (ints fs) ∧ Hid (padM ys k = padM xs k)) (fun v _ => k + 1 - (match v with | .slice _ n _ => n | _ => 0))
      case atStart => exact ⟨q, A2, c2, xs, hq9, rfl, h2, Lib.hid rfl⟩
      case round =>
        clear h2 hcx
        obtain ⟨q1, A3, c3, ys, hq1, rfl, h2, HP⟩ := hrel
        have HYL := Lib.hid h2.1.len
        have hb3 := h2.2.2.2
        by_cases hqk : q1 ≤ k
        · have hml : q1 + 1 ≤ maxLen := by unfold maxLen; omega
          have hby2 : (q1 + 1) * 8 ≤ 140737488355328 := by omega
          have HPN : Hid (padM (ys ++ [0]) k = padM xs k) := Lib.hid ((padM_next ys k (by rw [HYL.out]; exact hqk)).trans HP.out)
          obtain ⟨w3, rfl⟩ : ∃ w9 : World, w9 = wr := ⟨_, rfl⟩
          go_wp2_with (at_builtin; refine wpList_append_own_at _ rfl _ _ 22 rfl w0.heap.size 2 i0 (.int .i64 0) 1 8 Tryd.underlying22 hi hz0 hz1 hz2 rfl (by decide) (.slice A3 q1 c3) q1 (ys.map (Value.int .i64)) rfl (World.ownsRow.alloc h2.1 _) ⟨w3.heap.size, 0, none⟩ 1 1 [.int .i64 0] rfl rfl ?s1 ?s2 hml hby2 ?s5 ?_)
          case s1 => exact cell_one_new _ _ _
          case s2 => intro u hu; simp at hu; subst hu; rfl
          case s5 => have := hb3.size; simp; omega
          intro v' w4 hown hg4 _ hat
          rw [snoc_zero] at hown
          obtain ⟨A4, c4, hv, h4⟩ := h2.grow hown hg4 hat
          rw [hv]
          clear hg4 hown hv hat h2
          go_wp2_with fail
          go_roundw
          case rel => exact ⟨q1 + 1, A4, c4, ys ++ [0], by omega, rfl, h4, HPN⟩
          case measure => simp; omega
        · have hky : k < ys.length := by rw [HYL.out]; omega
          have HE := Lib.hid (HST.out ys HP.out hky)
          have HVK : Hid (-(t : Int) ≤ ys.getD k 0 ∧ ys.getD k 0 ≤ t) := Lib.hid (by
            have h9 := HV.out k
            rw [← getD_pad xs k, ← HP.out, getD_pad] at h9; exact h9)
          have hvb := HVK.out
          have hgy : ys[k]? = some (ys.getD k 0) := by rw [List.getD_eq_getElem?_getD, List.getElem?_eq_getElem hky]; rfl
          obtain ⟨g, rfl, hgB, hgl⟩ := h2.1.form (by omega)
          have hf : wr.frozen? ⟨g, k, none⟩ = false := h2.1.frozen k
          have hc1 : wr.cell? ⟨g, k, none⟩ = some (.int .i64 (ys.getD k 0)) := h2.1.cell hgy
          have h5 := h2.put k (ys.getD k 0 + sgnM k)
          rw [← HE.out, ← HN.out] at h5
          obtain ⟨V, hV⟩ : ∃ V, V = ys.getD k 0 := ⟨_, rfl⟩
          rw [← hV] at hc1 hvb h5
          have HZ : Hid (V + sgnM k = V + 1 - 2 * ((k : Int) % 2)) := Lib.hid (by unfold sgnM; omega)
          rw [HZ.out] at h5
          have hkq : k < q1 := by omega
          clear hky hgy hV h2
          go_wp2_with fail
          go_roundw
          case rel => exact ⟨t + 1, q1, _, c3, by omega, by go_num, rfl, h5⟩
          case measure => simp [intOf]; omega
    · obtain rfl : t = F := by omega
      have e9 : fs.take t = fs := by rw [HFL.out]; exact List.take_length
      rw [e9] at h2
      have HQ := Lib.hid h2.1.len
      clear e9
      go_wp2_with fail
      go_ret
      show MakesE _ _ (cpM fs).length _ _ _
      rw [HQ.out]
      exact ⟨A2, c2, rfl, h2.1.mono HB0.out.size, HB0.out.trans (h2.2.2.2.mono HB0.out.size)⟩
set_option maxHeartbeats 800000 in
theorem specCliquePolynomial (L : Int) (A : Option Addr) (n c : Nat) (xs : List Int) (w : World) (h : Rd w A n xs) (hwf : Wf xs) (hL1 : -9223372036854775808 ≤ L) (hL2 : L ≤ 9223372036854775807) (hn : n ≤ 9223372036854775807) :
    Calls Tryd.prog 14 #[.agg #[.int .i64 L, .slice A n c]] w (LsPost w (cpAns L xs).1.length (cpAns L xs).1 (cpAns L xs).2) := by
  have HB := Lib.hid (below1 w (.cells #[.int .i64 L, .slice A n c] 28))
  have hh := h.below HB.out
  have x0 := box_new 28 w L A n c
  cases ha : alphB L xs
  · rw [cpAns_no L xs ha]
    have HA := Lib.hid ha
    clear ha
    go_enter Tryd.func14, Tryd.ntmps14
    go_wp2_with fail
    refine (l02Is_any L _ _ _ xs _ hh hn).mono ?_
    rintro e w1 ⟨rfl, hb⟩
    rw [HA.out]
    go_wp2_with fail
    go_ret2
    exact LsPost.of_ans (ans_no 1 (HB.out.trans (hb.mono HB.out.size)))
  · obtain ⟨rs, rfl, rfl, h8, hr, hrel, hl, hd, _⟩ := alphB_nats L xs n h.1 ha
    rw [cpAns_yes n rs ha]
    have HA := Lib.hid ha
    clear ha hl
    go_enter Tryd.func14, Tryd.ntmps14
    go_wp2_with fail
    refine (l02Is_any _ _ _ _ _ _ hh hn).mono ?_
    rintro e w1 ⟨rfl, hb⟩
    rw [HA.out]
    have x1 := x0.next hb
    have y0 := x1.c0
    have y1 := x1.c1
    have HB1 := Lib.hid (HB.out.trans (hb.mono HB.out.size))
    have HCP := Lib.hid (l06Clique_any A n c rs w1 (hh.below hb) h8 hr)
    go_wp2_with fail
    refine HCP.out.mono ?_
    rintro e w2 ⟨A2, c2, rfl, ho2, hb2⟩
    obtain ⟨K, hK⟩ : ∃ K, K = (cpM (stepsM rs)).length := ⟨_, rfl⟩
    have HK := Lib.hid hK
    rw [← hK] at ho2 ⊢
    clear hK
    have ho3 := ho2.mono HB1.out.size
    have HB2 := Lib.hid (HB1.out.trans (hb2.mono HB1.out.size))
    go_wp2_with fail
    go_ret2
    exact LsPost.of_ans (ans_yes HK.out.symm ho3 HB2.out)
end Go.Proofs.YtkifadmoedackaaDoor
