/-
  The product of any words; the image of a word by a symmetry: the program's side. ApplySymmetry: the program's side. Symmetries: the model's side. ApplySymmetry: the model's side.
-/
import Derived.Test.YtcojodkcpemfdaaDoorMp
import Derived.Conc.MuLone
import Derived.Deep.RegionHeld3
namespace Go.Proofs.YtcojodkcpemfdaaDoor
open Go Go.RowKit
set_option linter.unusedVariables false
set_option maxRecDepth 100000

def poF (rs W : List Nat) : List Nat × Int := if 24 < W.length then ([], 3) else (nfR rs W, 0)
theorem poF_long (rs W : List Nat) (h : 24 < W.length) : poF rs W = ([], 3) := if_pos h
theorem poF_yes (rs W : List Nat) (h : W.length ≤ 24) : poF rs W = (nfR rs W, 0) := if_neg (by omega)
set_option maxHeartbeats 1600000 in
theorem product_any (A2 T : Option Addr) (n c2 nT cT : Nat) (rs : List Nat) (ts : List (Option Addr × Nat × Nat × List Int)) (Ws : List (List Nat)) (w : World) (hrd : Rd w A2 n (ints rs)) (h24 : n ≤ 24) (hl : rs.length = n) (hr : ∀ i, rs.getD i 0 < 2 ^ n) (hdep : Dep rs)
    (hRT : RdT w T nT ts) (hnT : nT ≤ 24) (hlW : Ws.length = nT) (hW : ∀ k t, ts[k]? = some t → t.2.2.2 = ints (Ws.getD k [])) (hWm : ∀ k, (Ws.getD k []).length ≤ 24) (hWn : ∀ x, x ∈ Ws.flatten → x < n) (hT : Tab w) :
    Calls Tryd.prog 139 #[.slice A2 n c2, .slice T nT cT] w (LsPost w (ints (poF rs Ws.flatten).1).length (ints (poF rs Ws.flatten).1) (poF rs Ws.flatten).2) := by
  have HLR := Lib.hid hl
  have HR := Lib.hid hr
  have HDEP := Lib.hid hdep
  have HR63 : Hid (∀ i, rs.getD i 0 < 9223372036854775808) := Lib.hid fun i => lt63 h24 (hr i)
  have HCO := Lib.hid (concat_any T nT cT ts Ws w hRT hnT hlW hW hWm)
  have HWM := Lib.hid hWn
  obtain ⟨W, hWe⟩ : ∃ W, W = Ws.flatten := ⟨_, rfl⟩
  rw [← hWe] at HCO HWM ⊢
  obtain ⟨k, hk⟩ : ∃ k, k = W.length := ⟨_, rfl⟩
  rw [← hk] at HCO
  have HLK : Hid (W.length = k) := Lib.hid hk.symm
  have HRK : Hid (∀ x, x < k → W.getD x 0 < n) := Lib.hid fun x hx => in_getD HWM.out x (by rw [HLK.out]; exact hx)
  by_cases hlong : 24 < k
  · have HA := Lib.hid (poF_long rs W (by omega))
    have hI : (24 : Int) < (k : Int) := by omega
    clear hk hWe hlong hl hr hlW hW hWm hWn
    go_enter Tryd.func139, Tryd.ntmps139
    go_wp2_with fail
    refine HCO.out.mono ?_
    rintro e w1 ⟨A3, c3, rfl, o3, hb⟩
    go_wp2_with fail
    go_ret2
    rw [HA.out]
    exact LsPost.of_ans (ans_no 3 hb)
  · have HA : Hid (poF rs W = (nfR rs W, 0)) := Lib.hid (poF_yes rs W (by omega))
    have hk24 : k ≤ 24 := by omega
    have hI : (k : Int) ≤ 24 := by omega
    clear hk hWe hlong hl hr hlW hW hWm hWn
    go_enter Tryd.func139, Tryd.ntmps139
    go_wp2_with fail
    refine HCO.out.mono ?_
    rintro e w1 ⟨A3, c3, rfl, o3, hb⟩
    have hrd1 := hrd.below hb
    have hW1 := o3.rd
    have hT1 := hT.below hb
    have HT1 := Lib.hid (traceOf_any A2 A3 n k c2 c3 rs W _ hrd1 hW1 hk24 h24 HRK.out HR63.out hT1)
    go_wp2_with fail
    refine HT1.out.mono ?_
    rintro e v1 ⟨E1, g1, F1, k1, es1, rfl, hp, hs, h1, h2, -, -, ha1⟩
    have HN1 := Lib.hid (nf_from E1 F1 g1 k1 k n rs W es1 v1 HLR.out HR.out HDEP.out HLK.out HRK.out hk24 hp hs h1 h2 ((hT1).below ha1))
    clear hp hs h1 h2
    go_wp2_with fail
    refine HN1.out.mono ?_
    rintro e u1 ⟨G1, l1, rfl, ho1, hb1⟩
    go_wp2_with fail
    go_ret2
    rw [HA.out]
    have HZ := hb.trans (ha1.mono hb.size)
    exact LsPost.of_ans (ans_yes ho1.len (ho1.mono HZ.size) (HZ.trans (hb1.mono HZ.size)))
theorem rdT_of_row {w : World} {lo k cT : Nat} {E : TypeId} {T : Option Addr} {vs : List Value} (h : w.ownsRow lo E 1 (.slice T k cT) k vs) (ts : List (Option Addr × Nat × Nat × List Int)) (hv : vs = ts.map fun t => Value.slice t.1 t.2.1 t.2.2.1) (hl : ts.length = k) (hr : ∀ t, t ∈ ts → Rd w t.1 t.2.1 t.2.2.2 ∧ t.2.1 ≤ maxLen) : RdT w T k ts := by
  refine ⟨hl, hr, fun hn => ?_⟩
  obtain ⟨g, cap, hvg, hbg, hlt⟩ := World.ownsRow.form h hn
  have hA : T = some ⟨g, 0, none⟩ := by injection hvg
  subst hA
  refine ⟨g, 0, rfl, hlt, fun j t ht => ?_⟩
  have := World.ownsRow.cells h (g := g) rfl j (Value.slice t.1 t.2.1 t.2.2.1) (by rw [hv, List.getElem?_map, ht]; rfl)
  rw [add_zero_off] at this
  rw [Nat.zero_add]; exact this
/-- The parts of a symmetry that the letters of a word name. -/
def symVs (b off c : Nat) (us : List Nat) : List Value := us.map fun a => Value.slice (some ⟨b, off + a, none⟩) 1 (c - a)
def symTs (b off c : Nat) (zs us : List Nat) : List (Option Addr × Nat × Nat × List Int) := us.map fun a => (some ⟨b, off + a, none⟩, 1, c - a, ints [zs.getD a 0])
theorem symVs_ts (b off c : Nat) (zs us : List Nat) : symVs b off c us = (symTs b off c zs us).map fun t => Value.slice t.1 t.2.1 t.2.2.1 := by
  unfold symVs symTs; rw [List.map_map]; rfl
theorem rd_part {w : World} {b off n : Nat} {zs : List Nat} (h : Rd w (some ⟨b, off, none⟩) n (ints zs)) (a : Nat) (ha : a < n) : Rd w (some ⟨b, off + a, none⟩) 1 (ints [zs.getD a 0]) := by
  have hl : zs.length = n := by have := h.1; rw [ints_len] at this; exact this
  obtain ⟨b2, off2, e, hb, hc⟩ := h.2 (by omega)
  injection e with e
  injection e with e1 e2
  subst e1 e2
  refine ⟨rfl, fun _ => ⟨b, off + a, rfl, hb, fun j x hx => ?_⟩⟩
  have hj : j = 0 := by
    rcases Nat.eq_zero_or_pos j with h0 | h0
    · exact h0
    · rw [List.getElem?_eq_none (by show 1 ≤ j; exact h0)] at hx; cases hx
  subst hj
  injection hx with hx
  have := hc a _ (ints_getD zs a (by omega))
  rw [← hx]; exact this
theorem symImage_any (b off n c a : Nat) (zs : List Nat) (w : World) (h : Rd w (some ⟨b, off, none⟩) n (ints zs)) (ha : a < n) (hc : n ≤ c) (hn : n ≤ 24) :
    Calls Tryd.prog 145 #[.slice (some ⟨b, off, none⟩) n c, .int .i64 (a : Int)] w fun e w' => e = .returned (.slice (some ⟨b, off + a, none⟩) 1 (c - a)) ∧ w = w' := by
  have hne : ¬ (c = a) := by omega
  have hac : a ≤ c := by omega
  have hac1 : a + 1 ≤ c := by omega
  have hw1 : IntKind.i64.wrap ((a : Int) + 1) = ((a + 1 : Nat) : Int) := by rw [IntWalk.i64_in _ (by omega)]; omega
  go_enter Tryd.func145, Tryd.ntmps145
  go_wp2_with fail
  go_ret
  exact ⟨rfl, rfl⟩
set_option maxHeartbeats 3200000 in
theorem symImageOf_any (A2 : Option Addr) (n c2 b off c : Nat) (A B1 : Option Addr) (m d : Nat) (rs zs us : List Nat) (w : World) (hrd : Rd w A2 n (ints rs)) (h24 : n ≤ 24) (hl : rs.length = n) (hr : ∀ i, rs.getD i 0 < 2 ^ n) (hdep : Dep rs)
    (h : Rd w A n (ints zs)) (hA : 0 < n → A = some ⟨b, off, none⟩) (hc : n ≤ c) (hzn : ∀ x, x ∈ zs → x < n) (h2 : Rd w B1 m (ints us)) (hm : m ≤ 24) (hus : ∀ x, x ∈ us → x < n) (hT : Tab w) :
    Calls Tryd.prog 75 #[.agg #[.slice A2 n c2, .slice A2 n c2, .func (.func 145) #[.slice A n c] #[]], .slice B1 m d] w (LsPost w (ints (poF rs (us.map fun a => zs.getD a 0)).1).length (ints (poF rs (us.map fun a => zs.getD a 0)).1) (poF rs (us.map fun a => zs.getD a 0)).2) := by
  obtain ⟨i1, hi1, hy0, hy1, hy2⟩ := info_parts info_sls
  have eg : ∀ args w, (callFunc 145 args).run Tryd.prog w = .ok (.enter 145 args) w := fun args w => Go.MuLone.run_callFunc_enter (P := Tryd.prog) Tryd.func145 (by kernel_rfl) rfl args w
  have hlu : us.length = m := by have := h2.1; rw [ints_len] at this; exact this
  have hlz : zs.length = n := by have := h.1; rw [ints_len] at this; exact this
  obtain ⟨FV, hFV⟩ : ∃ FV, FV = Value.func (.func 145) #[.slice A n c] #[] := ⟨_, rfl⟩
  have HB1 := below1 w (.cells #[.slice A2 n c2, .slice A2 n c2, .func (.func 145) #[.slice A n c] #[]] 76)
  have hnew := heap_alloc_new w (.cells #[.slice A2 n c2, .slice A2 n c2, .func (.func 145) #[.slice A n c] #[]] 76)
  have hsz := size1' w (.cells #[.slice A2 n c2, .slice A2 n c2, .func (.func 145) #[.slice A n c] #[]] 76)
  obtain ⟨w1, hw1⟩ : ∃ w1, w1 = w.alloc (.cells #[.slice A2 n c2, .slice A2 n c2, .func (.func 145) #[.slice A n c] #[]] 76) := ⟨_, rfl⟩
  have HW1 := Lib.hid hw1
  rw [← hw1] at HB1 hnew hsz
  have HNEW : Hid (∀ ww, Below w1.heap.size w1 ww → ww.heap[w.heap.size]? = some (.cells #[.slice A2 n c2, .slice A2 n c2, .func (.func 145) #[.slice A n c] #[]] 76 (0, 0))) := Lib.hid (fun ww hw => (hw.block _ (by omega)).trans hnew)
  have r1 := h.below HB1
  have r2 := h2.below HB1
  have r3 := hrd.below HB1
  have T1 := hT.below HB1
  have HPR : Hid (∀ ww T cT ts, Below w1.heap.size w1 ww → RdT ww T m ts → (∀ k t, ts[k]? = some t → t.2.2.2 = ints ((us.map fun a => [zs.getD a 0]).getD k [])) → Calls Tryd.prog 139 #[.slice A2 n c2, .slice T m cT] ww (LsPost ww (ints (poF rs (us.map fun a => zs.getD a 0)).1).length (ints (poF rs (us.map fun a => zs.getD a 0)).1) (poF rs (us.map fun a => zs.getD a 0)).2)) := Lib.hid (fun ww T cT ts hw hRT hW => by
    have hfl : (us.map fun a => [zs.getD a 0]).flatten = us.map fun a => zs.getD a 0 := by
      clear hW hRT hlu hus r2 h2
      induction us with
      | nil => rfl
      | cons u us ih => simp only [List.map_cons, List.flatten_cons, ih]; rfl
    have h9 := product_any A2 T n c2 m cT rs ts (us.map fun a => [zs.getD a 0]) ww (r3.below hw) h24 hl hr hdep hRT hm (by rw [List.length_map]; exact hlu) hW (fun k => by
      rw [List.getD_eq_getElem?_getD, List.getElem?_map]
      cases us[k]? with
      | none => simp
      | some u => simp) (fun x hx => by
      rw [hfl] at hx
      obtain ⟨u, hu, rfl⟩ := List.mem_map.1 hx
      have hun := hus u hu
      refine hzn _ ?_
      rw [List.getD_eq_getElem?_getD, List.getElem?_eq_getElem (by omega)]
      exact List.getElem_mem _) (T1.below hw)
    rw [hfl] at h9
    exact h9)
  have HUS := Lib.hid hus
  have HLU := Lib.hid hlu
  obtain ⟨V, hV⟩ : ∃ V, V = (poF rs (us.map fun a => zs.getD a 0)).1 := ⟨_, rfl⟩
  obtain ⟨C, hC⟩ : ∃ C, C = (poF rs (us.map fun a => zs.getD a 0)).2 := ⟨_, rfl⟩
  rw [← hV, ← hC] at HPR ⊢
  have hlt1 : w.heap.size < w1.heap.size := by omega
  clear hV hC hw1 hnew hsz hFV FV hus hlu h h2 hrd hT hr hdep hl
  go_enter Tryd.func75, Tryd.ntmps75
  go_wp2_with fail
  rw [← HW1.out]
  go_loopw [6, 11] (fun p i wr => ∃ (k cT : Nat) (T : Option Addr), k ≤ m ∧ p = .slice T k cT ∧ i = .int .i64 (k : Int) ∧ wr.ownsRow w1.heap.size 22 1 (.slice T k cT) k (symVs b off c (us.take k)) ∧ Below w1.heap.size w1 wr) (fun _ i _ => m - (intOf i).toNat)
  case atStart => exact ⟨0, 0, none, Nat.zero_le _, rfl, rfl, World.ownsRow_nil w1 _ _ _, Below.refl _ _⟩
  case round =>
    obtain ⟨k, cT, T, hk, rfl, rfl, hrow, hb⟩ := hrel
    obtain ⟨y0, y1, y2, yf⟩ := cells3 (HNEW.out wr hb)
    by_cases hlt : k < m
    · obtain ⟨b2, off2, u, rfl, hbs, hx, hcx⟩ := (r2.below hb).at_ hlt
      rw [ints_getD us k (by rw [HLU.out]; exact hlt)] at hx
      injection hx with hx
      obtain ⟨a, hae⟩ : ∃ a, a = us.getD k 0 := ⟨_, rfl⟩
      have han : a < n := by
        rw [hae]
        refine HUS.out _ ?_
        rw [List.getD_eq_getElem?_getD, List.getElem?_eq_getElem (by rw [HLU.out]; exact hlt)]
        exact List.getElem_mem _
      rw [← hae] at hx
      subst hx
      have hA9 := hA (by omega)
      subst hA9
      have HNXT : Hid (symVs b off c (us.take (k + 1)) = symVs b off c (us.take k) ++ [.slice (some ⟨b, off + a, none⟩) 1 (c - a)]) := Lib.hid (by
        unfold symVs
        rw [List.take_add_one, List.getElem?_eq_getElem (by rw [HLU.out]; exact hlt), List.map_append]
        have e9 : us[k]'(by rw [HLU.out]; exact hlt) = a := by rw [hae, List.getD_eq_getElem?_getD, List.getElem?_eq_getElem (by rw [HLU.out]; exact hlt)]; rfl
        rw [e9]; rfl)
      have HIM := Lib.hid (symImage_any b off n c a zs wr (r1.below hb) han hc h24)
      have hml : k + 1 ≤ maxLen := by unfold maxLen; omega
      have hkb : (k + 1) * 24 ≤ 140737488355328 := by omega
      obtain ⟨q, hq⟩ : ∃ q, q = c - a := ⟨_, rfl⟩
      rw [← hq] at HIM HNXT
      clear hae hq
      go_wp2_with fail
      refine HIM.out.mono ?_
      rintro e w' ⟨rfl, rfl⟩
      go_wp2_with (at_builtin; refine wpList_append_own_at _ rfl _ _ 25 rfl w1.heap.size 22 i1 (.slice none 0 0) 1 24 Tryd.underlying25 hi1 hy0 hy1 hy2 rfl (by decide) (.slice T k cT) k (symVs b off c (us.take k)) rfl (World.ownsRow.alloc hrow _) ⟨wr.heap.size, 0, none⟩ 1 1 [.slice (some ⟨b, off + a, none⟩) 1 q] rfl rfl ?c1 ?c2 hml hkb ?c5 ?_)
      case c1 => exact cell_one_new _ _ _
      case c2 => intro u hu; simp at hu; subst hu; rfl
      case c5 => have := hb.size; simp; omega
      intro v' w2 hown hg9 _ _
      rw [← HNXT.out] at hown
      obtain ⟨g9, c9, rfl, _, _⟩ := World.ownsRow.form hown (Nat.succ_pos k)
      have hb2 : Below w1.heap.size w1 w2 := (hb.alloc hb.size _).grown hg9 (by have := hb.size; simp; omega) (fun r hr => (World.ownsRow.lt hrow r hr).1)
      clear hg9 hrow hb y0 y1 y2 yf
      go_wp2_with fail
      go_roundw
      case rel => exact ⟨k + 1, c9, _, by omega, rfl, by go_num, hown, hb2⟩
      case measure => simp [intOf]; omega
    · obtain rfl : k = m := by omega
      have htk : us.take k = us := List.take_of_length_le (by rw [HLU.out]; exact Nat.le_refl _)
      rw [htk, symVs_ts b off c zs us] at hrow
      have hRT := rdT_of_row hrow (symTs b off c zs us) rfl (by unfold symTs; rw [List.length_map, HLU.out]) (fun t ht => by
        unfold symTs at ht
        obtain ⟨a, ha, rfl⟩ := List.mem_map.1 ht
        have hA9 := hA (Nat.lt_of_le_of_lt (Nat.zero_le _) (HUS.out a ha))
        exact ⟨rd_part (by rw [← hA9]; exact r1.below hb) a (HUS.out a ha), by show 1 ≤ maxLen; unfold maxLen; omega⟩)
      have HP9 := Lib.hid (HPR.out wr T cT _ hb hRT (fun k t ht => by
        unfold symTs at ht
        rw [List.getElem?_map] at ht
        rw [List.getD_eq_getElem?_getD, List.getElem?_map]
        cases hu : us[k]? with
        | none => rw [hu] at ht; cases ht
        | some a => rw [hu] at ht; injection ht with ht; subst ht; rfl))
      clear htk hRT
      go_wp2_with fail
      refine HP9.out.mono ?_
      rintro e w5 ⟨A5, c5, rfl, o5, b5⟩
      go_wp2_with fail
      go_ret2
      have hb9 := HB1.trans (hb.mono HB1.size)
      exact ⟨A5, c5, rfl, o5.mono hb9.size, hb9.trans (b5.mono hb9.size)⟩
set_option maxHeartbeats 1600000 in
theorem led_any (A2 : Option Addr) (n c2 c : Nat) (A B1 : Option Addr) (m d : Nat) (rs zs us : List Nat) (w : World) (hrd : Rd w A2 n (ints rs)) (h24 : n ≤ 24) (hl : rs.length = n) (hr : ∀ i, rs.getD i 0 < 2 ^ n) (hdep : Dep rs)
    (h : Rd w A n (ints zs)) (hc : n ≤ c) (hzn : ∀ x, x ∈ zs → x < n) (h2 : Rd w B1 m (ints us)) (hm : m ≤ 24) (hus : ∀ x, x ∈ us → x < n) (hT : Tab w) :
    Calls Tryd.prog 88 #[.slice A2 n c2, .slice A n c, .slice B1 m d] w (MakesE 2 w (ints (nfR rs (us.map fun a => zs.getD a 0))).length (ints (nfR rs (us.map fun a => zs.getD a 0)))) := by
  obtain ⟨b, off, hA⟩ : ∃ b off, 0 < n → A = some ⟨b, off, none⟩ := by
    rcases Nat.eq_zero_or_pos n with h0 | h0
    · exact ⟨0, 0, fun h9 => by omega⟩
    · obtain ⟨b, off, e, _⟩ := h.2 h0
      exact ⟨b, off, fun _ => e⟩
  have hlu : us.length = m := by have := h2.1; rw [ints_len] at this; exact this
  have HI := Lib.hid (symImageOf_any A2 n c2 b off c A B1 m d rs zs us w hrd h24 hl hr hdep h hA hc hzn h2 hm hus hT)
  have hY := poF_yes rs (us.map fun a => zs.getD a 0) (by rw [List.length_map]; omega)
  rw [hY] at HI
  obtain ⟨V, hV⟩ : ∃ V, V = nfR rs (us.map fun a => zs.getD a 0) := ⟨_, rfl⟩
  rw [← hV] at HI ⊢
  obtain ⟨K, hK⟩ : ∃ K, K = (ints V).length := ⟨_, rfl⟩
  rw [← hK]
  have HI2 : Hid (Calls Tryd.prog 75 #[.agg #[.slice A2 n c2, .slice A2 n c2, .func (.func 145) #[.slice A n c] #[]], .slice B1 m d] w (LsPost w K (ints V) 0)) := Lib.hid (by rw [hK]; exact HI.out)
  clear hV hY hK HI hlu
  go_enter Tryd.func88, Tryd.ntmps88
  go_wp2_with fail
  refine HI2.out.mono ?_
  rintro e w1 ⟨A5, c5, rfl, o5, b5⟩
  go_wp2_with fail
  go_ret
  exact ⟨A5, c5, rfl, o5, b5⟩
/-- Whether a letter can come next in the beginning of a symmetry. -/
def fitB (rs zs : List Nat) (b : Nat) : Bool := (List.range zs.length).all fun a => !(zs.getD a 0 == b) && (RDep rs a zs.length == RDep rs (zs.getD a 0) b)
set_option maxHeartbeats 1600000 in
theorem fits_any (A2 S : Option Addr) (n c2 p cS b : Nat) (rs zs : List Nat) (w : World) (hrd : Rd w A2 n (ints rs)) (h24 : n ≤ 24) (hr : ∀ i, rs.getD i 0 < 2 ^ n) (h : Rd w S p (ints zs)) (hp : p < n) (hzn : ∀ x, x ∈ zs → x < n) (hb : b < n) :
    Calls Tryd.prog 144 #[.slice A2 n c2, .slice S p cS, .int .i64 (b : Int)] w fun e w' => e = .returned (.bool (fitB rs zs b)) ∧ Below w.heap.size w w' := by
  have hlz : zs.length = p := by have := h.1; rw [ints_len] at this; exact this
  have HLZ := Lib.hid hlz
  have HZN := Lib.hid hzn
  have HRR := Lib.hid hr
  clear hlz hzn hr
  go_enter Tryd.func144, Tryd.ntmps144
  go_wp2_with fail
  go_loopw [14] (fun i wr => ∃ k : Nat, k ≤ p ∧ i = .int .i64 (k : Int) ∧ Below w.heap.size w wr ∧ (∀ a, a < k → zs.getD a 0 ≠ b ∧ RDep rs a p = RDep rs (zs.getD a 0) b)) (fun i _ => p - (intOf i).toNat)
  case atStart => exact ⟨0, Nat.zero_le _, rfl, Below.refl _ _, fun a ha => absurd ha (by omega)⟩
  case round =>
    obtain ⟨k, hk, rfl, hbw, hall⟩ := hrel
    have HALL := Lib.hid hall
    clear hall
    by_cases hlt : k < p
    · obtain ⟨b1, off1, u, rfl, hbs, hx, hcx⟩ := (h.below hbw).at_ hlt
      rw [ints_getD zs k (by rw [HLZ.out]; exact hlt)] at hx
      injection hx with hx
      obtain ⟨z, hz⟩ : ∃ z, z = zs.getD k 0 := ⟨_, rfl⟩
      rw [← hz] at hx
      subst hx
      have hzn : z < n := by
        rw [hz]
        refine HZN.out _ ?_
        rw [List.getD_eq_getElem?_getD, List.getElem?_eq_getElem (by rw [HLZ.out]; exact hlt)]
        exact List.getElem_mem _
      have HZ := Lib.hid hz
      clear hz
      obtain ⟨ra, hra⟩ : ∃ q, q = rs.getD k 0 := ⟨_, rfl⟩
      obtain ⟨rz, hrz⟩ : ∃ q, q = rs.getD z 0 := ⟨_, rfl⟩
      have hra63 : ra < 9223372036854775808 := by rw [hra]; exact lt63 h24 (HRR.out k)
      have hrz63 : rz < 9223372036854775808 := by rw [hrz]; exact lt63 h24 (HRR.out z)
      obtain ⟨b3, off3, u3, e3, hbs3, hx3, hcx3⟩ := (hrd.below hbw).at_ (show k < n by omega)
      obtain ⟨b4, off4, u4, e4, hbs4, hx4, hcx4⟩ := (hrd.below hbw).at_ hzn
      rw [e3] at e4
      injection e4 with e4
      injection e4 with e5 e6
      subst e5 e6
      have hlr : rs.length = n := by have := hrd.1; rw [ints_len] at this; exact this
      rw [ints_getD rs k (by omega), ← hra] at hx3
      injection hx3 with hx3
      subst hx3
      rw [ints_getD rs z (by omega), ← hrz] at hx4
      injection hx4 with hx4
      subst hx4
      subst e3
      have hp62 : p ≤ 62 := by omega
      have hb62 : b ≤ 62 := by omega
      have HQ1 : Hid (∀ (ww : World) (j : Nat), Calls Tryd.prog 169 #[.int .i64 (ra : Int), .int .i64 (p : Int)] (ww.drewN j) fun e w'' => e = .returned (.bool (ra.testBit p)) ∧ ∃ m', w'' = ww.drewN m') := Lib.hid fun ww j => Calls.quiet_of_same ((has_any ra p hra63 hp62 _).mono fun _ _ h => ⟨h.1, h.2.symm⟩)
      have HQ2 : Hid (∀ (ww : World) (j : Nat), Calls Tryd.prog 169 #[.int .i64 (rz : Int), .int .i64 (b : Int)] (ww.drewN j) fun e w'' => e = .returned (.bool (rz.testBit b)) ∧ ∃ m', w'' = ww.drewN m') := Lib.hid fun ww j => Calls.quiet_of_same ((has_any rz b hrz63 hb62 _).mono fun _ _ h => ⟨h.1, h.2.symm⟩)
      have HD1 : Hid (RDep rs k p = ra.testBit p) := Lib.hid (by rw [hra]; rfl)
      have HD2 : Hid (RDep rs z b = rz.testBit b) := Lib.hid (by rw [hrz]; rfl)
      have HNO : Hid ((z = b ∨ ra.testBit p ≠ rz.testBit b) → fitB rs zs b = false) := Lib.hid (fun hor => by
        cases hf : fitB rs zs b with
        | false => rfl
        | true =>
          unfold fitB at hf
          rw [List.all_eq_true] at hf
          have h9 := hf k (List.mem_range.2 (by rw [HLZ.out]; exact hlt))
          rw [← HZ.out, HLZ.out, HD1.out, HD2.out, Bool.and_eq_true, Bool.not_eq_true', beq_eq_false_iff_ne, beq_iff_eq] at h9
          rcases hor with h8 | h8
          · exact absurd h8 h9.1
          · exact absurd h9.2 h8)
      clear hra hrz hlr
      by_cases hzb : z = b
      · have hF := HNO.out (.inl hzb)
        have HF9 := Lib.hid hF
        have h1 : ((z : Int) == (b : Int)) = true := by simp [hzb]
        clear hzb hF
        go_wp2_with fail
        go_quiet (fail)
        go_wp2_with fail
        go_ret
        rw [HF9.out]
        exact ⟨rfl, by first | exact below_drewN hbw _ | exact hbw.drew⟩
      have h1 : ((z : Int) == (b : Int)) = false := by simp; omega
      obtain ⟨X, hX⟩ : ∃ X, X = ra.testBit p := ⟨_, rfl⟩
      obtain ⟨Y, hY⟩ : ∃ Y, Y = rz.testBit b := ⟨_, rfl⟩
      rw [← hX] at HQ1 HNO HD1
      rw [← hY] at HQ2 HNO HD2
      clear hX hY
      by_cases hxy : X = Y
      · subst hxy
        have h2 : (X != X) = false := by simp
        have HNXT : Hid (∀ a, a < k + 1 → zs.getD a 0 ≠ b ∧ RDep rs a p = RDep rs (zs.getD a 0) b) := Lib.hid (fun a ha => by
          rcases Nat.lt_or_ge a k with h9 | h9
          · exact HALL.out a h9
          · obtain rfl : a = k := by omega
            rw [← HZ.out, HD1.out, HD2.out]
            exact ⟨hzb, rfl⟩)
        clear hzb
        go_wp2_with fail
        go_quiet ((first | (go_at_call 169; with_reducible exact HQ1.out _ _) | (go_at_call 169; with_reducible exact HQ2.out _ _)))
        go_wp2_with fail
        go_roundw
        case rel => exact ⟨k + 1, by omega, by go_num, by first | exact below_drewN hbw _ | exact hbw.drew, HNXT.out⟩
        case measure => simp [intOf]; omega
      · have h2 : (X != Y) = true := by simp [hxy]
        have h2b : (X == Y) = false := by simp [hxy]
        have h2c : ¬ (X = Y) := hxy
        have hF := HNO.out (.inr hxy)
        have HF9 := Lib.hid hF
        clear hxy hzb hF
        go_wp2_with fail
        go_quiet ((first | (go_at_call 169; with_reducible exact HQ1.out _ _) | (go_at_call 169; with_reducible exact HQ2.out _ _)))
        go_wp2_with fail
        go_ret
        rw [HF9.out]
        exact ⟨rfl, by first | exact below_drewN hbw _ | exact hbw.drew⟩
    · obtain rfl : k = p := by omega
      have HF : Hid (fitB rs zs b = true) := Lib.hid (by
        unfold fitB
        rw [List.all_eq_true]
        intro a ha
        have h9 := HALL.out a (by rw [← HLZ.out]; exact List.mem_range.1 ha)
        rw [HLZ.out, Bool.and_eq_true, Bool.not_eq_true', beq_eq_false_iff_ne, beq_iff_eq]
        exact h9)
      go_wp2_with fail
      go_ret
      rw [HF.out]
      exact ⟨rfl, hbw⟩
/-- Whether a list of letters is a symmetry. -/
def symB (rs zs : List Nat) : Bool := (List.range zs.length).all fun a => fitB rs (zs.take a) (zs.getD a 0)
theorem rd_take {w : World} {b off n : Nat} {zs : List Nat} (h : Rd w (some ⟨b, off, none⟩) n (ints zs)) (k : Nat) (hk : k ≤ n) : Rd w (some ⟨b, off, none⟩) k (ints (zs.take k)) := by
  have hl : zs.length = n := by have := h.1; rw [ints_len] at this; exact this
  refine ⟨by rw [ints_len, List.length_take, hl, Nat.min_eq_left hk], fun hk0 => ?_⟩
  obtain ⟨b2, off2, e, hb, hc⟩ := h.2 (by omega)
  refine ⟨b2, off2, e, hb, fun j x hx => hc j x ?_⟩
  have hjk : j < k := by
    rcases Nat.lt_or_ge j k with h9 | h9
    · exact h9
    · rw [List.getElem?_eq_none (by rw [ints_len, List.length_take, hl, Nat.min_eq_left hk]; exact h9)] at hx; cases hx
  unfold ints at hx ⊢
  rw [List.getElem?_map, List.getElem?_take_of_lt hjk] at hx
  rw [List.getElem?_map]; exact hx
set_option maxHeartbeats 1600000 in
theorem isSymmetry_any (A2 A : Option Addr) (n c2 c : Nat) (rs zs : List Nat) (w : World) (hrd : Rd w A2 n (ints rs)) (h24 : n ≤ 24) (hr : ∀ i, rs.getD i 0 < 2 ^ n) (h : Rd w A n (ints zs)) (hc : n ≤ c) (hzn : ∀ x, x ∈ zs → x < n) :
    Calls Tryd.prog 87 #[.slice A2 n c2, .slice A n c] w fun e w' => e = .returned (.bool (symB rs zs)) ∧ Below w.heap.size w w' := by
  have HLZ : Hid (zs.length = n) := Lib.hid (by have := h.1; rw [ints_len] at this; exact this)
  have HZN := Lib.hid hzn
  have HRR := Lib.hid hr
  clear hzn hr
  go_enter Tryd.func87, Tryd.ntmps87
  go_wp2_with fail
  go_loopw [9] (fun i wr => ∃ k : Nat, k ≤ n ∧ i = .int .i64 (k : Int) ∧ Below w.heap.size w wr ∧ (∀ a, a < k → fitB rs (zs.take a) (zs.getD a 0) = true)) (fun i _ => n - (intOf i).toNat)
  case atStart => exact ⟨0, Nat.zero_le _, rfl, Below.refl _ _, fun a ha => absurd ha (by omega)⟩
  case round =>
    obtain ⟨k, hk, rfl, hbw, hall⟩ := hrel
    have HALL := Lib.hid hall
    clear hall
    by_cases hlt : k < n
    · obtain ⟨b1, off1, u, rfl, hbs, hx, hcx⟩ := (h.below hbw).at_ hlt
      rw [ints_getD zs k (by rw [HLZ.out]; exact hlt)] at hx
      injection hx with hx
      obtain ⟨z, hz⟩ : ∃ z, z = zs.getD k 0 := ⟨_, rfl⟩
      rw [← hz] at hx
      subst hx
      have hzn : z < n := by
        rw [hz]
        refine HZN.out _ ?_
        rw [List.getD_eq_getElem?_getD, List.getElem?_eq_getElem (by rw [HLZ.out]; exact hlt)]
        exact List.getElem_mem _
      have HZ := Lib.hid hz
      have hkc : k ≤ c := by omega
      have HFT := Lib.hid (fits_any A2 (some ⟨b1, off1, none⟩) n c2 k c z rs (zs.take k) wr (hrd.below hbw) h24 HRR.out (rd_take (h.below hbw) k (by omega)) hlt (fun x hx => HZN.out x (List.mem_of_mem_take hx)) hzn)
      clear hz
      obtain ⟨F, hF⟩ : ∃ F, F = fitB rs (zs.take k) z := ⟨_, rfl⟩
      rw [← hF] at HFT
      have HF := Lib.hid hF
      clear hF
      cases F
      · have HN : Hid (symB rs zs = false) := Lib.hid (by
          cases hs : symB rs zs with
          | false => rfl
          | true =>
            unfold symB at hs
            rw [List.all_eq_true] at hs
            have h9 := hs k (List.mem_range.2 (by rw [HLZ.out]; exact hlt))
            rw [← HZ.out, ← HF.out] at h9; cases h9)
        go_wp2_with fail
        refine HFT.out.mono ?_
        rintro e w1 ⟨rfl, b1'⟩
        go_wp2_with fail
        go_ret
        rw [HN.out]
        exact ⟨rfl, hbw.trans (b1'.mono hbw.size)⟩
      · have HNXT : Hid (∀ a, a < k + 1 → fitB rs (zs.take a) (zs.getD a 0) = true) := Lib.hid (fun a ha => by
          rcases Nat.lt_or_ge a k with h9 | h9
          · exact HALL.out a h9
          · obtain rfl : a = k := by omega
            rw [← HZ.out, ← HF.out])
        go_wp2_with fail
        refine HFT.out.mono ?_
        rintro e w1 ⟨rfl, b1'⟩
        have hb2 := hbw.trans (b1'.mono hbw.size)
        clear b1' hcx
        go_wp2_with fail
        go_roundw
        case rel => exact ⟨k + 1, by omega, by go_num, hb2, HNXT.out⟩
        case measure => simp [intOf]; omega
    · obtain rfl : k = n := by omega
      have HF : Hid (symB rs zs = true) := Lib.hid (by
        unfold symB
        rw [List.all_eq_true]
        intro a ha
        exact HALL.out a (by rw [← HLZ.out]; exact List.mem_range.1 ha))
      go_wp2_with fail
      go_ret
      rw [HF.out]
      exact ⟨rfl, hbw⟩
end Go.Proofs.YtcojodkcpemfdaaDoor
namespace Go.Proofs.YtcojodkcpemfdaaDoor
open Go Go.RowKit
set_option linter.unusedVariables false
set_option maxRecDepth 100000

def syF (rs zs us : List Nat) : List Nat × Int := if zs.length = rs.length then (if symB rs zs = true then (nfR rs (us.map fun a => zs.getD a 0), 0) else ([], 5)) else ([], 2)
theorem syF_len (rs zs us : List Nat) (h : zs.length ≠ rs.length) : syF rs zs us = ([], 2) := if_neg h
theorem syF_no (rs zs us : List Nat) (h : zs.length = rs.length) (h2 : symB rs zs = false) : syF rs zs us = ([], 5) := by
  unfold syF; rw [if_pos h, if_neg (by rw [h2]; decide)]
theorem syF_yes (rs zs us : List Nat) (h : zs.length = rs.length) (h2 : symB rs zs = true) : syF rs zs us = (nfR rs (us.map fun a => zs.getD a 0), 0) := by
  unfold syF; rw [if_pos h, if_pos h2]
theorem syF_small (L : Int) (xs us ts : List Int) : (dL syF L xs us ts).1.length ≤ 24 := dL_small syF 24 (fun rs zs us _ h => by
  by_cases h1 : zs.length = rs.length
  · cases h2 : symB rs zs
    · rw [syF_no _ _ _ h1 h2]; exact Nat.zero_le _
    · rw [syF_yes _ _ _ h1 h2]
      refine Nat.le_trans (nfR_len rs _) ?_
      rw [List.length_map]; exact h
  · rw [syF_len _ _ _ h1]; exact Nat.zero_le _) L xs us ts
set_option maxHeartbeats 6400000 in
theorem implApplySymmetry (L : Int) (A : Option Addr) (n c : Nat) (xs : List Int) (A1 : Option Addr) (m d : Nat) (us : List Int) (B1 : Option Addr) (q f : Nat) (ts : List Int) (w : World) (h : Rd w A n xs) (hwf : Wf xs) (hL1 : -9223372036854775808 ≤ L) (hL2 : L ≤ 9223372036854775807) (hn : n ≤ maxLen) (h2 : Rd w A1 m us) (hwf2 : Wf us) (hm : m ≤ maxLen) (h3 : Rd w B1 q ts) (hwf3 : Wf ts) (hq : q ≤ maxLen) (hcm : m ≤ d) (hcq : q ≤ f) (hT : Tab w) :
    Calls Tryd.prog 37 #[.agg #[.int .i64 L, .slice A n c], .slice A1 m d, .slice B1 q f] w (LsPost w (dL syF L xs us ts).1.length (dL syF L xs us ts).1 (dL syF L xs us ts).2) := by
  have hn2 : n ≤ 9223372036854775807 := by unfold maxLen at hn; omega
  have hm2 : m ≤ 9223372036854775807 := by unfold maxLen at hm; omega
  have hn1 := h.1
  have hm1 := h2.1
  have hq1 := h3.1
  have HB := Lib.hid (below2 w (.cells #[.int .i64 L, .slice A n c] 29) (.cells #[.slice B1 q f] 22))
  have x0 := box_new 29 w L A n c
  have hx1 := below1 (w.alloc (.cells #[.int .i64 L, .slice A n c] 29)) (.cells #[.slice B1 q f] 22)
  have x0 := x0.next hx1
  have hh := h.below HB.out
  have ht := rdT_box w (.cells #[.int .i64 L, .slice A n c] 29) B1 q f ts 22 h3 hq
  have hh2 := h2.below HB.out
  have hh3 := h3.below HB.out
  have hT1 := hT.below HB.out
  clear hx1
  cases ha : alphB L xs
  · rw [show dL syF L xs us ts = _ from dL_no syF L xs us ts ha]
    have HA := Lib.hid ha
    clear ha ht hn1 x0
    go_enter Tryd.func37, Tryd.ntmps37
    go_wp2_with fail
    refine (dependenceWith_no L _ _ _ _ _ _ xs [] _ hh hwf hL1 hL2 hn2 HA.out hT1).mono ?_
    rintro e w1 ⟨rfl, hb⟩
    go_wp2_with fail
    go_ret2
    exact LsPost.of_ans (ans_no 1 (HB.out.trans (hb.mono HB.out.size)))
  · obtain ⟨rs, rfl, rfl, h8, hr, hrel, hl, hd, _⟩ := alphB_nats L xs n hn1 ha
    cases hw : wordB (n : Int) ts
    · rw [show dL syF (n : Int) (ints rs) us ts = _ from dL_bad syF (n : Int) (ints rs) us ts ha (by rw [hw, Bool.and_false])]
      have HU := Lib.hid hw
      clear ha hw x0
      go_enter Tryd.func37, Tryd.ntmps37
      go_wp2_with fail
      refine (dependenceWith_any _ _ _ _ _ _ rs _ _ hh hwf h8 hr hrel hd ht (by omega) hT1).mono ?_
      rw [okT_one, HU.out]
      rintro e w1 (⟨hok, _⟩ | ⟨hok, rfl, hb⟩)
      · cases hok
      go_wp2_with fail
      go_ret2
      exact LsPost.of_ans (ans_no 2 (HB.out.trans (hb.mono HB.out.size)))
    · have HU := Lib.hid hw
      obtain ⟨ys, rfl, hy24, hyn⟩ := wordB_nats n ts hw
      rw [ints_len] at hq1
      have HDEP := Lib.hid ((depB_iff rs n hl hr).1 hd)
      have HLQ := Lib.hid hq1
      have HLR := Lib.hid hl
      have HR := Lib.hid hr
      have HYM := Lib.hid hyn
      have hq24 : q ≤ 24 := by omega
      have h24 : n ≤ 24 := by omega
      by_cases hmn : m = n
      · cases hu : wordB (n : Int) us
        · rw [show dL syF (n : Int) (ints rs) us (ints ys) = _ from dL_bad syF (n : Int) (ints rs) us (ints ys) ha (by rw [hu]; rfl)]
          have HWU := Lib.hid hu
          have hd0 : ((m : Int) == (n : Int)) = true := by rw [hmn]; simp
          subst hmn
          clear ha hw hu hl hq1 hr hyn
          go_enter Tryd.func37, Tryd.ntmps37
          go_wp2_with fail
          refine (dependenceWith_any _ _ _ _ _ _ rs _ _ hh hwf h8 HR.out hrel hd ht (by omega) hT1).mono ?_
          rw [okT_one, HU.out]
          rintro e w1 (⟨hok, A2, c2, rfl, ho, hb⟩ | ⟨hok, _⟩)
          rotate_left
          · cases hok
          have z0 := (x0.next hb).c0
          have z1 := (x0.next hb).c1
          have hr2 := hh2.below hb
          go_wp2_with fail
          refine (isWordOf_any _ _ _ _ us _ hr2 hm2).mono ?_
          rw [HWU.out]
          rintro e w2 ⟨rfl, hb2⟩
          go_wp2_with fail
          go_ret2
          have hZ := HB.out.trans (hb.mono HB.out.size)
          exact LsPost.of_ans (ans_no 2 (hZ.trans (hb2.mono hZ.size)))
        · obtain ⟨zs, rfl, hz24, hzn⟩ := wordB_nats n us hu
          rw [show dL syF (n : Int) (ints rs) (ints zs) (ints ys) = _ from dL_yes syF (n : Int) rs zs ys ha (by rw [hu, hw]; rfl)]
          rw [ints_len] at hm1
          have HLZ : Hid (zs.length = rs.length) := Lib.hid (by omega)
          have HWU := Lib.hid hu
          have HZN := Lib.hid hzn
          have hd0 : ((m : Int) == (n : Int)) = true := by rw [hmn]; simp
          subst hmn
          obtain ⟨S, hS⟩ : ∃ S, S = symB rs zs := ⟨_, rfl⟩
          have HV : Hid (syF rs zs ys = if S = true then (nfR rs (ys.map fun a => zs.getD a 0), 0) else ([], 5)) := Lib.hid (by
            rw [hS]
            cases hs : symB rs zs
            · rw [syF_no _ _ _ HLZ.out hs]; rfl
            · rw [syF_yes _ _ _ HLZ.out hs]; rfl)
          rw [HV.out]
          have HSS := Lib.hid hS
          clear ha hw hu hl hq1 hr hyn hzn hm1 hS HV
          go_enter Tryd.func37, Tryd.ntmps37
          go_wp2_with fail
          refine (dependenceWith_any _ _ _ _ _ _ rs _ _ hh hwf h8 HR.out hrel hd ht (by omega) hT1).mono ?_
          rw [okT_one, HU.out]
          rintro e w1 (⟨hok, A2, c2, rfl, ho, hb⟩ | ⟨hok, _⟩)
          rotate_left
          · cases hok
          have z0 := (x0.next hb).c0
          have z1 := (x0.next hb).c1
          have hr2 := hh2.below hb
          have hr3 := hh3.below hb
          have hrd := ho.rd
          have hT2 := hT1.below hb
          have HB1 := Lib.hid (HB.out.trans (hb.mono HB.out.size))
          have HWC := Lib.hid (isWordOf_any (m : Int) A1 m d (ints zs) w1 hr2 hm2)
          rw [HWU.out] at HWC
          clear hh hh2 hh3 hT1 hT h h2 h3 hd hrel ho ht x0 hb hok
          go_wp2_with fail
          refine HWC.out.mono ?_
          rintro e w2 ⟨rfl, hb2⟩
          have HB2 := Lib.hid (HB1.out.trans (hb2.mono HB1.out.size))
          have hr2 := hr2.below hb2
          have hr3 := hr3.below hb2
          have hrd := hrd.below hb2
          have hT2 := hT2.below hb2
          have HSY := Lib.hid (isSymmetry_any A2 A1 m c2 d rs zs w2 hrd h24 HR.out hr2 hcm HZN.out)
          rw [← HSS.out] at HSY
          clear hb2 z0 z1
          cases S
          · go_wp2_with fail
            refine HSY.out.mono ?_
            rintro e w3 ⟨rfl, hb3⟩
            go_wp2_with fail
            go_ret2
            exact LsPost.of_ans (ans_no 5 (HB2.out.trans (hb3.mono HB2.out.size)))
          · go_wp2_with fail
            refine HSY.out.mono ?_
            rintro e w3 ⟨rfl, hb3⟩
            have HB3 := Lib.hid (HB2.out.trans (hb3.mono HB2.out.size))
            have HLE := Lib.hid (led_any A2 m c2 d A1 B1 q f rs zs ys w3 (hrd.below hb3) h24 HLR.out HR.out HDEP.out (hr2.below hb3) hcm HZN.out (hr3.below hb3) hq24 HYM.out (hT2.below hb3))
            clear hb3
            go_wp2_with fail
            refine HLE.out.mono ?_
            rintro e w4 ⟨A5, c5, rfl, o5, b5⟩
            go_wp2_with fail
            go_ret2
            have HZ := HB3.out
            exact LsPost.of_ans (ans_yes rfl (o5.mono HZ.size) (HZ.trans (b5.mono HZ.size)))
      · have hA : dL syF (n : Int) (ints rs) us (ints ys) = ([], 2) := by
          cases hu : wordB (n : Int) us
          · exact dL_bad syF (n : Int) (ints rs) us (ints ys) ha (by rw [hu]; rfl)
          · obtain ⟨zs, rfl, hz24, hzn⟩ := wordB_nats n us hu
            rw [show dL syF (n : Int) (ints rs) (ints zs) (ints ys) = _ from dL_yes syF (n : Int) rs zs ys ha (by rw [hu, hw]; rfl)]
            rw [ints_len] at hm1
            rw [syF_len _ _ _ (by omega)]; rfl
        rw [hA]
        have hd0 : ((m : Int) == (n : Int)) = false := by simp; omega
        have hd1 : ¬ ((m : Int) = (n : Int)) := by omega
        clear ha hw hl hq1 hr hyn hA x0
        go_enter Tryd.func37, Tryd.ntmps37
        go_wp2_with fail
        refine (dependenceWith_any _ _ _ _ _ _ rs _ _ hh hwf h8 HR.out hrel hd ht (by omega) hT1).mono ?_
        rw [okT_one, HU.out]
        rintro e w1 (⟨hok, A2, c2, rfl, ho, hb⟩ | ⟨hok, _⟩)
        rotate_left
        · cases hok
        go_wp2_with fail
        go_ret2
        exact LsPost.of_ans (ans_no 2 (HB.out.trans (hb.mono HB.out.size)))
end Go.Proofs.YtcojodkcpemfdaaDoor
namespace Go.Proofs.YtcojodkcpemfdaaDoor
open Go Go.RowKit
set_option linter.unusedVariables false
set_option maxRecDepth 100000

theorem take_getD (zs : List Nat) (a b : Nat) (h : a < b) : (zs.take b).getD a 0 = zs.getD a 0 := by
  rw [List.getD_eq_getElem?_getD, List.getD_eq_getElem?_getD, List.getElem?_take_of_lt h]
/-- A list keeps the dependence of two letters and keeps them apart. -/
def goodP (rs zs : List Nat) (a b : Nat) : Prop := (a ≠ b → zs.getD a 0 ≠ zs.getD b 0) ∧ RDep rs a b = RDep rs (zs.getD a 0) (zs.getD b 0)
theorem symB_iff (rs zs : List Nat) (n : Nat) (hl : zs.length = n) (hsym : ∀ a b, RDep rs a b = RDep rs b a) (href : ∀ a, a < n → RDep rs a a = true) (hz : ∀ x, x ∈ zs → x < n) : symB rs zs = true ↔ ∀ a, a < n → ∀ b, b < n → goodP rs zs a b := by
  have hzn : ∀ a, a < n → zs.getD a 0 < n := fun a ha => in_getD hz a (by omega)
  unfold symB
  rw [List.all_eq_true]
  constructor
  · intro h
    have key : ∀ a b, a < b → b < n → zs.getD a 0 ≠ zs.getD b 0 ∧ RDep rs a b = RDep rs (zs.getD a 0) (zs.getD b 0) := fun a b hab hb => by
      have h1 := h b (List.mem_range.2 (by omega))
      unfold fitB at h1
      have htl : (zs.take b).length = b := by rw [List.length_take]; omega
      rw [List.all_eq_true] at h1
      have h2 := h1 a (List.mem_range.2 (by omega))
      rw [take_getD zs a b hab, htl, Bool.and_eq_true, Bool.not_eq_true', beq_eq_false_iff_ne, beq_iff_eq] at h2
      exact h2
    intro a ha b hb
    rcases Nat.lt_trichotomy a b with h1 | h1 | h1
    · exact ⟨fun _ => (key a b h1 hb).1, (key a b h1 hb).2⟩
    · subst h1; exact ⟨fun h9 => absurd rfl h9, by rw [href a ha, href _ (hzn a ha)]⟩
    · exact ⟨fun _ h9 => (key b a h1 ha).1 h9.symm, by rw [hsym a b, hsym (zs.getD a 0)]; exact (key b a h1 ha).2⟩
  · intro h b hb
    have hb := List.mem_range.1 hb
    have htl : (zs.take b).length = b := by rw [List.length_take]; omega
    unfold fitB
    rw [List.all_eq_true]
    intro a ha
    have hab : a < b := by have := List.mem_range.1 ha; omega
    rw [take_getD zs a b hab, htl, Bool.and_eq_true, Bool.not_eq_true', beq_eq_false_iff_ne, beq_iff_eq]
    have h9 := h a (by omega) b (by omega)
    exact ⟨h9.1 (by omega), h9.2⟩
set_option maxHeartbeats 6400000 in
theorem l08Symmetry_any (A B : Option Addr) (n c d : Nat) (rs zs : List Nat) (w : World) (h : Rd w A n (ints rs)) (h24 : n ≤ 24) (hr : ∀ i, rs.getD i 0 < 2 ^ n) (hsym : ∀ a b, RDep rs a b = RDep rs b a) (href : ∀ a, a < n → RDep rs a a = true) (h2 : Rd w B n (ints zs)) (hzn : ∀ x, x ∈ zs → x < n) :
    Calls Tryd.prog 84 #[.agg #[.int .i64 (n : Int), .slice A n c], .slice B n d] w fun e w' => e = .returned (.bool (symB rs zs)) ∧ Below w.heap.size w w' := by
  have HLZ : Hid (zs.length = n) := Lib.hid (by have := h2.1; rw [ints_len] at this; exact this)
  have HSI := Lib.hid (symB_iff rs zs n HLZ.out hsym href hzn)
  have HZN : Hid (∀ a, a < n → zs.getD a 0 < n) := Lib.hid fun a ha => in_getD hzn a (by rw [HLZ.out]; exact ha)
  have HB := Lib.hid (below1 w (.cells #[.int .i64 (n : Int), .slice A n c] 29))
  have x0 := box_new 29 w (n : Int) A n c
  obtain ⟨w1, hw1⟩ : ∃ w1, w.alloc (.cells #[.int .i64 (n : Int), .slice A n c] 29) = w1 := ⟨_, rfl⟩
  have HW1 := Lib.hid hw1
  rw [hw1] at HB x0
  have hh := h.below HB.out
  have hz := h2.below HB.out
  have HDP : Hid (∀ (ww : World), Below w1.heap.size w1 ww → ∀ a b, a < n → b < n → Calls Tryd.prog 141 #[.agg #[.int .i64 (n : Int), .slice A n c], .int .i64 (a : Int), .int .i64 (b : Int)] ww fun e w' => e = .returned (.bool (RDep rs a b)) ∧ Below ww.heap.size ww w') := Lib.hid fun ww hw a b ha hb => dep_any (n : Int) A n c a b rs ww (hh.below hw) h24 hr ha hb
  have y0 := x0.c0
  have y1 := x0.c1
  clear h h2 hr hsym href hzn hw1
  go_enter Tryd.func84, Tryd.ntmps84
  go_wp2_with fail
  rw [HW1.out]
  go_loopw [5] (fun i wr => ∃ a : Nat, a ≤ n ∧ i = .int .i64 (a : Int) ∧ (∀ a', a' < a → ∀ b, b < n → goodP rs zs a' b) ∧ Below w1.heap.size w1 wr) (fun i _ => n - (intOf i).toNat)
  case atStart => exact ⟨0, Nat.zero_le _, rfl, fun a' h9 => absurd h9 (by omega), Below.refl _ _⟩
  case round =>
    obtain ⟨a, ha, rfl, hall, hb0⟩ := hrel
    have HALL := Lib.hid hall
    clear hall y0 y1
    by_cases hlt : a < n
    · go_wp2_with fail
      go_loopw [6] (fun i wr => ∃ b : Nat, b ≤ n ∧ i = .int .i64 (b : Int) ∧ (∀ b', b' < b → goodP rs zs a b') ∧ Below w1.heap.size w1 wr) (fun i _ => n - (intOf i).toNat)
      case atStart => exact ⟨0, Nat.zero_le _, rfl, fun a' h9 => absurd h9 (by omega), hb0⟩
      case round =>
        clear hb0
        obtain ⟨b, hbn, rfl, hrow, hb⟩ := hrel
        have HROW := Lib.hid hrow
        clear hrow
        have HBW := Lib.hid (HB.out.trans (hb.mono HB.out.size))
        by_cases hltb : b < n
        · obtain ⟨bl, ol, u, eB, hbs, hxa, hca⟩ := (hz.below hb).at_ hlt
          obtain ⟨bl2, ol2, u2, eB2, hbs2, hxb, hcb⟩ := (hz.below hb).at_ hltb
          rw [eB] at eB2
          injection eB2 with eB2
          injection eB2 with eB3 eB4
          subst eB3 eB4
          rw [ints_getD zs a (by rw [HLZ.out]; exact hlt)] at hxa
          rw [ints_getD zs b (by rw [HLZ.out]; exact hltb)] at hxb
          injection hxa with hxa
          injection hxb with hxb
          obtain ⟨za, hza⟩ : ∃ z, z = zs.getD a 0 := ⟨_, rfl⟩
          obtain ⟨zb, hzb⟩ : ∃ z, z = zs.getD b 0 := ⟨_, rfl⟩
          have hzan : za < n := by rw [hza]; exact HZN.out a hlt
          have hzbn : zb < n := by rw [hzb]; exact HZN.out b hltb
          rw [← hza] at hxa
          rw [← hzb] at hxb
          subst hxa hxb
          have HG : Hid (goodP rs zs a b ↔ (a ≠ b → za ≠ zb) ∧ RDep rs a b = RDep rs za zb) := Lib.hid (by unfold goodP; rw [hza, hzb])
          have HDA := Lib.hid (fun (ww : World) (hw : Below wr.heap.size wr ww) => HDP.out ww (hb.trans (hw.mono hb.size)) a b hlt hltb)
          have HDB := Lib.hid (fun (ww : World) (hw : Below wr.heap.size wr ww) => HDP.out ww (hb.trans (hw.mono hb.size)) za zb hzan hzbn)
          obtain ⟨T1, hT1⟩ : ∃ T, T = RDep rs a b := ⟨_, rfl⟩
          obtain ⟨T2, hT2⟩ : ∃ T, T = RDep rs za zb := ⟨_, rfl⟩
          rw [← hT1] at HDA HG
          rw [← hT2] at HDB HG
          have HNO : Hid (¬ goodP rs zs a b → symB rs zs = false) := Lib.hid (fun h9 => by
            cases hs : symB rs zs with
            | false => rfl
            | true => exact absurd (HSI.out.1 hs a hlt b hltb) h9)
          have HKP : Hid (∀ ww, Below wr.heap.size wr ww → ww.cell? ⟨w.heap.size, 0, none⟩ = some (.int .i64 (n : Int)) ∧ ww.cell? ⟨w.heap.size, 1, none⟩ = some (.slice A n c) ∧ ww.cell? ⟨bl, ol + a, none⟩ = some (.int .i64 (za : Int)) ∧ ww.cell? ⟨bl, ol + b, none⟩ = some (.int .i64 (zb : Int))) := Lib.hid fun ww hw => by
            have x9 := (x0.next hb).next hw
            exact ⟨x9.c0, x9.c1, (hw.cell (show (⟨bl, ol + a, none⟩ : Addr).block < wr.heap.size from hbs)).trans hca, (hw.cell (show (⟨bl, ol + b, none⟩ : Addr).block < wr.heap.size from hbs)).trans hcb⟩
          have hdr : Below wr.heap.size wr wr.drew := (Below.refl _ _).drew
          have kd := HKP.out _ hdr
          have HX := Lib.hid (x0.next hb)
          clear hza hzb hT1 hT2
          subst eB
          by_cases hab : a = b
          · have hd1 : ((a : Int) != (b : Int)) = false := by rw [hab]; simp
            by_cases hT : T1 = T2
            · have HGY : Hid (goodP rs zs a b) := Lib.hid (HG.out.2 ⟨fun h9 => absurd hab h9, hT⟩)
              subst hT
              have hd3 : (T1 != T1) = false := by simp
              clear hab
              go_wp2_with fail
              refine wp_region_held_drew (S := (fun ww => ww.cell? ⟨w.heap.size, 0, none⟩ = some (.int .i64 (n : Int)) ∧ ww.cell? ⟨w.heap.size, 1, none⟩ = some (.slice A n c) ∧ ww.cell? ⟨bl, ol + a, none⟩ = some (.int .i64 (za : Int)) ∧ ww.cell? ⟨bl, ol + b, none⟩ = some (.int .i64 (zb : Int)))) (by kernel_rfl) kd (fun hHeld => ?_)
              refine wpAnyH_take (i := 0) (oi := ⟨some 19, _, _, _, _, _⟩) (v := ?_) rfl (by kernel_rfl) (by kernel_rfl) (by kernel_rfl) (fun _ _ _ h => h) (Or.inl ⟨by kernel_rfl, ?_⟩) (by assumption) ?_
              rotate_left
              · (intro w9 hS9; (try dsimp only at hS9); go_simp; try with_reducible rfl)
              simp only [Act.put, List.setIfInBounds_toArray, List.set_cons_zero, List.set_cons_succ]
              refine wpAnyH_take (i := 1) (oi := ⟨some 20, _, _, _, _, _⟩) (v := ?_) rfl (by kernel_rfl) (by kernel_rfl) (by kernel_rfl) (fun _ _ _ h => h) (Or.inl ⟨by kernel_rfl, ?_⟩) (by assumption) ?_
              rotate_left
              · (intro w9 hS9; (try dsimp only at hS9); go_simp; try with_reducible rfl)
              simp only [Act.put, List.setIfInBounds_toArray, List.set_cons_zero, List.set_cons_succ]
              refine wpAnyH_take (i := 2) (oi := ⟨some 21, _, _, _, _, _⟩) (v := ?_) rfl (by kernel_rfl) (by kernel_rfl) (by kernel_rfl) (fun _ _ _ h => h) (Or.inl ⟨by kernel_rfl, ?_⟩) (by assumption) ?_
              rotate_left
              · (intro w9 hS9; (try dsimp only at hS9); go_simp; try with_reducible rfl)
              simp only [Act.put, List.setIfInBounds_toArray, List.set_cons_zero, List.set_cons_succ]
              refine wpAnyH_take (i := 3) (oi := ⟨some 22, _, _, _, _, _⟩) (v := ?_) rfl (by kernel_rfl) (by kernel_rfl) (by kernel_rfl) (fun _ _ _ h => h) (Or.inl ⟨by kernel_rfl, ?_⟩) (by assumption) ?_
              rotate_left
              · (intro w9 hS9; (try dsimp only at hS9); go_simp; try with_reducible rfl)
              simp only [Act.put, List.setIfInBounds_toArray, List.set_cons_zero, List.set_cons_succ]
              refine wpAnyH_take (i := 4) (oi := ⟨some 23, _, _, _, _, _⟩) (v := undef) rfl (by kernel_rfl) (by kernel_rfl) (by kernel_rfl) (fun _ _ _ h => h) (Or.inr ⟨by kernel_rfl, rfl⟩) (by assumption) ?_
              simp only [Act.put, List.setIfInBounds_toArray, List.set_cons_zero, List.set_cons_succ]
              refine wpAnyH_take (i := 5) (oi := ⟨some 24, _, _, _, _, _⟩) (v := undef) rfl (by kernel_rfl) (by kernel_rfl) (by kernel_rfl) (fun _ _ _ h => h) (Or.inr ⟨by kernel_rfl, rfl⟩) (by assumption) ?_
              simp only [Act.put, List.setIfInBounds_toArray, List.set_cons_zero, List.set_cons_succ]
              refine wpAnyH_take (i := 6) (oi := ⟨some 25, _, _, _, _, _⟩) (v := undef) rfl (by kernel_rfl) (by kernel_rfl) (by kernel_rfl) (fun _ _ _ h => h) (Or.inr ⟨by kernel_rfl, rfl⟩) (by assumption) ?_
              simp only [Act.put, List.setIfInBounds_toArray, List.set_cons_zero, List.set_cons_succ]
              refine wpAnyH_take (i := 7) (oi := ⟨some 26, _, _, _, _, _⟩) (v := undef) rfl (by kernel_rfl) (by kernel_rfl) (by kernel_rfl) (fun _ _ _ h => h) (Or.inr ⟨by kernel_rfl, rfl⟩) (by assumption) ?_
              simp only [Act.put, List.setIfInBounds_toArray, List.set_cons_zero, List.set_cons_succ]
              refine wpAnyH_take (i := 8) (oi := ⟨some 27, _, _, _, _, _⟩) (v := undef) rfl (by kernel_rfl) (by kernel_rfl) (by kernel_rfl) (fun _ _ _ h => h) (Or.inr ⟨by kernel_rfl, rfl⟩) (by assumption) ?_
              simp only [Act.put, List.setIfInBounds_toArray, List.set_cons_zero, List.set_cons_succ]
              refine wpAnyH_take (i := 9) (oi := ⟨some 28, _, _, _, _, _⟩) (v := undef) rfl (by kernel_rfl) (by kernel_rfl) (by kernel_rfl) (fun _ _ _ h => h) (Or.inr ⟨by kernel_rfl, rfl⟩) (by assumption) ?_
              simp only [Act.put, List.setIfInBounds_toArray, List.set_cons_zero, List.set_cons_succ]
              refine wpAnyH_take (i := 10) (oi := ⟨some 29, _, _, _, _, _⟩) (v := undef) rfl (by kernel_rfl) (by kernel_rfl) (by kernel_rfl) (fun _ _ _ h => h) (Or.inr ⟨by kernel_rfl, rfl⟩) (by assumption) ?_
              simp only [Act.put, List.setIfInBounds_toArray, List.set_cons_zero, List.set_cons_succ]
              refine wpAnyH_take (i := 11) (oi := ⟨some 30, _, _, _, _, _⟩) (v := undef) rfl (by kernel_rfl) (by kernel_rfl) (by kernel_rfl) (fun _ _ _ h => h) (Or.inr ⟨by kernel_rfl, rfl⟩) (by assumption) ?_
              simp only [Act.put, List.setIfInBounds_toArray, List.set_cons_zero, List.set_cons_succ]
              refine wpAnyH_take (i := 12) (oi := ⟨some 31, _, _, _, _, _⟩) (v := undef) rfl (by kernel_rfl) (by kernel_rfl) (by kernel_rfl) (fun _ _ _ h => h) (Or.inr ⟨by kernel_rfl, rfl⟩) (by assumption) ?_
              simp only [Act.put, List.setIfInBounds_toArray, List.set_cons_zero, List.set_cons_succ]
              refine wpAnyH_take (i := 13) (oi := ⟨some 32, _, _, _, _, _⟩) (v := ?_) rfl (by kernel_rfl) (by kernel_rfl) (by kernel_rfl) (fun _ _ _ h => h) (Or.inl ⟨by kernel_rfl, ?_⟩) (by assumption) ?_
              rotate_left
              · (intro w9 hS9; (try dsimp only at hS9); go_simp; try with_reducible rfl)
              simp only [Act.put, List.setIfInBounds_toArray, List.set_cons_zero, List.set_cons_succ]
              refine wpAnyH_take (i := 14) (oi := ⟨some 33, _, _, _, _, _⟩) (v := ?_) rfl (by kernel_rfl) (by kernel_rfl) (by kernel_rfl) (fun _ _ _ h => h) (Or.inl ⟨by kernel_rfl, ?_⟩) (by assumption) ?_
              rotate_left
              · (intro w9 hS9; (try dsimp only at hS9); go_simp; try with_reducible rfl)
              simp only [Act.put, List.setIfInBounds_toArray, List.set_cons_zero, List.set_cons_succ]
              refine wpAnyH_take (i := 15) (oi := ⟨some 34, _, _, _, _, _⟩) (v := ?_) rfl (by kernel_rfl) (by kernel_rfl) (by kernel_rfl) (fun _ _ _ h => h) (Or.inl ⟨by kernel_rfl, ?_⟩) (by assumption) ?_
              rotate_left
              · (intro w9 hS9; (try dsimp only at hS9); go_simp; try with_reducible rfl)
              simp only [Act.put, List.setIfInBounds_toArray, List.set_cons_zero, List.set_cons_succ]
              refine wpAnyH_take (i := 16) (oi := ⟨some 35, _, _, _, _, _⟩) (v := ?_) rfl (by kernel_rfl) (by kernel_rfl) (by kernel_rfl) (fun _ _ _ h => h) (Or.inl ⟨by kernel_rfl, ?_⟩) (by assumption) ?_
              rotate_left
              · (intro w9 hS9; (try dsimp only at hS9); go_simp; try with_reducible rfl)
              simp only [Act.put, List.setIfInBounds_toArray, List.set_cons_zero, List.set_cons_succ]
              refine wpAnyH_take (i := 17) (oi := ⟨some 36, _, _, _, _, _⟩) (v := ?_) rfl (by kernel_rfl) (by kernel_rfl) (by kernel_rfl) (fun _ _ _ h => h) (Or.inl ⟨by kernel_rfl, ?_⟩) (by assumption) ?_
              rotate_left
              · (intro w9 hS9; (try dsimp only at hS9); go_simp; try with_reducible rfl)
              simp only [Act.put, List.setIfInBounds_toArray, List.set_cons_zero, List.set_cons_succ]
              refine wpAnyH_take (i := 19) (oi := ⟨some 38, _, _, _, _, _⟩) (v := ?_) rfl (by kernel_rfl) (by kernel_rfl) (by kernel_rfl) (fun _ _ _ h => h) (Or.inl ⟨by kernel_rfl, ?_⟩) (by assumption) ?_
              rotate_left
              · (intro w9 hS9; (try dsimp only at hS9); go_simp; try with_reducible rfl)
              simp only [Act.put, List.setIfInBounds_toArray, List.set_cons_zero, List.set_cons_succ]
              refine wpAnyH_take (i := 20) (oi := ⟨some 39, _, _, _, _, _⟩) (v := ?_) rfl (by kernel_rfl) (by kernel_rfl) (by kernel_rfl) (fun _ _ _ h => h) (Or.inl ⟨by kernel_rfl, ?_⟩) (by assumption) ?_
              rotate_left
              · (intro w9 hS9; (try dsimp only at hS9); go_simp; try with_reducible rfl)
              simp only [Act.put, List.setIfInBounds_toArray, List.set_cons_zero, List.set_cons_succ]
              refine wpAnyH_take (i := 21) (oi := ⟨some 40, _, _, _, _, _⟩) (v := ?_) rfl (by kernel_rfl) (by kernel_rfl) (by kernel_rfl) (fun _ _ _ h => h) (Or.inl ⟨by kernel_rfl, ?_⟩) (by assumption) ?_
              rotate_left
              · (intro w9 hS9; (try dsimp only at hS9); go_simp; try with_reducible rfl)
              simp only [Act.put, List.setIfInBounds_toArray, List.set_cons_zero, List.set_cons_succ]
              refine wpAnyH_take (i := 22) (oi := ⟨some 41, _, _, _, _, _⟩) (v := ?_) rfl (by kernel_rfl) (by kernel_rfl) (by kernel_rfl) (fun _ _ _ h => h) (Or.inl ⟨by kernel_rfl, ?_⟩) (by assumption) ?_
              rotate_left
              · (intro w9 hS9; (try dsimp only at hS9); go_simp; try with_reducible rfl)
              simp only [Act.put, List.setIfInBounds_toArray, List.set_cons_zero, List.set_cons_succ]
              refine wpAnyH_take (i := 23) (oi := ⟨some 42, _, _, _, _, _⟩) (v := ?_) rfl (by kernel_rfl) (by kernel_rfl) (by kernel_rfl) (fun _ _ _ h => h) (Or.inl ⟨by kernel_rfl, ?_⟩) (by assumption) ?_
              rotate_left
              · (intro w9 hS9; (try dsimp only at hS9); go_simp; try with_reducible rfl)
              simp only [Act.put, List.setIfInBounds_toArray, List.set_cons_zero, List.set_cons_succ]
              refine wpAnyH_take (i := 24) (oi := ⟨some 43, _, _, _, _, _⟩) (v := ?_) rfl (by kernel_rfl) (by kernel_rfl) (by kernel_rfl) (fun _ _ _ h => h) (Or.inl ⟨by kernel_rfl, ?_⟩) (by assumption) ?_
              rotate_left
              · (intro w9 hS9; (try dsimp only at hS9); go_simp; try with_reducible rfl)
              simp only [Act.put, List.setIfInBounds_toArray, List.set_cons_zero, List.set_cons_succ]
              refine wpAnyH_take (i := 25) (oi := ⟨some 44, _, _, _, _, _⟩) (v := ?_) rfl (by kernel_rfl) (by kernel_rfl) (by kernel_rfl) (fun _ _ _ h => h) (Or.inl ⟨by kernel_rfl, ?_⟩) (by assumption) ?_
              rotate_left
              · (intro w9 hS9; (try dsimp only at hS9); go_simp; try with_reducible rfl)
              simp only [Act.put, List.setIfInBounds_toArray, List.set_cons_zero, List.set_cons_succ]
              refine wpAnyH_take (i := 26) (oi := ⟨some 45, _, _, _, _, _⟩) (v := ?_) rfl (by kernel_rfl) (by kernel_rfl) (by kernel_rfl) (fun _ _ _ h => h) (Or.inl ⟨by kernel_rfl, ?_⟩) (by assumption) ?_
              rotate_left
              · (intro w9 hS9; (try dsimp only at hS9); go_simp; try with_reducible rfl)
              simp only [Act.put, List.setIfInBounds_toArray, List.set_cons_zero, List.set_cons_succ]
              refine wpAnyH_take (i := 27) (oi := ⟨some 46, _, _, _, _, _⟩) (v := ?_) rfl (by kernel_rfl) (by kernel_rfl) (by kernel_rfl) (fun _ _ _ h => h) (Or.inl ⟨by kernel_rfl, ?_⟩) (by assumption) ?_
              rotate_left
              · (intro w9 hS9; (try dsimp only at hS9); go_simp; try with_reducible rfl)
              simp only [Act.put, List.setIfInBounds_toArray, List.set_cons_zero, List.set_cons_succ]
              refine wpAnyH_ready (rs := [18]) (by kernel_rfl) (by simp) ?_
              refine AllReadyH.cons (o := _) rfl (fun K hK => ?_) AllReadyH.nil
              go_simp
              go_at_call 141
              with_reducible refine (HDA.out _ hdr).mono ?_
              rintro e wF ⟨rfl, bF⟩
              have hF := hdr.trans (bF.mono hdr.size)
              have kf := HKP.out _ hF
              go_wp2_with fail
              refine hK.out _ _ kf (fun hHeldwF => ?_)
              clear hK K
              try simp only [Act.put, List.setIfInBounds_toArray, List.set_cons_zero, List.set_cons_succ]
              refine wpAnyH_ready (rs := [28]) (by kernel_rfl) (by simp) ?_
              refine AllReadyH.cons (o := _) rfl (fun K hK => ?_) AllReadyH.nil
              go_simp
              go_at_call 141
              with_reducible refine (HDB.out _ hF).mono ?_
              rintro e wG ⟨rfl, bG⟩
              have hG := hF.trans (bG.mono hF.size)
              have kg := HKP.out _ hG
              go_wp2_with fail
              refine hK.out _ _ kg (fun hHeldwG => ?_)
              clear hK K
              try simp only [Act.put, List.setIfInBounds_toArray, List.set_cons_zero, List.set_cons_succ]
              refine wpAnyH_take (i := 29) (oi := ⟨some 48, _, _, _, _, _⟩) (v := ?_) rfl (by kernel_rfl) (by kernel_rfl) (by kernel_rfl) (fun _ _ _ h => h) (Or.inl ⟨by kernel_rfl, ?_⟩) (by assumption) ?_
              rotate_left
              · (intro w9 hS9; (try dsimp only at hS9); go_simp; try with_reducible rfl)
              simp only [Act.put, List.setIfInBounds_toArray, List.set_cons_zero, List.set_cons_succ]
              refine wpAnyH_take (i := 30) (oi := ⟨some 49, _, _, _, _, _⟩) (v := ?_) rfl (by kernel_rfl) (by kernel_rfl) (by kernel_rfl) (fun _ _ _ h => h) (Or.inl ⟨by kernel_rfl, ?_⟩) (by assumption) ?_
              rotate_left
              · (intro w9 hS9; (try dsimp only at hS9); go_simp; try with_reducible rfl)
              simp only [Act.put, List.setIfInBounds_toArray, List.set_cons_zero, List.set_cons_succ]
              refine wpAnyH_done (by kernel_rfl) ?_ _
              have hb9 := hb.trans (hG.mono hb.size)
              clear hHeld hHeldwF hHeldwG kd kf kg
              go_wp2_with fail
              go_roundw
              case rel => exact ⟨b + 1, by omega, by go_num, fun b' h9 => (by
                rcases Nat.lt_or_ge b' b with h8 | h8
                · exact HROW.out b' h8
                · obtain rfl : b' = b := by omega
                  exact HGY.out), hb9⟩
              case measure => simp [intOf]; omega
            · have HSN : Hid (symB rs zs = false) := Lib.hid (HNO.out fun h9 => hT (HG.out.1 h9).2)
              have hd4 : (T1 == T2) = false := by simpa using hT
              have hd3 : (T1 != T2) = true := by simpa using hT
              clear hab
              go_wp2_with fail
              refine wp_region_held_drew (S := (fun ww => ww.cell? ⟨w.heap.size, 0, none⟩ = some (.int .i64 (n : Int)) ∧ ww.cell? ⟨w.heap.size, 1, none⟩ = some (.slice A n c) ∧ ww.cell? ⟨bl, ol + a, none⟩ = some (.int .i64 (za : Int)) ∧ ww.cell? ⟨bl, ol + b, none⟩ = some (.int .i64 (zb : Int)))) (by kernel_rfl) kd (fun hHeld => ?_)
              refine wpAnyH_take (i := 0) (oi := ⟨some 19, _, _, _, _, _⟩) (v := ?_) rfl (by kernel_rfl) (by kernel_rfl) (by kernel_rfl) (fun _ _ _ h => h) (Or.inl ⟨by kernel_rfl, ?_⟩) (by assumption) ?_
              rotate_left
              · (intro w9 hS9; (try dsimp only at hS9); go_simp; try with_reducible rfl)
              simp only [Act.put, List.setIfInBounds_toArray, List.set_cons_zero, List.set_cons_succ]
              refine wpAnyH_take (i := 1) (oi := ⟨some 20, _, _, _, _, _⟩) (v := ?_) rfl (by kernel_rfl) (by kernel_rfl) (by kernel_rfl) (fun _ _ _ h => h) (Or.inl ⟨by kernel_rfl, ?_⟩) (by assumption) ?_
              rotate_left
              · (intro w9 hS9; (try dsimp only at hS9); go_simp; try with_reducible rfl)
              simp only [Act.put, List.setIfInBounds_toArray, List.set_cons_zero, List.set_cons_succ]
              refine wpAnyH_take (i := 2) (oi := ⟨some 21, _, _, _, _, _⟩) (v := ?_) rfl (by kernel_rfl) (by kernel_rfl) (by kernel_rfl) (fun _ _ _ h => h) (Or.inl ⟨by kernel_rfl, ?_⟩) (by assumption) ?_
              rotate_left
              · (intro w9 hS9; (try dsimp only at hS9); go_simp; try with_reducible rfl)
              simp only [Act.put, List.setIfInBounds_toArray, List.set_cons_zero, List.set_cons_succ]
              refine wpAnyH_take (i := 3) (oi := ⟨some 22, _, _, _, _, _⟩) (v := ?_) rfl (by kernel_rfl) (by kernel_rfl) (by kernel_rfl) (fun _ _ _ h => h) (Or.inl ⟨by kernel_rfl, ?_⟩) (by assumption) ?_
              rotate_left
              · (intro w9 hS9; (try dsimp only at hS9); go_simp; try with_reducible rfl)
              simp only [Act.put, List.setIfInBounds_toArray, List.set_cons_zero, List.set_cons_succ]
              refine wpAnyH_take (i := 4) (oi := ⟨some 23, _, _, _, _, _⟩) (v := undef) rfl (by kernel_rfl) (by kernel_rfl) (by kernel_rfl) (fun _ _ _ h => h) (Or.inr ⟨by kernel_rfl, rfl⟩) (by assumption) ?_
              simp only [Act.put, List.setIfInBounds_toArray, List.set_cons_zero, List.set_cons_succ]
              refine wpAnyH_take (i := 5) (oi := ⟨some 24, _, _, _, _, _⟩) (v := undef) rfl (by kernel_rfl) (by kernel_rfl) (by kernel_rfl) (fun _ _ _ h => h) (Or.inr ⟨by kernel_rfl, rfl⟩) (by assumption) ?_
              simp only [Act.put, List.setIfInBounds_toArray, List.set_cons_zero, List.set_cons_succ]
              refine wpAnyH_take (i := 6) (oi := ⟨some 25, _, _, _, _, _⟩) (v := undef) rfl (by kernel_rfl) (by kernel_rfl) (by kernel_rfl) (fun _ _ _ h => h) (Or.inr ⟨by kernel_rfl, rfl⟩) (by assumption) ?_
              simp only [Act.put, List.setIfInBounds_toArray, List.set_cons_zero, List.set_cons_succ]
              refine wpAnyH_take (i := 7) (oi := ⟨some 26, _, _, _, _, _⟩) (v := undef) rfl (by kernel_rfl) (by kernel_rfl) (by kernel_rfl) (fun _ _ _ h => h) (Or.inr ⟨by kernel_rfl, rfl⟩) (by assumption) ?_
              simp only [Act.put, List.setIfInBounds_toArray, List.set_cons_zero, List.set_cons_succ]
              refine wpAnyH_take (i := 8) (oi := ⟨some 27, _, _, _, _, _⟩) (v := undef) rfl (by kernel_rfl) (by kernel_rfl) (by kernel_rfl) (fun _ _ _ h => h) (Or.inr ⟨by kernel_rfl, rfl⟩) (by assumption) ?_
              simp only [Act.put, List.setIfInBounds_toArray, List.set_cons_zero, List.set_cons_succ]
              refine wpAnyH_take (i := 9) (oi := ⟨some 28, _, _, _, _, _⟩) (v := undef) rfl (by kernel_rfl) (by kernel_rfl) (by kernel_rfl) (fun _ _ _ h => h) (Or.inr ⟨by kernel_rfl, rfl⟩) (by assumption) ?_
              simp only [Act.put, List.setIfInBounds_toArray, List.set_cons_zero, List.set_cons_succ]
              refine wpAnyH_take (i := 10) (oi := ⟨some 29, _, _, _, _, _⟩) (v := undef) rfl (by kernel_rfl) (by kernel_rfl) (by kernel_rfl) (fun _ _ _ h => h) (Or.inr ⟨by kernel_rfl, rfl⟩) (by assumption) ?_
              simp only [Act.put, List.setIfInBounds_toArray, List.set_cons_zero, List.set_cons_succ]
              refine wpAnyH_take (i := 11) (oi := ⟨some 30, _, _, _, _, _⟩) (v := undef) rfl (by kernel_rfl) (by kernel_rfl) (by kernel_rfl) (fun _ _ _ h => h) (Or.inr ⟨by kernel_rfl, rfl⟩) (by assumption) ?_
              simp only [Act.put, List.setIfInBounds_toArray, List.set_cons_zero, List.set_cons_succ]
              refine wpAnyH_take (i := 12) (oi := ⟨some 31, _, _, _, _, _⟩) (v := undef) rfl (by kernel_rfl) (by kernel_rfl) (by kernel_rfl) (fun _ _ _ h => h) (Or.inr ⟨by kernel_rfl, rfl⟩) (by assumption) ?_
              simp only [Act.put, List.setIfInBounds_toArray, List.set_cons_zero, List.set_cons_succ]
              refine wpAnyH_take (i := 13) (oi := ⟨some 32, _, _, _, _, _⟩) (v := ?_) rfl (by kernel_rfl) (by kernel_rfl) (by kernel_rfl) (fun _ _ _ h => h) (Or.inl ⟨by kernel_rfl, ?_⟩) (by assumption) ?_
              rotate_left
              · (intro w9 hS9; (try dsimp only at hS9); go_simp; try with_reducible rfl)
              simp only [Act.put, List.setIfInBounds_toArray, List.set_cons_zero, List.set_cons_succ]
              refine wpAnyH_take (i := 14) (oi := ⟨some 33, _, _, _, _, _⟩) (v := ?_) rfl (by kernel_rfl) (by kernel_rfl) (by kernel_rfl) (fun _ _ _ h => h) (Or.inl ⟨by kernel_rfl, ?_⟩) (by assumption) ?_
              rotate_left
              · (intro w9 hS9; (try dsimp only at hS9); go_simp; try with_reducible rfl)
              simp only [Act.put, List.setIfInBounds_toArray, List.set_cons_zero, List.set_cons_succ]
              refine wpAnyH_take (i := 15) (oi := ⟨some 34, _, _, _, _, _⟩) (v := ?_) rfl (by kernel_rfl) (by kernel_rfl) (by kernel_rfl) (fun _ _ _ h => h) (Or.inl ⟨by kernel_rfl, ?_⟩) (by assumption) ?_
              rotate_left
              · (intro w9 hS9; (try dsimp only at hS9); go_simp; try with_reducible rfl)
              simp only [Act.put, List.setIfInBounds_toArray, List.set_cons_zero, List.set_cons_succ]
              refine wpAnyH_take (i := 16) (oi := ⟨some 35, _, _, _, _, _⟩) (v := ?_) rfl (by kernel_rfl) (by kernel_rfl) (by kernel_rfl) (fun _ _ _ h => h) (Or.inl ⟨by kernel_rfl, ?_⟩) (by assumption) ?_
              rotate_left
              · (intro w9 hS9; (try dsimp only at hS9); go_simp; try with_reducible rfl)
              simp only [Act.put, List.setIfInBounds_toArray, List.set_cons_zero, List.set_cons_succ]
              refine wpAnyH_take (i := 17) (oi := ⟨some 36, _, _, _, _, _⟩) (v := ?_) rfl (by kernel_rfl) (by kernel_rfl) (by kernel_rfl) (fun _ _ _ h => h) (Or.inl ⟨by kernel_rfl, ?_⟩) (by assumption) ?_
              rotate_left
              · (intro w9 hS9; (try dsimp only at hS9); go_simp; try with_reducible rfl)
              simp only [Act.put, List.setIfInBounds_toArray, List.set_cons_zero, List.set_cons_succ]
              refine wpAnyH_take (i := 19) (oi := ⟨some 38, _, _, _, _, _⟩) (v := ?_) rfl (by kernel_rfl) (by kernel_rfl) (by kernel_rfl) (fun _ _ _ h => h) (Or.inl ⟨by kernel_rfl, ?_⟩) (by assumption) ?_
              rotate_left
              · (intro w9 hS9; (try dsimp only at hS9); go_simp; try with_reducible rfl)
              simp only [Act.put, List.setIfInBounds_toArray, List.set_cons_zero, List.set_cons_succ]
              refine wpAnyH_take (i := 20) (oi := ⟨some 39, _, _, _, _, _⟩) (v := ?_) rfl (by kernel_rfl) (by kernel_rfl) (by kernel_rfl) (fun _ _ _ h => h) (Or.inl ⟨by kernel_rfl, ?_⟩) (by assumption) ?_
              rotate_left
              · (intro w9 hS9; (try dsimp only at hS9); go_simp; try with_reducible rfl)
              simp only [Act.put, List.setIfInBounds_toArray, List.set_cons_zero, List.set_cons_succ]
              refine wpAnyH_take (i := 21) (oi := ⟨some 40, _, _, _, _, _⟩) (v := ?_) rfl (by kernel_rfl) (by kernel_rfl) (by kernel_rfl) (fun _ _ _ h => h) (Or.inl ⟨by kernel_rfl, ?_⟩) (by assumption) ?_
              rotate_left
              · (intro w9 hS9; (try dsimp only at hS9); go_simp; try with_reducible rfl)
              simp only [Act.put, List.setIfInBounds_toArray, List.set_cons_zero, List.set_cons_succ]
              refine wpAnyH_take (i := 22) (oi := ⟨some 41, _, _, _, _, _⟩) (v := ?_) rfl (by kernel_rfl) (by kernel_rfl) (by kernel_rfl) (fun _ _ _ h => h) (Or.inl ⟨by kernel_rfl, ?_⟩) (by assumption) ?_
              rotate_left
              · (intro w9 hS9; (try dsimp only at hS9); go_simp; try with_reducible rfl)
              simp only [Act.put, List.setIfInBounds_toArray, List.set_cons_zero, List.set_cons_succ]
              refine wpAnyH_take (i := 23) (oi := ⟨some 42, _, _, _, _, _⟩) (v := ?_) rfl (by kernel_rfl) (by kernel_rfl) (by kernel_rfl) (fun _ _ _ h => h) (Or.inl ⟨by kernel_rfl, ?_⟩) (by assumption) ?_
              rotate_left
              · (intro w9 hS9; (try dsimp only at hS9); go_simp; try with_reducible rfl)
              simp only [Act.put, List.setIfInBounds_toArray, List.set_cons_zero, List.set_cons_succ]
              refine wpAnyH_take (i := 24) (oi := ⟨some 43, _, _, _, _, _⟩) (v := ?_) rfl (by kernel_rfl) (by kernel_rfl) (by kernel_rfl) (fun _ _ _ h => h) (Or.inl ⟨by kernel_rfl, ?_⟩) (by assumption) ?_
              rotate_left
              · (intro w9 hS9; (try dsimp only at hS9); go_simp; try with_reducible rfl)
              simp only [Act.put, List.setIfInBounds_toArray, List.set_cons_zero, List.set_cons_succ]
              refine wpAnyH_take (i := 25) (oi := ⟨some 44, _, _, _, _, _⟩) (v := ?_) rfl (by kernel_rfl) (by kernel_rfl) (by kernel_rfl) (fun _ _ _ h => h) (Or.inl ⟨by kernel_rfl, ?_⟩) (by assumption) ?_
              rotate_left
              · (intro w9 hS9; (try dsimp only at hS9); go_simp; try with_reducible rfl)
              simp only [Act.put, List.setIfInBounds_toArray, List.set_cons_zero, List.set_cons_succ]
              refine wpAnyH_take (i := 26) (oi := ⟨some 45, _, _, _, _, _⟩) (v := ?_) rfl (by kernel_rfl) (by kernel_rfl) (by kernel_rfl) (fun _ _ _ h => h) (Or.inl ⟨by kernel_rfl, ?_⟩) (by assumption) ?_
              rotate_left
              · (intro w9 hS9; (try dsimp only at hS9); go_simp; try with_reducible rfl)
              simp only [Act.put, List.setIfInBounds_toArray, List.set_cons_zero, List.set_cons_succ]
              refine wpAnyH_take (i := 27) (oi := ⟨some 46, _, _, _, _, _⟩) (v := ?_) rfl (by kernel_rfl) (by kernel_rfl) (by kernel_rfl) (fun _ _ _ h => h) (Or.inl ⟨by kernel_rfl, ?_⟩) (by assumption) ?_
              rotate_left
              · (intro w9 hS9; (try dsimp only at hS9); go_simp; try with_reducible rfl)
              simp only [Act.put, List.setIfInBounds_toArray, List.set_cons_zero, List.set_cons_succ]
              refine wpAnyH_ready (rs := [18]) (by kernel_rfl) (by simp) ?_
              refine AllReadyH.cons (o := _) rfl (fun K hK => ?_) AllReadyH.nil
              go_simp
              go_at_call 141
              with_reducible refine (HDA.out _ hdr).mono ?_
              rintro e wF ⟨rfl, bF⟩
              have hF := hdr.trans (bF.mono hdr.size)
              have kf := HKP.out _ hF
              go_wp2_with fail
              refine hK.out _ _ kf (fun hHeldwF => ?_)
              clear hK K
              try simp only [Act.put, List.setIfInBounds_toArray, List.set_cons_zero, List.set_cons_succ]
              refine wpAnyH_ready (rs := [28]) (by kernel_rfl) (by simp) ?_
              refine AllReadyH.cons (o := _) rfl (fun K hK => ?_) AllReadyH.nil
              go_simp
              go_at_call 141
              with_reducible refine (HDB.out _ hF).mono ?_
              rintro e wG ⟨rfl, bG⟩
              have hG := hF.trans (bG.mono hF.size)
              have kg := HKP.out _ hG
              go_wp2_with fail
              refine hK.out _ _ kg (fun hHeldwG => ?_)
              clear hK K
              try simp only [Act.put, List.setIfInBounds_toArray, List.set_cons_zero, List.set_cons_succ]
              refine wpAnyH_take (i := 29) (oi := ⟨some 48, _, _, _, _, _⟩) (v := ?_) rfl (by kernel_rfl) (by kernel_rfl) (by kernel_rfl) (fun _ _ _ h => h) (Or.inl ⟨by kernel_rfl, ?_⟩) (by assumption) ?_
              rotate_left
              · (intro w9 hS9; (try dsimp only at hS9); go_simp; try with_reducible rfl)
              simp only [Act.put, List.setIfInBounds_toArray, List.set_cons_zero, List.set_cons_succ]
              refine wpAnyH_take (i := 30) (oi := ⟨some 49, _, _, _, _, _⟩) (v := ?_) rfl (by kernel_rfl) (by kernel_rfl) (by kernel_rfl) (fun _ _ _ h => h) (Or.inl ⟨by kernel_rfl, ?_⟩) (by assumption) ?_
              rotate_left
              · (intro w9 hS9; (try dsimp only at hS9); go_simp; try with_reducible rfl)
              simp only [Act.put, List.setIfInBounds_toArray, List.set_cons_zero, List.set_cons_succ]
              refine wpAnyH_done (by kernel_rfl) ?_ _
              clear hHeld hHeldwF hHeldwG kd kf kg
              go_wp2_with fail
              go_ret
              exact ⟨ret_b _ _ HSN.out.symm, HBW.out.trans (hG.mono HBW.out.size)⟩
          · have hd1 : ((a : Int) != (b : Int)) = true := by simp; omega
            by_cases hzz : za = zb
            · have HSN : Hid (symB rs zs = false) := Lib.hid (HNO.out fun h9 => (HG.out.1 h9).1 hab hzz)
              have hd2 : ((za : Int) == (zb : Int)) = true := by rw [hzz]; simp
              clear hab
              go_wp2_with fail
              refine wp_region_held_drew (S := (fun ww => ww.cell? ⟨w.heap.size, 0, none⟩ = some (.int .i64 (n : Int)) ∧ ww.cell? ⟨w.heap.size, 1, none⟩ = some (.slice A n c) ∧ ww.cell? ⟨bl, ol + a, none⟩ = some (.int .i64 (za : Int)) ∧ ww.cell? ⟨bl, ol + b, none⟩ = some (.int .i64 (zb : Int)))) (by kernel_rfl) kd (fun hHeld => ?_)
              refine wpAnyH_take (i := 0) (oi := ⟨some 19, _, _, _, _, _⟩) (v := ?_) rfl (by kernel_rfl) (by kernel_rfl) (by kernel_rfl) (fun _ _ _ h => h) (Or.inl ⟨by kernel_rfl, ?_⟩) (by assumption) ?_
              rotate_left
              · (intro w9 hS9; (try dsimp only at hS9); go_simp; try with_reducible rfl)
              simp only [Act.put, List.setIfInBounds_toArray, List.set_cons_zero, List.set_cons_succ]
              refine wpAnyH_take (i := 1) (oi := ⟨some 20, _, _, _, _, _⟩) (v := ?_) rfl (by kernel_rfl) (by kernel_rfl) (by kernel_rfl) (fun _ _ _ h => h) (Or.inl ⟨by kernel_rfl, ?_⟩) (by assumption) ?_
              rotate_left
              · (intro w9 hS9; (try dsimp only at hS9); go_simp; try with_reducible rfl)
              simp only [Act.put, List.setIfInBounds_toArray, List.set_cons_zero, List.set_cons_succ]
              refine wpAnyH_take (i := 2) (oi := ⟨some 21, _, _, _, _, _⟩) (v := ?_) rfl (by kernel_rfl) (by kernel_rfl) (by kernel_rfl) (fun _ _ _ h => h) (Or.inl ⟨by kernel_rfl, ?_⟩) (by assumption) ?_
              rotate_left
              · (intro w9 hS9; (try dsimp only at hS9); go_simp; try with_reducible rfl)
              simp only [Act.put, List.setIfInBounds_toArray, List.set_cons_zero, List.set_cons_succ]
              refine wpAnyH_take (i := 3) (oi := ⟨some 22, _, _, _, _, _⟩) (v := ?_) rfl (by kernel_rfl) (by kernel_rfl) (by kernel_rfl) (fun _ _ _ h => h) (Or.inl ⟨by kernel_rfl, ?_⟩) (by assumption) ?_
              rotate_left
              · (intro w9 hS9; (try dsimp only at hS9); go_simp; try with_reducible rfl)
              simp only [Act.put, List.setIfInBounds_toArray, List.set_cons_zero, List.set_cons_succ]
              refine wpAnyH_take (i := 4) (oi := ⟨some 23, _, _, _, _, _⟩) (v := ?_) rfl (by kernel_rfl) (by kernel_rfl) (by kernel_rfl) (fun _ _ _ h => h) (Or.inl ⟨by kernel_rfl, ?_⟩) (by assumption) ?_
              rotate_left
              · (intro w9 hS9; (try dsimp only at hS9); go_simp; try with_reducible rfl)
              simp only [Act.put, List.setIfInBounds_toArray, List.set_cons_zero, List.set_cons_succ]
              refine wpAnyH_take (i := 5) (oi := ⟨some 24, _, _, _, _, _⟩) (v := ?_) rfl (by kernel_rfl) (by kernel_rfl) (by kernel_rfl) (fun _ _ _ h => h) (Or.inl ⟨by kernel_rfl, ?_⟩) (by assumption) ?_
              rotate_left
              · (intro w9 hS9; (try dsimp only at hS9); go_simp; try with_reducible rfl)
              simp only [Act.put, List.setIfInBounds_toArray, List.set_cons_zero, List.set_cons_succ]
              refine wpAnyH_take (i := 6) (oi := ⟨some 25, _, _, _, _, _⟩) (v := ?_) rfl (by kernel_rfl) (by kernel_rfl) (by kernel_rfl) (fun _ _ _ h => h) (Or.inl ⟨by kernel_rfl, ?_⟩) (by assumption) ?_
              rotate_left
              · (intro w9 hS9; (try dsimp only at hS9); go_simp; try with_reducible rfl)
              simp only [Act.put, List.setIfInBounds_toArray, List.set_cons_zero, List.set_cons_succ]
              refine wpAnyH_take (i := 7) (oi := ⟨some 26, _, _, _, _, _⟩) (v := ?_) rfl (by kernel_rfl) (by kernel_rfl) (by kernel_rfl) (fun _ _ _ h => h) (Or.inl ⟨by kernel_rfl, ?_⟩) (by assumption) ?_
              rotate_left
              · (intro w9 hS9; (try dsimp only at hS9); go_simp; try with_reducible rfl)
              simp only [Act.put, List.setIfInBounds_toArray, List.set_cons_zero, List.set_cons_succ]
              refine wpAnyH_take (i := 8) (oi := ⟨some 27, _, _, _, _, _⟩) (v := ?_) rfl (by kernel_rfl) (by kernel_rfl) (by kernel_rfl) (fun _ _ _ h => h) (Or.inl ⟨by kernel_rfl, ?_⟩) (by assumption) ?_
              rotate_left
              · (intro w9 hS9; (try dsimp only at hS9); go_simp; try with_reducible rfl)
              simp only [Act.put, List.setIfInBounds_toArray, List.set_cons_zero, List.set_cons_succ]
              refine wpAnyH_take (i := 9) (oi := ⟨some 28, _, _, _, _, _⟩) (v := ?_) rfl (by kernel_rfl) (by kernel_rfl) (by kernel_rfl) (fun _ _ _ h => h) (Or.inl ⟨by kernel_rfl, ?_⟩) (by assumption) ?_
              rotate_left
              · (intro w9 hS9; (try dsimp only at hS9); go_simp; try with_reducible rfl)
              simp only [Act.put, List.setIfInBounds_toArray, List.set_cons_zero, List.set_cons_succ]
              refine wpAnyH_take (i := 10) (oi := ⟨some 29, _, _, _, _, _⟩) (v := ?_) rfl (by kernel_rfl) (by kernel_rfl) (by kernel_rfl) (fun _ _ _ h => h) (Or.inl ⟨by kernel_rfl, ?_⟩) (by assumption) ?_
              rotate_left
              · (intro w9 hS9; (try dsimp only at hS9); go_simp; try with_reducible rfl)
              simp only [Act.put, List.setIfInBounds_toArray, List.set_cons_zero, List.set_cons_succ]
              refine wpAnyH_take (i := 11) (oi := ⟨some 30, _, _, _, _, _⟩) (v := ?_) rfl (by kernel_rfl) (by kernel_rfl) (by kernel_rfl) (fun _ _ _ h => h) (Or.inl ⟨by kernel_rfl, ?_⟩) (by assumption) ?_
              rotate_left
              · (intro w9 hS9; (try dsimp only at hS9); go_simp; try with_reducible rfl)
              simp only [Act.put, List.setIfInBounds_toArray, List.set_cons_zero, List.set_cons_succ]
              refine wpAnyH_take (i := 12) (oi := ⟨some 31, _, _, _, _, _⟩) (v := ?_) rfl (by kernel_rfl) (by kernel_rfl) (by kernel_rfl) (fun _ _ _ h => h) (Or.inl ⟨by kernel_rfl, ?_⟩) (by assumption) ?_
              rotate_left
              · (intro w9 hS9; (try dsimp only at hS9); go_simp; try with_reducible rfl)
              simp only [Act.put, List.setIfInBounds_toArray, List.set_cons_zero, List.set_cons_succ]
              refine wpAnyH_take (i := 13) (oi := ⟨some 32, _, _, _, _, _⟩) (v := ?_) rfl (by kernel_rfl) (by kernel_rfl) (by kernel_rfl) (fun _ _ _ h => h) (Or.inl ⟨by kernel_rfl, ?_⟩) (by assumption) ?_
              rotate_left
              · (intro w9 hS9; (try dsimp only at hS9); go_simp; try with_reducible rfl)
              simp only [Act.put, List.setIfInBounds_toArray, List.set_cons_zero, List.set_cons_succ]
              refine wpAnyH_take (i := 14) (oi := ⟨some 33, _, _, _, _, _⟩) (v := ?_) rfl (by kernel_rfl) (by kernel_rfl) (by kernel_rfl) (fun _ _ _ h => h) (Or.inl ⟨by kernel_rfl, ?_⟩) (by assumption) ?_
              rotate_left
              · (intro w9 hS9; (try dsimp only at hS9); go_simp; try with_reducible rfl)
              simp only [Act.put, List.setIfInBounds_toArray, List.set_cons_zero, List.set_cons_succ]
              refine wpAnyH_take (i := 15) (oi := ⟨some 34, _, _, _, _, _⟩) (v := undef) rfl (by kernel_rfl) (by kernel_rfl) (by kernel_rfl) (fun _ _ _ h => h) (Or.inr ⟨by kernel_rfl, rfl⟩) (by assumption) ?_
              simp only [Act.put, List.setIfInBounds_toArray, List.set_cons_zero, List.set_cons_succ]
              refine wpAnyH_take (i := 16) (oi := ⟨some 35, _, _, _, _, _⟩) (v := undef) rfl (by kernel_rfl) (by kernel_rfl) (by kernel_rfl) (fun _ _ _ h => h) (Or.inr ⟨by kernel_rfl, rfl⟩) (by assumption) ?_
              simp only [Act.put, List.setIfInBounds_toArray, List.set_cons_zero, List.set_cons_succ]
              refine wpAnyH_take (i := 17) (oi := ⟨some 36, _, _, _, _, _⟩) (v := undef) rfl (by kernel_rfl) (by kernel_rfl) (by kernel_rfl) (fun _ _ _ h => h) (Or.inr ⟨by kernel_rfl, rfl⟩) (by assumption) ?_
              simp only [Act.put, List.setIfInBounds_toArray, List.set_cons_zero, List.set_cons_succ]
              refine wpAnyH_take (i := 18) (oi := ⟨some 37, _, _, _, _, _⟩) (v := undef) rfl (by kernel_rfl) (by kernel_rfl) (by kernel_rfl) (fun _ _ _ h => h) (Or.inr ⟨by kernel_rfl, rfl⟩) (by assumption) ?_
              simp only [Act.put, List.setIfInBounds_toArray, List.set_cons_zero, List.set_cons_succ]
              refine wpAnyH_take (i := 19) (oi := ⟨some 38, _, _, _, _, _⟩) (v := undef) rfl (by kernel_rfl) (by kernel_rfl) (by kernel_rfl) (fun _ _ _ h => h) (Or.inr ⟨by kernel_rfl, rfl⟩) (by assumption) ?_
              simp only [Act.put, List.setIfInBounds_toArray, List.set_cons_zero, List.set_cons_succ]
              refine wpAnyH_take (i := 20) (oi := ⟨some 39, _, _, _, _, _⟩) (v := undef) rfl (by kernel_rfl) (by kernel_rfl) (by kernel_rfl) (fun _ _ _ h => h) (Or.inr ⟨by kernel_rfl, rfl⟩) (by assumption) ?_
              simp only [Act.put, List.setIfInBounds_toArray, List.set_cons_zero, List.set_cons_succ]
              refine wpAnyH_take (i := 21) (oi := ⟨some 40, _, _, _, _, _⟩) (v := undef) rfl (by kernel_rfl) (by kernel_rfl) (by kernel_rfl) (fun _ _ _ h => h) (Or.inr ⟨by kernel_rfl, rfl⟩) (by assumption) ?_
              simp only [Act.put, List.setIfInBounds_toArray, List.set_cons_zero, List.set_cons_succ]
              refine wpAnyH_take (i := 22) (oi := ⟨some 41, _, _, _, _, _⟩) (v := undef) rfl (by kernel_rfl) (by kernel_rfl) (by kernel_rfl) (fun _ _ _ h => h) (Or.inr ⟨by kernel_rfl, rfl⟩) (by assumption) ?_
              simp only [Act.put, List.setIfInBounds_toArray, List.set_cons_zero, List.set_cons_succ]
              refine wpAnyH_take (i := 23) (oi := ⟨some 42, _, _, _, _, _⟩) (v := undef) rfl (by kernel_rfl) (by kernel_rfl) (by kernel_rfl) (fun _ _ _ h => h) (Or.inr ⟨by kernel_rfl, rfl⟩) (by assumption) ?_
              simp only [Act.put, List.setIfInBounds_toArray, List.set_cons_zero, List.set_cons_succ]
              refine wpAnyH_take (i := 24) (oi := ⟨some 43, _, _, _, _, _⟩) (v := undef) rfl (by kernel_rfl) (by kernel_rfl) (by kernel_rfl) (fun _ _ _ h => h) (Or.inr ⟨by kernel_rfl, rfl⟩) (by assumption) ?_
              simp only [Act.put, List.setIfInBounds_toArray, List.set_cons_zero, List.set_cons_succ]
              refine wpAnyH_take (i := 25) (oi := ⟨some 44, _, _, _, _, _⟩) (v := undef) rfl (by kernel_rfl) (by kernel_rfl) (by kernel_rfl) (fun _ _ _ h => h) (Or.inr ⟨by kernel_rfl, rfl⟩) (by assumption) ?_
              simp only [Act.put, List.setIfInBounds_toArray, List.set_cons_zero, List.set_cons_succ]
              refine wpAnyH_take (i := 26) (oi := ⟨some 45, _, _, _, _, _⟩) (v := undef) rfl (by kernel_rfl) (by kernel_rfl) (by kernel_rfl) (fun _ _ _ h => h) (Or.inr ⟨by kernel_rfl, rfl⟩) (by assumption) ?_
              simp only [Act.put, List.setIfInBounds_toArray, List.set_cons_zero, List.set_cons_succ]
              refine wpAnyH_take (i := 27) (oi := ⟨some 46, _, _, _, _, _⟩) (v := undef) rfl (by kernel_rfl) (by kernel_rfl) (by kernel_rfl) (fun _ _ _ h => h) (Or.inr ⟨by kernel_rfl, rfl⟩) (by assumption) ?_
              simp only [Act.put, List.setIfInBounds_toArray, List.set_cons_zero, List.set_cons_succ]
              refine wpAnyH_take (i := 28) (oi := ⟨some 47, _, _, _, _, _⟩) (v := undef) rfl (by kernel_rfl) (by kernel_rfl) (by kernel_rfl) (fun _ _ _ h => h) (Or.inr ⟨by kernel_rfl, rfl⟩) (by assumption) ?_
              simp only [Act.put, List.setIfInBounds_toArray, List.set_cons_zero, List.set_cons_succ]
              refine wpAnyH_take (i := 29) (oi := ⟨some 48, _, _, _, _, _⟩) (v := undef) rfl (by kernel_rfl) (by kernel_rfl) (by kernel_rfl) (fun _ _ _ h => h) (Or.inr ⟨by kernel_rfl, rfl⟩) (by assumption) ?_
              simp only [Act.put, List.setIfInBounds_toArray, List.set_cons_zero, List.set_cons_succ]
              refine wpAnyH_take (i := 30) (oi := ⟨some 49, _, _, _, _, _⟩) (v := ?_) rfl (by kernel_rfl) (by kernel_rfl) (by kernel_rfl) (fun _ _ _ h => h) (Or.inl ⟨by kernel_rfl, ?_⟩) (by assumption) ?_
              rotate_left
              · (intro w9 hS9; (try dsimp only at hS9); go_simp; try with_reducible rfl)
              simp only [Act.put, List.setIfInBounds_toArray, List.set_cons_zero, List.set_cons_succ]
              refine wpAnyH_done (by kernel_rfl) ?_ _
              clear hHeld kd
              go_wp2_with fail
              go_ret
              exact ⟨ret_b _ _ HSN.out.symm, HBW.out.trans (hdr.mono HBW.out.size)⟩
            · have hd2 : ((za : Int) == (zb : Int)) = false := by simp; omega
              by_cases hT : T1 = T2
              · have HGY : Hid (goodP rs zs a b) := Lib.hid (HG.out.2 ⟨fun _ => hzz, hT⟩)
                subst hT
                have hd3 : (T1 != T1) = false := by simp
                clear hab
                go_wp2_with fail
                refine wp_region_held_drew (S := (fun ww => ww.cell? ⟨w.heap.size, 0, none⟩ = some (.int .i64 (n : Int)) ∧ ww.cell? ⟨w.heap.size, 1, none⟩ = some (.slice A n c) ∧ ww.cell? ⟨bl, ol + a, none⟩ = some (.int .i64 (za : Int)) ∧ ww.cell? ⟨bl, ol + b, none⟩ = some (.int .i64 (zb : Int)))) (by kernel_rfl) kd (fun hHeld => ?_)
                refine wpAnyH_take (i := 0) (oi := ⟨some 19, _, _, _, _, _⟩) (v := ?_) rfl (by kernel_rfl) (by kernel_rfl) (by kernel_rfl) (fun _ _ _ h => h) (Or.inl ⟨by kernel_rfl, ?_⟩) (by assumption) ?_
                rotate_left
                · (intro w9 hS9; (try dsimp only at hS9); go_simp; try with_reducible rfl)
                simp only [Act.put, List.setIfInBounds_toArray, List.set_cons_zero, List.set_cons_succ]
                refine wpAnyH_take (i := 1) (oi := ⟨some 20, _, _, _, _, _⟩) (v := ?_) rfl (by kernel_rfl) (by kernel_rfl) (by kernel_rfl) (fun _ _ _ h => h) (Or.inl ⟨by kernel_rfl, ?_⟩) (by assumption) ?_
                rotate_left
                · (intro w9 hS9; (try dsimp only at hS9); go_simp; try with_reducible rfl)
                simp only [Act.put, List.setIfInBounds_toArray, List.set_cons_zero, List.set_cons_succ]
                refine wpAnyH_take (i := 2) (oi := ⟨some 21, _, _, _, _, _⟩) (v := ?_) rfl (by kernel_rfl) (by kernel_rfl) (by kernel_rfl) (fun _ _ _ h => h) (Or.inl ⟨by kernel_rfl, ?_⟩) (by assumption) ?_
                rotate_left
                · (intro w9 hS9; (try dsimp only at hS9); go_simp; try with_reducible rfl)
                simp only [Act.put, List.setIfInBounds_toArray, List.set_cons_zero, List.set_cons_succ]
                refine wpAnyH_take (i := 3) (oi := ⟨some 22, _, _, _, _, _⟩) (v := ?_) rfl (by kernel_rfl) (by kernel_rfl) (by kernel_rfl) (fun _ _ _ h => h) (Or.inl ⟨by kernel_rfl, ?_⟩) (by assumption) ?_
                rotate_left
                · (intro w9 hS9; (try dsimp only at hS9); go_simp; try with_reducible rfl)
                simp only [Act.put, List.setIfInBounds_toArray, List.set_cons_zero, List.set_cons_succ]
                refine wpAnyH_take (i := 4) (oi := ⟨some 23, _, _, _, _, _⟩) (v := ?_) rfl (by kernel_rfl) (by kernel_rfl) (by kernel_rfl) (fun _ _ _ h => h) (Or.inl ⟨by kernel_rfl, ?_⟩) (by assumption) ?_
                rotate_left
                · (intro w9 hS9; (try dsimp only at hS9); go_simp; try with_reducible rfl)
                simp only [Act.put, List.setIfInBounds_toArray, List.set_cons_zero, List.set_cons_succ]
                refine wpAnyH_take (i := 5) (oi := ⟨some 24, _, _, _, _, _⟩) (v := ?_) rfl (by kernel_rfl) (by kernel_rfl) (by kernel_rfl) (fun _ _ _ h => h) (Or.inl ⟨by kernel_rfl, ?_⟩) (by assumption) ?_
                rotate_left
                · (intro w9 hS9; (try dsimp only at hS9); go_simp; try with_reducible rfl)
                simp only [Act.put, List.setIfInBounds_toArray, List.set_cons_zero, List.set_cons_succ]
                refine wpAnyH_take (i := 6) (oi := ⟨some 25, _, _, _, _, _⟩) (v := ?_) rfl (by kernel_rfl) (by kernel_rfl) (by kernel_rfl) (fun _ _ _ h => h) (Or.inl ⟨by kernel_rfl, ?_⟩) (by assumption) ?_
                rotate_left
                · (intro w9 hS9; (try dsimp only at hS9); go_simp; try with_reducible rfl)
                simp only [Act.put, List.setIfInBounds_toArray, List.set_cons_zero, List.set_cons_succ]
                refine wpAnyH_take (i := 7) (oi := ⟨some 26, _, _, _, _, _⟩) (v := ?_) rfl (by kernel_rfl) (by kernel_rfl) (by kernel_rfl) (fun _ _ _ h => h) (Or.inl ⟨by kernel_rfl, ?_⟩) (by assumption) ?_
                rotate_left
                · (intro w9 hS9; (try dsimp only at hS9); go_simp; try with_reducible rfl)
                simp only [Act.put, List.setIfInBounds_toArray, List.set_cons_zero, List.set_cons_succ]
                refine wpAnyH_take (i := 8) (oi := ⟨some 27, _, _, _, _, _⟩) (v := ?_) rfl (by kernel_rfl) (by kernel_rfl) (by kernel_rfl) (fun _ _ _ h => h) (Or.inl ⟨by kernel_rfl, ?_⟩) (by assumption) ?_
                rotate_left
                · (intro w9 hS9; (try dsimp only at hS9); go_simp; try with_reducible rfl)
                simp only [Act.put, List.setIfInBounds_toArray, List.set_cons_zero, List.set_cons_succ]
                refine wpAnyH_take (i := 9) (oi := ⟨some 28, _, _, _, _, _⟩) (v := ?_) rfl (by kernel_rfl) (by kernel_rfl) (by kernel_rfl) (fun _ _ _ h => h) (Or.inl ⟨by kernel_rfl, ?_⟩) (by assumption) ?_
                rotate_left
                · (intro w9 hS9; (try dsimp only at hS9); go_simp; try with_reducible rfl)
                simp only [Act.put, List.setIfInBounds_toArray, List.set_cons_zero, List.set_cons_succ]
                refine wpAnyH_take (i := 10) (oi := ⟨some 29, _, _, _, _, _⟩) (v := ?_) rfl (by kernel_rfl) (by kernel_rfl) (by kernel_rfl) (fun _ _ _ h => h) (Or.inl ⟨by kernel_rfl, ?_⟩) (by assumption) ?_
                rotate_left
                · (intro w9 hS9; (try dsimp only at hS9); go_simp; try with_reducible rfl)
                simp only [Act.put, List.setIfInBounds_toArray, List.set_cons_zero, List.set_cons_succ]
                refine wpAnyH_take (i := 11) (oi := ⟨some 30, _, _, _, _, _⟩) (v := ?_) rfl (by kernel_rfl) (by kernel_rfl) (by kernel_rfl) (fun _ _ _ h => h) (Or.inl ⟨by kernel_rfl, ?_⟩) (by assumption) ?_
                rotate_left
                · (intro w9 hS9; (try dsimp only at hS9); go_simp; try with_reducible rfl)
                simp only [Act.put, List.setIfInBounds_toArray, List.set_cons_zero, List.set_cons_succ]
                refine wpAnyH_take (i := 12) (oi := ⟨some 31, _, _, _, _, _⟩) (v := ?_) rfl (by kernel_rfl) (by kernel_rfl) (by kernel_rfl) (fun _ _ _ h => h) (Or.inl ⟨by kernel_rfl, ?_⟩) (by assumption) ?_
                rotate_left
                · (intro w9 hS9; (try dsimp only at hS9); go_simp; try with_reducible rfl)
                simp only [Act.put, List.setIfInBounds_toArray, List.set_cons_zero, List.set_cons_succ]
                refine wpAnyH_take (i := 13) (oi := ⟨some 32, _, _, _, _, _⟩) (v := ?_) rfl (by kernel_rfl) (by kernel_rfl) (by kernel_rfl) (fun _ _ _ h => h) (Or.inl ⟨by kernel_rfl, ?_⟩) (by assumption) ?_
                rotate_left
                · (intro w9 hS9; (try dsimp only at hS9); go_simp; try with_reducible rfl)
                simp only [Act.put, List.setIfInBounds_toArray, List.set_cons_zero, List.set_cons_succ]
                refine wpAnyH_take (i := 14) (oi := ⟨some 33, _, _, _, _, _⟩) (v := ?_) rfl (by kernel_rfl) (by kernel_rfl) (by kernel_rfl) (fun _ _ _ h => h) (Or.inl ⟨by kernel_rfl, ?_⟩) (by assumption) ?_
                rotate_left
                · (intro w9 hS9; (try dsimp only at hS9); go_simp; try with_reducible rfl)
                simp only [Act.put, List.setIfInBounds_toArray, List.set_cons_zero, List.set_cons_succ]
                refine wpAnyH_take (i := 15) (oi := ⟨some 34, _, _, _, _, _⟩) (v := ?_) rfl (by kernel_rfl) (by kernel_rfl) (by kernel_rfl) (fun _ _ _ h => h) (Or.inl ⟨by kernel_rfl, ?_⟩) (by assumption) ?_
                rotate_left
                · (intro w9 hS9; (try dsimp only at hS9); go_simp; try with_reducible rfl)
                simp only [Act.put, List.setIfInBounds_toArray, List.set_cons_zero, List.set_cons_succ]
                refine wpAnyH_take (i := 16) (oi := ⟨some 35, _, _, _, _, _⟩) (v := ?_) rfl (by kernel_rfl) (by kernel_rfl) (by kernel_rfl) (fun _ _ _ h => h) (Or.inl ⟨by kernel_rfl, ?_⟩) (by assumption) ?_
                rotate_left
                · (intro w9 hS9; (try dsimp only at hS9); go_simp; try with_reducible rfl)
                simp only [Act.put, List.setIfInBounds_toArray, List.set_cons_zero, List.set_cons_succ]
                refine wpAnyH_take (i := 17) (oi := ⟨some 36, _, _, _, _, _⟩) (v := ?_) rfl (by kernel_rfl) (by kernel_rfl) (by kernel_rfl) (fun _ _ _ h => h) (Or.inl ⟨by kernel_rfl, ?_⟩) (by assumption) ?_
                rotate_left
                · (intro w9 hS9; (try dsimp only at hS9); go_simp; try with_reducible rfl)
                simp only [Act.put, List.setIfInBounds_toArray, List.set_cons_zero, List.set_cons_succ]
                refine wpAnyH_take (i := 19) (oi := ⟨some 38, _, _, _, _, _⟩) (v := ?_) rfl (by kernel_rfl) (by kernel_rfl) (by kernel_rfl) (fun _ _ _ h => h) (Or.inl ⟨by kernel_rfl, ?_⟩) (by assumption) ?_
                rotate_left
                · (intro w9 hS9; (try dsimp only at hS9); go_simp; try with_reducible rfl)
                simp only [Act.put, List.setIfInBounds_toArray, List.set_cons_zero, List.set_cons_succ]
                refine wpAnyH_take (i := 20) (oi := ⟨some 39, _, _, _, _, _⟩) (v := ?_) rfl (by kernel_rfl) (by kernel_rfl) (by kernel_rfl) (fun _ _ _ h => h) (Or.inl ⟨by kernel_rfl, ?_⟩) (by assumption) ?_
                rotate_left
                · (intro w9 hS9; (try dsimp only at hS9); go_simp; try with_reducible rfl)
                simp only [Act.put, List.setIfInBounds_toArray, List.set_cons_zero, List.set_cons_succ]
                refine wpAnyH_take (i := 21) (oi := ⟨some 40, _, _, _, _, _⟩) (v := ?_) rfl (by kernel_rfl) (by kernel_rfl) (by kernel_rfl) (fun _ _ _ h => h) (Or.inl ⟨by kernel_rfl, ?_⟩) (by assumption) ?_
                rotate_left
                · (intro w9 hS9; (try dsimp only at hS9); go_simp; try with_reducible rfl)
                simp only [Act.put, List.setIfInBounds_toArray, List.set_cons_zero, List.set_cons_succ]
                refine wpAnyH_take (i := 22) (oi := ⟨some 41, _, _, _, _, _⟩) (v := ?_) rfl (by kernel_rfl) (by kernel_rfl) (by kernel_rfl) (fun _ _ _ h => h) (Or.inl ⟨by kernel_rfl, ?_⟩) (by assumption) ?_
                rotate_left
                · (intro w9 hS9; (try dsimp only at hS9); go_simp; try with_reducible rfl)
                simp only [Act.put, List.setIfInBounds_toArray, List.set_cons_zero, List.set_cons_succ]
                refine wpAnyH_take (i := 23) (oi := ⟨some 42, _, _, _, _, _⟩) (v := ?_) rfl (by kernel_rfl) (by kernel_rfl) (by kernel_rfl) (fun _ _ _ h => h) (Or.inl ⟨by kernel_rfl, ?_⟩) (by assumption) ?_
                rotate_left
                · (intro w9 hS9; (try dsimp only at hS9); go_simp; try with_reducible rfl)
                simp only [Act.put, List.setIfInBounds_toArray, List.set_cons_zero, List.set_cons_succ]
                refine wpAnyH_take (i := 24) (oi := ⟨some 43, _, _, _, _, _⟩) (v := ?_) rfl (by kernel_rfl) (by kernel_rfl) (by kernel_rfl) (fun _ _ _ h => h) (Or.inl ⟨by kernel_rfl, ?_⟩) (by assumption) ?_
                rotate_left
                · (intro w9 hS9; (try dsimp only at hS9); go_simp; try with_reducible rfl)
                simp only [Act.put, List.setIfInBounds_toArray, List.set_cons_zero, List.set_cons_succ]
                refine wpAnyH_take (i := 25) (oi := ⟨some 44, _, _, _, _, _⟩) (v := ?_) rfl (by kernel_rfl) (by kernel_rfl) (by kernel_rfl) (fun _ _ _ h => h) (Or.inl ⟨by kernel_rfl, ?_⟩) (by assumption) ?_
                rotate_left
                · (intro w9 hS9; (try dsimp only at hS9); go_simp; try with_reducible rfl)
                simp only [Act.put, List.setIfInBounds_toArray, List.set_cons_zero, List.set_cons_succ]
                refine wpAnyH_take (i := 26) (oi := ⟨some 45, _, _, _, _, _⟩) (v := ?_) rfl (by kernel_rfl) (by kernel_rfl) (by kernel_rfl) (fun _ _ _ h => h) (Or.inl ⟨by kernel_rfl, ?_⟩) (by assumption) ?_
                rotate_left
                · (intro w9 hS9; (try dsimp only at hS9); go_simp; try with_reducible rfl)
                simp only [Act.put, List.setIfInBounds_toArray, List.set_cons_zero, List.set_cons_succ]
                refine wpAnyH_take (i := 27) (oi := ⟨some 46, _, _, _, _, _⟩) (v := ?_) rfl (by kernel_rfl) (by kernel_rfl) (by kernel_rfl) (fun _ _ _ h => h) (Or.inl ⟨by kernel_rfl, ?_⟩) (by assumption) ?_
                rotate_left
                · (intro w9 hS9; (try dsimp only at hS9); go_simp; try with_reducible rfl)
                simp only [Act.put, List.setIfInBounds_toArray, List.set_cons_zero, List.set_cons_succ]
                refine wpAnyH_ready (rs := [18]) (by kernel_rfl) (by simp) ?_
                refine AllReadyH.cons (o := _) rfl (fun K hK => ?_) AllReadyH.nil
                go_simp
                go_at_call 141
                with_reducible refine (HDA.out _ hdr).mono ?_
                rintro e wF ⟨rfl, bF⟩
                have hF := hdr.trans (bF.mono hdr.size)
                have kf := HKP.out _ hF
                go_wp2_with fail
                refine hK.out _ _ kf (fun hHeldwF => ?_)
                clear hK K
                try simp only [Act.put, List.setIfInBounds_toArray, List.set_cons_zero, List.set_cons_succ]
                refine wpAnyH_ready (rs := [28]) (by kernel_rfl) (by simp) ?_
                refine AllReadyH.cons (o := _) rfl (fun K hK => ?_) AllReadyH.nil
                go_simp
                go_at_call 141
                with_reducible refine (HDB.out _ hF).mono ?_
                rintro e wG ⟨rfl, bG⟩
                have hG := hF.trans (bG.mono hF.size)
                have kg := HKP.out _ hG
                go_wp2_with fail
                refine hK.out _ _ kg (fun hHeldwG => ?_)
                clear hK K
                try simp only [Act.put, List.setIfInBounds_toArray, List.set_cons_zero, List.set_cons_succ]
                refine wpAnyH_take (i := 29) (oi := ⟨some 48, _, _, _, _, _⟩) (v := ?_) rfl (by kernel_rfl) (by kernel_rfl) (by kernel_rfl) (fun _ _ _ h => h) (Or.inl ⟨by kernel_rfl, ?_⟩) (by assumption) ?_
                rotate_left
                · (intro w9 hS9; (try dsimp only at hS9); go_simp; try with_reducible rfl)
                simp only [Act.put, List.setIfInBounds_toArray, List.set_cons_zero, List.set_cons_succ]
                refine wpAnyH_take (i := 30) (oi := ⟨some 49, _, _, _, _, _⟩) (v := ?_) rfl (by kernel_rfl) (by kernel_rfl) (by kernel_rfl) (fun _ _ _ h => h) (Or.inl ⟨by kernel_rfl, ?_⟩) (by assumption) ?_
                rotate_left
                · (intro w9 hS9; (try dsimp only at hS9); go_simp; try with_reducible rfl)
                simp only [Act.put, List.setIfInBounds_toArray, List.set_cons_zero, List.set_cons_succ]
                refine wpAnyH_done (by kernel_rfl) ?_ _
                have hb9 := hb.trans (hG.mono hb.size)
                clear hHeld hHeldwF hHeldwG kd kf kg
                go_wp2_with fail
                go_roundw
                case rel => exact ⟨b + 1, by omega, by go_num, fun b' h9 => (by
                  rcases Nat.lt_or_ge b' b with h8 | h8
                  · exact HROW.out b' h8
                  · obtain rfl : b' = b := by omega
                    exact HGY.out), hb9⟩
                case measure => simp [intOf]; omega
              · have HSN : Hid (symB rs zs = false) := Lib.hid (HNO.out fun h9 => hT (HG.out.1 h9).2)
                have hd4 : (T1 == T2) = false := by simpa using hT
                have hd3 : (T1 != T2) = true := by simpa using hT
                clear hab
                go_wp2_with fail
                refine wp_region_held_drew (S := (fun ww => ww.cell? ⟨w.heap.size, 0, none⟩ = some (.int .i64 (n : Int)) ∧ ww.cell? ⟨w.heap.size, 1, none⟩ = some (.slice A n c) ∧ ww.cell? ⟨bl, ol + a, none⟩ = some (.int .i64 (za : Int)) ∧ ww.cell? ⟨bl, ol + b, none⟩ = some (.int .i64 (zb : Int)))) (by kernel_rfl) kd (fun hHeld => ?_)
                refine wpAnyH_take (i := 0) (oi := ⟨some 19, _, _, _, _, _⟩) (v := ?_) rfl (by kernel_rfl) (by kernel_rfl) (by kernel_rfl) (fun _ _ _ h => h) (Or.inl ⟨by kernel_rfl, ?_⟩) (by assumption) ?_
                rotate_left
                · (intro w9 hS9; (try dsimp only at hS9); go_simp; try with_reducible rfl)
                simp only [Act.put, List.setIfInBounds_toArray, List.set_cons_zero, List.set_cons_succ]
                refine wpAnyH_take (i := 1) (oi := ⟨some 20, _, _, _, _, _⟩) (v := ?_) rfl (by kernel_rfl) (by kernel_rfl) (by kernel_rfl) (fun _ _ _ h => h) (Or.inl ⟨by kernel_rfl, ?_⟩) (by assumption) ?_
                rotate_left
                · (intro w9 hS9; (try dsimp only at hS9); go_simp; try with_reducible rfl)
                simp only [Act.put, List.setIfInBounds_toArray, List.set_cons_zero, List.set_cons_succ]
                refine wpAnyH_take (i := 2) (oi := ⟨some 21, _, _, _, _, _⟩) (v := ?_) rfl (by kernel_rfl) (by kernel_rfl) (by kernel_rfl) (fun _ _ _ h => h) (Or.inl ⟨by kernel_rfl, ?_⟩) (by assumption) ?_
                rotate_left
                · (intro w9 hS9; (try dsimp only at hS9); go_simp; try with_reducible rfl)
                simp only [Act.put, List.setIfInBounds_toArray, List.set_cons_zero, List.set_cons_succ]
                refine wpAnyH_take (i := 3) (oi := ⟨some 22, _, _, _, _, _⟩) (v := ?_) rfl (by kernel_rfl) (by kernel_rfl) (by kernel_rfl) (fun _ _ _ h => h) (Or.inl ⟨by kernel_rfl, ?_⟩) (by assumption) ?_
                rotate_left
                · (intro w9 hS9; (try dsimp only at hS9); go_simp; try with_reducible rfl)
                simp only [Act.put, List.setIfInBounds_toArray, List.set_cons_zero, List.set_cons_succ]
                refine wpAnyH_take (i := 4) (oi := ⟨some 23, _, _, _, _, _⟩) (v := ?_) rfl (by kernel_rfl) (by kernel_rfl) (by kernel_rfl) (fun _ _ _ h => h) (Or.inl ⟨by kernel_rfl, ?_⟩) (by assumption) ?_
                rotate_left
                · (intro w9 hS9; (try dsimp only at hS9); go_simp; try with_reducible rfl)
                simp only [Act.put, List.setIfInBounds_toArray, List.set_cons_zero, List.set_cons_succ]
                refine wpAnyH_take (i := 5) (oi := ⟨some 24, _, _, _, _, _⟩) (v := ?_) rfl (by kernel_rfl) (by kernel_rfl) (by kernel_rfl) (fun _ _ _ h => h) (Or.inl ⟨by kernel_rfl, ?_⟩) (by assumption) ?_
                rotate_left
                · (intro w9 hS9; (try dsimp only at hS9); go_simp; try with_reducible rfl)
                simp only [Act.put, List.setIfInBounds_toArray, List.set_cons_zero, List.set_cons_succ]
                refine wpAnyH_take (i := 6) (oi := ⟨some 25, _, _, _, _, _⟩) (v := ?_) rfl (by kernel_rfl) (by kernel_rfl) (by kernel_rfl) (fun _ _ _ h => h) (Or.inl ⟨by kernel_rfl, ?_⟩) (by assumption) ?_
                rotate_left
                · (intro w9 hS9; (try dsimp only at hS9); go_simp; try with_reducible rfl)
                simp only [Act.put, List.setIfInBounds_toArray, List.set_cons_zero, List.set_cons_succ]
                refine wpAnyH_take (i := 7) (oi := ⟨some 26, _, _, _, _, _⟩) (v := ?_) rfl (by kernel_rfl) (by kernel_rfl) (by kernel_rfl) (fun _ _ _ h => h) (Or.inl ⟨by kernel_rfl, ?_⟩) (by assumption) ?_
                rotate_left
                · (intro w9 hS9; (try dsimp only at hS9); go_simp; try with_reducible rfl)
                simp only [Act.put, List.setIfInBounds_toArray, List.set_cons_zero, List.set_cons_succ]
                refine wpAnyH_take (i := 8) (oi := ⟨some 27, _, _, _, _, _⟩) (v := ?_) rfl (by kernel_rfl) (by kernel_rfl) (by kernel_rfl) (fun _ _ _ h => h) (Or.inl ⟨by kernel_rfl, ?_⟩) (by assumption) ?_
                rotate_left
                · (intro w9 hS9; (try dsimp only at hS9); go_simp; try with_reducible rfl)
                simp only [Act.put, List.setIfInBounds_toArray, List.set_cons_zero, List.set_cons_succ]
                refine wpAnyH_take (i := 9) (oi := ⟨some 28, _, _, _, _, _⟩) (v := ?_) rfl (by kernel_rfl) (by kernel_rfl) (by kernel_rfl) (fun _ _ _ h => h) (Or.inl ⟨by kernel_rfl, ?_⟩) (by assumption) ?_
                rotate_left
                · (intro w9 hS9; (try dsimp only at hS9); go_simp; try with_reducible rfl)
                simp only [Act.put, List.setIfInBounds_toArray, List.set_cons_zero, List.set_cons_succ]
                refine wpAnyH_take (i := 10) (oi := ⟨some 29, _, _, _, _, _⟩) (v := ?_) rfl (by kernel_rfl) (by kernel_rfl) (by kernel_rfl) (fun _ _ _ h => h) (Or.inl ⟨by kernel_rfl, ?_⟩) (by assumption) ?_
                rotate_left
                · (intro w9 hS9; (try dsimp only at hS9); go_simp; try with_reducible rfl)
                simp only [Act.put, List.setIfInBounds_toArray, List.set_cons_zero, List.set_cons_succ]
                refine wpAnyH_take (i := 11) (oi := ⟨some 30, _, _, _, _, _⟩) (v := ?_) rfl (by kernel_rfl) (by kernel_rfl) (by kernel_rfl) (fun _ _ _ h => h) (Or.inl ⟨by kernel_rfl, ?_⟩) (by assumption) ?_
                rotate_left
                · (intro w9 hS9; (try dsimp only at hS9); go_simp; try with_reducible rfl)
                simp only [Act.put, List.setIfInBounds_toArray, List.set_cons_zero, List.set_cons_succ]
                refine wpAnyH_take (i := 12) (oi := ⟨some 31, _, _, _, _, _⟩) (v := ?_) rfl (by kernel_rfl) (by kernel_rfl) (by kernel_rfl) (fun _ _ _ h => h) (Or.inl ⟨by kernel_rfl, ?_⟩) (by assumption) ?_
                rotate_left
                · (intro w9 hS9; (try dsimp only at hS9); go_simp; try with_reducible rfl)
                simp only [Act.put, List.setIfInBounds_toArray, List.set_cons_zero, List.set_cons_succ]
                refine wpAnyH_take (i := 13) (oi := ⟨some 32, _, _, _, _, _⟩) (v := ?_) rfl (by kernel_rfl) (by kernel_rfl) (by kernel_rfl) (fun _ _ _ h => h) (Or.inl ⟨by kernel_rfl, ?_⟩) (by assumption) ?_
                rotate_left
                · (intro w9 hS9; (try dsimp only at hS9); go_simp; try with_reducible rfl)
                simp only [Act.put, List.setIfInBounds_toArray, List.set_cons_zero, List.set_cons_succ]
                refine wpAnyH_take (i := 14) (oi := ⟨some 33, _, _, _, _, _⟩) (v := ?_) rfl (by kernel_rfl) (by kernel_rfl) (by kernel_rfl) (fun _ _ _ h => h) (Or.inl ⟨by kernel_rfl, ?_⟩) (by assumption) ?_
                rotate_left
                · (intro w9 hS9; (try dsimp only at hS9); go_simp; try with_reducible rfl)
                simp only [Act.put, List.setIfInBounds_toArray, List.set_cons_zero, List.set_cons_succ]
                refine wpAnyH_take (i := 15) (oi := ⟨some 34, _, _, _, _, _⟩) (v := ?_) rfl (by kernel_rfl) (by kernel_rfl) (by kernel_rfl) (fun _ _ _ h => h) (Or.inl ⟨by kernel_rfl, ?_⟩) (by assumption) ?_
                rotate_left
                · (intro w9 hS9; (try dsimp only at hS9); go_simp; try with_reducible rfl)
                simp only [Act.put, List.setIfInBounds_toArray, List.set_cons_zero, List.set_cons_succ]
                refine wpAnyH_take (i := 16) (oi := ⟨some 35, _, _, _, _, _⟩) (v := ?_) rfl (by kernel_rfl) (by kernel_rfl) (by kernel_rfl) (fun _ _ _ h => h) (Or.inl ⟨by kernel_rfl, ?_⟩) (by assumption) ?_
                rotate_left
                · (intro w9 hS9; (try dsimp only at hS9); go_simp; try with_reducible rfl)
                simp only [Act.put, List.setIfInBounds_toArray, List.set_cons_zero, List.set_cons_succ]
                refine wpAnyH_take (i := 17) (oi := ⟨some 36, _, _, _, _, _⟩) (v := ?_) rfl (by kernel_rfl) (by kernel_rfl) (by kernel_rfl) (fun _ _ _ h => h) (Or.inl ⟨by kernel_rfl, ?_⟩) (by assumption) ?_
                rotate_left
                · (intro w9 hS9; (try dsimp only at hS9); go_simp; try with_reducible rfl)
                simp only [Act.put, List.setIfInBounds_toArray, List.set_cons_zero, List.set_cons_succ]
                refine wpAnyH_take (i := 19) (oi := ⟨some 38, _, _, _, _, _⟩) (v := ?_) rfl (by kernel_rfl) (by kernel_rfl) (by kernel_rfl) (fun _ _ _ h => h) (Or.inl ⟨by kernel_rfl, ?_⟩) (by assumption) ?_
                rotate_left
                · (intro w9 hS9; (try dsimp only at hS9); go_simp; try with_reducible rfl)
                simp only [Act.put, List.setIfInBounds_toArray, List.set_cons_zero, List.set_cons_succ]
                refine wpAnyH_take (i := 20) (oi := ⟨some 39, _, _, _, _, _⟩) (v := ?_) rfl (by kernel_rfl) (by kernel_rfl) (by kernel_rfl) (fun _ _ _ h => h) (Or.inl ⟨by kernel_rfl, ?_⟩) (by assumption) ?_
                rotate_left
                · (intro w9 hS9; (try dsimp only at hS9); go_simp; try with_reducible rfl)
                simp only [Act.put, List.setIfInBounds_toArray, List.set_cons_zero, List.set_cons_succ]
                refine wpAnyH_take (i := 21) (oi := ⟨some 40, _, _, _, _, _⟩) (v := ?_) rfl (by kernel_rfl) (by kernel_rfl) (by kernel_rfl) (fun _ _ _ h => h) (Or.inl ⟨by kernel_rfl, ?_⟩) (by assumption) ?_
                rotate_left
                · (intro w9 hS9; (try dsimp only at hS9); go_simp; try with_reducible rfl)
                simp only [Act.put, List.setIfInBounds_toArray, List.set_cons_zero, List.set_cons_succ]
                refine wpAnyH_take (i := 22) (oi := ⟨some 41, _, _, _, _, _⟩) (v := ?_) rfl (by kernel_rfl) (by kernel_rfl) (by kernel_rfl) (fun _ _ _ h => h) (Or.inl ⟨by kernel_rfl, ?_⟩) (by assumption) ?_
                rotate_left
                · (intro w9 hS9; (try dsimp only at hS9); go_simp; try with_reducible rfl)
                simp only [Act.put, List.setIfInBounds_toArray, List.set_cons_zero, List.set_cons_succ]
                refine wpAnyH_take (i := 23) (oi := ⟨some 42, _, _, _, _, _⟩) (v := ?_) rfl (by kernel_rfl) (by kernel_rfl) (by kernel_rfl) (fun _ _ _ h => h) (Or.inl ⟨by kernel_rfl, ?_⟩) (by assumption) ?_
                rotate_left
                · (intro w9 hS9; (try dsimp only at hS9); go_simp; try with_reducible rfl)
                simp only [Act.put, List.setIfInBounds_toArray, List.set_cons_zero, List.set_cons_succ]
                refine wpAnyH_take (i := 24) (oi := ⟨some 43, _, _, _, _, _⟩) (v := ?_) rfl (by kernel_rfl) (by kernel_rfl) (by kernel_rfl) (fun _ _ _ h => h) (Or.inl ⟨by kernel_rfl, ?_⟩) (by assumption) ?_
                rotate_left
                · (intro w9 hS9; (try dsimp only at hS9); go_simp; try with_reducible rfl)
                simp only [Act.put, List.setIfInBounds_toArray, List.set_cons_zero, List.set_cons_succ]
                refine wpAnyH_take (i := 25) (oi := ⟨some 44, _, _, _, _, _⟩) (v := ?_) rfl (by kernel_rfl) (by kernel_rfl) (by kernel_rfl) (fun _ _ _ h => h) (Or.inl ⟨by kernel_rfl, ?_⟩) (by assumption) ?_
                rotate_left
                · (intro w9 hS9; (try dsimp only at hS9); go_simp; try with_reducible rfl)
                simp only [Act.put, List.setIfInBounds_toArray, List.set_cons_zero, List.set_cons_succ]
                refine wpAnyH_take (i := 26) (oi := ⟨some 45, _, _, _, _, _⟩) (v := ?_) rfl (by kernel_rfl) (by kernel_rfl) (by kernel_rfl) (fun _ _ _ h => h) (Or.inl ⟨by kernel_rfl, ?_⟩) (by assumption) ?_
                rotate_left
                · (intro w9 hS9; (try dsimp only at hS9); go_simp; try with_reducible rfl)
                simp only [Act.put, List.setIfInBounds_toArray, List.set_cons_zero, List.set_cons_succ]
                refine wpAnyH_take (i := 27) (oi := ⟨some 46, _, _, _, _, _⟩) (v := ?_) rfl (by kernel_rfl) (by kernel_rfl) (by kernel_rfl) (fun _ _ _ h => h) (Or.inl ⟨by kernel_rfl, ?_⟩) (by assumption) ?_
                rotate_left
                · (intro w9 hS9; (try dsimp only at hS9); go_simp; try with_reducible rfl)
                simp only [Act.put, List.setIfInBounds_toArray, List.set_cons_zero, List.set_cons_succ]
                refine wpAnyH_ready (rs := [18]) (by kernel_rfl) (by simp) ?_
                refine AllReadyH.cons (o := _) rfl (fun K hK => ?_) AllReadyH.nil
                go_simp
                go_at_call 141
                with_reducible refine (HDA.out _ hdr).mono ?_
                rintro e wF ⟨rfl, bF⟩
                have hF := hdr.trans (bF.mono hdr.size)
                have kf := HKP.out _ hF
                go_wp2_with fail
                refine hK.out _ _ kf (fun hHeldwF => ?_)
                clear hK K
                try simp only [Act.put, List.setIfInBounds_toArray, List.set_cons_zero, List.set_cons_succ]
                refine wpAnyH_ready (rs := [28]) (by kernel_rfl) (by simp) ?_
                refine AllReadyH.cons (o := _) rfl (fun K hK => ?_) AllReadyH.nil
                go_simp
                go_at_call 141
                with_reducible refine (HDB.out _ hF).mono ?_
                rintro e wG ⟨rfl, bG⟩
                have hG := hF.trans (bG.mono hF.size)
                have kg := HKP.out _ hG
                go_wp2_with fail
                refine hK.out _ _ kg (fun hHeldwG => ?_)
                clear hK K
                try simp only [Act.put, List.setIfInBounds_toArray, List.set_cons_zero, List.set_cons_succ]
                refine wpAnyH_take (i := 29) (oi := ⟨some 48, _, _, _, _, _⟩) (v := ?_) rfl (by kernel_rfl) (by kernel_rfl) (by kernel_rfl) (fun _ _ _ h => h) (Or.inl ⟨by kernel_rfl, ?_⟩) (by assumption) ?_
                rotate_left
                · (intro w9 hS9; (try dsimp only at hS9); go_simp; try with_reducible rfl)
                simp only [Act.put, List.setIfInBounds_toArray, List.set_cons_zero, List.set_cons_succ]
                refine wpAnyH_take (i := 30) (oi := ⟨some 49, _, _, _, _, _⟩) (v := ?_) rfl (by kernel_rfl) (by kernel_rfl) (by kernel_rfl) (fun _ _ _ h => h) (Or.inl ⟨by kernel_rfl, ?_⟩) (by assumption) ?_
                rotate_left
                · (intro w9 hS9; (try dsimp only at hS9); go_simp; try with_reducible rfl)
                simp only [Act.put, List.setIfInBounds_toArray, List.set_cons_zero, List.set_cons_succ]
                refine wpAnyH_done (by kernel_rfl) ?_ _
                clear hHeld hHeldwF hHeldwG kd kf kg
                go_wp2_with fail
                go_ret
                exact ⟨ret_b _ _ HSN.out.symm, HBW.out.trans (hG.mono HBW.out.size)⟩
        · obtain rfl : b = n := by omega
          have HALL2 : Hid (∀ a', a' < a + 1 → ∀ b', b' < b → goodP rs zs a' b') := Lib.hid (fun a' h9 b' h8 => by
            rcases Nat.lt_or_ge a' a with h7 | h7
            · exact HALL.out a' h7 b' h8
            · obtain rfl : a' = a := by omega
              exact HROW.out b' h8)
          go_wp2_with fail
          go_roundw
          case rel => exact ⟨a + 1, by omega, by go_num, HALL2.out, hb⟩
          case measure => simp [intOf]; omega
    · obtain rfl : a = n := by omega
      have HS : Hid (symB rs zs = true) := Lib.hid (HSI.out.2 HALL.out)
      have HBW := Lib.hid (HB.out.trans (hb0.mono HB.out.size))
      have z0 := (x0.next hb0).c0
      have hd : ((a : Int) == (a : Int)) = true := by simp
      go_wp2_with fail
      go_ret
      exact ⟨ret_b _ _ (by rw [HS.out]), HBW.out⟩
end Go.Proofs.YtcojodkcpemfdaaDoor
namespace Go.Proofs.YtcojodkcpemfdaaDoor
open Go Go.RowKit
set_option linter.unusedVariables false
set_option maxRecDepth 100000

set_option maxHeartbeats 3200000 in
theorem l08Turn_any (A B : Option Addr) (n c m d : Nat) (zs us : List Nat) (w : World) (h : Rd w A n (ints zs)) (h2 : Rd w B m (ints us)) (hm : m ≤ 24) (hus : ∀ x, x ∈ us → x < n) :
    Calls Tryd.prog 85 #[.slice A n c, .slice B m d] w (MakesE 2 w m (ints (us.map fun a => zs.getD a 0))) := by
  obtain ⟨i0, hi, hz0, hz1, hz2⟩ := info_parts info_int
  have HLZ : Hid (zs.length = n) := Lib.hid (by have := h.1; rw [ints_len] at this; exact this)
  have HLU : Hid (us.length = m) := Lib.hid (by have := h2.1; rw [ints_len] at this; exact this)
  have HUS := Lib.hid hus
  clear hus
  have hown0 : Own 2 (w.alloc (.cells #[] 2)) w.heap.size (some ⟨w.heap.size, 0, none⟩) 0 0 (ints []) := World.ownsRow_lit w #[] 0 (Nat.le_refl _) (by unfold maxLen; omega) rfl
  go_enter Tryd.func85, Tryd.ntmps85
  go_wp2_with fail
  go_loopw [5, 6] (fun p q wr => ∃ (k : Nat) (A1 : Option Addr) (c1 : Nat), k ≤ m ∧ p = .slice A1 k c1 ∧ q = .int .i64 (k : Int) ∧ Own 2 wr w.heap.size A1 k c1 (ints ((us.take k).map fun a => zs.getD a 0)) ∧ Below w.heap.size w wr) (fun _ q _ => m - (intOf q).toNat)
  case atStart => exact ⟨0, _, 0, Nat.zero_le _, rfl, rfl, hown0, below1 _ _⟩
  case round =>
    clear hown0
    obtain ⟨k, A1, c1, hk, rfl, rfl, ho, hb⟩ := hrel
    by_cases hlt : k < m
    · obtain ⟨gu, ou, x, eU, hgu, hxu, hcx⟩ := (h2.below hb).at_ hlt
      rw [ints_getD us k (by rw [HLU.out]; exact hlt)] at hxu
      injection hxu with hxu
      have hmem : us.getD k 0 ∈ us := by rw [List.getD_eq_getElem?_getD, List.getElem?_eq_getElem (by rw [HLU.out]; exact hlt)]; exact List.getElem_mem _
      have hun : us.getD k 0 < n := HUS.out _ hmem
      have HNX : Hid ((us.take (k + 1)).map (fun a => zs.getD a 0) = (us.take k).map (fun a => zs.getD a 0) ++ [zs.getD (us.getD k 0) 0]) := Lib.hid (by
        rw [List.take_add_one, List.getElem?_eq_getElem (by rw [HLU.out]; exact hlt), List.map_append, List.getD_eq_getElem?_getD (l := us), List.getElem?_eq_getElem (by rw [HLU.out]; exact hlt)]; rfl)
      obtain ⟨a, ha⟩ : ∃ a, a = us.getD k 0 := ⟨_, rfl⟩
      rw [← ha] at hxu hun HNX
      subst hxu eU
      obtain ⟨gz, oz, y, eZ, hgz, hxz, hcz⟩ := (h.below hb).at_ hun
      rw [ints_getD zs a (by rw [HLZ.out]; exact hun)] at hxz
      injection hxz with hxz
      obtain ⟨z, hz⟩ : ∃ z, z = zs.getD a 0 := ⟨_, rfl⟩
      rw [← hz] at hxz HNX
      subst hxz eZ
      have hml : k + 1 ≤ maxLen := by unfold maxLen; omega
      have hby2 : (k + 1) * 8 ≤ 140737488355328 := by omega
      obtain ⟨Y, hY⟩ : ∃ Y, Y = (us.take k).map (fun a => zs.getD a 0) := ⟨_, rfl⟩
      rw [← hY] at ho HNX
      clear ha hz hmem hY
      go_wp2_with (at_builtin; refine wpList_append_own _ rfl _ _ 22 rfl w.heap.size 2 i0 (.int .i64 0) 1 8 Tryd.underlying22 hi hz0 hz1 hz2 rfl (by decide) (.slice A1 k c1) k ((ints Y).map (Value.int .i64)) rfl (World.ownsRow.alloc ho _) ⟨wr.heap.size, 0, none⟩ 1 1 [.int .i64 (z : Int)] rfl rfl ?c1 ?c2 hml hby2 ?c5 ?_)
      case c1 => exact cell_one_new _ _ _
      case c2 => intro u hu; simp at hu; subst hu; rfl
      case c5 => have := hb.size; simp; omega
      intro v' w6 hown hg _
      rw [ints_snoc_map, ← HNX.out] at hown
      have hb6 : Below w.heap.size w w6 := (hb.alloc hb.size _).grown hg (by have := hb.size; simp; omega) (fun r hr => (World.ownsRow.lt ho r hr).1)
      obtain ⟨A3, c3, hv, ho6⟩ := own_shape hown
      rw [hv]
      clear hown hg hv ho hb hcx hcz
      go_wp2_with fail
      go_roundw
      case rel => exact ⟨k + 1, A3, c3, hlt, rfl, by go_num, ho6, hb6⟩
      case measure => simp [intOf]; omega
    · obtain rfl : k = m := by omega
      have htk : us.take k = us := List.take_of_length_le (by rw [HLU.out]; exact Nat.le_refl _)
      rw [htk] at ho
      go_wp2_with fail
      go_ret
      exact ⟨A1, c1, rfl, ho, hb⟩
set_option maxHeartbeats 6400000 in
theorem specApplySymmetry (L : Int) (A : Option Addr) (n c : Nat) (xs : List Int) (A1 : Option Addr) (m d : Nat) (us : List Int) (B1 : Option Addr) (q f : Nat) (ts : List Int) (w : World) (h : Rd w A n xs) (hwf : Wf xs) (hL1 : -9223372036854775808 ≤ L) (hL2 : L ≤ 9223372036854775807) (hn : n ≤ maxLen) (h2 : Rd w A1 m us) (hwf2 : Wf us) (hm : m ≤ maxLen) (h3 : Rd w B1 q ts) (hwf3 : Wf ts) (hq : q ≤ maxLen) :
    Calls Tryd.prog 36 #[.agg #[.int .i64 L, .slice A n c], .slice A1 m d, .slice B1 q f] w (LsPost w (dL syF L xs us ts).1.length (dL syF L xs us ts).1 (dL syF L xs us ts).2) := by
  have hn2 : n ≤ 9223372036854775807 := by unfold maxLen at hn; omega
  have hm2 : m ≤ 9223372036854775807 := by unfold maxLen at hm; omega
  have hq2 : q ≤ 9223372036854775807 := by unfold maxLen at hq; omega
  have hn1 := h.1
  have hm1 := h2.1
  have hq1 := h3.1
  have HB := Lib.hid (below1 w (.cells #[.int .i64 L, .slice A n c] 29))
  have x0 := box_new 29 w L A n c
  have hh := h.below HB.out
  have hh2 := h2.below HB.out
  have hh3 := h3.below HB.out
  have HIS := Lib.hid (l02Is_any L A n c xs _ hh hn2)
  cases ha : alphB L xs
  · rw [show dL syF L xs us ts = _ from dL_no syF L xs us ts ha]
    have HA := Lib.hid ha
    clear ha hn1
    go_enter Tryd.func36, Tryd.ntmps36
    go_wp2_with fail
    refine HIS.out.mono ?_
    rintro e w1 ⟨rfl, hb⟩
    rw [HA.out]
    go_wp2_with fail
    go_ret2
    exact LsPost.of_ans (ans_no 1 (HB.out.trans (hb.mono HB.out.size)))
  · have HA := Lib.hid ha
    obtain ⟨rs, rfl, rfl, h8, hr, hrel, hl, hd, _⟩ := alphB_nats L xs n hn1 ha
    by_cases hmn : m = n
    · have hd0 : ((m : Int) != (n : Int)) = false := by rw [hmn]; simp
      have hd1 : ((m : Int) == (n : Int)) = true := by rw [hmn]; simp
      subst hmn
      have HWU := Lib.hid (fun (ww : World) (hw : Below _ _ ww) => l03Word_any (m : Int) A1 m d us ww (hh2.below hw) hm2 (by omega) (by omega))
      have HWT := Lib.hid (fun (ww : World) (hw : Below _ _ ww) => l03Word_any (m : Int) B1 q f ts ww (hh3.below hw) hq2 (by omega) (by omega))
      cases hu : wordB (m : Int) us
      · rw [show dL syF (m : Int) (ints rs) us ts = _ from dL_bad syF (m : Int) (ints rs) us ts ha (by rw [hu]; rfl)]
        rw [hu] at HWU
        clear ha hu hn1
        go_enter Tryd.func36, Tryd.ntmps36
        go_wp2_with fail
        refine HIS.out.mono ?_
        rintro e w1 ⟨rfl, hb⟩
        rw [HA.out]
        have y0 := (x0.next hb).c0
        have y1 := (x0.next hb).c1
        go_wp2_with fail
        refine (HWU.out _ hb).mono ?_
        rintro e w' ⟨rfl, rfl⟩
        go_wp2_with fail
        go_ret2
        exact LsPost.of_ans (ans_no 2 (HB.out.trans (hb.mono HB.out.size)))
      · rw [hu] at HWU
        cases hw : wordB (m : Int) ts
        · rw [show dL syF (m : Int) (ints rs) us ts = _ from dL_bad syF (m : Int) (ints rs) us ts ha (by rw [hw, Bool.and_false])]
          rw [hw] at HWT
          clear ha hu hw hn1
          go_enter Tryd.func36, Tryd.ntmps36
          go_wp2_with fail
          refine HIS.out.mono ?_
          rintro e w1 ⟨rfl, hb⟩
          rw [HA.out]
          have y0 := (x0.next hb).c0
          have y1 := (x0.next hb).c1
          go_wp2_with fail
          refine (HWU.out _ hb).mono ?_
          rintro e w' ⟨rfl, rfl⟩
          go_wp2_with fail
          refine (HWT.out _ hb).mono ?_
          rintro e w' ⟨rfl, rfl⟩
          go_wp2_with fail
          go_ret2
          exact LsPost.of_ans (ans_no 2 (HB.out.trans (hb.mono HB.out.size)))
        · rw [hw] at HWT
          obtain ⟨zs, rfl, hz24, hzn⟩ := wordB_nats m us hu
          obtain ⟨ys, rfl, hy24, hyn⟩ := wordB_nats m ts hw
          rw [show dL syF (m : Int) (ints rs) (ints zs) (ints ys) = _ from dL_yes syF (m : Int) rs zs ys ha (by rw [hu, hw]; rfl)]
          rw [ints_len] at hm1 hq1
          have HDEP := Lib.hid ((depB_iff rs m hl hr).1 hd)
          have HLZ : Hid (zs.length = rs.length) := Lib.hid (by omega)
          have HLR := Lib.hid hl
          have HR := Lib.hid hr
          have HSY : Hid (∀ a b, RDep rs a b = RDep rs b a) := Lib.hid (rdep_sym rs m hl hr HDEP.out)
          have HRE : Hid (∀ a, a < m → RDep rs a a = true) := Lib.hid fun a ha9 => HDEP.out.1 a (by rw [HLR.out]; exact ha9)
          have HNR : Hid (∀ ws, nfM (RDep rs) m ws = nfR rs ws) := Lib.hid (fun ws => by unfold nfR; rw [HLR.out])
          have hm24 : m ≤ 24 := by omega
          have hq24 : q ≤ 24 := by omega
          have HSM := Lib.hid (fun (ww : World) (hw : Below _ _ ww) => l08Symmetry_any A A1 m c d rs zs ww (hh.below hw) hm24 HR.out HSY.out HRE.out (hh2.below hw) hzn)
          have HTU := Lib.hid (fun (ww : World) (hw : Below _ _ ww) => l08Turn_any A1 B1 m d q f zs ys ww (hh2.below hw) (hh3.below hw) hq24 hyn)
          have HLM : Hid ((ys.map fun a => zs.getD a 0).length = q) := Lib.hid (by rw [List.length_map]; omega)
          have HMN : Hid (∀ p, p < q → (ys.map fun a => zs.getD a 0).getD p 0 < m) := Lib.hid fun p hp => in_getD (fun x hx => by
            obtain ⟨y, hy, rfl⟩ := List.mem_map.1 hx
            exact in_getD hzn y (by have := hyn y hy; have := HLZ.out; omega)) p (by rw [HLM.out]; exact hp)
          obtain ⟨S, hS⟩ : ∃ S, S = symB rs zs := ⟨_, rfl⟩
          have HV : Hid (syF rs zs ys = if S = true then (nfR rs (ys.map fun a => zs.getD a 0), 0) else ([], 5)) := Lib.hid (by
            rw [hS]
            cases hs : symB rs zs
            · rw [syF_no _ _ _ HLZ.out hs]; rfl
            · rw [syF_yes _ _ _ HLZ.out hs]; rfl)
          rw [HV.out]
          rw [← hS] at HSM
          obtain ⟨Y, hY⟩ : ∃ Y, Y = ys.map fun a => zs.getD a 0 := ⟨_, rfl⟩
          rw [← hY] at HTU HLM HMN
          rw [← hY]
          have HNO := Lib.hid (fun (ww : World) (A3 : Option Addr) (c3 : Nat) (hw : Below _ _ ww) (h9 : Rd ww A3 q (ints Y)) => l03Normal_any A A3 m c q c3 rs Y ww (hh.below hw) hm24 HR.out h9 hq24 HMN.out)
          rw [HNR.out] at HNO
          obtain ⟨V, hV⟩ : ∃ V, V = nfR rs Y := ⟨_, rfl⟩
          rw [← hV] at HNO
          rw [← hV]
          clear ha hu hw hn1 hm1 hq1 hr hd hrel hzn hyn hS HV hY hV hl
          cases S
          · go_enter Tryd.func36, Tryd.ntmps36
            go_wp2_with fail
            refine HIS.out.mono ?_
            rintro e w1 ⟨rfl, hb⟩
            rw [HA.out]
            have y0 := (x0.next hb).c0
            have y1 := (x0.next hb).c1
            go_wp2_with fail
            refine (HWU.out _ hb).mono ?_
            rintro e w' ⟨rfl, rfl⟩
            go_wp2_with fail
            refine (HWT.out _ hb).mono ?_
            rintro e w' ⟨rfl, rfl⟩
            go_wp2_with fail
            refine (HSM.out _ hb).mono ?_
            rintro e w2 ⟨rfl, hb2⟩
            go_wp2_with fail
            go_ret2
            have hb3 := hb.trans (hb2.mono hb.size)
            exact LsPost.of_ans (ans_no 5 (HB.out.trans (hb3.mono HB.out.size)))
          · go_enter Tryd.func36, Tryd.ntmps36
            go_wp2_with fail
            refine HIS.out.mono ?_
            rintro e w1 ⟨rfl, hb⟩
            rw [HA.out]
            have y0 := (x0.next hb).c0
            have y1 := (x0.next hb).c1
            go_wp2_with fail
            refine (HWU.out _ hb).mono ?_
            rintro e w' ⟨rfl, rfl⟩
            go_wp2_with fail
            refine (HWT.out _ hb).mono ?_
            rintro e w' ⟨rfl, rfl⟩
            go_wp2_with fail
            refine (HSM.out _ hb).mono ?_
            rintro e w2 ⟨rfl, hb2⟩
            have hb3 := (hb.trans (hb2.mono hb.size)).drew
            have kd := And.intro (x0.next hb3).c0 (x0.next hb3).c1
            clear hb hb2 y0 y1
            go_wp2_with fail
            go_region_held3 (fun w' => w'.cell? ⟨w.heap.size, 0, none⟩ = some (.int .i64 (m : Int)) ∧ w'.cell? ⟨w.heap.size, 1, none⟩ = some (.slice A m c)) (first | exact kd | exact kf | exact kg | go_keep) (first
              | (go_at_call 85; (with_reducible refine (HTU.out _ hb3).mono ?_); rintro e w4 ⟨A4, c4, rfl, o4, b4⟩; have hb4 := hb3.trans (b4.mono hb3.size); have r4 := o4.rd; have kf := And.intro (x0.next hb4).c0 (x0.next hb4).c1)
              | (go_at_call 73; (with_reducible refine (HNO.out _ A4 c4 hb4 r4).mono ?_); rintro e w5 ⟨A5, c5, rfl, o5, b5⟩; have hb6 := hb4.trans (b5.mono hb4.size); have kg := And.intro (x0.next hb6).c0 (x0.next hb6).c1))
            all_goals (
              go_wp2_with fail
              go_ret2
              have hb5 := HB.out.trans (hb4.mono HB.out.size)
              exact LsPost.of_ans (ans_yes o5.len (o5.mono hb5.size) (hb5.trans (b5.mono hb5.size))))
    · have hA : dL syF (n : Int) (ints rs) us ts = ([], 2) := by
        cases hu : (wordB (n : Int) us && wordB (n : Int) ts)
        · exact dL_bad syF (n : Int) (ints rs) us ts ha hu
        · have hu' := hu
          rw [Bool.and_eq_true] at hu'
          obtain ⟨zs, rfl, hz24, hzn⟩ := wordB_nats n us hu'.1
          obtain ⟨ys, rfl, hy24, hyn⟩ := wordB_nats n ts hu'.2
          rw [show dL syF (n : Int) (ints rs) (ints zs) (ints ys) = _ from dL_yes syF (n : Int) rs zs ys ha hu]
          rw [ints_len] at hm1
          rw [syF_len _ _ _ (by omega)]; rfl
      rw [hA]
      have hd0 : ((m : Int) != (n : Int)) = true := by simp; omega
      have hd1 : ((m : Int) == (n : Int)) = false := by simp; omega
      clear ha hn1 hA
      go_enter Tryd.func36, Tryd.ntmps36
      go_wp2_with fail
      refine HIS.out.mono ?_
      rintro e w1 ⟨rfl, hb⟩
      rw [HA.out]
      have y0 := (x0.next hb).c0
      have y1 := (x0.next hb).c1
      go_wp2_with fail
      go_ret2
      exact LsPost.of_ans (ans_no 2 (HB.out.trans (hb.mono HB.out.size)))
end Go.Proofs.YtcojodkcpemfdaaDoor
