/-
  ImageOf: both sides.
-/
import Derived.Test.YtdafdffmkjhhcaaDoorMoA
import Derived.Deep.RegionHeld3
namespace Go.Proofs.YtdafdffmkjhhcaaDoor
open Go Go.RowKit
set_option linter.unusedVariables false
set_option linter.unusedSimpArgs false
set_option maxRecDepth 100000

theorem below_al {w w' : World} (h : Below w.heap.size w w') (o : Obj) : Below w.heap.size w (w'.alloc o) := h.alloc h.size o
def tz : Option Addr × Nat × Nat × List Int := (none, 0, 0, [])
def letTs (ts : List (Option Addr × Nat × Nat × List Int)) (us : List Nat) : List (Option Addr × Nat × Nat × List Int) := us.map fun a => ts.getD a tz
def letVs (ts : List (Option Addr × Nat × Nat × List Int)) (us : List Nat) : List Value := (letTs ts us).map fun t => Value.slice t.1 t.2.1 t.2.2.1
/-- The letters of the image of a word. -/
def imW (Ws : List (List Nat)) (us : List Nat) : List Nat := (us.map fun a => Ws.getD a []).flatten
theorem imW_in {Ws : List (List Nat)} {n2 : Nat} (h : ∀ W, W ∈ Ws → W.length ≤ 24 ∧ ∀ x, x ∈ W → x < n2) (us : List Nat) : ∀ x, x ∈ imW Ws us → x < n2 := fun x hx => by
  unfold imW at hx
  obtain ⟨W, hW, hx⟩ := List.mem_flatten.1 hx
  obtain ⟨a, _, rfl⟩ := List.mem_map.1 hW
  exact (lm_at h a).2 x hx
theorem imW_len {Ws : List (List Nat)} {n2 : Nat} (h : ∀ W, W ∈ Ws → W.length ≤ 24 ∧ ∀ x, x ∈ W → x < n2) : ∀ us : List Nat, (imW Ws us).length ≤ 24 * us.length
  | [] => Nat.zero_le _
  | a :: us => by
    have h1 := (lm_at h a).1
    have h2 := imW_len h us
    show ((Ws.getD a []) ++ imW Ws us).length ≤ _
    rw [List.length_append, List.length_cons]; omega
theorem imW_take (Ws : List (List Nat)) (us : List Nat) (k : Nat) (h : k < us.length) : imW Ws (us.take (k + 1)) = imW Ws (us.take k) ++ Ws.getD (us.getD k 0) [] := by
  unfold imW
  rw [List.take_add_one, List.getElem?_eq_getElem h, List.map_append, List.flatten_append]
  have e : us.getD k 0 = us[k] := by rw [List.getD_eq_getElem?_getD, List.getElem?_eq_getElem h]; rfl
  rw [e]; simp
set_option maxHeartbeats 3200000 in
theorem letImageOf_any (R1 R2 A : Option Addr) (n c1 n2 c2 c : Nat) (B1 : Option Addr) (m d : Nat) (rs2 us : List Nat) (ts : List (Option Addr × Nat × Nat × List Int)) (Ws : List (List Nat)) (w : World) (hrd : Rd w R2 n2 (ints rs2)) (h8 : n ≤ 24) (h24 : n2 ≤ 24) (hl : rs2.length = n2) (hr : ∀ i, rs2.getD i 0 < 2 ^ n2) (hdep : Dep rs2)
    (h : RdT w A n ts) (hW : ∀ k t, ts[k]? = some t → t.2.2.2 = ints (Ws.getD k [])) (hWw : ∀ W, W ∈ Ws → W.length ≤ 24 ∧ ∀ x, x ∈ W → x < n2) (h2 : Rd w B1 m (ints us)) (hm : m ≤ 24) (hus : ∀ x, x ∈ us → x < n) (hT : Tab w) :
    Calls Tryd.prog 55 #[.agg #[.slice R1 n c1, .slice R2 n2 c2, .func (.func 94) #[.slice A n c] #[]], .slice B1 m d] w (LsPost w (ints (poF rs2 (imW Ws us)).1).length (ints (poF rs2 (imW Ws us)).1) (poF rs2 (imW Ws us)).2) := by
  obtain ⟨i1, hi1, hy0, hy1, hy2⟩ := info_parts info_sls
  have eg : ∀ args w, (callFunc 94 args).run Tryd.prog w = .ok (.enter 94 args) w := fun args w => Go.MuLone.run_callFunc_enter (P := Tryd.prog) Tryd.func94 (by kernel_rfl) rfl args w
  have hlu : us.length = m := by have := h2.1; rw [ints_len] at this; exact this
  have hlt0 : ts.length = n := h.1
  have HB1 := below1 w (.cells #[.slice R1 n c1, .slice R2 n2 c2, .func (.func 94) #[.slice A n c] #[]] 69)
  have hnew := heap_alloc_new w (.cells #[.slice R1 n c1, .slice R2 n2 c2, .func (.func 94) #[.slice A n c] #[]] 69)
  have hsz := size1' w (.cells #[.slice R1 n c1, .slice R2 n2 c2, .func (.func 94) #[.slice A n c] #[]] 69)
  obtain ⟨w1, hw1⟩ : ∃ w1, w1 = w.alloc (.cells #[.slice R1 n c1, .slice R2 n2 c2, .func (.func 94) #[.slice A n c] #[]] 69) := ⟨_, rfl⟩
  have HW1 := Lib.hid hw1
  rw [← hw1] at HB1 hnew hsz
  have HNEW : Hid (∀ ww, Below w1.heap.size w1 ww → ww.heap[w.heap.size]? = some (.cells #[.slice R1 n c1, .slice R2 n2 c2, .func (.func 94) #[.slice A n c] #[]] 69 (0, 0))) := Lib.hid (fun ww hw => (hw.block _ (by omega)).trans hnew)
  have r1 := h.below HB1
  have r2 := h2.below HB1
  have r3 := hrd.below HB1
  have T1 := hT.below HB1
  have HPR : Hid (∀ ww T cT, Below w1.heap.size w1 ww → RdT ww T m (letTs ts us) → Calls Tryd.prog 100 #[.slice R2 n2 c2, .slice T m cT] ww (LsPost ww (ints (poF rs2 (imW Ws us)).1).length (ints (poF rs2 (imW Ws us)).1) (poF rs2 (imW Ws us)).2)) := Lib.hid (fun ww T cT hw hRT => 
    product_any R2 T n2 c2 m cT rs2 (letTs ts us) (us.map fun a => Ws.getD a []) ww (r3.below hw) h24 hl hr hdep hRT hm (by rw [List.length_map]; exact hlu) (fun k t ht => by
      unfold letTs at ht
      rw [List.getElem?_map] at ht
      rw [List.getD_eq_getElem?_getD, List.getElem?_map]
      cases hk : us[k]? with
      | none => rw [hk] at ht; cases ht
      | some a =>
        rw [hk] at ht
        injection ht with ht
        subst ht
        have han : a < ts.length := by rw [hlt0]; exact hus a (List.mem_of_getElem? hk)
        have e9 : ts[a]? = some (ts.getD a tz) := by rw [List.getD_eq_getElem?_getD, List.getElem?_eq_getElem han]; rfl
        exact hW a _ e9) (fun k => by
      rw [List.getD_eq_getElem?_getD, List.getElem?_map]
      cases us[k]? with
      | none => exact Nat.zero_le _
      | some a => exact (lm_at hWw a).1) (imW_in hWw us) (T1.below hw))
  have HUS := Lib.hid hus
  have HLU := Lib.hid hlu
  have HLT := Lib.hid hlt0
  obtain ⟨V, hV⟩ : ∃ V, V = (poF rs2 (imW Ws us)).1 := ⟨_, rfl⟩
  obtain ⟨C, hC⟩ : ∃ C, C = (poF rs2 (imW Ws us)).2 := ⟨_, rfl⟩
  rw [← hV, ← hC] at HPR ⊢
  have hlt1 : w.heap.size < w1.heap.size := by omega
  have HRT9 : Hid (∀ ww, Below w1.heap.size w1 ww → ∀ t, t ∈ letTs ts us → Rd ww t.1 t.2.1 t.2.2.2 ∧ t.2.1 ≤ maxLen) := Lib.hid (fun ww hw t ht => by
    unfold letTs at ht
    obtain ⟨a, ha, rfl⟩ := List.mem_map.1 ht
    have han : a < ts.length := by rw [hlt0]; exact hus a ha
    refine (r1.below hw).2.1 _ ?_
    rw [List.getD_eq_getElem?_getD, List.getElem?_eq_getElem han]
    exact List.getElem_mem _)
  clear hV hC hw1 hnew hsz hus hlu h h2 hrd hT hr hdep hl hW hWw hlt0
  go_enter Tryd.func55, Tryd.ntmps55
  go_wp2_with fail
  rw [← HW1.out]
  go_loopw [6, 11] (fun p i wr => ∃ (k cT : Nat) (T : Option Addr), k ≤ m ∧ p = .slice T k cT ∧ i = .int .i64 (k : Int) ∧ wr.ownsRow w1.heap.size 22 1 (.slice T k cT) k (letVs ts (us.take k)) ∧ Below w1.heap.size w1 wr) (fun _ i _ => m - (intOf i).toNat)
  case atStart => exact ⟨0, 0, none, Nat.zero_le _, rfl, rfl, World.ownsRow_nil w1 _ _ _, Below.refl _ _⟩
  case round =>
    obtain ⟨k, cT, T, hk, rfl, rfl, hrow, hb⟩ := hrel
    obtain ⟨y0, y1, y2, yf⟩ := cells3 (HNEW.out wr hb)
    by_cases hlt : k < m
    · obtain ⟨b2, off2, u, rfl, hbs, hx, hcx⟩ := (r2.below hb).at_ hlt
      rw [ints_getD us k (by rw [HLU.out]; exact hlt)] at hx
      injection hx with hx
      obtain ⟨a, hae⟩ : ∃ a, a = us.getD k 0 := ⟨_, rfl⟩
      have han : a < n := by
        rw [hae]
        refine HUS.out _ ?_
        rw [List.getD_eq_getElem?_getD, List.getElem?_eq_getElem (by rw [HLU.out]; exact hlt)]
        exact List.getElem_mem _
      rw [← hae] at hx
      subst hx
      have hta : ts[a]? = some (ts.getD a tz) := by rw [List.getD_eq_getElem?_getD, List.getElem?_eq_getElem (by rw [HLT.out]; exact han)]; rfl
      obtain ⟨C9, q9, d9, x9, ht9⟩ : ∃ C9 q9 d9 x9, ts.getD a tz = (C9, q9, d9, x9) := ⟨_, _, _, _, rfl⟩
      rw [ht9] at hta
      have HNXT : Hid (letVs ts (us.take (k + 1)) = letVs ts (us.take k) ++ [.slice C9 q9 d9]) := Lib.hid (by
        unfold letVs letTs
        rw [List.take_add_one, List.getElem?_eq_getElem (by rw [HLU.out]; exact hlt), List.map_append, List.map_append]
        have e9 : us[k]'(by rw [HLU.out]; exact hlt) = a := by rw [hae, List.getD_eq_getElem?_getD, List.getElem?_eq_getElem (by rw [HLU.out]; exact hlt)]; rfl
        rw [e9]
        show _ ++ [Value.slice (ts.getD a tz).1 (ts.getD a tz).2.1 (ts.getD a tz).2.2.1] = _
        rw [ht9])
      have HIM := Lib.hid (letterImage_any a n c q9 d9 A C9 ts x9 wr (r1.below hb) han h8 hta)
      have hml : k + 1 ≤ maxLen := by unfold maxLen; omega
      have hkb : (k + 1) * 24 ≤ 140737488355328 := by omega
      clear hae hta ht9
      go_wp2_with fail
      refine HIM.out.mono ?_
      rintro e w' ⟨rfl, rfl⟩
      go_wp2_with (at_builtin; refine wpList_append_own_at _ rfl _ _ 25 rfl w1.heap.size 22 i1 (.slice none 0 0) 1 24 Tryd.underlying25 hi1 hy0 hy1 hy2 rfl (by decide) (.slice T k cT) k (letVs ts (us.take k)) rfl (World.ownsRow.alloc hrow _) ⟨wr.heap.size, 0, none⟩ 1 1 [.slice C9 q9 d9] rfl rfl ?c1 ?c2 hml hkb ?c5 ?_)
      case c1 => exact cell_one_new _ _ _
      case c2 => intro u hu; simp at hu; subst hu; rfl
      case c5 => have := hb.size; simp; omega
      intro v' w2 hown hg9 _ _
      rw [← HNXT.out] at hown
      obtain ⟨g9, c9, rfl, _, _⟩ := World.ownsRow.form hown (Nat.succ_pos k)
      have hb2 : Below w1.heap.size w1 w2 := (hb.alloc hb.size _).grown hg9 (by have := hb.size; simp; omega) (fun r hr => (World.ownsRow.lt hrow r hr).1)
      clear hg9 hrow hb y0 y1 y2 yf
      go_wp2_with fail
      go_roundw
      case rel => exact ⟨k + 1, c9, _, by omega, rfl, by go_num, hown, hb2⟩
      case measure => simp [intOf]; omega
    · obtain rfl : k = m := by omega
      have htk : us.take k = us := List.take_of_length_le (by rw [HLU.out]; exact Nat.le_refl _)
      rw [htk] at hrow
      have hRT := rdT_of_row hrow (letTs ts us) rfl (by unfold letTs; rw [List.length_map, HLU.out]) (HRT9.out wr hb)
      have HP9 := Lib.hid (HPR.out wr T cT hb hRT)
      clear htk hRT
      go_wp2_with fail
      refine HP9.out.mono ?_
      rintro e w5 ⟨A5, c5, rfl, o5, b5⟩
      go_wp2_with fail
      go_ret2
      have hb9 := HB1.trans (hb.mono HB1.size)
      exact ⟨A5, c5, rfl, o5.mono hb9.size, hb9.trans (b5.mono hb9.size)⟩
set_option maxHeartbeats 1600000 in
theorem l08Image_any (A B : Option Addr) (n c m d : Nat) (n2 : Nat) (us : List Nat) (ts : List (Option Addr × Nat × Nat × List Int)) (Ws : List (List Nat)) (w : World) (h : RdT w A n ts) (hW : ∀ k t, ts[k]? = some t → t.2.2.2 = ints (Ws.getD k [])) (hWw : ∀ W, W ∈ Ws → W.length ≤ 24 ∧ ∀ x, x ∈ W → x < n2) (h2 : Rd w B m (ints us)) (hm : m ≤ 24) (hus : ∀ x, x ∈ us → x < n) :
    Calls Tryd.prog 52 #[.slice A n c, .slice B m d] w (MakesE 2 w (imW Ws us).length (ints (imW Ws us))) := by
  have hlu : us.length = m := by have := h2.1; rw [ints_len] at this; exact this
  have HLU := Lib.hid hlu
  have HUS := Lib.hid hus
  have HWT := Lib.hid hW
  have HLN : Hid (∀ k, k ≤ m → (imW Ws (us.take k)).length ≤ 24 * k) := Lib.hid (fun k hk => by
    have := imW_len hWw (us.take k)
    rw [List.length_take, hlu, Nat.min_eq_left hk] at this; exact this)
  have hown0 : Own 2 (w.alloc (.cells #[] 2)) w.heap.size (some ⟨w.heap.size, 0, none⟩) 0 0 (ints []) := World.ownsRow_lit w #[] 0 (Nat.le_refl _) (by unfold maxLen; omega) rfl
  clear hlu hus hW hWw
  go_enter Tryd.func52, Tryd.ntmps52
  go_wp2_with fail
  go_loopw [5, 6] (fun p i wr => ∃ (k N cA : Nat) (A1 : Option Addr), k ≤ m ∧ p = .slice A1 N cA ∧ i = .int .i64 (k : Int) ∧ Hid (N = (imW Ws (us.take k)).length) ∧ Own 2 wr w.heap.size A1 N cA (ints (imW Ws (us.take k))) ∧ Below w.heap.size w wr) (fun _ i _ => m - (intOf i).toNat)
  case atStart => exact ⟨0, 0, 0, _, Nat.zero_le _, rfl, rfl, Lib.hid rfl, hown0, below1 _ _⟩
  case round =>
    clear hown0
    obtain ⟨k, N, cA, A1, hk, rfl, rfl, HN, ho, hb⟩ := hrel
    by_cases hlt : k < m
    · obtain ⟨b2, off2, u, rfl, hbs, hx, hcx⟩ := (h2.below hb).at_ hlt
      rw [ints_getD us k (by rw [HLU.out]; exact hlt)] at hx
      injection hx with hx
      have HNX := Lib.hid (imW_take Ws us k (by rw [HLU.out]; exact hlt))
      obtain ⟨a, hae⟩ : ∃ a, a = us.getD k 0 := ⟨_, rfl⟩
      have han : a < n := by
        rw [hae]
        refine HUS.out _ ?_
        rw [List.getD_eq_getElem?_getD, List.getElem?_eq_getElem (by rw [HLU.out]; exact hlt)]
        exact List.getElem_mem _
      rw [← hae] at hx HNX
      subst hx
      obtain ⟨b3, off3, C9, q9, d9, x9, rfl, hbs3, hts3, hcell3, hrd3, hq3⟩ := (h.below hb).at_ han
      have hx9 : x9 = ints (Ws.getD a []) := HWT.out a _ hts3
      subst hx9
      have hq9 : (Ws.getD a []).length = q9 := by have := hrd3.1; rw [ints_len] at this; exact this
      have hNq : N + q9 ≤ 24 * (k + 1) := by
        have h9 := HLN.out (k + 1) hlt
        rw [HNX.out, List.length_append, ← HN.out, hq9] at h9
        exact h9
      have HN2 : Hid (N + q9 = (imW Ws (us.take (k + 1))).length) := Lib.hid (by rw [HNX.out, List.length_append, ← HN.out, hq9])
      have hml : N + q9 ≤ maxLen := by unfold maxLen; omega
      have hby : (N + q9) * 8 ≤ 140737488355328 := by omega
      have hbase := hb.size
      obtain ⟨al, hal⟩ : ∃ al, al = imW Ws (us.take k) := ⟨_, rfl⟩
      obtain ⟨v, hv⟩ : ∃ v, v = Ws.getD a [] := ⟨_, rfl⟩
      rw [← hal] at ho HNX
      rw [← hv] at hrd3 HNX
      clear hal hv hae hts3 hq9
      go_wp2_with (at_builtin; refine wpList_append_rd rfl _ _ rfl w.heap.size A1 N cA al rfl ho C9 q9 d9 v rfl hrd3 hml hby hbase ?_; intro A6 c6 w6 o6 hg6; have HB6 : Hid (Below w.heap.size w w6) := Lib.hid (hb.grown hg6 hbase (fun k e9 => (ho.lt k (ownBlock_map' e9)).1)); rw [← HNX.out] at o6)
      go_wp2_with fail
      go_roundw
      case rel => exact ⟨k + 1, N + q9, c6, A6, hlt, rfl, by go_num, HN2, o6, HB6.out⟩
      case measure => simp [intOf]; omega
    · obtain rfl : k = m := by omega
      have htk : us.take k = us := List.take_of_length_le (by rw [HLU.out]; exact Nat.le_refl _)
      rw [htk] at ho HN
      clear htk
      go_wp2_with fail
      go_ret
      rw [← HN.out]
      exact ⟨A1, cA, rfl, ho, hb⟩
def ioAns (L1 : Int) (xs1 : List Int) (L2 : Int) (xs2 : List Int) (X : List (List Int)) (us : List Int) : List Int × Int :=
  if mCode L1 xs1 L2 xs2 X (wordB L1 us) = 0 then (ints (poF (xs2.map Int.toNat) (imW (natW X) (us.map Int.toNat))).1, (poF (xs2.map Int.toNat) (imW (natW X) (us.map Int.toNat))).2) else ([], mCode L1 xs1 L2 xs2 X (wordB L1 us))
theorem poF_small (rs W : List Nat) : (poF rs W).1.length ≤ 24 := by
  rcases Nat.lt_or_ge 24 W.length with h | h
  · rw [poF_long rs W h]; exact Nat.zero_le _
  · rw [poF_yes rs W h]; exact Nat.le_trans (nfR_len rs _) h
theorem ioAns_small (L1 : Int) (xs1 : List Int) (L2 : Int) (xs2 : List Int) (X : List (List Int)) (us : List Int) : (ioAns L1 xs1 L2 xs2 X us).1.length ≤ 24 := by
  unfold ioAns
  split
  · rw [ints_len]; exact poF_small _ _
  · exact Nat.zero_le _
/-- What a code that is zero says. -/
theorem mCode_zero {L1 : Int} {xs1 : List Int} {L2 : Int} {xs2 : List Int} {X : List (List Int)} {q : Bool} {n1 n2 : Nat} (hl1 : xs1.length = n1) (hl2 : xs2.length = n2) (h : mCode L1 xs1 L2 xs2 X q = 0) :
    q = true ∧ alphB L1 xs1 = true ∧ alphB L2 xs2 = true ∧ L1 = (n1 : Int) ∧ L2 = (n2 : Int) ∧ X = (natW X).map ints ∧ (natW X).length = n1 ∧ (∀ W, W ∈ natW X → W.length ≤ 24 ∧ ∀ x, x ∈ W → x < n2) := by
  unfold mCode at h
  split at h
  · rename_i h1
    rw [Bool.and_eq_true] at h1
    split at h
    · rename_i h2
      rw [Bool.and_eq_true] at h2
      obtain ⟨rs1, _, rfl, _⟩ := alphB_nats L1 xs1 n1 hl1 h1.1
      obtain ⟨rs2, _, rfl, _⟩ := alphB_nats L2 xs2 n2 hl2 h1.2
      obtain ⟨Ws, hX, hWl, hWw⟩ := lm_nats (n1 : Int) n2 X h2.2
      have e : natW X = Ws := by rw [hX, natW_ints]
      rw [e]
      exact ⟨h2.1, h1.1, h1.2, rfl, rfl, hX, by omega, hWw⟩
    · cases h
  · cases h
theorem rows_at {ts : List (Option Addr × Nat × Nat × List Int)} {Ws : List (List Nat)} (h : ts.map (fun t => t.2.2.2) = Ws.map ints) (k : Nat) (t : Option Addr × Nat × Nat × List Int) (ht : ts[k]? = some t) : t.2.2.2 = ints (Ws.getD k []) := by
  have e := congrArg (fun l : List (List Int) => l[k]?) h
  simp only [List.getElem?_map, ht] at e
  cases hk : Ws[k]? with
  | none => rw [hk] at e; cases e
  | some W =>
    rw [hk] at e
    injection e with e
    rw [List.getD_eq_getElem?_getD, hk]
    exact e
set_option maxHeartbeats 6400000 in
theorem implImageOf (L1 : Int) (R1 : Option Addr) (n1 c1 : Nat) (xs1 : List Int) (L2 : Int) (R2 : Option Addr) (n2 c2 : Nat) (xs2 : List Int) (A : Option Addr) (n c : Nat) (X : List (List Int)) (U : Option Addr) (m d : Nat) (us : List Int) (w : World)
    (h1 : Rd w R1 n1 xs1) (hwf1 : Wf xs1) (hL11 : -9223372036854775808 ≤ L1) (hL12 : L1 ≤ 9223372036854775807) (hn1 : n1 ≤ maxLen)
    (h2 : Rd w R2 n2 xs2) (hwf2 : Wf xs2) (hL21 : -9223372036854775808 ≤ L2) (hL22 : L2 ≤ 9223372036854775807) (hn2 : n2 ≤ maxLen)
    (h : RdSS w A n X) (hn : n ≤ 1048576) (h3 : Rd w U m us) (hwf3 : Wf us) (hm : m ≤ maxLen) (hT : Tab w) :
    Calls Tryd.prog 23 #[.agg #[.int .i64 L1, .slice R1 n1 c1], .agg #[.int .i64 L2, .slice R2 n2 c2], .slice A n c, .slice U m d] w (LsPost w (ioAns L1 xs1 L2 xs2 X us).1.length (ioAns L1 xs1 L2 xs2 X us).1 (ioAns L1 xs1 L2 xs2 X us).2) := by
  obtain ⟨ts, hts, ht⟩ := h
  have hm1 : n1 ≤ 9223372036854775807 := by unfold maxLen at hn1; omega
  have hm2 : n2 ≤ 9223372036854775807 := by unfold maxLen at hn2; omega
  have hm3 : m ≤ 9223372036854775807 := by unfold maxLen at hm; omega
  have HB := Lib.hid (below2 w (.cells #[.int .i64 L1, .slice R1 n1 c1] 29) (.cells #[.int .i64 L2, .slice R2 n2 c2] 29))
  have hh1 := h1.below HB.out
  have hh2 := h2.below HB.out
  have hh3 := h3.below HB.out
  have hht := ht.below HB.out
  have x0 := (box_new 29 w L1 R1 n1 c1).next (below1 _ (.cells #[.int .i64 L2, .slice R2 n2 c2] 29))
  have x1 := box_new 29 (w.alloc (.cells #[.int .i64 L1, .slice R1 n1 c1] 29)) L2 R2 n2 c2
  have hsz := size1' w (.cells #[.int .i64 L1, .slice R1 n1 c1] 29)
  rw [hsz] at x1
  obtain ⟨w1, hw1⟩ : ∃ w1, w1 = (w.alloc (.cells #[.int .i64 L1, .slice R1 n1 c1] 29)).alloc (.cells #[.int .i64 L2, .slice R2 n2 c2] 29) := ⟨_, rfl⟩
  have HW1 := Lib.hid hw1
  rw [← hw1] at HB x0 x1 hh1 hh2 hh3 hht
  clear hw1 hsz
  have hT1 := hT.below HB.out
  have HWO : Hid (∀ ww, Below w1.heap.size w1 ww → Calls Tryd.prog 54 #[.int .i64 L1, .slice U m d] ww fun e w' => e = .returned (.bool (wordB L1 us)) ∧ Below ww.heap.size ww w') := Lib.hid (fun ww hw => isWordOf_any L1 U m d us ww (hh3.below hw) hm3)
  have HMI : Hid (∀ ww, Below w1.heap.size w1 ww → Calls Tryd.prog 51 #[.agg #[.int .i64 L1, .slice R1 n1 c1], .agg #[.int .i64 L2, .slice R2 n2 c2], .slice A n c, .bool (wordB L1 us)] ww (MoPost ww n1 n2 n c A (xs1.map Int.toNat) (xs2.map Int.toNat) (mCode L1 xs1 L2 xs2 X (wordB L1 us)))) := Lib.hid (fun ww hw => by
    have h9 := morphismIn_any L1 L2 R1 R2 A n1 c1 n2 c2 n c xs1 xs2 (wordB L1 us) ts ww (hh1.below hw) hwf1 hL11 hL12 hm1 (hh2.below hw) hwf2 hL21 hL22 hm2 (hht.below hw) hn (hT1.below hw)
    rw [hts] at h9; exact h9)
  obtain ⟨Q, hQ⟩ : ∃ Q, Q = wordB L1 us := ⟨_, rfl⟩
  have HS9 : Hid (∀ w', Below w1.heap.size w1 w' → w'.cell? ⟨w.heap.size, 0, none⟩ = some (.int .i64 L1) ∧ w'.cell? ⟨w.heap.size, 1, none⟩ = some (.slice R1 n1 c1) ∧ w'.cell? ⟨w.heap.size + 1, 0, none⟩ = some (.int .i64 L2) ∧ w'.cell? ⟨w.heap.size + 1, 1, none⟩ = some (.slice R2 n2 c2)) := Lib.hid (fun w' hw => ⟨(x0.next hw).c0, (x0.next hw).c1, (x1.next hw).c0, (x1.next hw).c1⟩)
  by_cases h0 : mCode L1 xs1 L2 xs2 X (wordB L1 us) = 0
  · rw [h0] at HMI
    rw [← hQ] at HMI HWO
    clear hQ
    obtain ⟨hq, ha1, ha2, hE1, hE2, hXW, hWl, hWw⟩ := mCode_zero h1.1 h2.1 h0
    obtain ⟨rs1, rfl, -, h8, hr1, hrel1, hl1, hd1, -⟩ := alphB_nats L1 xs1 n1 h1.1 ha1
    obtain ⟨rs2, rfl, -, h28, hr2, hrel2, hl2, hd2, -⟩ := alphB_nats L2 xs2 n2 h2.1 ha2
    subst hE1 hE2
    obtain ⟨vs, rfl, hv24, hvn⟩ := wordB_nats n1 us hq
    have hnn : n = n1 := by
      have e := congrArg List.length hts
      rw [hXW, List.length_map, List.length_map, hWl] at e
      have := ht.1; omega
    subst hnn
    obtain ⟨Ws, hWs⟩ : ∃ Ws, Ws = natW X := ⟨_, rfl⟩
    rw [← hWs] at hXW hWl hWw
    have hml : vs.length = m := by have := h3.1; rw [ints_len] at this; exact this
    have hA : ioAns (n : Int) (ints rs1) (n2 : Int) (ints rs2) X (ints vs) = (ints (poF rs2 (imW Ws vs)).1, (poF rs2 (imW Ws vs)).2) := by unfold ioAns; rw [if_pos h0, ints_toNat, ints_toNat, ← hWs]
    have hWT := fun k t htk => rows_at (hts.trans hXW) k t htk
    have HD2 := (depB_iff rs2 n2 hl2 hr2).1 hd2
    rw [hA]
    have HIO : Hid (∀ (ww : World) (R3 R4 : Option Addr) (c3 c4 : Nat), Below w1.heap.size w1 ww → Rd ww R4 n2 (ints rs2) → Calls Tryd.prog 55 #[.agg #[.slice R3 n c3, .slice R4 n2 c4, .func (.func 94) #[.slice A n c] #[]], .slice U m d] ww (LsPost ww (ints (poF rs2 (imW Ws vs)).1).length (ints (poF rs2 (imW Ws vs)).1) (poF rs2 (imW Ws vs)).2)) := Lib.hid (fun ww R3 R4 c3 c4 hw hr => letImageOf_any R3 R4 A n c3 n2 c4 c U m d rs2 vs ts Ws ww hr (by omega) (by omega) hl2 hr2 HD2 (hht.below hw) hWT hWw (hh3.below hw) (by omega) hvn (hT1.below hw))
    rw [ints_toNat, ints_toNat] at HMI
    obtain ⟨V, hV⟩ : ∃ V, V = ints (poF rs2 (imW Ws vs)).1 := ⟨_, rfl⟩
    obtain ⟨C, hC⟩ : ∃ C, C = (poF rs2 (imW Ws vs)).2 := ⟨_, rfl⟩
    obtain ⟨K, hK⟩ : ∃ K, K = V.length := ⟨_, rfl⟩
    rw [← hV, ← hC, ← hK] at HIO
    show Calls _ _ _ _ (LsPost w (ints (poF rs2 (imW Ws vs)).1).length (ints (poF rs2 (imW Ws vs)).1) (poF rs2 (imW Ws vs)).2)
    rw [← hV, ← hC, ← hK]
    clear hV hC hK hA h0 hq ha1 ha2 hXW hWl hWw hWs hml hWT HD2 hts ht h1 h2 h3 hr1 hrel1 hl1 hd1 hr2 hrel2 hl2 hd2 hT hv24 hvn hwf1 hwf2 hwf3
    go_enter Tryd.func23, Tryd.ntmps23
    go_wp2_with fail
    rw [← HW1.out]
    have hcur : Below w1.heap.size w1 w1.drew := (Below.refl _ _).drew
    have hcd := HS9.out _ hcur
    go_upto_region 1 with fail
    go_cut [10, 11] from 12 to 22 (fun p q wx => ∃ (g : Nat) (R3 R4 : Option Addr) (c3 c4 : Nat), p = .pointer (some ⟨g, 0, none⟩) ∧ q = .int .i64 0 ∧ Box3 69 wx g (.slice R3 n c3) (.slice R4 n2 c4) (.func (.func 94) #[.slice A n c] #[]) ∧ Rd wx R4 n2 (ints rs2) ∧ Below w1.heap.size w1 wx)
    case first =>
      have hcurB : Below w1.heap.size w1 ((w1.alloc (.cells #[.slice none 0 0, .slice none 0 0, .nilFunc] 69)).drew) := (below1 w1 (.cells #[.slice none 0 0, .slice none 0 0, .nilFunc] 69)).drew
      have hcurC : Below w1.heap.size w1 (w1.drew.alloc (.cells #[.slice none 0 0, .slice none 0 0, .nilFunc] 69)) := below_al hcur (.cells #[.slice none 0 0, .slice none 0 0, .nilFunc] 69)
      have zbB : Box3 69 ((w1.alloc (.cells #[.slice none 0 0, .slice none 0 0, .nilFunc] 69)).drew) w1.heap.size (.slice none 0 0) (.slice none 0 0) .nilFunc := box3_new 69 w1 _ _ _
      have zbC : Box3 69 (w1.drew.alloc (.cells #[.slice none 0 0, .slice none 0 0, .nilFunc] 69)) w1.heap.size (.slice none 0 0) (.slice none 0 0) .nilFunc := box3_new 69 w1.drew _ _ _
      go_region_held3 (fun w' => w'.cell? ⟨w.heap.size, 0, none⟩ = some (.int .i64 (n : Int)) ∧ w'.cell? ⟨w.heap.size, 1, none⟩ = some (.slice R1 n c1) ∧ w'.cell? ⟨w.heap.size + 1, 0, none⟩ = some (.int .i64 (n2 : Int)) ∧ w'.cell? ⟨w.heap.size + 1, 1, none⟩ = some (.slice R2 n2 c2)) (first | exact hcd | exact HS9.out _ hcur | exact HS9.out _ hal | exact HS9.out _ hcurA | exact HS9.out _ hsb | exact HS9.out _ hcurB | exact HS9.out _ hcurC | go_keep) (first | (go_at_call 54; first | ((with_reducible refine (HWO.out _ hcur).mono ?_); rintro e wa ⟨rfl, hba⟩; have hcz := hcur.size; have hcur := hcur.trans (hba.mono hcz); have hal := below_al hcur (.cells #[.slice none 0 0, .slice none 0 0, .nilFunc] 69); have zb := box3_new 69 wa (.slice none 0 0) (.slice none 0 0) .nilFunc; have hg := hcur.size) | ((with_reducible refine (HWO.out _ hcurB).mono ?_); rintro e wa ⟨rfl, hba⟩; have hcz := hcurB.size; have hal := hcurB.trans (hba.mono hcz); have zb := zbB.next hba; have hg := Nat.le_refl w1.heap.size) | ((with_reducible refine (HWO.out _ hcurC).mono ?_); rintro e wa ⟨rfl, hba⟩; have hcz := hcurC.size; have hal := hcurC.trans (hba.mono hcz); have zb := zbC.next hba; have hg := Nat.le_refl w1.heap.size)) | (go_at_call 51; first | ((with_reducible refine (HMI.out _ hcur).mono ?_); rintro e wb (⟨-, R3, c3, R4, c4, rfl, o3, o4, hbb⟩ | ⟨hc9, -, -⟩) <;> first | exact absurd rfl hc9 | skip; have hcz := hcur.size; have hcur := hcur.trans (hbb.mono hcz); have hcurA := below_al hcur (.cells #[.slice R3 n c3, .slice R4 n2 c4, .func (.func 94) #[.slice A n c] #[]] 69); have hal := below_al hcur (.cells #[.slice none 0 0, .slice none 0 0, .nilFunc] 69); have zb := box3_new 69 wb (.slice none 0 0) (.slice none 0 0) .nilFunc; have hg := hcur.size; have q0 := zb.c0; have q1 := zb.c1; have q2 := zb.c2; have q4 := (zb.set01 (.slice R3 n c3) (.slice R4 n2 c4)).c2; have q5 := (zb.set01 (.slice R3 n c3) (.slice R4 n2 c4)).fr 2; have qf0 := zb.fr 0; have qf1 := zb.fr 1; have qf2 := zb.fr 2; have zs := zb.set (.slice R3 n c3) (.slice R4 n2 c4) (.func (.func 94) #[.slice A n c] #[]); have hsb := set3_below hal hg (.slice R3 n c3) (.slice R4 n2 c4) (.func (.func 94) #[.slice A n c] #[])) | ((with_reducible refine (HMI.out _ hal).mono ?_); rintro e wb (⟨-, R3, c3, R4, c4, rfl, o3, o4, hbb⟩ | ⟨hc9, -, -⟩) <;> first | exact absurd rfl hc9 | skip; have hcz := hal.size; have hlt9 := zb.lt; have hal := hal.trans (hbb.mono hcz); have zb := zb.next hbb; have q0 := zb.c0; have q1 := zb.c1; have q2 := zb.c2; have q4 := (zb.set01 (.slice R3 n c3) (.slice R4 n2 c4)).c2; have q5 := (zb.set01 (.slice R3 n c3) (.slice R4 n2 c4)).fr 2; have qf0 := zb.fr 0; have qf1 := zb.fr 1; have qf2 := zb.fr 2; have zs := zb.set (.slice R3 n c3) (.slice R4 n2 c4) (.func (.func 94) #[.slice A n c] #[]); have hsb := set3_below hal hg (.slice R3 n c3) (.slice R4 n2 c4) (.func (.func 94) #[.slice A n c] #[]))))
      all_goals (
        go_wp2_with fail
        go_meet
        first
        | exact ⟨_, R3, R4, c3, c4, rfl, rfl, box3_new _ _ _ _ _, o4.rd.below (below1 _ _), hcurA⟩
        | exact ⟨_, R3, R4, c3, c4, rfl, rfl, zs, (own_set3 o4 _ _ _ _ (fun q hq => by have := (o4.lt q hq).1; omega)).rd, hsb⟩
        | exact ⟨_, R3, R4, c3, c4, rfl, rfl, zs, (own_set3 (o4.below (below1 _ _)) _ _ _ _ (fun q hq => by have := (o4.lt q hq).2; omega)).rd, hsb⟩)
    case rest =>
      obtain ⟨g, R3, R4, c3, c4, rfl, rfl, hbx, hrd4, hbc⟩ := hcut
      have z0 := hbx.c0
      have z1 := hbx.c1
      have z2 := hbx.c2
      have HI9 := Lib.hid (HIO.out wc R3 R4 c3 c4 hbc hrd4)
      clear hcur hcd
      go_wp2_with fail
      refine HI9.out.mono ?_
      rintro e w5 ⟨A5, c5, rfl, o5, b5⟩
      have hb9 := HB.out.trans (hbc.mono HB.out.size)
      go_wp2_with fail
      go_ret2
      exact ⟨A5, c5, rfl, o5.mono hb9.size, hb9.trans (b5.mono hb9.size)⟩
  · have hA : ioAns L1 xs1 L2 xs2 X us = ([], mCode L1 xs1 L2 xs2 X (wordB L1 us)) := by unfold ioAns; rw [if_neg h0]
    rw [hA]
    rw [← hQ] at HMI HWO h0 ⊢
    obtain ⟨C, hC⟩ : ∃ C, C = mCode L1 xs1 L2 xs2 X Q := ⟨_, rfl⟩
    rw [← hC] at HMI h0 ⊢
    clear hC hA hQ hts ht h1 h2 h3 hT hwf1 hwf2 hwf3
    have hd : (C == 0) = false := by simpa using h0
    have hd2 : (C != 0) = true := by simpa using h0
    go_enter Tryd.func23, Tryd.ntmps23
    go_wp2_with fail
    rw [← HW1.out]
    have hcur : Below w1.heap.size w1 w1.drew := (Below.refl _ _).drew
    have hcd := HS9.out _ hcur
    go_upto_region 1 with fail
    go_cut [10, 11] from 12 to 22 (fun p q wx => (∃ (g : Nat), p = .pointer (some ⟨g, 0, none⟩)) ∧ q = .int .i64 C ∧ Below w1.heap.size w1 wx)
    case first =>
      have hcurB : Below w1.heap.size w1 ((w1.alloc (.cells #[.slice none 0 0, .slice none 0 0, .nilFunc] 69)).drew) := (below1 w1 (.cells #[.slice none 0 0, .slice none 0 0, .nilFunc] 69)).drew
      have hcurC : Below w1.heap.size w1 (w1.drew.alloc (.cells #[.slice none 0 0, .slice none 0 0, .nilFunc] 69)) := below_al hcur (.cells #[.slice none 0 0, .slice none 0 0, .nilFunc] 69)
      have zbB : Box3 69 ((w1.alloc (.cells #[.slice none 0 0, .slice none 0 0, .nilFunc] 69)).drew) w1.heap.size (.slice none 0 0) (.slice none 0 0) .nilFunc := box3_new 69 w1 _ _ _
      have zbC : Box3 69 (w1.drew.alloc (.cells #[.slice none 0 0, .slice none 0 0, .nilFunc] 69)) w1.heap.size (.slice none 0 0) (.slice none 0 0) .nilFunc := box3_new 69 w1.drew _ _ _
      go_region_held3 (fun w' => w'.cell? ⟨w.heap.size, 0, none⟩ = some (.int .i64 L1) ∧ w'.cell? ⟨w.heap.size, 1, none⟩ = some (.slice R1 n1 c1) ∧ w'.cell? ⟨w.heap.size + 1, 0, none⟩ = some (.int .i64 L2) ∧ w'.cell? ⟨w.heap.size + 1, 1, none⟩ = some (.slice R2 n2 c2)) (first | exact hcd | exact HS9.out _ hcur | exact HS9.out _ hal | exact HS9.out _ hcurA | exact HS9.out _ hsb | exact HS9.out _ hcurB | exact HS9.out _ hcurC | go_keep) (first | (go_at_call 54; first | ((with_reducible refine (HWO.out _ hcur).mono ?_); rintro e wa ⟨rfl, hba⟩; have hcz := hcur.size; have hcur := hcur.trans (hba.mono hcz); have hal := below_al hcur (.cells #[.slice none 0 0, .slice none 0 0, .nilFunc] 69); have zb := box3_new 69 wa (.slice none 0 0) (.slice none 0 0) .nilFunc; have hg := hcur.size) | ((with_reducible refine (HWO.out _ hcurB).mono ?_); rintro e wa ⟨rfl, hba⟩; have hcz := hcurB.size; have hal := hcurB.trans (hba.mono hcz); have zb := zbB.next hba; have hg := Nat.le_refl w1.heap.size) | ((with_reducible refine (HWO.out _ hcurC).mono ?_); rintro e wa ⟨rfl, hba⟩; have hcz := hcurC.size; have hal := hcurC.trans (hba.mono hcz); have zb := zbC.next hba; have hg := Nat.le_refl w1.heap.size)) | (go_at_call 51; first | ((with_reducible refine (HMI.out _ hcur).mono ?_); rintro e wb (⟨hc9, -⟩ | ⟨-, rfl, hbb⟩) <;> first | exact absurd hc9 h0 | skip; have hcz := hcur.size; have hcur := hcur.trans (hbb.mono hcz); have hcurA := below_al hcur (.cells #[.slice none 0 0, .slice none 0 0, .nilFunc] 69); have hal := below_al hcur (.cells #[.slice none 0 0, .slice none 0 0, .nilFunc] 69); have zb := box3_new 69 wb (.slice none 0 0) (.slice none 0 0) .nilFunc; have hg := hcur.size; have q0 := zb.c0; have q1 := zb.c1; have q2 := zb.c2; have q4 := (zb.set01 (.slice none 0 0) (.slice none 0 0)).c2; have q5 := (zb.set01 (.slice none 0 0) (.slice none 0 0)).fr 2; have qf0 := zb.fr 0; have qf1 := zb.fr 1; have qf2 := zb.fr 2; have zs := zb.set (.slice none 0 0) (.slice none 0 0) (.nilFunc); have hsb := set3_below hal hg (.slice none 0 0) (.slice none 0 0) (.nilFunc)) | ((with_reducible refine (HMI.out _ hal).mono ?_); rintro e wb (⟨hc9, -⟩ | ⟨-, rfl, hbb⟩) <;> first | exact absurd hc9 h0 | skip; have hcz := hal.size; have hlt9 := zb.lt; have hal := hal.trans (hbb.mono hcz); have zb := zb.next hbb; have q0 := zb.c0; have q1 := zb.c1; have q2 := zb.c2; have q4 := (zb.set01 (.slice none 0 0) (.slice none 0 0)).c2; have q5 := (zb.set01 (.slice none 0 0) (.slice none 0 0)).fr 2; have qf0 := zb.fr 0; have qf1 := zb.fr 1; have qf2 := zb.fr 2; have zs := zb.set (.slice none 0 0) (.slice none 0 0) (.nilFunc); have hsb := set3_below hal hg (.slice none 0 0) (.slice none 0 0) (.nilFunc))))
      all_goals (
        go_wp2_with fail
        go_meet
        first
        | exact ⟨⟨_, rfl⟩, rfl, hcurA⟩
        | exact ⟨⟨_, rfl⟩, rfl, hsb⟩)
    case rest =>
      obtain ⟨⟨g, rfl⟩, rfl, hbc⟩ := hcut
      clear hcur hcd
      have hb9 := HB.out.trans (hbc.mono HB.out.size)
      go_wp2_with fail
      go_ret2
      exact LsPost.of_ans (ans_no C hb9)
set_option maxHeartbeats 3200000 in
theorem specImageOf (L1 : Int) (R1 : Option Addr) (n1 c1 : Nat) (xs1 : List Int) (L2 : Int) (R2 : Option Addr) (n2 c2 : Nat) (xs2 : List Int) (A : Option Addr) (n c : Nat) (X : List (List Int)) (U : Option Addr) (m d : Nat) (us : List Int) (w : World)
    (h1 : Rd w R1 n1 xs1) (hwf1 : Wf xs1) (hL11 : -9223372036854775808 ≤ L1) (hL12 : L1 ≤ 9223372036854775807) (hn1 : n1 ≤ maxLen)
    (h2 : Rd w R2 n2 xs2) (hwf2 : Wf xs2) (hL21 : -9223372036854775808 ≤ L2) (hL22 : L2 ≤ 9223372036854775807) (hn2 : n2 ≤ maxLen)
    (h : RdSS w A n X) (hn : n ≤ 1048576) (h3 : Rd w U m us) (hwf3 : Wf us) (hm : m ≤ maxLen) :
    Calls Tryd.prog 21 #[.agg #[.int .i64 L1, .slice R1 n1 c1], .agg #[.int .i64 L2, .slice R2 n2 c2], .slice A n c, .slice U m d] w (LsPost w (ioAns L1 xs1 L2 xs2 X us).1.length (ioAns L1 xs1 L2 xs2 X us).1 (ioAns L1 xs1 L2 xs2 X us).2) := by
  obtain ⟨ts, hts, ht⟩ := h
  have hm1 : n1 ≤ 9223372036854775807 := by unfold maxLen at hn1; omega
  have hm2 : n2 ≤ 9223372036854775807 := by unfold maxLen at hn2; omega
  have hm3 : m ≤ 9223372036854775807 := by unfold maxLen at hm; omega
  have HB := Lib.hid (below2 w (.cells #[.int .i64 L1, .slice R1 n1 c1] 29) (.cells #[.int .i64 L2, .slice R2 n2 c2] 29))
  have hh1 := h1.below HB.out
  have hh2 := h2.below HB.out
  have hh3 := h3.below HB.out
  have hht := ht.below HB.out
  have x0 := (box_new 29 w L1 R1 n1 c1).next (below1 _ (.cells #[.int .i64 L2, .slice R2 n2 c2] 29))
  have x1 := box_new 29 (w.alloc (.cells #[.int .i64 L1, .slice R1 n1 c1] 29)) L2 R2 n2 c2
  have hsz := size1' w (.cells #[.int .i64 L1, .slice R1 n1 c1] 29)
  rw [hsz] at x1
  obtain ⟨w1, hw1⟩ : ∃ w1, w1 = (w.alloc (.cells #[.int .i64 L1, .slice R1 n1 c1] 29)).alloc (.cells #[.int .i64 L2, .slice R2 n2 c2] 29) := ⟨_, rfl⟩
  have HW1 := Lib.hid hw1
  rw [← hw1] at HB x0 x1 hh1 hh2 hh3 hht
  clear hw1 hsz
  have HM := Lib.hid (l08Code_any L1 L2 R1 R2 A U n1 c1 n2 c2 n c m d xs1 xs2 us ts w1 hh1 hm1 hh2 hm2 hht hn hh3 hm3)
  rw [hts] at HM
  by_cases h0 : mCode L1 xs1 L2 xs2 X (wordB L1 us) = 0
  · rw [h0] at HM
    obtain ⟨hq, ha1, ha2, hE1, hE2, hXW, hWl, hWw⟩ := mCode_zero h1.1 h2.1 h0
    obtain ⟨rs1, rfl, -, h8, hr1, hrel1, hl1, hd1, -⟩ := alphB_nats L1 xs1 n1 h1.1 ha1
    obtain ⟨rs2, rfl, -, h28, hr2, hrel2, hl2, hd2, -⟩ := alphB_nats L2 xs2 n2 h2.1 ha2
    subst hE1 hE2
    obtain ⟨vs, rfl, hv24, hvn⟩ := wordB_nats n1 us hq
    have hnn : n = n1 := by
      have e := congrArg List.length hts
      rw [hXW, List.length_map, List.length_map, hWl] at e
      have := ht.1; omega
    subst hnn
    obtain ⟨Ws, hWs⟩ : ∃ Ws, Ws = natW X := ⟨_, rfl⟩
    rw [← hWs] at hXW hWl hWw
    have hml : vs.length = m := by have := h3.1; rw [ints_len] at this; exact this
    have hA : ioAns (n : Int) (ints rs1) (n2 : Int) (ints rs2) X (ints vs) = (ints (poF rs2 (imW Ws vs)).1, (poF rs2 (imW Ws vs)).2) := by unfold ioAns; rw [if_pos h0, ints_toNat, ints_toNat, ← hWs]
    have hWT := fun k t htk => rows_at (hts.trans hXW) k t htk
    have HD2 := (depB_iff rs2 n2 hl2 hr2).1 hd2
    rw [hA]
    have HIM : Hid (∀ ww, Below w1.heap.size w1 ww → Calls Tryd.prog 52 #[.slice A n c, .slice U m d] ww (MakesE 2 ww (imW Ws vs).length (ints (imW Ws vs)))) := Lib.hid (fun ww hw => l08Image_any A U n c m d n2 vs ts Ws ww (hht.below hw) hWT hWw (hh3.below hw) (by omega) hvn)
    have HIN := Lib.hid (imW_in hWw vs)
    have HR2 := Lib.hid hr2
    have HL2 := Lib.hid hl2
    have hil := imW_len hWw vs
    obtain ⟨W, hW⟩ : ∃ W, W = imW Ws vs := ⟨_, rfl⟩
    rw [← hW] at HIM HIN hil
    show Calls _ _ _ _ (LsPost w (ints (poF rs2 (imW Ws vs)).1).length (ints (poF rs2 (imW Ws vs)).1) (poF rs2 (imW Ws vs)).2)
    rw [← hW]
    obtain ⟨k, hk⟩ : ∃ k, k = W.length := ⟨_, rfl⟩
    have HKL := Lib.hid hk
    rw [← hk] at HIM hil
    clear hA h0 hq ha1 ha2 hXW hWl hWw hWs hWT HD2 hts ht h1 h2 h3 hr1 hrel1 hl1 hd1 hr2 hrel2 hl2 hd2 hvn hwf1 hwf2 hwf3 hW hk
    by_cases hlong : 24 < k
    · have HA := Lib.hid (poF_long rs2 W (by rw [← HKL.out]; exact hlong))
      rw [HA.out]
      have hI : (24 : Int) < (k : Int) := by omega
      have hd9 : decide ((24 : Int) < (k : Int)) = true := decide_eq_true hI
      go_enter Tryd.func21, Tryd.ntmps21
      go_wp2_with fail
      rw [← HW1.out]
      refine HM.out.mono ?_
      rintro e w2 ⟨rfl, hb2⟩
      have HI9 := Lib.hid (HIM.out w2 hb2)
      go_wp2_with fail
      refine HI9.out.mono ?_
      rintro e w3 ⟨A3, c3, rfl, o3, hb3⟩
      have hb13 := hb2.trans (hb3.mono hb2.size)
      go_wp2_with fail
      go_ret2
      exact LsPost.of_ans (ans_no 3 (HB.out.trans (hb13.mono HB.out.size)))
    · have HA := Lib.hid (poF_yes rs2 W (by rw [← HKL.out]; omega))
      rw [HA.out]
      have hI : ¬ (24 : Int) < (k : Int) := by omega
      have hd9 : decide ((24 : Int) < (k : Int)) = false := decide_eq_false hI
      have HNF : Hid (nfM (RDep rs2) n2 W = nfR rs2 W) := Lib.hid (by unfold nfR; rw [HL2.out])
      go_enter Tryd.func21, Tryd.ntmps21
      go_wp2_with fail
      rw [← HW1.out]
      refine HM.out.mono ?_
      rintro e w2 ⟨rfl, hb2⟩
      have HI9 := Lib.hid (HIM.out w2 hb2)
      go_wp2_with fail
      refine HI9.out.mono ?_
      rintro e w3 ⟨A3, c3, rfl, o3, hb3⟩
      have hb13 := hb2.trans (hb3.mono hb2.size)
      have y0 := (x1.next hb13).c0
      have y1 := (x1.next hb13).c1
      have HN9 := Lib.hid (l03Normal_any R2 A3 n2 c2 k c3 rs2 W w3 (hh2.below hb13) (by omega) HR2.out o3.rd (by omega) (fun p hp => in_getD HIN.out p (by rw [← HKL.out]; exact hp)))
      rw [HNF.out] at HN9
      clear o3
      go_wp2_with fail
      refine HN9.out.mono ?_
      rintro e w4 ⟨A4, c4, rfl, o4, hb4⟩
      have hb9 := HB.out.trans (hb13.mono HB.out.size)
      go_wp2_with fail
      go_ret2
      have hl9 : (ints (nfR rs2 W)).length = k := o4.len
      exact LsPost.of_ans (ans_yes hl9 (o4.mono hb9.size) (hb9.trans (hb4.mono hb9.size)))
  · have hA : ioAns L1 xs1 L2 xs2 X us = ([], mCode L1 xs1 L2 xs2 X (wordB L1 us)) := by unfold ioAns; rw [if_neg h0]
    rw [hA]
    obtain ⟨C, hC⟩ : ∃ C, C = mCode L1 xs1 L2 xs2 X (wordB L1 us) := ⟨_, rfl⟩
    rw [← hC] at HM h0 ⊢
    clear hC hA hts ht
    have hd : (C == 0) = false := by simpa using h0
    have hd2 : (C != 0) = true := by simpa using h0
    go_enter Tryd.func21, Tryd.ntmps21
    go_wp2_with fail
    rw [← HW1.out]
    refine HM.out.mono ?_
    rintro e w2 ⟨rfl, hb2⟩
    go_wp2_with fail
    go_ret2
    exact LsPost.of_ans (ans_no C (HB.out.trans (hb2.mono HB.out.size)))
end Go.Proofs.YtdafdffmkjhhcaaDoor
