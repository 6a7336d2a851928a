/-
  The maximal cliques of a relation: the program's side.
-/
import Derived.Test.YtbjkpkgnjeaimaaDoorCliq
namespace Go.Proofs.YtbjkpkgnjeaimaaDoor
open Go.RowKit
set_option linter.unusedVariables false
set_option maxRecDepth 100000

theorem bitsOf_lt (s n k : Nat) (hs : s < 2 ^ n) (hk : k ∈ bitsOf s) : k < n := by
  rcases Nat.lt_or_ge k n with h | h
  · exact h
  · have h1 := ((bitsOf_mem s k).1 hk).2
    rw [Nat.testBit_lt_two_pow (Nat.lt_of_lt_of_le hs (Nat.pow_le_pow_right (by decide) h))] at h1
    cases h1
/-- The numbers that all rows of a list of indices share. -/
def comM (us : List Nat) (n : Nat) (l : List Nat) : Nat := l.foldl (fun a k => a &&& us.getD k 0) (2 ^ n - 1)
theorem comM_snoc (us : List Nat) (n : Nat) (l : List Nat) (k : Nat) : comM us n (l ++ [k]) = comM us n l &&& us.getD k 0 := by unfold comM; rw [List.foldl_append]; rfl
theorem comM_bit (us : List Nat) (n : Nat) (l : List Nat) (b : Nat) : (comM us n l).testBit b = true ↔ b < n ∧ ∀ k, k ∈ l → (us.getD k 0).testBit b = true := by
  have key : ∀ (l : List Nat) (a : Nat), (l.foldl (fun a k => a &&& us.getD k 0) a).testBit b = true ↔ a.testBit b = true ∧ ∀ k, k ∈ l → (us.getD k 0).testBit b = true := by
    intro l
    induction l with
    | nil => intro a; simp
    | cons k l ih =>
      intro a
      rw [List.foldl_cons, ih, Nat.testBit_and, Bool.and_eq_true]
      constructor
      · rintro ⟨⟨h1, h2⟩, h3⟩
        refine ⟨h1, fun q hq => ?_⟩
        rcases List.mem_cons.1 hq with rfl | hq
        · exact h2
        · exact h3 q hq
      · rintro ⟨h1, h2⟩
        exact ⟨⟨h1, h2 k (List.mem_cons_self ..)⟩, fun q hq => h2 q (List.mem_cons_of_mem _ hq)⟩
  unfold comM
  rw [key, Nat.testBit_two_pow_sub_one, decide_eq_true_iff]
theorem comM_le (us : List Nat) (n : Nat) (l : List Nat) : comM us n l ≤ 2 ^ n - 1 := by
  have key : ∀ (l : List Nat) (a : Nat), l.foldl (fun a k => a &&& us.getD k 0) a ≤ a := by
    intro l
    induction l with
    | nil => intro a; exact Nat.le_refl _
    | cons k l ih => intro a; rw [List.foldl_cons]; exact Nat.le_trans (ih _) Nat.and_le_left
  exact key l _
def maxC (us : List Nat) (n c : Nat) : Bool := dif (comM us n (bitsOf c)) c == 0
def maxM (rs : List Nat) : List Nat := (cliqM rs).filter (maxC (mutM rs) rs.length)
/-- The family as an answer: all cliques where there are too many of them. -/
def maxF (rs : List Nat) : List Nat := if (cliqM rs).length ≤ 4096 then maxM rs else cliqM rs
theorem cliqM_lt (rs : List Nat) (n : Nat) (hl : rs.length = n) : ∀ s, s ∈ cliqM rs → s < 2 ^ n := by
  unfold cliqM
  rw [hl]
  exact famM_lt _ _ n (fun k hk => List.mem_range.1 hk)
theorem maxM_len (rs : List Nat) : (maxM rs).length ≤ (cliqM rs).length := List.length_filter_le ..
theorem filter_snoc (p : Nat → Bool) (fs : List Nat) (t s : Nat) (hs : fs[t]? = some s) : (fs.take (t + 1)).filter p = (fs.take t).filter p ++ (if p s then [s] else []) := by
  rw [List.take_add_one, hs, List.filter_append]
  congr 1
  cases h : p s <;> simp [h]
set_option maxHeartbeats 3200000 in
theorem maximalCliques_any (A : Option Addr) (n c : Nat) (rs : List Nat) (w : World) (h : Rd w A n (ints rs)) (hn : n ≤ 24) (hr : ∀ i, rs.getD i 0 < 2 ^ n) (hT : Tab w) :
    Calls Tryd.prog 81 #[.slice A n c] w (FamPost w (maxF rs)) := by
  have hlen : rs.length = n := by have := h.1; rw [ints_len] at this; exact this
  have hmu := mutM_lt rs n hlen hr
  have HML : Hid ((mutM rs).length = n) := Lib.hid (by rw [mutM_len, hlen])
  have HCL := Lib.hid (cliqM_lt rs n hlen)
  have HL := Lib.hid hlen
  clear hlen
  obtain ⟨i0, hi, hz0, hz1, hz2⟩ := info_parts info_set
  have hn62 : n ≤ 62 := by omega
  go_enter Tryd.func81, Tryd.ntmps81
  go_wp2_with fail
  refine (cliques_any A n c rs _ h hn hr hT).mono ?_
  rintro e w1 hp
  obtain ⟨ds, bo, A1, c1, rfl, ho1, hb1, hcase⟩ : ∃ ds bo A1 c1, e = .returned (.tuple #[.slice A1 ds.length c1, .bool bo]) ∧ Own 57 w1 w.heap.size A1 ds.length c1 (ints ds) ∧ Below w.heap.size w w1 ∧ ((cliqM rs).length ≤ 4096 ∧ bo = true ∧ ds = cliqM rs ∨ 4096 < (cliqM rs).length ∧ bo = false ∧ ds = []) := by
    rcases hp with ⟨hle, A1, c1, rfl, ho1, hb1⟩ | ⟨hgt, rfl, hb1⟩
    · exact ⟨_, true, A1, c1, rfl, ho1, hb1, .inl ⟨hle, rfl, rfl⟩⟩
    · exact ⟨[], false, none, 0, rfl, Own.nil _ _ _, hb1, .inr ⟨hgt, rfl, rfl⟩⟩
  have hds : ∀ s, s ∈ ds → s < 2 ^ n := by
    rcases hcase with ⟨_, _, rfl⟩ | ⟨_, _, rfl⟩
    · exact HCL.out
    · intro s hs; cases hs
  have hdl : ds.length ≤ 4096 := by
    rcases hcase with ⟨h1, _, rfl⟩ | ⟨_, _, rfl⟩
    · exact h1
    · exact Nat.zero_le _
  obtain ⟨L, hL⟩ : ∃ L, L = ds.length := ⟨_, rfl⟩
  rw [← hL] at ho1 hdl ⊢
  have HLD := Lib.hid hL
  have HDS := Lib.hid hds
  have HCASE := Lib.hid hcase
  clear hcase hL hp hds
  have h1 := h.below hb1
  have hT1 := hT.below hb1
  go_wp2_with fail
  refine (mutual_any A n c rs _ h1 hn hr hT1).mono ?_
  rintro e w2 ⟨A2, c2, rfl, ho2, hb2⟩
  have hb02 := hb1.trans (hb2.mono hb1.size)
  have ho1b := ho1.below hb2
  obtain ⟨us, hus⟩ : ∃ us, us = mutM rs := ⟨_, rfl⟩
  rw [← hus] at ho2 hmu HML
  have HUS := Lib.hid hus
  have HW1 := Lib.hid hb1.size
  have HA1 := Lib.hid (fun q hq => (ho1.lt q hq).2)
  clear hus ho1 hb1 hb2
  obtain ⟨w0, hw0⟩ : ∃ w0 : World, w0 = w2 := ⟨_, rfl⟩
  have HT2 := Lib.hid (hT.below hb02)
  have HB02 := Lib.hid hb02
  have HS2 := Lib.hid hb02.size
  rw [← hw0] at HT2 HB02 HS2
  have HA2 := Lib.hid (fun q hq => (ho2.lt q hq).2)
  rw [← hw0] at HA2
  have HA1b := Lib.hid (fun q hq => (ho1b.lt q hq).2)
  rw [← hw0] at HA1b
  clear hb02
  go_wp2_with fail
  go_loopw [7, 22] (fun v q wr => ∃ (t : Nat) (A7 : Option Addr) (c7 : Nat), t ≤ L ∧ q = .int .i64 t ∧ v = .slice A7 ((ds.take t).filter (maxC us n)).length c7 ∧ Own 57 wr w0.heap.size A7 ((ds.take t).filter (maxC us n)).length c7 (ints ((ds.take t).filter (maxC us n))) ∧ Own 57 wr w.heap.size A1 L c1 (ints ds) ∧ Own 57 wr w1.heap.size A2 n c2 (ints us) ∧ Below w0.heap.size w0 wr ∧ (L = 0 → A7 = none ∧ c7 = 0)) (fun _ q _ => L - (intOf q).toNat)
  case atStart => exact ⟨0, none, 0, Nat.zero_le _, rfl, rfl, Own.nil _ _ _, ho1b, ho2, by rw [hw0]; exact Below.refl _ _, fun _ => ⟨rfl, rfl⟩⟩
  case round =>
    clear ho1b ho2 hw0
    obtain ⟨t, A7, c7, ht, rfl, rfl, ho, hod, hou, hb, hnil⟩ := hrel
    by_cases hlt : t < L
    · obtain ⟨s, hss⟩ : ∃ s, ds[t]? = some s := ⟨_, List.getElem?_eq_getElem (by have := HLD.out; omega)⟩
      have hs := HDS.out s (List.mem_of_getElem? hss)
      have hs24 : s < 16777216 := by have := p24 n hn; omega
      have hs63 : s < 9223372036854775808 := by omega
      obtain ⟨g1, rfl, hg1B, hg1lt⟩ := hod.form (by omega)
      have hcell := hod.cell (ints_at hss)
      have hsn := filter_snoc (maxC us n) ds t s hss
      have hcl : ((ds.take t).filter (maxC us n)).length ≤ t := Nat.le_trans (List.length_filter_le ..) (by rw [List.length_take]; omega)
      obtain ⟨cur, hcur⟩ : ∃ cur, cur = (ds.take t).filter (maxC us n) := ⟨_, rfl⟩
      rw [← hcur] at ho hsn hcl ⊢
      obtain ⟨L7, hL7⟩ : ∃ L7, L7 = cur.length := ⟨_, rfl⟩
      rw [← hL7] at ho hcl ⊢
      obtain ⟨ms, hms⟩ : ∃ ms, ms = bitsOf s := ⟨_, rfl⟩
      have hmn : ∀ k, k ∈ ms → k < n := fun k hk => bitsOf_lt s n k hs (by rw [← hms]; exact hk)
      have hmx : maxC us n s = (dif (comM us n ms) s == 0) := by unfold maxC; rw [hms]
      have hm24 : ms.length ≤ 24 := by rw [hms]; unfold bitsOf upTo; exact Nat.le_trans (List.length_filter_le ..) (by rw [List.length_range]; omega)
      obtain ⟨m, hm⟩ : ∃ m, m = ms.length := ⟨_, rfl⟩
      have HM := Lib.hid hm
      have HMS := Lib.hid hms
      have HMN := Lib.hid hmn
      have HMX := Lib.hid hmx
      have HSN := Lib.hid hsn
      have HL7 := Lib.hid hL7
      have HTR := Lib.hid (HT2.out.below hb)
      rw [← hm] at hm24
      clear hss hsn hcur hL7 hmn hmx hm hms hs
      go_wp2_with fail
      refine (firstNumbers_any n hn62 _).mono ?_
      rintro e w' ⟨rfl, rfl⟩
      go_wp2_with fail
      refine (members_any s hs24 _ HTR.out).mono ?_
      rintro e w3 ⟨A3, c3, rfl, ho3, hb3⟩
      rw [← HMS.out, ← HM.out] at ho3 ⊢
      have hbw : Below w0.heap.size w0 w3 := hb.trans (hb3.mono hb.size)
      have ho9 := ho.below hb3
      have hod9 := hod.below hb3
      have hou9 := hou.below hb3
      clear ho hod hou hcell hb3 hg1lt
      go_wp2_with fail
      go_loopw [10, 32] (fun v q wr => ∃ (j : Nat), j ≤ m ∧ q = .int .i64 j ∧ v = .int .i64 ((comM us n (ms.take j) : Nat) : Int) ∧ wr = w3) (fun _ q _ => m - (intOf q).toNat)
      case atStart => exact ⟨0, Nat.zero_le _, rfl, rfl, rfl⟩
      case round =>
        obtain ⟨j, hj, rfl, rfl, rfl⟩ := hrel
        by_cases hlt2 : j < m
        · obtain ⟨k, hk⟩ : ∃ k, ms[j]? = some k := ⟨_, List.getElem?_eq_getElem (by have := HM.out; omega)⟩
          have hkn := HMN.out k (List.mem_of_getElem? hk)
          obtain ⟨g3, rfl, hg3B, hg3lt⟩ := ho3.form (by omega)
          have hc3 := ho3.cell (ints_at hk)
          obtain ⟨b2, rfl, hb2B, hb2lt⟩ := hou9.form (by omega)
          have hul : us[k]? = some (us.getD k 0) := by
            rw [List.getD_eq_getElem?_getD, List.getElem?_eq_getElem (by rw [HML.out]; exact hkn)]; rfl
          have hc2 := hou9.cell (ints_at hul)
          have htk : ms.take (j + 1) = ms.take j ++ [k] := by rw [List.take_add_one, hk]; rfl
          have hx := comM_le us n (ms.take j)
          have hp := p24 n hn
          have hp0 := p2_pos n
          have hx63 : comM us n (ms.take j) < 9223372036854775808 := by omega
          have hu63 := lt63 hn (hmu k)
          have hand := i64_and_nat _ _ hx63 hu63
          rw [← comM_snoc, ← htk] at hand
          obtain ⟨X, hX⟩ : ∃ X, X = comM us n (ms.take j) := ⟨_, rfl⟩
          obtain ⟨Y, hY⟩ : ∃ Y, Y = comM us n (ms.take (j + 1)) := ⟨_, rfl⟩
          obtain ⟨U, hU⟩ : ∃ U, U = us.getD k 0 := ⟨_, rfl⟩
          have HY := Lib.hid hY
          rw [← hX] at hand hx63 ⊢
          rw [← hY, ← hU] at hand
          rw [← hU] at hc2 hu63
          clear hk hul htk hx hp hX hY hU ho9 hod9 hbw ho3
          go_wp2_with fail
          go_roundw
          case rel => exact ⟨j + 1, by omega, by go_num, by rw [← HY.out], by first | rfl | trivial⟩
          case measure => simp [intOf]; omega
        · obtain rfl : j = m := by omega
          have htm : ms.take j = ms := by rw [HM.out]; exact List.take_length
          have hx := comM_le us n ms
          rw [htm]
          have hp := p24 n hn
          have hp0 := p2_pos n
          obtain ⟨X, hX⟩ : ∃ X, X = comM us n ms := ⟨_, rfl⟩
          have hx63 : X < 9223372036854775808 := by omega
          have hq := HMX.out
          rw [← hX] at hq ⊢
          have HQ := Lib.hid hq
          clear hx hp htm hX hq
          go_wp2_with fail
          refine (within_any X s hx63 hs63 _).mono ?_
          rintro e w' ⟨rfl, rfl⟩
          rw [← HQ.out]
          cases hmx : maxC us n s
          · have hno : (ds.take (t + 1)).filter (maxC us n) = cur := by rw [HSN.out, hmx]; simp
            have HNO := Lib.hid hno
            clear hno hmx
            go_wp2_with fail
            go_roundw
            case rel => exact ⟨t + 1, A7, c7, by omega, by go_num, by rw [HNO.out, ← HL7.out], by rw [HNO.out, ← HL7.out]; exact ho9, hod9, hou9, hbw, fun h => by omega⟩
            case measure => simp [intOf]; omega
          · have hyes : (ds.take (t + 1)).filter (maxC us n) = cur ++ [s] := by rw [HSN.out, hmx]; simp
            have HYES := Lib.hid hyes
            have hmlx : L7 + 1 ≤ maxLen := by unfold maxLen; omega
            have hby2 : (L7 + 1) * 8 ≤ 140737488355328 := by omega
            clear hyes hmx
            go_wp2_with (at_builtin; refine wpList_append_own _ rfl _ _ 50 rfl w0.heap.size 57 i0 (.int .i64 0) 1 8 Tryd.underlying50 hi hz0 hz1 hz2 rfl (by decide) (.slice A7 L7 c7) L7 ((ints cur).map (Value.int .i64)) rfl (World.ownsRow.alloc ho9 _) ⟨wr.heap.size, 0, none⟩ 1 1 [.int .i64 (s : Int)] rfl rfl ?s1 ?s2 hmlx hby2 ?s5 ?_)
            case s1 => exact cell_one_new _ _ _
            case s2 => intro u hu; simp at hu; subst hu; rfl
            case s5 => have := hbw.size; simp; omega
            intro v' w4 hown hg _
            rw [ints_snoc_map, ← HYES.out] at hown
            have hb4 : Below w0.heap.size w0 w4 := (hbw.alloc hbw.size _).grown hg (by have := hbw.size; simp; omega) (fun q hq => (World.ownsRow.lt ho9 q hq).1)
            have hod4 : Own 57 w4 w.heap.size (some ⟨g1, 0, none⟩) L c1 (ints ds) := by
              refine Own.apart (World.ownsRow.alloc hod9 _) hg (fun q hq e => ?_)
              have h9 := (World.ownsRow.lt ho9 q e).1
              have h8 := HA1b.out q hq
              omega
            have hou4 : Own 57 w4 w1.heap.size A2 n c2 (ints us) := by
              refine Own.apart (World.ownsRow.alloc hou9 _) hg (fun q hq e => ?_)
              have h9 := (World.ownsRow.lt ho9 q e).1
              have h8 := HA2.out q hq
              omega
            obtain ⟨A8, c8, hv, ho8⟩ := own_shape hown
            have hl8 : L7 + 1 = ((ds.take (t + 1)).filter (maxC us n)).length := by rw [HYES.out, List.length_append, ← HL7.out]; rfl
            rw [hl8] at hv ho8
            rw [hv]
            clear hg hown hv hl8 hod9 hou9 ho9 hbw ho3
            go_wp2
            go_roundw
            case rel => exact ⟨t + 1, A8, c8, by omega, by go_num, rfl, ho8, hod4, hou4, hb4, fun h => by omega⟩
            case measure => simp [intOf]; omega
    · obtain rfl : t = L := by omega
      have htd : ds.take t = ds := by rw [HLD.out]; exact List.take_length
      rw [htd] at ho ⊢
      have HO := Lib.hid ho
      have HB := Lib.hid (HB02.out.trans (hb.mono HS2.out))
      have HNIL := Lib.hid hnil
      clear ho hod hou hb htd hnil
      obtain ⟨fl, hfl⟩ : ∃ fl, fl = ds.filter (maxC us n) := ⟨_, rfl⟩
      have HFL := Lib.hid hfl
      rw [← hfl] at HO ⊢
      clear hfl
      go_wp2
      go_ret2
      show FamPost w (maxF rs) _ _
      rcases HCASE.out with ⟨h1, rfl, rfl⟩ | ⟨h1, rfl, rfl⟩
      · have he : maxF rs = fl := by unfold maxF maxM; rw [if_pos h1, HFL.out, HUS.out, HL.out]
        rw [he]
        refine .inl ⟨?_, A7, c7, rfl, HO.out.mono HS2.out, HB.out⟩
        rw [HFL.out]
        exact Nat.le_trans (List.length_filter_le ..) h1
      · have he : maxF rs = cliqM rs := by unfold maxF; rw [if_neg (by omega)]
        rw [he]
        have hf0 : fl = [] := by rw [HFL.out]; rfl
        subst hf0
        obtain ⟨rfl, rfl⟩ := HNIL.out HLD.out
        exact .inr ⟨h1, rfl, HB.out⟩
def maxAns (xs : List Int) : List Int × Int := if relB xs = true then famAns (maxF (xs.map Int.toNat)) else ([], 1)
theorem maxAns_small (xs : List Int) : (maxAns xs).1.length ≤ 4096 := by
  unfold maxAns
  split
  · exact famAns_small _
  · exact Nat.zero_le _
end Go.Proofs.YtbjkpkgnjeaimaaDoor
