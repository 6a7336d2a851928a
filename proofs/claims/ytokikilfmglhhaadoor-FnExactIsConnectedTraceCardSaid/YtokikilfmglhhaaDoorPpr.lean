/-
  The pair projections of a trace: both sides' lists of lists.
-/
import Derived.Test.YtokikilfmglhhaaDoorPps
import Derived.Test.YtokikilfmglhhaaDoorPrj
import Derived.Test.YtokikilfmglhhaaDoorSSL
namespace Go.Proofs.YtokikilfmglhhaaDoor
open Go Go.RowKit
set_option linter.unusedVariables false
set_option maxRecDepth 100000

theorem info_sls : (Tryd.prog.info? 22).map (fun i => (i.zero, i.size, i.bytes)) = some (some (.slice none 0 0), 1, 24) := by kernel_rfl
/-- One more slice behind a row of slices: the element is new behind the row's elements; the row itself may have moved. -/
theorem OwnSS.snoc {w w1 w2 : World} {lo n N c : Nat} {A : Option Addr} {v' : Value} {At : Option Addr} {ct : Nat} {ys : List Int}
    {ts : List (Option Addr × Nat × List Int)} (h : OwnT w lo w.heap.size A n c ts) (hb : Below w.heap.size w w1) (ho : Own 2 w1 w.heap.size At N ct ys) (hlo : lo ≤ w.heap.size)
    (hrow : w2.ownsRow lo 22 1 v' (n + 1) (valsT ts ++ [.slice At N ct])) (hg : w1.grownBy w2 (A.map (·.block)))
    (hat : v'.ownBlock = A.map (·.block) ∨ ∃ g, v'.ownBlock = some g ∧ w1.heap.size ≤ g) :
    ∃ A' c', v' = .slice A' (n + 1) c' ∧ OwnSS w2 lo w2.heap.size A' (n + 1) c' (ts.map (fun t => t.2.2) ++ [ys]) := by
  obtain ⟨g9, c', rfl, _, _⟩ := World.ownsRow.form hrow (Nat.succ_pos n)
  obtain ⟨A', hA9⟩ : ∃ A', A' = some (⟨g9, 0, none⟩ : Addr) := ⟨_, rfl⟩
  rw [← hA9] at hrow hat ⊢
  have ht := h
  have hN : ys.length = N := ho.len
  have hsz : w.heap.size ≤ w1.heap.size := hb.size
  have hsz2 : w1.heap.size ≤ w2.heap.size := hg.size
  have hA : ∀ q, A.map (·.block) = some q → lo ≤ q ∧ q < w.heap.size := fun q hq => row_block ht.2.1 q hq
  have hAt : ∀ q, At.map (·.block) = some q → w.heap.size ≤ q ∧ q < w1.heap.size := fun q hq => ho.lt q hq
  have hA' : ∀ q, A'.map (·.block) = some q → A.map (·.block) = some q ∨ w1.heap.size ≤ q := fun q hq => by
    rw [own_block] at hat
    rcases hat with h9 | ⟨g, h9, h8⟩
    · exact .inl (h9 ▸ hq)
    · rw [hq] at h9; injection h9 with h9; exact .inr (by omega)
  refine ⟨A', c', rfl, ts ++ [(At, ct, ys)], by rw [List.map_append]; rfl, by rw [List.length_append, ht.1]; rfl, ?_, fun q hq => (row_block hrow q hq).2, fun j t hj => ?_⟩
  · have : valsT (ts ++ [(At, ct, ys)]) = valsT ts ++ [.slice At N ct] := by unfold valsT; rw [List.map_append, ← hN]; rfl
    rw [this]; exact hrow
  · rcases Nat.lt_or_ge j ts.length with hlt | hge
    · rw [List.getElem?_append_left hlt] at hj
      have h9 := ht.2.2.2 j t hj
      have hblk : ∀ q, t.1.map (·.block) = some q → q < w.heap.size := fun q hq => (h9.1.lt q hq).2
      refine ⟨(h9.1.below hb).apart hg (fun q hq e9 => (h9.2 q hq).2.1 e9), fun q hq => ⟨by have := hblk q hq; omega, fun e9 => ?_, fun l u hl hu => ?_⟩⟩
      · rcases hA' q e9 with h8 | h8
        · exact (h9.2 q hq).2.1 h8
        · have := hblk q hq; omega
      · rcases Nat.lt_or_ge l ts.length with hl2 | hl2
        · rw [List.getElem?_append_left hl2] at hu
          exact (h9.2 q hq).2.2 l u hl hu
        · rw [List.getElem?_append_right hl2] at hu
          cases hd : l - ts.length with
          | zero =>
            rw [hd] at hu
            injection hu with hu
            subst hu
            intro e8
            have := (hAt q e8).1; have := hblk q hq; omega
          | succ k => rw [hd] at hu; cases hu
    · rw [List.getElem?_append_right hge] at hj
      cases hd : j - ts.length with
      | zero =>
        rw [hd] at hj
        injection hj with hj
        subst hj
        have hjl : j = ts.length := by omega
        refine ⟨?_, fun q hq => ⟨by have := (hAt q hq).2; omega, fun e9 => ?_, fun l u hl hu e8 => ?_⟩⟩
        · show Own 2 w2 lo At ys.length ct ys
          rw [hN]
          exact (ho.mono hlo).apart hg (fun q hq e9 => by have := (hA q e9).2; have := (hAt q hq).1; omega)
        · have h7 := hAt q hq
          rcases hA' q e9 with h8 | h8
          · have := (hA q h8).2; omega
          · omega
        · rcases Nat.lt_or_ge l ts.length with hl2 | hl2
          · rw [List.getElem?_append_left hl2] at hu
            have := ((ht.2.2.2 l u hu).1.lt q e8).2
            have := (hAt q hq).1; omega
          · rw [List.getElem?_append_right hl2] at hu
            have : l - ts.length ≠ 0 := by omega
            cases hk : l - ts.length with
            | zero => exact this hk
            | succ k => rw [hk] at hu; cases hu
      | succ k => rw [hd] at hj; cases hj
def ppL (us ps : List Nat) : List (List Int) := ps.map fun p => ints (prjS us p)
theorem ppL_next (us ps : List Nat) (k p : Nat) (h : ps[k]? = some p) : ppL us (ps.take (k + 1)) = ppL us (ps.take k) ++ [ints (prjS us p)] := by
  unfold ppL; rw [List.take_add_one, h, List.map_append]; rfl
theorem ppL_len (us ps : List Nat) : (ppL us ps).length = ps.length := by unfold ppL; rw [List.length_map]
theorem ppL_sum (us : List Nat) : ∀ ps, sumL (ppL us ps) ≤ ps.length * us.length
  | [] => Nat.zero_le _
  | p :: r => by
    have e : sumL (ppL us (p :: r)) = (ints (prjS us p)).length + sumL (ppL us r) := by unfold sumL ppL; rw [List.map_cons, List.map_cons, List.sum_cons]
    rw [e, ints_len, List.length_cons, Nat.succ_mul]
    have := prjS_len us p; have := ppL_sum us r; omega
theorem pairsL_small (rs : List Nat) : ∀ k, k ≤ 24 → ∀ p, p ∈ pairsL rs k → p < 9223372036854775808
  | 0, _, p, h => by cases h
  | k + 1, hk, p, h => by
    rcases List.mem_append.1 h with h | h
    · exact pairsL_small rs k (by omega) p h
    · obtain ⟨b, hb, rfl⟩ := List.mem_map.1 h
      have hb24 := List.mem_range.1 (List.mem_filter.1 hb).1
      have h9 : pairOf k b < 2 ^ 63 := Nat.or_lt_two_pow (Nat.pow_lt_pow_right (by decide) (by omega)) (Nat.pow_lt_pow_right (by decide) (by omega))
      exact h9
set_option maxHeartbeats 3200000 in
theorem pairProjections_any (A : Option Addr) (n c : Nat) (rs : List Nat) (A1 : Option Addr) (m d : Nat) (vs : List Nat) (w : World) (h : Rd w A n (ints rs)) (hn : n ≤ 8) (hr : ∀ i, rs.getD i 0 < 2 ^ n) (h2 : Rd w A1 m (ints vs)) (hm : m ≤ 24) (hvs : ∀ p, p < m → vs.getD p 0 < 8) (hT : Tab w) :
    Calls Tryd.prog 61 #[.slice A n c, .slice A1 m d] w fun e w' => ∃ A' c', e = .returned (.slice A' (pairsL rs n).length c') ∧ OwnSS w' w.heap.size w'.heap.size A' (pairsL rs n).length c' (ppL vs (pairsL rs n)) ∧ Below w.heap.size w w' := by
  obtain ⟨i1, hi1, hy0, hy1, hy2⟩ := info_parts info_sls
  have HP := Lib.hid (pairs_any A n c rs w h hn hr hT)
  have hpl := pairsL_le rs n
  have HPB : Hid (∀ (k p : Nat), (pairsL rs n)[k]? = some p → p < 9223372036854775808) := Lib.hid fun k p hk => pairsL_small rs n (by omega) p (List.mem_of_getElem? hk)
  obtain ⟨ps, hps⟩ : ∃ ps, ps = pairsL rs n := ⟨_, rfl⟩
  rw [← hps] at HP HPB hpl ⊢
  obtain ⟨N, hN⟩ : ∃ N, N = ps.length := ⟨_, rfl⟩
  have HN := Lib.hid hN
  rw [← hN] at HP hpl ⊢
  clear hps hN
  go_enter Tryd.func61, Tryd.ntmps61
  go_wp2_with fail
  refine HP.out.mono ?_
  rintro e w2 ⟨A2, c2, rfl, hop, hbw⟩
  have hrd := hop.rd
  have hNb : N ≤ 192 := by omega
  have hby : ∀ k, k < N → (k + 1) * 24 ≤ 140737488355328 := fun k hk => by omega
  have HBY := Lib.hid hby
  have HB2 := Lib.hid hbw
  have h22 := h2.below hbw
  clear hop hby hbw h hpl
  go_wp2_with fail
  go_loopw [5, 11] (fun p q wr => ∃ (k : Nat) (A3 : Option Addr) (c3 : Nat), k ≤ N ∧ p = .slice A3 k c3 ∧ q = .int .i64 (k : Int) ∧ OwnSS wr w2.heap.size wr.heap.size A3 k c3 (ppL vs (ps.take k)) ∧ Below w2.heap.size w2 wr) (fun _ q _ => N - (intOf q).toNat)
  case atStart => exact ⟨0, none, 0, Nat.zero_le _, rfl, rfl, OwnSS.nil _ _, Below.refl _ _⟩
  case round =>
    skip
    obtain ⟨k, A3, c3, hk, rfl, rfl, hss, hb⟩ := hrel
    by_cases hlt : k < N
    · obtain ⟨b, off, x, rfl, hbs, hx, hcx⟩ := (hrd.below hb).at_ hlt
      have hma : ps[k]? = some (ps.getD k 0) := by rw [List.getD_eq_getElem?_getD, List.getElem?_eq_getElem (by rw [← HN.out]; exact hlt)]; rfl
      rw [ints_at hma] at hx
      injection hx with hx
      subst hx
      have HNX := Lib.hid (ppL_next vs ps k _ hma)
      have hP := HPB.out k _ hma
      obtain ⟨P, hPe⟩ : ∃ P, P = ps.getD k 0 := ⟨_, rfl⟩
      rw [← hPe] at hcx HNX hP
      have hpj := projection_any A1 m d P vs wr (h22.below hb) hm hP hvs
      obtain ⟨ys, hys⟩ : ∃ ys, ys = ints (prjS vs P) := ⟨_, rfl⟩
      rw [← hys] at hpj HNX
      obtain ⟨Y, hY⟩ : ∃ Y, Y = (prjS vs P).length := ⟨_, rfl⟩
      rw [← hY] at hpj
      obtain ⟨ts, hts, hot⟩ := hss
      have HTS := Lib.hid hts
      have hkb := HBY.out k hlt
      have hml : k + 1 ≤ maxLen := by unfold maxLen; omega
      clear hPe hys hY hma hts
      obtain ⟨wo, hwo⟩ : ∃ wo : World, wr = wo := ⟨_, rfl⟩
      rw [hwo] at hot hb hpj hcx hbs ⊢
      clear hwo
      have hdl : decide ((k : Int) < (N : Int)) = true := decide_eq_true (by omega)
      go_wp2_with fail
      refine hpj.mono ?_
      rintro e w3 ⟨At, ct, rfl, hel, hbe⟩
      have hrow3 := row_kept hot.2.1 (grownBy_of_below hbe) (fun q _ e => by cases e)
      have hrb : ∀ q, A3.map (·.block) = some q → w2.heap.size ≤ q := fun q hq => (row_block hot.2.1 q hq).1
      go_wp2_with (at_builtin; refine wpList_append_own_at _ rfl _ _ 29 rfl w2.heap.size 22 i1 (.slice none 0 0) 1 24 Tryd.underlying29 hi1 hy0 hy1 hy2 rfl (by decide) (.slice A3 k c3) k (valsT ts) rfl (World.ownsRow.alloc hrow3 _) ⟨w3.heap.size, 0, none⟩ 1 1 [.slice At Y ct] rfl rfl ?c1 ?c2 hml hkb ?c5 ?_)
      case c1 => exact cell_one_new _ _ _
      case c2 => intro u hu; simp at hu; subst hu; rfl
      case c5 => have := hb.size; have := hbe.size; simp; omega
      intro v' w4 hown hg _ hat
      have hbw3 := hb.trans (hbe.mono hb.size)
      have hb4 : Below w2.heap.size w2 w4 := (hbw3.alloc hbw3.size _).grown hg (by have := hbw3.size; simp; omega) (fun r hr => hrb r (by rw [own_block] at hr; exact hr))
      have hg3 := alloc_grown hg
      rw [own_block] at hg3 hat
      obtain ⟨A4, c4, hv, hss4⟩ := OwnSS.snoc hot hbe hel hb.size hown hg3 (hat.imp id fun h9 => ⟨_, h9, Nat.le_succ _⟩)
      rw [hv]
      rw [HTS.out, ← HNX.out] at hss4
      clear hown hg hv hot hb hbe hel hrow3 hg3 hat hbw3 hpj hcx
      go_wp2_with fail
      go_roundw
      case rel => exact ⟨k + 1, A4, c4, by omega, rfl, by go_num, hss4, hb4⟩
      case measure => simp [intOf]; omega
    · have hkm : k = N := by omega
      subst hkm
      have hdl : decide ((k : Int) < (k : Int)) = false := decide_eq_false (by omega)
      have HTK : Hid (ps.take k = ps) := Lib.hid (List.take_of_length_le (by rw [HN.out]; exact Nat.le_refl _))
      go_wp2_with fail
      go_ret
      rw [HTK.out] at hss
      exact ⟨A3, c3, rfl, hss.wide HB2.out.size (Nat.le_refl _), HB2.out.trans (hb.mono HB2.out.size)⟩
end Go.Proofs.YtokikilfmglhhaaDoor
