/-
  DomainsOf: both sides.
-/
import Derived.Test.YtbjkpkgnjeaimaaDoorProcIn
import Derived.Test.YtbjkpkgnjeaimaaDoorParts
import Derived.Test.YtbjkpkgnjeaimaaDoorCov
namespace Go.Proofs.YtbjkpkgnjeaimaaDoor
open Go.RowKit
set_option linter.unusedVariables false
set_option maxRecDepth 100000

def domM (ps : List Nat) (n : Nat) : List Nat := (List.range n).map fun a => colM ps a ps.length
theorem domM_len (ps : List Nat) (n : Nat) : (domM ps n).length = n := by simp [domM]
theorem domM_at (ps : List Nat) (n i : Nat) (h : i < n) : (domM ps n).getD i 0 = colM ps i ps.length := getD_range_map _ _ _ h
def domAns (a : Int) (xs : List Int) : List Int × Int := if prCode a xs = 0 then (ints (domM (xs.map Int.toNat) a.toNat), 0) else ([], prCode a xs)
theorem domAns_small (a : Int) (xs : List Int) : (domAns a xs).1.length ≤ 8 := by
  unfold domAns
  split
  · rename_i h
    obtain ⟨n, rfl, h8, _, _⟩ := prCode_zero a xs h
    show (ints _).length ≤ 8
    rw [ints_len, domM_len, Int.toNat_natCast]; exact h8
  · exact Nat.zero_le _
theorem domAns_no (a : Int) (xs : List Int) (h : ¬ prCode a xs = 0) : domAns a xs = ([], prCode a xs) := by unfold domAns; rw [if_neg h]
theorem domAns_yes (n : Nat) (ps : List Nat) (h : prCode (n : Int) (ints ps) = 0) : domAns (n : Int) (ints ps) = (ints (domM ps n), 0) := by unfold domAns; rw [if_pos h, ints_toNat, Int.toNat_natCast]
theorem dom_step (rs cs : List Nat) (n N i : Nat) (ms : List Nat) (t a : Nat) (hl : cs.length = n) (ha : a < n) (hi : i < N) (hc : ∀ q, cs.getD q 0 < 2 ^ N) (hm : ms[t]? = some a)
    (hb : ∀ q b, ((cs.getD q 0).testBit b = true ↔ (b < i ∧ R rs b q) ∨ (b = i ∧ q ∈ ms.take t))) :
    (∀ q, (cs.set a (cs.getD a 0 ||| 2 ^ i)).getD q 0 < 2 ^ N) ∧ ∀ q b, (((cs.set a (cs.getD a 0 ||| 2 ^ i)).getD q 0).testBit b = true ↔ (b < i ∧ R rs b q) ∨ (b = i ∧ q ∈ ms.take (t + 1))) := by
  have hmem : ∀ q, q ∈ ms.take (t + 1) ↔ q ∈ ms.take t ∨ q = a := by
    intro q
    rw [List.take_add_one, hm, List.mem_append]; simp
  constructor
  · intro q
    rw [getD_set cs a _ q (by omega)]
    split
    · exact Nat.or_lt_two_pow (hc a) (Nat.pow_lt_pow_right (by decide) hi)
    · exact hc q
  · intro q b
    rw [getD_set cs a _ q (by omega), hmem]
    by_cases e : q = a
    · subst e
      rw [if_pos rfl, Nat.testBit_or, Bool.or_eq_true, hb, p2_bit]
      constructor
      · rintro ((h | ⟨h1, h2⟩) | h)
        · exact .inl h
        · exact .inr ⟨h1, .inl h2⟩
        · exact .inr ⟨h.symm, .inr rfl⟩
      · rintro (h | ⟨h1, _⟩)
        · exact .inl (.inl h)
        · exact .inr h1.symm
    · rw [if_neg e, hb]
      constructor
      · rintro (h | ⟨h1, h2⟩)
        · exact .inl h
        · exact .inr ⟨h1, .inl h2⟩
      · rintro (h | ⟨h1, h2 | h2⟩)
        · exact .inl h
        · exact .inr ⟨h1, h2⟩
        · exact absurd h2 e
set_option maxHeartbeats 1600000 in
theorem specDomainsOf (a : Int) (A : Option Addr) (m c : Nat) (xs : List Int) (w : World) (ha1 : -9223372036854775808 ≤ a) (ha2 : a ≤ 9223372036854775807) (h : Rd w A m xs) (hwf : Wf xs) (hm : m ≤ 9223372036854775807) :
    Calls Tryd.prog 29 #[.int .i64 a, .slice A m c] w (LsPost w (domAns a xs).1.length (domAns a xs).1 (domAns a xs).2) := by
  by_cases hz : prCode a xs = 0
  · obtain ⟨n, rfl, h8, hfull, h16⟩ := prCode_zero a xs hz
    obtain ⟨e1, hps⟩ := full_nats n xs hfull
    obtain ⟨ps, hpp⟩ : ∃ ps, ps = xs.map Int.toNat := ⟨_, rfl⟩
    rw [← hpp] at e1 hps
    subst e1
    have hlen : ps.length = m := by have := h.1; rw [ints_len] at this; exact this
    rw [ints_len, hlen] at h16
    rw [domAns_yes n ps hz]
    have HL := Lib.hid hlen
    have HZ := Lib.hid hz
    clear hlen hz hpp hfull
    obtain ⟨i0, hi, hz0, hz1, hz2⟩ := info_parts info_int
    go_enter Tryd.func29, Tryd.ntmps29
    go_wp2_with fail
    refine (l02Processes_any _ _ _ _ _ _ h hm).mono ?_
    rintro e w1 ⟨rfl, hb1⟩
    rw [HZ.out]
    have h1 := h.below hb1
    go_wp2_with fail
    go_loopw [7, 8] (fun v i wr => ∃ (k : Nat) (A1 : Option Addr) (c1 : Nat), k ≤ n ∧ i = .int .i64 k ∧ v = .slice A1 k c1 ∧ Own 2 wr w1.heap.size A1 k c1 (ints ((domM ps n).take k)) ∧ Below w1.heap.size w1 wr) (fun _ i _ => n - (intOf i).toNat)
    case atStart => exact ⟨0, _, 0, Nat.zero_le _, rfl, rfl, (World.ownsRow_lit w1 #[] 0 (Nat.le_refl _) (by unfold maxLen; omega) rfl), (Below.refl _ _).alloc (Nat.le_refl _) _⟩
    case round =>
      obtain ⟨k, A1, c1, hk, rfl, rfl, ho, hb⟩ := hrel
      by_cases hlt : k < n
      · have hrd := h1.below hb
        have hk62 : k ≤ 62 := by omega
        obtain ⟨wo, rfl⟩ : ∃ wo : World, wo = wr := ⟨_, rfl⟩
        go_wp2
        go_loop [9, 10] (fun q i => ∃ t : Nat, t ≤ m ∧ i = .int .i64 t ∧ q = .int .i64 (colM ps k t : Nat)) (fun _ i => m - (intOf i).toNat)
        case atStart => exact ⟨0, Nat.zero_le _, rfl, rfl⟩
        case round =>
          obtain ⟨t, ht, rfl, rfl⟩ := hrel
          have hq : colM ps k t < 9223372036854775808 := lt63 (n := 16) (by omega) (colM_lt ps k t 16 (by omega))
          by_cases hlt2 : t < m
          · obtain ⟨b, off, x, rfl, hbs, hx, hcx⟩ := hrd.at_ hlt2
            have hx2 := ints_getD ps t (by rw [HL.out]; exact hlt2)
            rw [hx2] at hx
            injection hx with hx
            subst hx
            have ht62 : t ≤ 62 := by omega
            have hrt : ps.getD t 0 < 9223372036854775808 := lt63 (n := n) (by omega) (hps t)
            have e1 : colM ps k (t + 1) = if (ps.getD t 0).testBit k = true then colM ps k t ||| 2 ^ t else colM ps k t := rfl
            obtain ⟨S, hS⟩ : ∃ S, S = colM ps k t := ⟨_, rfl⟩
            obtain ⟨D, hD⟩ : ∃ D, D = ps.getD t 0 := ⟨_, rfl⟩
            rw [← hS] at hq ⊢
            rw [← hS, ← hD] at e1
            rw [← hD] at hcx hrt
            have HE := Lib.hid e1
            clear e1 hS hD hx2
            cases hb : D.testBit k
            · have HB := Lib.hid hb
              clear hb
              go_wp2_with (go_at_call 57; refine (bit_any D k hrt hk62 _).mono ?_; rintro e w' ⟨rfl, rfl⟩; rw [HB.out])
              go_round
              case rel => exact ⟨t + 1, by omega, by go_num, by rw [HE.out, if_neg (by rw [HB.out]; decide)]⟩
              case measure => simp [intOf]; omega
            · have HB := Lib.hid hb
              clear hb
              go_wp2_with (first | (go_at_call 57; refine (bit_any D k hrt hk62 _).mono ?_; rintro e w' ⟨rfl, rfl⟩; rw [HB.out]) | (go_at_call 62; refine (one_any t ht62 _).mono ?_; rintro e w' ⟨rfl, rfl⟩))
              go_round
              case rel => exact ⟨t + 1, by omega, by go_num, by rw [HE.out, if_pos HB.out, or_p2 _ _ hq ht62]⟩
              case measure => simp [intOf]; omega
          · obtain rfl : t = m := by omega
            have hml : k + 1 ≤ maxLen := by unfold maxLen; omega
            have hby2 : (k + 1) * 8 ≤ 140737488355328 := by omega
            go_wp2_with (at_builtin; refine wpList_append_own _ rfl _ _ 22 rfl w1.heap.size 2 i0 (.int .i64 0) 1 8 Tryd.underlying22 hi hz0 hz1 hz2 rfl (by decide) (.slice A1 k c1) k ((ints ((domM ps n).take k)).map (Value.int .i64)) rfl (World.ownsRow.alloc ho _) ⟨wo.heap.size, 0, none⟩ 1 1 [.int .i64 ((colM ps k t : Nat) : Int)] rfl rfl ?s1 ?s2 hml hby2 ?s5 ?_)
            case s2 => rfl
            case s5 => have := hb.size; simp; omega
            intro v' w2 hown hg _
            rw [ints_snoc_map, show colM ps k t = (domM ps n).getD k 0 by rw [domM_at ps n k hlt, HL.out], take_next_nat _ k (by rw [domM_len]; exact hlt)] at hown
            have hb2 : Below w1.heap.size w1 w2 := (hb.alloc hb.size _).grown hg (by have := hb.size; simp; omega) (fun g hgr => (World.ownsRow.lt ho g hgr).1)
            obtain ⟨A2, c2, hv, ho2⟩ := own_shape hown
            rw [hv]
            clear hg hown hv
            go_wp2
            go_roundw
            case rel => exact ⟨k + 1, A2, c2, by omega, by go_num, rfl, ho2, hb2⟩
            case measure => simp [intOf]; omega
      · obtain rfl : k = n := by omega
        have e : (domM ps k).take k = domM ps k := List.take_of_length_le (by rw [domM_len]; exact Nat.le_refl _)
        rw [e] at ho
        clear e
        go_wp2
        go_ret2
        exact LsPost.of_ans (ans_yes (by rw [ints_len, domM_len]) (ho.mono hb1.size) (hb1.trans (hb.mono hb1.size)))
  · rw [domAns_no a xs hz]
    have hne : (prCode a xs == 0) = false := by simpa using hz
    obtain ⟨C, hC⟩ : ∃ C, C = prCode a xs := ⟨_, rfl⟩
    rw [← hC] at hne ⊢
    have HC := Lib.hid hC
    have hz2 : ¬ C = 0 := by rw [hC]; exact hz
    clear hC hz
    go_enter Tryd.func29, Tryd.ntmps29
    go_wp2_with fail
    refine (l02Processes_any _ _ _ _ _ _ h hm).mono ?_
    rintro e w1 ⟨rfl, hb1⟩
    rw [← HC.out]
    go_wp2_with fail
    go_ret2
    exact LsPost.of_ans (ans_no C hb1)
set_option maxHeartbeats 3200000 in
theorem implDomainsOf (a : Int) (A : Option Addr) (m c : Nat) (xs : List Int) (w : World) (ha1 : -9223372036854775808 ≤ a) (ha2 : a ≤ 9223372036854775807) (h : Rd w A m xs) (hwf : Wf xs) (hm : m ≤ 1048576) (hT : Tab w) :
    Calls Tryd.prog 30 #[.int .i64 a, .slice A m c] w (LsPost w (domAns a xs).1.length (domAns a xs).1 (domAns a xs).2) := by
  by_cases hz : prCode a xs = 0
  · obtain ⟨n, rfl, h8, hfull, h16⟩ := prCode_zero a xs hz
    obtain ⟨e1, hps⟩ := full_nats n xs hfull
    obtain ⟨ps, hpp⟩ : ∃ ps, ps = xs.map Int.toNat := ⟨_, rfl⟩
    rw [← hpp] at e1 hps
    subst e1
    have hlen : ps.length = m := by have := h.1; rw [ints_len] at this; exact this
    rw [ints_len, hlen] at h16
    rw [domAns_yes n ps hz]
    have HL := Lib.hid hlen
    have HZ := Lib.hid hz
    clear hlen hz hpp hfull
    have h24 : n ≤ 24 := by omega
    obtain ⟨i0, hi, hz0, hz1, hz2⟩ := info_parts info_set
    have hml : n ≤ maxLen := by unfold maxLen; omega
    have hby : i0.bytes * n ≤ 281474976710656 := by rw [hz2]; omega
    have hn3 : n ≤ 1048576 := by omega
    go_enter Tryd.func30, Tryd.ntmps30
    go_wp2_with fail
    refine (processesIn_any _ _ _ _ _ _ h hwf hm).mono ?_
    rw [HZ.out]
    rintro e w0 (⟨_, A0, c0, rfl, ho0, hb0⟩ | ⟨h9, _⟩)
    · rw [ints_len, HL.out] at ho0 ⊢
      have hT0 := hT.below hb0
      go_wp2_with (first | (at_make; refine wpList_make_full _ rfl _ _ _ rfl w0.heap.size 57 i0 (.int .i64 0) 1 Tryd.underlying50 hi hz0 hz1 _ _ (n : Int) (n : Int) n rfl rfl rfl rfl hby hml (Nat.le_refl _) ?_; intro w1 hown0 hg1))
      have hown := own_made hown0
      clear hown0
      have hb1 : Below w0.heap.size w0 w1 := (Below.refl _ _).grown hg1 (Nat.le_refl _) (by simp)
      clear hg1
      go_loopw [26] (fun i wr => ∃ (k : Nat) (cs : List Nat), k ≤ m ∧ i = .int .i64 k ∧ cs.length = n ∧ Own 57 wr w0.heap.size (some ⟨w0.heap.size, 0, none⟩) n n (ints cs) ∧ Below w0.heap.size w0 wr ∧ (∀ i, cs.getD i 0 < 2 ^ m) ∧ (∀ i b, ((cs.getD i 0).testBit b = true ↔ b < k ∧ R ps b i))) (fun i _ => m - (intOf i).toNat)
      case atStart => exact ⟨0, List.replicate n 0, Nat.zero_le _, rfl, List.length_replicate, hown, hb1, fun i => by rw [replicate_getD]; exact p2_pos m, fun i b => by rw [replicate_getD]; simp⟩
      case round =>
        clear hown hb1
        obtain ⟨k, cs, hk, rfl, hcl, ho, hb, hcb, hcw⟩ := hrel
        have HC := Lib.hid hcl
        have HW := Lib.hid hcw
        clear hcl hcw
        by_cases hlt : k < m
        · obtain ⟨b, off, x, rfl, hbs, hx, hcx⟩ := (ho0.rd.below hb).at_ hlt
          have hx2 := ints_getD ps k (by rw [HL.out]; exact hlt)
          rw [hx2] at hx
          injection hx with hx
          subst hx
          have hmk := hps k
          have hm24 : ps.getD k 0 < 16777216 := by have := p24 n h24; omega
          obtain ⟨D, hD⟩ : ∃ D, D = ps.getD k 0 := ⟨_, rfl⟩
          rw [← hD] at hcx hmk hm24
          have HD := Lib.hid hD
          have hT1 := hT0.below hb
          have hgs := (ho.lt _ rfl).2
          have hblen := bitsOf_len D
          clear hD hx2
          obtain ⟨wo, rfl⟩ : ∃ wo : World, wo = wr := ⟨_, rfl⟩
          go_wp2_with fail
          refine (members_any D hm24 _ hT1).mono ?_
          rintro e w2 ⟨A2, c2, rfl, ho2, hb2⟩
          have hbb := hb.trans (hb2.mono hb.size)
          have hoo := ho.below hb2
          obtain ⟨ms, hms⟩ : ∃ ms, ms = bitsOf D := ⟨_, rfl⟩
          rw [← hms] at ho2 hblen ⊢
          have HMS := Lib.hid hms
          have HI : Hid (∀ q b, ((cs.getD q 0).testBit b = true ↔ (b < k ∧ R ps b q) ∨ (b = k ∧ q ∈ ms.take 0))) := Lib.hid (fun q b => by rw [HW.out]; simp)
          clear hms HW ho hb
          go_wp2
          go_loopw [34] (fun i wr => ∃ (t : Nat) (cs : List Nat), t ≤ ms.length ∧ i = .int .i64 t ∧ cs.length = n ∧ Own 57 wr w0.heap.size (some ⟨w0.heap.size, 0, none⟩) n n (ints cs) ∧ Own 2 wr wo.heap.size A2 ms.length c2 (ints ms) ∧ Below w0.heap.size w0 wr ∧ (∀ i, cs.getD i 0 < 2 ^ m) ∧ (∀ q b, ((cs.getD q 0).testBit b = true ↔ (b < k ∧ R ps b q) ∨ (b = k ∧ q ∈ ms.take t)))) (fun i _ => ms.length - (intOf i).toNat)
          case atStart => exact ⟨0, cs, Nat.zero_le _, rfl, HC.out, hoo, ho2, hbb, hcb, HI.out⟩
          case round =>
            clear hoo hbb hcb HC HI ho2
            obtain ⟨t, cs, ht, rfl, hcl, ho, ho2, hb, hcb, hcw⟩ := hrel
            have HC := Lib.hid hcl
            have HW := Lib.hid hcw
            clear hcl hcw
            by_cases hlt2 : t < ms.length
            · obtain ⟨b2, off2, x2, rfl, hbs2, hx2, hcx2⟩ := ho2.rd.at_ hlt2
              have hma : ms[t]? = some (ms.getD t 0) := by rw [List.getD_eq_getElem?_getD, List.getElem?_eq_getElem hlt2]; rfl
              have hx3 := ints_at hma
              rw [hx3] at hx2
              injection hx2 with hx2
              subst hx2
              obtain ⟨a, haa⟩ : ∃ a, a = ms.getD t 0 := ⟨_, rfl⟩
              rw [← haa] at hma hcx2
              have hmem : a ∈ bitsOf D := by rw [← HMS.out]; exact List.mem_of_getElem? hma
              have han : a < n := bit_lt hmk ((bitsOf_mem D a).1 hmem).2
              have hk62 : k ≤ 62 := by omega
              obtain ⟨g, hgg, hgB, hcell, hfr, hset⟩ := own_stored ho han
              injection hgg with hgg
              injection hgg with hgg _ _
              subst hgg
              have hst := Lib.hid (dom_step ps cs n m k ms t a HC.out han hlt hcb hma HW.out)
              have hm2 : cs.getD a 0 < 9223372036854775808 := lt63 (n := m) (by omega) (hcb a)
              have ho4 := hset (cs.getD a 0 ||| 2 ^ k)
              have hb4 := hb.setCell (p := ⟨w0.heap.size, a, none⟩) (Nat.le_refl _) (.int .i64 ((cs.getD a 0 ||| 2 ^ k : Nat) : Int))
              have ho24 := ho2.apart (grown_set (World.grownBy.refl wr (some w0.heap.size)) a (.int .i64 ((cs.getD a 0 ||| 2 ^ k : Nat) : Int))) (fun q hq e => by have := (ho2.lt q hq).1; injection e with e; omega)
              obtain ⟨S, hS⟩ : ∃ S, S = cs.getD a 0 := ⟨_, rfl⟩
              rw [← hS] at hcell hst hm2 ho4 hb4 ho24
              have HMA := Lib.hid hma
              clear hS haa hma hx3 hset
              go_wp2_with (go_at_call 63; refine (with_any _ _ hm2 hk62 _).mono ?_; rintro e w' ⟨rfl, rfl⟩)
              go_roundw
              case rel => exact ⟨t + 1, cs.set a (S ||| 2 ^ k), by omega, by go_num, by rw [List.length_set]; exact HC.out, ho4, ho24, hb4, hst.out.1, hst.out.2⟩
              case measure => simp [intOf]; omega
            · obtain rfl : t = ms.length := by omega
              have HW2 : Hid (∀ i b, ((cs.getD i 0).testBit b = true ↔ b < k + 1 ∧ R ps b i)) := Lib.hid (fun i b => by
                rw [HW.out, List.take_of_length_le (Nat.le_refl _), HMS.out, bitsOf_mem]
                constructor
                · rintro (⟨h1, h2⟩ | ⟨h1, h2, h3⟩)
                  · exact ⟨by omega, h2⟩
                  · subst h1; exact ⟨by omega, by unfold R; rw [← HD.out]; exact h3⟩
                · rintro ⟨h1, h2⟩
                  by_cases e : b = k
                  · subst e
                    unfold R at h2
                    rw [← HD.out] at h2
                    exact .inr ⟨rfl, by have := bit_lt hmk h2; omega, h2⟩
                  · exact .inl ⟨by omega, h2⟩)
              clear HW
              go_wp2
              go_roundw
              case rel => exact ⟨k + 1, cs, by omega, by go_num, HC.out, ho, hb, hcb, HW2.out⟩
              case measure => simp [intOf]; omega
        · obtain rfl : k = m := by omega
          have e9 : cs = domM ps n := list_eq_getD cs (domM ps n) n HC.out (domM_len ps n) (fun i hi => by
            rw [domM_at ps n i hi, HL.out]
            exact nat_ext (hcb i) (colM_lt ps i k k (Nat.le_refl _)) (fun b hb => by rw [HW.out i b, colM_bit]))
          rw [e9] at ho
          clear e9
          go_wp2_with fail
          refine (masksOf_any _ _ _ _ _ ho.rd hn3).mono ?_
          rintro e w3 ⟨A3, c3, rfl, ho3, hb3⟩
          have hb03 := hb0.trans (hb.mono hb0.size)
          go_wp2_with fail
          go_ret2
          exact LsPost.of_ans (ans_yes (by rw [ints_len, domM_len]) (ho3.mono hb03.size) (hb03.trans (hb3.mono hb03.size)))
    · exact absurd rfl h9
  · rw [domAns_no a xs hz]
    have hne : (prCode a xs == 0) = false := by simpa using hz
    obtain ⟨C, hC⟩ : ∃ C, C = prCode a xs := ⟨_, rfl⟩
    have HC := Lib.hid hC
    have hz2 : ¬ C = 0 := by rw [hC]; exact hz
    rw [← hC] at hne ⊢
    clear hC hz
    go_enter Tryd.func30, Tryd.ntmps30
    go_wp2_with fail
    refine (processesIn_any _ _ _ _ _ _ h hwf hm).mono ?_
    rw [← HC.out]
    rintro e w1 (⟨h9, _⟩ | ⟨_, rfl, hb1⟩)
    · exact absurd h9 hz2
    · go_wp2_with fail
      go_ret2
      exact LsPost.of_ans (ans_no C hb1)
end Go.Proofs.YtbjkpkgnjeaimaaDoor
