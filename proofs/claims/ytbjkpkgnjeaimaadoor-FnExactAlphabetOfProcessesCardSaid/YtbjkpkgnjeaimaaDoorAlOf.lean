/-
  AlphabetOfProcesses: both sides.
-/
import Derived.Test.YtbjkpkgnjeaimaaDoorDom
import Derived.Test.YtbjkpkgnjeaimaaDoorCpl
import Derived.StillTailTactics
namespace Go.Proofs.YtbjkpkgnjeaimaaDoor
open Go.RowKit
set_option linter.unusedVariables false
set_option maxRecDepth 100000

/-! ### plain -/
def BaseP (ps : List Nat) (k q b : Nat) : Prop := q = b ∨ ∃ i, i < k ∧ R ps i q ∧ R ps i b
def AlSt (cs : List Nat) (n : Nat) (ps : List Nat) (k : Nat) (P : Nat → Prop) : Prop :=
  cs.length = n ∧ (∀ q, cs.getD q 0 < 2 ^ n) ∧ ∀ q b, q < n → (R cs q b ↔ BaseP ps k q b ∨ (P q ∧ R ps k q ∧ R ps k b))
def alpB (ps : List Nat) (q b : Nat) : Bool := decide (q = b) || (List.range ps.length).any fun i => (ps.getD i 0).testBit q && (ps.getD i 0).testBit b
def alpM (ps : List Nat) (n : Nat) : List Nat := relM n (alpB ps)
theorem alst_start (ps : List Nat) (n : Nat) : AlSt (freeM n) n ps 0 (fun _ => False) := by
  refine ⟨freeM_len n, freeM_lt n, fun q b hq => ?_⟩
  unfold R BaseP
  rw [freeM_at n q hq, p2_bit]
  constructor
  · exact fun h => .inl (.inl h)
  · rintro ((h | ⟨i, h, _⟩) | ⟨h, _⟩)
    · exact h
    · omega
    · exact h.elim
theorem alst_yes {cs : List Nat} {n : Nat} {ps : List Nat} {k a : Nat} {P : Nat → Prop} (h : AlSt cs n ps k P) (hps : ∀ i, ps.getD i 0 < 2 ^ n) (ha : a < n) (hR : R ps k a) : AlSt (cs.set a (cs.getD a 0 ||| ps.getD k 0)) n ps k (fun q => P q ∨ q = a) := by
  have hl : a < cs.length := by rw [h.1]; exact ha
  refine ⟨by rw [List.length_set]; exact h.1, fun q => ?_, fun q b hq => ?_⟩
  · rw [getD_set cs a _ q hl]
    split
    · exact Nat.or_lt_two_pow (h.2.1 a) (hps k)
    · exact h.2.1 q
  · have h1 := h.2.2 q b hq
    unfold R at h1 ⊢
    rw [getD_set cs a _ q hl]
    by_cases e : q = a
    · subst e
      rw [if_pos rfl, Nat.testBit_or, Bool.or_eq_true, h1]
      unfold R at hR
      constructor
      · rintro ((h | ⟨h2, h3, h4⟩) | h)
        · exact .inl h
        · exact .inr ⟨.inl h2, h3, h4⟩
        · exact .inr ⟨.inr rfl, hR, h⟩
      · rintro (h | ⟨_, _, h⟩)
        · exact .inl (.inl h)
        · exact .inr h
    · rw [if_neg e, h1]
      constructor
      · rintro (h | ⟨h2, h3⟩)
        · exact .inl h
        · exact .inr ⟨.inl h2, h3⟩
      · rintro (h | ⟨h2 | h2, h3⟩)
        · exact .inl h
        · exact .inr ⟨h2, h3⟩
        · exact absurd h2 e
theorem alst_iff {cs : List Nat} {n : Nat} {ps : List Nat} {k : Nat} {P P' : Nat → Prop} (h : AlSt cs n ps k P) (hp : ∀ q, q < n → R ps k q → (P q ↔ P' q)) : AlSt cs n ps k P' := by
  refine ⟨h.1, h.2.1, fun q b hq => ?_⟩
  rw [h.2.2 q b hq]
  constructor
  · rintro (h | ⟨h1, h2, h3⟩)
    · exact .inl h
    · exact .inr ⟨(hp q hq h2).1 h1, h2, h3⟩
  · rintro (h | ⟨h1, h2, h3⟩)
    · exact .inl h
    · exact .inr ⟨(hp q hq h2).2 h1, h2, h3⟩
theorem alst_next {cs : List Nat} {n : Nat} {ps : List Nat} {k : Nat} {P : Nat → Prop} (h : AlSt cs n ps k P) (hp : ∀ q, q < n → R ps k q → P q) : AlSt cs n ps (k + 1) (fun _ => False) := by
  refine ⟨h.1, h.2.1, fun q b hq => ?_⟩
  rw [h.2.2 q b hq]
  unfold BaseP
  constructor
  · rintro ((h | ⟨i, h1, h2⟩) | ⟨h1, h2, h3⟩)
    · exact .inl (.inl h)
    · exact .inl (.inr ⟨i, by omega, h2⟩)
    · exact .inl (.inr ⟨k, by omega, h2, h3⟩)
  · rintro ((h | ⟨i, h1, h2, h3⟩) | ⟨h, _⟩)
    · exact .inl (.inl h)
    · by_cases e : i = k
      · subst e; exact .inr ⟨hp q hq h2, h2, h3⟩
      · exact .inl (.inr ⟨i, by omega, h2, h3⟩)
    · exact h.elim
theorem alst_end {cs : List Nat} {n : Nat} {ps : List Nat} (h : AlSt cs n ps ps.length (fun _ => False)) : cs = alpM ps n := by
  refine relM_eq cs n (alpB ps) h.1 h.2.1 fun i b hi hb => ?_
  rw [h.2.2 i b hi]
  unfold alpB BaseP
  rw [Bool.or_eq_true, decide_eq_true_eq, List.any_eq_true]
  constructor
  · rintro ((h | ⟨j, h1, h2, h3⟩) | ⟨h, _⟩)
    · exact .inl h
    · exact .inr ⟨j, List.mem_range.2 h1, by rw [Bool.and_eq_true]; exact ⟨h2, h3⟩⟩
    · exact h.elim
  · rintro (h | ⟨j, h1, h2⟩)
    · exact .inl (.inl h)
    · rw [Bool.and_eq_true] at h2
      exact .inl (.inr ⟨j, List.mem_range.1 h1, h2.1, h2.2⟩)
theorem clos_zero (n : Nat) : closM (List.replicate n 0) = freeM n := by
  have hl : (List.replicate n 0 : List Nat).length = n := List.length_replicate
  have hr : ∀ i, (List.replicate n 0 : List Nat).getD i 0 < 2 ^ n := fun i => by rw [replicate_getD]; exact p2_pos n
  refine masks_eq _ _ n (by rw [closM_len, hl]) (freeM_len n) (fun i => ?_) (freeM_lt n) fun i k hi hk => ?_
  · rcases Nat.lt_or_ge i n with h1 | h1
    · rw [closM_at _ i (by omega), hl]; exact reachM_lt _ n i n hr h1
    · rw [getD_past _ n i (by rw [closM_len, hl]) h1]; exact p2_pos n
  · rw [closM_at _ i (by omega), hl, reachM_bit _ n i hl hr hi, freeM_at n i hi, p2_bit]
    constructor
    · intro h
      cases h with
      | refl => rfl
      | step h1 h2 => unfold R at h2; rw [replicate_getD] at h2; simp at h2
    · rintro rfl; exact .refl _
def alpAns (a : Int) (xs : List Int) : Int × List Int × Int := if prCode a xs = 0 then (a, ints (alpM (xs.map Int.toNat) a.toNat), 0) else (0, [], prCode a xs)
theorem alpAns_small (a : Int) (xs : List Int) : (alpAns a xs).2.1.length ≤ 8 := by
  unfold alpAns
  split
  · rename_i h
    obtain ⟨n, rfl, h8, _, _⟩ := prCode_zero a xs h
    show (ints _).length ≤ 8
    rw [ints_len, alpM, relM_len, Int.toNat_natCast]; exact h8
  · exact Nat.zero_le _
theorem alpAns_no (a : Int) (xs : List Int) (h : ¬ prCode a xs = 0) : alpAns a xs = (0, [], prCode a xs) := by unfold alpAns; rw [if_neg h]
theorem alpAns_yes (n : Nat) (ps : List Nat) (h : prCode (n : Int) (ints ps) = 0) : alpAns (n : Int) (ints ps) = ((n : Int), ints (alpM ps n), 0) := by unfold alpAns; rw [if_pos h, ints_toNat, Int.toNat_natCast]

theorem indep_any (n : Nat) (w : World) (hn : n ≤ 24) : Calls Tryd.prog 59 #[.int .i64 (n : Int)] w (MakesE 57 w n (ints (freeM n))) := by
  obtain ⟨i0, hi, hz0, hz1, hz2⟩ := info_parts info_set
  have hml : n ≤ maxLen := by unfold maxLen; omega
  have hby : i0.bytes * n ≤ 281474976710656 := by rw [hz2]; omega
  have hr : ∀ i, (List.replicate n 0 : List Nat).getD i 0 < 2 ^ n := fun i => by rw [replicate_getD]; exact p2_pos n
  go_enter Tryd.func59, Tryd.ntmps59
  go_wp2_with (first | (at_make; refine wpList_make_full _ rfl _ _ _ rfl w.heap.size 57 i0 (.int .i64 0) 1 Tryd.underlying51 hi hz0 hz1 _ _ (n : Int) (n : Int) n rfl rfl rfl rfl hby hml (Nat.le_refl _) ?_; intro w1 hown0 hg1))
  have hown := own_made hown0
  clear hown0
  have hb1 : Below w.heap.size w w1 := (Below.refl _ _).grown hg1 (Nat.le_refl _) (by simp)
  clear hg1
  go_wp2_with fail
  refine (closure_any _ _ _ _ _ hown.rd hn hr).mono ?_
  rw [clos_zero]
  rintro e w2 ⟨A2, c2, rfl, ho2, hb2⟩
  go_wp2_with fail
  go_ret
  exact ⟨A2, c2, rfl, ho2.mono hb1.size, hb1.trans (hb2.mono hb1.size)⟩
set_option maxHeartbeats 3200000 in
theorem implAlphabetOfProcesses (a : Int) (A : Option Addr) (m c : Nat) (xs : List Int) (w : World) (ha1 : -9223372036854775808 ≤ a) (ha2 : a ≤ 9223372036854775807) (h : Rd w A m xs) (hwf : Wf xs) (hm : m ≤ 1048576) (hT : Tab w) :
    Calls Tryd.prog 24 #[.int .i64 a, .slice A m c] w (AlPost w (alpAns a xs).1 (alpAns a xs).2.1.length (alpAns a xs).2.1 (alpAns a xs).2.2) := by
  have HB := Lib.hid (below1 w (.cells #[.int .i64 0, .slice none 0 0] 27))
  have hh := h.below HB.out
  have r0 := box_new 27 w 0 none 0 0
  have hT1 := hT.below HB.out
  have hsz0 := size1 w (.cells #[.int .i64 0, .slice none 0 0] 27)
  obtain ⟨wA, hwA⟩ : ∃ wA, wA = w.alloc (.cells #[.int .i64 0, .slice none 0 0] 27) := ⟨_, rfl⟩
  have HBA := Lib.hid (show Below w.heap.size w wA by rw [hwA]; exact HB.out)
  rw [← hwA] at hh r0 hT1 hsz0
  by_cases hz : prCode a xs = 0
  · obtain ⟨n, rfl, h8, hfull, h16⟩ := prCode_zero a xs hz
    obtain ⟨e1, hps⟩ := full_nats n xs hfull
    obtain ⟨ps, hpp⟩ : ∃ ps, ps = xs.map Int.toNat := ⟨_, rfl⟩
    rw [← hpp] at e1 hps
    subst e1
    have hlen : ps.length = m := by have := h.1; rw [ints_len] at this; exact this
    rw [ints_len, hlen] at h16
    rw [alpAns_yes n ps hz]
    have HL := Lib.hid hlen
    have HZ := Lib.hid hz
    have HSZ := Lib.hid hsz0
    clear hlen hz hpp hfull hsz0
    have h24 : n ≤ 24 := by omega
    have hn3 : n ≤ 1048576 := by omega
    go_enter Tryd.func24, Tryd.ntmps24
    go_wp2_with fail
    rw [← hwA]
    clear HB hwA
    refine (processesIn_any _ _ _ _ _ _ hh hwf hm).mono ?_
    rw [HZ.out]
    rintro e w0 (⟨_, A0, c0, rfl, ho0, hb0⟩ | ⟨h9, _⟩)
    · rw [ints_len, HL.out] at ho0 ⊢
      have hT0 := hT1.below hb0
      have HB0 := Lib.hid (HBA.out.trans (hb0.mono HBA.out.size))
      have r1 := r0.next hb0
      go_wp2_with fail
      refine (indep_any n _ h24).mono ?_
      rintro e w1 ⟨A1, c1, rfl, ho1, hb1⟩
      have HLT1 := Lib.hid (fun q hq => (ho1.lt q hq).1)
      go_wp2_with fail
      go_loopw [27] (fun i wr => ∃ (k : Nat) (cs : List Nat), k ≤ m ∧ i = .int .i64 k ∧ Own 57 wr w0.heap.size A1 n c1 (ints cs) ∧ Below w0.heap.size w0 wr ∧ AlSt cs n ps k (fun _ => False)) (fun i _ => m - (intOf i).toNat)
      case atStart => exact ⟨0, freeM n, Nat.zero_le _, rfl, ho1, hb1, alst_start ps n⟩
      case round =>
        clear ho1 hb1
        obtain ⟨k, cs, hk, rfl, ho, hb, hst⟩ := hrel
        have HST := Lib.hid hst
        clear hst
        by_cases hlt : k < m
        · obtain ⟨b, off, x, rfl, hbs, hx, hcx⟩ := (ho0.rd.below hb).at_ hlt
          have hx2 := ints_getD ps k (by rw [HL.out]; exact hlt)
          rw [hx2] at hx
          injection hx with hx
          subst hx
          have hmk := hps k
          have hm24 : ps.getD k 0 < 16777216 := by have := p24 n h24; omega
          have hm63 : ps.getD k 0 < 9223372036854775808 := by omega
          obtain ⟨D, hD⟩ : ∃ D, D = ps.getD k 0 := ⟨_, rfl⟩
          rw [← hD] at hcx hmk hm24 hm63
          have HD := Lib.hid hD
          have hT1 := hT0.below hb
          have hblen := bitsOf_len D
          clear hD hx2
          obtain ⟨wo, rfl⟩ : ∃ wo : World, wo = wr := ⟨_, rfl⟩
          go_wp2_with fail
          refine (members_any D hm24 _ hT1).mono ?_
          rintro e w2 ⟨A2, c2, rfl, ho2, hb2⟩
          have hbb := hb.trans (hb2.mono hb.size)
          have hoo := ho.below hb2
          have HLO := Lib.hid (fun q hq => (ho.lt q hq).2)
          obtain ⟨ms, hms⟩ : ∃ ms, ms = bitsOf D := ⟨_, rfl⟩
          rw [← hms] at ho2 hblen ⊢
          have HMS := Lib.hid hms
          have HI : Hid (AlSt cs n ps k (fun q => q ∈ ms.take 0)) := Lib.hid (alst_iff HST.out (fun q _ _ => by simp))
          clear hms HST ho hb
          go_wp2
          go_loopw [34] (fun i wr => ∃ (t : Nat) (cs : List Nat), t ≤ ms.length ∧ i = .int .i64 t ∧ Own 57 wr w0.heap.size A1 n c1 (ints cs) ∧ Own 2 wr wo.heap.size A2 ms.length c2 (ints ms) ∧ Below w0.heap.size w0 wr ∧ AlSt cs n ps k (fun q => q ∈ ms.take t)) (fun i _ => ms.length - (intOf i).toNat)
          case atStart => exact ⟨0, cs, Nat.zero_le _, rfl, hoo, ho2, hbb, HI.out⟩
          case round =>
            clear hoo hbb HI ho2
            obtain ⟨t, cs, ht, rfl, ho, ho2, hb, hst⟩ := hrel
            have HST := Lib.hid hst
            clear hst
            by_cases hlt2 : t < ms.length
            · obtain ⟨b2, off2, x2, rfl, hbs2, hx2, hcx2⟩ := ho2.rd.at_ hlt2
              have hma : ms[t]? = some (ms.getD t 0) := by rw [List.getD_eq_getElem?_getD, List.getElem?_eq_getElem hlt2]; rfl
              have hx3 := ints_at hma
              rw [hx3] at hx2
              injection hx2 with hx2
              subst hx2
              obtain ⟨a, haa⟩ : ∃ a, a = ms.getD t 0 := ⟨_, rfl⟩
              rw [← haa] at hma hcx2
              have hmem : a ∈ bitsOf D := by rw [← HMS.out]; exact List.mem_of_getElem? hma
              have hRa : R ps k a := by unfold R; rw [← HD.out]; exact ((bitsOf_mem D a).1 hmem).2
              have han : a < n := bit_lt hmk ((bitsOf_mem D a).1 hmem).2
              obtain ⟨g, rfl, hgB, hcell, hfr, hset⟩ := own_stored ho han
              have hnew : AlSt (cs.set a (cs.getD a 0 ||| D)) n ps k (fun q => q ∈ ms.take (t + 1)) := by
                rw [HD.out]
                refine alst_iff (alst_yes HST.out hps han hRa) (fun q _ _ => ?_)
                rw [List.take_add_one, hma, List.mem_append]; simp
              have HNEW := Lib.hid hnew
              have hm2 : cs.getD a 0 < 9223372036854775808 := lt63 h24 (HST.out.2.1 a)
              have hor := or63 (cs.getD a 0) D hm2 hm63
              have ho4 := hset (cs.getD a 0 ||| D)
              have hb4 := hb.setCell (p := ⟨g, a, none⟩) hgB (.int .i64 ((cs.getD a 0 ||| D : Nat) : Int))
              have ho24 := ho2.apart (grown_set (World.grownBy.refl wr (some g)) a (.int .i64 ((cs.getD a 0 ||| D : Nat) : Int))) (fun q hq e => by have := (ho2.lt q hq).1; have := HLO.out g rfl; injection e with e; omega)
              obtain ⟨S, hS⟩ : ∃ S, S = cs.getD a 0 := ⟨_, rfl⟩
              rw [← hS] at hcell hm2 ho4 hb4 ho24 hor HNEW
              obtain ⟨Q, hQ⟩ : ∃ Q, Q = S ||| D := ⟨_, rfl⟩
              rw [← hQ] at ho4 hb4 ho24 hor HNEW
              clear hS hQ haa hma hx3 hset hnew
              go_wp2_with fail
              go_roundw
              case rel => exact ⟨t + 1, cs.set a Q, by omega, by go_num, ho4, ho24, hb4, HNEW.out⟩
              case measure => simp [intOf]; omega
            · obtain rfl : t = ms.length := by omega
              have HN : Hid (AlSt cs n ps (k + 1) (fun _ => False)) := Lib.hid (alst_next HST.out (fun q hq hR => by
                rw [List.take_of_length_le (Nat.le_refl _), HMS.out, bitsOf_mem]
                unfold R at hR
                rw [← HD.out] at hR
                exact ⟨by omega, hR⟩))
              clear HST
              go_wp2
              go_roundw
              case rel => exact ⟨k + 1, cs, by omega, by go_num, ho, hb, HN.out⟩
              case measure => simp [intOf]; omega
        · obtain rfl : k = m := by omega
          have e9 : cs = alpM ps n := alst_end (by rw [HL.out]; exact HST.out)
          rw [e9] at ho
          clear e9
          have r2 := r1.next hb
          go_wp2_with fail
          refine (alphabetOf_any _ _ _ _ _ ho.rd hn3).mono ?_
          rintro e w3 ⟨A3, c3, rfl, ho3, hb3⟩
          have hb03 := HB0.out.trans (hb.mono HB0.out.size)
          have hb04 := hb03.trans (hb3.mono hb03.size)
          have r3 := r2.next hb3
          have y0 := r3.c0
          have y1 := r3.c1
          have f0 := r3.fr 0
          have f1 := r3.fr 1
          have hs3 : w.heap.size < wr.heap.size := by have := hb.size; have := hb0.size; have := HSZ.out; omega
          go_wp2
          refine ret_gen (fun W => Box 27 W w.heap.size (n : Int) A3 n c3 ∧ Own 2 W w.heap.size A3 n c3 (ints (alpM ps n)) ∧ Below w.heap.size w W) ⟨r3.set _ _ _ _, ?_, ?_⟩ ?_
          · have hnn : ∀ q, A3.map (·.block) = some q → q ≠ w.heap.size := fun q hq => by have := (ho3.lt q hq).1; omega
            exact own_other (own_other (ho3.mono (by omega)) _ _ _ hnn) _ _ _ hnn
          · exact (hb04.setCell (p := ⟨w.heap.size, 0, none⟩) (Nat.le_refl _) _).setCell (p := ⟨w.heap.size, 1, none⟩) (Nat.le_refl _) _
          · rintro W ⟨x, o, b⟩
            have e0 := x.c0
            have e1 := x.c1
            rw [ints_len, alpM, relM_len]
            exact bodyPost_ret (v := .tuple #[.agg #[.int .i64 (n : Int), .slice A3 n c3], .int .i64 0]) (by simp [results, Tryd.results24, go_sem, e0, e1]) rfl ⟨_, _, rfl, o, b⟩
    · exact absurd rfl h9
  · rw [alpAns_no a xs hz]
    have hne : (prCode a xs == 0) = false := by simpa using hz
    obtain ⟨C, hC⟩ : ∃ C, C = prCode a xs := ⟨_, rfl⟩
    have HC := Lib.hid hC
    have hz2 : ¬ C = 0 := by rw [hC]; exact hz
    rw [← hC] at hne ⊢
    clear hC hz hsz0
    go_enter Tryd.func24, Tryd.ntmps24
    go_wp2_with fail
    rw [← hwA]
    clear HB hwA
    refine (processesIn_any _ _ _ _ _ _ hh hwf hm).mono ?_
    rw [← HC.out]
    rintro e w1 (⟨h9, _⟩ | ⟨_, rfl, hb1⟩)
    · exact absurd h9 hz2
    · have r1 := r0.next hb1
      have y0 := r1.c0
      have y1 := r1.c1
      have f0 := r1.fr 0
      have f1 := r1.fr 1
      have HB1 := Lib.hid (HBA.out.trans (hb1.mono HBA.out.size))
      go_wp2
      refine ret_gen (fun W => Box 27 W w.heap.size 0 none 0 0 ∧ Below w.heap.size w W) ⟨r1.set _ _ _ _, (HB1.out.setCell (p := ⟨w.heap.size, 0, none⟩) (Nat.le_refl _) _).setCell (p := ⟨w.heap.size, 1, none⟩) (Nat.le_refl _) _⟩ ?_
      rintro W ⟨x, b⟩
      have e0 := x.c0
      have e1 := x.c1
      exact bodyPost_ret (v := .tuple #[.agg #[.int .i64 0, .slice none 0 0], .int .i64 C]) (by simp [results, Tryd.results24, go_sem, e0, e1]) rfl (AlPost.no C b)
set_option maxHeartbeats 3200000 in
theorem specAlphabetOfProcesses (a : Int) (A : Option Addr) (m c : Nat) (xs : List Int) (w : World) (ha1 : -9223372036854775808 ≤ a) (ha2 : a ≤ 9223372036854775807) (h : Rd w A m xs) (hwf : Wf xs) (hm : m ≤ 1048576) :
    Calls Tryd.prog 22 #[.int .i64 a, .slice A m c] w (AlPost w (alpAns a xs).1 (alpAns a xs).2.1.length (alpAns a xs).2.1 (alpAns a xs).2.2) := by
  have HB := Lib.hid (below1 w (.cells #[.int .i64 0, .slice none 0 0] 27))
  have hm2 : m ≤ 9223372036854775807 := by omega
  have hh := h.below HB.out
  have r0 := box_new 27 w 0 none 0 0
  have hsz0 := size1 w (.cells #[.int .i64 0, .slice none 0 0] 27)
  obtain ⟨wA, hwA⟩ : ∃ wA, wA = w.alloc (.cells #[.int .i64 0, .slice none 0 0] 27) := ⟨_, rfl⟩
  have HBA := Lib.hid (show Below w.heap.size w wA by rw [hwA]; exact HB.out)
  rw [← hwA] at hh r0 hsz0
  by_cases hz : prCode a xs = 0
  · obtain ⟨n, rfl, h8, hfull, h16⟩ := prCode_zero a xs hz
    obtain ⟨e1, hps⟩ := full_nats n xs hfull
    obtain ⟨ps, hpp⟩ : ∃ ps, ps = xs.map Int.toNat := ⟨_, rfl⟩
    rw [← hpp] at e1 hps
    subst e1
    have hlen : ps.length = m := by have := h.1; rw [ints_len] at this; exact this
    rw [ints_len, hlen] at h16
    rw [alpAns_yes n ps hz]
    have HL := Lib.hid hlen
    have HZ := Lib.hid hz
    have HSZ := Lib.hid hsz0
    clear hlen hz hpp hfull hsz0
    have h24 : n ≤ 24 := by omega
    have hn62 : n ≤ 62 := by omega
    go_enter Tryd.func22, Tryd.ntmps22
    go_wp2_with fail
    rw [← hwA]
    clear HB hwA
    refine (l02Processes_any _ _ _ _ _ _ hh hm2).mono ?_
    rintro e w1 ⟨rfl, hb1⟩
    rw [HZ.out]
    have hs1 : w.heap.size + 1 ≤ w1.heap.size := by have := hb1.size; have := HSZ.out; omega
    have HB1 := Lib.hid (HBA.out.trans (hb1.mono HBA.out.size))
    have r1 := r0.next hb1
    have hh1 := hh.below hb1
    go_wp2_with fail
    refine (free_any n _ hn62).mono ?_
    rintro e w2 ⟨A2, c2, rfl, ho2, hb2⟩
    have HLT := Lib.hid (fun q hq => ho2.lt q hq)
    have hs2 := hb2.size
    have r2 := r1.next hb2
    have k2 := below1 w2 (.cells #[.int .i64 (n : Int), .slice A2 n c2] 27)
    go_wp2_with fail
    go_loopw [8] (fun i wr => ∃ (k : Nat) (cs : List Nat), k ≤ m ∧ i = .int .i64 k ∧ Own 2 wr w1.heap.size A2 n c2 (ints cs) ∧ Box 27 wr w2.heap.size (n : Int) A2 n c2 ∧ Box 27 wr w.heap.size 0 none 0 0 ∧ Below w1.heap.size w1 wr ∧ AlSt cs n ps k (fun _ => False)) (fun i _ => m - (intOf i).toNat)
    case atStart => exact ⟨0, freeM n, Nat.zero_le _, rfl, ho2.below k2, box_new _ _ _ _ _ _, r2.next k2, hb2.trans (k2.mono hs2), alst_start ps n⟩
    case round =>
      clear ho2 r2 k2 r1
      obtain ⟨k, cs, hk, rfl, ho, y, r, hb9, hst⟩ := hrel
      have HST := Lib.hid hst
      clear hst
      by_cases hlt : k < m
      · have HI : Hid (AlSt cs n ps k (fun q => q < 0)) := Lib.hid (alst_iff HST.out (fun q _ _ => by simp))
        clear HST
        obtain ⟨wo, rfl⟩ : ∃ wo : World, wo = wr := ⟨_, rfl⟩
        go_wp2_with fail
        go_loopw [9] (fun i wr => ∃ (t : Nat) (cs : List Nat), t ≤ n ∧ i = .int .i64 t ∧ Own 2 wr w1.heap.size A2 n c2 (ints cs) ∧ Box 27 wr w2.heap.size (n : Int) A2 n c2 ∧ Box 27 wr w.heap.size 0 none 0 0 ∧ Below w1.heap.size w1 wr ∧ AlSt cs n ps k (fun q => q < t)) (fun i _ => n - (intOf i).toNat)
        case atStart => exact ⟨0, cs, Nat.zero_le _, rfl, ho, y, r, hb9, HI.out⟩
        case round =>
          clear ho y r hb9 HI
          obtain ⟨t, cs, ht, rfl, ho, y, r, hb9, hst⟩ := hrel
          have HST := Lib.hid hst
          clear hst
          have y1 := y.c1
          by_cases hlt2 : t < n
          · obtain ⟨b, off, v, rfl, hbs, hx, hcx⟩ := (hh1.below hb9).at_ hlt
            have hx2 := ints_getD ps k (by rw [HL.out]; exact hlt)
            rw [hx2] at hx
            injection hx with hx
            subst hx
            have hpk := hps k
            have hD63 : ps.getD k 0 < 9223372036854775808 := lt63 h24 hpk
            have ht62 : t ≤ 62 := by omega
            obtain ⟨D, hD⟩ : ∃ D, D = ps.getD k 0 := ⟨_, rfl⟩
            rw [← hD] at hcx hD63
            have HD := Lib.hid hD
            clear hx2 hD hpk
            cases hbt : D.testBit t
            · have HBT := Lib.hid hbt
              have HN : Hid (AlSt cs n ps k (fun q => q < t + 1)) := Lib.hid (alst_iff HST.out (fun q hq hR => by
                constructor
                · intro h; omega
                · intro h
                  by_cases e : q = t
                  · subst e; unfold R at hR; rw [← HD.out, hbt] at hR; cases hR
                  · omega))
              clear hbt HST
              go_wp2_with fail
              refine (bit_any D t hD63 ht62 _).mono ?_
              rintro e w' ⟨rfl, rfl⟩
              rw [HBT.out]
              go_wp2_with fail
              go_roundw
              case rel => exact ⟨t + 1, cs, by omega, by go_num, ho, y, r, hb9, HN.out⟩
              case measure => simp [intOf]; omega
            · have HBT := Lib.hid hbt
              clear hbt
              obtain ⟨g, rfl, hgB, hcell, hfr, hset⟩ := own_stored ho hlt2
              have HN : Hid (AlSt (cs.set t (cs.getD t 0 ||| D)) n ps k (fun q => q < t + 1)) := Lib.hid (by
                rw [HD.out]
                exact alst_iff (alst_yes HST.out hps hlt2 (by unfold R; rw [← HD.out]; exact HBT.out)) (fun q _ _ => by omega))
              have hS63 : cs.getD t 0 < 9223372036854775808 := lt63 h24 (HST.out.2.1 t)
              have hor := or63 (cs.getD t 0) D hS63 hD63
              have ho4 := hset (cs.getD t 0 ||| D)
              obtain ⟨S, hS⟩ : ∃ S, S = cs.getD t 0 := ⟨_, rfl⟩
              rw [← hS] at hcell hor ho4 HN hS63
              obtain ⟨Q, hQ⟩ : ∃ Q, Q = S ||| D := ⟨_, rfl⟩
              rw [← hQ] at hor ho4 HN
              clear hS hQ hset HST
              go_wp2_with fail
              refine (bit_any D t hD63 ht62 _).mono ?_
              rintro e w' ⟨rfl, rfl⟩
              rw [HBT.out]
              go_wp2_with fail
              go_still_tail 14, (by kernel_rfl)
              change wpList _ _ _ _ _ wr.drew
              have hq := HLT.out g rfl
              have hdw : Below wr.heap.size wr wr.drew := (Below.refl _ _).drew
              have hfr2 : wr.drew.frozen? ⟨g, t, none⟩ = false := hfr
              have hcell2 : wr.drew.cell? ⟨g, t, none⟩ = some (.int .i64 (S : Int)) := hcell
              have ho5 : Own 2 (wr.drew.setCell ⟨g, t, none⟩ (.int .i64 (Q : Int))) w1.heap.size (some ⟨g, 0, none⟩) n c2 (ints (cs.set t Q)) := ho4
              have y5 := (y.next hdw).other g t (.int .i64 (Q : Int)) (by omega)
              have r5 := (r.next hdw).other g t (.int .i64 (Q : Int)) (by omega)
              have hb5 := (hb9.drew).setCell (p := ⟨g, t, none⟩) hgB (.int .i64 (Q : Int))
              go_wp2_with fail
              go_roundw
              case rel => exact ⟨t + 1, cs.set t Q, by omega, by go_num, ho5, y5, r5, hb5, HN.out⟩
              case measure => simp [intOf]; omega
          · obtain rfl : t = n := by omega
            have HN : Hid (AlSt cs t ps (k + 1) (fun _ => False)) := Lib.hid (alst_next HST.out (fun q hq _ => hq))
            clear HST
            go_wp2_with fail
            go_roundw
            case rel => exact ⟨k + 1, cs, by omega, by go_num, ho, y, r, hb9, HN.out⟩
            case measure => simp [intOf]; omega
      · obtain rfl : k = m := by omega
        have f0 := r.fr 0
        have f1 := r.fr 1
        have z0 := r.c0
        have z1 := r.c1
        have y0 := y.c0
        have y1 := y.c1
        go_wp2
        refine ret_gen (fun W => Box 27 W w.heap.size (n : Int) A2 n c2 ∧ Own 2 W w.heap.size A2 n c2 (ints (alpM ps n)) ∧ Below w.heap.size w W) ⟨r.set _ _ _ _, ?_, ?_⟩ ?_
        · have hnn : ∀ q, A2.map (·.block) = some q → q ≠ w.heap.size := fun q hq => by have := (HLT.out q hq).1; omega
          have e9 : cs = alpM ps n := alst_end (by rw [HL.out]; exact HST.out)
          rw [e9] at ho
          exact own_other (own_other (ho.mono (by omega)) _ _ _ hnn) _ _ _ hnn
        · exact ((HB1.out.trans (hb9.mono HB1.out.size)).setCell (p := ⟨w.heap.size, 0, none⟩) (Nat.le_refl _) _).setCell (p := ⟨w.heap.size, 1, none⟩) (Nat.le_refl _) _
        · rintro W ⟨x, o, b⟩
          have e0 := x.c0
          have e1 := x.c1
          rw [ints_len, alpM, relM_len]
          exact bodyPost_ret (v := .tuple #[.agg #[.int .i64 (n : Int), .slice A2 n c2], .int .i64 0]) (by simp [results, Tryd.results22, go_sem, e0, e1]) rfl ⟨_, _, rfl, o, b⟩
  · rw [alpAns_no a xs hz]
    have hne : (prCode a xs == 0) = false := by simpa using hz
    obtain ⟨C, hC⟩ : ∃ C, C = prCode a xs := ⟨_, rfl⟩
    have HC := Lib.hid hC
    have hz2 : ¬ C = 0 := by rw [hC]; exact hz
    rw [← hC] at hne ⊢
    clear hC hz hsz0
    go_enter Tryd.func22, Tryd.ntmps22
    go_wp2_with fail
    rw [← hwA]
    clear HB hwA
    refine (l02Processes_any _ _ _ _ _ _ hh hm2).mono ?_
    rintro e w1 ⟨rfl, hb1⟩
    rw [← HC.out]
    have r1 := r0.next hb1
    have y0 := r1.c0
    have y1 := r1.c1
    have f0 := r1.fr 0
    have f1 := r1.fr 1
    have HB1 := Lib.hid (HBA.out.trans (hb1.mono HBA.out.size))
    go_wp2
    refine ret_gen (fun W => Box 27 W w.heap.size 0 none 0 0 ∧ Below w.heap.size w W) ⟨r1.set _ _ _ _, (HB1.out.setCell (p := ⟨w.heap.size, 0, none⟩) (Nat.le_refl _) _).setCell (p := ⟨w.heap.size, 1, none⟩) (Nat.le_refl _) _⟩ ?_
    rintro W ⟨x, b⟩
    have e0 := x.c0
    have e1 := x.c1
    exact bodyPost_ret (v := .tuple #[.agg #[.int .i64 0, .slice none 0 0], .int .i64 C]) (by simp [results, Tryd.results22, go_sem, e0, e1]) rfl (AlPost.no C b)
end Go.Proofs.YtbjkpkgnjeaimaaDoor
