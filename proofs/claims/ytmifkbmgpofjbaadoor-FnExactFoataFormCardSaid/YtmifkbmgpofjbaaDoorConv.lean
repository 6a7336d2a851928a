/-
  The converse of a relation: the model's way and the program's, by contracts.
-/
import Derived.Test.YtmifkbmgpofjbaaDoorMem
namespace Go.Proofs.YtmifkbmgpofjbaaDoor
open Go.RowKit
set_option linter.unusedVariables false
set_option maxRecDepth 100000

theorem bitsOf_mem (m a : Nat) : a ∈ bitsOf m ↔ a < 24 ∧ m.testBit a = true := by
  unfold bitsOf upTo; rw [List.mem_filter, List.mem_range]
theorem getD_range_map (f : Nat → Nat) (n i : Nat) (h : i < n) : ((List.range n).map f).getD i 0 = f i := by
  rw [List.getD_eq_getElem?_getD]; simp [h]
theorem getD_past (cs : List Nat) (n i : Nat) (hl : cs.length = n) (h : n ≤ i) : cs.getD i 0 = 0 := by
  rw [List.getD_eq_getElem?_getD, List.getElem?_eq_none (by omega)]; rfl
/-- Two lists of masks of n elements with the same bits are one. -/
theorem masks_eq (cs ds : List Nat) (n : Nat) (hc : cs.length = n) (hd : ds.length = n) (hcl : ∀ i, cs.getD i 0 < 2 ^ n) (hdl : ∀ i, ds.getD i 0 < 2 ^ n)
    (h : ∀ i k, i < n → k < n → ((cs.getD i 0).testBit k = true ↔ (ds.getD i 0).testBit k = true)) : cs = ds := by
  apply List.ext_getElem?
  intro i
  by_cases hi : i < n
  · have e1 : cs[i]? = some (cs.getD i 0) := by rw [List.getD_eq_getElem?_getD, List.getElem?_eq_getElem (by omega)]; rfl
    have e2 : ds[i]? = some (ds.getD i 0) := by rw [List.getD_eq_getElem?_getD, List.getElem?_eq_getElem (by omega)]; rfl
    rw [e1, e2]
    congr 1
    exact nat_ext (hcl i) (hdl i) fun k hk => h i k hi hk
  · rw [List.getElem?_eq_none (by omega), List.getElem?_eq_none (by omega)]
/-- The set of the first t elements to which k is related from. -/
def colM (rs : List Nat) (k : Nat) : Nat → Nat
  | 0 => 0
  | i + 1 => if (rs.getD i 0).testBit k = true then colM rs k i ||| 2 ^ i else colM rs k i
theorem colM_bit (rs : List Nat) (k t b : Nat) : (colM rs k t).testBit b = true ↔ b < t ∧ R rs b k := by
  induction t with
  | zero => simp [colM]
  | succ t ih =>
    unfold colM
    by_cases h : (rs.getD t 0).testBit k = true
    · rw [if_pos h, Nat.testBit_or, Bool.or_eq_true, ih, p2_bit]
      constructor
      · rintro (⟨h1, h2⟩ | rfl)
        · exact ⟨by omega, h2⟩
        · exact ⟨by omega, h⟩
      · rintro ⟨h1, h2⟩
        by_cases e : t = b
        · exact .inr e
        · exact .inl ⟨by omega, h2⟩
    · rw [if_neg h, ih]
      constructor
      · rintro ⟨h1, h2⟩; exact ⟨by omega, h2⟩
      · rintro ⟨h1, h2⟩
        by_cases e : t = b
        · subst e; exact absurd h2 h
        · exact ⟨by omega, h2⟩
theorem colM_lt (rs : List Nat) (k t n : Nat) (h : t ≤ n) : colM rs k t < 2 ^ n := by
  induction t with
  | zero => exact p2_pos n
  | succ t ih =>
    unfold colM
    split
    · exact Nat.or_lt_two_pow (ih (by omega)) (Nat.pow_lt_pow_right (by decide) (by omega))
    · exact ih (by omega)
def convM (rs : List Nat) : List Nat := (List.range rs.length).map fun k => colM rs k rs.length
theorem convM_len (rs : List Nat) : (convM rs).length = rs.length := by simp [convM]
theorem convM_at (rs : List Nat) (i : Nat) (h : i < rs.length) : (convM rs).getD i 0 = colM rs i rs.length := getD_range_map _ _ _ h
theorem convM_lt (rs : List Nat) (n : Nat) (hn : rs.length = n) (i : Nat) : (convM rs).getD i 0 < 2 ^ n := by
  rcases Nat.lt_or_ge i n with h | h
  · rw [convM_at rs i (by omega), hn]; exact colM_lt rs i n n (Nat.le_refl _)
  · rw [getD_past _ n i (by rw [convM_len, hn]) h]; exact p2_pos n

theorem own_made {w w1 : World} {E n : Nat} (hown0 : w1.ownsRow w.heap.size E 1 (.slice (some ⟨w.heap.size, 0, none⟩) n n) n (madeCells (Value.int .i64 0).cells (n * 1)).toList) :
    Own E w1 w.heap.size (some ⟨w.heap.size, 0, none⟩) n n (ints (List.replicate n 0)) := by
  unfold Own
  have e : ints (List.replicate n 0) = List.replicate n (0 : Int) := by simp [ints]
  rw [e, ← made_int]; exact hown0
theorem replicate_getD (n i : Nat) : (List.replicate n (0 : Nat)).getD i 0 = 0 := by
  rw [List.getD_eq_getElem?_getD, List.getElem?_replicate]
  split <;> rfl
theorem conv_step (rs cs : List Nat) (n i : Nat) (ms : List Nat) (t a : Nat) (hl : cs.length = n) (ha : a < n) (hi : i < n) (hc : ∀ q, cs.getD q 0 < 2 ^ n) (hm : ms[t]? = some a)
    (hb : ∀ q b, ((cs.getD q 0).testBit b = true ↔ (b < i ∧ R rs b q) ∨ (b = i ∧ q ∈ ms.take t))) :
    (∀ q, (cs.set a (cs.getD a 0 ||| 2 ^ i)).getD q 0 < 2 ^ n) ∧ ∀ q b, (((cs.set a (cs.getD a 0 ||| 2 ^ i)).getD q 0).testBit b = true ↔ (b < i ∧ R rs b q) ∨ (b = i ∧ q ∈ ms.take (t + 1))) := by
  have hmem : ∀ q, q ∈ ms.take (t + 1) ↔ q ∈ ms.take t ∨ q = a := by
    intro q
    rw [List.take_add_one, hm, List.mem_append]; simp
  constructor
  · intro q
    rw [getD_set cs a _ q (by omega)]
    split
    · exact Nat.or_lt_two_pow (hc a) (Nat.pow_lt_pow_right (by decide) hi)
    · exact hc q
  · intro q b
    rw [getD_set cs a _ q (by omega), hmem]
    by_cases e : q = a
    · subst e
      rw [if_pos rfl, Nat.testBit_or, Bool.or_eq_true, hb, p2_bit]
      constructor
      · rintro ((h | ⟨h1, h2⟩) | h)
        · exact .inl h
        · exact .inr ⟨h1, .inl h2⟩
        · exact .inr ⟨h.symm, .inr rfl⟩
      · rintro (h | ⟨h1, _⟩)
        · exact .inl (.inl h)
        · exact .inr h1.symm
    · rw [if_neg e, hb]
      constructor
      · rintro (h | ⟨h1, h2⟩)
        · exact .inl h
        · exact .inr ⟨h1, .inl h2⟩
      · rintro (h | ⟨h1, h2 | h2⟩)
        · exact .inl h
        · exact .inr ⟨h1, h2⟩
        · exact absurd h2 e
set_option maxHeartbeats 1600000 in
theorem converse_any (A : Option Addr) (n c : Nat) (rs : List Nat) (w : World) (h : Rd w A n (ints rs)) (hn : n ≤ 24) (hr : ∀ i, rs.getD i 0 < 2 ^ n) (hT : Tab w) :
    Calls Tryd.prog 111 #[.slice A n c] w (MakesE 70 w n (ints (convM rs))) := by
  have hlen : rs.length = n := by have := h.1; rw [ints_len] at this; exact this
  have HL := Lib.hid hlen
  clear hlen
  obtain ⟨i0, hi, hz0, hz1, hz2⟩ := info_parts info_set
  have hml : n ≤ maxLen := by unfold maxLen; omega
  have hby : i0.bytes * n ≤ 281474976710656 := by rw [hz2]; omega
  go_enter Tryd.func111, Tryd.ntmps111
  go_wp2_with (first | (at_make; refine wpList_make_full _ rfl _ _ _ rfl w.heap.size 70 i0 (.int .i64 0) 1 Tryd.underlying48 hi hz0 hz1 _ _ (n : Int) (n : Int) n rfl rfl rfl rfl hby hml (Nat.le_refl _) ?_; intro w1 hown0 hg1))
  have hown := own_made hown0
  clear hown0
  have hb1 : Below w.heap.size w w1 := (Below.refl _ _).grown hg1 (Nat.le_refl _) (by simp)
  clear hg1
  go_loopw [13] (fun i wr => ∃ (k : Nat) (cs : List Nat), k ≤ n ∧ i = .int .i64 k ∧ cs.length = n ∧ Own 70 wr w.heap.size (some ⟨w.heap.size, 0, none⟩) n n (ints cs) ∧ Below w.heap.size w wr ∧ (∀ i, cs.getD i 0 < 2 ^ n) ∧ (∀ i b, ((cs.getD i 0).testBit b = true ↔ b < k ∧ R rs b i))) (fun i _ => n - (intOf i).toNat)
  case atStart => exact ⟨0, List.replicate n 0, Nat.zero_le _, rfl, List.length_replicate, hown, hb1, fun i => by rw [replicate_getD]; exact p2_pos n, fun i b => by rw [replicate_getD]; simp⟩
  case round =>
    clear hown hb1
    obtain ⟨k, cs, hk, rfl, hcl, ho, hb, hcb, hcw⟩ := hrel
    have HC := Lib.hid hcl
    have HW := Lib.hid hcw
    clear hcl hcw
    by_cases hlt : k < n
    · obtain ⟨b, off, x, rfl, hbs, hx, hcx⟩ := (h.below hb).at_ hlt
      have hx2 := ints_getD rs k (by rw [HL.out]; exact hlt)
      rw [hx2] at hx
      injection hx with hx
      subst hx
      have hm := hr k
      have hm24 : rs.getD k 0 < 16777216 := by have := p24 n hn; omega
      obtain ⟨D, hD⟩ : ∃ D, D = rs.getD k 0 := ⟨_, rfl⟩
      rw [← hD] at hcx hm hm24
      have HD := Lib.hid hD
      have hT1 := hT.below hb
      have hgs := (ho.lt _ rfl).2
      have hblen := bitsOf_len D
      clear hD hx2
      obtain ⟨wo, rfl⟩ : ∃ wo : World, wo = wr := ⟨_, rfl⟩
      go_wp2_with fail
      refine (members_any D hm24 _ hT1).mono ?_
      rintro e w2 ⟨A2, c2, rfl, ho2, hb2⟩
      have hbb := hb.trans (hb2.mono hb.size)
      have hoo := ho.below hb2
      obtain ⟨ms, hms⟩ : ∃ ms, ms = bitsOf D := ⟨_, rfl⟩
      rw [← hms] at ho2 hblen ⊢
      have HMS := Lib.hid hms
      have HI : Hid (∀ q b, ((cs.getD q 0).testBit b = true ↔ (b < k ∧ R rs b q) ∨ (b = k ∧ q ∈ ms.take 0))) := Lib.hid (fun q b => by rw [HW.out]; simp)
      clear hms HW ho hb
      go_wp2
      go_loopw [21] (fun i wr => ∃ (t : Nat) (cs : List Nat), t ≤ ms.length ∧ i = .int .i64 t ∧ cs.length = n ∧ Own 70 wr w.heap.size (some ⟨w.heap.size, 0, none⟩) n n (ints cs) ∧ Own 2 wr wo.heap.size A2 ms.length c2 (ints ms) ∧ Below w.heap.size w wr ∧ (∀ i, cs.getD i 0 < 2 ^ n) ∧ (∀ q b, ((cs.getD q 0).testBit b = true ↔ (b < k ∧ R rs b q) ∨ (b = k ∧ q ∈ ms.take t)))) (fun i _ => ms.length - (intOf i).toNat)
      case atStart => exact ⟨0, cs, Nat.zero_le _, rfl, HC.out, hoo, ho2, hbb, hcb, HI.out⟩
      case round =>
        clear hoo hbb hcb HC HI ho2
        obtain ⟨t, cs, ht, rfl, hcl, ho, ho2, hb, hcb, hcw⟩ := hrel
        have HC := Lib.hid hcl
        have HW := Lib.hid hcw
        clear hcl hcw
        by_cases hlt2 : t < ms.length
        · obtain ⟨b2, off2, x2, rfl, hbs2, hx2, hcx2⟩ := ho2.rd.at_ hlt2
          have hma : ms[t]? = some (ms.getD t 0) := by rw [List.getD_eq_getElem?_getD, List.getElem?_eq_getElem hlt2]; rfl
          have hx3 := ints_at hma
          rw [hx3] at hx2
          injection hx2 with hx2
          subst hx2
          obtain ⟨a, haa⟩ : ∃ a, a = ms.getD t 0 := ⟨_, rfl⟩
          rw [← haa] at hma hcx2
          have hmem : a ∈ bitsOf D := by rw [← HMS.out]; exact List.mem_of_getElem? hma
          have han : a < n := bit_lt hm ((bitsOf_mem D a).1 hmem).2
          have hk62 : k ≤ 62 := by omega
          obtain ⟨g, hgg, hgB, hcell, hfr, hset⟩ := own_stored ho han
          injection hgg with hgg
          injection hgg with hgg _ _
          subst hgg
          have hst := Lib.hid (conv_step rs cs n k ms t a HC.out han hlt hcb hma HW.out)
          have hm2 := lt63 hn (hcb a)
          have ho4 := hset (cs.getD a 0 ||| 2 ^ k)
          have hb4 := hb.setCell (p := ⟨w.heap.size, a, none⟩) (Nat.le_refl _) (.int .i64 ((cs.getD a 0 ||| 2 ^ k : Nat) : Int))
          have ho24 := ho2.apart (grown_set (World.grownBy.refl wr (some w.heap.size)) a (.int .i64 ((cs.getD a 0 ||| 2 ^ k : Nat) : Int))) (fun q hq e => by have := (ho2.lt q hq).1; injection e with e; omega)
          obtain ⟨S, hS⟩ : ∃ S, S = cs.getD a 0 := ⟨_, rfl⟩
          rw [← hS] at hcell hst hm2 ho4 hb4 ho24
          have HMA := Lib.hid hma
          clear hS haa hma hx3 hset
          go_wp2_with (go_at_call 80; refine (with_any _ _ hm2 hk62 _).mono ?_; rintro e w' ⟨rfl, rfl⟩)
          go_roundw
          case rel => exact ⟨t + 1, cs.set a (S ||| 2 ^ k), by omega, by go_num, by rw [List.length_set]; exact HC.out, ho4, ho24, hb4, hst.out.1, hst.out.2⟩
          case measure => simp [intOf]; omega
        · obtain rfl : t = ms.length := by omega
          have HW2 : Hid (∀ i b, ((cs.getD i 0).testBit b = true ↔ b < k + 1 ∧ R rs b i)) := Lib.hid (fun i b => by
            rw [HW.out, List.take_of_length_le (Nat.le_refl _), HMS.out, bitsOf_mem]
            constructor
            · rintro (⟨h1, h2⟩ | ⟨h1, h2, h3⟩)
              · exact ⟨by omega, h2⟩
              · subst h1; exact ⟨by omega, by unfold R; rw [← HD.out]; exact h3⟩
            · rintro ⟨h1, h2⟩
              by_cases e : b = k
              · subst e
                unfold R at h2
                rw [← HD.out] at h2
                exact .inr ⟨rfl, by have := bit_lt hm h2; omega, h2⟩
              · exact .inl ⟨by omega, h2⟩)
          clear HW
          go_wp2
          go_roundw
          case rel => exact ⟨k + 1, cs, by omega, by go_num, HC.out, ho, hb, hcb, HW2.out⟩
          case measure => simp [intOf]; omega
    · obtain rfl : k = n := by omega
      go_wp2
      go_ret
      refine ⟨_, _, rfl, ?_, hb⟩
      rw [← masks_eq cs (convM rs) k HC.out (by rw [convM_len, HL.out]) hcb (convM_lt rs k HL.out) (fun i b hi hb => by rw [HW.out i b, convM_at rs i (by rw [HL.out]; exact hi), colM_bit, HL.out])]
      exact ho

/-- A list for a relation, else ErrInvalid. -/
def ansR (f : List Nat → List Nat) (xs : List Int) : List Int × Int := if relB xs = true then (ints (f (xs.map Int.toNat)), 0) else ([], 1)
theorem ansR_no (f : List Nat → List Nat) (xs : List Int) (h : relB xs = false) : ansR f xs = ([], 1) := by unfold ansR; rw [if_neg (by rw [h]; decide)]
theorem ansR_yes (f : List Nat → List Nat) (xs : List Int) (n : Nat) (hl : xs.length = n) (h : relB xs = true) :
    ∃ rs, xs = ints rs ∧ n ≤ 24 ∧ (∀ i, rs.getD i 0 < 2 ^ n) ∧ relB (ints rs) = true ∧ ansR f xs = (ints (f rs), 0) := by
  obtain ⟨h1, h2⟩ := clos_nats xs h
  have h3 := relB_len xs h
  subst hl
  exact ⟨_, h1, h3, h2, by rw [← h1]; exact h, by unfold ansR; rw [if_pos h]⟩
theorem ansR_small (f : List Nat → List Nat) (b : Nat) (hf : ∀ rs, rs.length ≤ 24 → (f rs).length ≤ b) (xs : List Int) : (ansR f xs).1.length ≤ b := by
  unfold ansR
  split
  · rename_i h
    show (ints _).length ≤ b
    rw [ints_len]; exact hf _ (by rw [List.length_map]; exact relB_len xs h)
  · exact Nat.zero_le _
def convAns (xs : List Int) : List Int × Int := ansR convM xs
theorem convAns_small (xs : List Int) : (convAns xs).1.length ≤ 24 := ansR_small convM 24 (fun rs h => by rw [convM_len]; exact h) xs
end Go.Proofs.YtmifkbmgpofjbaaDoor
