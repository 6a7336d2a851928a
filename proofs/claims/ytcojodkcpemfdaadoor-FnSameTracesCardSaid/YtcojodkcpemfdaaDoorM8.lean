/-
  The model's shuffle of a word by its source: some word with as many letters of the alphabet, by contracts. DrawAreSameTrace: some alphabet and two lists, by contract.
-/
import Derived.Test.YtcojodkcpemfdaaDoorM7
import Derived.Test.YtcojodkcpemfdaaDoorM3
namespace Go.Proofs.YtcojodkcpemfdaaDoor
open Go Go.RowKit
set_option linter.unusedVariables false
set_option maxRecDepth 100000

theorem turn_hit (n f v : Nat) (hf : f < n) (hv : v < n) : ∃ j, j < n ∧ (f + j) % n = v := by
  rcases Nat.lt_or_ge v f with h | h
  · refine ⟨v + n - f, by omega, ?_⟩
    rw [show f + (v + n - f) = v + n by omega, Nat.add_mod_right]
    exact Nat.mod_eq_of_lt hv
  · refine ⟨v - f, by omega, ?_⟩
    rw [show f + (v - f) = v by omega]
    exact Nat.mod_eq_of_lt hv
/-- Some word of k letters. -/
def ShPost (w : World) (B g : Nat) (A : Option Addr) (n c : Nat) (bs : List Int) (N m : Nat) (e : Ending) (w' : World) : Prop :=
  ∃ (c2 : Nat) (A2 : Option Addr) (vs : List Nat), vs.length = m ∧ (∀ x, x ∈ vs → x < N) ∧ e = .returned (.slice A2 m c2) ∧ Own 2 w' w.heap.size A2 m c2 (ints vs) ∧ Sou w' B g A n c bs ∧ w.grownBy w' (some g)
set_option maxHeartbeats 3200000 in
theorem shuffle_any (B g : Nat) (A : Option Addr) (n c : Nat) (bs : List Int) (A1 B1 : Option Addr) (N c1 m d : Nat) (rs us : List Nat) (w : World) (h : Sou w B g A n c bs) (hwf : WfB bs) (hn : n ≤ 4096) (h1 : Rd w A1 N (ints rs)) (hA1 : ∀ q, A1.map (·.block) = some q → q ≠ g) (hN : N ≤ 24) (hr : ∀ i, rs.getD i 0 < 2 ^ N) (h2 : Rd w B1 m (ints us)) (hm : m ≤ 24) (hus : ∀ x, x ∈ us → x < N) :
    Calls Tryd.prog 107 #[.pointer (some ⟨g, 0, none⟩), .agg #[.int .i64 (N : Int), .slice A1 N c1], .slice B1 m d] w (ShPost w B g A n c bs N m) := by
  obtain ⟨i0, hi, hz0, hz1, hz2⟩ := info_parts info_int
  have hgl := h.lt
  have hlen : us.length = m := by have := h2.1; rw [ints_len] at this; exact this
  have HR := Lib.hid hr
  have HLEN := Lib.hid hlen
  have HUS := Lib.hid hus
  have HA1 := Lib.hid hA1
  have HALT : Hid (∀ q, 0 < N → A1.map (·.block) = some q → q < w.heap.size) := Lib.hid (fun q hq0 hq => by
    obtain ⟨b, off, e, hb, _⟩ := h1.2 hq0
    rw [e] at hq
    have h9 : b = q := by simpa using hq
    omega)
  clear hlen hr hus hA1
  have x0 := box_new 29 w (N : Int) A1 N c1
  have hb0 : Below w.heap.size w (w.alloc (.cells #[.int .i64 (N : Int), .slice A1 N c1] 29)) := below1 w _
  have hsz0 := size1 w (.cells #[.int .i64 (N : Int), .slice A1 N c1] 29)
  obtain ⟨W1, hW1⟩ : ∃ W1, w.alloc (.cells #[.int .i64 (N : Int), .slice A1 N c1] 29) = W1 := ⟨_, rfl⟩
  rw [hW1] at x0 hb0 hsz0
  have hlt0 : w.heap.size < W1.heap.size := by omega
  clear hsz0
  have h21 := h2.below hb0
  have h11 := h1.below hb0
  have s1 := h.below hb0
  have HBg := Lib.hid h.1
  have HOWN : Hid (∀ ww : World, Below W1.heap.size W1 ww → Calls Tryd.prog 104 #[.slice B1 m d] ww (MakesE 2 ww m (ints us))) := Lib.hid fun ww hw => own_any _ _ _ _ ww (h21.below hw) (by omega)
  have HNX : Hid (∀ (ww : World) (k : Nat), Sou ww B g A n c bs → 1 ≤ k → k ≤ 1000 → Calls Tryd.prog 106 #[.pointer (some ⟨g, 0, none⟩), .int .i64 (k : Int)] ww fun e w' => ∃ r : Nat, r < k ∧ e = .returned (.int .i64 (r : Int)) ∧ Sou w' B g A n c bs ∧ ww.grownBy w' (some g)) := Lib.hid (fun ww k a1 a2 a3 => l01Next_any B g A n c k bs ww a1 hwf hn a2 (by omega))
  clear h h1 h2
  go_enter Tryd.func107, Tryd.ntmps107
  go_wp2_with fail
  refine (HOWN.out _ ((Below.refl _ W1).alloc (Nat.le_refl _) _)).mono ?_
  rintro e w3 ⟨A3, c3, rfl, ho3, hb3⟩
  have hb13 : Below W1.heap.size W1 w3 := ((Below.refl _ W1).alloc (Nat.le_refl _) _).trans (hb3.mono (by simp))
  have hor : Own 2 w3 W1.heap.size A3 m c3 (ints us) := ho3.mono (by simp)
  have hoo : Own 2 w3 W1.heap.size (some ⟨W1.heap.size, 0, none⟩) 0 0 (ints []) := Own.below (show Own 2 (W1.alloc (.cells #[] 2)) W1.heap.size (some ⟨W1.heap.size, 0, none⟩) 0 0 (ints []) from World.ownsRow_lit W1 #[] 0 (Nat.le_refl _) (by unfold maxLen; omega) rfl) hb3
  have hap : ∀ q, (some (⟨W1.heap.size, 0, none⟩ : Addr)).map (·.block) = some q → A3.map (·.block) ≠ some q := fun q hq e => by
    have h1 := (ho3.lt q e).1
    cases hq
    simp at h1
    omega
  have s3 := s1.below hb13
  have x3 := x0.next hb13
  have h13 := h11.below hb13
  have G3 : Hid (W1.grownBy w3 (some g)) := Lib.hid (gr_of hb13)
  clear HOWN h21 hb3 ho3 x0 s1 hb13 h11
  go_wp2_with fail
  go_loopw [7, 8] (fun p q wr => ∃ (k : Nat) (pre vs : List Nat) (Ao Ar : Option Addr) (co cr : Nat), p = .slice Ao pre.length co ∧ q = .slice Ar k cr ∧ vs.length = k ∧ pre.length + k = m ∧ Own 2 wr W1.heap.size Ao pre.length co (ints pre) ∧ Own 2 wr W1.heap.size Ar k cr (ints vs) ∧ (∀ q, Ao.map (·.block) = some q → Ar.map (·.block) ≠ some q) ∧ Box 29 wr w.heap.size (N : Int) A1 N c1 ∧ Rd wr A1 N (ints rs) ∧ Sou wr B g A n c bs ∧ W1.grownBy wr (some g) ∧ (∀ x, x ∈ pre → x < N) ∧ (∀ x, x ∈ vs → x < N)) (fun _ q _ => sliceLen q)
  case atStart => exact ⟨m, [], us, _, A3, 0, c3, rfl, rfl, HLEN.out, by simp, hoo, hor, hap, x3, h13, s3, G3.out, (fun x hx => by cases hx), HUS.out⟩
  case round =>
    clear hoo hor hap x3 h13 s3 G3
    obtain ⟨k, pre, vs, Ao, Ar, co, cr, rfl, rfl, hvl, hpk, hoo, hor, hap, hx, hra, hs, hgr, hpn, hvn⟩ := hrel
    have HVL := Lib.hid hvl
    have HPK := Lib.hid hpk
    have HPN := Lib.hid hpn
    have HVN := Lib.hid hvn
    have HGR := Lib.hid hgr
    have hW1wr := hgr.size
    obtain ⟨pl, hpl⟩ : ∃ pl, pl = pre.length := ⟨_, rfl⟩
    rw [← hpl] at hoo HPK ⊢
    have HPL := Lib.hid hpl
    clear hvl hpk hpn hvn hpl hgr
    by_cases hk0 : 0 < k
    · have HV0 : Hid (∃ v0, v0 < N ∧ freeB (RDep rs) vs v0 = true) := Lib.hid (by
        cases hvs : vs with
        | nil => have := HVL.out; rw [hvs] at this; simp at this; omega
        | cons v0 us' => exact ⟨v0, HVN.out v0 (by rw [hvs]; exact List.mem_cons_self), free_head _ _ _⟩)
      have hn0 : 0 < N := by obtain ⟨v0, h1, _⟩ := HV0.out; omega
      have HC := Lib.hid (HNX.out wr N hs (by omega) (by omega))
      have y0 := hx.c0
      have hk0' : ((k : Int) > 0) := by omega
      go_wp2_with fail
      refine HC.out.mono ?_
      rintro e w4 ⟨f, hf, rfl, s4, g4⟩
      have hlo := hoo.lt
      have hlr := hor.lt
      have sz4 := g4.size
      have x4 := hx.apart g4 (fun e => by injection e with e; omega)
      have r4 := hra.apartD g4 (fun q _ hq e => by injection e with e; exact HA1.out q hq e.symm)
      have oo4 := hoo.apart g4 (fun q hq e => by injection e with e; have := hlo q hq; omega)
      have or4 := hor.apart g4 (fun q hq e => by injection e with e; have := hlr q hq; omega)
      have G4 : Hid (W1.grownBy w4 (some g)) := Lib.hid (gr_trans HGR.out g4)
      clear HC y0 hx hra hs HGR g4 hoo hor
      obtain ⟨gr, rfl, _⟩ := or4.form hk0
      have hrd := or4.rd
      have HCAP := Lib.hid (own_cap or4)
      have hap2 : ∀ q, Ao.map (·.block) = some q → gr ≠ q := fun q hq e => hap q hq (by rw [← e]; rfl)
      have HAP := Lib.hid hap2
      clear hap hap2
      go_wp2_with fail
      go_loopw [7, 8, 10] (fun p7 p8 q wx => ∃ j, p7 = .slice Ao pl co ∧ p8 = .slice (some ⟨gr, 0, none⟩) k cr ∧ j < N ∧ q = .int .i64 ((j : Nat) : Int) ∧ (∀ b, b < j → freeB (RDep rs) vs ((f + b) % N) = false) ∧ Below w4.heap.size w4 wx) (fun _ _ q _ => N - (intOf q).toNat)
      case atStart => exact ⟨0, rfl, rfl, hn0, rfl, fun b hb9 => absurd hb9 (by omega), Below.refl _ _⟩
      case round =>
        obtain ⟨j, rfl, rfl, hjn, rfl, hnf, hbx⟩ := hrel
        have HNO := Lib.hid hnf
        clear hnf
        obtain ⟨a, hae⟩ : ∃ a, a = (f + j) % N := ⟨_, rfl⟩
        have han : a < N := by rw [hae]; exact Nat.mod_lt _ hn0
        have HAE := Lib.hid hae
        have hw1 : IntKind.i64.wrap ((f : Int) + (j : Int)) = ((f + j : Nat) : Int) := by rw [IntWalk.i64_in _ (by omega)]; omega
        have hmod : ((f + j : Nat) : Int).tmod (N : Int) = (a : Int) := by rw [hae, Int.tmod_eq_emod_of_nonneg (by omega)]; first | exact (Int.natCast_emod _ _).symm | exact (Int.ofNat_emod _ _).symm | rfl
        have hmod2 : ((f : Int) + (j : Int)).tmod (N : Int) = (a : Int) := by rw [← hmod]; congr 1
        clear hae
        have hxx := x4.next hbx
        have y0 := hxx.c0
        have y1 := hxx.c1
        have hFI := l03First_any (N : Int) A1 (some ⟨gr, 0, none⟩) N c1 k cr a rs vs wr (r4.below hbx) hN HR.out (hrd.below hbx) (by have := HPK.out; omega) (fun p hp => HVN.out _ (by rw [List.getD_eq_getElem?_getD, List.getElem?_eq_getElem (by rw [HVL.out]; exact hp)]; exact List.getElem_mem _)) han
        have hN0 : ¬ ((N : Int) = 0) := by omega
        cases hfree : freeB (RDep rs) vs a
        · have hfi : firstI (RDep rs) vs a = -1 := by unfold firstI; rw [hfree]; rfl
          rw [hfi] at hFI
          have HFI := Lib.hid hFI
          have HNXT : Hid (j + 1 < N ∧ ∀ b, b < j + 1 → freeB (RDep rs) vs ((f + b) % N) = false) := Lib.hid (by
            have hall : ∀ b, b < j + 1 → freeB (RDep rs) vs ((f + b) % N) = false := fun b hb9 => by
              by_cases e9 : b = j
              · rw [e9, ← HAE.out]; exact hfree
              · exact HNO.out b (by omega)
            refine ⟨?_, hall⟩
            obtain ⟨v0, h1, h2⟩ := HV0.out
            obtain ⟨b, hb1, hb2⟩ := turn_hit N f v0 hf h1
            rcases Nat.lt_or_ge (j + 1) N with h3 | h3
            · exact h3
            · have := hall b (by omega); rw [hb2, h2] at this; cases this)
          clear hFI hfi hfree
          go_wp2_with fail
          refine HFI.out.mono ?_
          rintro e w5 ⟨rfl, hb5⟩
          go_wp2_with fail
          go_roundw
          case rel => exact ⟨j + 1, rfl, rfl, HNXT.out.1, by go_num, HNXT.out.2, hbx.trans (hb5.mono hbx.size)⟩
          case measure => simp [intOf]; omega
        · have hmem := free_mem (RDep rs) a vs hfree
          have hidx : vs.idxOf a < k := by rw [← HVL.out]; exact List.idxOf_lt_length_of_mem hmem
          have hfi : firstI (RDep rs) vs a = ((vs.idxOf a : Nat) : Int) := by unfold firstI; rw [hfree]; rfl
          rw [hfi] at hFI
          have HER := Lib.hid (erase_idx vs a hmem)
          have HLE : Hid ((vs.erase a).length = k - 1) := Lib.hid (by rw [List.length_erase_of_mem hmem, HVL.out])
          obtain ⟨q, hq⟩ : ∃ q, q = vs.idxOf a := ⟨_, rfl⟩
          rw [← hq] at hidx hFI HER
          have HFI := Lib.hid hFI
          clear hFI hfi hfree hmem hq
          go_wp2_with fail
          refine HFI.out.mono ?_
          rintro e w5 ⟨rfl, hb5⟩
          have hb45 : Below w4.heap.size w4 w5 := hbx.trans (hb5.mono hbx.size)
          have hoo4 := oo4.below hb45
          have hor4 := or4.below hb45
          have x5 := x4.next hb45
          have r5 := r4.below hb45
          have s5 := s4.below hb45
          have G5 : Hid (W1.grownBy w5 (some g)) := Lib.hid (gr_below G4.out hb45)
          have sz5 := hb45.size
          have hmlx : pl + 1 ≤ maxLen := by have := HPK.out; unfold maxLen; omega
          have hby2 : (pl + 1) * 8 ≤ 140737488355328 := by have := HPK.out; omega
          clear hxx y0 y1 hbx hb5 HFI hw1 hmod hmod2 x4 r4 s4 G4 oo4 or4 hrd
          go_wp2_with (at_builtin; refine wpList_append_lies _ rfl _ _ 22 rfl W1.heap.size 2 i0 (.int .i64 0) 1 8 Tryd.underlying22 hi hz0 hz1 hz2 rfl (by decide) (.slice Ao pl co) pl ((ints pre).map (Value.int .i64)) rfl (World.ownsRow.alloc hoo4 _) ⟨w5.heap.size, 0, none⟩ 1 1 [.int .i64 (a : Int)] rfl rfl ?c1 ?c2 (by decide) hmlx hby2 ?c5 (w5.heap.size + 1) (by simp) ?_)
          case c1 => exact cell_one_new _ _ _
          case c2 => intro u hu; simp at hu; subst hu; rfl
          case c5 => simp; omega
          intro g9 cap w6 hown hg hat hlt9
          rw [ints_snoc_map] at hown
          have hgr4 := (hor4.lt gr rfl).2
          have HA5 := below1 w5 (.cells #[.int .i64 (a : Int)] 2)
          have hgne : g9 ≠ gr := by
            rcases hat with h9 | h9
            · exact fun e9 => HAP.out g9 (ownBlock_map' h9) e9.symm
            · omega
          have hbl : ∀ q, (Value.slice Ao pl co).ownBlock = some q → W1.heap.size ≤ q := fun q hq => (hlo _ (ownBlock_map' hq)).1
          have hoo5 : Own 2 w6 W1.heap.size (some ⟨g9, 0, none⟩) (pl + 1) cap (ints (pre ++ [a])) := hown
          have hor5 : Own 2 w6 W1.heap.size (some ⟨gr, 0, none⟩) k cr (ints vs) := Own.apart (hor4.below ((Below.refl _ w5).alloc (Nat.le_refl _) _)) hg (fun r hr e9 => by cases hr; exact HAP.out _ (ownBlock_map' e9) rfl)
          have x6 := (x5.next HA5).apart hg (fun e => by have := hbl _ e; omega)
          have s6 := (s5.below HA5).kept hg (fun q hq => ⟨by have := hbl q hq; have := HBg.out; omega, by have := hbl q hq; omega⟩)
          have hA1lt : ∀ q, 0 < N → A1.map (·.block) = some q → q < w.heap.size := fun q hq0 hq => HALT.out q hq0 hq
          have r6 := (r5.below HA5).apartD hg (fun q hq0 hq e => by have := hbl _ e; have := hA1lt q hq0 hq; omega)
          have G6 : Hid (W1.grownBy w6 (some g)) := Lib.hid (gr_row (gr_below G5.out HA5) hg (fun r hr => hbl r hr))
          have HWI := Lib.hid (l03Without_any gr 0 k cr q vs w6 hor5.rd (by have := HPK.out; omega) hidx HCAP.out)
          have HSZ6 := Lib.hid (Nat.le_trans HA5.size hg.size)
          clear hown hg hat hlt9 hoo4 hor4 hgr4 x5 r5 s5 G5 HA5
          go_wp2_with fail
          refine HWI.out.mono ?_
          rintro e w7 ⟨A6, c6, rfl, ho6, hb6⟩
          rw [HER.out] at ho6
          have hoo6 := hoo5.below hb6
          have hap6 : ∀ r, (some (⟨g9, 0, none⟩ : Addr)).map (·.block) = some r → A6.map (·.block) ≠ some r := fun r hr e9 => by
            have h1 := (ho6.lt r e9).1
            have h2 := (hoo5.lt r hr).2
            omega
          have HPL1 : Hid (pl + 1 = (pre ++ [a]).length) := Lib.hid (by rw [List.length_append, HPL.out]; rfl)
          have HLEN1 : Hid ((pre ++ [a]).length + (k - 1) = m) := Lib.hid (by rw [← HPL1.out]; have := HPK.out; omega)
          have ho6' := ho6.mono (B' := W1.heap.size) (by have := HSZ6.out; omega)
          have x7 := x6.next hb6
          have r7 := r6.below hb6
          have s7 := s6.below hb6
          have G7 : Hid (W1.grownBy w7 (some g)) := Lib.hid (gr_below G6.out hb6)
          clear hgne
          go_wp2_with fail
          go_roundw
          case rel => exact ⟨k - 1, pre ++ [a], vs.erase a, some ⟨g9, 0, none⟩, A6, cap, c6, by rw [HPL1.out], rfl, HLE.out, HLEN1.out, by rw [← HPL1.out]; exact hoo6, ho6', hap6, x7, r7, s7, G7.out, (fun x hx => by
            rcases List.mem_append.1 hx with h9 | h9
            · exact HPN.out x h9
            · rw [List.mem_singleton.1 h9]; exact han), fun x hx => HVN.out x (List.mem_of_mem_erase hx)⟩
          case measure => simp [sliceLen]; omega
    · have hk : k = 0 := by omega
      subst hk
      go_wp2_with fail
      go_ret
      have h1 := HPK.out
      have e9 : pl = m := by omega
      subst e9
      exact ⟨co, Ao, pre, by rw [← HPL.out], HPN.out, rfl, hoo.mono (by omega), hs, gr_trans (gr_of (by rw [← hW1] at hb0 ⊢; exact hb0)) HGR.out⟩
end Go.Proofs.YtcojodkcpemfdaaDoor
namespace Go.Proofs.YtcojodkcpemfdaaDoor
open Go Go.RowKit
set_option linter.unusedVariables false
set_option maxRecDepth 100000

/-- Some alphabet and two lists. -/
def XwwPost (w : World) (e : Ending) (w' : World) : Prop :=
  ∃ (L : Int) (N c1 : Nat) (A1 : Option Addr) (xs : List Int) (k c2 : Nat) (A2 : Option Addr) (us : List Int) (m c3 : Nat) (A3 : Option Addr) (vs : List Int), e = .returned (.tuple #[.agg #[.int .i64 L, .slice A1 N c1], .slice A2 k c2, .slice A3 m c3]) ∧ (-9223372036854775808 ≤ L ∧ L ≤ 9223372036854775807) ∧ N ≤ 9 ∧ Wf xs ∧ Rd w' A1 N xs ∧ Wf us ∧ k ≤ 25 ∧ Rd w' A2 k us ∧ Wf vs ∧ m ≤ 25 ∧ Rd w' A3 m vs ∧ (N ≤ c1 ∧ k ≤ c2 ∧ m ≤ c3 ∧ (∀ q, A1.map (·.block) = some q → w.heap.size ≤ q) ∧ (∀ q, A2.map (·.block) = some q → w.heap.size ≤ q) ∧ ∀ q, A3.map (·.block) = some q → w.heap.size ≤ q) ∧ Below w.heap.size w w'
theorem isWord_parts (L : Int) (xs us : List Int) (h : isWordAns L xs us = true) : alphB L xs = true ∧ wordB L us = true := by
  unfold isWordAns at h
  rw [decide_eq_true_eq] at h
  cases ha : alphB L xs with
  | false => rw [wCode_no _ _ _ ha] at h; cases h
  | true =>
    cases hu : wordB L us with
    | false => rw [wCode_bad _ _ _ ha hu] at h; cases h
    | true => exact ⟨rfl, rfl⟩
theorem wf_small {us : List Nat} {N : Nat} (hN : N ≤ 24) (h : ∀ x, x ∈ us → x < N) : Wf (ints us) := by
  intro x hx
  obtain ⟨y, hy, rfl⟩ := List.mem_map.1 hx
  have := h y hy
  constructor <;> show _ ≤ _ <;> omega
set_option maxHeartbeats 1600000 in
theorem l03Is_any (L : Int) (A A1 : Option Addr) (n c m d : Nat) (xs us : List Int) (w : World) (h : Rd w A n xs) (hn2 : n ≤ 9223372036854775807) (h2 : Rd w A1 m us) (hm2 : m ≤ 9223372036854775807) :
    Calls Tryd.prog 105 #[.agg #[.int .i64 L, .slice A n c], .slice A1 m d] w fun e w' => e = .returned (.bool (isWordAns L xs us)) ∧ Below w.heap.size w w' := by
  have HB := Lib.hid (below1 w (.cells #[.int .i64 L, .slice A n c] 29))
  have x0 := box_new 29 w L A n c
  have hh := h.below HB.out
  have hh2 := h2.below HB.out
  cases ha : alphB L xs
  · have HA := Lib.hid ha
    have HC : Hid (isWordAns L xs us = false) := Lib.hid (by unfold isWordAns; rw [wCode_no _ _ _ ha]; rfl)
    clear ha
    go_enter Tryd.func105, Tryd.ntmps105
    go_wp2_with fail
    refine (l02Is_any L _ _ _ xs _ hh hn2).mono ?_
    rintro e w1 ⟨rfl, hb⟩
    rw [HA.out]
    go_wp2_with fail
    go_ret
    exact ⟨ret_b _ _ HC.out.symm, HB.out.trans (hb.mono HB.out.size)⟩
  · have HA := Lib.hid ha
    obtain ⟨hl0, hl8⟩ := alphB_L8 L xs ha
    have HANS : Hid (isWordAns L xs us = wordB L us) := Lib.hid (by
      unfold isWordAns
      cases hu : wordB L us
      · rw [wCode_bad _ _ _ ha hu]; rfl
      · rw [wCode_yes _ _ _ ha hu]; rfl)
    clear ha
    go_enter Tryd.func105, Tryd.ntmps105
    go_wp2_with fail
    refine (l02Is_any L _ _ _ xs _ hh hn2).mono ?_
    rintro e w1 ⟨rfl, hb⟩
    rw [HA.out]
    have y0 := (x0.next hb).c0
    go_wp2_with fail
    refine (l03Word_any L _ _ _ us _ (hh2.below hb) hm2 hl0 hl8).mono ?_
    rintro e w' ⟨rfl, rfl⟩
    go_wp2_with fail
    go_ret
    exact ⟨ret_b _ _ HANS.out.symm, HB.out.trans (hb.mono HB.out.size)⟩
set_option maxHeartbeats 6400000 in
theorem dDrawAreSameTrace_any (A : Option Addr) (n c : Nat) (bs : List Int) (w : World) (h : RdB w A n bs) (hwf : WfB bs) (hn : n ≤ 4096) :
    Calls Tryd.prog 45 #[.slice A n c] w (XwwPost w) := by
  have HB1 := Lib.hid (below1 w (.cells #[.int .i64 0, .slice none 0 0] 29))
  have x2 := box_new 29 w 0 none 0 0
  have h1 := h.below HB1.out
  have hs1 := size1 w (.cells #[.int .i64 0, .slice none 0 0] 29)
  obtain ⟨w1, hw1⟩ : ∃ w1, w1 = w.alloc (.cells #[.int .i64 0, .slice none 0 0] 29) := ⟨_, rfl⟩
  have HW1 := Lib.hid hw1
  rw [← hw1] at h1 x2 hs1
  have HB1' : Hid (Below w.heap.size w w1) := Lib.hid (by rw [hw1]; exact HB1.out)
  have HP := Lib.hid (pair_any 6 14 A n c bs w1 h1 hwf hn (by omega) (by omega) (by omega))
  clear hw1 HB1 h h1
  go_enter Tryd.func45, Tryd.ntmps45
  go_wp2_with fail
  rw [← HW1.out]
  refine HP.out.mono ?_
  rintro e w2 ⟨B, g, L, N, c1, A1, xs, k, c2, A2, us, rfl, hB, hL, hN, hwx, o1, hwu, hk, o2, s2, b2, hsep, hsep2⟩
  have HWX := Lib.hid hwx
  have HWU := Lib.hid hwu
  have hcp : N ≤ c1 ∧ k ≤ c2 ∧ (∀ q, A1.map (·.block) = some q → w.heap.size ≤ q) ∧ ∀ q, A2.map (·.block) = some q → w.heap.size ≤ q := ⟨own_capD o1, own_capD o2, fun q hq => by have := (o1.lt q hq).1; omega, fun q hq => by have := (o2.lt q hq).1; omega⟩
  have hlo1 : ∀ q, A1.map (·.block) = some q → w1.heap.size ≤ q ∧ q < w2.heap.size ∧ q ≠ g := fun q hq => ⟨(o1.lt q hq).1, (o1.lt q hq).2, (hsep q hq).2⟩
  have hlo2 : ∀ q, A2.map (·.block) = some q → w1.heap.size ≤ q ∧ q < w2.heap.size ∧ q ≠ g := fun q hq => ⟨(o2.lt q hq).1, (o2.lt q hq).2, hsep2 q hq⟩
  have sz2 := b2.size
  have x3 := x2.next b2
  have HB3 := below1 w2 (.cells #[.int .i64 L, .slice A1 N c1] 29)
  have hs3 := size1 w2 (.cells #[.int .i64 L, .slice A1 N c1] 29)
  have x4 := x3.next HB3
  have y4 := box_new 29 w2 L A1 N c1
  have o14 := o1.below HB3
  have o24 := o2.below HB3
  have s4 := s2.below HB3
  have hg1 := s2.1
  have hg2 := s2.lt
  have B4 : Hid (Below w.heap.size w (w2.alloc (.cells #[.int .i64 L, .slice A1 N c1] 29))) := Lib.hid ((HB1'.out.trans (b2.mono HB1'.out.size)).alloc (by omega) _)
  clear hwx hwu o1 o2 s2 b2 x2 x3 HB3 HP HW1 HB1' hsep
  obtain ⟨w4, hw4⟩ : ∃ w4, w4 = w2.alloc (.cells #[.int .i64 L, .slice A1 N c1] 29) := ⟨_, rfl⟩
  have HW4 := Lib.hid hw4
  rw [← hw4] at x4 y4 o14 o24 s4 B4 hs3
  clear hw4
  have HNX : Hid (∀ (ww : World) (k : Nat), Sou ww B g A n c bs → 1 ≤ k → k ≤ 1000 → Calls Tryd.prog 106 #[.pointer (some ⟨g, 0, none⟩), .int .i64 (k : Int)] ww fun e w' => ∃ r : Nat, r < k ∧ e = .returned (.int .i64 (r : Int)) ∧ Sou w' B g A n c bs ∧ ww.grownBy w' (some g)) := Lib.hid (fun ww k a1 a2 a3 => l01Next_any B g A n c k bs ww a1 hwf hn a2 (by omega))
  have HO := Lib.hid (own_any A2 k c2 us w4 o24.rd (by omega))
  go_wp2_with fail
  rw [← HW4.out]
  go_wp2_with fail
  refine HO.out.mono ?_
  rintro e w5 ⟨A3, c3, rfl, o3, b5⟩
  have sz5 := b5.size
  have hlo3 := o3.lt
  have x5 := x4.next b5
  have y5 := y4.next b5
  have o15 := o14.below b5
  have o25 := o24.below b5
  have s5 := s4.below b5
  have B5 : Hid (Below w.heap.size w w5) := Lib.hid (B4.out.trans (b5.mono B4.out.size))
  have HIS := Lib.hid (l03Is_any L A1 A2 N c1 k c2 xs us w5 o15.rd (by omega) o25.rd (by omega))
  have v0 := y5.c0
  have v1 := y5.c1
  clear x4 y4 o14 o24 s4 B4 b5 HO HW4
  go_wp2_with fail
  refine HIS.out.mono ?_
  rintro e w6 ⟨rfl, b6⟩
  have sz6 := b6.size
  have x6 := x5.next b6
  have y6 := y5.next b6
  have o16 := o15.below b6
  have o26 := o25.below b6
  have o36 := o3.below b6
  have s6 := s5.below b6
  have B6 : Hid (Below w.heap.size w w6) := Lib.hid (B5.out.trans (b6.mono B5.out.size))
  have HL3 : Hid (∀ q, A3.map (·.block) = some q → w4.heap.size ≤ q) := Lib.hid (fun q hq => (hlo3 q hq).1)
  clear x5 y5 o15 o25 o3 s5 B5 b6 HIS v0 v1 hlo3
  cases hb : isWordAns L xs us
  · clear hb
    by_cases hk1 : k ≤ 1
    · have hk2 : ¬ ((k : Int) > 1) := by omega
      have v0 := y6.c0
      have v1 := y6.c1
      have u0 := x6.c0
      have u1 := x6.c1
      have f0 := x6.fr 0
      have f1 := x6.fr 1
      have HO3 := Lib.hid o36
      have HWV : Hid (Wf us) := Lib.hid HWU.out
      go_wp2_with fail
      refine ret_gen (fun W => Box 29 W w.heap.size L A1 N c1 ∧ Rd W A1 N xs ∧ Rd W A2 k us ∧ Rd W A3 k us ∧ Below w.heap.size w W) ⟨x6.set _ _ _ _, ?_, ?_, ?_, ?_⟩ ?_
      · exact rd_other (rd_other o16.rd _ _ _ (fun q hq => by have := hlo1 q hq; omega)) _ _ _ (fun q hq => by have := hlo1 q hq; omega)
      · exact rd_other (rd_other o26.rd _ _ _ (fun q hq => by have := hlo2 q hq; omega)) _ _ _ (fun q hq => by have := hlo2 q hq; omega)
      · exact rd_other (rd_other HO3.out.rd _ _ _ (fun q hq => by have := HL3.out q hq; omega)) _ _ _ (fun q hq => by have := HL3.out q hq; omega)
      · exact (B6.out.setCell (p := ⟨w.heap.size, 0, none⟩) (Nat.le_refl _) _).setCell (p := ⟨w.heap.size, 1, none⟩) (Nat.le_refl _) _
      · rintro W ⟨x, r1, r2, r3, bb⟩
        have e0 := x.c0
        have e1 := x.c1
        exact bodyPost_ret (v := .tuple #[.agg #[.int .i64 L, .slice A1 N c1], .slice A2 k c2, .slice A3 k c3]) (by simp [results, Tryd.results45, go_sem, e0, e1]) rfl ⟨_, _, _, _, _, _, _, _, _, _, _, _, _, rfl, hL, hN, HWX.out, r1, HWU.out, hk, r2, HWV.out, hk, r3, ⟨hcp.1, hcp.2.1, own_capD HO3.out, fun q hq => by have := hlo1 q hq; omega, fun q hq => by have := hlo2 q hq; omega, fun q hq => by have := HL3.out q hq; omega⟩, bb⟩
    have hk2 : ((k : Int) > 1) := by omega
    have HC7 := Lib.hid (HNX.out w6 3 s6 (by omega) (by omega))
    go_wp2_with fail
    refine HC7.out.mono ?_
    rintro e w7 ⟨r7, hr7, rfl, s7, g7⟩
    have sz7 := g7.size
    have x7 := x6.apart g7 (fun e => by injection e with e; omega)
    have y7 := y6.apart g7 (fun e => by injection e with e; omega)
    have o17 := o16.apart g7 (fun q hq e => by injection e with e; have := hlo1 q hq; omega)
    have o27 := o26.apart g7 (fun q hq e => by injection e with e; have := hlo2 q hq; omega)
    have o37 := o36.apart g7 (fun q hq e => by injection e with e; have := HL3.out q hq; omega)
    have B7 : Hid (Below w.heap.size w w7) := Lib.hid (B6.out.trans (below_of_gr g7 (by omega)))
    clear x6 y6 o16 o26 o36 s6 g7 HC7
    by_cases h70 : r7 = 0
    rotate_left
    · have h71 : ((r7 : Int) == 0) = false := by simp; omega
      have v0 := y7.c0
      have v1 := y7.c1
      have u0 := x7.c0
      have u1 := x7.c1
      have f0 := x7.fr 0
      have f1 := x7.fr 1
      have HO3 := Lib.hid o37
      have HWV : Hid (Wf us) := Lib.hid HWU.out
      go_wp2_with fail
      refine ret_gen (fun W => Box 29 W w.heap.size L A1 N c1 ∧ Rd W A1 N xs ∧ Rd W A2 k us ∧ Rd W A3 k us ∧ Below w.heap.size w W) ⟨x7.set _ _ _ _, ?_, ?_, ?_, ?_⟩ ?_
      · exact rd_other (rd_other o17.rd _ _ _ (fun q hq => by have := hlo1 q hq; omega)) _ _ _ (fun q hq => by have := hlo1 q hq; omega)
      · exact rd_other (rd_other o27.rd _ _ _ (fun q hq => by have := hlo2 q hq; omega)) _ _ _ (fun q hq => by have := hlo2 q hq; omega)
      · exact rd_other (rd_other HO3.out.rd _ _ _ (fun q hq => by have := HL3.out q hq; omega)) _ _ _ (fun q hq => by have := HL3.out q hq; omega)
      · exact (B7.out.setCell (p := ⟨w.heap.size, 0, none⟩) (Nat.le_refl _) _).setCell (p := ⟨w.heap.size, 1, none⟩) (Nat.le_refl _) _
      · rintro W ⟨x, r1, r2, r3, bb⟩
        have e0 := x.c0
        have e1 := x.c1
        exact bodyPost_ret (v := .tuple #[.agg #[.int .i64 L, .slice A1 N c1], .slice A2 k c2, .slice A3 k c3]) (by simp [results, Tryd.results45, go_sem, e0, e1]) rfl ⟨_, _, _, _, _, _, _, _, _, _, _, _, _, rfl, hL, hN, HWX.out, r1, HWU.out, hk, r2, HWV.out, hk, r3, ⟨hcp.1, hcp.2.1, own_capD HO3.out, fun q hq => by have := hlo1 q hq; omega, fun q hq => by have := hlo2 q hq; omega, fun q hq => by have := HL3.out q hq; omega⟩, bb⟩
    subst h70
    have HC8 := Lib.hid (HNX.out w7 (k - 1) s7 (by omega) (by omega))
    have hkc : ((k - 1 : Nat) : Int) = (k : Int) - 1 := by omega
    rw [hkc] at HC8
    have hkw : IntKind.i64.wrap ((k : Int) - 1) = (k : Int) - 1 := IntWalk.i64_in _ (by omega)
    clear hkc
    go_wp2_with fail
    refine HC8.out.mono ?_
    rintro e w8 ⟨i, hi8, rfl, s8, g8⟩
    have sz8 := g8.size
    have x8 := x7.apart g8 (fun e => by injection e with e; omega)
    have y8 := y7.apart g8 (fun e => by injection e with e; omega)
    have o18 := o17.apart g8 (fun q hq e => by injection e with e; have := hlo1 q hq; omega)
    have o28 := o27.apart g8 (fun q hq e => by injection e with e; have := hlo2 q hq; omega)
    have o38 := o37.apart g8 (fun q hq e => by injection e with e; have := HL3.out q hq; omega)
    have B8 : Hid (Below w.heap.size w w8) := Lib.hid (B7.out.trans (below_of_gr g8 (by omega)))
    clear x7 y7 o17 o27 o37 s7 g8 HC8 hkw
    obtain ⟨g3, hg3, _, hg3l⟩ := o38.form (by omega)
    have hg3b := HL3.out g3 (by rw [hg3]; rfl)
    rw [hg3] at o38 ⊢
    have hln := o38.len
    obtain ⟨a0, ha0⟩ : ∃ u, (us)[i]? = some u := ⟨_, List.getElem?_eq_getElem (by omega)⟩
    obtain ⟨a1, ha1⟩ : ∃ u, (us)[i + 1]? = some u := ⟨_, List.getElem?_eq_getElem (by omega)⟩
    have q0 := o38.cell ha0
    have q1 := o38.cell ha1
    have z0 := o38.frozen i
    have hwi : IntKind.i64.wrap ((i : Int) + 1) = ((i + 1 : Nat) : Int) := by rw [IntWalk.i64_in _ (by omega)]; omega
    have o39 := o38.set_ i a1
    have q2 : (w8.setCell ⟨g3, i, none⟩ (.int .i64 a1)).cell? ⟨g3, i + 1, none⟩ = some (.int .i64 a1) := o39.cell (by rw [List.getElem?_set_ne (by omega)]; exact ha1)
    have z1 := o39.frozen (i + 1)
    have o3A := o39.set_ (i + 1) a0
    have x9 := (x8.other g3 i (.int .i64 a1) (by omega)).other g3 (i + 1) (.int .i64 a0) (by omega)
    have y9 := (y8.other g3 i (.int .i64 a1) (by omega)).other g3 (i + 1) (.int .i64 a0) (by omega)
    have o19 := own_other (own_other o18 g3 i (.int .i64 a1) (fun q hq => by have := hlo1 q hq; omega)) g3 (i + 1) (.int .i64 a0) (fun q hq => by have := hlo1 q hq; omega)
    have o29 := own_other (own_other o28 g3 i (.int .i64 a1) (fun q hq => by have := hlo2 q hq; omega)) g3 (i + 1) (.int .i64 a0) (fun q hq => by have := hlo2 q hq; omega)
    have B9 : Hid (Below w.heap.size w ((w8.setCell ⟨g3, i, none⟩ (.int .i64 a1)).setCell ⟨g3, i + 1, none⟩ (.int .i64 a0))) := Lib.hid ((B8.out.setCell (p := ⟨g3, i, none⟩) (by show w.heap.size ≤ g3; omega) _).setCell (p := ⟨g3, i + 1, none⟩) (by show w.heap.size ≤ g3; omega) _)
    have hw0 := (HWU.out : Wf (us))
    have hwA : Wf ((((us).set i a1)).set (i + 1) a0) := Wf.set (Wf.set hw0 i (hw0.at_ ha1).1 (hw0.at_ ha1).2) (i + 1) (hw0.at_ ha0).1 (hw0.at_ ha0).2
    have HWA := Lib.hid hwA
    have HL3 : Hid (∀ q, (some ⟨g3, 0, none⟩ : Option Addr).map (·.block) = some q → w4.heap.size ≤ q) := Lib.hid (fun q hq => by cases hq; show w4.heap.size ≤ g3; omega)
    clear hw0 hwA ha0 ha1 hln o38 o39 x8 y8 o18 o28 hg3
    have v0 := y9.c0
    have v1 := y9.c1
    have u0 := x9.c0
    have u1 := x9.c1
    have f0 := x9.fr 0
    have f1 := x9.fr 1
    have HO3 := Lib.hid o3A
    have HWV : Hid (Wf (((us).set i a1).set (i + 1) a0)) := Lib.hid HWA.out
    go_wp2_with fail
    refine ret_gen (fun W => Box 29 W w.heap.size L A1 N c1 ∧ Rd W A1 N xs ∧ Rd W A2 k us ∧ Rd W (some ⟨g3, 0, none⟩) k (((us).set i a1).set (i + 1) a0) ∧ Below w.heap.size w W) ⟨x9.set _ _ _ _, ?_, ?_, ?_, ?_⟩ ?_
    · exact rd_other (rd_other o19.rd _ _ _ (fun q hq => by have := hlo1 q hq; omega)) _ _ _ (fun q hq => by have := hlo1 q hq; omega)
    · exact rd_other (rd_other o29.rd _ _ _ (fun q hq => by have := hlo2 q hq; omega)) _ _ _ (fun q hq => by have := hlo2 q hq; omega)
    · exact rd_other (rd_other HO3.out.rd _ _ _ (fun q hq => by have := HL3.out q hq; omega)) _ _ _ (fun q hq => by have := HL3.out q hq; omega)
    · exact (B9.out.setCell (p := ⟨w.heap.size, 0, none⟩) (Nat.le_refl _) _).setCell (p := ⟨w.heap.size, 1, none⟩) (Nat.le_refl _) _
    · rintro W ⟨x, r1, r2, r3, bb⟩
      have e0 := x.c0
      have e1 := x.c1
      exact bodyPost_ret (v := .tuple #[.agg #[.int .i64 L, .slice A1 N c1], .slice A2 k c2, .slice (some ⟨g3, 0, none⟩) k c3]) (by simp [results, Tryd.results45, go_sem, e0, e1]) rfl ⟨_, _, _, _, _, _, _, _, _, _, _, _, _, rfl, hL, hN, HWX.out, r1, HWU.out, hk, r2, HWV.out, hk, r3, ⟨hcp.1, hcp.2.1, own_capD HO3.out, fun q hq => by have := hlo1 q hq; omega, fun q hq => by have := hlo2 q hq; omega, fun q hq => by have := HL3.out q hq; omega⟩, bb⟩
  have HCA := Lib.hid (HNX.out w6 4 s6 (by omega) (by omega))
  go_wp2_with fail
  refine HCA.out.mono ?_
  rintro e wA ⟨rA, hrA, rfl, sA, gA⟩
  have szA := gA.size
  have xA := x6.apart gA (fun e => by injection e with e; omega)
  have yA := y6.apart gA (fun e => by injection e with e; omega)
  have o1A := o16.apart gA (fun q hq e => by injection e with e; have := hlo1 q hq; omega)
  have o2A := o26.apart gA (fun q hq e => by injection e with e; have := hlo2 q hq; omega)
  have o3A' := o36.apart gA (fun q hq e => by injection e with e; have := HL3.out q hq; omega)
  have BA : Hid (Below w.heap.size w wA) := Lib.hid (B6.out.trans (below_of_gr gA (by omega)))
  clear x6 y6 o16 o26 o36 s6 gA HCA B6
  by_cases hrA0 : rA = 0
  · subst hrA0
    clear hb
    by_cases hk1 : k ≤ 1
    · have hk2 : ¬ ((k : Int) > 1) := by omega
      have v0 := yA.c0
      have v1 := yA.c1
      have u0 := xA.c0
      have u1 := xA.c1
      have f0 := xA.fr 0
      have f1 := xA.fr 1
      have HO3 := Lib.hid o3A'
      have HWV : Hid (Wf us) := Lib.hid HWU.out
      go_wp2_with fail
      refine ret_gen (fun W => Box 29 W w.heap.size L A1 N c1 ∧ Rd W A1 N xs ∧ Rd W A2 k us ∧ Rd W A3 k us ∧ Below w.heap.size w W) ⟨xA.set _ _ _ _, ?_, ?_, ?_, ?_⟩ ?_
      · exact rd_other (rd_other o1A.rd _ _ _ (fun q hq => by have := hlo1 q hq; omega)) _ _ _ (fun q hq => by have := hlo1 q hq; omega)
      · exact rd_other (rd_other o2A.rd _ _ _ (fun q hq => by have := hlo2 q hq; omega)) _ _ _ (fun q hq => by have := hlo2 q hq; omega)
      · exact rd_other (rd_other HO3.out.rd _ _ _ (fun q hq => by have := HL3.out q hq; omega)) _ _ _ (fun q hq => by have := HL3.out q hq; omega)
      · exact (BA.out.setCell (p := ⟨w.heap.size, 0, none⟩) (Nat.le_refl _) _).setCell (p := ⟨w.heap.size, 1, none⟩) (Nat.le_refl _) _
      · rintro W ⟨x, r1, r2, r3, bb⟩
        have e0 := x.c0
        have e1 := x.c1
        exact bodyPost_ret (v := .tuple #[.agg #[.int .i64 L, .slice A1 N c1], .slice A2 k c2, .slice A3 k c3]) (by simp [results, Tryd.results45, go_sem, e0, e1]) rfl ⟨_, _, _, _, _, _, _, _, _, _, _, _, _, rfl, hL, hN, HWX.out, r1, HWU.out, hk, r2, HWV.out, hk, r3, ⟨hcp.1, hcp.2.1, own_capD HO3.out, fun q hq => by have := hlo1 q hq; omega, fun q hq => by have := hlo2 q hq; omega, fun q hq => by have := HL3.out q hq; omega⟩, bb⟩
    have hk2 : ((k : Int) > 1) := by omega
    have HC7 := Lib.hid (HNX.out wA 3 sA (by omega) (by omega))
    go_wp2_with fail
    refine HC7.out.mono ?_
    rintro e w7 ⟨r7, hr7, rfl, s7, g7⟩
    have sz7 := g7.size
    have x7 := xA.apart g7 (fun e => by injection e with e; omega)
    have y7 := yA.apart g7 (fun e => by injection e with e; omega)
    have o17 := o1A.apart g7 (fun q hq e => by injection e with e; have := hlo1 q hq; omega)
    have o27 := o2A.apart g7 (fun q hq e => by injection e with e; have := hlo2 q hq; omega)
    have o37 := o3A'.apart g7 (fun q hq e => by injection e with e; have := HL3.out q hq; omega)
    have B7 : Hid (Below w.heap.size w w7) := Lib.hid (BA.out.trans (below_of_gr g7 (by omega)))
    clear xA yA o1A o2A o3A' sA g7 HC7
    by_cases h70 : r7 = 0
    rotate_left
    · have h71 : ((r7 : Int) == 0) = false := by simp; omega
      have v0 := y7.c0
      have v1 := y7.c1
      have u0 := x7.c0
      have u1 := x7.c1
      have f0 := x7.fr 0
      have f1 := x7.fr 1
      have HO3 := Lib.hid o37
      have HWV : Hid (Wf us) := Lib.hid HWU.out
      go_wp2_with fail
      refine ret_gen (fun W => Box 29 W w.heap.size L A1 N c1 ∧ Rd W A1 N xs ∧ Rd W A2 k us ∧ Rd W A3 k us ∧ Below w.heap.size w W) ⟨x7.set _ _ _ _, ?_, ?_, ?_, ?_⟩ ?_
      · exact rd_other (rd_other o17.rd _ _ _ (fun q hq => by have := hlo1 q hq; omega)) _ _ _ (fun q hq => by have := hlo1 q hq; omega)
      · exact rd_other (rd_other o27.rd _ _ _ (fun q hq => by have := hlo2 q hq; omega)) _ _ _ (fun q hq => by have := hlo2 q hq; omega)
      · exact rd_other (rd_other HO3.out.rd _ _ _ (fun q hq => by have := HL3.out q hq; omega)) _ _ _ (fun q hq => by have := HL3.out q hq; omega)
      · exact (B7.out.setCell (p := ⟨w.heap.size, 0, none⟩) (Nat.le_refl _) _).setCell (p := ⟨w.heap.size, 1, none⟩) (Nat.le_refl _) _
      · rintro W ⟨x, r1, r2, r3, bb⟩
        have e0 := x.c0
        have e1 := x.c1
        exact bodyPost_ret (v := .tuple #[.agg #[.int .i64 L, .slice A1 N c1], .slice A2 k c2, .slice A3 k c3]) (by simp [results, Tryd.results45, go_sem, e0, e1]) rfl ⟨_, _, _, _, _, _, _, _, _, _, _, _, _, rfl, hL, hN, HWX.out, r1, HWU.out, hk, r2, HWV.out, hk, r3, ⟨hcp.1, hcp.2.1, own_capD HO3.out, fun q hq => by have := hlo1 q hq; omega, fun q hq => by have := hlo2 q hq; omega, fun q hq => by have := HL3.out q hq; omega⟩, bb⟩
    subst h70
    have HC8 := Lib.hid (HNX.out w7 (k - 1) s7 (by omega) (by omega))
    have hkc : ((k - 1 : Nat) : Int) = (k : Int) - 1 := by omega
    rw [hkc] at HC8
    have hkw : IntKind.i64.wrap ((k : Int) - 1) = (k : Int) - 1 := IntWalk.i64_in _ (by omega)
    clear hkc
    go_wp2_with fail
    refine HC8.out.mono ?_
    rintro e w8 ⟨i, hi8, rfl, s8, g8⟩
    have sz8 := g8.size
    have x8 := x7.apart g8 (fun e => by injection e with e; omega)
    have y8 := y7.apart g8 (fun e => by injection e with e; omega)
    have o18 := o17.apart g8 (fun q hq e => by injection e with e; have := hlo1 q hq; omega)
    have o28 := o27.apart g8 (fun q hq e => by injection e with e; have := hlo2 q hq; omega)
    have o38 := o37.apart g8 (fun q hq e => by injection e with e; have := HL3.out q hq; omega)
    have B8 : Hid (Below w.heap.size w w8) := Lib.hid (B7.out.trans (below_of_gr g8 (by omega)))
    clear x7 y7 o17 o27 o37 s7 g8 HC8 hkw
    obtain ⟨g3, hg3, _, hg3l⟩ := o38.form (by omega)
    have hg3b := HL3.out g3 (by rw [hg3]; rfl)
    rw [hg3] at o38 ⊢
    have hln := o38.len
    obtain ⟨a0, ha0⟩ : ∃ u, (us)[i]? = some u := ⟨_, List.getElem?_eq_getElem (by omega)⟩
    obtain ⟨a1, ha1⟩ : ∃ u, (us)[i + 1]? = some u := ⟨_, List.getElem?_eq_getElem (by omega)⟩
    have q0 := o38.cell ha0
    have q1 := o38.cell ha1
    have z0 := o38.frozen i
    have hwi : IntKind.i64.wrap ((i : Int) + 1) = ((i + 1 : Nat) : Int) := by rw [IntWalk.i64_in _ (by omega)]; omega
    have o39 := o38.set_ i a1
    have q2 : (w8.setCell ⟨g3, i, none⟩ (.int .i64 a1)).cell? ⟨g3, i + 1, none⟩ = some (.int .i64 a1) := o39.cell (by rw [List.getElem?_set_ne (by omega)]; exact ha1)
    have z1 := o39.frozen (i + 1)
    have o3A := o39.set_ (i + 1) a0
    have x9 := (x8.other g3 i (.int .i64 a1) (by omega)).other g3 (i + 1) (.int .i64 a0) (by omega)
    have y9 := (y8.other g3 i (.int .i64 a1) (by omega)).other g3 (i + 1) (.int .i64 a0) (by omega)
    have o19 := own_other (own_other o18 g3 i (.int .i64 a1) (fun q hq => by have := hlo1 q hq; omega)) g3 (i + 1) (.int .i64 a0) (fun q hq => by have := hlo1 q hq; omega)
    have o29 := own_other (own_other o28 g3 i (.int .i64 a1) (fun q hq => by have := hlo2 q hq; omega)) g3 (i + 1) (.int .i64 a0) (fun q hq => by have := hlo2 q hq; omega)
    have B9 : Hid (Below w.heap.size w ((w8.setCell ⟨g3, i, none⟩ (.int .i64 a1)).setCell ⟨g3, i + 1, none⟩ (.int .i64 a0))) := Lib.hid ((B8.out.setCell (p := ⟨g3, i, none⟩) (by show w.heap.size ≤ g3; omega) _).setCell (p := ⟨g3, i + 1, none⟩) (by show w.heap.size ≤ g3; omega) _)
    have hw0 := (HWU.out : Wf (us))
    have hwA : Wf ((((us).set i a1)).set (i + 1) a0) := Wf.set (Wf.set hw0 i (hw0.at_ ha1).1 (hw0.at_ ha1).2) (i + 1) (hw0.at_ ha0).1 (hw0.at_ ha0).2
    have HWA := Lib.hid hwA
    have HL3 : Hid (∀ q, (some ⟨g3, 0, none⟩ : Option Addr).map (·.block) = some q → w4.heap.size ≤ q) := Lib.hid (fun q hq => by cases hq; show w4.heap.size ≤ g3; omega)
    clear hw0 hwA ha0 ha1 hln o38 o39 x8 y8 o18 o28 hg3
    have v0 := y9.c0
    have v1 := y9.c1
    have u0 := x9.c0
    have u1 := x9.c1
    have f0 := x9.fr 0
    have f1 := x9.fr 1
    have HO3 := Lib.hid o3A
    have HWV : Hid (Wf (((us).set i a1).set (i + 1) a0)) := Lib.hid HWA.out
    go_wp2_with fail
    refine ret_gen (fun W => Box 29 W w.heap.size L A1 N c1 ∧ Rd W A1 N xs ∧ Rd W A2 k us ∧ Rd W (some ⟨g3, 0, none⟩) k (((us).set i a1).set (i + 1) a0) ∧ Below w.heap.size w W) ⟨x9.set _ _ _ _, ?_, ?_, ?_, ?_⟩ ?_
    · exact rd_other (rd_other o19.rd _ _ _ (fun q hq => by have := hlo1 q hq; omega)) _ _ _ (fun q hq => by have := hlo1 q hq; omega)
    · exact rd_other (rd_other o29.rd _ _ _ (fun q hq => by have := hlo2 q hq; omega)) _ _ _ (fun q hq => by have := hlo2 q hq; omega)
    · exact rd_other (rd_other HO3.out.rd _ _ _ (fun q hq => by have := HL3.out q hq; omega)) _ _ _ (fun q hq => by have := HL3.out q hq; omega)
    · exact (B9.out.setCell (p := ⟨w.heap.size, 0, none⟩) (Nat.le_refl _) _).setCell (p := ⟨w.heap.size, 1, none⟩) (Nat.le_refl _) _
    · rintro W ⟨x, r1, r2, r3, bb⟩
      have e0 := x.c0
      have e1 := x.c1
      exact bodyPost_ret (v := .tuple #[.agg #[.int .i64 L, .slice A1 N c1], .slice A2 k c2, .slice (some ⟨g3, 0, none⟩) k c3]) (by simp [results, Tryd.results45, go_sem, e0, e1]) rfl ⟨_, _, _, _, _, _, _, _, _, _, _, _, _, rfl, hL, hN, HWX.out, r1, HWU.out, hk, r2, HWV.out, hk, r3, ⟨hcp.1, hcp.2.1, own_capD HO3.out, fun q hq => by have := hlo1 q hq; omega, fun q hq => by have := hlo2 q hq; omega, fun q hq => by have := HL3.out q hq; omega⟩, bb⟩
  have hrA1 : ((rA : Int) > 0) := by omega
  obtain ⟨ha, hwd⟩ : alphB L xs = true ∧ wordB L us = true := isWord_parts L xs us hb
  obtain ⟨rs, rfl, rfl, h8, hrr, hrel, hl8, hd, _⟩ := alphB_nats L xs N o1A.len ha
  obtain ⟨ys, rfl, hy24, hyn⟩ := wordB_nats N us hwd
  have hyl : ys.length = k := by have := o2A.len; rw [ints_len] at this; exact this
  have HSH := Lib.hid (shuffle_any B g A n c bs A1 A2 N c1 k c2 rs ys wA sA hwf hn o1A.rd (fun q hq => by have := hlo1 q hq; omega) (by omega) hrr o2A.rd (by omega) hyn)
  have v0 := yA.c0
  have v1 := yA.c1
  clear ha hwd hb hrel hl8 hd
  go_wp2_with fail
  refine HSH.out.mono ?_
  rintro e wS ⟨cS, AS, zs, hzl, hzn, rfl, oS, sS, gS⟩
  have szS := gS.size
  have hloS := oS.lt
  have xS := xA.apart gS (fun e => by injection e with e; omega)
  have yS := yA.apart gS (fun e => by injection e with e; omega)
  have o1S := o1A.apart gS (fun q hq e => by injection e with e; have := hlo1 q hq; omega)
  have o2S := o2A.apart gS (fun q hq e => by injection e with e; have := hlo2 q hq; omega)
  have BS : Hid (Below w.heap.size w wS) := Lib.hid (BA.out.trans (below_of_gr gS (by omega)))
  have HL3 : Hid (∀ q, AS.map (·.block) = some q → w4.heap.size ≤ q) := Lib.hid (fun q hq => by have := (hloS q hq).1; omega)
  have HWZ := Lib.hid (wf_small (by omega : N ≤ 24) hzn)
  clear xA yA o1A o2A o3A' sA gS HSH BA v0 v1 hloS hzl hzn
  by_cases hk1 : k ≤ 1
  · have hk2 : ¬ ((k : Int) > 1) := by omega
    have v0 := yS.c0
    have v1 := yS.c1
    have u0 := xS.c0
    have u1 := xS.c1
    have f0 := xS.fr 0
    have f1 := xS.fr 1
    have HO3 := Lib.hid oS
    have HWV : Hid (Wf (ints zs)) := Lib.hid HWZ.out
    go_wp2_with fail
    refine ret_gen (fun W => Box 29 W w.heap.size (N : Int) A1 N c1 ∧ Rd W A1 N (ints rs) ∧ Rd W A2 k (ints ys) ∧ Rd W AS k (ints zs) ∧ Below w.heap.size w W) ⟨xS.set _ _ _ _, ?_, ?_, ?_, ?_⟩ ?_
    · exact rd_other (rd_other o1S.rd _ _ _ (fun q hq => by have := hlo1 q hq; omega)) _ _ _ (fun q hq => by have := hlo1 q hq; omega)
    · exact rd_other (rd_other o2S.rd _ _ _ (fun q hq => by have := hlo2 q hq; omega)) _ _ _ (fun q hq => by have := hlo2 q hq; omega)
    · exact rd_other (rd_other HO3.out.rd _ _ _ (fun q hq => by have := HL3.out q hq; omega)) _ _ _ (fun q hq => by have := HL3.out q hq; omega)
    · exact (BS.out.setCell (p := ⟨w.heap.size, 0, none⟩) (Nat.le_refl _) _).setCell (p := ⟨w.heap.size, 1, none⟩) (Nat.le_refl _) _
    · rintro W ⟨x, r1, r2, r3, bb⟩
      have e0 := x.c0
      have e1 := x.c1
      exact bodyPost_ret (v := .tuple #[.agg #[.int .i64 (N : Int), .slice A1 N c1], .slice A2 k c2, .slice AS k cS]) (by simp [results, Tryd.results45, go_sem, e0, e1]) rfl ⟨_, _, _, _, _, _, _, _, _, _, _, _, _, rfl, hL, hN, HWX.out, r1, HWU.out, hk, r2, HWV.out, hk, r3, ⟨hcp.1, hcp.2.1, own_capD HO3.out, fun q hq => by have := hlo1 q hq; omega, fun q hq => by have := hlo2 q hq; omega, fun q hq => by have := HL3.out q hq; omega⟩, bb⟩
  have hk2 : ((k : Int) > 1) := by omega
  have HC7 := Lib.hid (HNX.out wS 3 sS (by omega) (by omega))
  go_wp2_with fail
  refine HC7.out.mono ?_
  rintro e w7 ⟨r7, hr7, rfl, s7, g7⟩
  have sz7 := g7.size
  have x7 := xS.apart g7 (fun e => by injection e with e; omega)
  have y7 := yS.apart g7 (fun e => by injection e with e; omega)
  have o17 := o1S.apart g7 (fun q hq e => by injection e with e; have := hlo1 q hq; omega)
  have o27 := o2S.apart g7 (fun q hq e => by injection e with e; have := hlo2 q hq; omega)
  have o37 := oS.apart g7 (fun q hq e => by injection e with e; have := HL3.out q hq; omega)
  have B7 : Hid (Below w.heap.size w w7) := Lib.hid (BS.out.trans (below_of_gr g7 (by omega)))
  clear xS yS o1S o2S oS sS g7 HC7
  by_cases h70 : r7 = 0
  rotate_left
  · have h71 : ((r7 : Int) == 0) = false := by simp; omega
    have v0 := y7.c0
    have v1 := y7.c1
    have u0 := x7.c0
    have u1 := x7.c1
    have f0 := x7.fr 0
    have f1 := x7.fr 1
    have HO3 := Lib.hid o37
    have HWV : Hid (Wf (ints zs)) := Lib.hid HWZ.out
    go_wp2_with fail
    refine ret_gen (fun W => Box 29 W w.heap.size (N : Int) A1 N c1 ∧ Rd W A1 N (ints rs) ∧ Rd W A2 k (ints ys) ∧ Rd W AS k (ints zs) ∧ Below w.heap.size w W) ⟨x7.set _ _ _ _, ?_, ?_, ?_, ?_⟩ ?_
    · exact rd_other (rd_other o17.rd _ _ _ (fun q hq => by have := hlo1 q hq; omega)) _ _ _ (fun q hq => by have := hlo1 q hq; omega)
    · exact rd_other (rd_other o27.rd _ _ _ (fun q hq => by have := hlo2 q hq; omega)) _ _ _ (fun q hq => by have := hlo2 q hq; omega)
    · exact rd_other (rd_other HO3.out.rd _ _ _ (fun q hq => by have := HL3.out q hq; omega)) _ _ _ (fun q hq => by have := HL3.out q hq; omega)
    · exact (B7.out.setCell (p := ⟨w.heap.size, 0, none⟩) (Nat.le_refl _) _).setCell (p := ⟨w.heap.size, 1, none⟩) (Nat.le_refl _) _
    · rintro W ⟨x, r1, r2, r3, bb⟩
      have e0 := x.c0
      have e1 := x.c1
      exact bodyPost_ret (v := .tuple #[.agg #[.int .i64 (N : Int), .slice A1 N c1], .slice A2 k c2, .slice AS k cS]) (by simp [results, Tryd.results45, go_sem, e0, e1]) rfl ⟨_, _, _, _, _, _, _, _, _, _, _, _, _, rfl, hL, hN, HWX.out, r1, HWU.out, hk, r2, HWV.out, hk, r3, ⟨hcp.1, hcp.2.1, own_capD HO3.out, fun q hq => by have := hlo1 q hq; omega, fun q hq => by have := hlo2 q hq; omega, fun q hq => by have := HL3.out q hq; omega⟩, bb⟩
  subst h70
  have HC8 := Lib.hid (HNX.out w7 (k - 1) s7 (by omega) (by omega))
  have hkc : ((k - 1 : Nat) : Int) = (k : Int) - 1 := by omega
  rw [hkc] at HC8
  have hkw : IntKind.i64.wrap ((k : Int) - 1) = (k : Int) - 1 := IntWalk.i64_in _ (by omega)
  clear hkc
  go_wp2_with fail
  refine HC8.out.mono ?_
  rintro e w8 ⟨i, hi8, rfl, s8, g8⟩
  have sz8 := g8.size
  have x8 := x7.apart g8 (fun e => by injection e with e; omega)
  have y8 := y7.apart g8 (fun e => by injection e with e; omega)
  have o18 := o17.apart g8 (fun q hq e => by injection e with e; have := hlo1 q hq; omega)
  have o28 := o27.apart g8 (fun q hq e => by injection e with e; have := hlo2 q hq; omega)
  have o38 := o37.apart g8 (fun q hq e => by injection e with e; have := HL3.out q hq; omega)
  have B8 : Hid (Below w.heap.size w w8) := Lib.hid (B7.out.trans (below_of_gr g8 (by omega)))
  clear x7 y7 o17 o27 o37 s7 g8 HC8 hkw
  obtain ⟨g3, hg3, _, hg3l⟩ := o38.form (by omega)
  have hg3b := HL3.out g3 (by rw [hg3]; rfl)
  rw [hg3] at o38 ⊢
  have hln := o38.len
  obtain ⟨a0, ha0⟩ : ∃ u, ((ints zs))[i]? = some u := ⟨_, List.getElem?_eq_getElem (by omega)⟩
  obtain ⟨a1, ha1⟩ : ∃ u, ((ints zs))[i + 1]? = some u := ⟨_, List.getElem?_eq_getElem (by omega)⟩
  have q0 := o38.cell ha0
  have q1 := o38.cell ha1
  have z0 := o38.frozen i
  have hwi : IntKind.i64.wrap ((i : Int) + 1) = ((i + 1 : Nat) : Int) := by rw [IntWalk.i64_in _ (by omega)]; omega
  have o39 := o38.set_ i a1
  have q2 : (w8.setCell ⟨g3, i, none⟩ (.int .i64 a1)).cell? ⟨g3, i + 1, none⟩ = some (.int .i64 a1) := o39.cell (by rw [List.getElem?_set_ne (by omega)]; exact ha1)
  have z1 := o39.frozen (i + 1)
  have o3A := o39.set_ (i + 1) a0
  have x9 := (x8.other g3 i (.int .i64 a1) (by omega)).other g3 (i + 1) (.int .i64 a0) (by omega)
  have y9 := (y8.other g3 i (.int .i64 a1) (by omega)).other g3 (i + 1) (.int .i64 a0) (by omega)
  have o19 := own_other (own_other o18 g3 i (.int .i64 a1) (fun q hq => by have := hlo1 q hq; omega)) g3 (i + 1) (.int .i64 a0) (fun q hq => by have := hlo1 q hq; omega)
  have o29 := own_other (own_other o28 g3 i (.int .i64 a1) (fun q hq => by have := hlo2 q hq; omega)) g3 (i + 1) (.int .i64 a0) (fun q hq => by have := hlo2 q hq; omega)
  have B9 : Hid (Below w.heap.size w ((w8.setCell ⟨g3, i, none⟩ (.int .i64 a1)).setCell ⟨g3, i + 1, none⟩ (.int .i64 a0))) := Lib.hid ((B8.out.setCell (p := ⟨g3, i, none⟩) (by show w.heap.size ≤ g3; omega) _).setCell (p := ⟨g3, i + 1, none⟩) (by show w.heap.size ≤ g3; omega) _)
  have hw0 := (HWZ.out : Wf ((ints zs)))
  have hwA : Wf (((((ints zs)).set i a1)).set (i + 1) a0) := Wf.set (Wf.set hw0 i (hw0.at_ ha1).1 (hw0.at_ ha1).2) (i + 1) (hw0.at_ ha0).1 (hw0.at_ ha0).2
  have HWA := Lib.hid hwA
  have HL3 : Hid (∀ q, (some ⟨g3, 0, none⟩ : Option Addr).map (·.block) = some q → w4.heap.size ≤ q) := Lib.hid (fun q hq => by cases hq; show w4.heap.size ≤ g3; omega)
  clear hw0 hwA ha0 ha1 hln o38 o39 x8 y8 o18 o28 hg3
  have v0 := y9.c0
  have v1 := y9.c1
  have u0 := x9.c0
  have u1 := x9.c1
  have f0 := x9.fr 0
  have f1 := x9.fr 1
  have HO3 := Lib.hid o3A
  have HWV : Hid (Wf ((((ints zs)).set i a1).set (i + 1) a0)) := Lib.hid HWA.out
  go_wp2_with fail
  refine ret_gen (fun W => Box 29 W w.heap.size (N : Int) A1 N c1 ∧ Rd W A1 N (ints rs) ∧ Rd W A2 k (ints ys) ∧ Rd W (some ⟨g3, 0, none⟩) k ((((ints zs)).set i a1).set (i + 1) a0) ∧ Below w.heap.size w W) ⟨x9.set _ _ _ _, ?_, ?_, ?_, ?_⟩ ?_
  · exact rd_other (rd_other o19.rd _ _ _ (fun q hq => by have := hlo1 q hq; omega)) _ _ _ (fun q hq => by have := hlo1 q hq; omega)
  · exact rd_other (rd_other o29.rd _ _ _ (fun q hq => by have := hlo2 q hq; omega)) _ _ _ (fun q hq => by have := hlo2 q hq; omega)
  · exact rd_other (rd_other HO3.out.rd _ _ _ (fun q hq => by have := HL3.out q hq; omega)) _ _ _ (fun q hq => by have := HL3.out q hq; omega)
  · exact (B9.out.setCell (p := ⟨w.heap.size, 0, none⟩) (Nat.le_refl _) _).setCell (p := ⟨w.heap.size, 1, none⟩) (Nat.le_refl _) _
  · rintro W ⟨x, r1, r2, r3, bb⟩
    have e0 := x.c0
    have e1 := x.c1
    exact bodyPost_ret (v := .tuple #[.agg #[.int .i64 (N : Int), .slice A1 N c1], .slice A2 k c2, .slice (some ⟨g3, 0, none⟩) k cS]) (by simp [results, Tryd.results45, go_sem, e0, e1]) rfl ⟨_, _, _, _, _, _, _, _, _, _, _, _, _, rfl, hL, hN, HWX.out, r1, HWU.out, hk, r2, HWV.out, hk, r3, ⟨hcp.1, hcp.2.1, own_capD HO3.out, fun q hq => by have := hlo1 q hq; omega, fun q hq => by have := hlo2 q hq; omega, fun q hq => by have := HL3.out q hq; omega⟩, bb⟩
end Go.Proofs.YtcojodkcpemfdaaDoor
