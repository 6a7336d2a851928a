/-
  The family of sets that come from the empty one by adding elements, by contracts.
-/
import Derived.Test.YtcojodkcpemfdaaDoorSort
namespace Go.Proofs.YtcojodkcpemfdaaDoor
open Go.RowKit
set_option linter.unusedVariables false
set_option maxRecDepth 100000

/-! ### plain -/
def famStep (p : Nat → Bool) (bit : Nat) (fs : List Nat) : List Nat := fs ++ (fs.filter p).map fun s => s ||| bit
def famM (fit : Nat → Nat → Bool) (ks : List Nat) : List Nat := ks.foldl (fun fs k => famStep (fun s => fit s k) (2 ^ k) fs) [0]
theorem famM_snoc (fit : Nat → Nat → Bool) (ks : List Nat) (k : Nat) : famM fit (ks ++ [k]) = famStep (fun s => fit s k) (2 ^ k) (famM fit ks) := by unfold famM; rw [List.foldl_append]; rfl
theorem famStep_len (p : Nat → Bool) (bit : Nat) (fs : List Nat) : fs.length ≤ (famStep p bit fs).length := by unfold famStep; rw [List.length_append]; omega
theorem foldl_len (fit : Nat → Nat → Bool) (ks fs : List Nat) : fs.length ≤ (ks.foldl (fun fs k => famStep (fun s => fit s k) (2 ^ k) fs) fs).length := by
  induction ks generalizing fs with
  | nil => exact Nat.le_refl _
  | cons k ks ih => rw [List.foldl_cons]; exact Nat.le_trans (famStep_len _ _ _) (ih _)
/-- What has come after t of the sets in one step. -/
def famPart (p : Nat → Bool) (bit : Nat) (fs : List Nat) (t : Nat) : List Nat := fs ++ ((fs.take t).filter p).map fun s => s ||| bit
theorem famPart_zero (p : Nat → Bool) (bit : Nat) (fs : List Nat) : famPart p bit fs 0 = fs := by simp [famPart]
theorem famPart_full (p : Nat → Bool) (bit : Nat) (fs : List Nat) : famPart p bit fs fs.length = famStep p bit fs := by simp [famPart, famStep]
theorem famPart_yes (p : Nat → Bool) (bit : Nat) (fs : List Nat) (t s : Nat) (hs : fs[t]? = some s) (h : p s = true) : famPart p bit fs (t + 1) = famPart p bit fs t ++ [s ||| bit] := by
  unfold famPart
  rw [List.take_add_one, hs, List.filter_append, List.map_append]
  simp [h]
theorem famPart_no (p : Nat → Bool) (bit : Nat) (fs : List Nat) (t s : Nat) (hs : fs[t]? = some s) (h : p s = false) : famPart p bit fs (t + 1) = famPart p bit fs t := by
  unfold famPart
  rw [List.take_add_one, hs, List.filter_append, List.map_append]
  simp [h]
theorem famPart_le (p : Nat → Bool) (bit : Nat) (fs : List Nat) (t : Nat) : (famPart p bit fs t).length ≤ (famStep p bit fs).length := by
  unfold famPart famStep
  rw [List.length_append, List.length_append, List.length_map, List.length_map]
  have h1 : ((fs.take t).filter p).length ≤ (fs.filter p).length := ((List.take_sublist t fs).filter p).length_le
  omega
theorem famPart_take (p : Nat → Bool) (bit : Nat) (fs : List Nat) (t : Nat) : (famPart p bit fs t).take fs.length = fs := by unfold famPart; simp
theorem famPart_lt (p : Nat → Bool) (bit m : Nat) (fs : List Nat) (t : Nat) (hb : bit < 2 ^ m) (h : ∀ s, s ∈ fs → s < 2 ^ m) : ∀ s, s ∈ famPart p bit fs t → s < 2 ^ m := by
  intro s hs
  unfold famPart at hs
  rcases List.mem_append.1 hs with hs | hs
  · exact h s hs
  · obtain ⟨q, hq, rfl⟩ := List.mem_map.1 hs
    exact Nat.or_lt_two_pow (h q (List.mem_of_mem_take (List.mem_filter.1 hq).1)) hb
theorem famM_lt (fit : Nat → Nat → Bool) (ks : List Nat) (m : Nat) (hk : ∀ k, k ∈ ks → k < m) : ∀ s, s ∈ famM fit ks → s < 2 ^ m := by
  have key : ∀ (ks fs : List Nat), (∀ k, k ∈ ks → k < m) → (∀ s, s ∈ fs → s < 2 ^ m) → ∀ s, s ∈ ks.foldl (fun fs k => famStep (fun s => fit s k) (2 ^ k) fs) fs → s < 2 ^ m := by
    intro ks
    induction ks with
    | nil => intro fs _ h; exact h
    | cons k ks ih =>
      intro fs hk h
      rw [List.foldl_cons]
      refine ih _ (fun q hq => hk q (List.mem_cons_of_mem _ hq)) ?_
      rw [← famPart_full]
      exact famPart_lt _ _ m fs _ (Nat.pow_lt_pow_right (by decide) (hk k List.mem_cons_self)) h
  exact key ks [0] hk (fun s hs => by rw [List.mem_singleton.1 hs]; exact p2_pos m)
theorem famM_pos (fit : Nat → Nat → Bool) (ks : List Nat) : 1 ≤ (famM fit ks).length := foldl_len fit ks [0]
/-- A set behind the first ones stays where it is. -/
theorem Rd.prefix_ {w : World} {A : Option Addr} {n m : Nat} {xs : List Int} (h : Rd w A n xs) (hm : m ≤ n) : Rd w A m (xs.take m) := by
  refine ⟨by rw [List.length_take]; have := h.1; omega, fun h0 => ?_⟩
  obtain ⟨b, off, e, hb, hc⟩ := h.2 (by omega)
  refine ⟨b, off, e, hb, fun j x hx => ?_⟩
  have hj : j < m := by
    rcases Nat.lt_or_ge j m with h1 | h1
    · exact h1
    · rw [List.getElem?_eq_none (by rw [List.length_take]; omega)] at hx; cases hx
  rw [List.getElem?_take_of_lt hj] at hx
  exact hc j x hx
theorem Rd.far {w w' : World} {A : Option Addr} {n : Nat} {xs : List Int} (h : Rd w A n xs) {row : Option Nat} (hg : w.grownBy w' row) (hne : ∀ b off, A = some ⟨b, off, none⟩ → row ≠ some b) : Rd w' A n xs := by
  refine ⟨h.1, fun hn => ?_⟩
  obtain ⟨b, off, e, hb, hc⟩ := h.2 hn
  refine ⟨b, off, e, by have := hg.size; omega, fun j x hx => ?_⟩
  rw [World.cell?_of_block (w := w) (hg.block b hb (fun e2 => hne b off e e2.symm))]
  exact hc j x hx

theorem famM_take_le (fit : Nat → Nat → Bool) (ks : List Nat) (i : Nat) : (famM fit (ks.take i)).length ≤ (famM fit ks).length := by
  conv => rhs; rw [← List.take_append_drop i ks]
  unfold famM
  rw [List.foldl_append]
  exact foldl_len fit _ _
theorem nats_at (ls : List Nat) (k : Nat) (x : Int) (hl : k < ls.length) (hx : (ints ls)[k]? = some x) : ∃ X : Nat, ls[k]? = some X ∧ x = (X : Int) := by
  refine ⟨ls[k], List.getElem?_eq_getElem hl, ?_⟩
  rw [ints_at (List.getElem?_eq_getElem hl)] at hx
  exact (Option.some.inj hx).symm
/-- What familyOf leaves. -/
def FamPost (w : World) (fs : List Nat) (e : Ending) (w' : World) : Prop :=
  (fs.length ≤ 4096 ∧ ∃ A c, e = .returned (.tuple #[.slice A fs.length c, .bool true]) ∧ Own 84 w' w.heap.size A fs.length c (ints fs) ∧ Below w.heap.size w w') ∨
  (4096 < fs.length ∧ e = .returned (.tuple #[.slice none 0 0, .bool false]) ∧ Below w.heap.size w w')
set_option maxHeartbeats 3200000 in
theorem familyOf_any (fit : Nat → Nat → Bool) (f : FuncId) (lb : Array Value) (A : Option Addr) (n c : Nat) (ks : List Nat) (w : World) (h : Rd w A n (ints ks)) (hn : n ≤ 24) (hk : ∀ k, k ∈ ks → k < 24) (hasc : Asc (famM fit ks))
    (eg : ∀ args w, (callFunc f args).run Tryd.prog w = .ok (.enter f args) w)
    (hfit : ∀ (s k : Nat) (wx : World), s < 16777216 → k ∈ ks → Below w.heap.size w wx → Calls Tryd.prog f (#[.int .i64 (s : Int), .int .i64 (k : Int)] ++ lb) wx fun e w' => e = .returned (.bool (fit s k)) ∧ wx = w') :
    Calls Tryd.prog 223 #[.slice A n c, .func (.func f) #[] lb] w (FamPost w (famM fit ks)) := by
  have hlen : ks.length = n := by have := h.1; rw [ints_len] at this; exact this
  have HL := Lib.hid hlen
  have HASC := Lib.hid hasc
  have HFIT := Lib.hid hfit
  have HK := Lib.hid hk
  clear hlen hasc hfit hk
  obtain ⟨i0, hi, hz0, hz1, hz2⟩ := info_parts info_set
  go_enter Tryd.func223, Tryd.ntmps223
  go_wp2
  go_loopw [6, 14] (fun v q wr => ∃ (i : Nat) (A5 : Option Addr) (c5 : Nat), i ≤ n ∧ q = .int .i64 i ∧ v = .slice A5 (famM fit (ks.take i)).length c5 ∧ Own 84 wr w.heap.size A5 (famM fit (ks.take i)).length c5 (ints (famM fit (ks.take i))) ∧ Below w.heap.size w wr ∧ (famM fit (ks.take i)).length ≤ 4096) (fun _ q _ => n - (intOf q).toNat)
  case atStart => exact ⟨0, _, 1, Nat.zero_le _, rfl, rfl, World.ownsRow_lit w #[.int .i64 0] 1 (Nat.le_refl _) (by unfold maxLen; omega) rfl, (Below.refl _ _).alloc (Nat.le_refl _) _, by show 1 ≤ 4096; omega⟩
  case round =>
    obtain ⟨i, A5, c5, hi5, rfl, rfl, ho, hb, hle⟩ := hrel
    by_cases hlt : i < n
    · obtain ⟨b, off, x, rfl, hbs, hx, hcx⟩ := (h.below hb).at_ hlt
      obtain ⟨k, hkk, rfl⟩ := nats_at ks i x (by have := HL.out; omega) hx
      have hkm := List.mem_of_getElem? hkk
      have hk24 := HK.out k hkm
      have hnext : famM fit (ks.take (i + 1)) = famStep (fun s => fit s k) (2 ^ k) (famM fit (ks.take i)) := by
        rw [List.take_add_one, hkk]; exact famM_snoc fit _ k
      have hfl := famM_lt fit (ks.take i) 24 (fun q hq => HK.out q (List.mem_of_mem_take hq))
      have htl := famM_take_le fit ks (i + 1)
      have hpos := famM_pos fit (ks.take i)
      obtain ⟨fs, hfs⟩ : ∃ fs, fs = famM fit (ks.take i) := ⟨_, rfl⟩
      rw [← hfs] at ho hle hnext hfl hpos ⊢
      obtain ⟨L, hL⟩ : ∃ L, L = fs.length := ⟨_, rfl⟩
      rw [← hL] at ho hle hpos ⊢
      obtain ⟨gs, rfl, hgB, hglt⟩ := ho.form (by omega)
      have HNX := Lib.hid hnext
      have HTL := Lib.hid htl
      have HLL := Lib.hid hL
      have HKM := Lib.hid hkm
      have HFL := Lib.hid hfl
      have HFS := Lib.hid hfs
      have hrd0 := ho.rd
      have ho0 : Own 84 wr w.heap.size (some ⟨gs, 0, none⟩) (famPart (fun s => fit s k) (2 ^ k) fs 0).length c5 (ints (famPart (fun s => fit s k) (2 ^ k) fs 0)) := by
        rw [famPart_zero, ← hL]; exact ho
      have hstart : Value.slice (some ⟨gs, 0, none⟩) L c5 = .slice (some ⟨gs, 0, none⟩) (famPart (fun s => fit s k) (2 ^ k) fs 0).length c5 := by rw [famPart_zero, ← hL]
      have hle0 : (famPart (fun s => fit s k) (2 ^ k) fs 0).length ≤ 4096 := by rw [famPart_zero, ← hL]; exact hle
      have HST := Lib.hid hstart
      clear hx hkk hkm hnext hfl htl hfs hL hstart ho
      obtain ⟨wo, rfl⟩ : ∃ wo : World, wo = wr := ⟨_, rfl⟩
      go_wp2
      go_loopw [6, 20] (fun v q wr => ∃ (t : Nat) (A6 : Option Addr) (c6 : Nat), t ≤ L ∧ q = .int .i64 t ∧ v = .slice A6 (famPart (fun s => fit s k) (2 ^ k) fs t).length c6 ∧ Own 84 wr w.heap.size A6 (famPart (fun s => fit s k) (2 ^ k) fs t).length c6 (ints (famPart (fun s => fit s k) (2 ^ k) fs t)) ∧ Rd wr (some ⟨gs, 0, none⟩) L (ints fs) ∧ gs < wr.heap.size ∧ Below w.heap.size w wr ∧ (famPart (fun s => fit s k) (2 ^ k) fs t).length ≤ 4096) (fun _ q _ => L - (intOf q).toNat)
      case atStart => exact ⟨0, _, c5, Nat.zero_le _, rfl, HST.out, ho0, hrd0, hglt, hb, hle0⟩
      case round =>
        clear ho0 hrd0 hglt hb hle0
        obtain ⟨t, A6, c6, ht, rfl, rfl, ho, hrd, hgs, hb, hle6⟩ := hrel
        by_cases hlt2 : t < L
        · obtain ⟨b2, off2, x2, hadr, hbs2, hx2, hcx2⟩ := hrd.at_ hlt2
          injection hadr with hadr
          injection hadr with hadr1 hadr2
          subst hadr1 hadr2
          obtain ⟨s, hss, rfl⟩ := nats_at fs t x2 (by have := HLL.out; omega) hx2
          have hs24 := HFL.out s (List.mem_of_getElem? hss)
          have hs24' : s < 16777216 := by omega
          have hcx3 : wr.cell? ⟨gs, t, none⟩ = some (.int .i64 (s : Int)) := by rw [Nat.zero_add] at hcx2; exact hcx2
          have HC := Lib.hid (HFIT.out s k wr hs24' HKM.out hb)
          cases hfk : fit s k
          · have hno := famPart_no (fun s => fit s k) (2 ^ k) fs t s hss hfk
            have HNO := Lib.hid hno
            have HF := Lib.hid hfk
            clear hno hfk hx2 hss hcx2
            go_wp2_with fail
            refine HC.out.mono ?_
            rintro e w' ⟨rfl, rfl⟩
            rw [HF.out]
            go_wp2_with fail
            go_roundw
            case rel => exact ⟨t + 1, A6, c6, by omega, by go_num, by rw [HNO.out], by rw [HNO.out]; exact ho, hrd, hgs, hb, by rw [HNO.out]; exact hle6⟩
            case measure => simp [intOf]; omega
          · have hyes := famPart_yes (fun s => fit s k) (2 ^ k) fs t s hss hfk
            have hpl := famPart_le (fun s => fit s k) (2 ^ k) fs (t + 1)
            have hpt := famPart_take (fun s => fit s k) (2 ^ k) fs (t + 1)
            have hpt0 := famPart_take (fun s => fit s k) (2 ^ k) fs t
            have HYES := Lib.hid hyes
            have HF := Lib.hid hfk
            have HPL := Lib.hid hpl
            have HPT := Lib.hid hpt
            have hpl0 : fs.length ≤ (famPart (fun s => fit s k) (2 ^ k) fs t).length := by
              have h3 := congrArg List.length hpt0
              rw [List.length_take] at h3; omega
            obtain ⟨cur, hcur⟩ : ∃ cur, cur = famPart (fun s => fit s k) (2 ^ k) fs t := ⟨_, rfl⟩
            rw [← hcur] at ho hle6 HYES hpl0 ⊢
            obtain ⟨L6, hL6⟩ : ∃ L6, L6 = cur.length := ⟨_, rfl⟩
            rw [← hL6] at ho hle6 hpl0 ⊢
            have HL6 := Lib.hid hL6
            have hLL6 : L ≤ L6 := by have := HLL.out; omega
            clear hyes hfk hx2 hss hcx2 hpl hpt hpt0 hpl0 hcur hL6
            by_cases hfull : L6 = 4096
            · have hq1 : (((L6 : Nat) : Int) == 4096) = true := by simp; omega
              go_wp2_with fail
              refine HC.out.mono ?_
              rintro e w' ⟨rfl, rfl⟩
              rw [HF.out]
              go_wp2_with fail
              go_ret2
              refine .inr ⟨?_, rfl, hb⟩
              have h1 := HPL.out
              rw [HYES.out, List.length_append, ← HL6.out, ← HNX.out] at h1
              have h2 := HTL.out
              simp at h1
              omega
            · have hq1 : (((L6 : Nat) : Int) == 4096) = false := by simp; omega
              have hs63 : s < 9223372036854775808 := by omega
              have hk62 : k ≤ 62 := by omega
              have hmlx : L6 + 1 ≤ maxLen := by unfold maxLen; omega
              have hby2 : (L6 + 1) * 8 ≤ 140737488355328 := by omega
              have hL6p : 0 < L6 := by omega
              have hLle : L ≤ L6 + 1 := by omega
              obtain ⟨g6, rfl, hg6B, hg6lt⟩ := ho.form hL6p
              have HLN : Hid ((famPart (fun s => fit s k) (2 ^ k) fs (t + 1)).length = L6 + 1) := Lib.hid (by rw [HYES.out, List.length_append, ← HL6.out]; rfl)
              go_wp2_with fail
              refine HC.out.mono ?_
              rintro e w' ⟨rfl, rfl⟩
              rw [HF.out]
              go_wp2_with fail
              refine (with_any s k hs63 hk62 _).mono ?_
              rintro e w' ⟨rfl, rfl⟩
              by_cases hroom : L6 + 1 ≤ c6
              · go_wp2_with (at_builtin; refine wpList_append_fits _ rfl _ _ 72 rfl w.heap.size 84 i0 1 Tryd.underlying72 hi hz1 g6 L6 c6 ((ints cur).map (Value.int .i64)) rfl (World.ownsRow.alloc ho _) ⟨wr.heap.size, 0, none⟩ 1 1 [.int .i64 ((s ||| 2 ^ k : Nat) : Int)] rfl rfl ?s1 ?s2 hroom ?_)
                case s1 => exact cell_one_new _ _ _
                case s2 => intro u hu; simp at hu; subst hu; rfl
                intro w4 hown hg
                rw [ints_snoc_map, ← HYES.out] at hown
                have ho4 : Own 84 w4 w.heap.size (some ⟨g6, 0, none⟩) (L6 + 1) c6 (ints (famPart (fun s => fit s k) (2 ^ k) fs (t + 1))) := hown
                have hb4 : Below w.heap.size w w4 := (hb.alloc hb.size _).grown hg (by have := hb.size; simp; omega) (fun q hq => by injection hq with hq; omega)
                have hrd4 : Rd w4 (some ⟨gs, 0, none⟩) L (ints fs) := by
                  by_cases hgg : gs = g6
                  · subst hgg
                    have h1 := ho4.rd.prefix_ hLle
                    have h2 : (ints (famPart (fun s => fit s k) (2 ^ k) fs (t + 1))).take L = ints fs := by
                      unfold ints; rw [← List.map_take, HLL.out, HPT.out]
                    rw [h2] at h1; exact h1
                  · exact (hrd.keep (w' := wr.alloc _) (by simp) (fun p hp => World.cell?_alloc_lt wr _ p hp)).far hg (fun b off e e2 => by
                      injection e with e; injection e with e3 _ _; injection e2 with e2; omega)
                have hgs4 : gs < w4.heap.size := by have := hg.size; simp at this; omega
                clear hg hown ho hrd hgs hb
                go_wp2
                go_roundw
                case rel => exact ⟨t + 1, _, c6, by omega, by go_num, by rw [HLN.out], by rw [HLN.out]; exact ho4, hrd4, hgs4, hb4, by rw [HLN.out]; omega⟩
                case measure => simp [intOf]; omega
              · have hgrow : c6 < L6 + 1 := by omega
                have holds : ∀ b, some (⟨g6, 0, none⟩ : Addr) = some b → ∀ j u, ((ints cur).map (Value.int .i64))[j]? = some u → (wr.alloc (.cells #[.int .i64 ((s ||| 2 ^ k : Nat) : Int)] 84)).cell? (b.add j) = some u := by
                  intro b hb9 j u hu
                  injection hb9 with hb9
                  subst hb9
                  exact World.ownsRow.cells (World.ownsRow.alloc ho _) (g := g6) rfl j u hu
                have hlo : ((ints cur).map (Value.int .i64)).length = L6 * 1 := by rw [List.length_map, ints_len, ← HL6.out, Nat.mul_one]
                go_wp2_with (at_builtin; refine wpList_append_grows _ rfl _ _ 72 rfl 84 i0 (.int .i64 0) 1 8 Tryd.underlying72 hi hz0 hz1 hz2 rfl (by decide) (some ⟨g6, 0, none⟩) L6 c6 ((ints cur).map (Value.int .i64)) rfl (fun e9 => by cases e9) hlo holds ⟨wr.heap.size, 0, none⟩ 1 1 [.int .i64 ((s ||| 2 ^ k : Nat) : Int)] rfl rfl ?s1 ?s2 hgrow hmlx hby2 ?_)
                case s1 => exact cell_one_new _ _ _
                case s2 => intro u hu; simp at hu; subst hu; rfl
                intro v' w4 hown hg
                rw [ints_snoc_map, ← HYES.out] at hown
                obtain ⟨A7, c7, hv, ho7⟩ := own_shape hown
                have ho4 : Own 84 w4 w.heap.size A7 (L6 + 1) c7 (ints (famPart (fun s => fit s k) (2 ^ k) fs (t + 1))) := ho7.mono (by have := hb.size; simp; omega)
                have hb4 : Below w.heap.size w w4 := (hb.alloc hb.size _).grown hg (by have := hb.size; simp; omega) (fun q hq => by cases hq)
                have hrd4 : Rd w4 (some ⟨gs, 0, none⟩) L (ints fs) := (hrd.keep (w' := wr.alloc _) (by simp) (fun p hp => World.cell?_alloc_lt wr _ p hp)).far hg (fun b off e e2 => by cases e2)
                have hgs4 : gs < w4.heap.size := by have := hg.size; simp at this; omega
                rw [hv]
                clear hg hown hv ho7 ho hrd hgs hb holds hlo
                go_wp2
                go_roundw
                case rel => exact ⟨t + 1, _, c7, by omega, by go_num, by rw [HLN.out], by rw [HLN.out]; exact ho4, hrd4, hgs4, hb4, by rw [HLN.out]; omega⟩
                case measure => simp [intOf]; omega
        · obtain rfl : t = L := by omega
          have hfullp : famPart (fun s => fit s k) (2 ^ k) fs t = famM fit (ks.take (i + 1)) := by rw [HNX.out, HLL.out, famPart_full]
          rw [hfullp] at ho hle6
          have HFP := Lib.hid hfullp
          clear hfullp
          go_wp2
          go_roundw
          case rel => exact ⟨i + 1, A6, c6, by omega, by go_num, by rw [HFP.out], ho, hb, hle6⟩
          case measure => simp [intOf]; omega
    · obtain rfl : i = n := by omega
      have e : ks.take i = ks := List.take_of_length_le (by have := HL.out; omega)
      have hpos := famM_pos fit ks
      rw [e] at ho hle ⊢
      obtain ⟨FS, hFS⟩ : ∃ FS, FS = famM fit ks := ⟨_, rfl⟩
      rw [← hFS] at ho hle hpos HASC ⊢
      obtain ⟨L, hL⟩ : ∃ L, L = FS.length := ⟨_, rfl⟩
      rw [← hL] at ho hle hpos ⊢
      have HFS := Lib.hid hFS
      have HLL := Lib.hid hL
      clear e hFS hL
      go_wp2_with fail
      refine (sort_any _ _ A5 L c5 FS _ ho (by omega) (by omega) HASC.out).mono ?_
      rintro e w2 ⟨rfl, ho2, hg2⟩
      have hb2 := hb.grown hg2 hb.size (fun q hq => (ho.lt q hq).1)
      go_wp2_with fail
      go_ret2
      show FamPost w (famM fit ks) _ _
      rw [← HFS.out]
      exact .inl ⟨by rw [← HLL.out]; exact hle, A5, c5, by rw [← HLL.out]; rfl, by rw [← HLL.out]; exact ho2, hb2⟩
end Go.Proofs.YtcojodkcpemfdaaDoor
