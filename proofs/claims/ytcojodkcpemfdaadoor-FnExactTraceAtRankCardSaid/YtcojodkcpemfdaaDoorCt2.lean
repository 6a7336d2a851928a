/-
  The check of an alphabet, a length and masks ahead of counting; CountTraces: the program's way. One more slice behind an own row of slices. The model's table of tails: plain mathematics. The model's table of tails, by contracts. CountTraces: the model's side.
-/
import Derived.Test.YtcojodkcpemfdaaDoorCt1
import Derived.Test.YtcojodkcpemfdaaDoorWord
import Derived.Test.YtcojodkcpemfdaaDoorSSL
import Derived.Maps.AppendAt
namespace Go.Proofs.YtcojodkcpemfdaaDoor
open Go Go.RowKit
set_option linter.unusedVariables false
set_option maxRecDepth 100000

def lenB (a : Int) : Bool := decide (0 ≤ a ∧ a ≤ 24)
def badM (L : Int) (ms : List Int) : Bool := ms.any fun m => !isMaskB m L
theorem isLen_any (a : Int) (w : World) : Calls Tryd.prog 152 #[.int .i64 a] w fun e w' => e = .returned (.bool (lenB a)) ∧ w = w' := by
  by_cases h1 : 0 ≤ a
  · by_cases h2 : a ≤ 24
    · have HB : Hid (lenB a = true) := Lib.hid (decide_eq_true ⟨h1, h2⟩)
      go_enter Tryd.func152, Tryd.ntmps152
      go_wp2
      go_ret
      exact ⟨ret_b _ _ (by rw [HB.out]), rfl⟩
    · have HB : Hid (lenB a = false) := Lib.hid (decide_eq_false (by omega))
      go_enter Tryd.func152, Tryd.ntmps152
      go_wp2
      go_ret
      exact ⟨ret_b _ _ (by rw [HB.out]), rfl⟩
  · have HB : Hid (lenB a = false) := Lib.hid (decide_eq_false (by omega))
    go_enter Tryd.func152, Tryd.ntmps152
    go_wp2
    go_ret
    exact ⟨ret_b _ _ (by rw [HB.out]), rfl⟩
theorem noMask_any (b : Nat) (L m : Int) (hm1 : -9223372036854775808 ≤ m) (hm2 : m ≤ 9223372036854775807) (w : World) (hc : w.cell? ⟨b, 0, none⟩ = some (.int .i64 L)) :
    Calls Tryd.prog 151 #[.int .i64 m, .pointer (some ⟨b, 0, none⟩)] w fun e w' => e = .returned (.bool (!isMaskB m L)) ∧ w = w' := by
  have HM := Lib.hid (isMask_any m L hm1 hm2 w)
  go_enter Tryd.func151, Tryd.ntmps151
  go_wp2_with fail
  refine HM.out.mono ?_
  rintro e w' ⟨rfl, rfl⟩
  go_wp2
  go_ret
  exact ⟨rfl, rfl⟩
/-- What is answered: a relation of the call's own with the number, or a code. -/
def CinPost (w : World) (L : Int) (xs : List Int) (a : Int) (ms : List Int) (e : Ending) (w' : World) : Prop :=
  if alphB L xs = true then
    (if (lenB a && !badM L ms) = true then
      (if ctB (xs.map Int.toNat) a.toNat = true then ∃ A' c', e = .returned (.tuple #[.slice A' xs.length c', .int .i64 (traM (xs.map Int.toNat) a.toNat), .int .i64 0]) ∧ Own 84 w' w.heap.size A' xs.length c' xs ∧ Below w.heap.size w w'
      else e = .returned (.tuple #[.slice none 0 0, .int .i64 0, .int .i64 3]) ∧ Below w.heap.size w w')
    else e = .returned (.tuple #[.slice none 0 0, .int .i64 0, .int .i64 2]) ∧ Below w.heap.size w w')
  else e = .returned (.tuple #[.slice none 0 0, .int .i64 0, .int .i64 1]) ∧ Below w.heap.size w w'
set_option maxHeartbeats 3200000 in
theorem countIn_any (L : Int) (A : Option Addr) (n c : Nat) (xs : List Int) (a : Int) (AM : Option Addr) (nm cm : Nat) (ms : List Int) (w : World) (h : Rd w A n xs) (hwf : Wf xs) (hL1 : -9223372036854775808 ≤ L) (hL2 : L ≤ 9223372036854775807) (hn : n ≤ 9223372036854775807) (hM : Rd w AM nm ms) (hwm : Wf ms) (hnm : nm ≤ 1048576) (hT : Tab w) :
    Calls Tryd.prog 95 #[.agg #[.int .i64 L, .slice A n c], .int .i64 a, .slice AM nm cm] w (CinPost w L xs a ms) := by
  have HB := Lib.hid (below1 w (.cells #[.int .i64 L, .slice A n c] 29))
  have hh := h.below HB.out
  have hT1 := hT.below HB.out
  have x0 := box_new 29 w L A n c
  cases ha : alphB L xs
  · have HP : Hid (∀ e w', e = .returned (.tuple #[.slice none 0 0, .int .i64 0, .int .i64 1]) ∧ Below w.heap.size w w' → CinPost w L xs a ms e w') := Lib.hid fun e w' h9 => by unfold CinPost; rw [if_neg (by rw [ha]; decide)]; exact h9
    have HA := Lib.hid ha
    clear ha
    go_enter Tryd.func95, Tryd.ntmps95
    go_wp2_with fail
    refine (dependenceOf_no L _ _ _ xs _ hh hwf hL1 hL2 hn HA.out hT1).mono ?_
    rintro e w1 ⟨rfl, hb⟩
    go_wp2_with fail
    go_ret3
    exact HP.out _ _ ⟨rfl, HB.out.trans (hb.mono HB.out.size)⟩
  · have hxl := h.1
    obtain ⟨rs, rfl, rfl, h8, hr, hrel, hl, hd, hnat⟩ := alphB_nats L xs n hxl ha
    have HD := Lib.hid ((depB_iff rs n hl hr).1 hd)
    have eg : ∀ args w, (callFunc 151 args).run Tryd.prog w = .ok (.enter 151 args) w := fun args w => Go.MuLone.run_callFunc_enter (P := Tryd.prog) Tryd.func151 (by kernel_rfl) rfl args w
    have HL := Lib.hid (fun ww => isLen_any a ww)
    have HCF : Hid (∀ ww, Below (w.alloc (.cells #[.int .i64 (n : Int), .slice A n c] 29)).heap.size (w.alloc (.cells #[.int .i64 (n : Int), .slice A n c] 29)) ww → Calls Tryd.prog 138 #[.slice AM nm cm, .func (.func 151) #[] #[.pointer (some ⟨w.heap.size, 0, none⟩)]] ww fun e w' => e = .returned (.bool (badM (n : Int) ms)) ∧ ww = w') := Lib.hid fun ww hw =>
      containsFuncI_any (fun m => !isMaskB m (n : Int)) 151 #[.pointer (some ⟨w.heap.size, 0, none⟩)] AM nm cm ms ww ((hM.below HB.out).below hw) hnm eg (fun x hx => noMask_any w.heap.size (n : Int) x (hwm x hx).1 (hwm x hx).2 ww ((x0.next hw).c0))
    clear eg
    by_cases hl1 : lenB a = true
    · cases hb9 : badM (n : Int) ms
      · have ha2 : 0 ≤ a ∧ a ≤ 24 := of_decide_eq_true hl1
        obtain ⟨k, rfl⟩ := Int.eq_ofNat_of_zero_le ha2.1
        have hk : k ≤ 24 := by omega
        rw [hl1] at HL
        rw [hb9] at HCF
        cases hct : ctB rs k
        · have HP : Hid (∀ e w', e = .returned (.tuple #[.slice none 0 0, .int .i64 0, .int .i64 3]) ∧ Below w.heap.size w w' → CinPost w (n : Int) (ints rs) (k : Int) ms e w') := Lib.hid fun e w' h9 => by
            unfold CinPost; rw [if_pos ha, if_pos (by rw [hl1, hb9]; rfl), if_neg (by rw [ints_toNat]; show ¬ ctB rs k = true; rw [hct]; decide)]; exact h9
          have HCT := Lib.hid hct
          clear ha hl ha2 hb9 hct hl1 hnat hxl
          go_enter Tryd.func95, Tryd.ntmps95
          go_wp2_with fail
          refine (dependenceOf_yes _ _ _ _ rs _ hh hwf h8 rfl hr hrel hd hT1).mono ?_
          rintro e w1 ⟨A1, c1, rfl, ho1, hb1⟩
          have HB1 := Lib.hid (HB.out.trans (hb1.mono HB.out.size))
          have HC1 := Lib.hid (HCF.out w1 hb1)
          have HN := Lib.hid (countTraces_any A1 n c1 k rs w1 ho1.rd h8 hr HD.out (hT1.below hb1) hk)
          rw [HCT.out] at HN
          obtain ⟨V, hV⟩ : ∃ V, V = ctN rs k := ⟨_, rfl⟩
          rw [← hV] at HN
          clear hV
          go_wp2_with fail
          refine (HL.out _).mono ?_
          rintro e w' ⟨rfl, rfl⟩
          go_wp2_with fail
          refine HC1.out.mono ?_
          rintro e w' ⟨rfl, rfl⟩
          go_wp2_with fail
          refine HN.out.mono ?_
          rintro e w2 ⟨rfl, hb2⟩
          go_wp2_with fail
          go_ret3
          exact HP.out _ _ ⟨rfl, HB1.out.trans (hb2.mono HB1.out.size)⟩
        · have hV : ctN rs k = traM rs k := by
            unfold ctN; rw [if_pos (of_decide_eq_true hct)]
          have HP : Hid (∀ e w', (∃ A' c', e = .returned (.tuple #[.slice A' n c', .int .i64 (ctN rs k), .int .i64 0]) ∧ Own 84 w' w.heap.size A' n c' (ints rs) ∧ Below w.heap.size w w') → CinPost w (n : Int) (ints rs) (k : Int) ms e w') := Lib.hid fun e w' h9 => by
            unfold CinPost; rw [if_pos ha, if_pos (by rw [hl1, hb9]; rfl), if_pos (by rw [ints_toNat]; exact hct), ints_toNat, ints_len, hl]
            show ∃ A' c', e = .returned (.tuple #[.slice A' n c', .int .i64 (traM rs k), .int .i64 0]) ∧ _
            rw [← hV]; exact h9
          have HCT := Lib.hid hct
          clear ha hl ha2 hb9 hct hl1 hnat hxl hV
          go_enter Tryd.func95, Tryd.ntmps95
          go_wp2_with fail
          refine (dependenceOf_yes _ _ _ _ rs _ hh hwf h8 rfl hr hrel hd hT1).mono ?_
          rintro e w1 ⟨A1, c1, rfl, ho1, hb1⟩
          have HB1 := Lib.hid (HB.out.trans (hb1.mono HB.out.size))
          have HC1 := Lib.hid (HCF.out w1 hb1)
          have HN := Lib.hid (countTraces_any A1 n c1 k rs w1 ho1.rd h8 hr HD.out (hT1.below hb1) hk)
          rw [HCT.out] at HN
          have HP2 := Lib.hid HP.out
          obtain ⟨V, hV⟩ : ∃ V, V = ctN rs k := ⟨_, rfl⟩
          rw [← hV] at HN HP2
          clear hV HP
          go_wp2_with fail
          refine (HL.out _).mono ?_
          rintro e w' ⟨rfl, rfl⟩
          go_wp2_with fail
          refine HC1.out.mono ?_
          rintro e w' ⟨rfl, rfl⟩
          go_wp2_with fail
          refine HN.out.mono ?_
          rintro e w2 ⟨rfl, hb2⟩
          have ho3 := (ho1.below hb2).mono HB.out.size
          have HB2 := Lib.hid (HB1.out.trans (hb2.mono HB1.out.size))
          go_wp2_with fail
          go_ret3
          exact HP2.out _ _ ⟨A1, c1, rfl, ho3, HB2.out⟩
      · have HP : Hid (∀ e w', e = .returned (.tuple #[.slice none 0 0, .int .i64 0, .int .i64 2]) ∧ Below w.heap.size w w' → CinPost w (n : Int) (ints rs) a ms e w') := Lib.hid fun e w' h9 => by
          unfold CinPost; rw [if_pos ha, if_neg (by rw [hb9]; simp)]; exact h9
        rw [hl1] at HL
        rw [hb9] at HCF
        clear ha hl hb9 hl1 hnat hxl
        go_enter Tryd.func95, Tryd.ntmps95
        go_wp2_with fail
        refine (dependenceOf_yes _ _ _ _ rs _ hh hwf h8 rfl hr hrel hd hT1).mono ?_
        rintro e w1 ⟨A1, c1, rfl, ho1, hb1⟩
        have HB1 := Lib.hid (HB.out.trans (hb1.mono HB.out.size))
        have HC1 := Lib.hid (HCF.out w1 hb1)
        go_wp2_with fail
        refine (HL.out _).mono ?_
        rintro e w' ⟨rfl, rfl⟩
        go_wp2_with fail
        refine HC1.out.mono ?_
        rintro e w' ⟨rfl, rfl⟩
        go_wp2_with fail
        go_ret3
        exact HP.out _ _ ⟨rfl, HB1.out⟩
    · have hl2 : lenB a = false := by simpa using hl1
      have HP : Hid (∀ e w', e = .returned (.tuple #[.slice none 0 0, .int .i64 0, .int .i64 2]) ∧ Below w.heap.size w w' → CinPost w (n : Int) (ints rs) a ms e w') := Lib.hid fun e w' h9 => by
        unfold CinPost; rw [if_pos ha, if_neg (by rw [hl2]; simp)]; exact h9
      rw [hl2] at HL
      clear ha hl hl1 hl2 hnat hxl
      go_enter Tryd.func95, Tryd.ntmps95
      go_wp2_with fail
      refine (dependenceOf_yes _ _ _ _ rs _ hh hwf h8 rfl hr hrel hd hT1).mono ?_
      rintro e w1 ⟨A1, c1, rfl, ho1, hb1⟩
      have HB1 := Lib.hid (HB.out.trans (hb1.mono HB.out.size))
      go_wp2_with fail
      refine (HL.out _).mono ?_
      rintro e w' ⟨rfl, rfl⟩
      go_wp2_with fail
      go_ret3
      exact HP.out _ _ ⟨rfl, HB1.out⟩
/-- What CountTraces answers. -/
def ctAns (L : Int) (xs : List Int) (a : Int) : Int × Int :=
  if alphB L xs = true then (if lenB a = true then (if ctB (xs.map Int.toNat) a.toNat = true then (traM (xs.map Int.toNat) a.toNat, 0) else (0, 3)) else (0, 2)) else (0, 1)
end Go.Proofs.YtcojodkcpemfdaaDoor
namespace Go.Proofs.YtcojodkcpemfdaaDoor
open Go Go.RowKit
set_option linter.unusedVariables false
set_option maxRecDepth 100000

theorem own_blockS (A : Option Addr) (n c : Nat) : (Value.slice A n c).ownBlock = A.map (·.block) := by cases A <;> rfl
theorem alloc_grownS {w w' : World} {o : Obj} {row : Option Nat} (hg : (w.alloc o).grownBy w' row) : w.grownBy w' row := by
  have hb := below1 w o
  exact ⟨hg.os.trans hb.os, hg.tape.trans hb.tape, hg.output.trans hb.output, Nat.le_trans hb.size hg.size, fun k hk hne => (hg.block k (Nat.lt_of_lt_of_le hk hb.size) hne).trans (hb.block k hk)⟩
theorem info_slsS : (Tryd.prog.info? 22).map (fun i => (i.zero, i.size, i.bytes)) = some (some (.slice none 0 0), 1, 24) := by kernel_rfl
/-- One more slice behind a row of slices: the element is new behind the row's elements; the row itself may have moved. -/
theorem OwnSS.snocS {w w1 w2 : World} {lo n N c : Nat} {A : Option Addr} {v' : Value} {At : Option Addr} {ct : Nat} {ys : List Int}
    {ts : List (Option Addr × Nat × List Int)} (h : OwnT w lo w.heap.size A n c ts) (hb : Below w.heap.size w w1) (ho : Own 2 w1 w.heap.size At N ct ys) (hlo : lo ≤ w.heap.size)
    (hrow : w2.ownsRow lo 22 1 v' (n + 1) (valsT ts ++ [.slice At N ct])) (hg : w1.grownBy w2 (A.map (·.block)))
    (hat : v'.ownBlock = A.map (·.block) ∨ ∃ g, v'.ownBlock = some g ∧ w1.heap.size ≤ g) :
    ∃ A' c', v' = .slice A' (n + 1) c' ∧ OwnSS w2 lo w2.heap.size A' (n + 1) c' (ts.map (fun t => t.2.2) ++ [ys]) := by
  obtain ⟨g9, c', rfl, _, _⟩ := World.ownsRow.form hrow (Nat.succ_pos n)
  obtain ⟨A', hA9⟩ : ∃ A', A' = some (⟨g9, 0, none⟩ : Addr) := ⟨_, rfl⟩
  rw [← hA9] at hrow hat ⊢
  have ht := h
  have hN : ys.length = N := ho.len
  have hsz : w.heap.size ≤ w1.heap.size := hb.size
  have hsz2 : w1.heap.size ≤ w2.heap.size := hg.size
  have hA : ∀ q, A.map (·.block) = some q → lo ≤ q ∧ q < w.heap.size := fun q hq => row_block ht.2.1 q hq
  have hAt : ∀ q, At.map (·.block) = some q → w.heap.size ≤ q ∧ q < w1.heap.size := fun q hq => ho.lt q hq
  have hA' : ∀ q, A'.map (·.block) = some q → A.map (·.block) = some q ∨ w1.heap.size ≤ q := fun q hq => by
    rw [own_blockS] at hat
    rcases hat with h9 | ⟨g, h9, h8⟩
    · exact .inl (h9 ▸ hq)
    · rw [hq] at h9; injection h9 with h9; exact .inr (by omega)
  refine ⟨A', c', rfl, ts ++ [(At, ct, ys)], by rw [List.map_append]; rfl, by rw [List.length_append, ht.1]; rfl, ?_, fun q hq => (row_block hrow q hq).2, fun j t hj => ?_⟩
  · have : valsT (ts ++ [(At, ct, ys)]) = valsT ts ++ [.slice At N ct] := by unfold valsT; rw [List.map_append, ← hN]; rfl
    rw [this]; exact hrow
  · rcases Nat.lt_or_ge j ts.length with hlt | hge
    · rw [List.getElem?_append_left hlt] at hj
      have h9 := ht.2.2.2 j t hj
      have hblk : ∀ q, t.1.map (·.block) = some q → q < w.heap.size := fun q hq => (h9.1.lt q hq).2
      refine ⟨(h9.1.below hb).apart hg (fun q hq e9 => (h9.2 q hq).2.1 e9), fun q hq => ⟨by have := hblk q hq; omega, fun e9 => ?_, fun l u hl hu => ?_⟩⟩
      · rcases hA' q e9 with h8 | h8
        · exact (h9.2 q hq).2.1 h8
        · have := hblk q hq; omega
      · rcases Nat.lt_or_ge l ts.length with hl2 | hl2
        · rw [List.getElem?_append_left hl2] at hu
          exact (h9.2 q hq).2.2 l u hl hu
        · rw [List.getElem?_append_right hl2] at hu
          cases hd : l - ts.length with
          | zero =>
            rw [hd] at hu
            injection hu with hu
            subst hu
            intro e8
            have := (hAt q e8).1; have := hblk q hq; omega
          | succ k => rw [hd] at hu; cases hu
    · rw [List.getElem?_append_right hge] at hj
      cases hd : j - ts.length with
      | zero =>
        rw [hd] at hj
        injection hj with hj
        subst hj
        have hjl : j = ts.length := by omega
        refine ⟨?_, fun q hq => ⟨by have := (hAt q hq).2; omega, fun e9 => ?_, fun l u hl hu e8 => ?_⟩⟩
        · show Own 2 w2 lo At ys.length ct ys
          rw [hN]
          exact (ho.mono hlo).apart hg (fun q hq e9 => by have := (hA q e9).2; have := (hAt q hq).1; omega)
        · have h7 := hAt q hq
          rcases hA' q e9 with h8 | h8
          · have := (hA q h8).2; omega
          · omega
        · rcases Nat.lt_or_ge l ts.length with hl2 | hl2
          · rw [List.getElem?_append_left hl2] at hu
            have := ((ht.2.2.2 l u hu).1.lt q e8).2
            have := (hAt q hq).1; omega
          · rw [List.getElem?_append_right hl2] at hu
            have : l - ts.length ≠ 0 := by omega
            cases hk : l - ts.length with
            | zero => exact this hk
            | succ k => rw [hk] at hu; cases hu
      | succ k => rw [hd] at hj; cases hj
end Go.Proofs.YtcojodkcpemfdaaDoor
namespace Go.Proofs.YtcojodkcpemfdaaDoor
open Go Go.RowKit
set_option linter.unusedVariables false
set_option maxRecDepth 100000

/-- What must not follow, behind a letter. -/
def stM (rs : List Nat) (mask c : Nat) : Nat := dif (mask ||| (2 ^ c - 1)) (rs.getD c 0)
def capV (x : Int) : Int := if cntC < x then cntC + 1 else x
def sumF (f : Nat → Int) (l : List Nat) : Int := l.foldl (fun s a => s + f a) 0
def tlV (rs : List Nat) (n : Nat) : Nat → Nat → Int
  | 0, _ => 1
  | m + 1, mask => capV (sumF (fun c => tlV rs n m (stM rs mask c)) ((List.range n).filter fun c => !mask.testBit c))
def tlS (rs : List Nat) (n m mask k : Nat) : Int := sumF (fun c => tlV rs n m (stM rs mask c)) ((List.range k).filter fun c => !mask.testBit c)
theorem tlS_zero (rs : List Nat) (n m mask : Nat) : tlS rs n m mask 0 = 0 := rfl
theorem sumF_snoc (f : Nat → Int) (l : List Nat) (a : Nat) : sumF f (l ++ [a]) = sumF f l + f a := by unfold sumF; rw [List.foldl_append]; rfl
theorem tlS_yes (rs : List Nat) (n m mask k : Nat) (h : mask.testBit k = true) : tlS rs n m mask (k + 1) = tlS rs n m mask k := by
  unfold tlS; rw [List.range_succ, List.filter_append]; simp [h]
theorem tlS_no (rs : List Nat) (n m mask k : Nat) (h : mask.testBit k = false) : tlS rs n m mask (k + 1) = tlS rs n m mask k + tlV rs n m (stM rs mask k) := by
  have e : [k].filter (fun c => !mask.testBit c) = [k] := by simp [h]
  unfold tlS; rw [List.range_succ, List.filter_append, e, sumF_snoc]
theorem sumF_bounds (f : Nat → Int) (B : Int) (hB : 0 ≤ B) (h : ∀ a, 0 ≤ f a ∧ f a ≤ B) : ∀ l : List Nat, 0 ≤ sumF f l ∧ sumF f l ≤ l.length * B := by
  intro l
  obtain ⟨k, hk⟩ : ∃ k, k = l.length := ⟨_, rfl⟩
  induction k generalizing l with
  | zero => cases l with | nil => simp [sumF] | cons _ _ => simp at hk
  | succ k ih =>
    obtain ⟨g, b, rfl⟩ : ∃ g b, l = g ++ [b] := ⟨l.dropLast, l.getLast (by intro e; rw [e] at hk; simp at hk), (List.dropLast_concat_getLast _).symm⟩
    have h1 := ih g (by simp at hk; omega)
    have h2 := h b
    rw [sumF_snoc, List.length_append, List.length_singleton]
    have : ((g.length + 1 : Nat) : Int) * B = g.length * B + B := by rw [Int.natCast_succ, Int.add_mul, Int.one_mul]
    omega
theorem tlV_bounds (rs : List Nat) (n : Nat) : ∀ m mask, 0 ≤ tlV rs n m mask ∧ tlV rs n m mask ≤ cntC + 1
  | 0, mask => by unfold tlV cntC; decide
  | m + 1, mask => by
    have h := (sumF_bounds (fun c => tlV rs n m (stM rs mask c)) (cntC + 1) (by decide) (fun c => tlV_bounds rs n m (stM rs mask c)) ((List.range n).filter fun c => !mask.testBit c)).1
    show 0 ≤ capV _ ∧ capV _ ≤ _
    unfold capV
    split <;> unfold cntC at * <;> omega
theorem tlS_bounds (rs : List Nat) (n m mask k : Nat) (hk : k ≤ 8) : 0 ≤ tlS rs n m mask k ∧ tlS rs n m mask k ≤ 8000000000000008 := by
  have h := sumF_bounds (fun c => tlV rs n m (stM rs mask c)) (cntC + 1) (by decide) (fun c => tlV_bounds rs n m (stM rs mask c)) ((List.range k).filter fun c => !mask.testBit c)
  have hl : ((List.range k).filter fun c => !mask.testBit c).length ≤ 8 := by
    have := List.length_filter_le (fun c => !mask.testBit c) (List.range k)
    rw [List.length_range] at this; omega
  have h2 : (((List.range k).filter fun c => !mask.testBit c).length : Int) * (cntC + 1) ≤ 8 * (cntC + 1) := Int.mul_le_mul_of_nonneg_right (by omega) (by decide)
  have h3 : (8 : Int) * (cntC + 1) = 8000000000000008 := by decide
  unfold tlS; omega
def rowV (rs : List Nat) (n m k : Nat) : List Int := (List.range k).map (tlV rs n m)
theorem rowV_next (rs : List Nat) (n m k : Nat) : rowV rs n m (k + 1) = rowV rs n m k ++ [tlV rs n m k] := by unfold rowV; rw [List.range_succ, List.map_append]; rfl
theorem rowV_len (rs : List Nat) (n m k : Nat) : (rowV rs n m k).length = k := by unfold rowV; rw [List.length_map, List.length_range]
theorem rowV_at (rs : List Nat) (n m k i : Nat) (h : i < k) : (rowV rs n m k)[i]? = some (tlV rs n m i) := by unfold rowV; rw [List.getElem?_map, List.getElem?_range h]; rfl
def tabV (rs : List Nat) (n k : Nat) : List (List Int) := (List.range k).map fun m => rowV rs n m (2 ^ n)
theorem tabV_next (rs : List Nat) (n k : Nat) : tabV rs n (k + 1) = tabV rs n k ++ [rowV rs n k (2 ^ n)] := by unfold tabV; rw [List.range_succ, List.map_append]; rfl
theorem tabV_at (rs : List Nat) (n k i : Nat) (h : i < k) : (tabV rs n k)[i]? = some (rowV rs n i (2 ^ n)) := by unfold tabV; rw [List.getElem?_map, List.getElem?_range h]; rfl
theorem stM_lt (rs : List Nat) (n mask c : Nat) (hm : mask < 2 ^ n) (hc : c < n) : stM rs mask c < 2 ^ n := by
  unfold stM
  refine Nat.lt_of_le_of_lt (dif_le _ _) (Nat.or_lt_two_pow hm ?_)
  have := p2_pos c
  have : 2 ^ c ≤ 2 ^ n := Nat.pow_le_pow_right (by decide) (by omega)
  omega
/-- The table caps the numbers of normal forms. -/
theorem capV_sum (f g : Nat → Int) (h : ∀ a, f a = capV (g a)) (hg : ∀ a, 0 ≤ g a) : ∀ l : List Nat, capV (sumF f l) = capV (sumF g l) ∧ sumF f l ≤ sumF g l ∧ 0 ≤ sumF f l := by
  intro l
  obtain ⟨k, hk⟩ : ∃ k, k = l.length := ⟨_, rfl⟩
  induction k generalizing l with
  | zero => cases l with | nil => simp [sumF] | cons _ _ => simp at hk
  | succ k ih =>
    obtain ⟨q, b, rfl⟩ : ∃ q b, l = q ++ [b] := ⟨l.dropLast, l.getLast (by intro e; rw [e] at hk; simp at hk), (List.dropLast_concat_getLast _).symm⟩
    obtain ⟨h1, h2, h3⟩ := ih q (by simp at hk; omega)
    rw [sumF_snoc, sumF_snoc, h b]
    have hb := hg b
    unfold capV cntC at *
    split at h1 <;> split at h1 <;> split <;> (try split) <;> (try split) <;> omega
theorem tl_tp (rs : List Nat) (n : Nat) (hr : ∀ i, rs.getD i 0 < 2 ^ n) (h8 : n ≤ 8) : ∀ m mask, mask < 2 ^ n → tlV rs n m mask = capV (tp (RDep rs) n m fun x => !mask.testBit x)
  | 0, mask, _ => by unfold tlV tp capV cntC; decide
  | m + 1, mask, hm => by
    have hp8 : 2 ^ n ≤ 256 := Nat.pow_le_pow_right (by decide) h8
    have h1 : ∀ c, c ∈ (List.range n).filter (fun c => !mask.testBit c) → tlV rs n m (stM rs mask c) = capV (tp (RDep rs) n m fun x => (!mask.testBit x && decide (c ≤ x)) || RDep rs c x) := by
      intro c hc
      have hcn := List.mem_range.1 (List.mem_filter.1 hc).1
      rw [tl_tp rs n hr h8 m (stM rs mask c) (stM_lt rs n mask c hm hcn)]
      congr 2
      funext x
      have hor : mask ||| (2 ^ c - 1) < 2 ^ n := Nat.or_lt_two_pow hm (by have := p2_pos c; have : 2 ^ c ≤ 2 ^ n := Nat.pow_le_pow_right (by decide) (by omega); omega)
      unfold stM
      have := hr c
      rw [dif_bit _ _ _ (by omega) (by omega), Nat.testBit_or, Nat.testBit_two_pow_sub_one]
      unfold RDep
      cases mask.testBit x <;> cases (rs.getD c 0).testBit x <;> by_cases hx : c ≤ x <;> simp [hx] <;> omega
    show capV (sumF _ _) = capV (((List.range n).filter fun c => !mask.testBit c).foldl _ 0)
    have hs : sumF (fun c => tlV rs n m (stM rs mask c)) ((List.range n).filter fun c => !mask.testBit c) = sumF (fun c => capV (tp (RDep rs) n m fun x => (!mask.testBit x && decide (c ≤ x)) || RDep rs c x)) ((List.range n).filter fun c => !mask.testBit c) := foldl_congr' _ _ _ _ h1
    rw [hs]
    exact (capV_sum _ (fun c => tp (RDep rs) n m fun x => (!mask.testBit x && decide (c ≤ x)) || RDep rs c x) (fun a => rfl) (fun a => tp_nonneg _ _ _ _) _).1
theorem tl_all (rs : List Nat) (n : Nat) (hn : rs.length = n) (hr : ∀ i, rs.getD i 0 < 2 ^ n) (h8 : n ≤ 8) (m : Nat) : tlV rs n m 0 = capV (traM rs m) := by
  rw [tl_tp rs n hr h8 m 0 (p2_pos n)]
  unfold traM tM
  rw [hn]
  congr 2
  funext x; simp
theorem and_dif : ∀ X, X < 256 → ∀ D, D < 256 → (X &&& D) + dif X D = X := by decide +kernel
end Go.Proofs.YtcojodkcpemfdaaDoor
namespace Go.Proofs.YtcojodkcpemfdaaDoor
open Go Go.RowKit
set_option linter.unusedVariables false
set_option maxRecDepth 100000

set_option maxHeartbeats 800000 in
theorem after_any (A : Option Addr) (n c k mask : Nat) (rs : List Nat) (w : World) (h : Rd w A n (ints rs)) (h8 : n ≤ 8) (hr : ∀ i, rs.getD i 0 < 2 ^ n) (hm : mask < 2 ^ n) (hk : k < n) :
    Calls Tryd.prog 156 #[.agg #[.int .i64 (n : Int), .slice A n c], .int .i64 (mask : Int), .int .i64 (k : Int)] w fun e w' => e = .returned (.int .i64 ((stM rs mask k : Nat) : Int)) ∧ Below w.heap.size w w' := by
  have hlen : rs.length = n := by have := h.1; rw [ints_len] at this; exact this
  have hp8 : 2 ^ n ≤ 256 := Nat.pow_le_pow_right (by decide) h8
  have HB := Lib.hid (below1 w (.cells #[.int .i64 (n : Int), .slice A n c] 29))
  have x0 := box_new 29 w (n : Int) A n c
  obtain ⟨b, off, x, rfl, hbs, hx, hcx⟩ := (h.below HB.out).at_ hk
  have hx2 := ints_getD rs k (by rw [hlen]; exact hk)
  rw [hx2] at hx
  injection hx with hx
  subst hx
  have hrk := hr k
  have hpk : 2 ^ k - 1 < 2 ^ n := by have := p2_pos k; have : 2 ^ k ≤ 2 ^ n := Nat.pow_le_pow_right (by decide) (by omega); omega
  have hX : mask ||| (2 ^ k - 1) < 2 ^ n := Nat.or_lt_two_pow hm hpk
  have HS : Hid (stM rs mask k = dif (mask ||| (2 ^ k - 1)) (rs.getD k 0)) := Lib.hid rfl
  have hk62 : k ≤ 62 := by omega
  obtain ⟨D, hD⟩ : ∃ D, D = rs.getD k 0 := ⟨_, rfl⟩
  rw [← hD] at hcx hrk HS
  obtain ⟨F, hF⟩ : ∃ F, F = 2 ^ k - 1 := ⟨_, rfl⟩
  have HFU : Hid (∀ (ww : World) (j : Nat), Calls Tryd.prog 124 #[.int .i64 (k : Int)] (ww.drewN j) fun e w'' => e = .returned (.int .i64 (F : Int)) ∧ ∃ m', w'' = ww.drewN m') := Lib.hid fun ww j => by rw [hF]; exact full_q k hk62 ww j
  rw [← hF] at hX hpk HS
  obtain ⟨X, hX2⟩ : ∃ X, X = mask ||| F := ⟨_, rfl⟩
  rw [← hX2] at hX HS
  have hor : bits .or .i64 (mask : Int) (F : Int) = (X : Int) := by rw [hX2]; exact or63 mask F (by omega) (by omega)
  have had := and_dif X (by omega) D (by omega)
  obtain ⟨Y, hY⟩ : ∃ Y, Y = X &&& D := ⟨_, rfl⟩
  rw [← hY] at had
  have hand : bits .and .i64 (X : Int) (D : Int) = (Y : Int) := by rw [hY]; exact i64_and_nat X D (by omega) (by omega)
  obtain ⟨Z, hZ⟩ : ∃ Z, Z = dif X D := ⟨_, rfl⟩
  rw [← hZ] at had HS
  have hsub : IntKind.i64.wrap ((X : Int) - (Y : Int)) = (Z : Int) := by rw [IntKind.wrap_i64]; omega
  have y0 := x0.c0
  have y1 := x0.c1
  have hkn : k < n := hk
  clear hlen hx2 hrk hpk hX2 hY hZ hF hD had
  go_enter Tryd.func156, Tryd.ntmps156
  go_wp2_with fail
  go_quiet ((go_at_call 124; exact HFU.out _ _))
  go_wp2
  go_ret
  exact ⟨ret_i _ _ (by rw [HS.out]), below_drewN HB.out _⟩
theorem RdSS.elem {w : World} {A : Option Addr} {n k : Nat} {xss : List (List Int)} {xs : List Int} (h : RdSS w A n xss) (hk : k < n) (hx : xss[k]? = some xs) :
    ∃ b off C c, A = some ⟨b, off, none⟩ ∧ b < w.heap.size ∧ w.cell? ⟨b, off + k, none⟩ = some (.slice C xs.length c) ∧ Rd w C xs.length xs := by
  obtain ⟨ts, e, ho⟩ := h
  obtain ⟨b, off, C, m, c, ys, hA, hb, ht, hc, hr, _⟩ := ho.at_ hk
  have : ys = xs := by
    rw [← e, List.getElem?_map, ht] at hx
    injection hx
  subst this
  have hm := hr.1
  subst hm
  exact ⟨b, off, C, c, hA, hb, hc, hr⟩
theorem one_ownSS {w : World} {B N c : Nat} {A : Option Addr} {ys : List Int} (o : Own 2 w B A N c ys) (hB : B ≤ w.heap.size) :
    OwnSS (w.alloc (.cells #[.slice A N c] 22)) B (w.alloc (.cells #[.slice A N c] 22)).heap.size (some ⟨w.heap.size, 0, none⟩) 1 1 [ys] := by
  have e := o.len
  subst e
  have hz : (w.alloc (.cells #[.slice A ys.length c] 22)).heap.size = w.heap.size + 1 := by simp
  have p := o.below (below1 w (.cells #[.slice A ys.length c] 22))
  refine ⟨[(A, c, ys)], rfl, rfl, ⟨rfl, .inr ⟨w.heap.size, 1, _, rfl, hB, World.alloc_heap_new w _, Nat.le_refl _, by unfold maxLen; omega, rfl, rfl⟩⟩, fun q hq => ?_, fun j t ht => ?_⟩
  · injection hq with hq
    have h9 : w.heap.size = q := hq
    omega
  · match j, ht with
    | 0, ht =>
      simp at ht
      subst ht
      refine ⟨p, fun q hq => ⟨by have := (o.lt q hq).2; omega, fun e => ?_, fun l u hl hu => ?_⟩⟩
      · injection e with e
        have h9 : w.heap.size = q := e
        have := (o.lt q hq).2; omega
      · match l, hl, hu with
        | 0, hl, _ => exact absurd rfl hl
        | l + 1, _, hu => simp at hu
    | j + 1, ht => simp at ht
set_option maxHeartbeats 6400000 in
theorem tails_any (A : Option Addr) (n c k : Nat) (rs : List Nat) (w : World) (h : Rd w A n (ints rs)) (h8 : n ≤ 8) (hr : ∀ i, rs.getD i 0 < 2 ^ n) (hk : k ≤ 24) :
    Calls Tryd.prog 148 #[.agg #[.int .i64 (n : Int), .slice A n c], .int .i64 (k : Int)] w fun e w' => ∃ A' c', e = .returned (.slice A' (k + 1) c') ∧ OwnSS w' w.heap.size w'.heap.size A' (k + 1) c' (tabV rs n (k + 1)) ∧ Below w.heap.size w w' := by
  have hp8 : 2 ^ n ≤ 256 := Nat.pow_le_pow_right (by decide) h8
  have hp0 := p2_pos n
  obtain ⟨i0, hi, hz0, hz1, hz2⟩ := info_parts info_int
  obtain ⟨i1, hi1, hy0, hy1, hy2⟩ := info_parts info_slsS
  have HB := Lib.hid (below1 w (.cells #[.int .i64 (n : Int), .slice A n c] 29))
  have hh := h.below HB.out
  have x0 := box_new 29 w (n : Int) A n c
  have HAF : Hid (∀ (ww : World) (mask j : Nat), Rd ww A n (ints rs) → mask < 2 ^ n → j < n → Calls Tryd.prog 156 #[.agg #[.int .i64 (n : Int), .slice A n c], .int .i64 (mask : Int), .int .i64 (j : Int)] ww fun e w' => e = .returned (.int .i64 ((stM rs mask j : Nat) : Int)) ∧ Below ww.heap.size ww w') := Lib.hid fun ww mask j h1 h2 h3 => after_any A n c j mask rs ww h1 h8 hr h2 h3
  have HSL := Lib.hid (fun mask c => stM_lt rs n mask c)
  have HONE := Lib.hid (fun ww => one_any n (by omega) ww)
  have HRV : Hid (∀ q : Nat, tabV rs n (q + 1) = tabV rs n q ++ [rowV rs n q (2 ^ n)]) := Lib.hid fun q => tabV_next rs n q
  have HTA : Hid (∀ q i : Nat, i < q → (tabV rs n q)[i]? = some (rowV rs n i (2 ^ n))) := Lib.hid fun q i hi => tabV_at rs n q i hi
  obtain ⟨P, hP⟩ : ∃ P, P = 2 ^ n := ⟨_, rfl⟩
  rw [← hP] at hp8 hp0 HAF HSL HONE HRV HTA
  obtain ⟨w0, hw0⟩ : ∃ w0, w0 = w.alloc (.cells #[.int .i64 (n : Int), .slice A n c] 29) := ⟨_, rfl⟩
  rw [← hw0] at hh x0
  have HB0 := Lib.hid (show Below w.heap.size w w0 by rw [hw0]; exact HB.out)
  clear hP hr h HB
  have y0 := x0.c0
  have y1 := x0.c1
  rw [hw0] at y0 y1
  go_enter Tryd.func148, Tryd.ntmps148
  go_wp2_with fail
  refine (HONE.out _).mono ?_
  rintro e w' ⟨rfl, rfl⟩
  rw [← hw0]
  have HO : Own 2 (w0.alloc (.cells #[] 2)) w0.heap.size (some ⟨w0.heap.size, 0, none⟩) 0 0 [] := World.ownsRow_lit w0 #[] 0 (Nat.le_refl _) (by unfold maxLen; omega) rfl
  have HSZ : Hid (w0.heap.size = w.heap.size + 1) := Lib.hid (by rw [hw0]; simp)
  rw [HSZ.out] at HO
  clear y0 y1
  go_wp2_with fail
  go_loopw [6, 7] (fun v i wr => ∃ (t : Nat) (A1 : Option Addr) (c1 : Nat), t ≤ P ∧ i = .int .i64 t ∧ v = .slice A1 t c1 ∧ Own 2 wr (w.heap.size + 1) A1 t c1 (rowV rs n 0 t) ∧ Below w0.heap.size w0 wr) (fun _ i _ => P - (intOf i).toNat)
  case atStart =>
    rw [← hw0]
    exact ⟨0, _, 0, Nat.zero_le _, rfl, rfl, HO, below1 _ _⟩
  case round =>
    clear HO hw0
    obtain ⟨t, A1, c1, ht, rfl, rfl, ho, hb⟩ := hrel
    by_cases hlt : t < P
    · have hml : t + 1 ≤ maxLen := by unfold maxLen; omega
      have hby2 : (t + 1) * 8 ≤ 140737488355328 := by omega
      have HN := Lib.hid (rowV_next rs n 0 t)
      have HV1 : Hid (tlV rs n 0 t = 1) := Lib.hid rfl
      obtain ⟨ys, hys⟩ : ∃ ys, ys = rowV rs n 0 t := ⟨_, rfl⟩
      rw [← hys] at ho HN
      clear hys
      obtain ⟨w3, rfl⟩ : ∃ w9 : World, w9 = wr := ⟨_, rfl⟩
      go_wp2_with (at_builtin; refine wpList_append_own _ rfl _ _ 22 rfl (w.heap.size + 1) 2 i0 (.int .i64 0) 1 8 Tryd.underlying22 hi hz0 hz1 hz2 rfl (by decide) (.slice A1 t c1) t (ys.map (Value.int .i64)) rfl (World.ownsRow.alloc ho _) ⟨w3.heap.size, 0, none⟩ 1 1 [.int .i64 1] rfl rfl ?s1 ?s2 hml hby2 ?s5 ?_)
      case s1 => exact cell_one_new _ _ _
      case s2 => intro u hu; simp at hu; subst hu; rfl
      case s5 => have := hb.size; have := HSZ.out; simp; omega
      intro v' w4 hown hg4 _
      rw [snoc_map, ← HV1.out, ← HN.out] at hown
      have hb4 : Below w0.heap.size w0 w4 := (hb.alloc hb.size _).grown hg4 (by have := hb.size; simp; omega) (fun g hgr => by have := (World.ownsRow.lt ho g hgr).1; have := HSZ.out; omega)
      obtain ⟨A4, c4, hv, ho4⟩ := own_shape hown
      rw [hv]
      clear hg4 hown hv
      go_wp2_with fail
      go_roundw
      case rel => exact ⟨t + 1, A4, c4, by omega, by go_num, rfl, ho4, hb4⟩
      case measure => simp [intOf]; omega
    · obtain rfl : P = t := by omega
      obtain ⟨w1, rfl⟩ : ∃ w9 : World, w9 = wr := ⟨_, rfl⟩
      have HF1 := Lib.hid (one_ownSS ho (by have := hb.size; have := HSZ.out; omega))
      have HT1 : Hid (tabV rs n 1 = [rowV rs n 0 P]) := Lib.hid (by rw [HRV.out 0]; rfl)
      have HB1 := Lib.hid (hb.trans ((below1 w1 (.cells #[.slice A1 P c1] 22)).mono hb.size))
      clear ho hb
      go_wp2_with fail
      go_loopw [8, 9] (fun v i wr => ∃ (q : Nat) (A2 : Option Addr) (c2 : Nat), 1 ≤ q ∧ q ≤ k + 1 ∧ i = .int .i64 q ∧ v = .slice A2 q c2 ∧ OwnSS wr (w.heap.size + 1) wr.heap.size A2 q c2 (tabV rs n q) ∧ Below w0.heap.size w0 wr) (fun _ i _ => k + 1 - (intOf i).toNat)
      case atStart => exact ⟨1, _, 1, Nat.le_refl _, by omega, rfl, rfl, by rw [HT1.out]; exact HF1.out, HB1.out⟩
      case round =>
        obtain ⟨q, A2, c2, hq1, hq2, rfl, rfl, hss, hb⟩ := hrel
        by_cases hqk : q ≤ k
        · obtain ⟨u, hu⟩ : ∃ u, u = q - 1 := ⟨_, rfl⟩
          have huq : u < q := by omega
          have hidx : IntKind.i64.wrap ((q : Int) - 1) = (u : Int) := by rw [IntKind.wrap_i64]; omega
          have hrow := HTA.out q u huq
          obtain ⟨w2, rfl⟩ : ∃ w9 : World, w9 = wr := ⟨_, rfl⟩
          have HRS := Lib.hid (hss.rd (fun xs hxs => by
            unfold tabV at hxs
            obtain ⟨m9, _, rfl⟩ := List.mem_map.1 hxs
            rw [rowV_len]
            have : 2 ^ n ≤ 256 := Nat.pow_le_pow_right (by decide) h8
            unfold maxLen; omega))
          obtain ⟨b3, off3, C4, c4, rfl, hb3, hc3, hr4⟩ := HRS.out.elem huq hrow
          rw [rowV_len] at hc3 hr4
          have HC3 := Lib.hid hc3
          have HR4 := Lib.hid hr4
          have HU : Hid (q = u + 1) := Lib.hid (by omega)
          have HOR : Own 2 (w2.alloc (.cells #[] 2)) w2.heap.size (some ⟨w2.heap.size, 0, none⟩) 0 0 [] := World.ownsRow_lit w2 #[] 0 (Nat.le_refl _) (by unfold maxLen; omega) rfl
          have HX := Lib.hid (fun (ww : World) (h9 : Below w2.heap.size w2 ww) => x0.below (hb.trans (h9.mono hb.size)) x0.lt)
          have HRR := Lib.hid (fun (ww : World) (h9 : Below w2.heap.size w2 ww) => hh.below (hb.trans (h9.mono hb.size)))
          clear hc3 hr4 hrow hu
          go_wp2_with fail
          go_loopw [10, 11] (fun v i wx => ∃ (s : Nat) (A3 : Option Addr) (c3 : Nat), s ≤ P ∧ i = .int .i64 s ∧ v = .slice A3 s c3 ∧ Own 2 wx w2.heap.size A3 s c3 (rowV rs n q s) ∧ Below w2.heap.size w2 wx) (fun _ i _ => P - (intOf i).toNat)
          case atStart => exact ⟨0, _, 0, Nat.zero_le _, rfl, rfl, HOR, below1 _ _⟩
          case round =>
            clear HOR
            obtain ⟨s, A3, c3, hs, rfl, rfl, ho, hb4⟩ := hrel
            by_cases hsP : s < P
            · obtain ⟨w5, rfl⟩ : ∃ w9 : World, w9 = wr := ⟨_, rfl⟩
              go_wp2_with fail
              go_loopw [12, 13] (fun v i wx => ∃ (j : Nat), j ≤ n ∧ i = .int .i64 j ∧ v = .int .i64 (tlS rs n u s j) ∧ Below w5.heap.size w5 wx) (fun _ i _ => n - (intOf i).toNat)
              case atStart => exact ⟨0, Nat.zero_le _, rfl, by rw [tlS_zero], Below.refl _ _⟩
              case round =>
                obtain ⟨j, hj, rfl, rfl, hb5⟩ := hrel
                have hbx := hb4.trans (hb5.mono hb4.size)
                have z0 := (HX.out _ hbx).c0
                have z1 := (HX.out _ hbx).c1
                by_cases hjn : j < n
                · cases hbt : s.testBit j
                  · have HBT : Hid (∀ ww : World, Calls Tryd.prog 125 #[.int .i64 (s : Int), .int .i64 (j : Int)] ww fun e w' => e = .returned (.bool false) ∧ ww = w') := Lib.hid fun ww => by rw [← hbt]; exact bit_any s j (by omega) (by omega) ww
                    have HNS := Lib.hid (tlS_no rs n u s j hbt)
                    have hZ := HSL.out s j hsP hjn
                    have hSb := tlS_bounds rs n u s j (by omega)
                    obtain ⟨Z, hZe⟩ : ∃ Z, Z = stM rs s j := ⟨_, rfl⟩
                    rw [← hZe] at hZ HNS
                    have hVb := tlV_bounds rs n u Z
                    have HAJ : Hid (∀ ww, Below w2.heap.size w2 ww → Calls Tryd.prog 156 #[.agg #[.int .i64 (n : Int), .slice A n c], .int .i64 (s : Int), .int .i64 (j : Int)] ww fun e w' => e = .returned (.int .i64 (Z : Int)) ∧ Below ww.heap.size ww w') := Lib.hid fun ww hw => by rw [hZe]; exact HAF.out ww s j (HRR.out ww hw) hsP hjn
                    obtain ⟨b6, off6, v, rfl, hb6, hv, hcv⟩ := HR4.out.at_ hZ
                    rw [rowV_at rs n u P Z hZ] at hv
                    injection hv with hv
                    subst hv
                    obtain ⟨V, hVe⟩ : ∃ V, V = tlV rs n u Z := ⟨_, rfl⟩
                    rw [← hVe] at hcv HNS hVb
                    obtain ⟨S, hSe⟩ : ∃ S, S = tlS rs n u s j := ⟨_, rfl⟩
                    rw [← hSe] at HNS hSb ⊢
                    have hsum : IntKind.i64.wrap (S + V) = S + V := by unfold cntC at hVb; rw [IntKind.wrap_i64]; omega
                    have hdr : Below w2.heap.size w2 wr.drew := hbx.drew
                    have hc3w : wr.cell? ⟨b3, off3 + u, none⟩ = some (.slice (some ⟨b6, off6, none⟩) P c4) := (hbx.cell (p := ⟨b3, off3 + u, none⟩) hb3).trans HC3.out
                    have hcvw : wr.cell? ⟨b6, off6 + Z, none⟩ = some (.int .i64 V) := (hbx.cell (p := ⟨b6, off6 + Z, none⟩) hb6).trans hcv
                    have HCV := Lib.hid hcv
                    have HVS := Lib.hid hVb
                    clear hZe hVe hSe hcv hVb hSb hbt
                    go_wp2_with fail
                    refine (HBT.out _).mono ?_
                    rintro e w' ⟨rfl, rfl⟩
                    go_wp2_with fail
                    go_region_with (go_at_call 156; refine (HAJ.out _ hdr).mono ?_; rintro e wz ⟨rfl, hbz⟩; have hbw : Below w2.heap.size w2 wz := hdr.trans (hbz.mono hdr.size); have q0 := (HX.out _ hbw).c0; have q1 := (HX.out _ hbw).c1; have hc3z : wz.cell? ⟨b3, off3 + u, none⟩ = some (.slice (some ⟨b6, off6, none⟩) P c4) := (hbw.cell (p := ⟨b3, off3 + u, none⟩) hb3).trans HC3.out; have hcvz : wz.cell? ⟨b6, off6 + Z, none⟩ = some (.int .i64 V) := (hbw.cell (p := ⟨b6, off6 + Z, none⟩) hb6).trans HCV.out; have hb5z : Below w5.heap.size w5 wz := (hb5.drew).trans (hbz.mono hb5.size))
                    all_goals (
                      go_wp2_with fail
                      go_roundw
                      case rel => exact ⟨j + 1, by omega, by go_num, by rw [HNS.out], hb5z⟩
                      case measure => simp [intOf]; omega)
                  · have HNS := Lib.hid (tlS_yes rs n u s j hbt)
                    have HBT : Hid (∀ ww : World, Calls Tryd.prog 125 #[.int .i64 (s : Int), .int .i64 (j : Int)] ww fun e w' => e = .returned (.bool true) ∧ ww = w') := Lib.hid fun ww => by rw [← hbt]; exact bit_any s j (by omega) (by omega) ww
                    obtain ⟨S, hSe⟩ : ∃ S, S = tlS rs n u s j := ⟨_, rfl⟩
                    rw [← hSe] at HNS ⊢
                    clear hSe hbt
                    go_wp2_with fail
                    refine (HBT.out _).mono ?_
                    rintro e w' ⟨rfl, rfl⟩
                    go_wp2_with fail
                    go_roundw
                    case rel => exact ⟨j + 1, by omega, by go_num, by rw [HNS.out], hb5⟩
                    case measure => simp [intOf]; omega
                · obtain rfl : j = n := by omega
                  have hSb := tlS_bounds rs j u s j (by omega)
                  have HV9 : Hid (tlV rs j q s = capV (tlS rs j u s j)) := Lib.hid (by rw [HU.out]; rfl)
                  have HN := Lib.hid (rowV_next rs j q s)
                  obtain ⟨S, hSe⟩ : ∃ S, S = tlS rs j u s j := ⟨_, rfl⟩
                  rw [← hSe] at HV9 hSb ⊢
                  obtain ⟨ys, hys⟩ : ∃ ys, ys = rowV rs j q s := ⟨_, rfl⟩
                  rw [← hys] at HN ho
                  have ho5 := ho.below hb5
                  have hml : s + 1 ≤ maxLen := by unfold maxLen; omega
                  have hby2 : (s + 1) * 8 ≤ 140737488355328 := by omega
                  clear hSe hys ho
                  obtain ⟨w6, rfl⟩ : ∃ w9 : World, w9 = wr := ⟨_, rfl⟩
                  by_cases hS : 1000000000000000 < S
                  · have HV8 : Hid (tlV rs j q s = 1000000000000001) := Lib.hid (by rw [HV9.out]; unfold capV cntC; rw [if_pos hS]; rfl)
                    clear HV9
                    go_wp2_with (at_builtin; refine wpList_append_own _ rfl _ _ 22 rfl w2.heap.size 2 i0 (.int .i64 0) 1 8 Tryd.underlying22 hi hz0 hz1 hz2 rfl (by decide) (.slice A3 s c3) s (ys.map (Value.int .i64)) rfl (World.ownsRow.alloc ho5 _) ⟨w6.heap.size, 0, none⟩ 1 1 [.int .i64 1000000000000001] rfl rfl ?s1 ?s2 hml hby2 ?s5 ?_)
                    case s1 => exact cell_one_new _ _ _
                    case s2 => intro u hu; simp at hu; subst hu; rfl
                    case s5 => have := hbx.size; simp; omega
                    intro v' w7 hown hg7 _
                    rw [snoc_map, ← HV8.out, ← HN.out] at hown
                    have hb7 : Below w2.heap.size w2 w7 := (hbx.alloc hbx.size _).grown hg7 (by have := hbx.size; simp; omega) (fun g hgr => (World.ownsRow.lt ho5 g hgr).1)
                    obtain ⟨A7, c7, hv, ho7⟩ := own_shape hown
                    rw [hv]
                    clear hg7 hown hv
                    go_wp2_with fail
                    go_roundw
                    case rel => exact ⟨s + 1, A7, c7, by omega, by go_num, rfl, ho7, hb7⟩
                    case measure => simp [intOf]; omega
                  · have HV8 : Hid (tlV rs j q s = S) := Lib.hid (by rw [HV9.out]; unfold capV cntC; rw [if_neg hS])
                    clear HV9
                    go_wp2_with (at_builtin; refine wpList_append_own _ rfl _ _ 22 rfl w2.heap.size 2 i0 (.int .i64 0) 1 8 Tryd.underlying22 hi hz0 hz1 hz2 rfl (by decide) (.slice A3 s c3) s (ys.map (Value.int .i64)) rfl (World.ownsRow.alloc ho5 _) ⟨w6.heap.size, 0, none⟩ 1 1 [.int .i64 S] rfl rfl ?s1 ?s2 hml hby2 ?s5 ?_)
                    case s2 => rfl
                    case s5 => have := hbx.size; omega
                    intro v' w7 hown hg7 _
                    rw [snoc_map, ← HV8.out, ← HN.out] at hown
                    have hb7 : Below w2.heap.size w2 w7 := (hbx.alloc hbx.size _).grown hg7 (by have := hbx.size; simp; omega) (fun g hgr => (World.ownsRow.lt ho5 g hgr).1)
                    obtain ⟨A7, c7, hv, ho7⟩ := own_shape hown
                    rw [hv]
                    clear hg7 hown hv
                    go_wp2_with fail
                    go_roundw
                    case rel => exact ⟨s + 1, A7, c7, by omega, by go_num, rfl, ho7, hb7⟩
                    case measure => simp [intOf]; omega
            · obtain rfl : P = s := by omega
              obtain ⟨ts, hts, hot⟩ := hss
              have HTS := Lib.hid hts
              have HNX := Lib.hid (HRV.out q)
              have hlo : w.heap.size + 1 ≤ w2.heap.size := by have := hb.size; have := HSZ.out; omega
              obtain ⟨ys, hys⟩ : ∃ ys, ys = rowV rs n q P := ⟨_, rfl⟩
              rw [← hys] at ho HNX
              have hml : q + 1 ≤ maxLen := by unfold maxLen; omega
              have hkb : (q + 1) * 24 ≤ 140737488355328 := by omega
              clear hys hts
              obtain ⟨w6, rfl⟩ : ∃ w9 : World, w9 = wr := ⟨_, rfl⟩
              have hrow6 := row_kept hot.2.1 (grownBy_of_below hb4) (fun q _ e => by cases e)
              have hrb : ∀ q, (some (⟨b3, off3, none⟩ : Addr)).map (·.block) = some q → w.heap.size + 1 ≤ q := fun q hq => (row_block hot.2.1 q hq).1
              go_wp2_with (at_builtin; refine wpList_append_own_at _ rfl _ _ 25 rfl (w.heap.size + 1) 22 i1 (.slice none 0 0) 1 24 Tryd.underlying25 hi1 hy0 hy1 hy2 rfl (by decide) (.slice (some ⟨b3, off3, none⟩) q c2) q (valsT ts) rfl (World.ownsRow.alloc hrow6 _) ⟨w6.heap.size, 0, none⟩ 1 1 [.slice A3 P c3] rfl rfl ?c1 ?c2 hml hkb ?c5 ?_)
              case c1 => exact cell_one_new _ _ _
              case c2 => intro u hu; simp at hu; subst hu; rfl
              case c5 => have := hb4.size; simp; omega
              intro v' w7 hown hg _ hat
              have hbw6 := hb.trans (hb4.mono hb.size)
              have hb7 : Below w0.heap.size w0 w7 := (hbw6.alloc hbw6.size _).grown hg (by have := hbw6.size; simp; omega) (fun r hr => by have := hrb r (by rw [own_blockS] at hr; exact hr); have := HSZ.out; omega)
              have hg3 := alloc_grownS hg
              rw [own_blockS] at hg3 hat
              obtain ⟨A7, c7, hv, hss7⟩ := OwnSS.snocS hot hb4 ho hlo hown hg3 (hat.imp id fun h9 => ⟨_, h9, Nat.le_succ _⟩)
              rw [hv]
              rw [HTS.out, ← HNX.out] at hss7
              clear hown hg hv hot hb4 ho hrow6 hg3 hat hbw6 hrb
              go_wp2_with fail
              go_roundw
              case rel => exact ⟨q + 1, A7, c7, by omega, by omega, by go_num, rfl, hss7, hb7⟩
              case measure => simp [intOf]; omega
        · obtain rfl : q = k + 1 := by omega
          go_wp2_with fail
          go_ret
          have hw1 : w.heap.size ≤ w.heap.size + 1 := Nat.le_succ _
          exact ⟨A2, c2, rfl, hss.wide hw1 (Nat.le_refl _), HB0.out.trans (hb.mono HB0.out.size)⟩
theorem rd_small {w : World} {A : Option Addr} {n c lo hi : Nat} {rs : List Nat} {m k : Nat} (h8 : m ≤ 8) (h : OwnSS w lo hi A n c (tabV rs m k)) : RdSS w A n (tabV rs m k) := h.rd (fun xs hxs => by
  unfold tabV at hxs
  obtain ⟨m9, _, rfl⟩ := List.mem_map.1 hxs
  rw [rowV_len]
  have : 2 ^ m ≤ 256 := Nat.pow_le_pow_right (by decide) h8
  unfold maxLen; omega)
/-- Its last row's first number. -/
theorem tab_last {w : World} {A : Option Addr} {n c lo hi : Nat} {rs : List Nat} {k : Nat} (h8 : n ≤ 8) (h : OwnSS w lo hi A (k + 1) c (tabV rs n (k + 1))) :
    ∃ b off b2 off2 c2, A = some ⟨b, off, none⟩ ∧ w.cell? ⟨b, off + k, none⟩ = some (.slice (some ⟨b2, off2, none⟩) (2 ^ n) c2) ∧ w.cell? ⟨b2, off2, none⟩ = some (.int .i64 (tlV rs n k 0)) := by
  have hp := p2_pos n
  obtain ⟨b, off, C, c2, hA, hb, hc, hr⟩ := (rd_small h8 h).elem (k := k) (by omega) (tabV_at rs n (k + 1) k (by omega))
  rw [rowV_len] at hc hr
  obtain ⟨b2, off2, x, rfl, hb2, hx, hcx⟩ := hr.at_ (k := 0) (by omega)
  rw [rowV_at rs n k (2 ^ n) 0 (by omega)] at hx
  injection hx with hx
  subst hx
  exact ⟨b, off, b2, off2, c2, hA, hc, hcx⟩
theorem capV_le (x : Int) : (cntC < capV x) = (cntC < x) := by
  unfold capV
  split
  · rename_i h
    exact propext ⟨fun _ => h, fun _ => by omega⟩
  · rfl
theorem l06Code_any (L : Int) (A : Option Addr) (n c : Nat) (xs : List Int) (a : Int) (w : World) (h : Rd w A n xs) (hn : n ≤ 9223372036854775807) :
    Calls Tryd.prog 91 #[.agg #[.int .i64 L, .slice A n c], .int .i64 a] w fun e w' => e = .returned (.int .i64 (if alphB L xs = true then (if lenB a = true then 0 else 2) else 1)) ∧ Below w.heap.size w w' := by
  have HB := Lib.hid (below1 w (.cells #[.int .i64 L, .slice A n c] 29))
  have hh := h.below HB.out
  have HI := Lib.hid (l02Is_any L A n c xs _ hh hn)
  cases ha : alphB L xs
  · rw [ha] at HI
    rw [if_neg (by decide)]
    clear ha
    go_enter Tryd.func91, Tryd.ntmps91
    go_wp2_with fail
    refine HI.out.mono ?_
    rintro e w1 ⟨rfl, hb⟩
    go_wp2_with fail
    go_ret
    exact ⟨rfl, HB.out.trans (hb.mono HB.out.size)⟩
  · rw [ha] at HI
    rw [if_pos rfl]
    clear ha
    by_cases hl : 0 ≤ a ∧ a ≤ 24
    · have HL := Lib.hid (fun ww => in_true a 0 24 hl ww)
      rw [if_pos (show lenB a = true from decide_eq_true hl)]
      clear hl
      go_enter Tryd.func91, Tryd.ntmps91
      go_wp2_with fail
      refine HI.out.mono ?_
      rintro e w1 ⟨rfl, hb⟩
      go_wp2_with fail
      refine (HL.out _).mono ?_
      rintro e w' ⟨rfl, rfl⟩
      go_wp2_with fail
      go_ret
      exact ⟨rfl, HB.out.trans (hb.mono HB.out.size)⟩
    · have HL := Lib.hid (fun ww => in_false a 0 24 hl ww)
      rw [if_neg (show ¬ lenB a = true by unfold lenB; rw [decide_eq_false hl]; decide)]
      clear hl
      go_enter Tryd.func91, Tryd.ntmps91
      go_wp2_with fail
      refine HI.out.mono ?_
      rintro e w1 ⟨rfl, hb⟩
      go_wp2_with fail
      refine (HL.out _).mono ?_
      rintro e w' ⟨rfl, rfl⟩
      go_wp2_with fail
      go_ret
      exact ⟨rfl, HB.out.trans (hb.mono HB.out.size)⟩
set_option maxHeartbeats 1600000 in
theorem l06Many_any (A : Option Addr) (n c k : Nat) (rs : List Nat) (w : World) (h : Rd w A n (ints rs)) (h8 : n ≤ 8) (hr : ∀ i, rs.getD i 0 < 2 ^ n) (hk : k ≤ 24) :
    Calls Tryd.prog 92 #[.agg #[.int .i64 (n : Int), .slice A n c], .int .i64 (k : Int)] w fun e w' => e = .returned (.int .i64 (if ctB rs k = true then 0 else 3)) ∧ Below w.heap.size w w' := by
  have hl : rs.length = n := by have := h.1; rw [ints_len] at this; exact this
  have HB := Lib.hid (below1 w (.cells #[.int .i64 (n : Int), .slice A n c] 29))
  have hh := h.below HB.out
  have HT := Lib.hid (tails_any A n c k rs _ hh h8 hr hk)
  have HA := Lib.hid (tl_all rs n hl hr h8 k)
  have hp := p2_pos n
  obtain ⟨P, hP⟩ : ∃ P, P = 2 ^ n := ⟨_, rfl⟩
  have HL9 := Lib.hid (fun (W : World) (A' : Option Addr) (lo hi c' : Nat) (h9 : OwnSS W lo hi A' (k + 1) c' (tabV rs n (k + 1))) => tab_last h8 h9)
  rw [← hP] at HL9 hp
  obtain ⟨C, hC⟩ : ∃ C : Int, C = (if ctB rs k = true then 0 else 3) := ⟨_, rfl⟩
  rw [← hC]
  have HCC := Lib.hid hC
  clear hl hr hP h hh hC
  go_enter Tryd.func92, Tryd.ntmps92
  go_wp2_with fail
  refine HT.out.mono ?_
  rintro e w1 ⟨A1, c1, rfl, hss, hb⟩
  obtain ⟨b, off, b2, off2, c2, rfl, hc1, hc2⟩ := HL9.out _ _ _ _ _ hss
  obtain ⟨V, hV⟩ : ∃ V, V = tlV rs n k 0 := ⟨_, rfl⟩
  rw [← hV] at hc2
  have HV := Lib.hid hV
  have hkk : k < k + 1 := Nat.lt_succ_self k
  clear hV hss HT HL9
  by_cases hc : 1000000000000000 < V
  · have HC : Hid (ctB rs k = false) := Lib.hid (decide_eq_false (fun h9 => by
      have h1 : cntC < capV (traM rs k) := by rw [← HA.out, ← HV.out]; exact hc
      rw [capV_le] at h1; omega))
    go_wp2_with fail
    go_ret
    exact ⟨ret_i _ _ (by rw [HCC.out, HC.out]; rfl), HB.out.trans (hb.mono HB.out.size)⟩
  · have HC : Hid (ctB rs k = true) := Lib.hid (decide_eq_true (by
      have h1 : ¬ cntC < capV (traM rs k) := by rw [← HA.out, ← HV.out]; exact hc
      rw [capV_le] at h1; omega))
    go_wp2_with fail
    go_ret
    exact ⟨ret_i _ _ (by rw [HCC.out, HC.out]; rfl), HB.out.trans (hb.mono HB.out.size)⟩
end Go.Proofs.YtcojodkcpemfdaaDoor
namespace Go.Proofs.YtcojodkcpemfdaaDoor
open Go Go.RowKit
set_option linter.unusedVariables false
set_option maxRecDepth 100000

theorem ctAns_no (L : Int) (xs : List Int) (a : Int) (h : alphB L xs = false) : ctAns L xs a = (0, 1) := by unfold ctAns; rw [if_neg (by rw [h]; decide)]
theorem ctAns_out (L : Int) (xs : List Int) (a : Int) (h : alphB L xs = true) (h2 : lenB a = false) : ctAns L xs a = (0, 2) := by unfold ctAns; rw [if_pos h, if_neg (by rw [h2]; decide)]
theorem ctAns_big (n k : Nat) (rs : List Nat) (h : alphB (n : Int) (ints rs) = true) (h2 : lenB (k : Int) = true) (h3 : ctB rs k = false) : ctAns (n : Int) (ints rs) (k : Int) = (0, 3) := by
  unfold ctAns; rw [if_pos h, if_pos h2, ints_toNat, if_neg (by show ¬ ctB rs k = true; rw [h3]; decide)]
theorem ctAns_yes (n k : Nat) (rs : List Nat) (h : alphB (n : Int) (ints rs) = true) (h2 : lenB (k : Int) = true) (h3 : ctB rs k = true) : ctAns (n : Int) (ints rs) (k : Int) = (traM rs k, 0) := by
  unfold ctAns; rw [if_pos h, if_pos h2, ints_toNat, if_pos (show ctB rs (k : Int).toNat = true from h3)]; rfl
set_option maxHeartbeats 1600000 in
theorem specCountTraces (L : Int) (A : Option Addr) (n c : Nat) (xs : List Int) (a : Int) (w : World) (h : Rd w A n xs) (hwf : Wf xs) (hL1 : -9223372036854775808 ≤ L) (hL2 : L ≤ 9223372036854775807) (hn : n ≤ 9223372036854775807) (ha1 : -9223372036854775808 ≤ a) (ha2 : a ≤ 9223372036854775807) :
    Calls Tryd.prog 97 #[.agg #[.int .i64 L, .slice A n c], .int .i64 a] w (fun e w' => e = .returned (.tuple #[.int .i64 (ctAns L xs a).1, .int .i64 (ctAns L xs a).2]) ∧ Below w.heap.size w w') := by
  have HB := Lib.hid (below1 w (.cells #[.int .i64 L, .slice A n c] 29))
  have hh := h.below HB.out
  have x0 := box_new 29 w L A n c
  have HC := Lib.hid (l06Code_any L A n c xs a _ hh hn)
  cases ha : alphB L xs
  · rw [ctAns_no L xs a ha]
    rw [ha, if_neg (by decide)] at HC
    clear ha
    go_enter Tryd.func97, Tryd.ntmps97
    go_wp2_with fail
    refine HC.out.mono ?_
    rintro e w1 ⟨rfl, hb⟩
    go_wp2_with fail
    go_ret2
    exact ⟨rfl, HB.out.trans (hb.mono HB.out.size)⟩
  · rw [ha, if_pos rfl] at HC
    cases hl : lenB a
    · rw [ctAns_out L xs a ha hl]
      rw [hl, if_neg (by decide)] at HC
      clear ha hl
      go_enter Tryd.func97, Tryd.ntmps97
      go_wp2_with fail
      refine HC.out.mono ?_
      rintro e w1 ⟨rfl, hb⟩
      go_wp2_with fail
      go_ret2
      exact ⟨rfl, HB.out.trans (hb.mono HB.out.size)⟩
    · rw [hl, if_pos rfl] at HC
      have ha3 : 0 ≤ a ∧ a ≤ 24 := of_decide_eq_true hl
      obtain ⟨k, rfl⟩ := Int.eq_ofNat_of_zero_le ha3.1
      have hk : k ≤ 24 := by omega
      obtain ⟨rs, rfl, rfl, h8, hr, hrel, hlen, hd, _⟩ := alphB_nats L xs n h.1 ha
      have HM := Lib.hid (fun (ww : World) (h9 : Rd ww A n (ints rs)) => l06Many_any A n c k rs ww h9 h8 hr hk)
      cases hc : ctB rs k
      · rw [ctAns_big n k rs ha hl hc]
        rw [hc, if_neg (by decide)] at HM
        clear ha hl hc hlen hd hrel ha3
        go_enter Tryd.func97, Tryd.ntmps97
        go_wp2_with fail
        refine HC.out.mono ?_
        rintro e w1 ⟨rfl, hb⟩
        have HM1 := Lib.hid (HM.out w1 (hh.below hb))
        have HB1 := Lib.hid (HB.out.trans (hb.mono HB.out.size))
        have y0 := (x0.next hb).c0
        have y1 := (x0.next hb).c1
        go_wp2_with fail
        refine HM1.out.mono ?_
        rintro e w2 ⟨rfl, hb2⟩
        go_wp2_with fail
        go_ret2
        exact ⟨rfl, HB1.out.trans (hb2.mono HB1.out.size)⟩
      · rw [ctAns_yes n k rs ha hl hc]
        rw [hc, if_pos rfl] at HM
        have HT := Lib.hid (fun (ww : World) (h9 : Rd ww A n (ints rs)) => tails_any A n c k rs ww h9 h8 hr hk)
        have HA := Lib.hid (tl_all rs n hlen hr h8 k)
        have HV9 : Hid (capV (traM rs k) = traM rs k) := Lib.hid (by
          have h9 : traM rs k ≤ cntC := of_decide_eq_true hc
          unfold capV; rw [if_neg (by omega)])
        have HL9 := Lib.hid (fun (W : World) (A' : Option Addr) (lo hi c' : Nat) (h9 : OwnSS W lo hi A' (k + 1) c' (tabV rs n (k + 1))) => tab_last h8 h9)
        have hp := p2_pos n
        obtain ⟨P, hP⟩ : ∃ P, P = 2 ^ n := ⟨_, rfl⟩
        rw [← hP] at HL9 hp
        clear ha hl hc hlen hd hrel ha3 hP hr
        go_enter Tryd.func97, Tryd.ntmps97
        go_wp2_with fail
        refine HC.out.mono ?_
        rintro e w1 ⟨rfl, hb⟩
        have HM1 := Lib.hid (HM.out w1 (hh.below hb))
        have HB1 := Lib.hid (HB.out.trans (hb.mono HB.out.size))
        have x1 := x0.next hb
        have y0 := x1.c0
        have y1 := x1.c1
        go_wp2_with fail
        refine HM1.out.mono ?_
        rintro e w2 ⟨rfl, hb2⟩
        have HT2 := Lib.hid (HT.out w2 ((hh.below hb).below hb2))
        have HB2 := Lib.hid (HB1.out.trans (hb2.mono HB1.out.size))
        have z0 := (x1.next hb2).c0
        have z1 := (x1.next hb2).c1
        go_wp2_with fail
        refine HT2.out.mono ?_
        rintro e w3 ⟨A3, c3, rfl, hss, hb3⟩
        obtain ⟨b, off, b2, off2, c2, rfl, hc1, hc2⟩ := HL9.out _ _ _ _ _ hss
        rw [HA.out, HV9.out] at hc2
        obtain ⟨V, hV⟩ : ∃ V, V = traM rs k := ⟨_, rfl⟩
        rw [← hV] at hc2
        have HV := Lib.hid hV
        have hkk : k < k + 1 := Nat.lt_succ_self k
        clear hV hss HT HL9 HM HM1 HT2 HV9 HA
        go_wp2_with fail
        go_ret2
        rw [← HV.out]
        exact ⟨rfl, HB2.out.trans (hb3.mono HB2.out.size)⟩
end Go.Proofs.YtcojodkcpemfdaaDoor
