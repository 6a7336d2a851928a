/-
  A word with the order of its places: the program's block, by a contract.
-/
import Derived.Test.YtfbdbipopfjjnaaDoorOrdM
import Derived.Test.YtfbdbipopfjjnaaDoorTrIn
import Derived.Deep.CutRange
namespace Go.Proofs.YtfbdbipopfjjnaaDoor
open Go Go.RowKit
set_option linter.unusedVariables false
set_option maxRecDepth 100000

def updF (f : Nat → Nat) (i v : Nat) : Nat → Nat := fun j => if j = i then v else f j
def rowV (f : Nat → Nat) : List Value := (List.range 24).map fun i => Value.int .i64 ((f i : Nat) : Int)
theorem rowV_len (f : Nat → Nat) : (rowV f).length = 24 := by simp [rowV]
theorem rowV_at (f : Nat → Nat) (i : Nat) (h : i < 24) : (rowV f)[i]? = some (.int .i64 ((f i : Nat) : Int)) := by
  unfold rowV
  rw [List.getElem?_map, List.getElem?_range h]; rfl
theorem rowV_set (f : Nat → Nat) (i v : Nat) : (rowV f).set i (.int .i64 ((v : Nat) : Int)) = rowV (updF f i v) := by
  apply List.ext_getElem?
  intro j
  rcases Nat.lt_or_ge j 24 with h | h
  · rw [rowV_at _ _ h]
    by_cases e : i = j
    · subst e
      rw [List.getElem?_set_self (by rw [rowV_len]; exact h)]
      unfold updF; rw [if_pos rfl]
    · rw [List.getElem?_set_ne e, rowV_at _ _ h]
      unfold updF; rw [if_neg (fun h => e h.symm)]
  · rw [List.getElem?_eq_none (by rw [List.length_set, rowV_len]; exact h), List.getElem?_eq_none (by rw [rowV_len]; exact h)]
theorem rowV_congr (f f' : Nat → Nat) (h : ∀ i, i < 24 → f i = f' i) : rowV f = rowV f' := by
  unfold rowV
  refine List.map_congr_left fun i hi => ?_
  rw [h i (List.mem_range.1 hi)]
def oCells (A : Option Addr) (m c : Nat) (f h : Nat → Nat) : Array Value := (Value.slice A m c :: (rowV f ++ rowV h)).toArray
/-- A block that holds a word and two rows of sets. -/
def OBox (w : World) (g : Nat) (A : Option Addr) (m c : Nat) (f h : Nat → Nat) : Prop := w.heap[g]? = some (.cells (oCells A m c f h) 68 (0, 0))
section
variable {w w' : World} {g m c : Nat} {A : Option Addr} {f h : Nat → Nat}
theorem OBox.lt (x : OBox w g A m c f h) : g < w.heap.size := (Array.getElem?_eq_some_iff.1 x).1
theorem OBox.c0 (x : OBox w g A m c f h) : w.cell? ⟨g, 0, none⟩ = some (.slice A m c) := by unfold OBox at x; unfold World.cell?; rw [x]; rfl
theorem OBox.cf (x : OBox w g A m c f h) (i : Nat) (hi : i < 24) : w.cell? ⟨g, 1 + i, none⟩ = some (.int .i64 ((f i : Nat) : Int)) := by
  unfold OBox at x; unfold World.cell?; rw [x]
  show (oCells A m c f h)[1 + i]? = _
  unfold oCells
  rw [List.getElem?_toArray, Nat.add_comm, List.getElem?_cons_succ, List.getElem?_append_left (by rw [rowV_len]; exact hi)]
  exact rowV_at f i hi
theorem OBox.ch (x : OBox w g A m c f h) (i : Nat) (hi : i < 24) : w.cell? ⟨g, 25 + i, none⟩ = some (.int .i64 ((h i : Nat) : Int)) := by
  unfold OBox at x; unfold World.cell?; rw [x]
  show (oCells A m c f h)[25 + i]? = _
  unfold oCells
  rw [List.getElem?_toArray, show 25 + i = (24 + i) + 1 by omega, List.getElem?_cons_succ, List.getElem?_append_right (by rw [rowV_len]; omega), rowV_len, show 24 + i - 24 = i by omega]
  exact rowV_at h i hi
theorem OBox.fr (x : OBox w g A m c f h) (k : Nat) : w.frozen? ⟨g, k, none⟩ = false := by unfold OBox at x; simp [World.frozen?, x]
theorem OBox.next (x : OBox w g A m c f h) (hb : Below w.heap.size w w') : OBox w' g A m c f h := (hb.block g x.lt).trans x
theorem OBox.congr (x : OBox w g A m c f h) {f' h' : Nat → Nat} (e1 : ∀ i, i < 24 → f i = f' i) (e2 : ∀ i, i < 24 → h i = h' i) : OBox w g A m c f' h' := by
  unfold OBox oCells at x ⊢
  rw [x, rowV_congr f f' e1, rowV_congr h h' e2]
theorem OBox.setf (x : OBox w g A m c f h) (i v : Nat) (hi : i < 24) : OBox (w.setCell ⟨g, 1 + i, none⟩ (.int .i64 ((v : Nat) : Int))) g A m c (updF f i v) h := by
  unfold OBox at x ⊢
  rw [heap_put x]
  congr 2
  unfold oCells
  rw [List.setIfInBounds_toArray, Nat.add_comm, List.set_cons_succ, List.set_append_left _ _ (by rw [rowV_len]; exact hi), rowV_set]
theorem OBox.seth (x : OBox w g A m c f h) (i v : Nat) (hi : i < 24) : OBox (w.setCell ⟨g, 25 + i, none⟩ (.int .i64 ((v : Nat) : Int))) g A m c f (updF h i v) := by
  unfold OBox at x ⊢
  rw [heap_put x]
  congr 2
  unfold oCells
  rw [List.setIfInBounds_toArray, show 25 + i = (24 + i) + 1 by omega, List.set_cons_succ, List.set_append_right _ _ (by rw [rowV_len]; omega), rowV_len, show 24 + i - 24 = i by omega, rowV_set]
end
theorem Own.le {E : TypeId} {w : World} {B n c : Nat} {A : Option Addr} {xs : List Int} (h : Own E w B A n c xs) : n ≤ c := by
  rcases h.2 with ⟨h0, rfl⟩ | ⟨g, cap, cur, e1, _, _, h4, _⟩
  · exact Nat.zero_le _
  · injection e1 with _ _ e1; omega

/-- The rows below while place k is under way, by the places before i; the rows above, k's own laid for the first t of those below it. -/
def oF (D : Nat → Nat → Bool) (us : List Nat) (k i : Nat) : Nat → Nat := fun q => if q < k then dnW D us q else if q = k then dnP D us k i else 0
def oH (D : Nat → Nat → Bool) (us : List Nat) (k t : Nat) : Nat → Nat := fun q => if q ∈ (bitsOf (dnW D us k)).take t then upW D us (k + 1) q else upW D us k q
theorem oF_cur (D : Nat → Nat → Bool) (us : List Nat) (k i : Nat) : oF D us k i k = dnP D us k i := by unfold oF; rw [if_neg (by omega), if_pos rfl]
theorem oF_old (D : Nat → Nat → Bool) (us : List Nat) (k i q : Nat) (h : q < k) : oF D us k i q = dnW D us q := by unfold oF; rw [if_pos h]
theorem oF_yes (D : Nat → Nat → Bool) (us : List Nat) (k i : Nat) (h : D (us.getD k 0) (us.getD i 0) = true) : updF (oF D us k i) k (dnP D us k i ||| dnW D us i) = oF D us k (i + 1) := by
  funext q
  unfold updF oF
  rw [dnP_yes D us k i h]
  by_cases e : q = k
  · subst e; rw [if_pos rfl, if_neg (by omega), if_pos rfl]
  · rw [if_neg e, if_neg e, if_neg e]
theorem oF_no (D : Nat → Nat → Bool) (us : List Nat) (k i : Nat) (h : D (us.getD k 0) (us.getD i 0) = false) : oF D us k i = oF D us k (i + 1) := by
  funext q
  unfold oF
  rw [dnP_no D us k i h]
theorem oF_end (D : Nat → Nat → Bool) (hsym : ∀ a b, D a b = D b a) (us : List Nat) (k : Nat) (hk : k < 24) : updF (oF D us k k) k (dnP D us k k ||| 2 ^ k) = oF D us (k + 1) 0 := by
  funext q
  unfold updF oF
  rw [dnP_end D hsym us k hk, dnP_zero]
  by_cases e : q = k
  · subst e; rw [if_pos rfl, if_pos (by omega)]
  · rw [if_neg e, if_neg e]
    by_cases h2 : q < k
    · rw [if_pos h2, if_pos (by omega)]
    · rw [if_neg h2, if_neg (by omega)]
      split <;> rfl
theorem oF_new (D : Nat → Nat → Bool) (us : List Nat) (k : Nat) : oF D us (k + 1) 0 k = dnW D us k := oF_old _ _ _ _ _ (by omega)
theorem oH_start (D : Nat → Nat → Bool) (us : List Nat) (k : Nat) : oH D us k 0 = upW D us k := by
  funext q
  unfold oH
  rw [List.take_zero, if_neg (by simp)]
theorem bitsOf_nodup (x : Nat) : (bitsOf x).Nodup := List.Nodup.sublist List.filter_sublist List.nodup_range
theorem oH_cur (D : Nat → Nat → Bool) (us : List Nat) (k t i : Nat) (h : (bitsOf (dnW D us k))[t]? = some i) : oH D us k t i = upW D us k i := by
  unfold oH
  rw [if_neg]
  intro h2
  obtain ⟨j, hj, e⟩ := List.mem_take_iff_getElem.1 h2
  have hnd := bitsOf_nodup (dnW D us k)
  have hj1 : j < (bitsOf (dnW D us k)).length := by omega
  have h3 : (bitsOf (dnW D us k))[j]? = (bitsOf (dnW D us k))[t]? := by rw [h, List.getElem?_eq_getElem hj1, e]
  have := (List.getElem?_inj hj1 hnd).1 h3
  omega
theorem oH_step (D : Nat → Nat → Bool) (us : List Nat) (k t i : Nat) (h : (bitsOf (dnW D us k))[t]? = some i) : updF (oH D us k t) i (upW D us k i ||| 2 ^ k) = oH D us k (t + 1) := by
  have hm : i ∈ bitsOf (dnW D us k) := List.mem_of_getElem? h
  have hl : lqB D us i k = true := ((dnW_bit _ _ _ _).1 ((bitsOf_mem _ _).1 hm).2).2
  funext q
  unfold updF oH
  rw [List.take_add_one, h]
  by_cases e : q = i
  · subst e
    rw [if_pos rfl, if_pos (by simp), upW_next, if_pos hl]
  · rw [if_neg e]
    have : q ∈ (bitsOf (dnW D us k)).take t ++ (some i).toList ↔ q ∈ (bitsOf (dnW D us k)).take t := by simp [e]
    by_cases h2 : q ∈ (bitsOf (dnW D us k)).take t
    · rw [if_pos h2, if_pos (this.2 h2)]
    · rw [if_neg h2, if_neg (fun h3 => h2 (this.1 h3))]
theorem oH_end (D : Nat → Nat → Bool) (us : List Nat) (k q : Nat) (hq : q < 24) : oH D us k (bitsOf (dnW D us k)).length q = upW D us (k + 1) q := by
  unfold oH
  rw [List.take_length, upW_next]
  by_cases h : lqB D us q k = true
  · rw [if_pos ((bitsOf_mem _ _).2 ⟨hq, (dnW_bit _ _ _ _).2 ⟨hq, h⟩⟩)]
  · rw [if_neg (fun h2 => h ((dnW_bit _ _ _ _).1 ((bitsOf_mem _ _).1 h2).2).2), if_neg h]
/-- The rows below, of m places. -/
def dnF (D : Nat → Nat → Bool) (us : List Nat) (m : Nat) : Nat → Nat := fun q => if q < m then dnW D us q else 0
theorem dnF_at (D : Nat → Nat → Bool) (us : List Nat) (m q : Nat) (h : q < m) : dnF D us m q = dnW D us q := by unfold dnF; rw [if_pos h]
theorem oF_fin (D : Nat → Nat → Bool) (us : List Nat) (m : Nat) : oF D us m 0 = dnF D us m := by
  funext q
  unfold oF dnF
  rw [dnP_zero]
  split
  · rfl
  · split <;> rfl
def OrdPost (D : Nat → Nat → Bool) (us : List Nat) (A : Option Addr) (m cu : Nat) (w : World) (e : Ending) (w' : World) : Prop :=
  ∃ g, e = .returned (.pointer (some ⟨g, 0, none⟩)) ∧ w.heap.size ≤ g ∧ OBox w' g A m cu (dnF D us m) (upW D us m) ∧ Below w.heap.size w w'
set_option maxHeartbeats 4000000 in
theorem ordered_any (R A : Option Addr) (n m cr cu : Nat) (rows us : List Nat) (w : World) (hR : Rd w R n (ints rows)) (hU : Rd w A m (ints us)) (hm : m ≤ 24) (hcu : m ≤ cu) (hn : n ≤ 24) (hus : ∀ p, p < m → us.getD p 0 < n) (hrs : ∀ i, rows.getD i 0 < 9223372036854775808) (hsym : ∀ a b, RDep rows a b = RDep rows b a) (hT : Tab w) :
    Calls Tryd.prog 98 #[.slice R n cr, .slice A m cu] w (OrdPost (RDep rows) us A m cu w) := by
  have HUS := Lib.hid hus
  have HRS := Lib.hid hrs
  have HSYM := Lib.hid hsym
  have hlenU : us.length = m := by have := hU.1; rw [ints_len] at this; exact this
  have hlenR : rows.length = n := by have := hR.1; rw [ints_len] at this; exact this
  have HLU := Lib.hid hlenU
  have HLR := Lib.hid hlenR
  clear hus hrs hsym hlenU hlenR
  have mixed : Tryd.prog.follows .mixedOrders = true := by kernel_rfl
  obtain ⟨D, hD⟩ : ∃ D, D = RDep rows := ⟨_, rfl⟩
  have HD := Lib.hid hD
  rw [← hD] at HSYM ⊢
  clear hD
  obtain ⟨W1, hW1⟩ : ∃ W1, w.alloc (.cells (oCells A m cu (fun _ => 0) (fun _ => 0)) 68) = W1 := ⟨_, rfl⟩
  have hb1 : Below w.heap.size w W1 := by rw [← hW1]; exact (Below.refl _ w).alloc (Nat.le_refl _) _
  have x1 : OBox W1 w.heap.size A m cu (fun _ => 0) (fun _ => 0) := by rw [← hW1]; exact heap_alloc_new w _
  go_enter Tryd.func98, Tryd.ntmps98
  go_wp2_with fail
  change Code.wp _ _ _ _ (w.alloc (.cells (oCells A m cu (fun _ => 0) (fun _ => 0)) 68))
  rw [hW1]
  obtain ⟨g, hg⟩ : ∃ g, g = w.heap.size := ⟨_, rfl⟩
  rw [← hg] at x1 ⊢
  have HG := Lib.hid hg
  clear hg hW1
  go_loopw [17] (fun q wr => ∃ k, k ≤ m ∧ q = .int .i64 ((k : Nat) : Int) ∧ OBox wr g A m cu (oF D us k 0) (upW D us k) ∧ Below w.heap.size w wr) (fun q _ => m - (intOf q).toNat)
  case atStart => exact ⟨0, Nat.zero_le _, rfl, x1.congr (fun i _ => by unfold oF; rw [if_neg (by omega), dnP_zero]; split <;> rfl) (fun i _ => (upW_zero D us i).symm), hb1⟩
  case round =>
    clear x1 hb1
    obtain ⟨k, hk, rfl, x, hb⟩ := hrel
    have hUr := hU.below hb
    by_cases hkm : k < m
    · obtain ⟨gu, ou, xU, eU, hgu, hxU, hcU⟩ := hUr.at_ hkm
      rw [ints_getD us k (by rw [HLU.out]; exact hkm)] at hxU
      injection hxU with hxU
      obtain ⟨a, ha⟩ : ∃ a, a = us.getD k 0 := ⟨_, rfl⟩
      rw [← ha] at hxU
      have HA := Lib.hid ha
      have han : a < n := by rw [ha]; exact HUS.out k hkm
      subst hxU
      cases eU
      clear ha
      have hk0 : (0 : Int) ≤ (k : Int) := by omega
      have hkc : (k : Int) ≤ (cu : Int) := by omega
      go_wp2_with fail
      go_loopw [26] (fun q wy => ∃ i, i ≤ k ∧ q = .int .i64 ((i : Nat) : Int) ∧ OBox wy g (some ⟨gu, ou, none⟩) m cu (oF D us k i) (upW D us k) ∧ Below w.heap.size w wy) (fun q _ => k - (intOf q).toNat)
      case atStart => exact ⟨0, Nat.zero_le _, rfl, x, hb⟩
      case round =>
        clear x hb hUr hcU
        obtain ⟨i, hi, rfl, x, hb⟩ := hrel
        have hUr := hU.below hb
        have hRr := hR.below hb
        by_cases hik : i < k
        · have him : i < m := by omega
          obtain ⟨gv, ov, xV, eV, hgv, hxV, hcV⟩ := hUr.at_ him
          rw [ints_getD us i (by rw [HLU.out]; exact him)] at hxV
          injection hxV with hxV
          obtain ⟨b, hbb⟩ : ∃ b, b = us.getD i 0 := ⟨_, rfl⟩
          rw [← hbb] at hxV
          have HB := Lib.hid hbb
          have hbn : b < n := by rw [hbb]; exact HUS.out i him
          subst hxV
          cases eV
          clear hbb
          obtain ⟨gd, od, xD, eD, hgd, hxD, hcD⟩ := hRr.at_ han
          rw [ints_getD rows a (by rw [HLR.out]; exact han)] at hxD
          injection hxD with hxD
          obtain ⟨M, hM⟩ : ∃ M, M = rows.getD a 0 := ⟨_, rfl⟩
          rw [← hM] at hxD
          have hM63 : M < 9223372036854775808 := by rw [hM]; exact HRS.out a
          have HMB : Hid (D (us.getD k 0) (us.getD i 0) = M.testBit b) := Lib.hid (by rw [HD.out, ← HA.out, ← HB.out, hM]; rfl)
          subst hxD
          subst eD
          have HHAS : Hid (∀ ww : World, Calls Tryd.prog 78 #[.int .i64 (M : Int), .int .i64 (b : Int)] ww fun e w'' => e = .returned (.bool (M.testBit b)) ∧ ww = w'') := Lib.hid fun ww => has_any M b hM63 (by omega) ww
          obtain ⟨v, hv⟩ : ∃ v, v = M.testBit b := ⟨_, rfl⟩
          rw [← hv] at HHAS HMB
          have hn0 : 0 < n := by omega
          clear hM hM63 hv
          cases v
          · have HN : Hid (oF D us k i = oF D us k (i + 1)) := Lib.hid (oF_no D us k i HMB.out)
            go_wp2_with fail
            refine (HHAS.out _).mono ?_
            rintro e w' ⟨rfl, rfl⟩
            go_wp2_with fail
            go_roundw
            case rel => exact ⟨i + 1, by omega, by go_num, by rw [← HN.out]; exact x, hb⟩
            case measure => simp [intOf]; omega
          · obtain ⟨P, hP⟩ : ∃ P, P = dnP D us k i := ⟨_, rfl⟩
            obtain ⟨Q, hQ⟩ : ∃ Q, Q = dnW D us i := ⟨_, rfl⟩
            have HN : Hid (updF (oF D us k i) k (P ||| Q) = oF D us k (i + 1)) := Lib.hid (by rw [hP, hQ]; exact oF_yes D us k i HMB.out)
            have hck := x.cf k (by omega)
            have hci := x.cf i (by omega)
            rw [oF_cur, ← hP] at hck
            rw [oF_old _ _ _ _ _ hik, ← hQ] at hci
            have hf := x.fr (1 + k)
            have hP24 : P < 2 ^ 24 := by rw [hP]; exact dnP_lt24 _ _ _ _
            have hQ24 : Q < 2 ^ 24 := by rw [hQ]; exact dnW_lt24 _ _ _
            have hor := i64_or_nat P Q (by omega) (by omega)
            have HX := Lib.hid (x.setf k (P ||| Q) (by omega))
            rw [HN.out] at HX
            have HBX := Lib.hid (hb.setCell (p := ⟨g, 1 + k, none⟩) (by rw [HG.out]; exact Nat.le_refl _) (.int .i64 ((P ||| Q : Nat) : Int)))
            have hk24 : k < 24 := by omega
            have hi24 : i < 24 := by omega
            clear hP hQ hP24 hQ24
            go_wp2_with fail
            refine (HHAS.out _).mono ?_
            rintro e w' ⟨rfl, rfl⟩
            go_wp2_with fail
            go_region
            all_goals go_wp2
            all_goals (
              go_roundw
              case rel => exact ⟨i + 1, by omega, by go_num, by first | exact HX.out.next ((Below.refl _ _).drew) | (have h9 := HX.out.next ((Below.refl _ _).drew); rw [← hor] at h9; exact h9), by first | exact HBX.out.drew | (have h9 := HBX.out.drew; rw [← hor] at h9; exact h9)⟩
              case measure => simp [intOf]; omega)
        · have hie : i = k := by omega
          subst hie
          clear hi
          have hk24 : i < 24 := by omega
          obtain ⟨P, hP⟩ : ∃ P, P = dnP D us i i := ⟨_, rfl⟩
          obtain ⟨Q, hQ⟩ : ∃ Q, Q = P ||| 2 ^ i := ⟨_, rfl⟩
          have hdq : Q = dnW D us i := by rw [hQ, hP]; exact dnP_end D HSYM.out us i hk24
          have HN : Hid (updF (oF D us i i) i Q = oF D us (i + 1) 0) := Lib.hid (by rw [hQ, hP]; exact oF_end D HSYM.out us i hk24)
          have hck := x.cf i (by omega)
          rw [oF_cur, ← hP] at hck
          have hf := x.fr (1 + i)
          have hP24 : P < 2 ^ 24 := by rw [hP]; exact dnP_lt24 _ _ _ _
          have hQ24 : Q < 2 ^ 24 := by rw [hdq]; exact dnW_lt24 _ _ _
          have HWI : Hid (∀ ww : World, Calls Tryd.prog 133 #[.int .i64 (P : Int), .int .i64 (i : Int)] ww fun e w'' => e = .returned (.int .i64 (Q : Int)) ∧ w'' = ww) := Lib.hid fun ww => (with_any P i (by omega) (by omega) ww).mono fun _ _ h => ⟨by rw [hQ]; exact h.1, h.2.symm⟩
          obtain ⟨wd, hwd⟩ : ∃ wd, wd = (wr.setCell ⟨g, 1 + i, none⟩ (.int .i64 (Q : Int))).drew := ⟨_, rfl⟩
          have X2 : OBox wd g (some ⟨gu, ou, none⟩) m cu (oF D us (i + 1) 0) (upW D us i) := by
            rw [hwd, ← HN.out]; exact (x.setf i Q hk24).next ((Below.refl _ _).drew)
          have B2 : Below w.heap.size w wd := by
            rw [hwd]; exact (hb.setCell (p := ⟨g, 1 + i, none⟩) (by rw [HG.out]; exact Nat.le_refl _) _).drew
          have HX2 := Lib.hid X2
          have HB2 := Lib.hid B2
          obtain ⟨ms, hms⟩ : ∃ ms, ms = bitsOf Q := ⟨_, rfl⟩
          have HME : Hid (Calls Tryd.prog 100 #[.int .i64 (Q : Int)] wd fun e w' => ∃ g c, e = .returned (.slice (some ⟨g, 0, none⟩) ms.length c) ∧ Own 2 w' wd.heap.size (some ⟨g, 0, none⟩) ms.length c (ints ms) ∧ Below wd.heap.size wd w') := Lib.hid (by rw [hms]; exact members_some Q (by omega) wd (hT.below B2))
          have hmc := X2.cf i hk24
          rw [oF_new, ← hdq] at hmc
          have HMS : Hid (ms = bitsOf (dnW D us i)) := Lib.hid (by rw [hms, hdq])
          clear hP hQ hdq hP24 hQ24 X2 B2 hms
          have hi24z : (i : Int) < 24 := by omega
          go_wp2_with fail
          go_still_tail 13, mixed
          still_call (HWI.out _)
          repeat still_step
          refine wpStill_nil ?_
          change wpList _ _ _ _ _ wr.drew
          have hck' := (x.next (show Below wr.heap.size wr wr.drew from (Below.refl _ _).drew)).cf i hk24
          have hf' := (x.next (show Below wr.heap.size wr wr.drew from (Below.refl _ _).drew)).fr (1 + i)
          go_wp2_with fail
          rw [← hwd]
          have HMM := HME.out
          refine HMM.mono ?_
          rintro e w4 ⟨gm, cm, rfl, hom, hbm⟩
          have X4 := HX2.out.next hbm
          have B4 := HB2.out.trans (hbm.mono HB2.out.size)
          have hml : (ints ms).length = ms.length := ints_len ms
          have HLM : Hid (ms.length ≤ 24) := Lib.hid (by rw [HMS.out]; exact bitsOf_len _)
          have HGM : Hid (w.heap.size ≤ gm ∧ g ≠ gm) := Lib.hid (by have h1 := (hom.lt gm rfl).1; have h2 := HX2.out.lt; have h3 := HB2.out.size; omega)
          obtain ⟨ml, hmll⟩ : ∃ ml, ml = ms.length := ⟨_, rfl⟩
          rw [← hmll] at hom HLM ⊢
          have HML := Lib.hid hmll
          clear hml hmll HMM hwd HME HN hck hck' hf hf' hmc x hb hUr HWI hi24z
          go_wp2_with fail
          go_loopw [75] (fun q wy => ∃ t, t ≤ ml ∧ q = .int .i64 ((t : Nat) : Int) ∧ OBox wy g (some ⟨gu, ou, none⟩) m cu (oF D us (i + 1) 0) (oH D us i t) ∧ Own 2 wy wd.heap.size (some ⟨gm, 0, none⟩) ml cm (ints ms) ∧ Below w.heap.size w wy) (fun q _ => ml - (intOf q).toNat)
          case atStart => exact ⟨0, Nat.zero_le _, rfl, by rw [oH_start]; exact X4, hom, B4⟩
          case round =>
            clear X4 hom B4 hbm
            obtain ⟨t, ht, rfl, x, hom, hb⟩ := hrel
            have hl24 := HLM.out
            by_cases htl : t < ml
            · obtain ⟨q, hq⟩ : ∃ q, ms[t]? = some q := ⟨_, List.getElem?_eq_getElem (by rw [← HML.out]; exact htl)⟩
              have hcq := hom.cell (k := t) (x := (q : Int)) (ints_at hq)
              have HQ2 : Hid ((bitsOf (dnW D us i))[t]? = some q) := Lib.hid (by rw [← HMS.out]; exact hq)
              have hq24 : q < 24 := ((bitsOf_mem _ _).1 (List.mem_of_getElem? HQ2.out)).1
              clear hq
              obtain ⟨P, hP⟩ : ∃ P, P = upW D us i q := ⟨_, rfl⟩
              obtain ⟨Q2, hQ2⟩ : ∃ Q, Q = P ||| 2 ^ i := ⟨_, rfl⟩
              have HN : Hid (updF (oH D us i t) q Q2 = oH D us i (t + 1)) := Lib.hid (by rw [hQ2, hP]; exact oH_step D us i t q HQ2.out)
              have hck := x.ch q hq24
              rw [oH_cur D us i t q HQ2.out, ← hP] at hck
              have hf := x.fr (25 + q)
              have hP24 : P < 2 ^ 24 := by rw [hP]; exact Nat.lt_of_lt_of_le (upW_lt D us i q) (Nat.pow_le_pow_right (by decide) (by omega))
              have HWI : Hid (∀ ww : World, Calls Tryd.prog 133 #[.int .i64 (P : Int), .int .i64 (i : Int)] ww fun e w'' => e = .returned (.int .i64 (Q2 : Int)) ∧ w'' = ww) := Lib.hid fun ww => (with_any P i (by omega) (by omega) ww).mono fun _ _ h => ⟨by rw [hQ2]; exact h.1, h.2.symm⟩
              have hq24z : (q : Int) < 24 := by omega
              have hck' := (x.next (show Below wr.heap.size wr wr.drew from (Below.refl _ _).drew)).ch q hq24
              rw [oH_cur D us i t q HQ2.out, ← hP] at hck'
              have hf' := (x.next (show Below wr.heap.size wr wr.drew from (Below.refl _ _).drew)).fr (25 + q)
              have HX2 : Hid (OBox ((wr.setCell ⟨g, 25 + q, none⟩ (.int .i64 (Q2 : Int))).drew) g (some ⟨gu, ou, none⟩) m cu (oF D us (i + 1) 0) (oH D us i (t + 1))) := Lib.hid (by rw [← HN.out]; exact (x.seth q Q2 hq24).next ((Below.refl _ _).drew))
              have HB3 : Hid (Below w.heap.size w ((wr.setCell ⟨g, 25 + q, none⟩ (.int .i64 (Q2 : Int))).drew)) := Lib.hid ((hb.setCell (p := ⟨g, 25 + q, none⟩) (by rw [HG.out]; exact Nat.le_refl _) _).drew)
              have HO3 : Hid (Own 2 ((wr.setCell ⟨g, 25 + q, none⟩ (.int .i64 (Q2 : Int))).drew) wd.heap.size (some ⟨gm, 0, none⟩) ml cm (ints ms)) := Lib.hid ((own_other hom g (25 + q) (.int .i64 (Q2 : Int)) (fun k hk e => by cases hk; exact HGM.out.2 e.symm)).below ((Below.refl _ _).drew))
              clear hP hQ2 hP24
              go_wp2_with fail
              go_still_tail 13, mixed
              still_call (HWI.out _)
              repeat still_step
              refine wpStill_nil ?_
              change wpList _ _ _ _ _ wr.drew
              go_wp2_with fail
              go_roundw
              case rel => exact ⟨t + 1, htl, by go_num, HX2.out, HO3.out, HB3.out⟩
              case measure => simp [intOf]; omega
            · have hte : t = ml := by omega
              subst hte
              have X9 : OBox wr g (some ⟨gu, ou, none⟩) m cu (oF D us (i + 1) 0) (upW D us (i + 1)) := x.congr (fun _ _ => rfl) (fun q hq => by have h9 := oH_end D us i q hq; rw [← HMS.out, ← HML.out] at h9; exact h9)
              go_wp2_with fail
              go_roundw
              case rel => exact ⟨i + 1, by omega, by go_num, X9, hb⟩
              case measure => simp [intOf]; omega
    · have hke : k = m := by omega
      subst hke
      go_wp2_with fail
      go_ret
      exact ⟨g, rfl, by rw [HG.out]; exact Nat.le_refl _, by rw [← oF_fin]; exact x, hb⟩
end Go.Proofs.YtfbdbipopfjjnaaDoor
