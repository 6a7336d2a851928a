/-
  Division: the program's letters that depend on a word, and what is left of a word without its first letter, by contracts.
-/
import Derived.Test.YtmooanfcedgfnaaDoorDvM
import Derived.Test.YtmooanfcedgfnaaDoorStA
import Derived.Laws.CopyOwn
import Derived.Conc.MuLone
namespace Go.Proofs.YtmooanfcedgfnaaDoor
open Go Go.RowKit
set_option linter.unusedVariables false
set_option maxRecDepth 100000

set_option maxHeartbeats 800000 in
theorem indexFuncM_any (p : Int → Bool) (f : FuncId) (M : Int) (A : Option Addr) (n c : Nat) (xs : List Int) (w : World) (h : Rd w A n xs) (hn : n ≤ 1048576)
    (eg : ∀ args w, (callFunc f args).run Tryd.prog w = .ok (.enter f args) w)
    (hp : ∀ x, x ∈ xs → ∀ ww : World, Calls Tryd.prog f #[.int .i64 M, .int .i64 x] ww fun e w' => e = .returned (.bool (p x)) ∧ ww = w') :
    Calls Tryd.prog 110 #[.slice A n c, .func (.func f) #[.int .i64 M] #[]] w fun e w' => e = .returned (.int .i64 (idxB p xs)) ∧ w = w' := by
  have HP := Lib.hid hp
  have HL := Lib.hid h.1
  clear hp
  go_enter Tryd.func110, Tryd.ntmps110
  go_wp2
  go_loop [8] (fun q => ∃ k : Nat, k ≤ n ∧ q = .int .i64 k ∧ ∀ j y, j < k → xs[j]? = some y → p y = false) (fun q => n - (intOf q).toNat)
  case atStart => exact ⟨0, Nat.zero_le _, rfl, fun j y hj => absurd hj (Nat.not_lt_zero _)⟩
  case round =>
    obtain ⟨k, hk, rfl, hall⟩ := hrel
    have HA := Lib.hid hall
    clear hall
    by_cases hlt : k < n
    · obtain ⟨b, off, x, rfl, hbs, hx, hcx⟩ := h.at_ hlt
      have HC := Lib.hid (HP.out x (List.mem_of_getElem? hx))
      have HX := Lib.hid hx
      clear hx
      cases hpx : p x
      · have HF := Lib.hid hpx
        clear hpx
        go_wp2_with fail
        refine (HC.out _).mono ?_
        rintro e w' ⟨rfl, rfl⟩
        rw [HF.out]
        go_wp2
        go_round
        case rel => exact ⟨k + 1, by omega, by go_num, fun j y hj hy => by
          by_cases e : j = k
          · subst e
            have := HX.out
            rw [hy] at this
            injection this with this
            rw [this]; exact HF.out
          · exact HA.out j y (by omega) hy⟩
        case measure => simp [intOf]; omega
      · have HF := Lib.hid hpx
        clear hpx
        go_wp2_with fail
        refine (HC.out _).mono ?_
        rintro e w' ⟨rfl, rfl⟩
        rw [HF.out]
        go_wp2
        go_ret
        exact ⟨ret_i _ _ (idxB_some p xs k x HX.out HF.out HA.out).symm, rfl⟩
    · obtain rfl : k = n := by omega
      go_wp2
      go_ret
      refine ⟨ret_i _ _ (idxB_none p xs fun j x hx => HA.out j x ?_ hx).symm, rfl⟩
      rcases Nat.lt_or_ge j k with h9 | h9
      · exact h9
      · rw [List.getElem?_eq_none (by rw [HL.out]; exact h9)] at hx; cases hx
theorem containsFuncM_any (p : Int → Bool) (f : FuncId) (M : Int) (A : Option Addr) (n c : Nat) (xs : List Int) (w : World) (h : Rd w A n xs) (hn : n ≤ 1048576)
    (eg : ∀ args w, (callFunc f args).run Tryd.prog w = .ok (.enter f args) w)
    (hp : ∀ x, x ∈ xs → ∀ ww : World, Calls Tryd.prog f #[.int .i64 M, .int .i64 x] ww fun e w' => e = .returned (.bool (p x)) ∧ ww = w') :
    Calls Tryd.prog 101 #[.slice A n c, .func (.func f) #[.int .i64 M] #[]] w fun e w' => e = .returned (.bool (xs.any p)) ∧ w = w' := by
  have HI := Lib.hid (indexFuncM_any p f M A n c xs w h hn eg hp)
  have HE := Lib.hid (idxB_any p xs)
  obtain ⟨I, hI⟩ : ∃ I, I = idxB p xs := ⟨_, rfl⟩
  rw [← hI] at HI HE
  clear hp hI
  go_enter Tryd.func101, Tryd.ntmps101
  go_wp2_with fail
  refine HI.out.mono ?_
  rintro e w' ⟨rfl, rfl⟩
  go_wp2
  go_ret
  exact ⟨ret_b _ _ HE.out, rfl⟩

theorem at_some (us : List Nat) (k : Nat) (h : k < us.length) : us[k]? = some (us.getD k 0) := by rw [List.getD_eq_getElem?_getD, List.getElem?_eq_getElem h]; rfl
/-- The letters that depend on one of a word, as a set. -/
def depM (rs us : List Nat) : Nat := us.foldl (fun s a => s ||| rs.getD a 0) 0
theorem depM_snoc (rs us : List Nat) (a : Nat) : depM rs (us ++ [a]) = depM rs us ||| rs.getD a 0 := by unfold depM; rw [List.foldl_append]; rfl
theorem depM_lt (rs : List Nat) (n : Nat) (hr : ∀ i, rs.getD i 0 < 2 ^ n) : ∀ us : List Nat, depM rs us < 2 ^ n := by
  intro us
  suffices h : ∀ (us : List Nat) (s : Nat), s < 2 ^ n → us.foldl (fun s a => s ||| rs.getD a 0) s < 2 ^ n from h us 0 (Nat.pos_of_ne_zero (by simp))
  intro us
  induction us with
  | nil => intro s hs; exact hs
  | cons a us ih => intro s hs; exact ih _ (Nat.or_lt_two_pow hs (hr a))
theorem depM_bit (rs us : List Nat) (b : Nat) : (depM rs us).testBit b = depL (RDep rs) us b := by
  suffices h : ∀ (us : List Nat) (s : Nat), (us.foldl (fun s a => s ||| rs.getD a 0) s).testBit b = (s.testBit b || depL (RDep rs) us b) by
    have := h us 0
    rw [Nat.zero_testBit, Bool.false_or] at this
    exact this
  intro us
  induction us with
  | nil => intro s; simp [depL]
  | cons a us ih =>
    intro s
    show (us.foldl _ (s ||| rs.getD a 0)).testBit b = (s.testBit b || (RDep rs a b || depL (RDep rs) us b))
    rw [ih, Nat.testBit_or, Bool.or_assoc]; rfl
set_option maxHeartbeats 800000 in
theorem dependents_any (R A : Option Addr) (n c m d : Nat) (rs us : List Nat) (w : World) (h : Rd w R n (ints rs)) (hn : n ≤ 24) (hr : ∀ i, rs.getD i 0 < 2 ^ n) (h2 : Rd w A m (ints us)) (hm : m ≤ 1048576) (hus : ∀ x, x ∈ us → x < n) :
    Calls Tryd.prog 102 #[.slice R n c, .slice A m d] w fun e w' => e = .returned (.int .i64 (depM rs us : Nat)) ∧ w = w' := by
  have HLU : Hid (us.length = m) := Lib.hid (by have := h2.1; rw [ints_len] at this; exact this)
  have HLR : Hid (rs.length = n) := Lib.hid (by have := h.1; rw [ints_len] at this; exact this)
  have HR := Lib.hid hr
  have HUS := Lib.hid hus
  have h24 : 2 ^ n ≤ 2 ^ 24 := Nat.pow_le_pow_right (by decide) hn
  have HDL := Lib.hid (fun vs => Nat.lt_of_lt_of_le (depM_lt rs n hr vs) h24)
  have HRL : Hid (∀ i, rs.getD i 0 < 2 ^ 24) := Lib.hid fun i => Nat.lt_of_lt_of_le (hr i) h24
  clear hr hus h24
  go_enter Tryd.func102, Tryd.ntmps102
  go_wp2_with fail
  go_loop [5, 10] (fun s q => ∃ k : Nat, k ≤ m ∧ q = .int .i64 k ∧ s = .int .i64 (depM rs (us.take k) : Nat)) (fun _ q => m - (intOf q).toNat)
  case atStart => exact ⟨0, Nat.zero_le _, rfl, rfl⟩
  case round =>
    obtain ⟨k, hk, rfl, rfl⟩ := hrel
    by_cases hlt : k < m
    · obtain ⟨b, off, x, rfl, hbs, hx, hcx⟩ := h2.at_ hlt
      rw [ints_getD us k (by rw [HLU.out]; exact hlt)] at hx
      injection hx with hx
      have hun : us.getD k 0 < n := HUS.out _ (by rw [List.getD_eq_getElem?_getD, List.getElem?_eq_getElem (by rw [HLU.out]; exact hlt)]; exact List.getElem_mem _)
      have HSN : Hid (depM rs (us.take (k + 1)) = depM rs (us.take k) ||| rs.getD (us.getD k 0) 0) := Lib.hid (by
        rw [take_snoc us k _ (at_some us k (by rw [HLU.out]; exact hlt))]
        exact depM_snoc _ _ _)
      obtain ⟨X, hX⟩ : ∃ X, X = us.getD k 0 := ⟨_, rfl⟩
      rw [← hX] at hx hun HSN
      subst hx
      obtain ⟨b2, off2, y, e2, hbs2, hy, hcy⟩ := h.at_ hun
      rw [ints_getD rs X (by rw [HLR.out]; exact hun)] at hy
      injection hy with hy
      have hD := HDL.out (us.take k)
      have hV := HRL.out X
      obtain ⟨V, hV'⟩ : ∃ V, V = rs.getD X 0 := ⟨_, rfl⟩
      obtain ⟨S, hS⟩ : ∃ S, S = depM rs (us.take k) := ⟨_, rfl⟩
      rw [← hV'] at hy hV HSN
      rw [← hS] at hD HSN
      rw [← hS]
      subst hy e2
      have hor := i64_or_nat S V (by omega) (by omega)
      clear hX hV' hS
      go_wp2_with fail
      go_round
      case rel => exact ⟨k + 1, hlt, by go_num, by rw [HSN.out, ← hor]⟩
      case measure => simp [intOf]; omega
    · have hkm : k = m := by omega
      subst hkm
      have HE : Hid (us.take k = us) := Lib.hid (List.take_of_length_le (by rw [HLU.out]; exact Nat.le_refl _))
      go_wp2_with fail
      go_ret
      refine ⟨ret_i _ _ (by rw [HE.out]), rfl⟩
set_option maxHeartbeats 800000 in
theorem areIndependent_any (R A B : Option Addr) (n c m d q f : Nat) (rs us vs : List Nat) (w : World) (h : Rd w R n (ints rs)) (hn : n ≤ 24) (hr : ∀ i, rs.getD i 0 < 2 ^ n) (h2 : Rd w A m (ints us)) (hm : m ≤ 1048576) (hus : ∀ x, x ∈ us → x < n) (h3 : Rd w B q (ints vs)) (hq : q ≤ 1048576) (hvs : ∀ x, x ∈ vs → x < n) :
    Calls Tryd.prog 65 #[.slice R n c, .slice A m d, .slice B q f] w fun e w' => e = .returned (.bool (indM (RDep rs) us vs)) ∧ w = w' := by
  have HD := Lib.hid (dependents_any R A n c m d rs us w h hn hr h2 hm hus)
  have h24 : 2 ^ n ≤ 2 ^ 24 := Nat.pow_le_pow_right (by decide) hn
  have hlt := Nat.lt_of_lt_of_le (depM_lt rs n hr us) h24
  have eg : ∀ args w, (callFunc 95 args).run Tryd.prog w = .ok (.enter 95 args) w := fun args w => Go.MuLone.run_callFunc_enter (P := Tryd.prog) Tryd.func95 (by kernel_rfl) rfl args w
  have HC := Lib.hid (containsFuncM_any (fun x => (depM rs us).testBit x.toNat) 95 (depM rs us : Nat) B q f (ints vs) w h3 hq eg (fun x hx ww => by
    unfold ints at hx
    obtain ⟨y, hy, rfl⟩ := List.mem_map.1 hx
    have := hvs y hy
    exact has_any (depM rs us) y (by omega) (by omega) ww))
  have HV : Hid ((ints vs).any (fun x => (depM rs us).testBit x.toNat) = !indM (RDep rs) us vs) := Lib.hid (by
    unfold indM ints
    rw [List.any_map, Bool.not_not]
    congr 1
    funext y
    exact depM_bit rs us y)
  rw [HV.out] at HC
  obtain ⟨I, hI⟩ : ∃ I, I = indM (RDep rs) us vs := ⟨_, rfl⟩
  rw [← hI] at HC ⊢
  obtain ⟨S, hS⟩ : ∃ S, S = depM rs us := ⟨_, rfl⟩
  rw [← hS] at HC HD
  clear hI hS HV eg hlt h24 hr hus hvs
  go_enter Tryd.func65, Tryd.ntmps65
  go_wp2_with fail
  refine HD.out.mono ?_
  rintro e w' ⟨rfl, rfl⟩
  go_wp2_with fail
  refine HC.out.mono ?_
  rintro e w' ⟨rfl, rfl⟩
  go_wp2_with fail
  go_ret
  refine ⟨ret_b _ _ (by simp), rfl⟩

/-- Where the first letter that depends on a stands: at the first a exactly if a is a first letter. -/
theorem free_idx (D : Nat → Nat → Bool) (hsym : ∀ a b, D a b = D b a) (a : Nat) (ha : D a a = true) : ∀ us : List Nat, (freeB D us a = true → us.findIdx? (fun y => D a y) = some (us.idxOf a)) ∧ (freeB D us a = false → us.findIdx? (fun y => D a y) = none ∨ ∃ k, us.findIdx? (fun y => D a y) = some k ∧ k < us.length ∧ us.getD k 0 ≠ a)
  | [] => ⟨fun h => by simp [freeB] at h, fun _ => .inl rfl⟩
  | c :: t => by
    obtain ⟨ih1, ih2⟩ := free_idx D hsym a ha t
    rw [free_cons, List.findIdx?_cons]
    by_cases e : c = a
    · subst e
      rw [if_pos rfl]
      refine ⟨fun _ => ?_, fun h => by cases h⟩
      rw [ha, if_pos rfl, List.idxOf_cons_self]
    · rw [if_neg e]
      cases hD : D c a with
      | true =>
        rw [if_pos rfl]
        refine ⟨fun h => (by cases h), fun _ => .inr ⟨0, ?_, by simp, e⟩⟩
        rw [hsym, hD, if_pos rfl]
      | false =>
        rw [if_neg (by decide), hsym, hD, if_neg (by decide)]
        refine ⟨fun h => ?_, fun h => ?_⟩
        · rw [ih1 h]
          show some (t.idxOf a + 1) = _
          rw [List.idxOf_cons, show (c == a) = false from by simpa using e]; rfl
        · rcases ih2 h with h1 | ⟨k, h1, h2, h3⟩
          · exact .inl (by rw [h1]; rfl)
          · exact .inr ⟨k + 1, by rw [h1]; rfl, by rw [List.length_cons]; omega, by simpa using h3⟩
theorem idxB_ints (p : Nat → Bool) (q : Int → Bool) (hpq : ∀ y : Nat, q (y : Int) = p y) (us : List Nat) : idxB q (ints us) = match us.findIdx? p with | some k => (k : Int) | none => -1 := by
  unfold idxB ints
  rw [List.findIdx?_map]
  have : (q ∘ fun n : Nat => (n : Int)) = p := by funext y; exact hpq y
  rw [this]
  cases us.findIdx? p <;> rfl
theorem splice2 {α : Type} (Z X1 X2 : List α) (k : Nat) (hk : X1.length = k) (hZ : Z.length = k + X2.length) : splice (splice Z 0 X1) k X2 = X1 ++ X2 := by
  subst hk
  unfold splice
  have e1 : Z.take 0 ++ (X1 ++ Z.drop (0 + X1.length)) = X1 ++ Z.drop X1.length := by simp
  rw [e1]
  have e2 : (X1 ++ Z.drop X1.length).take X1.length = X1 := by simp
  have e3 : (X1 ++ Z.drop X1.length).drop (X1.length + X2.length) = [] := by
    apply List.drop_eq_nil_of_le; simp; omega
  rw [e2, e3]; simp
theorem made_row {E : TypeId} {w1 : World} {g n : Nat} {Z : List Value} (h : w1.ownsRow g E 1 (.slice (some ⟨g, 0, none⟩) n n) n Z) : w1.heap[g]? = some (.cells Z.toArray E (0, 0)) ∧ Z.length = n := by
  obtain ⟨hl, h⟩ := h
  have hl1 : Z.length = n := by omega
  rcases h with ⟨h, _⟩ | ⟨g', cap, cur, e, _, hc, _, _, hs, ht⟩
  · cases h
  · injection e with e1 e2 e3
    injection e1 with e1
    injection e1 with e1
    subst e1 e3
    rw [Nat.mul_one] at ht hs
    have : cur.toList = Z := by rw [← ht]; exact (List.take_of_length_le (by rw [Array.length_toList]; omega)).symm
    rw [hc, ← this]
    exact ⟨by simp, by rw [this]; exact hl1⟩
theorem own_of_row {E : TypeId} {w : World} {B g n : Nat} {xs : List Int} (hB : B ≤ g) (hm : n ≤ maxLen) (hl : xs.length = n) (h : w.heap[g]? = some (.cells (xs.map (Value.int .i64)).toArray E (0, 0))) : Own E w B (some ⟨g, 0, none⟩) n n xs :=
  ⟨by simp [hl], .inr ⟨g, n, _, rfl, hB, h, Nat.le_refl _, hm, by simp [hl], List.take_of_length_le (by simp [hl])⟩⟩
set_option maxHeartbeats 1600000 in
theorem without_any (R A : Option Addr) (n c m d a : Nat) (rs us : List Nat) (w : World) (h : Rd w R n (ints rs)) (hn : n ≤ 24) (hr : ∀ i, rs.getD i 0 < 2 ^ n) (hsym : ∀ a b, RDep rs a b = RDep rs b a) (href : ∀ a, a < n → RDep rs a a = true)
    (h2 : Rd w A m (ints us)) (hm : m ≤ 1048576) (hmd : m ≤ d) (hus : ∀ x, x ∈ us → x < n) (ha : a < n) :
    Calls Tryd.prog 103 #[.slice R n c, .int .i64 (a : Int), .slice A m d] w fun e w' =>
      (freeB (RDep rs) us a = true ∧ 0 < m ∧ ∃ A' c', e = .returned (.tuple #[.slice A' (m - 1) c', .bool true]) ∧ Own 2 w' w.heap.size A' (m - 1) c' (ints (us.erase a)) ∧ Below w.heap.size w w') ∨
      (freeB (RDep rs) us a = false ∧ e = .returned (.tuple #[.slice none 0 0, .bool false]) ∧ w = w') := by
  obtain ⟨i0, hi, hz0, hz1, hz2⟩ := info_parts info_int
  have HLU : Hid (us.length = m) := Lib.hid (by have := h2.1; rw [ints_len] at this; exact this)
  have HLR : Hid (rs.length = n) := Lib.hid (by have := h.1; rw [ints_len] at this; exact this)
  have h24 : 2 ^ n ≤ 2 ^ 24 := Nat.pow_le_pow_right (by decide) hn
  have hV := Nat.lt_of_lt_of_le (hr a) h24
  have eg : ∀ args w, (callFunc 95 args).run Tryd.prog w = .ok (.enter 95 args) w := fun args w => Go.MuLone.run_callFunc_enter (P := Tryd.prog) Tryd.func95 (by kernel_rfl) rfl args w
  obtain ⟨b2, off2, y, e2, hbs2, hy, hcy⟩ := h.at_ ha
  rw [ints_getD rs a (by rw [HLR.out]; exact ha)] at hy
  injection hy with hy
  have HI := Lib.hid (indexFuncM_any (fun x => (rs.getD a 0).testBit x.toNat) 95 (rs.getD a 0 : Nat) A m d (ints us) w h2 hm eg (fun x hx ww => by
    unfold ints at hx
    obtain ⟨z, hz, rfl⟩ := List.mem_map.1 hx
    have := hus z hz
    exact has_any (rs.getD a 0) z (by omega) (by omega) ww))
  have HX := Lib.hid (idxB_ints (fun z => RDep rs a z) (fun x => (rs.getD a 0).testBit x.toNat) (fun z => rfl) us)
  have HF := Lib.hid (free_idx (RDep rs) hsym a (href a ha) us)
  rw [HX.out] at HI
  obtain ⟨V, hV'⟩ : ∃ V, V = rs.getD a 0 := ⟨_, rfl⟩
  rw [← hV'] at hy HI hV
  subst hy e2
  clear hV' h24 eg HX hr hsym href
  cases hfr : freeB (RDep rs) us a
  · rcases HF.out.2 hfr with h9 | ⟨k, h9, hk, hne⟩
    · rw [h9] at HI
      clear h9
      go_enter Tryd.func103, Tryd.ntmps103
      go_wp2_with fail
      refine HI.out.mono ?_
      rintro e w' ⟨rfl, rfl⟩
      go_wp2_with fail
      go_ret2
      exact .inr ⟨trivial, rfl, rfl⟩
    · rw [h9] at HI
      rw [HLU.out] at hk
      obtain ⟨b, off, x, rfl, hbs, hx, hcx⟩ := h2.at_ hk
      rw [ints_getD us k (by rw [HLU.out]; exact hk)] at hx
      injection hx with hx
      have hne' : (((us.getD k 0 : Nat) : Int) != (a : Int)) = true := by
        simp only [bne_iff_ne, ne_eq]
        intro h; exact hne (by exact_mod_cast h)
      obtain ⟨X, hX⟩ : ∃ X, X = us.getD k 0 := ⟨_, rfl⟩
      rw [← hX] at hx hne'
      subst hx
      clear h9 hX hne
      go_enter Tryd.func103, Tryd.ntmps103
      go_wp2_with fail
      refine HI.out.mono ?_
      rintro e w' ⟨rfl, rfl⟩
      go_wp2_with fail
      go_ret2
      exact .inr ⟨trivial, rfl, rfl⟩
  · have h9 := HF.out.1 hfr
    have hmem := free_mem (RDep rs) a us hfr
    have hk := List.idxOf_lt_length_of_mem hmem
    have hat : us.getD (us.idxOf a) 0 = a := by
      rw [List.getD_eq_getElem?_getD, List.getElem?_eq_getElem hk]
      exact List.getElem_idxOf hk
    have HER := Lib.hid (erase_idx us a hmem)
    rw [h9] at HI
    obtain ⟨k, hk'⟩ : ∃ k, k = us.idxOf a := ⟨_, rfl⟩
    rw [← hk'] at HI hk hat HER
    rw [HLU.out] at hk
    have HER2 : Hid (ints (us.take k) ++ ints (us.drop (k + 1)) = ints (us.erase a)) := Lib.hid (by
      rw [← HER.out, List.eraseIdx_eq_take_drop_succ]; unfold ints; rw [List.map_append])
    have hlE : (ints (us.erase a)).length = m - 1 := by rw [ints_len, List.length_erase_of_mem hmem, HLU.out]
    obtain ⟨b, off, x, rfl, hbs, hx, hcx⟩ := h2.at_ hk
    rw [ints_getD us k (by rw [HLU.out]; exact hk), hat] at hx
    injection hx with hx
    subst hx
    have hT := h2.take_ k (by omega)
    have hD := h2.drop_ (k + 1)
    obtain ⟨X1, hX1⟩ : ∃ X1, X1 = (ints (us.take k)).map (Value.int .i64) := ⟨_, rfl⟩
    obtain ⟨X2, hX2⟩ : ∃ X2, X2 = (ints (us.drop (k + 1))).map (Value.int .i64) := ⟨_, rfl⟩
    have HX1 : Hid (X1.length = k) := Lib.hid (by rw [hX1, List.length_map, ints_len, List.length_take, HLU.out]; omega)
    have HX2 : Hid (X2.length = m - (k + 1)) := Lib.hid (by rw [hX2, List.length_map, ints_len, List.length_drop, HLU.out])
    have HS1 : Hid (∀ wx : World, Below w.heap.size w wx → ∀ j u, X1[j]? = some u → wx.cell? ((⟨b, off, none⟩ : Addr).add j) = some u) := Lib.hid (by rw [hX1]; exact fun wx hwx => rd_news2 hT (fun p hp => hwx.cell hp) hwx.size)
    have HS2 : Hid (∀ wx : World, Below w.heap.size w wx → ∀ j u, X2[j]? = some u → wx.cell? ((⟨b, off + (k + 1), none⟩ : Addr).add j) = some u) := Lib.hid (by rw [hX2]; exact fun wx hwx => rd_news2 hD (fun p hp => hwx.cell hp) hwx.size)
    have HO1 : Hid (∀ v ∈ X1, v.oneCell' = true) := Lib.hid (by rw [hX1]; exact ints_oneCell .i64 _)
    have HO2 : Hid (∀ v ∈ X2, v.oneCell' = true) := Lib.hid (by rw [hX2]; exact ints_oneCell .i64 _)
    have HXX : Hid (X1 ++ X2 = (ints (us.erase a)).map (Value.int .i64)) := Lib.hid (by rw [hX1, hX2, ← List.map_append, HER2.out])
    have HLE := Lib.hid hlE
    clear h9 hk' hat hX1 hX2 hmem hT hD hlE HER HER2
    have hml : m - 1 ≤ maxLen := by unfold maxLen; omega
    have hby : i0.bytes * (m - 1) ≤ 281474976710656 := by rw [hz2]; omega
    have hmI : (m : Int) - 1 = ((m - 1 : Nat) : Int) := by omega
    have hw0 : IntKind.i64.wrap ((m : Int) - 1) = ((m - 1 : Nat) : Int) := by rw [IntWalk.i64_left]; unfold wrap64; omega
    have hw1 : IntKind.i64.wrap ((k : Int) + 1) = (k : Int) + 1 := by rw [IntWalk.i64_left]; unfold wrap64; omega
    have hkd : k ≤ d := by omega
    go_enter Tryd.func103, Tryd.ntmps103
    go_wp2_with fail
    refine HI.out.mono ?_
    rintro e w' ⟨rfl, rfl⟩
    have hsz : (Tryd.prog.info? 2).map (·.size) = some 1 := by rw [hi]; simp [hz1]
    have HN1 : Hid (X1.length = Nat.min k (m - 1)) := Lib.hid (by rw [HX1.out]; exact (Nat.min_eq_left (by omega)).symm)
    have hkm : (k : Int) ≤ ((m - 1 : Nat) : Int) := by omega
    have hI2 : (0 : Int) ≤ (k : Int) + 1 := by omega
    have hI3 : (k : Int) + 1 ≤ (m : Int) := by omega
    have hkm1 : k + 1 ≤ m := by omega
    have hkm2 : k ≤ m - 1 := by omega
    have hkd1 : k + 1 ≤ d := by omega
    have HN2 : Hid (X2.length = Nat.min (m - (k + 1)) (m - 1 - k)) := Lib.hid (by rw [HX2.out]; exact (Nat.min_eq_left (by omega)).symm)
    have HZZ : Hid (∀ w1 : World, ∀ Z : List Value, Z.length = m - 1 → 0 + X1.length ≤ Z.length ∧ k + X2.length ≤ (splice Z 0 X1).length ∧ ∀ w3 : World, w3.heap[w.heap.size]? = some (.cells (splice (splice Z 0 X1) k X2).toArray 2 (0, 0)) → Own 2 w3 w.heap.size (some ⟨w.heap.size, 0, none⟩) (m - 1) (m - 1) (ints (us.erase a))) := Lib.hid (by
      intro w1 Z hZ
      have f1 : 0 + X1.length ≤ Z.length := by rw [HX1.out, hZ]; omega
      refine ⟨f1, by rw [length_splice _ _ _ f1, hZ, HX2.out]; omega, fun w3 hg => own_of_row (Nat.le_refl _) hml HLE.out ?_⟩
      rw [← HXX.out, ← splice2 Z X1 X2 k HX1.out (by rw [hZ, HX2.out]; omega)]; exact hg)
    have HMK : Hid (∀ w1 : World, w1.ownsRow w.heap.size 2 1 (.slice (some ⟨w.heap.size, 0, none⟩) (m - 1) (m - 1)) (m - 1) (madeCells (Value.int .i64 0).cells ((m - 1) * 1)).toList → w.grownBy w1 none → ∃ Z : List Value, w1.heap[w.heap.size]? = some (.cells Z.toArray 2 (0, 0)) ∧ Z.length = m - 1 ∧ Below w.heap.size w w1) := Lib.hid (fun w1 ho hg => ⟨_, (made_row ho).1, (made_row ho).2, (Below.refl _ _).grown hg (Nat.le_refl _) (by simp)⟩)
    clear hmI
    have HPOS : Hid (0 < X2.length → m - 1 ≠ k ∧ d ≠ k + 1) := Lib.hid (by rw [HX2.out]; omega)
    go_wp2_with (first | (at_make; refine wpList_make_full _ rfl _ _ _ rfl w.heap.size 2 i0 (.int .i64 0) 1 Tryd.underlying22 hi hz0 hz1 _ _ ((m - 1 : Nat) : Int) ((m - 1 : Nat) : Int) (m - 1) rfl rfl rfl rfl hby hml (Nat.le_refl _) ?_; intro w1 hown0 hg1; obtain ⟨Z, hrow, hZ, hb1⟩ := HMK.out w1 hown0 hg1; have HZ := Lib.hid (HZZ.out w1 Z hZ); clear hown0 hg1 hZ) | (refine wpList_copy_splice (by rfl) _ _ _ _ (by rfl) 2 Tryd.underlying22 hsz _ _ _ _ _ _ (by rfl) (by rfl) w.heap.size 0 Z 2 hrow X1 HN1.out (fun _ => ⟨rfl, ⟨b, off, none⟩, rfl, HS1.out w1 hb1⟩) HZ.out.1 HO1.out w.heap.size w hb1 (Nat.le_refl _) ?_; intro w2 HG2 hb2))
    have hb2d := hb2.drew
    obtain ⟨DP, hDP⟩ : ∃ DP, (if m - 1 = k then some (⟨w.heap.size, 0, none⟩ : Addr) else some ⟨w.heap.size, k, none⟩) = DP := ⟨_, rfl⟩
    obtain ⟨SP, hSP⟩ : ∃ SP, (if d = k + 1 then some (⟨b, off, none⟩ : Addr) else some ⟨b, off + (k + 1), none⟩) = SP := ⟨_, rfl⟩
    have HP2 : Hid (0 < X2.length → DP = some ⟨w.heap.size, k, none⟩ ∧ ∃ ad, SP = some ad ∧ ∀ j v, X2[j]? = some v → w2.drew.cell? (ad.add j) = some v) := Lib.hid (fun h9 => ⟨by rw [← hDP]; exact if_neg (HPOS.out h9).1, ⟨b, off + (k + 1), none⟩, by rw [← hSP]; exact if_neg (HPOS.out h9).2, HS2.out _ hb2d⟩)
    go_simp
    go_region_law (first | (refine step_copy_splice rfl (.tmp 38) (.tmp 42) 22 22 rfl 2 Tryd.underlying22 hsz DP SP (m - 1 - k) (m - 1 - k) (m - (k + 1)) (d - (k + 1)) (by go_simp) (by go_simp) w.heap.size k (splice Z 0 X1) 2 HG2.out X2 HN2.out HP2.out HZ.out.2.1 HO2.out w.heap.size w hb2d (Nat.le_refl _) ?_; intro w3 HG3 hb3))
    all_goals (
      go_wp2_with fail
      go_ret2
      exact .inl ⟨trivial, by omega, _, _, rfl, HZ.out.2.2 _ HG3.out, hb3⟩)
end Go.Proofs.YtmooanfcedgfnaaDoor
