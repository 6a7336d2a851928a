/-
  Words: what a word is; the program's way and the model's, by contracts.
-/
import Derived.Test.YtcojodkcpemfdaaDoorIsAl
import Derived.Conc.MuLone
import Derived.Lib.SliceRun
import Derived.BigFrame
namespace Go.Proofs.YtcojodkcpemfdaaDoor
open Go.RowKit
set_option linter.unusedVariables false
set_option maxRecDepth 100000

def letB (L a : Int) : Bool := decide (0 ≤ a ∧ a < L)
def wordB (L : Int) (ws : List Int) : Bool := decide (ws.length ≤ 24) && ws.all (letB L)
theorem wordB_long (L : Int) (ws : List Int) (h : 24 < ws.length) : wordB L ws = false := by unfold wordB; rw [decide_eq_false (by omega)]; rfl
theorem wordB_nats (n : Nat) (ws : List Int) (h : wordB (n : Int) ws = true) : ∃ us, ws = ints us ∧ us.length ≤ 24 ∧ ∀ u, u ∈ us → u < n := by
  unfold wordB at h
  rw [Bool.and_eq_true, decide_eq_true_eq, List.all_eq_true] at h
  refine ⟨ws.map Int.toNat, ?_, by rw [List.length_map]; exact h.1, ?_⟩
  · unfold ints
    rw [List.map_map]
    conv => lhs; rw [← List.map_id ws]
    refine List.map_congr_left fun a ha => ?_
    have := h.2 a ha
    unfold letB at this
    rw [decide_eq_true_eq] at this
    simp [Int.toNat_of_nonneg this.1]
  · intro u hu
    obtain ⟨a, ha, rfl⟩ := List.mem_map.1 hu
    have := h.2 a ha
    unfold letB at this
    rw [decide_eq_true_eq] at this
    omega
theorem wordB_ints (n : Nat) (us : List Nat) (h1 : us.length ≤ 24) (h2 : ∀ u, u ∈ us → u < n) : wordB (n : Int) (ints us) = true := by
  unfold wordB
  rw [Bool.and_eq_true, decide_eq_true_eq, List.all_eq_true, ints_len]
  refine ⟨h1, fun a ha => ?_⟩
  unfold ints at ha
  obtain ⟨u, hu, rfl⟩ := List.mem_map.1 ha
  have := h2 u hu
  unfold letB
  rw [decide_eq_true_eq]; omega

/-- The first index of an element that meets a test, or -1. -/
def idxB (p : Int → Bool) (xs : List Int) : Int := match xs.findIdx? p with | some k => (k : Int) | none => -1
theorem idxB_none (p : Int → Bool) (xs : List Int) (h : ∀ (k : Nat) (x : Int), xs[k]? = some x → p x = false) : idxB p xs = -1 := by
  unfold idxB
  rw [List.findIdx?_eq_none_iff.2]
  intro x hx
  obtain ⟨k, hk⟩ := List.mem_iff_getElem?.1 hx
  exact h k x hk
theorem idxB_some (p : Int → Bool) (xs : List Int) (k : Nat) (x : Int) (hx : xs[k]? = some x) (hp : p x = true) (h : ∀ j y, j < k → xs[j]? = some y → p y = false) : idxB p xs = (k : Int) := by
  unfold idxB
  have hk : k < xs.length := by
    rcases Nat.lt_or_ge k xs.length with h9 | h9
    · exact h9
    · rw [List.getElem?_eq_none h9] at hx; cases hx
  have e : xs.findIdx? p = some k := by
    rw [List.findIdx?_eq_some_iff_getElem]
    refine ⟨hk, ?_, fun j hj => ?_⟩
    · rw [List.getElem?_eq_getElem hk] at hx; injection hx with hx; rw [hx]; exact hp
    · have := h j (xs[j]'(by omega)) hj (List.getElem?_eq_getElem (by omega))
      rw [this]; decide
  rw [e]
theorem idxB_any (p : Int → Bool) (xs : List Int) : decide (0 ≤ idxB p xs) = xs.any p := by
  unfold idxB
  cases e : xs.findIdx? p with
  | none =>
    rw [List.findIdx?_eq_none_iff] at e
    symm
    show _ = decide ((0 : Int) ≤ -1)
    rw [decide_eq_false (by omega), List.any_eq_false]
    intro x hx; rw [e x hx]; decide
  | some k =>
    rw [List.findIdx?_eq_some_iff_getElem] at e
    obtain ⟨hk, hp, _⟩ := e
    show decide ((0 : Int) ≤ (k : Int)) = _
    rw [decide_eq_true (by omega)]
    symm
    rw [List.any_eq_true]
    exact ⟨_, List.getElem_mem hk, hp⟩
set_option maxHeartbeats 800000 in
theorem indexFuncI_any (p : Int → Bool) (f : FuncId) (lb : Array Value) (A : Option Addr) (n c : Nat) (xs : List Int) (w : World) (h : Rd w A n xs) (hn : n ≤ 1048576)
    (eg : ∀ args w, (callFunc f args).run Tryd.prog w = .ok (.enter f args) w)
    (hp : ∀ x, x ∈ xs → Calls Tryd.prog f (#[.int .i64 x] ++ lb) w fun e w' => e = .returned (.bool (p x)) ∧ w = w') :
    Calls Tryd.prog 188 #[.slice A n c, .func (.func f) #[] lb] w fun e w' => e = .returned (.int .i64 (idxB p xs)) ∧ w = w' := by
  have HP := Lib.hid hp
  have HL := Lib.hid h.1
  clear hp
  go_enter Tryd.func188, Tryd.ntmps188
  go_wp2
  go_loop [8] (fun q => ∃ k : Nat, k ≤ n ∧ q = .int .i64 k ∧ ∀ j y, j < k → xs[j]? = some y → p y = false) (fun q => n - (intOf q).toNat)
  case atStart => exact ⟨0, Nat.zero_le _, rfl, fun j y hj => absurd hj (Nat.not_lt_zero _)⟩
  case round =>
    obtain ⟨k, hk, rfl, hall⟩ := hrel
    have HA := Lib.hid hall
    clear hall
    by_cases hlt : k < n
    · obtain ⟨b, off, x, rfl, hbs, hx, hcx⟩ := h.at_ hlt
      have HC := Lib.hid (HP.out x (List.mem_of_getElem? hx))
      have HX := Lib.hid hx
      clear hx
      cases hpx : p x
      · have HF := Lib.hid hpx
        clear hpx
        go_wp2_with fail
        refine HC.out.mono ?_
        rintro e w' ⟨rfl, rfl⟩
        rw [HF.out]
        go_wp2
        go_round
        case rel => exact ⟨k + 1, by omega, by go_num, fun j y hj hy => by
          by_cases e : j = k
          · subst e
            have := HX.out
            rw [hy] at this
            injection this with this
            rw [this]; exact HF.out
          · exact HA.out j y (by omega) hy⟩
        case measure => simp [intOf]; omega
      · have HF := Lib.hid hpx
        clear hpx
        go_wp2_with fail
        refine HC.out.mono ?_
        rintro e w' ⟨rfl, rfl⟩
        rw [HF.out]
        go_wp2
        go_ret
        exact ⟨ret_i _ _ (idxB_some p xs k x HX.out HF.out HA.out).symm, rfl⟩
    · obtain rfl : k = n := by omega
      go_wp2
      go_ret
      refine ⟨ret_i _ _ (idxB_none p xs fun j x hx => HA.out j x ?_ hx).symm, rfl⟩
      rcases Nat.lt_or_ge j k with h9 | h9
      · exact h9
      · rw [List.getElem?_eq_none (by rw [HL.out]; exact h9)] at hx; cases hx
theorem containsFuncI_any (p : Int → Bool) (f : FuncId) (lb : Array Value) (A : Option Addr) (n c : Nat) (xs : List Int) (w : World) (h : Rd w A n xs) (hn : n ≤ 1048576)
    (eg : ∀ args w, (callFunc f args).run Tryd.prog w = .ok (.enter f args) w)
    (hp : ∀ x, x ∈ xs → Calls Tryd.prog f (#[.int .i64 x] ++ lb) w fun e w' => e = .returned (.bool (p x)) ∧ w = w') :
    Calls Tryd.prog 138 #[.slice A n c, .func (.func f) #[] lb] w fun e w' => e = .returned (.bool (xs.any p)) ∧ w = w' := by
  have HI := Lib.hid (indexFuncI_any p f lb A n c xs w h hn eg hp)
  have HE := Lib.hid (idxB_any p xs)
  obtain ⟨I, hI⟩ : ∃ I, I = idxB p xs := ⟨_, rfl⟩
  rw [← hI] at HI HE
  clear hp hI
  go_enter Tryd.func138, Tryd.ntmps138
  go_wp2_with fail
  refine HI.out.mono ?_
  rintro e w' ⟨rfl, rfl⟩
  go_wp2
  go_ret
  exact ⟨ret_b _ _ HE.out, rfl⟩
theorem noLetter_any (b : Nat) (L a : Int) (w : World) (hc : w.cell? ⟨b, 0, none⟩ = some (.int .i64 L)) :
    Calls Tryd.prog 137 #[.int .i64 a, .pointer (some ⟨b, 0, none⟩)] w fun e w' => e = .returned (.bool (!letB L a)) ∧ w = w' := by
  by_cases h1 : 0 ≤ a
  · by_cases h2 : a < L
    · have HF : Hid (letB L a = true) := Lib.hid (decide_eq_true ⟨h1, h2⟩)
      go_enter Tryd.func137, Tryd.ntmps137
      go_wp2
      go_ret
      exact ⟨ret_b _ _ (by rw [HF.out, decide_eq_false (by omega : ¬ a < 0), decide_eq_false (by omega : ¬ L ≤ a)]; rfl), rfl⟩
    · have HF : Hid (letB L a = false) := Lib.hid (decide_eq_false (by omega))
      go_enter Tryd.func137, Tryd.ntmps137
      go_wp2
      go_ret
      exact ⟨ret_b _ _ (by rw [HF.out]; rfl), rfl⟩
  · have HF : Hid (letB L a = false) := Lib.hid (decide_eq_false (by omega))
    go_enter Tryd.func137, Tryd.ntmps137
    go_wp2
    go_ret
    exact ⟨ret_b _ _ (by rw [HF.out]; rfl), rfl⟩
theorem cell_new0 (w : World) (v : Value) (T : TypeId) : (w.alloc (.cells #[v] T)).cell? ⟨w.heap.size, 0, none⟩ = some v := by
  have := cell_one_new w v T 0 v rfl
  rw [add_zero_off] at this; exact this
theorem any_not_all (p : Int → Bool) (xs : List Int) : xs.any (fun a => !p a) = !xs.all p := by
  induction xs with
  | nil => rfl
  | cons x r ih => simp [List.any_cons, List.all_cons, ih, Bool.not_and]
set_option maxHeartbeats 800000 in
theorem isWordOf_any (L : Int) (A : Option Addr) (n c : Nat) (xs : List Int) (w : World) (h : Rd w A n xs) (hn : n ≤ 9223372036854775807) :
    Calls Tryd.prog 74 #[.int .i64 L, .slice A n c] w fun e w' => e = .returned (.bool (wordB L xs)) ∧ Below w.heap.size w w' := by
  have hlen := h.1
  have HB := Lib.hid (below1 w (.cells #[.int .i64 L] 2))
  by_cases h24 : n ≤ 24
  · have eg : ∀ args w, (callFunc 137 args).run Tryd.prog w = .ok (.enter 137 args) w := fun args w => Go.MuLone.run_callFunc_enter (P := Tryd.prog) Tryd.func137 (by kernel_rfl) rfl args w
    have HW : Hid (wordB L xs = xs.all (letB L)) := Lib.hid (by unfold wordB; rw [hlen, decide_eq_true h24]; rfl)
    have HC := Lib.hid (containsFuncI_any (fun a => !letB L a) 137 #[.pointer (some ⟨w.heap.size, 0, none⟩)] A n c xs _ (h.below HB.out) (by omega) eg (fun x _ => noLetter_any w.heap.size L x _ (cell_new0 w _ _)))
    clear hlen
    go_enter Tryd.func74, Tryd.ntmps74
    go_wp2_with fail
    refine HC.out.mono ?_
    rintro e w1 ⟨rfl, rfl⟩
    go_wp2_with fail
    go_ret
    exact ⟨ret_b _ _ (by rw [any_not_all, Bool.not_not, HW.out]), HB.out⟩
  · have HW := Lib.hid (wordB_long L xs (by omega))
    clear hlen
    go_enter Tryd.func74, Tryd.ntmps74
    go_wp2_with fail
    go_ret
    exact ⟨ret_b _ _ HW.out.symm, HB.out⟩
end Go.Proofs.YtcojodkcpemfdaaDoor
