/-
  slices.SortStableFunc at []int64, at most 24 numbers.
-/
import Derived.Test.YtcojodkcpemfdaaDoorIns
import Derived.Test.YtcojodkcpemfdaaDoorSymA
namespace Go.Proofs.YtcojodkcpemfdaaDoor
open Go.RowKit
set_option linter.unusedVariables false
set_option linter.unusedSimpArgs false
set_option maxRecDepth 100000
/-- What the stable sort leaves. -/
def StablePost (key : Nat → Nat) (w : World) (B g n c : Nat) (ds : List Nat) (e : Ending) (w' : World) : Prop :=
  e = .returned (.tuple #[]) ∧ ∃ es : List Nat, Own 2 w' B (some ⟨g, 0, none⟩) n c (ints es) ∧ w.grownBy w' (some g) ∧ es.Perm ds ∧ St key es ∧ Srt key es 0 n
set_option maxHeartbeats 3200000 in
theorem stable_small (B g n c N : Nat) (ds : List Nat) (key : Nat → Nat) (cf : Nat → Nat → Int) (f : FuncId) (lb : Array Value) (w : World) (h : Own 2 w B (some ⟨g, 0, none⟩) n c (ints ds)) (hn : n < 20)
    (eg : ∀ args w, (callFunc f args).run Tryd.prog w = .ok (.enter f args) w) (hcmp : CmpOk w g N key cf f lb) (hds : ∀ x, x ∈ ds → x < N) (hst : St key ds) :
    Calls Tryd.prog 203 #[.slice (some ⟨g, 0, none⟩) n c, .int .i64 (n : Int), .func (.func f) #[] lb] w (StablePost key w B g n c ds) := by
  have HI := Lib.hid (ins_any B g n c 0 n N ds key cf f lb w w h (World.grownBy.refl _ _) (by omega) (Nat.le_refl _) (Nat.zero_le _) eg hcmp hds hst)
  have h1 : decide ((20 : Int) ≤ (n : Int)) = false := decide_eq_false (by omega)
  have h2 : decide ((20 : Int) < (n : Int)) = false := decide_eq_false (by omega)
  have h3 : decide (20 ≤ n) = false := decide_eq_false (by omega)
  have h4 : decide (20 < n) = false := decide_eq_false (by omega)
  clear hcmp hds hst h
  go_enter Tryd.func203, Tryd.ntmps203
  go_wp2_with fail
  go_loop [7, 8] (fun p q => p = .int .i64 0 ∧ q = .int .i64 20) (fun _ _ => 0)
  case atStart => exact ⟨rfl, rfl⟩
  case round =>
    obtain ⟨rfl, rfl⟩ := hrel
    go_wp2_with fail
    refine HI.out.mono ?_
    rintro e w2 ⟨rfl, es, ho, hg, hp, hs, hsm, hsr⟩
    go_wp2_with fail
    go_loop [6] (fun p => p = .int .i64 20) (fun _ => 0)
    case atStart => rfl
    case round =>
      subst hrel
      go_wp2_with fail
      exact bodyPost_end (results_none Tryd.results203 _ _ _) rfl ⟨rfl, es, ho, hg, hp, hs, hsr⟩
set_option maxHeartbeats 6400000 in
theorem stable_big (B g n c N : Nat) (ds : List Nat) (key : Nat → Nat) (cf : Nat → Nat → Int) (f : FuncId) (lb : Array Value) (w : World) (h : Own 2 w B (some ⟨g, 0, none⟩) n c (ints ds)) (hn : 20 ≤ n) (hn2 : n ≤ 24)
    (eg : ∀ args w, (callFunc f args).run Tryd.prog w = .ok (.enter f args) w) (hcmp : CmpOk w g N key cf f lb) (hds : ∀ x, x ∈ ds → x < N) (hst : St key ds) :
    Calls Tryd.prog 203 #[.slice (some ⟨g, 0, none⟩) n c, .int .i64 (n : Int), .func (.func f) #[] lb] w (StablePost key w B g n c ds) := by
  have hlen : ds.length = n := by have := h.len; rw [ints_len] at this; exact this
  have HL := Lib.hid hlen
  have HINS := Lib.hid (fun (a b : Nat) (es : List Nat) (wx : World) (ho : Own 2 wx B (some ⟨g, 0, none⟩) n c (ints es)) (hg : w.grownBy wx (some g)) (hb : b ≤ n) (hab : a ≤ b) (hd : ∀ x, x ∈ es → x < N) (hs : St key es) => ins_any B g n c a b N es key cf f lb w wx ho hg (by omega) hb hab eg hcmp hd hs)
  have HSYM := Lib.hid (sym_any B g n c N key cf f lb w (by omega) eg hcmp)
  have HD := Lib.hid hds
  have h1 : decide ((20 : Int) ≤ (n : Int)) = true := decide_eq_true (by omega)
  have h2 : decide ((40 : Int) ≤ (n : Int)) = false := decide_eq_false (by omega)
  have h3 : decide (20 ≤ n) = true := decide_eq_true (by omega)
  have h4 : decide (40 ≤ n) = false := decide_eq_false (by omega)
  have h5 : decide ((40 : Int) < (n : Int)) = false := decide_eq_false (by omega)
  have h6 : decide (40 < n) = false := decide_eq_false (by omega)
  clear hcmp hds hlen
  go_enter Tryd.func203, Tryd.ntmps203
  go_wp2_with fail
  go_loopw [7, 8] (fun p q wr => (p = .int .i64 0 ∧ q = .int .i64 20 ∧ wr = w) ∨ (p = .int .i64 20 ∧ q = .int .i64 40 ∧ ∃ es : List Nat, Own 2 wr B (some ⟨g, 0, none⟩) n c (ints es) ∧ w.grownBy wr (some g) ∧ es.Perm ds ∧ St key es ∧ Srt key es 0 20)) (fun p _ _ => 20 - (intOf p).toNat)
  case atStart => exact .inl ⟨rfl, rfl, rfl⟩
  case round =>
    rcases hrel with ⟨rfl, rfl, rfl⟩ | ⟨rfl, rfl, es, ho, hg, hp, hs, hsr⟩
    · go_wp2_with fail
      refine (HINS.out 0 20 ds _ h (World.grownBy.refl _ _) hn (by omega) HD.out hst).mono ?_
      rintro e w2 ⟨rfl, es, ho, hg, hp, hs, hsm, hsr⟩
      go_wp2_with fail
      go_roundw
      case rel => exact .inr ⟨rfl, rfl, es, ho, hg, hp, hs, hsr⟩
      case measure => simp [intOf]
    · have HP := Lib.hid hp
      have HSR := Lib.hid hsr
      clear hp hsr h
      go_wp2_with fail
      refine (HINS.out 20 n es _ ho hg (Nat.le_refl _) hn (fun x hx => HD.out x (HP.out.mem_iff.1 hx)) hs).mono ?_
      rintro e w2 ⟨rfl, fs, ho2, hg2', hp2, hs2, hsm2, hsr2⟩
      have hg2 := hg.trans hg2'
      have HP2 := Lib.hid (hp2.trans HP.out)
      have HA := Lib.hid (HSR.out.same hsm2 (.inl (Nat.le_refl _)))
      have HB := Lib.hid hsr2
      have HS2 := Lib.hid hs2
      clear ho hg hs hg2' hp2 hsm2 hsr2 hs2
      go_wp2_with fail
      go_loopw [6] (fun p wr => (p = .int .i64 20 ∧ ∃ gs : List Nat, Own 2 wr B (some ⟨g, 0, none⟩) n c (ints gs) ∧ w.grownBy wr (some g) ∧ gs.Perm ds ∧ St key gs ∧ Srt key gs 0 20 ∧ Srt key gs 20 n) ∨ (p = .int .i64 40 ∧ ∃ gs : List Nat, Own 2 wr B (some ⟨g, 0, none⟩) n c (ints gs) ∧ w.grownBy wr (some g) ∧ gs.Perm ds ∧ St key gs ∧ Srt key gs 0 n)) (fun p _ => 40 - (intOf p).toNat)
      case atStart => exact .inl ⟨rfl, fs, ho2, hg2, HP2.out, HS2.out, HA.out, HB.out⟩
      case round =>
        clear ho2 hg2
        rcases hrel with ⟨rfl, gs, ho, hg, hp, hs, hsa, hsb⟩ | ⟨rfl, gs, ho, hg, hp, hs, hsr⟩
        · have HSA := Lib.hid hsa
          have HSB := Lib.hid hsb
          have HP3 := Lib.hid hp
          clear hsa hsb hp
          by_cases h20 : n = 20
          · have h7 : decide ((20 : Int) < (n : Int)) = false := decide_eq_false (by omega)
            have h8 : decide (20 < n) = false := decide_eq_false (by omega)
            have HF : Hid (Srt key gs 0 n) := Lib.hid (by rw [h20]; exact HSA.out)
            clear h20
            go_wp2_with fail
            exact bodyPost_end (results_none Tryd.results203 _ _ _) rfl ⟨rfl, gs, ho, hg, HP3.out, hs, HF.out⟩
          · have h9 : 20 < n := by omega
            have h7 : decide ((20 : Int) < (n : Int)) = true := decide_eq_true (by omega)
            have h8 : decide (20 < n) = true := decide_eq_true h9
            clear h20
            go_wp2_with fail
            go_loop [7, 8] (fun p q => p = .int .i64 0 ∧ q = .int .i64 40) (fun _ _ => 0)
            case atStart => exact ⟨rfl, rfl⟩
            case round =>
              obtain ⟨rfl, rfl⟩ := hrel
              go_wp2_with fail
              refine (HSYM.out n 0 20 n gs _ (by omega) (Nat.le_refl _) (by omega) h9 ho hg (fun x hx => HD.out x (HP3.out.mem_iff.1 hx)) hs HSA.out HSB.out).mono ?_
              rintro e w3 ⟨rfl, fs3, ho3, hg3', hp3, hs3, hsm3, hsr3⟩
              have hg3 := hg.trans hg3'
              have HP4 := Lib.hid (hp3.trans HP3.out)
              have HF := Lib.hid hsr3
              clear ho hg hs hg3' hp3 hsm3 hsr3
              go_wp2_with fail
              go_roundw
              case rel => exact .inr ⟨rfl, fs3, ho3, hg3, HP4.out, hs3, HF.out⟩
              case measure => simp [intOf]
        · have HF := Lib.hid hsr
          have HP3 := Lib.hid hp
          clear hsr hp
          go_wp2_with fail
          exact bodyPost_end (results_none Tryd.results203 _ _ _) rfl ⟨rfl, gs, ho, hg, HP3.out, hs, HF.out⟩
theorem sortStable_any (B g n c N : Nat) (ds : List Nat) (key : Nat → Nat) (cf : Nat → Nat → Int) (f : FuncId) (lb : Array Value) (w : World) (h : Own 2 w B (some ⟨g, 0, none⟩) n c (ints ds)) (hn : n ≤ 24)
    (eg : ∀ args w, (callFunc f args).run Tryd.prog w = .ok (.enter f args) w) (hcmp : CmpOk w g N key cf f lb) (hds : ∀ x, x ∈ ds → x < N) (hst : St key ds) :
    Calls Tryd.prog 166 #[.slice (some ⟨g, 0, none⟩) n c, .func (.func f) #[] lb] w (StablePost key w B g n c ds) := by
  have HI : Hid (Calls Tryd.prog 203 #[.slice (some ⟨g, 0, none⟩) n c, .int .i64 (n : Int), .func (.func f) #[] lb] w (StablePost key w B g n c ds)) := Lib.hid (by
    by_cases h20 : n < 20
    · exact stable_small B g n c N ds key cf f lb w h h20 eg hcmp hds hst
    · exact stable_big B g n c N ds key cf f lb w h (by omega) hn eg hcmp hds hst)
  clear hcmp hds hst h
  go_enter Tryd.func166, Tryd.ntmps166
  go_wp2_with fail
  refine HI.out.mono ?_
  rintro e w2 ⟨rfl, es, ho, hg, hp, hs, hsr⟩
  go_wp2_with fail
  exact bodyPost_end (results_none Tryd.results166 _ _ _) rfl ⟨rfl, es, ho, hg, hp, hs, hsr⟩
end Go.Proofs.YtcojodkcpemfdaaDoor
