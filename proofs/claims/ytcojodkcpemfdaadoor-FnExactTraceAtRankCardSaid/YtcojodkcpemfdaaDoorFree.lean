/-
  The alphabet of a dependence, and the alphabet of letters that are all independent: by contracts.
-/
import Derived.Test.YtcojodkcpemfdaaDoorIsAl
import Derived.Test.YtcojodkcpemfdaaDoorAlJoin
import Derived.Test.YtcojodkcpemfdaaDoorParts
import Derived.Deep.AppendLies
namespace Go.Proofs.YtcojodkcpemfdaaDoor
open Go.RowKit
set_option linter.unusedVariables false
set_option maxRecDepth 100000

theorem ownBlock_map {A : Option Addr} {n c q : Nat} (h : (Value.slice A n c).ownBlock = some q) : A.map (·.block) = some q := by
  cases A with
  | none => cases h
  | some a => simpa [Value.ownBlock] using h
theorem size1 (w : World) (o : Obj) : (w.alloc o).heap.size = w.heap.size + 1 := by simp
theorem AlPost.from_ {w w1 w' : World} {VL : Int} {VN : Nat} {VX : List Int} {C : Int} {e : Ending} (h : AlPost w1 VL VN VX C e w') (hb : Below w.heap.size w w1) : AlPost w VL VN VX C e w' := by
  obtain ⟨A, c, rfl, ho, hb2⟩ := h
  exact ⟨A, c, rfl, ho.mono hb.size, hb.trans (hb2.mono hb.size)⟩
/-- What a maker of an alphabet leaves. -/
def MakesAl (w : World) (L : Int) (n : Nat) (xs : List Int) (e : Ending) (w' : World) : Prop :=
  ∃ A c, e = .returned (.agg #[.int .i64 L, .slice A n c]) ∧ Own 2 w' w.heap.size A n c xs ∧ Below w.heap.size w w'
theorem alphabetOf_any (A : Option Addr) (n c : Nat) (xs : List Int) (w : World) (h : Rd w A n xs) (hn : n ≤ 1048576) :
    Calls Tryd.prog 185 #[.slice A n c] w (MakesAl w (n : Int) n xs) := by
  have HB := Lib.hid (below1 w (.cells #[.int .i64 0, .slice none 0 0] 29))
  have hh := h.below HB.out
  go_enter Tryd.func185, Tryd.ntmps185
  go_wp2_with fail
  refine (masksOf_any _ _ _ _ _ hh hn).mono ?_
  rintro e w1 ⟨A1, c1, rfl, ho, hb⟩
  have x1 := (box_new 29 w 0 none 0 0).next hb
  have y0 := x1.c0
  have y1 := x1.c1
  have f0 := x1.fr 0
  have f1 := x1.fr 1
  have hs := size1 w (.cells #[.int .i64 0, .slice none 0 0] 29)
  go_wp2
  refine ret_gen (fun W => Box 29 W w.heap.size (n : Int) A1 n c1 ∧ Own 2 W w.heap.size A1 n c1 xs ∧ Below w.heap.size w W) ⟨x1.set _ _ _ _, ?_, ?_⟩ ?_
  · have ho2 := ho.mono HB.out.size
    have hne : ∀ q, A1.map (·.block) = some q → q ≠ w.heap.size := fun q hq => by have := (ho.lt q hq).1; omega
    exact own_other (own_other ho2 _ _ _ hne) _ _ _ hne
  · exact ((HB.out.trans (hb.mono HB.out.size)).setCell (p := ⟨w.heap.size, 0, none⟩) (Nat.le_refl _) _).setCell (p := ⟨w.heap.size, 1, none⟩) (Nat.le_refl _) _
  · rintro W ⟨x, o, b⟩
    have e0 := x.c0
    have e1 := x.c1
    exact bodyPost_ret (v := .agg #[.int .i64 (n : Int), .slice A1 n c1]) (by simp [results, Tryd.results185, go_sem, e0, e1]) rfl ⟨_, _, rfl, o, b⟩
set_option maxHeartbeats 1600000 in
theorem free_any (n : Nat) (w : World) (hn : n ≤ 62) :
    Calls Tryd.prog 200 #[.int .i64 (n : Int)] w (MakesAl w (n : Int) n (ints (freeM n))) := by
  obtain ⟨i0, hi, hz0, hz1, hz2⟩ := info_parts info_int
  go_enter Tryd.func200, Tryd.ntmps200
  go_wp2_with fail
  have hsz1 := size1 w (.cells #[.int .i64 0, .slice none 0 0] 29)
  obtain ⟨wA, hwA⟩ : ∃ wA, wA = w.alloc (.cells #[.int .i64 0, .slice none 0 0] 29) := ⟨_, rfl⟩
  have HBA := Lib.hid (show Below w.heap.size w wA by rw [hwA]; exact below1 _ _)
  have xA : Box 29 wA w.heap.size 0 none 0 0 := by rw [hwA]; exact box_new _ _ _ _ _ _
  rw [← hwA] at hsz1 ⊢
  have hsz2 := size1 wA (.cells #[] 2)
  have oA : Own 2 (wA.alloc (.cells #[] 2)) wA.heap.size (some ⟨wA.heap.size, 0, none⟩) 0 0 [] := World.ownsRow_lit wA #[] 0 (Nat.le_refl _) (by unfold maxLen; omega) rfl
  rw [hsz1] at oA
  clear hwA
  go_loopw [4] (fun i wr => ∃ (k : Nat) (A1 : Option Addr) (c1 : Nat), k ≤ n ∧ i = .int .i64 k ∧ Box 29 wr (w.heap.size + 1 + 1) (n : Int) A1 k c1 ∧ Box 29 wr w.heap.size 0 none 0 0 ∧ Own 2 wr (w.heap.size + 1) A1 k c1 (ints (freeM k)) ∧ (∀ q, A1.map (·.block) = some q → q ≠ w.heap.size + 1 + 1) ∧ Below w.heap.size w wr) (fun i _ => n - (intOf i).toNat)
  case atStart =>
    refine ⟨0, some ⟨w.heap.size + 1, 0, none⟩, 0, Nat.zero_le _, rfl, ?_, ?_, World.ownsRow.alloc oA _, by intro q hq; cases hq; show ¬ w.heap.size + 1 = _; omega, ?_⟩
    · have h9 := box_new 29 (wA.alloc (.cells #[] 2)) (n : Int) (some ⟨w.heap.size + 1, 0, none⟩) 0 0
      rw [hsz2, hsz1] at h9; exact h9
    · exact xA.next (below2 _ _ _)
    · exact HBA.out.trans ((below2 wA _ _).mono (by omega))
  case round =>
    clear oA xA hsz1 hsz2
    obtain ⟨k, A1, c1, hk, rfl, x1, x0, ho, hne, hb⟩ := hrel
    have y1 := x1.c1
    by_cases hlt : k < n
    · have hk62 : k ≤ 62 := by omega
      have hml : k + 1 ≤ maxLen := by unfold maxLen; omega
      have hby2 : (k + 1) * 8 ≤ 140737488355328 := by omega
      have hlt1 := x1.lt
      have hdr : ∀ o, Below wr.heap.size wr ((wr.alloc o).drew) := fun o => (below1 wr o).drew
      have y1' := fun o => (x1.next (hdr o)).c1
      obtain ⟨P, hP⟩ : ∃ P : Nat, P = 2 ^ k := ⟨_, rfl⟩
      have hone : ∀ ww : World, Calls Tryd.prog 76 #[.int .i64 (k : Int)] ww fun e w' => e = .returned (.int .i64 (P : Int)) ∧ ww = w' := by rw [hP]; exact fun ww => one_any k hk62 ww
      have HNX : Hid (ints (freeM (k + 1)) = ints (freeM k ++ [P])) := Lib.hid (by rw [freeM_next, hP])
      clear hP
      go_wp2_with fail
      go_region_law (first | (refine step_append_lies _ (by rfl) _ _ _ (by rfl) (w.heap.size + 1) 2 i0 _ 1 8 Tryd.underlying22 hi hz0 hz1 hz2 rfl (by omega) (.slice A1 k c1) k ((ints (freeM k)).map (Value.int .i64)) (by rfl) ((World.ownsRow.alloc ho _).drew) ⟨wr.heap.size, 0, none⟩ 1 1 [.int .i64 (P : Int)] (by rfl) (by rfl) (World.news_of_block (cs := #[.int .i64 (P : Int)]) (t := 2) (fr := (0, 0)) (heap_alloc_new wr _)) (by simp [Value.oneCell']) (by omega) hml hby2 (by simp; omega) (wr.heap.size + 1) (by simp) ?_; intro g cap w2 hown hg hat hlt9; have x12 : Box 29 w2 (w.heap.size + 1 + 1) (n : Int) A1 k c1 := (x1.next (hdr _)).apart hg (fun e => hne _ (ownBlock_map e) rfl); have x02 : Box 29 w2 w.heap.size 0 none 0 0 := (x0.next (hdr _)).apart hg (fun e => by have := (ho.lt _ (ownBlock_map e)).1; omega); have z1 := x12.c1; have zf := x12.fr 1) | (go_simp; go_at_call 76; refine (hone _).mono ?_; rintro e w' ⟨rfl, rfl⟩))
      all_goals
        rw [ints_snoc_map, ← HNX.out] at hown
        have hb2 : Below w.heap.size w w2 := (hb.trans ((hdr _).mono hb.size)).grown hg (by have := hb.size; simp; omega) (fun q hq => by have h9 := (World.ownsRow.lt ho q hq).1; omega)
        have hgne : g ≠ w.heap.size + 1 + 1 := by
          rcases hat with h9 | h9
          · exact hne g (ownBlock_map h9)
          · omega
        have x13 := x12.set1 (some ⟨g, 0, none⟩) (k + 1) cap
        have x03 := x02.other (w.heap.size + 1 + 1) 1 (.slice (some ⟨g, 0, none⟩) (k + 1) cap) (by omega)
        have ho3 := own_other (show Own 2 w2 (w.heap.size + 1) (some ⟨g, 0, none⟩) (k + 1) cap (ints (freeM (k + 1))) from hown) (w.heap.size + 1 + 1) 1 (.slice (some ⟨g, 0, none⟩) (k + 1) cap) (by intro q hq; cases hq; exact hgne)
        have hb3 := hb2.setCell (p := ⟨w.heap.size + 1 + 1, 1, none⟩) (by show w.heap.size ≤ w.heap.size + 1 + 1; omega) (.slice (some ⟨g, 0, none⟩) (k + 1) cap)
        clear hg hat hlt9 z1 zf y1' hown
        go_wp2_with fail
        go_roundw
        case rel => exact ⟨k + 1, _, cap, by omega, by go_num, x13, x03, ho3, by intro q hq; cases hq; exact hgne, hb3⟩
        case measure => simp [intOf]; omega
    · obtain rfl : k = n := by omega
      have y0 := x1.c0
      have v0 := x0.c0
      have v1 := x0.c1
      have f0 := x0.fr 0
      have f1 := x0.fr 1
      go_wp2
      refine ret_gen (fun W => Box 29 W w.heap.size (k : Int) A1 k c1 ∧ Own 2 W w.heap.size A1 k c1 (ints (freeM k)) ∧ Below w.heap.size w W) ⟨x0.set _ _ _ _, ?_, ?_⟩ ?_
      · have hnn : ∀ q, A1.map (·.block) = some q → q ≠ w.heap.size := fun q hq => by have := (ho.lt q hq).1; omega
        exact own_other (own_other (ho.mono (by omega)) _ _ _ hnn) _ _ _ hnn
      · exact (hb.setCell (p := ⟨w.heap.size, 0, none⟩) (Nat.le_refl _) _).setCell (p := ⟨w.heap.size, 1, none⟩) (Nat.le_refl _) _
      · rintro W ⟨x, o, b⟩
        have e0 := x.c0
        have e1 := x.c1
        exact bodyPost_ret (v := .agg #[.int .i64 (k : Int), .slice A1 k c1]) (by simp [results, Tryd.results200, go_sem, e0, e1]) rfl ⟨_, _, rfl, o, b⟩
end Go.Proofs.YtcojodkcpemfdaaDoor
