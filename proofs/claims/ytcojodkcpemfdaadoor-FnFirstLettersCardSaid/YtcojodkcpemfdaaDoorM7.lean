/-
  The model's draws of alphabets that may be none, of words, of lists that may be none, and of both together, by contracts. The model's draws of words, and of lists that may be none, by contracts. The model's draws of lists that may be no words, and of an alphabet and a word, by contracts. What the laws are tried on: some alphabet and some word, by contracts.
-/
import Derived.Test.YtcojodkcpemfdaaDoorM6
import Derived.Test.YtcojodkcpemfdaaDoorM1
import Derived.Deep.RegionLaw
import Derived.Deep.RegionHeld3
import Derived.Deep.AppendLies
namespace Go.Proofs.YtcojodkcpemfdaaDoor
open Go Go.RowKit
set_option linter.unusedVariables false
set_option maxRecDepth 100000

theorem Sou.setAt {w : World} {B g n c : Nat} {A : Option Addr} {bs : List Int} (h : Sou w B g A n c bs) (b k : Nat) (v : Value) (hB : B ≤ b) (hne : b ≠ g) : Sou (w.setCell ⟨b, k, none⟩ v) B g A n c bs :=
  h.kept (grown_set (World.grownBy.refl _ (some b)) k v) (fun r hr => by injection hr with hr; subst hr; exact ⟨hB, hne⟩)
theorem map_snoc (us : List Int) (v : Int) : us.map (Value.int .i64) ++ [.int .i64 v] = (us ++ [v]).map (Value.int .i64) := by simp
theorem Wf.snoc {us : List Int} {v : Int} (h : Wf us) (h1 : -9223372036854775808 ≤ v) (h2 : v ≤ 9223372036854775807) : Wf (us ++ [v]) := by
  intro x hx
  rcases List.mem_append.1 hx with h9 | h9
  · exact h x h9
  · rw [List.mem_singleton.1 h9]; exact ⟨h1, h2⟩
theorem Wf.set {us : List Int} {v : Int} (h : Wf us) (k : Nat) (h1 : -9223372036854775808 ≤ v) (h2 : v ≤ 9223372036854775807) : Wf (us.set k v) := by
  intro x hx
  rcases List.mem_or_eq_of_mem_set hx with h9 | h9
  · exact h x h9
  · rw [h9]; exact ⟨h1, h2⟩
/-- Something that may be an alphabet has been drawn. -/
def SpPost (w : World) (B g : Nat) (A : Option Addr) (n c : Nat) (bs : List Int) (e : Ending) (w' : World) : Prop :=
  ∃ (L : Int) (N c1 : Nat) (A1 : Option Addr) (xs : List Int), Wf xs ∧ -9223372036854775808 ≤ L ∧ L ≤ 9223372036854775807 ∧ N ≤ 9 ∧ e = .returned (.agg #[.int .i64 L, .slice A1 N c1]) ∧ Own 2 w' w.heap.size A1 N c1 xs ∧ Sou w' B g A n c bs ∧ w.grownBy w' (some g)
theorem wf_bits {zs : List Nat} {N : Nat} (hN : N ≤ 8) (hz : ∀ i, zs.getD i 0 < 2 ^ N) : Wf (ints zs) := by
  intro x hx
  obtain ⟨y, hy, rfl⟩ := List.mem_map.1 hx
  obtain ⟨j, hj⟩ := List.mem_iff_getElem?.1 hy
  have h1 := hz j
  rw [List.getD_eq_getElem?_getD, hj] at h1
  have h2 : 2 ^ N ≤ 2 ^ 8 := Nat.pow_le_pow_right (by decide) hN
  have h3 : y < 2 ^ N := h1
  have h4 : (2 : Nat) ^ 8 = 256 := by decide
  constructor <;> show _ ≤ _ <;> omega
theorem pick3 {v a b d : Int} (h : v ∈ [a, b, d]) : v = a ∨ v = b ∨ v = d := by simpa using h
theorem pick4 {v a b d f : Int} (h : v ∈ [a, b, d, f]) : v = a ∨ v = b ∨ v = d ∨ v = f := by simpa using h
set_option maxHeartbeats 6400000 in
theorem spoil_any (B g : Nat) (A : Option Addr) (n c m : Nat) (bs : List Int) (w : World) (h : Sou w B g A n c bs) (hwf : WfB bs) (hn : n ≤ 4096) (h4 : 4 ≤ m) (h8 : m ≤ 8) :
    Calls Tryd.prog 164 #[.pointer (some ⟨g, 0, none⟩), .int .i64 (m : Int)] w (SpPost w B g A n c bs) := by
  have hgl := h.lt
  have HBg := Lib.hid h.1
  have HB1 := Lib.hid (below1 w (.cells #[.int .i64 0, .slice none 0 0] 29))
  have x4 := box_new 29 w 0 none 0 0
  have h1 := h.below HB1.out
  have hs1 := size1 w (.cells #[.int .i64 0, .slice none 0 0] 29)
  obtain ⟨w1, hw1⟩ : ∃ w1, w1 = w.alloc (.cells #[.int .i64 0, .slice none 0 0] 29) := ⟨_, rfl⟩
  have HW1 := Lib.hid hw1
  rw [← hw1] at h1 x4 hs1
  have HB1' : Hid (Below w.heap.size w w1) := Lib.hid (by rw [hw1]; exact HB1.out)
  have HD := Lib.hid (draw_any B g A n c m bs w1 h1 hwf hn h4 h8)
  have HPK : Hid (∀ (ww : World) (C : Option Addr) (k d : Nat) (xs : List Int), Sou ww B g A n c bs → Rd ww C k xs → 1 ≤ k → k ≤ 1000 → (∀ q, C.map (·.block) = some q → q ≠ g) → Calls Tryd.prog 179 #[.pointer (some ⟨g, 0, none⟩), .slice C k d] ww fun e w' => ∃ v : Int, v ∈ xs ∧ e = .returned (.int .i64 v) ∧ Sou w' B g A n c bs ∧ ww.grownBy w' (some g)) := Lib.hid (fun ww C k d xs a1 a2 a3 a4 a5 => pick_any B g A n c bs C k d xs ww a1 hwf hn a2 a3 a4 a5)
  have HNX : Hid (∀ (ww : World) (k : Nat), Sou ww B g A n c bs → 1 ≤ k → k ≤ 1000 → Calls Tryd.prog 106 #[.pointer (some ⟨g, 0, none⟩), .int .i64 (k : Int)] ww fun e w' => ∃ r : Nat, r < k ∧ e = .returned (.int .i64 (r : Int)) ∧ Sou w' B g A n c bs ∧ ww.grownBy w' (some g)) := Lib.hid (fun ww k a1 a2 a3 => l01Next_any B g A n c k bs ww a1 hwf hn a2 (by omega))
  clear hw1 HB1 h1
  go_enter Tryd.func164, Tryd.ntmps164
  go_wp2_with fail
  rw [← HW1.out]
  refine HD.out.mono ?_
  rintro e w2 ⟨N, c1, A1, zs, hN, hz, rfl, o2, s2, g2⟩
  have sz2 := g2.size
  have hlt2 := o2.lt
  have HB3 := Lib.hid (below1 w2 (.cells #[.int .i64 (N : Int), .slice A1 N c1] 29))
  have hs3 := size1 w2 (.cells #[.int .i64 (N : Int), .slice A1 N c1] 29)
  have x43 := (x4.apart g2 (fun e => by injection e with e; omega)).next HB3.out
  have x53 := box_new 29 w2 (N : Int) A1 N c1
  have o3 := o2.below HB3.out
  have s3 := s2.below HB3.out
  have G3 : Hid (w.grownBy (w2.alloc (.cells #[.int .i64 (N : Int), .slice A1 N c1] 29)) (some g)) := Lib.hid (gr_below (gr_trans (gr_of HB1'.out) g2) HB3.out)
  have HWF := Lib.hid (wf_bits hN hz)
  have hln : zs.length = N := by have := o2.len; rw [ints_len] at this; exact this
  obtain ⟨xs, hxs⟩ : ∃ xs, xs = ints zs := ⟨_, rfl⟩
  have hxl : xs.length = N := by rw [hxs, ints_len]; exact hln
  rw [← hxs] at o3 HWF
  obtain ⟨w3, hw3⟩ : ∃ w3, w3 = w2.alloc (.cells #[.int .i64 (N : Int), .slice A1 N c1] 29) := ⟨_, rfl⟩
  have HW3 := Lib.hid hw3
  rw [← hw3] at x43 x53 o3 s3 G3 hs3
  have hA1 : ∀ q, A1.map (·.block) = some q → w.heap.size + 1 ≤ q ∧ q < w2.heap.size := fun q hq => by have := hlt2 q hq; omega
  have HC := Lib.hid (HNX.out w3 14 s3 (by omega) (by omega))
  have HXS := Lib.hid hxs
  have HZ := Lib.hid hz
  clear o2 s2 g2 x4 hz hxs hln hlt2 HB3 hw3 HD HB1'
  go_wp2_with fail
  rw [← HW3.out]
  refine HC.out.mono ?_
  rintro e w4 ⟨r, hr, rfl, s4, g4⟩
  have sz4 := g4.size
  have x44 := x43.apart g4 (fun e => by injection e with e; omega)
  have x54 := x53.apart g4 (fun e => by injection e with e; omega)
  have o4 := o3.apart g4 (fun q hq e => by injection e with e; have := (hA1 q hq).1; omega)
  have G4 : Hid (w.grownBy w4 (some g)) := Lib.hid (gr_trans G3.out g4)
  clear x43 x53 o3 s3 G3 g4 HC HW3 HW1
  by_cases hr0 : 0 < r
  · have hr1 : ((r : Int) > 0) := by omega
    have v0 := x54.c0
    have v1 := x54.c1
    have u0 := x44.c0
    have u1 := x44.c1
    have f0 := x44.fr 0
    have f1 := x44.fr 1
    go_wp2_with fail
    refine ret_gen (fun W => Box 29 W w.heap.size (N : Int) A1 N c1 ∧ Own 2 W w.heap.size A1 N c1 xs ∧ Sou W B g A n c bs ∧ w.grownBy W (some g)) ⟨x44.set _ _ _ _, ?_, ?_, ?_⟩ ?_
    · have hnn : ∀ q, (A1 : Option Addr).map (·.block) = some q → q ≠ w.heap.size := fun q hq => by have := (hA1 q hq).1; omega
      exact own_other (own_other (o4.mono (by omega)) _ _ _ hnn) _ _ _ hnn
    · exact (s4.setAt _ 0 _ (by have := HBg.out; omega) (by omega)).setAt _ 1 _ (by have := HBg.out; omega) (by omega)
    · exact gr_set (gr_set G4.out (Nat.le_refl _) _) (Nat.le_refl _) _
    · rintro W ⟨x, o, s, gg⟩
      have e0 := x.c0
      have e1 := x.c1
      exact bodyPost_ret (v := .agg #[.int .i64 (N : Int), .slice A1 N c1]) (by simp [results, Tryd.results164, go_sem, e0, e1]) rfl ⟨_, _, _, _, _, HWF.out, by omega, by omega, by omega, rfl, o, s, gg⟩
  have hr1 : r = 0 := by omega
  subst hr1
  have HC := Lib.hid (HNX.out w4 4 s4 (by omega) (by omega))
  go_wp2_with fail
  refine HC.out.mono ?_
  rintro e w5 ⟨k, hk, rfl, s5, g5⟩
  have sz5 := g5.size
  have x45 := x44.apart g5 (fun e => by injection e with e; omega)
  have x55 := x54.apart g5 (fun e => by injection e with e; omega)
  have o5 := o4.apart g5 (fun q hq e => by injection e with e; have := (hA1 q hq).1; omega)
  have G5 : Hid (w.grownBy w5 (some g)) := Lib.hid (gr_trans G4.out g5)
  clear x44 x54 o4 s4 G4 g5 HC hr hr0
  by_cases hk0 : k = 0
  · subst hk0
    have hw1 : IntKind.i64.wrap ((N : Int) + 1) = (N : Int) + 1 := IntWalk.i64_in _ (by omega)
    have HL := Lib.hid (below1 w5 (.cells #[.int .i64 (-1), .int .i64 9, .int .i64 ((N : Int) + 1)] 2))
    have hsl := size1 w5 (.cells #[.int .i64 (-1), .int .i64 9, .int .i64 ((N : Int) + 1)] 2)
    have c0 := x55.c0
    have LR : Rd (w5.alloc (.cells #[.int .i64 (-1), .int .i64 9, .int .i64 ((N : Int) + 1)] 2)) (some ⟨w5.heap.size, 0, none⟩) 3 [-1, 9, (N : Int) + 1] := Own.rd (show Own 2 (w5.alloc (.cells #[.int .i64 (-1), .int .i64 9, .int .i64 ((N : Int) + 1)] 2)) w5.heap.size (some ⟨w5.heap.size, 0, none⟩) 3 3 [-1, 9, (N : Int) + 1] from World.ownsRow_lit w5 _ 3 (Nat.le_refl _) (by unfold maxLen; omega) rfl)
    have HP := Lib.hid (HPK.out _ _ 3 3 _ (s5.below HL.out) LR (by omega) (by omega) (fun q hq => by cases hq; show w5.heap.size ≠ g; omega))
    clear hw1
    go_wp2_with fail
    refine HP.out.mono ?_
    rintro e w6 ⟨v, hv, rfl, s6, g6⟩
    have sz6 := g6.size
    have x46 := (x45.next HL.out).apart g6 (fun e => by injection e with e; omega)
    have x56 := (x55.next HL.out).apart g6 (fun e => by injection e with e; omega)
    have o6 := (o5.below HL.out).apart g6 (fun q hq e => by injection e with e; have := (hA1 q hq).1; omega)
    have G6 : Hid (w.grownBy w6 (some g)) := Lib.hid (gr_trans (gr_below G5.out HL.out) g6)
    have hvb : -9223372036854775808 ≤ v ∧ v ≤ 9223372036854775807 := by rcases pick3 hv with h9 | h9 | h9 <;> subst h9 <;> omega
    have x57 := x56.set0 v
    have x47 := x46.other w2.heap.size 0 (.int .i64 v) (by omega)
    have o7 := own_other o6 w2.heap.size 0 (.int .i64 v) (fun q hq => by have := (hA1 q hq).2; omega)
    have s7 := s6.setAt w2.heap.size 0 (.int .i64 v) (by have := HBg.out; omega) (by omega)
    have G7 : Hid (w.grownBy (w6.setCell ⟨w2.heap.size, 0, none⟩ (.int .i64 v)) (some g)) := Lib.hid (gr_set G6.out (by omega) _)
    have fr5 := x56.fr 0
    have pre0 := x56.c0
    clear x45 x55 o5 s5 G5 g6 HP LR HL c0 hv x46 x56 o6 s6 G6
    have v0 := x57.c0
    have v1 := x57.c1
    have u0 := x47.c0
    have u1 := x47.c1
    have f0 := x47.fr 0
    have f1 := x47.fr 1
    go_wp2_with fail
    refine ret_gen (fun W => Box 29 W w.heap.size v A1 N c1 ∧ Own 2 W w.heap.size A1 N c1 xs ∧ Sou W B g A n c bs ∧ w.grownBy W (some g)) ⟨x47.set _ _ _ _, ?_, ?_, ?_⟩ ?_
    · have hnn : ∀ q, (A1 : Option Addr).map (·.block) = some q → q ≠ w.heap.size := fun q hq => by have := (hA1 q hq).1; omega
      exact own_other (own_other (o7.mono (by omega)) _ _ _ hnn) _ _ _ hnn
    · exact (s7.setAt _ 0 _ (by have := HBg.out; omega) (by omega)).setAt _ 1 _ (by have := HBg.out; omega) (by omega)
    · exact gr_set (gr_set G7.out (Nat.le_refl _) _) (Nat.le_refl _) _
    · rintro W ⟨x, o, s, gg⟩
      have e0 := x.c0
      have e1 := x.c1
      exact bodyPost_ret (v := .agg #[.int .i64 v, .slice A1 N c1]) (by simp [results, Tryd.results164, go_sem, e0, e1]) rfl ⟨_, _, _, _, _, HWF.out, hvb.1, hvb.2, by omega, rfl, o, s, gg⟩
  have hk1 : ((k : Int) == 0) = false := by simp; omega
  by_cases hk2 : k = 1
  · subst hk2
    obtain ⟨i0, hi, hz0, hz1, hz2⟩ := info_parts info_int
    have HL : ∀ o, Below w5.heap.size w5 ((w5.alloc o).drew) := fun o => (below1 w5 o).drew
    have c1' := fun o => (x55.next (HL o)).c1
    have c1'' := x55.c1
    have hml : N + 1 ≤ maxLen := by unfold maxLen; omega
    have hby2 : (N + 1) * 8 ≤ 140737488355328 := by omega
    have LR : Rd ((w5.alloc (.cells #[.int .i64 0, .int .i64 1, .int .i64 255] 2)).drew) (some ⟨w5.heap.size, 0, none⟩) 3 [0, 1, 255] := Own.rd (show Own 2 ((w5.alloc (.cells #[.int .i64 0, .int .i64 1, .int .i64 255] 2)).drew) w5.heap.size (some ⟨w5.heap.size, 0, none⟩) 3 3 [0, 1, 255] from World.ownsRow.drew (World.ownsRow_lit w5 _ 3 (Nat.le_refl _) (by unfold maxLen; omega) rfl))
    have hsl := size1 w5 (.cells #[.int .i64 0, .int .i64 1, .int .i64 255] 2)
    have HP := Lib.hid (HPK.out _ _ 3 3 _ (s5.below (HL _)) LR (by omega) (by omega) (fun q hq => by cases hq; show w5.heap.size ≠ g; omega))
    have hsl2 : ((w5.alloc (.cells #[.int .i64 0, .int .i64 1, .int .i64 255] 2)).drew).heap.size = w5.heap.size + 1 := hsl
    clear LR
    go_wp2_with fail
    go_region_law (first
      | (refine step_append_lies _ (by rfl) _ _ _ (by rfl) w1.heap.size 2 i0 _ 1 8 Tryd.underlying22 hi hz0 hz1 hz2 rfl (by omega) (.slice A1 N c1) N (xs.map (Value.int .i64)) (by rfl) oA ⟨w6.heap.size, 0, none⟩ 1 1 [.int .i64 v] (by rfl) (by rfl) (World.news_of_block (cs := #[.int .i64 v]) (t := 2) (fr := (0, 0)) (heap_alloc_new w6 _)) (by simp [Value.oneCell']) (by omega) hml hby2 (by simp; omega) (w6.heap.size + 1) (by simp) ?_; intro gq cap w7 hown hg hat hlt9; have x57 := x5A.apart hg (fun e => by have := (hA1 _ (ownBlock_map e)).2; omega); have z1 := x57.c1; have zf := x57.fr 1)
      | (go_simp; go_at_call 179; refine (HP.out).mono ?_; rintro e w6 ⟨v, hv, rfl, s6, g6⟩; have sz6 := g6.size; have x46 := (x45.next (HL _)).apart g6 (fun e => by injection e with e; omega); have x56 := (x55.next (HL _)).apart g6 (fun e => by injection e with e; omega); have o6 := (o5.below (HL _)).apart g6 (fun q hq e => by injection e with e; have := (hA1 q hq).1; omega); have x5A := x56.next (below1 w6 (.cells #[.int .i64 v] 2)); have x4A := x46.next (below1 w6 (.cells #[.int .i64 v] 2)); have oA := o6.below (below1 w6 (.cells #[.int .i64 v] 2)); have sA := s6.below (below1 w6 (.cells #[.int .i64 v] 2)); have y6 := x56.c1; have yA := x5A.c1))
    all_goals
      rw [map_snoc] at hown
      have szA := size1 w6 (.cells #[.int .i64 v] 2)
      have szg := hg.size
      have hblk : ∀ q, (Value.slice A1 N c1).ownBlock = some q → w.heap.size + 1 ≤ q ∧ q < w2.heap.size := fun q hq => hA1 q (ownBlock_map hq)
      have x47 := x4A.apart hg (fun e => by have := (hblk _ e).1; omega)
      have s7' := sA.kept hg (fun q hq => ⟨by have := (hblk q hq).1; have := HBg.out; omega, by have := (hblk q hq).1; omega⟩)
      have G7' : Hid (w.grownBy w7 (some g)) := Lib.hid (gr_row (gr_below (gr_trans (gr_below G5.out (HL _)) g6) (below1 w6 (.cells #[.int .i64 v] 2))) hg (fun q hq => by have := (hblk q hq).1; omega))
      have hgq : gq ≠ w2.heap.size ∧ w.heap.size + 1 ≤ gq ∧ gq ≠ w.heap.size := by
        rcases hat with h9 | h9
        · have := hblk gq h9; omega
        · omega
      have hvb : -9223372036854775808 ≤ v ∧ v ≤ 9223372036854775807 := by rcases pick3 hv with h9 | h9 | h9 <;> subst h9 <;> omega
      have ho7 : Own 2 w7 w1.heap.size (some ⟨gq, 0, none⟩) (N + 1) cap (xs ++ [v]) := hown
      have x58 := x57.set1 (some ⟨gq, 0, none⟩) (N + 1) cap
      have x48 := x47.other w2.heap.size 1 (.slice (some ⟨gq, 0, none⟩) (N + 1) cap) (by omega)
      have o8 := own_other ho7 w2.heap.size 1 (.slice (some ⟨gq, 0, none⟩) (N + 1) cap) (fun q hq => by cases hq; exact hgq.1)
      have s8 := s7'.setAt w2.heap.size 1 (.slice (some ⟨gq, 0, none⟩) (N + 1) cap) (by have := HBg.out; omega) (by omega)
      have G8 : Hid (w.grownBy (w7.setCell ⟨w2.heap.size, 1, none⟩ (.slice (some ⟨gq, 0, none⟩) (N + 1) cap)) (some g)) := Lib.hid (gr_set G7'.out (by omega) _)
      have HWF2 := Lib.hid (HWF.out.snoc hvb.1 hvb.2)
      clear hat hlt9 hown ho7 x57 x47 s7' G7' hg hv c1' c1''
      have v0 := x58.c0
      have v1 := x58.c1
      have u0 := x48.c0
      have u1 := x48.c1
      have f0 := x48.fr 0
      have f1 := x48.fr 1
      go_wp2_with fail
      refine ret_gen (fun W => Box 29 W w.heap.size (N : Int) (some ⟨gq, 0, none⟩) (N + 1) cap ∧ Own 2 W w.heap.size (some ⟨gq, 0, none⟩) (N + 1) cap (xs ++ [v]) ∧ Sou W B g A n c bs ∧ w.grownBy W (some g)) ⟨x48.set _ _ _ _, ?_, ?_, ?_⟩ ?_
      · have hnn : ∀ q, ((some ⟨gq, 0, none⟩) : Option Addr).map (·.block) = some q → q ≠ w.heap.size := fun q hq => by cases hq; exact hgq.2.2
        exact own_other (own_other (o8.mono (by omega)) _ _ _ hnn) _ _ _ hnn
      · exact (s8.setAt _ 0 _ (by have := HBg.out; omega) (by omega)).setAt _ 1 _ (by have := HBg.out; omega) (by omega)
      · exact gr_set (gr_set G8.out (Nat.le_refl _) _) (Nat.le_refl _) _
      · rintro W ⟨x, o, s, gg⟩
        have e0 := x.c0
        have e1 := x.c1
        exact bodyPost_ret (v := .agg #[.int .i64 (N : Int), .slice (some ⟨gq, 0, none⟩) (N + 1) cap]) (by simp [results, Tryd.results164, go_sem, e0, e1]) rfl ⟨_, _, _, _, _, HWF2.out, by omega, by omega, by omega, rfl, o, s, gg⟩
  have hk3 : ((k : Int) == 1) = false := by simp; omega
  by_cases hN0 : N = 0
  · subst hN0
    have c0 := x55.c0
    have v1 := x55.c1
    have u0 := x45.c0
    have u1 := x45.c1
    have f0 := x45.fr 0
    have f1 := x45.fr 1
    go_wp2_with fail
    refine ret_gen (fun W => Box 29 W w.heap.size 0 A1 0 c1 ∧ Own 2 W w.heap.size A1 0 c1 xs ∧ Sou W B g A n c bs ∧ w.grownBy W (some g)) ⟨x45.set _ _ _ _, ?_, ?_, ?_⟩ ?_
    · have hnn : ∀ q, (A1 : Option Addr).map (·.block) = some q → q ≠ w.heap.size := fun q hq => by have := (hA1 q hq).1; omega
      exact own_other (own_other (o5.mono (by omega)) _ _ _ hnn) _ _ _ hnn
    · exact (s5.setAt _ 0 _ (by have := HBg.out; omega) (by omega)).setAt _ 1 _ (by have := HBg.out; omega) (by omega)
    · exact gr_set (gr_set G5.out (Nat.le_refl _) _) (Nat.le_refl _) _
    · rintro W ⟨x, o, s, gg⟩
      have e0 := x.c0
      have e1 := x.c1
      exact bodyPost_ret (v := .agg #[.int .i64 0, .slice A1 0 c1]) (by simp [results, Tryd.results164, go_sem, e0, e1]) rfl ⟨_, _, _, _, _, HWF.out, by omega, by omega, by omega, rfl, o, s, gg⟩
  have hN1 : ((N : Int) > 0) := by omega
  have HC := Lib.hid (HNX.out w5 N s5 (by omega) (by omega))
  have c0 := x55.c0
  go_wp2_with fail
  refine HC.out.mono ?_
  rintro e w6 ⟨a, ha, rfl, s6, g6⟩
  have sz6 := g6.size
  have x46 := x45.apart g6 (fun e => by injection e with e; omega)
  have x56 := x55.apart g6 (fun e => by injection e with e; omega)
  have o6 := o5.apart g6 (fun q hq e => by injection e with e; have := (hA1 q hq).1; omega)
  have G6 : Hid (w.grownBy w6 (some g)) := Lib.hid (gr_trans G5.out g6)
  clear x45 x55 o5 s5 G5 g6 HC c0
  obtain ⟨gA, rfl, hgB, hglt⟩ := o6.form (by omega)
  have hgA := hA1 gA rfl
  obtain ⟨X, hX⟩ : ∃ X, X = zs.getD a 0 := ⟨_, rfl⟩
  have hX8 : X < 256 := by
    have h9 := HZ.out a
    have h8' : 2 ^ N ≤ 2 ^ 8 := Nat.pow_le_pow_right (by decide) (by omega)
    have h7 : (2 : Nat) ^ 8 = 256 := by decide
    omega
  have hxa : xs[a]? = some (X : Int) := by
    have h9 := HXS.out
    rw [h9, hX]
    refine ints_getD zs a ?_
    rw [h9, ints_len] at hxl; omega
  have ha62 : a ≤ 62 := by omega
  have hN62 : N ≤ 62 := by omega
  obtain ⟨PA, hPA⟩ : ∃ PA, PA = 2 ^ a := ⟨_, rfl⟩
  obtain ⟨PN, hPN⟩ : ∃ PN, PN = 2 ^ N := ⟨_, rfl⟩
  have hP8 : (2 : Nat) ^ 8 = 256 := by decide
  have hPA8 : PA ≤ 256 := by rw [hPA]; have : 2 ^ a ≤ 2 ^ 8 := Nat.pow_le_pow_right (by decide) (by omega); omega
  have hPN8 : PN ≤ 256 := by rw [hPN]; have : 2 ^ N ≤ 2 ^ 8 := Nat.pow_le_pow_right (by decide) (by omega); omega
  have hPN1 : 1 ≤ PN := by rw [hPN]; exact Nat.one_le_two_pow
  have HOA : Hid (∀ ww : World, Calls Tryd.prog 76 #[.int .i64 (a : Int)] ww fun e w' => e = .returned (.int .i64 (PA : Int)) ∧ ww = w') := Lib.hid (by rw [hPA]; exact fun ww => one_any a ha62 ww)
  have HON : Hid (∀ ww : World, Calls Tryd.prog 76 #[.int .i64 (N : Int)] ww fun e w' => e = .returned (.int .i64 (PN : Int)) ∧ ww = w') := Lib.hid (by rw [hPN]; exact fun ww => one_any N hN62 ww)
  have hor1 := or63 X PN (by omega) (by omega)
  have hlor : X ||| PN < 9223372036854775808 := by
    have : X ||| PN < 2 ^ 9 := Nat.or_lt_two_pow (by omega) (by omega)
    have h9 : (2 : Nat) ^ 9 = 512 := by decide
    omega
  obtain ⟨Y2, hY2⟩ : ∃ Y, Y = X ||| PN := ⟨_, rfl⟩
  rw [← hY2] at hor1 hlor
  obtain ⟨Y1, hY1⟩ : ∃ Y : Int, Y = (X : Int) - (PA : Int) := ⟨_, rfl⟩
  have hY1b : -300 ≤ Y1 ∧ Y1 ≤ 300 := by omega
  have hw1 : IntKind.i64.wrap ((X : Int) - (PA : Int)) = Y1 := by rw [hY1]; exact IntWalk.i64_in _ (by omega)
  have dB := below_drew w6
  have sD := s6.below dB
  have x4D := x46.next dB
  have x5D := x56.next dB
  have oD := o6.below dB
  have d0 := x5D.c0
  have d1 := x5D.c1
  have d2 := oD.cell hxa
  have GD : Hid (w.grownBy w6.drew (some g)) := Lib.hid (gr_below G6.out dB)
  have szD : w6.drew.heap.size = w6.heap.size := rfl
  have HNP := Lib.hid (HNX.out w6.drew PN sD hPN1 (by omega))
  clear hX hPA hPN hY1 hY2 hP8 x46 x56 o6 s6 G6 dB
  go_wp2_with fail
  refine wp_region_Z 29 (fun ww => ww.cell? ⟨w2.heap.size, 0, none⟩ = some (.int .i64 (N : Int)) ∧ ww.cell? ⟨w2.heap.size, 1, none⟩ = some (.slice (some ⟨gA, 0, none⟩) N c1) ∧ ww.cell? ⟨gA, a, none⟩ = some (.int .i64 (X : Int))) (by kernel_rfl) ?_
  refine anyZ_take [] (k := 0) (o := ⟨some 23, _, _, _, _, _⟩) (v := ?_) rfl (by kernel_rfl) (by kernel_rfl) (by kernel_rfl) (by kernel_rfl) (by kernel_rfl) (fun _ _ _ h => h) (Or.inl ⟨by kernel_rfl, ?_⟩) ⟨d0, d1, d2⟩ ?_
  rotate_left
  · (intro w9 hS9; (try dsimp only at hS9); go_simp; try with_reducible rfl)
  simp only [Act.put, List.setIfInBounds_toArray, List.set_cons_zero, List.set_cons_succ]
  refine anyZ_take [] (k := 1) (o := ⟨some 24, _, _, _, _, _⟩) (v := ?_) rfl (by kernel_rfl) (by kernel_rfl) (by kernel_rfl) (by kernel_rfl) (by kernel_rfl) (fun _ _ _ h => h) (Or.inl ⟨by kernel_rfl, ?_⟩) ⟨d0, d1, d2⟩ ?_
  rotate_left
  · (intro w9 hS9; (try dsimp only at hS9); go_simp; try with_reducible rfl)
  simp only [Act.put, List.setIfInBounds_toArray, List.set_cons_zero, List.set_cons_succ]
  refine anyZ_take [] (k := 2) (o := ⟨some 25, _, _, _, _, _⟩) (v := ?_) rfl (by kernel_rfl) (by kernel_rfl) (by kernel_rfl) (by kernel_rfl) (by kernel_rfl) (fun _ _ _ h => h) (Or.inl ⟨by kernel_rfl, ?_⟩) ⟨d0, d1, d2⟩ ?_
  rotate_left
  · (intro w9 hS9; (try dsimp only at hS9); go_simp; try with_reducible rfl)
  simp only [Act.put, List.setIfInBounds_toArray, List.set_cons_zero, List.set_cons_succ]
  refine anyZ_take [] (k := 3) (o := ⟨some 26, _, _, _, _, _⟩) (v := ?_) rfl (by kernel_rfl) (by kernel_rfl) (by kernel_rfl) (by kernel_rfl) (by kernel_rfl) (fun _ _ _ h => h) (Or.inl ⟨by kernel_rfl, ?_⟩) ⟨d0, d1, d2⟩ ?_
  rotate_left
  · (intro w9 hS9; (try dsimp only at hS9); go_simp; try with_reducible rfl)
  simp only [Act.put, List.setIfInBounds_toArray, List.set_cons_zero, List.set_cons_succ]
  refine anyZ_take [] (k := 4) (o := ⟨some 27, _, _, _, _, _⟩) (v := ?_) rfl (by kernel_rfl) (by kernel_rfl) (by kernel_rfl) (by kernel_rfl) (by kernel_rfl) (fun _ _ _ h => h) (Or.inl ⟨by kernel_rfl, ?_⟩) ⟨d0, d1, d2⟩ ?_
  rotate_left
  · (intro w9 hS9; (try dsimp only at hS9); go_simp; try with_reducible rfl)
  simp only [Act.put, List.setIfInBounds_toArray, List.set_cons_zero, List.set_cons_succ]
  refine anyZ_take [] (k := 5) (o := ⟨some 28, _, _, _, _, _⟩) (v := ?_) rfl (by kernel_rfl) (by kernel_rfl) (by kernel_rfl) (by kernel_rfl) (by kernel_rfl) (fun _ _ _ h => h) (Or.inl ⟨by kernel_rfl, ?_⟩) ⟨d0, d1, d2⟩ ?_
  rotate_left
  · (intro w9 hS9; (try dsimp only at hS9); go_simp; try with_reducible rfl)
  simp only [Act.put, List.setIfInBounds_toArray, List.set_cons_zero, List.set_cons_succ]
  refine anyZ_take [] (k := 6) (o := ⟨some 29, _, _, _, _, _⟩) (v := ?_) rfl (by kernel_rfl) (by kernel_rfl) (by kernel_rfl) (by kernel_rfl) (by kernel_rfl) (fun _ _ _ h => h) (Or.inl ⟨by kernel_rfl, ?_⟩) ⟨d0, d1, d2⟩ ?_
  rotate_left
  · (intro w9 hS9; (try dsimp only at hS9); go_simp; try with_reducible rfl)
  simp only [Act.put, List.setIfInBounds_toArray, List.set_cons_zero, List.set_cons_succ]
  refine anyZ_take [] (k := 7) (o := ⟨some 30, _, _, _, _, _⟩) (v := ?_) rfl (by kernel_rfl) (by kernel_rfl) (by kernel_rfl) (by kernel_rfl) (by kernel_rfl) (fun _ _ _ h => h) (Or.inl ⟨by kernel_rfl, ?_⟩) ⟨d0, d1, d2⟩ ?_
  rotate_left
  · (intro w9 hS9; (try dsimp only at hS9); go_simp; try with_reducible rfl)
  simp only [Act.put, List.setIfInBounds_toArray, List.set_cons_zero, List.set_cons_succ]
  refine anyZ_take [] (k := 8) (o := ⟨some 31, _, _, _, _, _⟩) (v := ?_) rfl (by kernel_rfl) (by kernel_rfl) (by kernel_rfl) (by kernel_rfl) (by kernel_rfl) (fun _ _ _ h => h) (Or.inl ⟨by kernel_rfl, ?_⟩) ⟨d0, d1, d2⟩ ?_
  rotate_left
  · (intro w9 hS9; (try dsimp only at hS9); go_simp; try with_reducible rfl)
  simp only [Act.put, List.setIfInBounds_toArray, List.set_cons_zero, List.set_cons_succ]
  refine anyZ_take [] (k := 9) (o := ⟨some 32, _, _, _, _, _⟩) (v := ?_) rfl (by kernel_rfl) (by kernel_rfl) (by kernel_rfl) (by kernel_rfl) (by kernel_rfl) (fun _ _ _ h => h) (Or.inl ⟨by kernel_rfl, ?_⟩) ⟨d0, d1, d2⟩ ?_
  rotate_left
  · (intro w9 hS9; (try dsimp only at hS9); go_simp; try with_reducible rfl)
  simp only [Act.put, List.setIfInBounds_toArray, List.set_cons_zero, List.set_cons_succ]
  refine anyZ_take [] (k := 12) (o := ⟨some 35, _, _, _, _, _⟩) (v := ?_) rfl (by kernel_rfl) (by kernel_rfl) (by kernel_rfl) (by kernel_rfl) (by kernel_rfl) (fun _ _ _ h => h) (Or.inl ⟨by kernel_rfl, ?_⟩) ⟨d0, d1, d2⟩ ?_
  rotate_left
  · (intro w9 hS9; (try dsimp only at hS9); go_simp; try with_reducible rfl)
  simp only [Act.put, List.setIfInBounds_toArray, List.set_cons_zero, List.set_cons_succ]
  refine anyZ_take [] (k := 13) (o := ⟨some 36, _, _, _, _, _⟩) (v := ?_) rfl (by kernel_rfl) (by kernel_rfl) (by kernel_rfl) (by kernel_rfl) (by kernel_rfl) (fun _ _ _ h => h) (Or.inl ⟨by kernel_rfl, ?_⟩) ⟨d0, d1, d2⟩ ?_
  rotate_left
  · (intro w9 hS9; (try dsimp only at hS9); go_simp; try with_reducible rfl)
  simp only [Act.put, List.setIfInBounds_toArray, List.set_cons_zero, List.set_cons_succ]
  refine anyZ_take [] (k := 14) (o := ⟨some 37, _, _, _, _, _⟩) (v := ?_) rfl (by kernel_rfl) (by kernel_rfl) (by kernel_rfl) (by kernel_rfl) (by kernel_rfl) (fun _ _ _ h => h) (Or.inl ⟨by kernel_rfl, ?_⟩) ⟨d0, d1, d2⟩ ?_
  rotate_left
  · (intro w9 hS9; (try dsimp only at hS9); go_simp; try with_reducible rfl)
  simp only [Act.put, List.setIfInBounds_toArray, List.set_cons_zero, List.set_cons_succ]
  refine anyZ_take [] (k := 15) (o := ⟨some 38, _, _, _, _, _⟩) (v := ?_) rfl (by kernel_rfl) (by kernel_rfl) (by kernel_rfl) (by kernel_rfl) (by kernel_rfl) (fun _ _ _ h => h) (Or.inl ⟨by kernel_rfl, ?_⟩) ⟨d0, d1, d2⟩ ?_
  rotate_left
  · (intro w9 hS9; (try dsimp only at hS9); go_simp; try with_reducible rfl)
  simp only [Act.put, List.setIfInBounds_toArray, List.set_cons_zero, List.set_cons_succ]
  refine anyZ_take [] (k := 16) (o := ⟨some 39, _, _, _, _, _⟩) (v := ?_) rfl (by kernel_rfl) (by kernel_rfl) (by kernel_rfl) (by kernel_rfl) (by kernel_rfl) (fun _ _ _ h => h) (Or.inl ⟨by kernel_rfl, ?_⟩) ⟨d0, d1, d2⟩ ?_
  rotate_left
  · (intro w9 hS9; (try dsimp only at hS9); go_simp; try with_reducible rfl)
  simp only [Act.put, List.setIfInBounds_toArray, List.set_cons_zero, List.set_cons_succ]
  refine anyZ_take [] (k := 17) (o := ⟨some 40, _, _, _, _, _⟩) (v := ?_) rfl (by kernel_rfl) (by kernel_rfl) (by kernel_rfl) (by kernel_rfl) (by kernel_rfl) (fun _ _ _ h => h) (Or.inl ⟨by kernel_rfl, ?_⟩) ⟨d0, d1, d2⟩ ?_
  rotate_left
  · (intro w9 hS9; (try dsimp only at hS9); go_simp; try with_reducible rfl)
  simp only [Act.put, List.setIfInBounds_toArray, List.set_cons_zero, List.set_cons_succ]
  refine anyZ_take [] (k := 18) (o := ⟨some 41, _, _, _, _, _⟩) (v := ?_) rfl (by kernel_rfl) (by kernel_rfl) (by kernel_rfl) (by kernel_rfl) (by kernel_rfl) (fun _ _ _ h => h) (Or.inl ⟨by kernel_rfl, ?_⟩) ⟨d0, d1, d2⟩ ?_
  rotate_left
  · (intro w9 hS9; (try dsimp only at hS9); go_simp; try with_reducible rfl)
  simp only [Act.put, List.setIfInBounds_toArray, List.set_cons_zero, List.set_cons_succ]
  refine anyZ_take [] (k := 21) (o := ⟨some 44, _, _, _, _, _⟩) (v := ?_) rfl (by kernel_rfl) (by kernel_rfl) (by kernel_rfl) (by kernel_rfl) (by kernel_rfl) (fun _ _ _ h => h) (Or.inl ⟨by kernel_rfl, ?_⟩) ⟨d0, d1, d2⟩ ?_
  rotate_left
  · (intro w9 hS9; (try dsimp only at hS9); go_simp; try with_reducible rfl)
  simp only [Act.put, List.setIfInBounds_toArray, List.set_cons_zero, List.set_cons_succ]
  refine anyZ_take [] (k := 22) (o := ⟨some 45, _, _, _, _, _⟩) (v := ?_) rfl (by kernel_rfl) (by kernel_rfl) (by kernel_rfl) (by kernel_rfl) (by kernel_rfl) (fun _ _ _ h => h) (Or.inl ⟨by kernel_rfl, ?_⟩) ⟨d0, d1, d2⟩ ?_
  rotate_left
  · (intro w9 hS9; (try dsimp only at hS9); go_simp; try with_reducible rfl)
  simp only [Act.put, List.setIfInBounds_toArray, List.set_cons_zero, List.set_cons_succ]
  refine anyZ_take [] (k := 23) (o := ⟨some 46, _, _, _, _, _⟩) (v := ?_) rfl (by kernel_rfl) (by kernel_rfl) (by kernel_rfl) (by kernel_rfl) (by kernel_rfl) (fun _ _ _ h => h) (Or.inl ⟨by kernel_rfl, ?_⟩) ⟨d0, d1, d2⟩ ?_
  rotate_left
  · (intro w9 hS9; (try dsimp only at hS9); go_simp; try with_reducible rfl)
  simp only [Act.put, List.setIfInBounds_toArray, List.set_cons_zero, List.set_cons_succ]
  refine anyZ_one (k := 10) (by kernel_rfl) rfl (fun K hK => ?_)
  go_simp
  go_at_call 76
  refine (HOA.out _).mono ?_
  rintro e w' ⟨rfl, rfl⟩
  go_wp2_with fail
  refine hK.out _ _ (fun _ => ⟨d0, d1, d2⟩) ?_
  clear hK K
  try simp only [Act.put, List.setIfInBounds_toArray, List.set_cons_zero, List.set_cons_succ]
  refine anyZ_take [] (k := 11) (o := ⟨some 34, _, _, _, _, _⟩) (v := ?_) rfl (by kernel_rfl) (by kernel_rfl) (by kernel_rfl) (by kernel_rfl) (by kernel_rfl) (fun _ _ _ h => h) (Or.inl ⟨by kernel_rfl, ?_⟩) ⟨d0, d1, d2⟩ ?_
  rotate_left
  · (intro w9 hS9; (try dsimp only at hS9); go_simp; try with_reducible rfl)
  simp only [Act.put, List.setIfInBounds_toArray, List.set_cons_zero, List.set_cons_succ]
  refine anyZ_one (k := 19) (by kernel_rfl) rfl (fun K hK => ?_)
  go_simp
  go_at_call 76
  refine (HON.out _).mono ?_
  rintro e w' ⟨rfl, rfl⟩
  go_wp2_with fail
  refine hK.out _ _ (fun _ => ⟨d0, d1, d2⟩) ?_
  clear hK K
  try simp only [Act.put, List.setIfInBounds_toArray, List.set_cons_zero, List.set_cons_succ]
  refine anyZ_take [] (k := 20) (o := ⟨some 43, _, _, _, _, _⟩) (v := ?_) rfl (by kernel_rfl) (by kernel_rfl) (by kernel_rfl) (by kernel_rfl) (by kernel_rfl) (fun _ _ _ h => h) (Or.inl ⟨by kernel_rfl, ?_⟩) ⟨d0, d1, d2⟩ ?_
  rotate_left
  · (intro w9 hS9; (try dsimp only at hS9); go_simp; try with_reducible rfl)
  simp only [Act.put, List.setIfInBounds_toArray, List.set_cons_zero, List.set_cons_succ]
  refine anyZ_one (k := 24) (by kernel_rfl) rfl (fun K hK => ?_)
  go_simp
  go_at_call 76
  refine (HON.out _).mono ?_
  rintro e w' ⟨rfl, rfl⟩
  go_wp2_with fail
  refine hK.out _ _ (fun _ => ⟨d0, d1, d2⟩) ?_
  clear hK K
  try simp only [Act.put, List.setIfInBounds_toArray, List.set_cons_zero, List.set_cons_succ]
  refine anyZ_one (k := 25) (by kernel_rfl) rfl (fun K hK => ?_)
  go_simp
  go_at_call 106
  refine (HNP.out).mono ?_
  rintro e w7 ⟨r, hr, rfl, s7, g7⟩
  have sz7 := g7.size
  have x47 := x4D.apart g7 (fun e => by injection e with e; omega)
  have x57 := x5D.apart g7 (fun e => by injection e with e; omega)
  have o7 := oD.apart g7 (fun q hq e => by injection e with e; have := (hA1 q hq).1; omega)
  have e0 := x57.c0
  have e1 := x57.c1
  have e2 := o7.cell hxa
  have HL := below1 w7 (.cells #[.int .i64 Y1, .int .i64 (Y2 : Int), .int .i64 (r : Int), .int .i64 (-1)] 2)
  have hsl := size1 w7 (.cells #[.int .i64 Y1, .int .i64 (Y2 : Int), .int .i64 (r : Int), .int .i64 (-1)] 2)
  have x4L := x47.next HL
  have x5L := x57.next HL
  have oL := o7.below HL
  have sL := s7.below HL
  have l0 := x5L.c0
  have l1 := x5L.c1
  have l2 := oL.cell hxa
  have LR : Rd (w7.alloc (.cells #[.int .i64 Y1, .int .i64 (Y2 : Int), .int .i64 (r : Int), .int .i64 (-1)] 2)) (some ⟨w7.heap.size, 0, none⟩) 4 [Y1, (Y2 : Int), (r : Int), -1] := Own.rd (show Own 2 (w7.alloc (.cells #[.int .i64 Y1, .int .i64 (Y2 : Int), .int .i64 (r : Int), .int .i64 (-1)] 2)) w7.heap.size (some ⟨w7.heap.size, 0, none⟩) 4 4 [Y1, (Y2 : Int), (r : Int), -1] from World.ownsRow_lit w7 _ 4 (Nat.le_refl _) (by unfold maxLen; omega) rfl)
  have HP := Lib.hid (HPK.out _ _ 4 4 _ sL LR (by omega) (by omega) (fun q hq => by cases hq; show w7.heap.size ≠ g; omega))
  go_wp2_with fail
  refine hK.out _ _ (fun _ => ⟨e0, e1, e2⟩) ?_
  clear hK K
  try simp only [Act.put, List.setIfInBounds_toArray, List.set_cons_zero, List.set_cons_succ]
  refine anyZ_one (k := 26) (by kernel_rfl) rfl (fun K hK => ?_)
  go_simp
  (try go_wp2_with fail)
  refine hK.out _ _ (fun _ => ⟨l0, l1, l2⟩) ?_
  clear hK K
  try simp only [Act.put, List.setIfInBounds_toArray, List.set_cons_zero, List.set_cons_succ]
  refine anyZ_one (k := 27) (by kernel_rfl) rfl (fun K hK => ?_)
  go_simp
  go_at_call 179
  refine (HP.out).mono ?_
  rintro e w8 ⟨v, hv, rfl, s8, g8⟩
  have sz8 := g8.size
  have x48 := x4L.apart g8 (fun e => by injection e with e; omega)
  have x58 := x5L.apart g8 (fun e => by injection e with e; omega)
  have o8 := oL.apart g8 (fun q hq e => by injection e with e; have := (hA1 q hq).1; omega)
  have p0 := x58.c0
  have p1 := x58.c1
  have p2 := o8.cell hxa
  have pf := o8.frozen a
  go_wp2_with fail
  refine hK.out _ _ (fun _ => ⟨p0, p1, p2⟩) ?_
  clear hK K
  try simp only [Act.put, List.setIfInBounds_toArray, List.set_cons_zero, List.set_cons_succ]
  refine anyZ_take [] (k := 28) (o := ⟨some 51, _, _, _, _, _⟩) (v := ?_) rfl (by kernel_rfl) (by kernel_rfl) (by kernel_rfl) (by kernel_rfl) (by kernel_rfl) (fun _ _ _ h => h) (Or.inl ⟨by kernel_rfl, ?_⟩) ⟨p0, p1, p2⟩ ?_
  rotate_left
  · (intro w9 hS9; (try dsimp only at hS9); go_simp; try with_reducible rfl)
  simp only [Act.put, List.setIfInBounds_toArray, List.set_cons_zero, List.set_cons_succ]
  refine anyZ_one (k := 29) (by kernel_rfl) rfl (fun K hK => ?_)
  go_simp
  (try go_wp2_with fail)
  refine hK.out _ _ (fun h9 => absurd rfl h9) ?_
  clear hK K
  try simp only [Act.put, List.setIfInBounds_toArray, List.set_cons_zero, List.set_cons_succ]
  refine anyZ_done (by kernel_rfl) ?_ _
  focus
    have hvb : -9223372036854775808 ≤ v ∧ v ≤ 9223372036854775807 := by rcases pick4 hv with h9 | h9 | h9 | h9 <;> subst h9 <;> omega
    have G8 : Hid (w.grownBy w8 (some g)) := Lib.hid (gr_trans (gr_below (gr_trans GD.out g7) HL) g8)
    have o9 := o8.set_ a v
    have x49 := x48.other gA a (.int .i64 v) (by omega)
    have x59 := x58.other gA a (.int .i64 v) (by omega)
    have s9 := s8.setAt gA a (.int .i64 v) (by have := HBg.out; omega) (by omega)
    have G9 : Hid (w.grownBy (w8.setCell ⟨gA, a, none⟩ (.int .i64 v)) (some g)) := Lib.hid (gr_set G8.out (by omega) _)
    have HWF2 := Lib.hid (HWF.out.set a hvb.1 hvb.2)
    clear hv LR HP g7 g8 x48 x58 o8 s8 x4L x5L oL sL x47 x57 o7 s7 e0 e1 e2 l0 l1 l2 d0 d1 d2 x4D x5D oD sD HNP hw1 hor1 p0 p1
    have v0 := x59.c0
    have v1 := x59.c1
    have u0 := x49.c0
    have u1 := x49.c1
    have f0 := x49.fr 0
    have f1 := x49.fr 1
    go_wp2_with fail
    refine ret_gen (fun W => Box 29 W w.heap.size (N : Int) (some ⟨gA, 0, none⟩) N c1 ∧ Own 2 W w.heap.size (some ⟨gA, 0, none⟩) N c1 (xs.set a v) ∧ Sou W B g A n c bs ∧ w.grownBy W (some g)) ⟨x49.set _ _ _ _, ?_, ?_, ?_⟩ ?_
    · have hnn : ∀ q, ((some ⟨gA, 0, none⟩) : Option Addr).map (·.block) = some q → q ≠ w.heap.size := fun q hq => by cases hq; show gA ≠ w.heap.size; omega
      exact own_other (own_other (o9.mono (by omega)) _ _ _ hnn) _ _ _ hnn
    · exact (s9.setAt _ 0 _ (by have := HBg.out; omega) (by omega)).setAt _ 1 _ (by have := HBg.out; omega) (by omega)
    · exact gr_set (gr_set G9.out (Nat.le_refl _) _) (Nat.le_refl _) _
    · rintro W ⟨x, o, s, gg⟩
      have e0 := x.c0
      have e1 := x.c1
      exact bodyPost_ret (v := .agg #[.int .i64 (N : Int), .slice (some ⟨gA, 0, none⟩) N c1]) (by simp [results, Tryd.results164, go_sem, e0, e1]) rfl ⟨_, _, _, _, _, HWF2.out, by omega, by omega, by omega, rfl, o, s, gg⟩
end Go.Proofs.YtcojodkcpemfdaaDoor
namespace Go.Proofs.YtcojodkcpemfdaaDoor
open Go Go.RowKit
set_option linter.unusedVariables false
set_option maxRecDepth 100000

/-- A list of numbers has been drawn. -/
def WdPost (w : World) (B g : Nat) (A : Option Addr) (n c : Nat) (bs : List Int) (m : Nat) (e : Ending) (w' : World) : Prop :=
  ∃ (k c2 : Nat) (A2 : Option Addr) (us : List Int), Wf us ∧ k ≤ m ∧ e = .returned (.slice A2 k c2) ∧ Own 2 w' w.heap.size A2 k c2 us ∧ Sou w' B g A n c bs ∧ w.grownBy w' (some g)
set_option maxHeartbeats 3200000 in
theorem wdraw_any (B g : Nat) (A : Option Addr) (n c L m : Nat) (bs : List Int) (A1 : Option Addr) (N c1 : Nat) (w : World) (h : Sou w B g A n c bs) (hwf : WfB bs) (hn : n ≤ 4096) (hL : L ≤ 1000) (hm : m ≤ 900) :
    Calls Tryd.prog 202 #[.pointer (some ⟨g, 0, none⟩), .agg #[.int .i64 (L : Int), .slice A1 N c1], .int .i64 (m : Int)] w (WdPost w B g A n c bs m) := by
  obtain ⟨i0, hi, hz0, hz1, hz2⟩ := info_parts info_int
  have hgl := h.lt
  have HB1 := Lib.hid (below1 w (.cells #[.int .i64 (L : Int), .slice A1 N c1] 29))
  have HB2 := Lib.hid (below1 (w.alloc (.cells #[.int .i64 (L : Int), .slice A1 N c1] 29)) (.cells #[] 2))
  have x1 := box_new 29 w (L : Int) A1 N c1
  have h1 := h.below HB1.out
  have hs1 := size1 w (.cells #[.int .i64 (L : Int), .slice A1 N c1] 29)
  obtain ⟨w1, hw1⟩ : ∃ w1, w1 = w.alloc (.cells #[.int .i64 (L : Int), .slice A1 N c1] 29) := ⟨_, rfl⟩
  have HW1 := Lib.hid hw1
  rw [← hw1] at h1 x1 hs1 HB2
  have hB1 : Below w.heap.size w w1 := by rw [hw1]; exact HB1.out
  have h2 := h1.below HB2.out
  have x2 := x1.next HB2.out
  have y0 := x2.c0
  have G2 : Hid (w.grownBy (w1.alloc (.cells #[] 2)) (some g)) := Lib.hid (gr_below (gr_of hB1) HB2.out)
  have o2 : Own 2 (w1.alloc (.cells #[] 2)) (w.heap.size + 1) (some ⟨w.heap.size + 1, 0, none⟩) 0 0 [] := by rw [← hs1]; exact World.ownsRow_lit w1 #[] 0 (Nat.le_refl _) (by unfold maxLen; omega) rfl
  have hs2 := size1 w1 (.cells #[] 2)
  obtain ⟨w2, hw2⟩ : ∃ w2, w2 = w1.alloc (.cells #[] 2) := ⟨_, rfl⟩
  have HW2 := Lib.hid hw2
  rw [← hw2] at h2 x2 y0 G2 o2 hs2
  have HNX : Hid (∀ (ww : World) (k : Nat), Sou ww B g A n c bs → 1 ≤ k → k ≤ 1000 → Calls Tryd.prog 106 #[.pointer (some ⟨g, 0, none⟩), .int .i64 (k : Int)] ww fun e w' => ∃ r : Nat, r < k ∧ e = .returned (.int .i64 (r : Int)) ∧ Sou w' B g A n c bs ∧ ww.grownBy w' (some g)) := Lib.hid (fun ww k a1 a2 a3 => l01Next_any B g A n c k bs ww a1 hwf hn a2 (by omega))
  clear hw1 hw2 HB1 HB2 h1 x1 hB1 h
  by_cases hL0 : L = 0
  · subst hL0
    obtain rfl := HW2.out
    obtain rfl := HW1.out
    go_enter Tryd.func202, Tryd.ntmps202
    go_wp2_with fail
    go_ret
    exact ⟨0, 0, _, [], (fun x hx => by cases hx), Nat.zero_le _, rfl, Own.mono (B' := w.heap.size) o2 (by omega), h2, G2.out⟩
  have hL1 : ((L : Int) == 0) = false := by simp; omega
  have HC := Lib.hid (HNX.out w2 (m + 1) h2 (by omega) (by omega))
  have hcm : ((m + 1 : Nat) : Int) = (m : Int) + 1 := by omega
  rw [hcm] at HC
  clear hcm
  go_enter Tryd.func202, Tryd.ntmps202
  go_wp2_with fail
  rw [← HW1.out, ← HW2.out]
  go_wp2_with fail
  refine HC.out.mono ?_
  rintro e w3 ⟨j0, hj0, rfl, s3, g3⟩
  have sz3 := g3.size
  have x3 := x2.apart g3 (fun e => by injection e with e; omega)
  have o3 := o2.apart g3 (fun q hq e => by injection e with e; cases hq; have : w.heap.size + 1 = g := e.symm; omega)
  have G3 : Hid (w.grownBy w3 (some g)) := Lib.hid (gr_trans G2.out g3)
  have HLW : Hid (w.heap.size + 1 + 1 ≤ w3.heap.size) := Lib.hid (by omega)
  clear x2 o2 h2 G2 g3 HC y0 HW1 HW2 hs1 hs2 sz3
  go_wp2_with fail
  go_loopw [7, 8] (fun p q wr => ∃ (k j c2 : Nat) (A2 : Option Addr) (us : List Int), k + j ≤ m ∧ p = .slice A2 k c2 ∧ q = .int .i64 (j : Int) ∧ Own 2 wr (w.heap.size + 1) A2 k c2 us ∧ Wf us ∧ Box 29 wr w.heap.size (L : Int) A1 N c1 ∧ Sou wr B g A n c bs ∧ w.grownBy wr (some g) ∧ w.heap.size + 1 + 1 ≤ wr.heap.size) (fun _ q _ => (intOf q).toNat)
  case atStart => exact ⟨0, j0, 0, _, [], by omega, rfl, rfl, o3, (fun x hx => by cases hx), x3, s3, G3.out, HLW.out⟩
  case round =>
    clear x3 o3 s3 G3 HLW
    obtain ⟨k, j, c2, A2, us, hkj, rfl, rfl, ho, hwu, hx, hs, hgr, hsz⟩ := hrel
    have HG := Lib.hid hgr
    have HWU := Lib.hid hwu
    clear hgr hwu
    rcases Nat.eq_zero_or_pos j with hj | hj
    · subst hj
      go_wp2_with fail
      go_ret
      exact ⟨k, c2, A2, us, HWU.out, by omega, rfl, Own.mono (B' := w.heap.size) ho (by omega), hs, HG.out⟩
    obtain ⟨j, rfl⟩ : ∃ q, j = q + 1 := ⟨j - 1, by omega⟩
    have hjp : (((j + 1 : Nat) : Int) > 0) := by omega
    have hlo := ho.lt
    rcases Nat.eq_zero_or_pos k with hk | hk
    · subst hk
      have y0 := hx.c0
      have HC := Lib.hid (HNX.out wr L hs (by omega) (by omega))
      go_wp2_with fail
      refine HC.out.mono ?_
      rintro e w6 ⟨r6, hr6, rfl, s6, g6⟩
      have sz6 := g6.size
      have x6 := hx.apart g6 (fun e => by injection e with e; omega)
      have o6 := ho.apart g6 (fun q hq e => by injection e with e; have := (hlo q hq).1; omega)
      have G6 : Hid (w.grownBy w6 (some g)) := Lib.hid (gr_trans HG.out g6)
      clear HC y0 g6 hx ho hs
      have hml : 0 + 1 ≤ maxLen := by unfold maxLen; omega
      have hby2 : (0 + 1) * 8 ≤ 140737488355328 := by omega
      have HSZ := Lib.hid (show w.heap.size + 1 ≤ (w6.alloc (.cells #[.int .i64 (r6 : Int)] 2)).heap.size by rw [size1]; omega)
      go_wp2_with (at_builtin; refine wpList_append_own _ rfl _ _ 22 rfl (w.heap.size + 1) 2 i0 (.int .i64 0) 1 8 Tryd.underlying22 hi hz0 hz1 hz2 rfl (by decide) (.slice A2 0 c2) 0 (us.map (Value.int .i64)) rfl (World.ownsRow.alloc o6 _) ⟨w6.heap.size, 0, none⟩ 1 1 [.int .i64 (r6 : Int)] rfl rfl ?c1 ?c2 hml hby2 ?c5 ?_)
      case c1 => exact cell_one_new _ _ _
      case c2 => intro u hu; simp at hu; subst hu; rfl
      case c5 => exact HSZ.out
      intro v' w9 hown hg9 _
      rw [map_snoc] at hown
      obtain ⟨A3, c3, hv9, o9⟩ := own_shape hown
      rw [hv9]
      clear hown hv9 hml hby2
      have HL := below1 w6 (.cells #[.int .i64 (r6 : Int)] 2)
      have hbl : ∀ q, (Value.slice A2 0 c2).ownBlock = some q → w.heap.size + 1 ≤ q := fun q hq => (hlo q (ownBlock_map hq)).1
      have x9 := (x6.next HL).apart hg9 (fun e => by have := hbl _ e; omega)
      have s9 := (s6.below HL).kept hg9 (fun q hq => ⟨by have := hbl q hq; have := s6.1; omega, by have := hbl q hq; omega⟩)
      have G9 : Hid (w.grownBy w9 (some g)) := Lib.hid (gr_row (gr_below G6.out HL) hg9 (fun q hq => by have := hbl q hq; omega))
      have HSZ9 := Lib.hid (Nat.le_trans HL.size hg9.size)
      have HWU9 := Lib.hid (HWU.out.snoc (v := (r6 : Int)) (by omega) (by omega))
      clear hg9 HL x6 o6 s6 HSZ
      go_wp2_with fail
      go_roundw
      case rel => exact ⟨0 + 1, j, c3, A3, _, by omega, rfl, by go_num, o9, HWU9.out, x9, s9, G9.out, by have := HSZ9.out; omega⟩
      case measure => simp [intOf]
    have hk1 : ((k : Int) > 0) := by omega
    have HC7 := Lib.hid (HNX.out wr 8 hs (by omega) (by omega))
    go_wp2_with fail
    refine HC7.out.mono ?_
    rintro e w5 ⟨r5, hr5, rfl, s5, g5⟩
    have sz5 := g5.size
    have x5 := hx.apart g5 (fun e => by injection e with e; omega)
    have o5 := ho.apart g5 (fun q hq e => by injection e with e; have := (hlo q hq).1; omega)
    have G5 : Hid (w.grownBy w5 (some g)) := Lib.hid (gr_trans HG.out g5)
    clear HC7 g5 hx ho hs
    by_cases hr0 : r5 = 0
    · subst hr0
      obtain ⟨g2, rfl, hg2, hg2l⟩ := o5.form hk
      obtain ⟨kp, rfl⟩ : ∃ q, k = q + 1 := ⟨k - 1, by omega⟩
      obtain ⟨u, hu⟩ : ∃ u, us[kp]? = some u := ⟨_, List.getElem?_eq_getElem (by have := o5.len; omega)⟩
      have hc := o5.cell hu
      have hub := HWU.out.at_ hu
      have hw1 : IntKind.i64.wrap (((kp + 1 : Nat) : Int) - 1) = (kp : Int) := by rw [IntWalk.i64_in _ (by omega)]; omega
      clear hu
      have hml : (kp + 1) + 1 ≤ maxLen := by unfold maxLen; omega
      have hby2 : ((kp + 1) + 1) * 8 ≤ 140737488355328 := by omega
      have HSZ := Lib.hid (show w.heap.size + 1 ≤ (w5.alloc (.cells #[.int .i64 u] 2)).heap.size by rw [size1]; omega)
      go_wp2_with (at_builtin; refine wpList_append_own _ rfl _ _ 22 rfl (w.heap.size + 1) 2 i0 (.int .i64 0) 1 8 Tryd.underlying22 hi hz0 hz1 hz2 rfl (by decide) (.slice (some ⟨g2, 0, none⟩) (kp + 1) c2) (kp + 1) (us.map (Value.int .i64)) rfl (World.ownsRow.alloc o5 _) ⟨w5.heap.size, 0, none⟩ 1 1 [.int .i64 u] rfl rfl ?c1 ?c2 hml hby2 ?c5 ?_)
      case c1 => exact cell_one_new _ _ _
      case c2 => intro u hu; simp at hu; subst hu; rfl
      case c5 => exact HSZ.out
      intro v' w9 hown hg9 _
      rw [map_snoc] at hown
      obtain ⟨A3, c3, hv9, o9⟩ := own_shape hown
      rw [hv9]
      clear hown hv9 hml hby2
      have HL := below1 w5 (.cells #[.int .i64 u] 2)
      have hbl : ∀ q, (Value.slice (some ⟨g2, 0, none⟩) (kp + 1) c2).ownBlock = some q → w.heap.size + 1 ≤ q := fun q hq => (hlo q (ownBlock_map hq)).1
      have x9 := (x5.next HL).apart hg9 (fun e => by have := hbl _ e; omega)
      have s9 := (s5.below HL).kept hg9 (fun q hq => ⟨by have := hbl q hq; have := s5.1; omega, by have := hbl q hq; omega⟩)
      have G9 : Hid (w.grownBy w9 (some g)) := Lib.hid (gr_row (gr_below G5.out HL) hg9 (fun q hq => by have := hbl q hq; omega))
      have HSZ9 := Lib.hid (Nat.le_trans HL.size hg9.size)
      have HWU9 := Lib.hid (HWU.out.snoc hub.1 hub.2)
      clear hg9 HL x5 o5 s5 HSZ hc hw1
      go_wp2_with fail
      go_roundw
      case rel => exact ⟨kp + 1 + 1, j, c3, A3, _, by omega, rfl, by go_num, o9, HWU9.out, x9, s9, G9.out, by have := HSZ9.out; omega⟩
      case measure => simp [intOf]
    have hr1 : ((r5 : Int) == 0) = false := by simp; omega
    have y0 := x5.c0
    have HC := Lib.hid (HNX.out w5 L s5 (by omega) (by omega))
    go_wp2_with fail
    refine HC.out.mono ?_
    rintro e w6 ⟨r6, hr6, rfl, s6, g6⟩
    have sz6 := g6.size
    have x6 := x5.apart g6 (fun e => by injection e with e; omega)
    have o6 := o5.apart g6 (fun q hq e => by injection e with e; have := (hlo q hq).1; omega)
    have G6 : Hid (w.grownBy w6 (some g)) := Lib.hid (gr_trans G5.out g6)
    clear HC y0 g6 x5 o5 s5
    have hml : k + 1 ≤ maxLen := by unfold maxLen; omega
    have hby2 : (k + 1) * 8 ≤ 140737488355328 := by omega
    have HSZ := Lib.hid (show w.heap.size + 1 ≤ (w6.alloc (.cells #[.int .i64 (r6 : Int)] 2)).heap.size by rw [size1]; omega)
    go_wp2_with (at_builtin; refine wpList_append_own _ rfl _ _ 22 rfl (w.heap.size + 1) 2 i0 (.int .i64 0) 1 8 Tryd.underlying22 hi hz0 hz1 hz2 rfl (by decide) (.slice A2 k c2) k (us.map (Value.int .i64)) rfl (World.ownsRow.alloc o6 _) ⟨w6.heap.size, 0, none⟩ 1 1 [.int .i64 (r6 : Int)] rfl rfl ?c1 ?c2 hml hby2 ?c5 ?_)
    case c1 => exact cell_one_new _ _ _
    case c2 => intro u hu; simp at hu; subst hu; rfl
    case c5 => exact HSZ.out
    intro v' w9 hown hg9 _
    rw [map_snoc] at hown
    obtain ⟨A3, c3, hv9, o9⟩ := own_shape hown
    rw [hv9]
    clear hown hv9 hml hby2
    have HL := below1 w6 (.cells #[.int .i64 (r6 : Int)] 2)
    have hbl : ∀ q, (Value.slice A2 k c2).ownBlock = some q → w.heap.size + 1 ≤ q := fun q hq => (hlo q (ownBlock_map hq)).1
    have x9 := (x6.next HL).apart hg9 (fun e => by have := hbl _ e; omega)
    have s9 := (s6.below HL).kept hg9 (fun q hq => ⟨by have := hbl q hq; have := s6.1; omega, by have := hbl q hq; omega⟩)
    have G9 : Hid (w.grownBy w9 (some g)) := Lib.hid (gr_row (gr_below G6.out HL) hg9 (fun q hq => by have := hbl q hq; omega))
    have HSZ9 := Lib.hid (Nat.le_trans HL.size hg9.size)
    have HWU9 := Lib.hid (HWU.out.snoc (v := (r6 : Int)) (by omega) (by omega))
    clear hg9 HL x6 o6 s6 HSZ
    go_wp2_with fail
    go_roundw
    case rel => exact ⟨k + 1, j, c3, A3, _, by omega, rfl, by go_num, o9, HWU9.out, x9, s9, G9.out, by have := HSZ9.out; omega⟩
    case measure => simp [intOf]
end Go.Proofs.YtcojodkcpemfdaaDoor
namespace Go.Proofs.YtcojodkcpemfdaaDoor
open Go Go.RowKit
set_option linter.unusedVariables false
set_option maxRecDepth 100000

def lenOfS : Value → Nat
  | .slice _ n _ => n
  | _ => 0
set_option maxHeartbeats 6400000 in
theorem wspoil_any (B g : Nat) (A : Option Addr) (n c m : Nat) (bs : List Int) (L : Int) (A1 : Option Addr) (N c1 : Nat) (xs : List Int) (w : World) (h : Sou w B g A n c bs) (hwf : WfB bs) (hn : n ≤ 4096) (hr : Rd w A1 N xs) (hN : N ≤ 1048576) (hm : m ≤ 24) :
    Calls Tryd.prog 165 #[.pointer (some ⟨g, 0, none⟩), .agg #[.int .i64 L, .slice A1 N c1], .int .i64 (m : Int)] w (WdPost w B g A n c bs 25) := by
  obtain ⟨i0, hi, hz0, hz1, hz2⟩ := info_parts info_int
  have hgl := h.lt
  have HBg := Lib.hid h.1
  have HB1 := Lib.hid (below1 w (.cells #[.int .i64 L, .slice A1 N c1] 29))
  have x1 := box_new 29 w L A1 N c1
  have h1 := h.below HB1.out
  have hr1 := hr.below HB1.out
  have hs1 := size1 w (.cells #[.int .i64 L, .slice A1 N c1] 29)
  obtain ⟨w1, hw1⟩ : ∃ w1, w1 = w.alloc (.cells #[.int .i64 L, .slice A1 N c1] 29) := ⟨_, rfl⟩
  have HW1 := Lib.hid hw1
  rw [← hw1] at h1 x1 hs1 hr1
  have G1 : Hid (w.grownBy w1 (some g)) := Lib.hid (by rw [hw1]; exact gr_of HB1.out)
  have HIS := Lib.hid (l02Is_any L A1 N c1 xs w1 hr1 (by omega))
  have hlen := hr.1
  have HNX : Hid (∀ (ww : World) (k : Nat), Sou ww B g A n c bs → 1 ≤ k → k ≤ 1000 → Calls Tryd.prog 106 #[.pointer (some ⟨g, 0, none⟩), .int .i64 (k : Int)] ww fun e w' => ∃ r : Nat, r < k ∧ e = .returned (.int .i64 (r : Int)) ∧ Sou w' B g A n c bs ∧ ww.grownBy w' (some g)) := Lib.hid (fun ww k a1 a2 a3 => l01Next_any B g A n c k bs ww a1 hwf hn a2 (by omega))
  have c0 := x1.c0
  have c1' := x1.c1
  clear hw1 HB1 h hr hr1
  go_enter Tryd.func165, Tryd.ntmps165
  go_wp2_with fail
  rw [← HW1.out]
  refine HIS.out.mono ?_
  rintro e w2 ⟨rfl, b2⟩
  have s2 := h1.below b2
  have x2 := x1.next b2
  have G2 : Hid (w.grownBy w2 (some g)) := Lib.hid (gr_below G1.out b2)
  have sz2 := b2.size
  clear h1 x1 G1 b2 HIS c0 c1'
  cases hal : alphB L xs
  · go_wp2_with fail
    go_ret
    refine ⟨3, 3, _, [0, 1, 0], ?_, by omega, rfl, ?_, s2.below (below1 _ _), gr_below G2.out (below1 _ _)⟩
    · intro x hx
      simp at hx
      omega
    · exact Own.mono (B' := w.heap.size) (show Own 2 _ w2.heap.size _ 3 3 [0, 1, 0] from World.ownsRow_lit w2 _ 3 (Nat.le_refl _) (by unfold maxLen; omega) rfl) (by omega)
  obtain ⟨rs, rfl, rfl, h8, hrr, hrel, hl8, hd, _⟩ := alphB_nats L xs N hlen hal
  clear hal hrr hrel hl8 hd hlen
  have HD := Lib.hid (wdraw_any B g A n c N m bs A1 N c1 w2 s2 hwf hn (by omega) (by omega))
  have c0 := x2.c0
  have c1' := x2.c1
  go_wp2_with fail
  refine HD.out.mono ?_
  rintro e w3 ⟨k, c2, A2, us, hwu, hk, rfl, o3, s3, g3⟩
  have hlo3 := o3.lt
  have sz3 := g3.size
  have x3 := x2.apart g3 (fun e => by injection e with e; omega)
  have G3 : Hid (w.grownBy w3 (some g)) := Lib.hid (gr_trans G2.out g3)
  have HWU := Lib.hid hwu
  have hlo : ∀ q, A2.map (·.block) = some q → w.heap.size + 1 ≤ q := fun q hq => by have := (hlo3 q hq).1; omega
  have o3' := Own.mono (B' := w.heap.size + 1) o3 (by omega)
  have HC := Lib.hid (HNX.out w3 28 s3 (by omega) (by omega))
  clear x2 s2 G2 g3 HD c0 c1' hwu o3 hlo3
  go_wp2_with fail
  refine HC.out.mono ?_
  rintro e w4 ⟨r, hrb, rfl, s4, g4⟩
  have sz4 := g4.size
  have x4 := x3.apart g4 (fun e => by injection e with e; omega)
  have o4 := o3'.apart g4 (fun q hq e => by injection e with e; have := hlo q hq; omega)
  have G4 : Hid (w.grownBy w4 (some g)) := Lib.hid (gr_trans G3.out g4)
  clear x3 s3 G3 g4 HC o3'
  by_cases hr0 : r = 0
  · subst hr0
    have HL := below1 w4 (.cells #[.int .i64 (-1), .int .i64 (N : Int), .int .i64 1099511627776] 2)
    have hsl := size1 w4 (.cells #[.int .i64 (-1), .int .i64 (N : Int), .int .i64 1099511627776] 2)
    have LR : Rd (w4.alloc (.cells #[.int .i64 (-1), .int .i64 (N : Int), .int .i64 1099511627776] 2)) (some ⟨w4.heap.size, 0, none⟩) 3 [-1, (N : Int), 1099511627776] := Own.rd (show Own 2 (w4.alloc (.cells #[.int .i64 (-1), .int .i64 (N : Int), .int .i64 1099511627776] 2)) w4.heap.size (some ⟨w4.heap.size, 0, none⟩) 3 3 [-1, (N : Int), 1099511627776] from World.ownsRow_lit w4 _ 3 (Nat.le_refl _) (by unfold maxLen; omega) rfl)
    have HP := Lib.hid (pick_any B g A n c bs _ 3 3 _ _ (s4.below HL) hwf hn LR (by omega) (by omega) (fun q hq => by cases hq; show w4.heap.size ≠ g; omega))
    have c0 := x4.c0
    clear LR
    go_wp2_with fail
    refine HP.out.mono ?_
    rintro e w6 ⟨v, hv, rfl, s6, g6⟩
    have sz6 := g6.size
    have o6 := (o4.below HL).apart g6 (fun q hq e => by injection e with e; have := hlo q hq; omega)
    have G6 : Hid (w.grownBy w6 (some g)) := Lib.hid (gr_trans (gr_below G4.out HL) g6)
    have hvb : -9223372036854775808 ≤ v ∧ v ≤ 9223372036854775807 := by rcases pick3 hv with h9 | h9 | h9 <;> subst h9 <;> omega
    clear HP g6 HL hv o4 s4 G4 x4 c0
    have hml : k + 1 ≤ maxLen := by unfold maxLen; omega
    have hby2 : (k + 1) * 8 ≤ 140737488355328 := by omega
    have HSZ := Lib.hid (show w.heap.size + 1 ≤ (w6.alloc (.cells #[.int .i64 v] 2)).heap.size by rw [size1]; omega)
    go_wp2_with (at_builtin; refine wpList_append_own _ rfl _ _ 22 rfl (w.heap.size + 1) 2 i0 (.int .i64 0) 1 8 Tryd.underlying22 hi hz0 hz1 hz2 rfl (by decide) (.slice A2 k c2) k (us.map (Value.int .i64)) rfl (World.ownsRow.alloc o6 _) ⟨w6.heap.size, 0, none⟩ 1 1 [.int .i64 v] rfl rfl ?c1 ?c2 hml hby2 ?c5 ?_)
    case c1 => exact cell_one_new _ _ _
    case c2 => intro u hu; simp at hu; subst hu; rfl
    case c5 => exact HSZ.out
    intro v' w9 hown hg9 _
    rw [map_snoc] at hown
    obtain ⟨A3, c3, hv9, o9⟩ := own_shape hown
    rw [hv9]
    clear hown hv9 hml hby2
    have HL := below1 w6 (.cells #[.int .i64 v] 2)
    have hbl : ∀ q, (Value.slice A2 k c2).ownBlock = some q → w.heap.size + 1 ≤ q := fun q hq => hlo q (ownBlock_map hq)
    have s9 := (s6.below HL).kept hg9 (fun q hq => ⟨by have := hbl q hq; have := HBg.out; omega, by have := hbl q hq; omega⟩)
    have G9 : Hid (w.grownBy w9 (some g)) := Lib.hid (gr_row (gr_below G6.out HL) hg9 (fun q hq => by have := hbl q hq; omega))
    have HWU9 := Lib.hid (HWU.out.snoc hvb.1 hvb.2)
    clear hg9 HL HSZ
    go_wp2_with fail
    go_ret
    exact ⟨k + 1, c3, A3, _, HWU9.out, by omega, rfl, Own.mono (B' := w.heap.size) o9 (by omega), s9, G9.out⟩
  have hr1 : ((r : Int) == 0) = false := by simp; omega
  by_cases hr2 : r = 1
  rotate_left
  · have hr3 : ((r : Int) == 1) = false := by simp; omega
    go_wp2_with fail
    go_ret
    exact ⟨k, c2, A2, us, HWU.out, by omega, rfl, Own.mono (B' := w.heap.size) o4 (by omega), s4, G4.out⟩
  subst hr2
  have HSZ4 : Hid (w.heap.size + 1 ≤ w4.heap.size) := Lib.hid (by omega)
  clear hlo sz2 sz3 sz4
  go_wp2_with fail
  go_loopw [7] (fun p wr => ∃ (k c2 : Nat) (A2 : Option Addr) (us : List Int), k ≤ 25 ∧ p = .slice A2 k c2 ∧ Own 2 wr (w.heap.size + 1) A2 k c2 us ∧ Wf us ∧ Box 29 wr w.heap.size (N : Int) A1 N c1 ∧ Sou wr B g A n c bs ∧ w.grownBy wr (some g) ∧ w.heap.size + 1 ≤ wr.heap.size) (fun p _ => 25 - lenOfS p)
  case atStart => exact ⟨k, c2, A2, us, by omega, rfl, o4, HWU.out, x4, s4, G4.out, HSZ4.out⟩
  case round =>
    clear x4 o4 s4 G4 HWU HSZ4 hk
    obtain ⟨k, c2, A2, us, hk, rfl, ho, hwu, hx, hs, hgr, hsz⟩ := hrel
    have HG := Lib.hid hgr
    have HWU := Lib.hid hwu
    have hlo := ho.lt
    have y0 := hx.c0
    clear hgr hwu
    rcases Nat.eq_zero_or_pos N with hN0 | hN0
    · have hN1 : ((N : Int) > 0) = False := by simp; omega
      have hN2 : decide ((N : Int) > 0) = false := by simp; omega
      go_wp2_with fail
      go_ret
      exact ⟨k, c2, A2, us, HWU.out, by omega, rfl, Own.mono (B' := w.heap.size) ho (by omega), hs, HG.out⟩
    have hN1 : ((N : Int) > 0) := by omega
    by_cases hk25 : k < 25
    · have HC := Lib.hid (HNX.out wr N hs (by omega) (by omega))
      have hk1 : ((k : Int) < 25) := by omega
      go_wp2_with fail
      refine HC.out.mono ?_
      rintro e w6 ⟨r6, hr6, rfl, s6, g6⟩
      have sz6 := g6.size
      have x6 := hx.apart g6 (fun e => by injection e with e; omega)
      have o6 := ho.apart g6 (fun q hq e => by injection e with e; have := (hlo q hq).1; omega)
      have G6 : Hid (w.grownBy w6 (some g)) := Lib.hid (gr_trans HG.out g6)
      clear HC y0 g6 hx ho hs
      have hml : k + 1 ≤ maxLen := by unfold maxLen; omega
      have hby2 : (k + 1) * 8 ≤ 140737488355328 := by omega
      have HSZ := Lib.hid (show w.heap.size + 1 ≤ (w6.alloc (.cells #[.int .i64 (r6 : Int)] 2)).heap.size by rw [size1]; omega)
      go_wp2_with (at_builtin; refine wpList_append_own _ rfl _ _ 22 rfl (w.heap.size + 1) 2 i0 (.int .i64 0) 1 8 Tryd.underlying22 hi hz0 hz1 hz2 rfl (by decide) (.slice A2 k c2) k (us.map (Value.int .i64)) rfl (World.ownsRow.alloc o6 _) ⟨w6.heap.size, 0, none⟩ 1 1 [.int .i64 (r6 : Int)] rfl rfl ?c1 ?c2 hml hby2 ?c5 ?_)
      case c1 => exact cell_one_new _ _ _
      case c2 => intro u hu; simp at hu; subst hu; rfl
      case c5 => exact HSZ.out
      intro v' w9 hown hg9 _
      rw [map_snoc] at hown
      obtain ⟨A3, c3, hv9, o9⟩ := own_shape hown
      rw [hv9]
      clear hown hv9 hml hby2
      have HL := below1 w6 (.cells #[.int .i64 (r6 : Int)] 2)
      have hbl : ∀ q, (Value.slice A2 k c2).ownBlock = some q → w.heap.size + 1 ≤ q := fun q hq => (hlo q (ownBlock_map hq)).1
      have x9 := (x6.next HL).apart hg9 (fun e => by have := hbl _ e; omega)
      have s9 := (s6.below HL).kept hg9 (fun q hq => ⟨by have := hbl q hq; have := HBg.out; omega, by have := hbl q hq; omega⟩)
      have G9 : Hid (w.grownBy w9 (some g)) := Lib.hid (gr_row (gr_below G6.out HL) hg9 (fun q hq => by have := hbl q hq; omega))
      have HSZ9 := Lib.hid (Nat.le_trans HL.size hg9.size)
      have HWU9 := Lib.hid (HWU.out.snoc (v := (r6 : Int)) (by omega) (by omega))
      clear hg9 HL x6 o6 s6 HSZ
      go_wp2_with fail
      go_roundw
      case rel => exact ⟨k + 1, c3, A3, _, by omega, rfl, o9, HWU9.out, x9, s9, G9.out, by have := HSZ9.out; omega⟩
      case measure => simp [lenOfS]; omega
    · have hk1 : ¬ ((k : Int) < 25) := by omega
      go_wp2_with fail
      go_ret
      exact ⟨k, c2, A2, us, HWU.out, by omega, rfl, Own.mono (B' := w.heap.size) ho (by omega), hs, HG.out⟩
/-- An alphabet and a list have been drawn. -/
def PairPost (w : World) (A : Option Addr) (n c : Nat) (bs : List Int) (e : Ending) (w' : World) : Prop :=
  ∃ (B g : Nat) (L : Int) (N c1 : Nat) (A1 : Option Addr) (xs : List Int) (k c2 : Nat) (A2 : Option Addr) (us : List Int), e = .returned (.tuple #[.pointer (some ⟨g, 0, none⟩), .agg #[.int .i64 L, .slice A1 N c1], .slice A2 k c2]) ∧ w.heap.size ≤ B ∧ (-9223372036854775808 ≤ L ∧ L ≤ 9223372036854775807) ∧ N ≤ 9 ∧ Wf xs ∧ Own 2 w' w.heap.size A1 N c1 xs ∧ Wf us ∧ k ≤ 25 ∧ Own 2 w' w.heap.size A2 k c2 us ∧ Sou w' B g A n c bs ∧ Below w.heap.size w w' ∧ (∀ q, A1.map (·.block) = some q → A2.map (·.block) ≠ some q ∧ q ≠ g) ∧ ∀ q, A2.map (·.block) = some q → q ≠ g
theorem below_of_gr {w w1 : World} {g : Nat} (h : w.grownBy w1 (some g)) {B : Nat} (hB : B ≤ w.heap.size ∧ B ≤ g) : Below B w w1 :=
  ⟨h.os, h.tape, h.output, h.size, fun k hk => h.block k (by omega) (fun e => by injection e with e; omega)⟩
/-- A store behind the bytes, in another block than the source. -/
theorem Sou.res {w : World} {B g n c : Nat} {A : Option Addr} {bs : List Int} (h : Sou w B g A n c bs) (b k : Nat) (v : Value) (hb : b < B) (hab : ∀ q, 0 < n → A.map (·.block) = some q → q < b) (hne : b ≠ g) : Sou (w.setCell ⟨b, k, none⟩ v) B g A n c bs := by
  have hgr := grown_set (World.grownBy.refl w (some b)) k v
  have hl := h.lt
  obtain ⟨hBg, hrd, hab2, i, hh, hi, hhh, hblk⟩ := h
  refine ⟨hBg, ⟨hrd.1, fun hn => ?_⟩, hab2, i, hh, hi, hhh, ?_⟩
  · obtain ⟨b2, off, e, hb2, hc⟩ := hrd.2 hn
    refine ⟨b2, off, e, by have := hgr.size; omega, fun j x hx => ?_⟩
    have h9 := hab b2 hn (by rw [e]; rfl)
    rw [World.cell?_of_block (w := w) (hgr.block b2 hb2 (fun e2 => by injection e2 with e2; omega))]
    exact hc j x hx
  · rw [hgr.block g hl (fun e2 => by injection e2 with e2; exact hne e2.symm)]; exact hblk
set_option maxHeartbeats 6400000 in
theorem pair_any (m m2 : Nat) (A : Option Addr) (n c : Nat) (bs : List Int) (w : World) (h : RdB w A n bs) (hwf : WfB bs) (hn : n ≤ 4096) (h4 : 4 ≤ m) (h8 : m ≤ 8) (hm2 : m2 ≤ 24) :
    Calls Tryd.prog 103 #[.slice A n c, .int .i64 (m : Int), .int .i64 (m2 : Int)] w (PairPost w A n c bs) := by
  have hab' : ∀ b, 0 < n → A.map (·.block) = some b → b < w.heap.size := fun b hn0 hb => by
    obtain ⟨b2, off, e, hb2, _⟩ := h.2 hn0
    rw [e] at hb
    have h9 : b2 = b := by simpa using hb
    omega
  have HB1 := Lib.hid (below1 w (.cells #[.int .i64 0, .slice none 0 0] 29))
  have x7 := box_new 29 w 0 none 0 0
  have h1 := h.below HB1.out
  have hs1 := size1 w (.cells #[.int .i64 0, .slice none 0 0] 29)
  obtain ⟨w1, hw1⟩ : ∃ w1, w1 = w.alloc (.cells #[.int .i64 0, .slice none 0 0] 29) := ⟨_, rfl⟩
  have HW1 := Lib.hid hw1
  rw [← hw1] at h1 x7 hs1
  have HB1' : Hid (Below w.heap.size w w1) := Lib.hid (by rw [hw1]; exact HB1.out)
  have HF := Lib.hid (l01From_any A n c bs w1 h1 (fun b a1 a2 => by have := hab' b a1 a2; omega) hwf hn)
  clear hw1 HB1 h h1
  go_enter Tryd.func103, Tryd.ntmps103
  go_wp2_with fail
  rw [← HW1.out]
  refine HF.out.mono ?_
  rintro e w2 ⟨g, rfl, s2, b2⟩
  have hg1 := s2.1
  have hg2 := s2.lt
  have x72 := x7.next b2
  have sz2 := b2.size
  have G2 : Hid (w1.grownBy w2 (some g)) := Lib.hid (gr_of b2)
  have HD := Lib.hid (draw_any w1.heap.size g A n c m bs w2 s2 hwf hn h4 h8)
  clear s2 b2 x7 HF HW1
  go_wp2_with fail
  refine HD.out.mono ?_
  rintro e w3 ⟨N, c1, A1, zs, hN, hz, rfl, o3, s3, g3⟩
  have sz3 := g3.size
  have hlo3 := o3.lt
  have x73 := x72.apart g3 (fun e => by injection e with e; omega)
  have G3 : Hid (w1.grownBy w3 (some g)) := Lib.hid (gr_trans G2.out g3)
  have HWF := Lib.hid (wf_bits hN hz)
  have HB4 := below1 w3 (.cells #[.int .i64 (N : Int), .slice A1 N c1] 29)
  have hs4 := size1 w3 (.cells #[.int .i64 (N : Int), .slice A1 N c1] 29)
  have s4 := s3.below HB4
  have x74 := x73.next HB4
  have o4 := o3.below HB4
  have b4 := box_new 29 w3 (N : Int) A1 N c1
  have G4 : Hid (w1.grownBy (w3.alloc (.cells #[.int .i64 (N : Int), .slice A1 N c1] 29)) (some g)) := Lib.hid (gr_below G3.out HB4)
  obtain ⟨xs, hxs⟩ : ∃ xs, xs = ints zs := ⟨_, rfl⟩
  rw [← hxs] at o4 HWF
  obtain ⟨w4, hw4⟩ : ∃ w4, w4 = w3.alloc (.cells #[.int .i64 (N : Int), .slice A1 N c1] 29) := ⟨_, rfl⟩
  have HW4 := Lib.hid hw4
  rw [← hw4] at s4 x74 o4 b4 G4 hs4
  have HC := Lib.hid (l01Next_any w1.heap.size g A n c 24 bs w4 s4 hwf hn (by omega) (by omega))
  clear hxs hw4 s3 x73 o3 HB4 G3 hz HD x72 G2 g3
  go_wp2_with fail
  rw [← HW4.out]
  refine HC.out.mono ?_
  rintro e w5 ⟨r, hr, rfl, s5, g5⟩
  have sz5 := g5.size
  have x75 := x74.apart g5 (fun e => by injection e with e; omega)
  have b5 := b4.apart g5 (fun e => by injection e with e; omega)
  have o5 := o4.apart g5 (fun q hq e => by injection e with e; have := (hlo3 q hq).1; omega)
  have G5 : Hid (w1.grownBy w5 (some g)) := Lib.hid (gr_trans G4.out g5)
  have hA : ∀ q, A1.map (·.block) = some q → w2.heap.size ≤ q ∧ q < w3.heap.size := hlo3
  clear x74 b4 o4 s4 G4 g5 HC HW4
  by_cases hr0 : r = 0
  · subst hr0
    have HP := Lib.hid (spoil_any w1.heap.size g A n c m bs w5 s5 hwf hn h4 h8)
    clear o5 HWF
    go_wp2_with fail
    refine HP.out.mono ?_
    rintro e w6 ⟨L6, N6, c6, A6, ys, hwy, hL1, hL2, hN6, rfl, o6, s6, g6⟩
    have sz6 := g6.size
    have hlo6 := o6.lt
    have x76 := x75.apart g6 (fun e => by injection e with e; omega)
    have b6 := b5.apart g6 (fun e => by injection e with e; omega)
    have G6 : Hid (w1.grownBy w6 (some g)) := Lib.hid (gr_trans G5.out g6)
    have HWY := Lib.hid hwy
    have u0 := b6.c0
    have u1 := b6.c1
    have v0 := b6.fr 0
    have v1 := b6.fr 1
    have b68 := b6.set L6 A6 N6 c6
    have x78 := (x76.other w3.heap.size 0 (.int .i64 L6) (by omega)).other w3.heap.size 1 (.slice A6 N6 c6) (by omega)
    have o8 := own_other (own_other o6 w3.heap.size 0 (.int .i64 L6) (fun q hq => by have := hlo6 q hq; omega)) w3.heap.size 1 (.slice A6 N6 c6) (fun q hq => by have := hlo6 q hq; omega)
    have s8 := (s6.setAt w3.heap.size 0 (.int .i64 L6) (by omega) (by omega)).setAt w3.heap.size 1 (.slice A6 N6 c6) (by omega) (by omega)
    have G8 : Hid (w1.grownBy ((w6.setCell ⟨w3.heap.size, 0, none⟩ (.int .i64 L6)).setCell ⟨w3.heap.size, 1, none⟩ (.slice A6 N6 c6)) (some g)) := Lib.hid (gr_set (gr_set G6.out (by omega) _) (by omega) _)
    have szz : ((w6.setCell ⟨w3.heap.size, 0, none⟩ (.int .i64 L6)).setCell ⟨w3.heap.size, 1, none⟩ (.slice A6 N6 c6)).heap.size = w6.heap.size := by simp
    obtain ⟨w8, hw8⟩ : ∃ w8, w8 = (w6.setCell ⟨w3.heap.size, 0, none⟩ (.int .i64 L6)).setCell ⟨w3.heap.size, 1, none⟩ (.slice A6 N6 c6) := ⟨_, rfl⟩
    have HW8 := Lib.hid hw8
    rw [← hw8] at b68 x78 o8 s8 G8 szz
    have hA6 : ∀ q, A6.map (·.block) = some q → w5.heap.size ≤ q ∧ q < w6.heap.size := hlo6
    clear hw8 b6 x76 o6 s6 G6 g6 hwy x75 b5 s5 G5 HP
    go_upto_region 5 with fail
    rw [← HW8.out]
    clear u0 u1 v0 v1 HW8
    have dB := below_drew w8
    have szD : w8.drew.heap.size = w8.heap.size := rfl
    have sD := s8.below dB
    have bD := b68.next dB
    have b7D := x78.next dB
    have oD := o8.below dB
    have d0 := bD.c0
    have d1 := bD.c1
    have GD : Hid (w1.grownBy w8.drew (some g)) := Lib.hid (gr_below G8.out dB)
    have HS := Lib.hid (wspoil_any w1.heap.size g A n c m2 bs L6 A6 N6 c6 ys w8.drew sD hwf hn oD.rd (by omega) hm2)
    clear b68 x78 o8 s8 dB
    go_wp2_with fail
    go_region_held3 (fun w' => w'.cell? ⟨w3.heap.size, 0, none⟩ = some (.int .i64 L6) ∧ w'.cell? ⟨w3.heap.size, 1, none⟩ = some (.slice A6 N6 c6)) (first | exact ⟨d0, d1⟩ | exact ⟨e0, e1⟩ | exact ⟨q0, q1⟩ | go_keep) (first | (go_at_call 165; (with_reducible refine (HS.out).mono ?_); rintro e w7 ⟨k, c2, A2, us, hwu, hk, rfl, o7, s7, g7⟩; have sz7 := g7.size; have bE := bD.apart g7 (fun e => by injection e with e; omega); have e0 := bE.c0; have e1 := bE.c1; have b7E := b7D.apart g7 (fun e => by injection e with e; omega); have f0 := b7E.c0; have f1 := b7E.c1; have f2 := b7E.fr 0; have f3 := b7E.fr 1; have oE := oD.apart g7 (fun q hq e => by injection e with e; have := hA6 q hq; omega); have bQ := (bE.other w.heap.size 0 (.int .i64 L6) (by omega)).other w.heap.size 1 (.slice A6 N6 c6) (by omega); have q0 := bQ.c0; have q1 := bQ.c1))
    all_goals
      have G7 : Hid (w1.grownBy w7 (some g)) := Lib.hid (gr_trans GD.out g7)
      have hlo7 := o7.lt
      have HWU := Lib.hid hwu
      clear hwu bD b7D oD sD d0 d1 GD HS e0 e1 f0 f1 f2 f3 q0 q1 bQ bE g7
      go_wp2_with fail
      refine ret_gen (fun W => Box 29 W w.heap.size L6 A6 N6 c6 ∧ Own 2 W w.heap.size A6 N6 c6 ys ∧ Own 2 W w.heap.size A2 k c2 us ∧ Sou W w1.heap.size g A n c bs ∧ Below w.heap.size w W) ⟨b7E.set _ _ _ _, ?_, ?_, ?_, ?_⟩ ?_
      · have hnn : ∀ q, (A6 : Option Addr).map (·.block) = some q → q ≠ w.heap.size := fun q hq => by have := hA6 q hq; omega
        exact own_other (own_other (Own.mono (B' := w.heap.size) oE (by omega)) _ _ _ hnn) _ _ _ hnn
      · have hnn : ∀ q, (A2 : Option Addr).map (·.block) = some q → q ≠ w.heap.size := fun q hq => by have := hlo7 q hq; omega
        exact own_other (own_other (Own.mono (B' := w.heap.size) o7 (by omega)) _ _ _ hnn) _ _ _ hnn
      · have h9 : ∀ k v W, Sou W w1.heap.size g A n c bs → Sou (W.setCell ⟨w.heap.size, k, none⟩ v) w1.heap.size g A n c bs := fun k v W hW => by
          obtain ⟨a1, a2, a3, a4⟩ := hW
          exact Sou.res ⟨a1, a2, a3, a4⟩ w.heap.size k v (by omega) hab' (by omega)
        exact h9 _ _ _ (h9 _ _ _ s7)
      · exact ((HB1'.out.trans (below_of_gr G7.out (by omega))).setCell (p := ⟨w.heap.size, 0, none⟩) (Nat.le_refl _) _).setCell (p := ⟨w.heap.size, 1, none⟩) (Nat.le_refl _) _
      · rintro W ⟨x, o, o2, s, bb⟩
        have e0 := x.c0
        have e1 := x.c1
        exact bodyPost_ret (v := .tuple #[.pointer (some ⟨g, 0, none⟩), .agg #[.int .i64 L6, .slice A6 N6 c6], .slice A2 k c2]) (by simp [results, Tryd.results103, go_sem, e0, e1]) rfl ⟨w1.heap.size, g, _, _, _, _, _, _, _, _, _, rfl, by omega, ⟨hL1, hL2⟩, by omega, HWY.out, o, HWU.out, hk, o2, s, bb, fun q hq => ⟨fun h9 => by have h8 := hA6 q hq; have h7 := hlo7 q h9; omega, by have h8 := hA6 q hq; omega⟩, fun q hq => by have h7 := hlo7 q hq; omega⟩
  have hr1 : ((r : Int) == 0) = false := by simp; omega
  have dB := below_drew w5
  have szD : w5.drew.heap.size = w5.heap.size := rfl
  have sD := s5.below dB
  have bD := b5.next dB
  have b7D := x75.next dB
  have oD := o5.below dB
  have d0 := bD.c0
  have d1 := bD.c1
  have GD : Hid (w1.grownBy w5.drew (some g)) := Lib.hid (gr_below G5.out dB)
  have HS := Lib.hid (wspoil_any w1.heap.size g A n c m2 bs (N : Int) A1 N c1 xs w5.drew sD hwf hn oD.rd (by omega) hm2)
  clear b5 x75 o5 s5 dB
  go_wp2_with fail
  go_region_held3 (fun w' => w'.cell? ⟨w3.heap.size, 0, none⟩ = some (.int .i64 (N : Int)) ∧ w'.cell? ⟨w3.heap.size, 1, none⟩ = some (.slice A1 N c1)) (first | exact ⟨d0, d1⟩ | exact ⟨e0, e1⟩ | exact ⟨q0, q1⟩ | go_keep) (first | (go_at_call 165; (with_reducible refine (HS.out).mono ?_); rintro e w7 ⟨k, c2, A2, us, hwu, hk, rfl, o7, s7, g7⟩; have sz7 := g7.size; have bE := bD.apart g7 (fun e => by injection e with e; omega); have e0 := bE.c0; have e1 := bE.c1; have b7E := b7D.apart g7 (fun e => by injection e with e; omega); have f0 := b7E.c0; have f1 := b7E.c1; have f2 := b7E.fr 0; have f3 := b7E.fr 1; have oE := oD.apart g7 (fun q hq e => by injection e with e; have := hA q hq; omega); have bQ := (bE.other w.heap.size 0 (.int .i64 (N : Int)) (by omega)).other w.heap.size 1 (.slice A1 N c1) (by omega); have q0 := bQ.c0; have q1 := bQ.c1))
  all_goals
    have G7 : Hid (w1.grownBy w7 (some g)) := Lib.hid (gr_trans GD.out g7)
    have hlo7 := o7.lt
    have HWU := Lib.hid hwu
    clear hwu bD b7D oD sD d0 d1 GD HS e0 e1 f0 f1 f2 f3 q0 q1 bQ bE g7
    go_wp2_with fail
    refine ret_gen (fun W => Box 29 W w.heap.size (N : Int) A1 N c1 ∧ Own 2 W w.heap.size A1 N c1 xs ∧ Own 2 W w.heap.size A2 k c2 us ∧ Sou W w1.heap.size g A n c bs ∧ Below w.heap.size w W) ⟨b7E.set _ _ _ _, ?_, ?_, ?_, ?_⟩ ?_
    · have hnn : ∀ q, (A1 : Option Addr).map (·.block) = some q → q ≠ w.heap.size := fun q hq => by have := hA q hq; omega
      exact own_other (own_other (Own.mono (B' := w.heap.size) oE (by omega)) _ _ _ hnn) _ _ _ hnn
    · have hnn : ∀ q, (A2 : Option Addr).map (·.block) = some q → q ≠ w.heap.size := fun q hq => by have := hlo7 q hq; omega
      exact own_other (own_other (Own.mono (B' := w.heap.size) o7 (by omega)) _ _ _ hnn) _ _ _ hnn
    · have h9 : ∀ k v W, Sou W w1.heap.size g A n c bs → Sou (W.setCell ⟨w.heap.size, k, none⟩ v) w1.heap.size g A n c bs := fun k v W hW => by
        obtain ⟨a1, a2, a3, a4⟩ := hW
        exact Sou.res ⟨a1, a2, a3, a4⟩ w.heap.size k v (by omega) hab' (by omega)
      exact h9 _ _ _ (h9 _ _ _ s7)
    · exact ((HB1'.out.trans (below_of_gr G7.out (by omega))).setCell (p := ⟨w.heap.size, 0, none⟩) (Nat.le_refl _) _).setCell (p := ⟨w.heap.size, 1, none⟩) (Nat.le_refl _) _
    · rintro W ⟨x, o, o2, s, bb⟩
      have e0 := x.c0
      have e1 := x.c1
      exact bodyPost_ret (v := .tuple #[.pointer (some ⟨g, 0, none⟩), .agg #[.int .i64 (N : Int), .slice A1 N c1], .slice A2 k c2]) (by simp [results, Tryd.results103, go_sem, e0, e1]) rfl ⟨w1.heap.size, g, _, _, _, _, _, _, _, _, _, rfl, by omega, ⟨by omega, by omega⟩, by omega, HWF.out, o, HWU.out, hk, o2, s, bb, fun q hq => ⟨fun h9 => by have h8 := hA q hq; have h7 := hlo7 q h9; omega, by have h8 := hA q hq; omega⟩, fun q hq => by have h7 := hlo7 q hq; omega⟩
end Go.Proofs.YtcojodkcpemfdaaDoor
namespace Go.Proofs.YtcojodkcpemfdaaDoor
open Go Go.RowKit
set_option linter.unusedVariables false
set_option maxRecDepth 100000

theorem own_capD {E : TypeId} {w : World} {B n c : Nat} {A : Option Addr} {xs : List Int} (h : Own E w B A n c xs) : n ≤ c := by
  rcases h.2 with ⟨h0, h1⟩ | ⟨g, cap, cur, e1, _, _, h4, _⟩
  · injection h0 with _ h2 h3; omega
  · injection e1 with _ _ h3; omega
/-- Some alphabet and some list. -/
def XwPost (w : World) (e : Ending) (w' : World) : Prop :=
  ∃ (L : Int) (N c1 : Nat) (A1 : Option Addr) (xs : List Int) (k c2 : Nat) (A2 : Option Addr) (us : List Int), e = .returned (.tuple #[.agg #[.int .i64 L, .slice A1 N c1], .slice A2 k c2]) ∧ (-9223372036854775808 ≤ L ∧ L ≤ 9223372036854775807) ∧ N ≤ 9 ∧ Wf xs ∧ Rd w' A1 N xs ∧ Wf us ∧ k ≤ 25 ∧ Rd w' A2 k us ∧ (N ≤ c1 ∧ k ≤ c2 ∧ (∀ q, A1.map (·.block) = some q → w.heap.size ≤ q) ∧ ∀ q, A2.map (·.block) = some q → w.heap.size ≤ q) ∧ Below w.heap.size w w'
/-- Some alphabet, some list and some number. -/
def XwnPost (w : World) (e : Ending) (w' : World) : Prop :=
  ∃ (L : Int) (N c1 : Nat) (A1 : Option Addr) (xs : List Int) (k c2 : Nat) (A2 : Option Addr) (us : List Int) (v : Int), e = .returned (.tuple #[.agg #[.int .i64 L, .slice A1 N c1], .slice A2 k c2, .int .i64 v]) ∧ (-9223372036854775808 ≤ L ∧ L ≤ 9223372036854775807) ∧ N ≤ 9 ∧ Wf xs ∧ Rd w' A1 N xs ∧ Wf us ∧ k ≤ 25 ∧ Rd w' A2 k us ∧ (N ≤ c1 ∧ k ≤ c2 ∧ (∀ q, A1.map (·.block) = some q → w.heap.size ≤ q) ∧ ∀ q, A2.map (·.block) = some q → w.heap.size ≤ q) ∧ (-9223372036854775808 ≤ v ∧ v ≤ 9223372036854775807) ∧ Below w.heap.size w w'
theorem rd_other {w : World} {A : Option Addr} {n : Nat} {xs : List Int} (h : Rd w A n xs) (g k : Nat) (v : Value) (hne : ∀ b, A.map (·.block) = some b → b ≠ g) : Rd (w.setCell ⟨g, k, none⟩ v) A n xs :=
  h.apartD (grown_set (World.grownBy.refl w (some g)) k v) (fun q _ hq e => by injection e with e; exact hne q hq e.symm)
set_option maxHeartbeats 1600000 in
theorem dDrawTraceComponents_any (A : Option Addr) (n c : Nat) (bs : List Int) (w : World) (h : RdB w A n bs) (hwf : WfB bs) (hn : n ≤ 4096) :
    Calls Tryd.prog 53 #[.slice A n c] w (XwPost w) := by
  have HB1 := Lib.hid (below1 w (.cells #[.int .i64 0, .slice none 0 0] 29))
  have x2 := box_new 29 w 0 none 0 0
  have h1 := h.below HB1.out
  have hs1 := size1 w (.cells #[.int .i64 0, .slice none 0 0] 29)
  obtain ⟨w1, hw1⟩ : ∃ w1, w1 = w.alloc (.cells #[.int .i64 0, .slice none 0 0] 29) := ⟨_, rfl⟩
  have HW1 := Lib.hid hw1
  rw [← hw1] at h1 x2 hs1
  have HB1' : Hid (Below w.heap.size w w1) := Lib.hid (by rw [hw1]; exact HB1.out)
  have HP := Lib.hid (pair_any 8 24 A n c bs w1 h1 hwf hn (by omega) (by omega) (by omega))
  clear hw1 HB1 h h1
  go_enter Tryd.func53, Tryd.ntmps53
  go_wp2_with fail
  rw [← HW1.out]
  refine HP.out.mono ?_
  rintro e w2 ⟨B, g, L, N, c1, A1, xs, k, c2, A2, us, rfl, hB, hL, hN, hwx, o1, hwu, hk, o2, s2, b2, hsep, hsep2⟩
  have HWX := Lib.hid hwx
  have HWU := Lib.hid hwu
  have hcp : N ≤ c1 ∧ k ≤ c2 ∧ (∀ q, A1.map (·.block) = some q → w.heap.size ≤ q) ∧ ∀ q, A2.map (·.block) = some q → w.heap.size ≤ q := ⟨own_capD o1, own_capD o2, fun q hq => by have := (o1.lt q hq).1; omega, fun q hq => by have := (o2.lt q hq).1; omega⟩
  have hlo1 : ∀ q, A1.map (·.block) = some q → w1.heap.size ≤ q ∧ q < w2.heap.size ∧ q ≠ g := fun q hq => ⟨(o1.lt q hq).1, (o1.lt q hq).2, (hsep q hq).2⟩
  have hlo2 : ∀ q, A2.map (·.block) = some q → w1.heap.size ≤ q ∧ q < w2.heap.size ∧ q ≠ g := fun q hq => ⟨(o2.lt q hq).1, (o2.lt q hq).2, hsep2 q hq⟩
  have sz2 := b2.size
  have x3 := x2.next b2
  have HB3 := below1 w2 (.cells #[.int .i64 L, .slice A1 N c1] 29)
  have hs3 := size1 w2 (.cells #[.int .i64 L, .slice A1 N c1] 29)
  have x4 := x3.next HB3
  have y4 := box_new 29 w2 L A1 N c1
  have o14 := o1.below HB3
  have o24 := o2.below HB3
  have s4 := s2.below HB3
  have hg1 := s2.1
  have hg2 := s2.lt
  have B4 : Hid (Below w.heap.size w (w2.alloc (.cells #[.int .i64 L, .slice A1 N c1] 29))) := Lib.hid ((HB1'.out.trans (b2.mono HB1'.out.size)).alloc (by omega) _)
  clear hwx hwu o1 o2 s2 b2 x2 x3 HB3 HP HW1 HB1' hsep
  have v0 := y4.c0
  have v1 := y4.c1
  have u0 := x4.c0
  have u1 := x4.c1
  have f0 := x4.fr 0
  have f1 := x4.fr 1
  go_wp2_with fail
  refine ret_gen (fun W => Box 29 W w.heap.size L A1 N c1 ∧ Rd W A1 N xs ∧ Rd W A2 k us ∧ Below w.heap.size w W) ⟨x4.set _ _ _ _, ?_, ?_, ?_⟩ ?_
  · exact rd_other (rd_other o14.rd _ _ _ (fun q hq => by have := hlo1 q hq; omega)) _ _ _ (fun q hq => by have := hlo1 q hq; omega)
  · exact rd_other (rd_other o24.rd _ _ _ (fun q hq => by have := hlo2 q hq; omega)) _ _ _ (fun q hq => by have := hlo2 q hq; omega)
  · exact (B4.out.setCell (p := ⟨w.heap.size, 0, none⟩) (Nat.le_refl _) _).setCell (p := ⟨w.heap.size, 1, none⟩) (Nat.le_refl _) _
  · rintro W ⟨x, r1, r2, bb⟩
    have e0 := x.c0
    have e1 := x.c1
    exact bodyPost_ret (v := .tuple #[.agg #[.int .i64 L, .slice A1 N c1], .slice A2 k c2]) (by simp [results, Tryd.results53, go_sem, e0, e1]) rfl ⟨_, _, _, _, _, _, _, _, _, rfl, hL, hN, HWX.out, r1, HWU.out, hk, r2, hcp, bb⟩
set_option maxHeartbeats 1600000 in
theorem dDrawFirstLetters_any (A : Option Addr) (n c : Nat) (bs : List Int) (w : World) (h : RdB w A n bs) (hwf : WfB bs) (hn : n ≤ 4096) :
    Calls Tryd.prog 64 #[.slice A n c] w (XwPost w) := by
  have HB1 := Lib.hid (below1 w (.cells #[.int .i64 0, .slice none 0 0] 29))
  have x2 := box_new 29 w 0 none 0 0
  have h1 := h.below HB1.out
  have hs1 := size1 w (.cells #[.int .i64 0, .slice none 0 0] 29)
  obtain ⟨w1, hw1⟩ : ∃ w1, w1 = w.alloc (.cells #[.int .i64 0, .slice none 0 0] 29) := ⟨_, rfl⟩
  have HW1 := Lib.hid hw1
  rw [← hw1] at h1 x2 hs1
  have HB1' : Hid (Below w.heap.size w w1) := Lib.hid (by rw [hw1]; exact HB1.out)
  have HP := Lib.hid (pair_any 8 24 A n c bs w1 h1 hwf hn (by omega) (by omega) (by omega))
  clear hw1 HB1 h h1
  go_enter Tryd.func64, Tryd.ntmps64
  go_wp2_with fail
  rw [← HW1.out]
  refine HP.out.mono ?_
  rintro e w2 ⟨B, g, L, N, c1, A1, xs, k, c2, A2, us, rfl, hB, hL, hN, hwx, o1, hwu, hk, o2, s2, b2, hsep, hsep2⟩
  have HWX := Lib.hid hwx
  have HWU := Lib.hid hwu
  have hcp : N ≤ c1 ∧ k ≤ c2 ∧ (∀ q, A1.map (·.block) = some q → w.heap.size ≤ q) ∧ ∀ q, A2.map (·.block) = some q → w.heap.size ≤ q := ⟨own_capD o1, own_capD o2, fun q hq => by have := (o1.lt q hq).1; omega, fun q hq => by have := (o2.lt q hq).1; omega⟩
  have hlo1 : ∀ q, A1.map (·.block) = some q → w1.heap.size ≤ q ∧ q < w2.heap.size ∧ q ≠ g := fun q hq => ⟨(o1.lt q hq).1, (o1.lt q hq).2, (hsep q hq).2⟩
  have hlo2 : ∀ q, A2.map (·.block) = some q → w1.heap.size ≤ q ∧ q < w2.heap.size ∧ q ≠ g := fun q hq => ⟨(o2.lt q hq).1, (o2.lt q hq).2, hsep2 q hq⟩
  have sz2 := b2.size
  have x3 := x2.next b2
  have HB3 := below1 w2 (.cells #[.int .i64 L, .slice A1 N c1] 29)
  have hs3 := size1 w2 (.cells #[.int .i64 L, .slice A1 N c1] 29)
  have x4 := x3.next HB3
  have y4 := box_new 29 w2 L A1 N c1
  have o14 := o1.below HB3
  have o24 := o2.below HB3
  have s4 := s2.below HB3
  have hg1 := s2.1
  have hg2 := s2.lt
  have B4 : Hid (Below w.heap.size w (w2.alloc (.cells #[.int .i64 L, .slice A1 N c1] 29))) := Lib.hid ((HB1'.out.trans (b2.mono HB1'.out.size)).alloc (by omega) _)
  clear hwx hwu o1 o2 s2 b2 x2 x3 HB3 HP HW1 HB1' hsep
  have v0 := y4.c0
  have v1 := y4.c1
  have u0 := x4.c0
  have u1 := x4.c1
  have f0 := x4.fr 0
  have f1 := x4.fr 1
  go_wp2_with fail
  refine ret_gen (fun W => Box 29 W w.heap.size L A1 N c1 ∧ Rd W A1 N xs ∧ Rd W A2 k us ∧ Below w.heap.size w W) ⟨x4.set _ _ _ _, ?_, ?_, ?_⟩ ?_
  · exact rd_other (rd_other o14.rd _ _ _ (fun q hq => by have := hlo1 q hq; omega)) _ _ _ (fun q hq => by have := hlo1 q hq; omega)
  · exact rd_other (rd_other o24.rd _ _ _ (fun q hq => by have := hlo2 q hq; omega)) _ _ _ (fun q hq => by have := hlo2 q hq; omega)
  · exact (B4.out.setCell (p := ⟨w.heap.size, 0, none⟩) (Nat.le_refl _) _).setCell (p := ⟨w.heap.size, 1, none⟩) (Nat.le_refl _) _
  · rintro W ⟨x, r1, r2, bb⟩
    have e0 := x.c0
    have e1 := x.c1
    exact bodyPost_ret (v := .tuple #[.agg #[.int .i64 L, .slice A1 N c1], .slice A2 k c2]) (by simp [results, Tryd.results64, go_sem, e0, e1]) rfl ⟨_, _, _, _, _, _, _, _, _, rfl, hL, hN, HWX.out, r1, HWU.out, hk, r2, hcp, bb⟩
set_option maxHeartbeats 6400000 in
theorem dDrawProjectionOf_any (A : Option Addr) (n c : Nat) (bs : List Int) (w : World) (h : RdB w A n bs) (hwf : WfB bs) (hn : n ≤ 4096) :
    Calls Tryd.prog 120 #[.slice A n c] w (XwnPost w) := by
  have HB1 := Lib.hid (below1 w (.cells #[.int .i64 0, .slice none 0 0] 29))
  have x2 := box_new 29 w 0 none 0 0
  have h1 := h.below HB1.out
  have hs1 := size1 w (.cells #[.int .i64 0, .slice none 0 0] 29)
  obtain ⟨w1, hw1⟩ : ∃ w1, w1 = w.alloc (.cells #[.int .i64 0, .slice none 0 0] 29) := ⟨_, rfl⟩
  have HW1 := Lib.hid hw1
  rw [← hw1] at h1 x2 hs1
  have HB1' : Hid (Below w.heap.size w w1) := Lib.hid (by rw [hw1]; exact HB1.out)
  have HP := Lib.hid (pair_any 8 24 A n c bs w1 h1 hwf hn (by omega) (by omega) (by omega))
  clear hw1 HB1 h h1
  go_enter Tryd.func120, Tryd.ntmps120
  go_wp2_with fail
  rw [← HW1.out]
  refine HP.out.mono ?_
  rintro e w2 ⟨B, g, L, N, c1, A1, xs, k, c2, A2, us, rfl, hB, hL, hN, hwx, o1, hwu, hk, o2, s2, b2, hsep, hsep2⟩
  have HWX := Lib.hid hwx
  have HWU := Lib.hid hwu
  have hcp : N ≤ c1 ∧ k ≤ c2 ∧ (∀ q, A1.map (·.block) = some q → w.heap.size ≤ q) ∧ ∀ q, A2.map (·.block) = some q → w.heap.size ≤ q := ⟨own_capD o1, own_capD o2, fun q hq => by have := (o1.lt q hq).1; omega, fun q hq => by have := (o2.lt q hq).1; omega⟩
  have hlo1 : ∀ q, A1.map (·.block) = some q → w1.heap.size ≤ q ∧ q < w2.heap.size ∧ q ≠ g := fun q hq => ⟨(o1.lt q hq).1, (o1.lt q hq).2, (hsep q hq).2⟩
  have hlo2 : ∀ q, A2.map (·.block) = some q → w1.heap.size ≤ q ∧ q < w2.heap.size ∧ q ≠ g := fun q hq => ⟨(o2.lt q hq).1, (o2.lt q hq).2, hsep2 q hq⟩
  have sz2 := b2.size
  have x3 := x2.next b2
  have HB3 := below1 w2 (.cells #[.int .i64 L, .slice A1 N c1] 29)
  have hs3 := size1 w2 (.cells #[.int .i64 L, .slice A1 N c1] 29)
  have x4 := x3.next HB3
  have y4 := box_new 29 w2 L A1 N c1
  have o14 := o1.below HB3
  have o24 := o2.below HB3
  have s4 := s2.below HB3
  have hg1 := s2.1
  have hg2 := s2.lt
  have B4 : Hid (Below w.heap.size w (w2.alloc (.cells #[.int .i64 L, .slice A1 N c1] 29))) := Lib.hid ((HB1'.out.trans (b2.mono HB1'.out.size)).alloc (by omega) _)
  clear hwx hwu o1 o2 s2 b2 x2 x3 HB3 HP HW1 HB1' hsep
  obtain ⟨w4, hw4⟩ : ∃ w4, w4 = w2.alloc (.cells #[.int .i64 L, .slice A1 N c1] 29) := ⟨_, rfl⟩
  have HW4 := Lib.hid hw4
  rw [← hw4] at x4 y4 o14 o24 s4 B4 hs3
  clear hw4
  have HNX : Hid (∀ (ww : World) (k : Nat), Sou ww B g A n c bs → 1 ≤ k → k ≤ 1000 → Calls Tryd.prog 106 #[.pointer (some ⟨g, 0, none⟩), .int .i64 (k : Int)] ww fun e w' => ∃ r : Nat, r < k ∧ e = .returned (.int .i64 (r : Int)) ∧ Sou w' B g A n c bs ∧ ww.grownBy w' (some g)) := Lib.hid (fun ww k a1 a2 a3 => l01Next_any B g A n c k bs ww a1 hwf hn a2 (by omega))
  have HC := Lib.hid (HNX.out w4 20 s4 (by omega) (by omega))
  go_wp2_with fail
  rw [← HW4.out]
  go_wp2_with fail
  refine HC.out.mono ?_
  rintro e w5 ⟨r, hr, rfl, s5, g5⟩
  have sz5 := g5.size
  have x5 := x4.apart g5 (fun e => by injection e with e; omega)
  have y5 := y4.apart g5 (fun e => by injection e with e; omega)
  have o15 := o14.apart g5 (fun q hq e => by injection e with e; have := hlo1 q hq; omega)
  have o25 := o24.apart g5 (fun q hq e => by injection e with e; have := hlo2 q hq; omega)
  have B5 : Hid (Below w.heap.size w w5) := Lib.hid (B4.out.trans (below_of_gr g5 (by omega)))
  clear x4 y4 o14 o24 s4 B4 g5 HC HW4
  by_cases hr0 : r = 0
  · subst hr0
    have dr : ∀ o, Below w5.heap.size w5 ((w5.alloc o).drew) := fun o => (below1 w5 o).drew
    have dB := below_drew w5
    have LR : Rd ((w5.alloc (.cells #[.int .i64 (-1), .int .i64 256, .int .i64 1099511627776] 2)).drew) (some ⟨w5.heap.size, 0, none⟩) 3 [-1, 256, 1099511627776] := Own.rd (show Own 2 ((w5.alloc (.cells #[.int .i64 (-1), .int .i64 256, .int .i64 1099511627776] 2)).drew) w5.heap.size (some ⟨w5.heap.size, 0, none⟩) 3 3 [-1, 256, 1099511627776] from World.ownsRow.drew (World.ownsRow_lit w5 _ 3 (Nat.le_refl _) (by unfold maxLen; omega) rfl))
    have hsl := size1 w5 (.cells #[.int .i64 (-1), .int .i64 256, .int .i64 1099511627776] 2)
    have hsl2 : ((w5.alloc (.cells #[.int .i64 (-1), .int .i64 256, .int .i64 1099511627776] 2)).drew).heap.size = w5.heap.size + 1 := hsl
    have HPK := Lib.hid (pick_any B g A n c bs _ 3 3 _ _ (s5.below (dr (.cells #[.int .i64 (-1), .int .i64 256, .int .i64 1099511627776] 2))) hwf hn LR (by omega) (by omega) (fun q hq => by cases hq; show w5.heap.size ≠ g; omega))
    have d0 := y5.c0
    have d1 := y5.c1
    have l0 := (y5.next (dr (.cells #[.int .i64 (-1), .int .i64 256, .int .i64 1099511627776] 2))).c0
    have l1 := (y5.next (dr (.cells #[.int .i64 (-1), .int .i64 256, .int .i64 1099511627776] 2))).c1
    clear LR
    go_wp2_with fail
    go_region_held3 (fun w' => w'.cell? ⟨w2.heap.size, 0, none⟩ = some (.int .i64 L) ∧ w'.cell? ⟨w2.heap.size, 1, none⟩ = some (.slice A1 N c1)) (first | exact ⟨d0, d1⟩ | exact ⟨l0, l1⟩ | exact ⟨e0, e1⟩ | exact ⟨q0, q1⟩ | go_keep) (first | (go_at_call 179; (with_reducible refine (HPK.out).mono ?_); rintro e w6 ⟨v, hv, rfl, s6, g6⟩; have sz6 := g6.size; have x6 := (x5.next (dr (.cells #[.int .i64 (-1), .int .i64 256, .int .i64 1099511627776] 2))).apart g6 (fun e => by injection e with e; omega); have y6 := (y5.next (dr (.cells #[.int .i64 (-1), .int .i64 256, .int .i64 1099511627776] 2))).apart g6 (fun e => by injection e with e; omega); have e0 := y6.c0; have e1 := y6.c1; have bQ := (y6.other w.heap.size 0 (.int .i64 L) (by omega)).other w.heap.size 1 (.slice A1 N c1) (by omega); have q0 := bQ.c0; have q1 := bQ.c1; have u0 := x6.c0; have u1 := x6.c1; have f0 := x6.fr 0; have f1 := x6.fr 1))
    all_goals
      have o16 := (o15.below (dr (.cells #[.int .i64 (-1), .int .i64 256, .int .i64 1099511627776] 2))).apart g6 (fun q hq e => by injection e with e; have := hlo1 q hq; omega)
      have o26 := (o25.below (dr (.cells #[.int .i64 (-1), .int .i64 256, .int .i64 1099511627776] 2))).apart g6 (fun q hq e => by injection e with e; have := hlo2 q hq; omega)
      have B6 : Hid (Below w.heap.size w w6) := Lib.hid ((B5.out.trans ((dr (.cells #[.int .i64 (-1), .int .i64 256, .int .i64 1099511627776] 2)).mono B5.out.size)).trans (below_of_gr g6 (by omega)))
      have hvb : -9223372036854775808 ≤ v ∧ v ≤ 9223372036854775807 := by rcases pick3 hv with h9 | h9 | h9 <;> subst h9 <;> omega
      clear hv l0 l1 d0 d1 e0 e1 q0 q1 u0 u1 f0 f1 bQ dr dB HPK g6 x5 y5 o15 o25 s5 B5
      go_wp2_with fail
      refine ret_gen (fun W => Box 29 W w.heap.size L A1 N c1 ∧ Rd W A1 N xs ∧ Rd W A2 k us ∧ Below w.heap.size w W) ⟨x6.set _ _ _ _, ?_, ?_, ?_⟩ ?_
      · exact rd_other (rd_other o16.rd _ _ _ (fun q hq => by have := hlo1 q hq; omega)) _ _ _ (fun q hq => by have := hlo1 q hq; omega)
      · exact rd_other (rd_other o26.rd _ _ _ (fun q hq => by have := hlo2 q hq; omega)) _ _ _ (fun q hq => by have := hlo2 q hq; omega)
      · exact (B6.out.setCell (p := ⟨w.heap.size, 0, none⟩) (Nat.le_refl _) _).setCell (p := ⟨w.heap.size, 1, none⟩) (Nat.le_refl _) _
      · rintro W ⟨x, r1, r2, bb⟩
        have e0 := x.c0
        have e1 := x.c1
        exact bodyPost_ret (v := .tuple #[.agg #[.int .i64 L, .slice A1 N c1], .slice A2 k c2, .int .i64 v]) (by simp [results, Tryd.results120, go_sem, e0, e1]) rfl ⟨_, _, _, _, _, _, _, _, _, _, rfl, hL, hN, HWX.out, r1, HWU.out, hk, r2, hcp, hvb, bb⟩
  have hr1 : ((r : Int) == 0) = false := by simp; omega
  have HIS := Lib.hid (l02Is_any L A1 N c1 xs w5 o15.rd (by omega))
  have hlen := o15.len
  have d0 := y5.c0
  have d1 := y5.c1
  go_wp2_with fail
  refine HIS.out.mono ?_
  rintro e w6 ⟨rfl, b6⟩
  have sz6 := b6.size
  have x6 := x5.next b6
  have y6 := y5.next b6
  have o16 := o15.below b6
  have o26 := o25.below b6
  have s6 := s5.below b6
  have B6 : Hid (Below w.heap.size w w6) := Lib.hid (B5.out.trans (b6.mono B5.out.size))
  clear x5 y5 o15 o25 s5 B5 b6 HIS d0 d1
  have dB := below_drew w6
  have szD : w6.drew.heap.size = w6.heap.size := rfl
  have xD := x6.next dB
  have yD := y6.next dB
  have sD := s6.below dB
  have d0 := yD.c0
  have d1 := yD.c1
  have e0' := xD.c0
  have e1' := xD.c1
  cases hal : alphB L xs
  · have HC : Hid (Calls Tryd.prog 106 #[.pointer (some ⟨g, 0, none⟩), .int .i64 256] w6.drew fun e w' => ∃ r : Nat, r < 256 ∧ e = .returned (.int .i64 (r : Int)) ∧ Sou w' B g A n c bs ∧ w6.drew.grownBy w' (some g)) := Lib.hid (HNX.out w6.drew 256 sD (by omega) (by omega))
    go_wp2_with fail
    go_region_held3 (fun w' => w'.cell? ⟨w2.heap.size, 0, none⟩ = some (.int .i64 L) ∧ w'.cell? ⟨w2.heap.size, 1, none⟩ = some (.slice A1 N c1)) (first | exact ⟨d0, d1⟩ | exact ⟨e0, e1⟩ | exact ⟨q0, q1⟩ | go_keep) (first | (go_at_call 106; (with_reducible refine (HC.out).mono ?_); rintro e w7 ⟨v, hv, rfl, s7, g7⟩; have sz7 := g7.size; have x7 := xD.apart g7 (fun e => by injection e with e; omega); have y7 := yD.apart g7 (fun e => by injection e with e; omega); have e0 := y7.c0; have e1 := y7.c1; have bQ := (y7.other w.heap.size 0 (.int .i64 L) (by omega)).other w.heap.size 1 (.slice A1 N c1) (by omega); have q0 := bQ.c0; have q1 := bQ.c1; have u0 := x7.c0; have u1 := x7.c1; have f0 := x7.fr 0; have f1 := x7.fr 1))
    all_goals
      have o17 := (o16.below dB).apart g7 (fun q hq e => by injection e with e; have := hlo1 q hq; omega)
      have o27 := (o26.below dB).apart g7 (fun q hq e => by injection e with e; have := hlo2 q hq; omega)
      have B7 : Hid (Below w.heap.size w w7) := Lib.hid ((B6.out.trans (dB.mono B6.out.size)).trans (below_of_gr g7 (by omega)))
      clear d0 d1 e0 e1 q0 q1 u0 u1 f0 f1 bQ dB HC g7 x6 y6 o16 o26 s6 B6 xD yD sD e0' e1'
      go_wp2_with fail
      refine ret_gen (fun W => Box 29 W w.heap.size L A1 N c1 ∧ Rd W A1 N xs ∧ Rd W A2 k us ∧ Below w.heap.size w W) ⟨x7.set _ _ _ _, ?_, ?_, ?_⟩ ?_
      · exact rd_other (rd_other o17.rd _ _ _ (fun q hq => by have := hlo1 q hq; omega)) _ _ _ (fun q hq => by have := hlo1 q hq; omega)
      · exact rd_other (rd_other o27.rd _ _ _ (fun q hq => by have := hlo2 q hq; omega)) _ _ _ (fun q hq => by have := hlo2 q hq; omega)
      · exact (B7.out.setCell (p := ⟨w.heap.size, 0, none⟩) (Nat.le_refl _) _).setCell (p := ⟨w.heap.size, 1, none⟩) (Nat.le_refl _) _
      · rintro W ⟨x, r1, r2, bb⟩
        have e0 := x.c0
        have e1 := x.c1
        exact bodyPost_ret (v := .tuple #[.agg #[.int .i64 L, .slice A1 N c1], .slice A2 k c2, .int .i64 (v : Int)]) (by simp [results, Tryd.results120, go_sem, e0, e1]) rfl ⟨_, _, _, _, _, _, _, _, _, _, rfl, hL, hN, HWX.out, r1, HWU.out, hk, r2, hcp, ⟨by omega, by omega⟩, bb⟩
  obtain ⟨rs, rfl, rfl, h8, hrr, hrel, hl8, hd, _⟩ := alphB_nats L xs N hlen hal
  obtain ⟨P, hP⟩ : ∃ P, P = 2 ^ N := ⟨_, rfl⟩
  have hP8 : P ≤ 256 ∧ 1 ≤ P := by
    rw [hP]
    have h9 : 2 ^ N ≤ 2 ^ 8 := Nat.pow_le_pow_right (by decide) h8
    have h7 : (2 : Nat) ^ 8 = 256 := by decide
    exact ⟨by omega, Nat.one_le_two_pow⟩
  have HON : Hid (∀ ww : World, Calls Tryd.prog 76 #[.int .i64 (N : Int)] ww fun e w' => e = .returned (.int .i64 (P : Int)) ∧ ww = w') := Lib.hid (by rw [hP]; exact fun ww => one_any N (by omega) ww)
  have HC := Lib.hid (HNX.out w6.drew P sD hP8.2 (by omega))
  clear hP hal hrr hrel hl8 hd
  go_wp2_with fail
  go_region_held3 (fun w' => w'.cell? ⟨w2.heap.size, 0, none⟩ = some (.int .i64 (N : Int)) ∧ w'.cell? ⟨w2.heap.size, 1, none⟩ = some (.slice A1 N c1)) (first | exact ⟨d0, d1⟩ | exact ⟨e0, e1⟩ | exact ⟨q0, q1⟩ | go_keep) (first | (go_at_call 76; (with_reducible refine (HON.out _).mono ?_); rintro e w' ⟨rfl, rfl⟩) | (go_at_call 106; (with_reducible refine (HC.out).mono ?_); rintro e w7 ⟨v, hv, rfl, s7, g7⟩; have sz7 := g7.size; have x7 := xD.apart g7 (fun e => by injection e with e; omega); have y7 := yD.apart g7 (fun e => by injection e with e; omega); have e0 := y7.c0; have e1 := y7.c1; have bQ := (y7.other w.heap.size 0 (.int .i64 (N : Int)) (by omega)).other w.heap.size 1 (.slice A1 N c1) (by omega); have q0 := bQ.c0; have q1 := bQ.c1; have u0 := x7.c0; have u1 := x7.c1; have f0 := x7.fr 0; have f1 := x7.fr 1))
  all_goals
    have o17 := (o16.below dB).apart g7 (fun q hq e => by injection e with e; have := hlo1 q hq; omega)
    have o27 := (o26.below dB).apart g7 (fun q hq e => by injection e with e; have := hlo2 q hq; omega)
    have B7 : Hid (Below w.heap.size w w7) := Lib.hid ((B6.out.trans (dB.mono B6.out.size)).trans (below_of_gr g7 (by omega)))
    clear d0 d1 e0 e1 q0 q1 u0 u1 f0 f1 bQ dB HC g7 x6 y6 o16 o26 s6 B6 xD yD sD e0' e1'
    go_wp2_with fail
    refine ret_gen (fun W => Box 29 W w.heap.size (N : Int) A1 N c1 ∧ Rd W A1 N (ints rs) ∧ Rd W A2 k us ∧ Below w.heap.size w W) ⟨x7.set _ _ _ _, ?_, ?_, ?_⟩ ?_
    · exact rd_other (rd_other o17.rd _ _ _ (fun q hq => by have := hlo1 q hq; omega)) _ _ _ (fun q hq => by have := hlo1 q hq; omega)
    · exact rd_other (rd_other o27.rd _ _ _ (fun q hq => by have := hlo2 q hq; omega)) _ _ _ (fun q hq => by have := hlo2 q hq; omega)
    · exact (B7.out.setCell (p := ⟨w.heap.size, 0, none⟩) (Nat.le_refl _) _).setCell (p := ⟨w.heap.size, 1, none⟩) (Nat.le_refl _) _
    · rintro W ⟨x, r1, r2, bb⟩
      have e0 := x.c0
      have e1 := x.c1
      exact bodyPost_ret (v := .tuple #[.agg #[.int .i64 (N : Int), .slice A1 N c1], .slice A2 k c2, .int .i64 (v : Int)]) (by simp [results, Tryd.results120, go_sem, e0, e1]) rfl ⟨_, _, _, _, _, _, _, _, _, _, rfl, hL, hN, HWX.out, r1, HWU.out, hk, r2, hcp, ⟨by omega, by omega⟩, bb⟩
set_option maxHeartbeats 1600000 in
theorem dDrawPrefixIn_any (A : Option Addr) (n c : Nat) (bs : List Int) (w : World) (h : RdB w A n bs) (hwf : WfB bs) (hn : n ≤ 4096) :
    Calls Tryd.prog 58 #[.slice A n c] w (XwnPost w) := by
  have HB1 := Lib.hid (below1 w (.cells #[.int .i64 0, .slice none 0 0] 29))
  have x2 := box_new 29 w 0 none 0 0
  have h1 := h.below HB1.out
  have hs1 := size1 w (.cells #[.int .i64 0, .slice none 0 0] 29)
  obtain ⟨w1, hw1⟩ : ∃ w1, w1 = w.alloc (.cells #[.int .i64 0, .slice none 0 0] 29) := ⟨_, rfl⟩
  have HW1 := Lib.hid hw1
  rw [← hw1] at h1 x2 hs1
  have HB1' : Hid (Below w.heap.size w w1) := Lib.hid (by rw [hw1]; exact HB1.out)
  have HP := Lib.hid (dDrawProjectionOf_any A n c bs w1 h1 hwf hn)
  clear hw1 HB1 h h1
  go_enter Tryd.func58, Tryd.ntmps58
  go_wp2_with fail
  rw [← HW1.out]
  refine HP.out.mono ?_
  rintro e w2 ⟨L, N, c1, A1, xs, k, c2, A2, us, v, rfl, hL, hN, hwx, r1, hwu, hk, r2, ⟨hc1, hc2, hb1, hb2⟩, hv, b2⟩
  have HWX := Lib.hid hwx
  have HWU := Lib.hid hwu
  have sz2 := b2.size
  have x3 := x2.next b2
  have HB3 := below1 w2 (.cells #[.int .i64 L, .slice A1 N c1] 29)
  have x4 := x3.next HB3
  have y4 := box_new 29 w2 L A1 N c1
  have r14 := r1.below HB3
  have r24 := r2.below HB3
  have B4 : Hid (Below w.heap.size w (w2.alloc (.cells #[.int .i64 L, .slice A1 N c1] 29))) := Lib.hid ((HB1'.out.trans (b2.mono HB1'.out.size)).alloc (by omega) _)
  have v0 := y4.c0
  have v1 := y4.c1
  have u0 := x4.c0
  have u1 := x4.c1
  have f0 := x4.fr 0
  have f1 := x4.fr 1
  go_wp2_with fail
  refine ret_gen (fun W => Box 29 W w.heap.size L A1 N c1 ∧ Rd W A1 N xs ∧ Rd W A2 k us ∧ Below w.heap.size w W) ⟨x4.set _ _ _ _, ?_, ?_, ?_⟩ ?_
  · exact rd_other (rd_other r14 _ _ _ (fun q hq => by have := hb1 q hq; omega)) _ _ _ (fun q hq => by have := hb1 q hq; omega)
  · exact rd_other (rd_other r24 _ _ _ (fun q hq => by have := hb2 q hq; omega)) _ _ _ (fun q hq => by have := hb2 q hq; omega)
  · exact (B4.out.setCell (p := ⟨w.heap.size, 0, none⟩) (Nat.le_refl _) _).setCell (p := ⟨w.heap.size, 1, none⟩) (Nat.le_refl _) _
  · rintro W ⟨x, q1, q2, bb⟩
    have e0 := x.c0
    have e1 := x.c1
    exact bodyPost_ret (v := .tuple #[.agg #[.int .i64 L, .slice A1 N c1], .slice A2 k c2, .int .i64 v]) (by simp [results, Tryd.results58, go_sem, e0, e1]) rfl ⟨_, _, _, _, _, _, _, _, _, _, rfl, hL, hN, HWX.out, q1, HWU.out, hk, q2, ⟨hc1, hc2, fun q hq => by have := hb1 q hq; omega, fun q hq => by have := hb2 q hq; omega⟩, hv, bb⟩
theorem bigD_any (A : Option Addr) (n c : Nat) (w : World) :
    Calls Tryd.prog 44 #[.slice A n c] w fun e w' => e = .returned (.bool (decide ((4096 : Int) < (n : Int)))) ∧ w = w' := by
  go_enter Tryd.func44, Tryd.ntmps44
  go_wp2
  go_ret
  exact ⟨rfl, rfl⟩
end Go.Proofs.YtcojodkcpemfdaaDoor
