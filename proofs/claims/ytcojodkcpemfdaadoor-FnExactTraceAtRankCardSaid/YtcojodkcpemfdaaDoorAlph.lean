/-
  Alphabets as values: the laws' helpers, whether a value is an alphabet, the alphabet of a dependence: by contracts.
-/
import Derived.Test.YtcojodkcpemfdaaDoorAlMath
import Derived.Deep.RegionWith
import Derived.Deep.RegionLaw
namespace Go.Proofs.YtcojodkcpemfdaaDoor
open Go.RowKit
set_option linter.unusedVariables false
set_option maxRecDepth 100000

/-- A variable that holds an alphabet. -/
def Box (T : TypeId) (w : World) (g : Nat) (L : Int) (A : Option Addr) (n c : Nat) : Prop :=
  w.heap[g]? = some (.cells #[.int .i64 L, .slice A n c] T (0, 0))
theorem Box.lt {T : TypeId} {w : World} {g : Nat} {L : Int} {A : Option Addr} {n c : Nat} (h : Box T w g L A n c) : g < w.heap.size := by
  rcases Nat.lt_or_ge g w.heap.size with h' | h'
  · exact h'
  · unfold Box at h; rw [Array.getElem?_eq_none h'] at h; cases h
theorem Box.c0 {T : TypeId} {w : World} {g : Nat} {L : Int} {A : Option Addr} {n c : Nat} (h : Box T w g L A n c) : w.cell? ⟨g, 0, none⟩ = some (.int .i64 L) := by
  unfold Box at h; simp [World.cell?, h]
theorem Box.c1 {T : TypeId} {w : World} {g : Nat} {L : Int} {A : Option Addr} {n c : Nat} (h : Box T w g L A n c) : w.cell? ⟨g, 1, none⟩ = some (.slice A n c) := by
  unfold Box at h; simp [World.cell?, h]
theorem Box.fr {T : TypeId} {w : World} {g : Nat} {L : Int} {A : Option Addr} {n c : Nat} (h : Box T w g L A n c) (k : Nat) : w.frozen? ⟨g, k, none⟩ = false := by
  unfold Box at h; simp [World.frozen?, h]
theorem Box.below {T : TypeId} {w w' : World} {g B : Nat} {L : Int} {A : Option Addr} {n c : Nat} (h : Box T w g L A n c) (hb : Below B w w') (hg : g < B) : Box T w' g L A n c := by
  unfold Box; rw [hb.block g hg]; exact h
theorem Box.next {T : TypeId} {w w' : World} {g : Nat} {L : Int} {A : Option Addr} {n c : Nat} (h : Box T w g L A n c) (hb : Below w.heap.size w w') : Box T w' g L A n c := h.below hb h.lt
theorem Box.apart {T : TypeId} {w w' : World} {g : Nat} {L : Int} {A : Option Addr} {n c : Nat} {row : Option Nat} (h : Box T w g L A n c) (hg : w.grownBy w' row) (hne : row ≠ some g) : Box T w' g L A n c := by
  unfold Box; rw [hg.block g h.lt (fun e => hne e.symm)]; exact h
theorem box_new (T : TypeId) (w : World) (L : Int) (A : Option Addr) (n c : Nat) : Box T (w.alloc (.cells #[.int .i64 L, .slice A n c] T)) w.heap.size L A n c := by
  unfold Box; exact heap_alloc_new w _

/-- What a function that answers an alphabet, or a list, and a code leaves. -/
def AlPost (w : World) (VL : Int) (VN : Nat) (VX : List Int) (C : Int) (e : Ending) (w' : World) : Prop :=
  ∃ A c, e = .returned (.tuple #[.agg #[.int .i64 VL, .slice A VN c], .int .i64 C]) ∧ Own 2 w' w.heap.size A VN c VX ∧ Below w.heap.size w w'
def LsPost (w : World) (VN : Nat) (VX : List Int) (C : Int) (e : Ending) (w' : World) : Prop :=
  ∃ A c, e = .returned (.tuple #[.slice A VN c, .int .i64 C]) ∧ Own 2 w' w.heap.size A VN c VX ∧ Below w.heap.size w w'
theorem heap_put {w : World} {g k : Nat} {cs : Array Value} {T : TypeId} (h : w.heap[g]? = some (.cells cs T (0, 0))) (v : Value) : (w.setCell ⟨g, k, none⟩ v).heap[g]? = some (.cells (cs.setIfInBounds k v) T (0, 0)) := by
  simp [World.setCell, Array.getElem?_modify, h]
theorem Box.set1 {T : TypeId} {w : World} {g : Nat} {L : Int} {A : Option Addr} {n c : Nat} (h : Box T w g L A n c) (A' : Option Addr) (n' c' : Nat) : Box T (w.setCell ⟨g, 1, none⟩ (.slice A' n' c')) g L A' n' c' := by
  unfold Box at h ⊢; rw [heap_put h]; rfl
theorem Box.set0 {T : TypeId} {w : World} {g : Nat} {L : Int} {A : Option Addr} {n c : Nat} (h : Box T w g L A n c) (L' : Int) : Box T (w.setCell ⟨g, 0, none⟩ (.int .i64 L')) g L' A n c := by
  unfold Box at h ⊢; rw [heap_put h]; rfl
theorem Box.set {T : TypeId} {w : World} {g : Nat} {L : Int} {A : Option Addr} {n c : Nat} (h : Box T w g L A n c) (L' : Int) (A' : Option Addr) (n' c' : Nat) : Box T ((w.setCell ⟨g, 0, none⟩ (.int .i64 L')).setCell ⟨g, 1, none⟩ (.slice A' n' c')) g L' A' n' c' := (h.set0 L').set1 A' n' c'
theorem Box.other {T : TypeId} {w : World} {g : Nat} {L : Int} {A : Option Addr} {n c : Nat} (h : Box T w g L A n c) (b k : Nat) (v : Value) (hne : g ≠ b) : Box T (w.setCell ⟨b, k, none⟩ v) g L A n c := by
  unfold Box; rw [Below.heap_setCell w _ v g (fun e => hne e)]; exact h
theorem own_other {E : TypeId} {w : World} {B : Nat} {A : Option Addr} {n c : Nat} {xs : List Int} (h : Own E w B A n c xs) (b k : Nat) (v : Value) (hne : ∀ q, A.map (·.block) = some q → q ≠ b) : Own E (w.setCell ⟨b, k, none⟩ v) B A n c xs :=
  h.apart (row := some b) (grown_set (World.grownBy.refl _ _) k v) (fun q hq e => hne q hq (by injection e with e; exact e.symm))
theorem ret_gen {P : Program} {fn : Func} {R : Ending → World → Prop} {a : Act} {W : World} (Q : World → Prop) (hq : Q W) (h : ∀ W, Q W → bodyPost P fn R .ret a W) : bodyPost P fn R .ret a W := h W hq
theorem sz1_any (A : Option Addr) (n c m : Nat) (w : World) (hn : n ≤ m) (hm : m ≤ 1048576) :
    Calls Tryd.prog 69 #[.slice A n c, .int .i64 (m : Int)] w fun e w' => e = .returned (.int .i64 ((m - n : Nat) : Int)) ∧ w = w' := by
  have h2 : wrap64 ((m : Int) - (n : Int)) = ((m - n : Nat) : Int) := by unfold wrap64; omega
  go_enter Tryd.func69, Tryd.ntmps69
  go_wp2
  go_ret
  exact ⟨ret_i _ _ (by omega), rfl⟩
theorem sz_any (L : Int) (A : Option Addr) (n c m : Nat) (w : World) (hn : n ≤ m) (hm : m ≤ 1048576) :
    Calls Tryd.prog 15 #[.agg #[.int .i64 L, .slice A n c], .int .i64 (m : Int)] w fun e w' => e = .returned (.int .i64 ((m - n : Nat) : Int)) ∧ Below w.heap.size w w' := by
  go_enter Tryd.func15, Tryd.ntmps15
  go_wp2_with fail
  refine (sz1_any _ _ _ _ _ hn hm).mono ?_
  rintro e w1 ⟨rfl, rfl⟩
  go_wp2
  go_ret
  exact ⟨rfl, (Below.refl _ _).alloc (Nat.le_refl _) _⟩
theorem sz_law (L : Int) (A : Option Addr) (n c : Nat) (w : World) (hn : n ≤ 1048576) :
    Calls Tryd.prog 15 #[.agg #[.int .i64 L, .slice A n c], .int .i64 1048576] w fun e w' => e = .returned (.int .i64 ((1048576 - n : Nat) : Int)) ∧ Below w.heap.size w w' :=
  sz_any L A n c 1048576 w hn (Nat.le_refl _)
theorem szno_any (L : Int) (A : Option Addr) (n c : Nat) (w : World) (hn : 1048576 < n) (hm : n ≤ 9223372036854775807) :
    Calls Tryd.prog 15 #[.agg #[.int .i64 L, .slice A n c], .int .i64 1048576] w fun e w' => e = .returned (.int .i64 (-1)) ∧ Below w.heap.size w w' := by
  have h2 : wrap64 ((1048576 : Int) - (n : Int)) = 1048576 - (n : Int) := by unfold wrap64; omega
  have h3 : Calls Tryd.prog 69 #[.slice A n c, .int .i64 1048576] (w.alloc (.cells #[.int .i64 L, .slice A n c] 24)) fun e w' => e = .returned (.int .i64 (-1)) ∧ (w.alloc (.cells #[.int .i64 L, .slice A n c] 24)) = w' := by
    go_enter Tryd.func69, Tryd.ntmps69
    go_wp2
    go_ret
    exact ⟨rfl, rfl⟩
  go_enter Tryd.func15, Tryd.ntmps15
  go_wp2_with fail
  refine h3.mono ?_
  rintro e w1 ⟨rfl, rfl⟩
  go_wp2
  go_ret
  exact ⟨rfl, (Below.refl _ _).alloc (Nat.le_refl _) _⟩
theorem toAl_any (L : Int) (A : Option Addr) (n c : Nat) (xs : List Int) (w : World) (h : Rd w A n xs) (hn : n ≤ 1048576) :
    Calls Tryd.prog 18 #[.agg #[.int .i64 L, .slice A n c]] w fun e w' => ∃ g c', e = .returned (.agg #[.int .i64 L, .slice (some ⟨g, 0, none⟩) n c']) ∧ w.heap.size ≤ g ∧ Own 2 w' w.heap.size (some ⟨g, 0, none⟩) n c' xs ∧ Below w.heap.size w w' := by
  go_enter Tryd.func18, Tryd.ntmps18
  go_wp2_with fail
  have hB3 : Below w.heap.size w (((w.alloc (.cells #[.int .i64 L, .slice A n c] 24)).alloc (.cells #[.int .i64 0, .slice none 0 0] 29)).alloc (.cells #[.int .i64 L, .slice none 0 0] 29)) := (((Below.refl _ _).alloc (Nat.le_refl _) _).alloc (by simp) _).alloc (by simp; omega) _
  refine (toInt_any _ _ _ xs _ (h.below hB3) hn).mono ?_
  rintro e w1 ⟨c', rfl, ho, hb⟩
  have x2 : Box 29 w1 (w.heap.size + 1 + 1) L none 0 0 := by
    have := (box_new 29 ((w.alloc (.cells #[.int .i64 L, .slice A n c] 24)).alloc (.cells #[.int .i64 0, .slice none 0 0] 29)) L none 0 0).next hb
    simpa using this
  have x1 : Box 29 w1 (w.heap.size + 1) 0 none 0 0 := by
    have := ((box_new 29 (w.alloc (.cells #[.int .i64 L, .slice A n c] 24)) 0 none 0 0).next ((Below.refl _ _).alloc (Nat.le_refl _) _)).next hb
    simpa using this
  have y0 := x2.c0
  have y1 := x2.c1
  have yf := x2.fr 1
  have z0 := x1.c0
  have z1 := x1.c1
  have zf0 := x1.fr 0
  have zf1 := x1.fr 1
  go_wp2
  have hs : ∀ w0 : World, w0 = (((w.alloc (.cells #[.int .i64 L, .slice A n c] 24)).alloc (.cells #[.int .i64 0, .slice none 0 0] 29)).alloc (.cells #[.int .i64 L, .slice none 0 0] 29)) → w0.heap.size = w.heap.size + 1 + 1 + 1 := by rintro _ rfl; simp
  rw [hs _ rfl] at ho
  refine ret_gen (fun W => Box 29 W (w.heap.size + 1) L (some ⟨w.heap.size + 1 + 1 + 1, 0, none⟩) n c' ∧ Own 2 W w.heap.size (some ⟨w.heap.size + 1 + 1 + 1, 0, none⟩) n c' xs ∧ Below w.heap.size w W) ⟨(x1.other _ _ _ (by omega)).set _ _ _ _, ?_, ?_⟩ ?_
  · exact own_other (own_other (own_other (ho.mono (by omega)) _ _ _ (by intro q hq; cases hq; show ¬ w.heap.size + 1 + 1 + 1 = _; omega)) _ _ _ (by intro q hq; cases hq; show ¬ w.heap.size + 1 + 1 + 1 = _; omega)) _ _ _ (by intro q hq; cases hq; show ¬ w.heap.size + 1 + 1 + 1 = _; omega)
  · exact (((hB3.trans (hb.mono hB3.size)).setCell (p := ⟨w.heap.size + 1 + 1, 1, none⟩) (by show w.heap.size ≤ w.heap.size + 1 + 1; omega) _).setCell (p := ⟨w.heap.size + 1, 0, none⟩) (by show w.heap.size ≤ w.heap.size + 1; omega) _).setCell (p := ⟨w.heap.size + 1, 1, none⟩) (by show w.heap.size ≤ w.heap.size + 1; omega) _
  · rintro W ⟨x, o, b⟩
    have e0 := x.c0
    have e1 := x.c1
    exact bodyPost_ret (v := .agg #[.int .i64 L, .slice (some ⟨w.heap.size + 1 + 1 + 1, 0, none⟩) n c']) (by simp [results, Tryd.results18, go_sem, e0, e1]) rfl ⟨_, _, rfl, by omega, o, b⟩
theorem grown_any {w w' : World} (h : w.grownBy w' none) (row : Option Nat) : w.grownBy w' row := ⟨h.os, h.tape, h.output, h.size, fun k hk _ => h.block k hk (by simp)⟩
theorem below1 (w : World) (o1 : Obj) : Below w.heap.size w (w.alloc o1) := (Below.refl _ _).alloc (Nat.le_refl _) o1
theorem below2 (w : World) (o1 o2 : Obj) : Below w.heap.size w ((w.alloc o1).alloc o2) := (below1 w o1).alloc (by simp) o2
theorem eqAl_true (L : Int) (A B : Option Addr) (n c d : Nat) (xs : List Int) (w : World) (h : Rd w A n xs) (h2 : Rd w B n xs) (hn : n ≤ 9223372036854775807) :
    Calls Tryd.prog 21 #[.agg #[.int .i64 L, .slice A n c], .agg #[.int .i64 L, .slice B n d]] w fun e w' => e = .returned (.bool true) ∧ Below w.heap.size w w' := by
  have hB := below2 w (.cells #[.int .i64 L, .slice A n c] 29) (.cells #[.int .i64 L, .slice B n d] 29)
  go_enter Tryd.func21, Tryd.ntmps21
  go_wp2_with fail
  refine (eq_true _ _ _ _ _ xs _ (h.below hB) (h2.below hB) hn).mono ?_
  rintro e w1 ⟨rfl, hb⟩
  go_wp2
  go_ret
  exact ⟨rfl, hB.trans (hb.mono hB.size)⟩
theorem markAl_any (E B : Nat) (L : Int) (A : Option Addr) (n c k : Nat) (xs : List Int) (w : World) (h : Own E w B A n c xs) (hn : n ≤ 1048576) (hk : k ≤ 1073741824) :
    Calls Tryd.prog 27 #[.agg #[.int .i64 L, .slice A n c], .int .i64 (k : Int)] w fun e w' => e = .returned (.int .i64 ((k + n : Nat) : Int)) ∧ Own E w' B A n c (marks k n) ∧ w.grownBy w' (A.map (·.block)) := by
  have hB := below1 w (.cells #[.int .i64 L, .slice A n c] 29)
  go_enter Tryd.func27, Tryd.ntmps27
  go_wp2_with fail
  refine (mark_any E B _ _ _ k xs _ (h.below hB) hn hk).mono ?_
  rintro e w1 ⟨rfl, ho, hg⟩
  go_wp2
  go_ret
  exact ⟨rfl, ho, (grown_any (grownBy_of_below hB) _).trans hg⟩
end Go.Proofs.YtcojodkcpemfdaaDoor
