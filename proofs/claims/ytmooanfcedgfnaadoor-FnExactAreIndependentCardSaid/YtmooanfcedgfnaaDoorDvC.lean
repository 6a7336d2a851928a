/-
  Division: the program's comparison of two words, by a contract; quotients.
-/
import Derived.Test.YtmooanfcedgfnaaDoorDvI
import Derived.Deep.AppendLies
namespace Go.Proofs.YtmooanfcedgfnaaDoor
open Go Go.RowKit
set_option linter.unusedVariables false
set_option maxRecDepth 100000

/-- A variable that holds a comparison: three slices. -/
def CBox (w : World) (g : Nat) (A0 : Option Addr) (n0 c0 : Nat) (A1 : Option Addr) (n1 c1 : Nat) (A2 : Option Addr) (n2 c2 : Nat) : Prop := w.heap[g]? = some (.cells #[.slice A0 n0 c0, .slice A1 n1 c1, .slice A2 n2 c2] 66 (0, 0))
section
variable {w w' : World} {g n0 k0 n1 k1 n2 k2 : Nat} {A0 A1 A2 : Option Addr}
theorem CBox.lt (h : CBox w g A0 n0 k0 A1 n1 k1 A2 n2 k2) : g < w.heap.size := (Array.getElem?_eq_some_iff.1 h).1
theorem CBox.c0 (h : CBox w g A0 n0 k0 A1 n1 k1 A2 n2 k2) : w.cell? ⟨g, 0, none⟩ = some (.slice A0 n0 k0) := by unfold CBox at h; unfold World.cell?; rw [h]; rfl
theorem CBox.c1 (h : CBox w g A0 n0 k0 A1 n1 k1 A2 n2 k2) : w.cell? ⟨g, 1, none⟩ = some (.slice A1 n1 k1) := by unfold CBox at h; unfold World.cell?; rw [h]; rfl
theorem CBox.c2 (h : CBox w g A0 n0 k0 A1 n1 k1 A2 n2 k2) : w.cell? ⟨g, 2, none⟩ = some (.slice A2 n2 k2) := by unfold CBox at h; unfold World.cell?; rw [h]; rfl
theorem CBox.fr (h : CBox w g A0 n0 k0 A1 n1 k1 A2 n2 k2) (k : Nat) : w.frozen? ⟨g, k, none⟩ = false := by unfold CBox at h; simp [World.frozen?, h]
theorem CBox.next (h : CBox w g A0 n0 k0 A1 n1 k1 A2 n2 k2) (hb : Below w.heap.size w w') : CBox w' g A0 n0 k0 A1 n1 k1 A2 n2 k2 := (hb.block g h.lt).trans h
theorem CBox.under {B : Nat} (h : CBox w g A0 n0 k0 A1 n1 k1 A2 n2 k2) (hb : Below B w w') (hg : g < B) : CBox w' g A0 n0 k0 A1 n1 k1 A2 n2 k2 := (hb.block g hg).trans h
theorem CBox.apart {row : Option Nat} (h : CBox w g A0 n0 k0 A1 n1 k1 A2 n2 k2) (hg : w.grownBy w' row) (hne : row ≠ some g) : CBox w' g A0 n0 k0 A1 n1 k1 A2 n2 k2 := (hg.block g h.lt (fun e => hne e.symm)).trans h
theorem CBox.set0 (h : CBox w g A0 n0 k0 A1 n1 k1 A2 n2 k2) (A' : Option Addr) (k k' : Nat) : CBox (w.setCell ⟨g, 0, none⟩ (.slice A' k k')) g A' k k' A1 n1 k1 A2 n2 k2 := by unfold CBox at h ⊢; rw [heap_put h]; rfl
theorem CBox.set1 (h : CBox w g A0 n0 k0 A1 n1 k1 A2 n2 k2) (A' : Option Addr) (k k' : Nat) : CBox (w.setCell ⟨g, 1, none⟩ (.slice A' k k')) g A0 n0 k0 A' k k' A2 n2 k2 := by unfold CBox at h ⊢; rw [heap_put h]; rfl
theorem CBox.set2 (h : CBox w g A0 n0 k0 A1 n1 k1 A2 n2 k2) (A' : Option Addr) (k k' : Nat) : CBox (w.setCell ⟨g, 2, none⟩ (.slice A' k k')) g A0 n0 k0 A1 n1 k1 A' k k' := by unfold CBox at h ⊢; rw [heap_put h]; rfl
end
theorem cbox_new (w : World) (A0 : Option Addr) (n0 c0 : Nat) (A1 : Option Addr) (n1 c1 : Nat) (A2 : Option Addr) (n2 c2 : Nat) : CBox (w.alloc (.cells #[.slice A0 n0 c0, .slice A1 n1 c1, .slice A2 n2 c2] 66)) w.heap.size A0 n0 c0 A1 n1 c1 A2 n2 c2 := World.alloc_heap_new w _
theorem Rd.apart {w w' : World} {A : Option Addr} {n : Nat} {xs : List Int} {row : Option Nat} (h : Rd w A n xs) (hg : w.grownBy w' row) (hne : 0 < n → ∀ b, A.map (·.block) = some b → row ≠ some b) : Rd w' A n xs :=
  ⟨h.1, fun hn => by
    obtain ⟨b, off, rfl, hb, hc⟩ := h.2 hn
    refine ⟨b, off, rfl, Nat.lt_of_lt_of_le hb hg.size, fun j x hx => ?_⟩
    rw [World.cell?_of_block (hg.block b hb (fun e => hne hn b rfl e.symm))]
    exact hc j x hx⟩
theorem Rd.other {w : World} {A : Option Addr} {n : Nat} {xs : List Int} (h : Rd w A n xs) (g k : Nat) (v : Value) (hne : 0 < n → ∀ b, A.map (·.block) = some b → b ≠ g) : Rd (w.setCell ⟨g, k, none⟩ v) A n xs :=
  ⟨h.1, fun hn => by
    obtain ⟨b, off, rfl, hb, hc⟩ := h.2 hn
    refine ⟨b, off, rfl, by rw [World.size_setCell]; exact hb, fun j x hx => ?_⟩
    rw [← hc j x hx]
    exact World.cell?_of_block (Below.heap_setCell w ⟨g, k, none⟩ v b (hne hn b rfl))⟩
/-- The state of the comparison: what is taken, what is passed over, what is left. -/
structure CSt (w : World) (tb : Nat) (A0 A1 A2 : Option Addr) (n0 c0 n1 c1 n2 c2 : Nat) (p f s : List Nat) : Prop where
  x : CBox w tb A0 n0 c0 A1 n1 c1 A2 n2 c2
  o0 : Own 2 w (tb + 1) A0 n0 c0 (ints p)
  o1 : Own 2 w (tb + 1) A1 n1 c1 (ints f)
  r2 : Rd w A2 n2 (ints s)
  le : n2 ≤ c2
  s01 : ∀ b, A0.map (·.block) = some b → A1.map (·.block) ≠ some b
  off : 0 < n2 → ∀ b, A2.map (·.block) = some b → b < w.heap.size ∧ A0.map (·.block) ≠ some b ∧ A1.map (·.block) ≠ some b ∧ (b + 1 < tb ∨ tb < b)
theorem CSt.below {w w' : World} {tb : Nat} {A0 A1 A2 : Option Addr} {n0 c0 n1 c1 n2 c2 : Nat} {p f s : List Nat} (h : CSt w tb A0 A1 A2 n0 c0 n1 c1 n2 c2 p f s) (hb : Below w.heap.size w w') : CSt w' tb A0 A1 A2 n0 c0 n1 c1 n2 c2 p f s :=
  ⟨h.x.next hb, h.o0.below hb, h.o1.below hb, h.r2.below hb, h.le, h.s01, fun hn b hA => ⟨Nat.lt_of_lt_of_le (h.off hn b hA).1 hb.size, (h.off hn b hA).2⟩⟩
theorem ownBlock_of {A : Option Addr} {n c q : Nat} (h : A.map (·.block) = some q) : (Value.slice A n c).ownBlock = some q := by
  cases A with
  | none => cases h
  | some a => exact h
/-- One letter more is passed over. -/
theorem CSt.pass {w w4 : World} {o : Obj} {tb g cap a : Nat} {A0 A1 A2 : Option Addr} {n0 c0 n1 c1 n2 c2 : Nat} {p f s : List Nat} (h : CSt w tb A0 A1 A2 n0 c0 n1 c1 n2 c2 p f s)
    (hown : w4.ownsRow (tb + 1) 2 1 (.slice (some ⟨g, 0, none⟩) (n1 + 1) cap) (n1 + 1) ((ints f).map (Value.int .i64) ++ [.int .i64 (a : Int)]))
    (hg : (w.alloc o).grownBy w4 (Value.slice A1 n1 c1).ownBlock) (hat : (Value.slice A1 n1 c1).ownBlock = some g ∨ g = w.heap.size + 1) (hlt : g < w4.heap.size) :
    CSt (w4.setCell ⟨tb, 1, none⟩ (.slice (some ⟨g, 0, none⟩) (n1 + 1) cap)) tb A0 (some ⟨g, 0, none⟩) A2 n0 c0 (n1 + 1) cap n2 c2 p (f ++ [a]) s ∧ Below tb w (w4.setCell ⟨tb, 1, none⟩ (.slice (some ⟨g, 0, none⟩) (n1 + 1) cap)) := by
  have ha : Below w.heap.size w (w.alloc o) := below1 w o
  have h' := h.below ha
  have htb := h.x.lt
  have hgt : tb < g := by
    rcases hat with e | e
    · have := (h.o1.lt g (ownBlock_map' e)).1; omega
    · omega
  have hrow : ∀ r, (Value.slice A1 n1 c1).ownBlock = some r → tb + 1 ≤ r ∧ A1.map (·.block) = some r := fun r e => ⟨(h.o1.lt r (ownBlock_map' e)).1, ownBlock_map' e⟩
  have x4 := h'.x.apart hg (fun e => by have := (hrow tb e).1; omega)
  have o0 : Own 2 w4 (tb + 1) A0 n0 c0 (ints p) := h'.o0.apart hg (fun k hk e => h.s01 k hk (hrow k e).2)
  have r2 : Rd w4 A2 n2 (ints s) := h'.r2.apart hg (fun hn b hb e => (h.off hn b hb).2.2.1 (hrow b e).2)
  rw [ints_snoc_map] at hown
  have o1 : Own 2 w4 (tb + 1) (some ⟨g, 0, none⟩) (n1 + 1) cap (ints (f ++ [a])) := hown
  have hgn : ∀ b, A0.map (·.block) = some b → b ≠ g := fun b hb e => by
    rcases hat with e1 | e1
    · exact h.s01 b hb (by rw [e]; exact ownBlock_map' e1)
    · have := (h.o0.lt b hb).2; omega
  refine ⟨⟨x4.set1 _ _ _, own_other o0 _ _ _ (fun q hq => by have := (h.o0.lt q hq).1; omega), own_other o1 _ _ _ (fun q hq => by cases hq; show g ≠ tb; omega), r2.other _ _ _ (fun hn b hb => by have := (h.off hn b hb).2.2.2; omega), h.le, fun b hb e => hgn b hb (by injection e with e; exact e.symm), fun hn b hb => ?_⟩, ?_⟩
  · obtain ⟨g1, g2, g3, g4⟩ := h.off hn b hb
    refine ⟨by rw [World.size_setCell]; have := hg.size; simp at this; omega, g2, fun e => ?_, g4⟩
    injection e with e
    have e' : g = b := e
    rcases hat with e1 | e1
    · exact g3 (by rw [← e']; exact ownBlock_map' e1)
    · omega
  · exact (((ha.mono (Nat.le_of_lt htb)).grown hg (by have := ha.size; omega) (fun r e => by have := (hrow r e).1; omega))).setCell (p := ⟨tb, 1, none⟩) (Nat.le_refl _) _
/-- One letter more is taken from both. -/
theorem CSt.take {w0 w w4 : World} {o : Obj} {tb g cap a n3 c3 : Nat} {A0 A1 A2 A3 : Option Addr} {n0 c0 n1 c1 n2 c2 : Nat} {p f s s3 : List Nat} (h0 : CSt w0 tb A0 A1 A2 n0 c0 n1 c1 n2 c2 p f s)
    (hb0 : Below w0.heap.size w0 w) (o3 : Own 2 w w0.heap.size A3 n3 c3 (ints s3))
    (hown : w4.ownsRow (tb + 1) 2 1 (.slice (some ⟨g, 0, none⟩) (n0 + 1) cap) (n0 + 1) ((ints p).map (Value.int .i64) ++ [.int .i64 (a : Int)]))
    (hg : (w.alloc o).grownBy w4 (Value.slice A0 n0 c0).ownBlock) (hat : (Value.slice A0 n0 c0).ownBlock = some g ∨ g = w.heap.size + 1) (hlt : g < w4.heap.size) :
    CSt ((w4.setCell ⟨tb, 0, none⟩ (.slice (some ⟨g, 0, none⟩) (n0 + 1) cap)).setCell ⟨tb, 2, none⟩ (.slice A3 n3 c3)) tb (some ⟨g, 0, none⟩) A1 A3 (n0 + 1) cap n1 c1 n3 c3 (p ++ [a]) f s3 ∧ Below tb w0 ((w4.setCell ⟨tb, 0, none⟩ (.slice (some ⟨g, 0, none⟩) (n0 + 1) cap)).setCell ⟨tb, 2, none⟩ (.slice A3 n3 c3)) := by
  have h := h0.below hb0
  have ha : Below w.heap.size w (w.alloc o) := below1 w o
  have h' := h.below ha
  have htb := h0.x.lt
  have hsz := hb0.size
  have hgt : tb < g := by
    rcases hat with e | e
    · have := (h.o0.lt g (ownBlock_map' e)).1; omega
    · omega
  have hrow : ∀ r, (Value.slice A0 n0 c0).ownBlock = some r → tb + 1 ≤ r ∧ r < w0.heap.size ∧ A0.map (·.block) = some r := fun r e => ⟨(h.o0.lt r (ownBlock_map' e)).1, (h0.o0.lt r (ownBlock_map' e)).2, ownBlock_map' e⟩
  have x4 := h'.x.apart hg (fun e => by have := (hrow tb e).1; omega)
  have o1 : Own 2 w4 (tb + 1) A1 n1 c1 (ints f) := h'.o1.apart hg (fun k hk e => h.s01 k (hrow k e).2.2 hk)
  have o3' : Own 2 w4 w0.heap.size A3 n3 c3 (ints s3) := (o3.below ha).apart hg (fun k hk e => by have := (hrow k e).2.1; have := (o3.lt k hk).1; omega)
  rw [ints_snoc_map] at hown
  have o0 : Own 2 w4 (tb + 1) (some ⟨g, 0, none⟩) (n0 + 1) cap (ints (p ++ [a])) := hown
  have hgn : ∀ b, A1.map (·.block) = some b → b ≠ g := fun b hb e => by
    rcases hat with e1 | e1
    · exact h.s01 b (by rw [e]; exact ownBlock_map' e1) hb
    · have := (h.o1.lt b hb).2; omega
  have hg3 : ∀ b, A3.map (·.block) = some b → b ≠ g := fun b hb e => by
    rcases hat with e1 | e1
    · have := (hrow g e1).2.1; have := (o3.lt b hb).1; omega
    · have := (o3.lt b hb).2; omega
  have hn1 : ∀ q, A1.map (·.block) = some q → q ≠ tb := fun q hq => by have := (h.o1.lt q hq).1; omega
  have hn3 : ∀ q, A3.map (·.block) = some q → q ≠ tb := fun q hq => by have := (o3.lt q hq).1; omega
  have hn0 : ∀ q, (some (⟨g, 0, none⟩ : Addr)).map (·.block) = some q → q ≠ tb := fun q hq => by cases hq; show g ≠ tb; omega
  refine ⟨⟨(x4.set0 _ _ _).set2 _ _ _, own_other (own_other o0 _ _ _ hn0) _ _ _ hn0, own_other (own_other o1 _ _ _ hn1) _ _ _ hn1, (own_other (own_other o3' _ _ _ hn3) _ _ _ hn3).rd, own_cap o3, fun b hb e => hgn b e (by injection hb with hb; exact hb.symm), fun hn b hb => ?_⟩, ?_⟩
  · refine ⟨by rw [World.size_setCell, World.size_setCell]; exact (o3'.lt b hb).2, fun e => ?_, fun e => ?_, .inr (by have := (o3.lt b hb).1; omega)⟩
    · injection e with e
      exact hg3 b hb e.symm
    · have := (o3.lt b hb).1; have := (h0.o1.lt b e).2; omega
  · exact ((((hb0.trans (ha.mono hsz)).mono (Nat.le_of_lt htb)).grown hg (by have := ha.size; omega) (fun r e => by have := (hrow r e).1; omega)).setCell (p := ⟨tb, 0, none⟩) (Nat.le_refl _) _).setCell (p := ⟨tb, 2, none⟩) (Nat.le_refl _) _
theorem CSt.mid {w w4 : World} {o : Obj} {tb : Nat} {A0 A1 A2 : Option Addr} {n0 c0 n1 c1 n2 c2 : Nat} {p f s : List Nat} (h : CSt w tb A0 A1 A2 n0 c0 n1 c1 n2 c2 p f s) {A : Option Addr} {n' c' : Nat} (hA : A = A0 ∨ A = A1) (hg : (w.alloc o).grownBy w4 (Value.slice A n' c').ownBlock) : CBox w4 tb A0 n0 c0 A1 n1 c1 A2 n2 c2 :=
  (h.x.next (below1 w o)).apart hg (fun e => by
    have e1 := ownBlock_map' e
    rcases hA with rfl | rfl
    · have := (h.o0.lt tb e1).1; omega
    · have := (h.o1.lt tb e1).1; omega)
def CmpPost (D : Nat → Nat → Bool) (us vs : List Nat) (w : World) (e : Ending) (w' : World) : Prop :=
  ∃ A0 c0 A1 c1 A2 c2, e = .returned (.agg #[.slice A0 (cmpM D us vs).1.length c0, .slice A1 (cmpM D us vs).2.1.length c1, .slice A2 (cmpM D us vs).2.2.length c2]) ∧ Rd w' A0 (cmpM D us vs).1.length (ints (cmpM D us vs).1) ∧ Rd w' A1 (cmpM D us vs).2.1.length (ints (cmpM D us vs).2.1) ∧ Rd w' A2 (cmpM D us vs).2.2.length (ints (cmpM D us vs).2.2) ∧ (cmpM D us vs).2.2.length ≤ c2 ∧ Below w.heap.size w w'
set_option maxHeartbeats 6400000 in
theorem cmpare_any (R A B : Option Addr) (n c m d q e0 : Nat) (rs us vs : List Nat) (w : World) (h : Rd w R n (ints rs)) (hn : n ≤ 24) (hr : ∀ i, rs.getD i 0 < 2 ^ n) (hsym : ∀ a b, RDep rs a b = RDep rs b a) (href : ∀ a, a < n → RDep rs a a = true)
    (h2 : Rd w A m (ints us)) (hm : m ≤ 1048576) (hus : ∀ x, x ∈ us → x < n) (h3 : Rd w B q (ints vs)) (hq : q ≤ 1048576) (hqe : q ≤ e0) (hvs : ∀ x, x ∈ vs → x < n) :
    Calls Tryd.prog 67 #[.slice R n c, .slice A m d, .slice B q e0] w (CmpPost (RDep rs) us vs w) := by
  obtain ⟨i0, hi, hz0, hz1, hz2⟩ := info_parts info_int
  have HLU : Hid (us.length = m) := Lib.hid (by have := h2.1; rw [ints_len] at this; exact this)
  have HLV : Hid (vs.length = q) := Lib.hid (by have := h3.1; rw [ints_len] at this; exact this)
  have HR := Lib.hid hr
  have HSY := Lib.hid hsym
  have HRE := Lib.hid href
  have HUS := Lib.hid hus
  have HVS := Lib.hid hvs
  have h24 : 2 ^ n ≤ 2 ^ 24 := Nat.pow_le_pow_right (by decide) hn
  have HDL := Lib.hid (fun ws => Nat.lt_of_lt_of_le (depM_lt rs n hr ws) h24)
  obtain ⟨C, hC⟩ : ∃ C, C = cmpM (RDep rs) us vs := ⟨_, rfl⟩
  have HC : Hid (C = cmpGo (RDep rs) (us.drop 0) [] [] vs) := Lib.hid hC
  have HPOST : Hid (∀ e w', (∃ A0 c0 A1 c1 A2 c2, e = .returned (.agg #[.slice A0 C.1.length c0, .slice A1 C.2.1.length c1, .slice A2 C.2.2.length c2]) ∧ Rd w' A0 C.1.length (ints C.1) ∧ Rd w' A1 C.2.1.length (ints C.2.1) ∧ Rd w' A2 C.2.2.length (ints C.2.2) ∧ C.2.2.length ≤ c2 ∧ Below w.heap.size w w') → CmpPost (RDep rs) us vs w e w') := Lib.hid (by unfold CmpPost; rw [← hC]; exact fun _ _ h => h)
  clear hC hr hsym href hus hvs h24
  obtain ⟨W1, hW1⟩ : ∃ W1, (w.alloc (.cells #[.slice none 0 0, .slice none 0 0, .slice none 0 0] 66)).alloc (.cells #[.slice none 0 0, .slice none 0 0, .slice B q e0] 66) = W1 := ⟨_, rfl⟩
  have hb1 : Below w.heap.size w W1 := by rw [← hW1]; exact below2 w _ _
  have hs1 : W1.heap.size = w.heap.size + 1 + 1 := by rw [← hW1]; simp
  have x1 : CBox W1 (w.heap.size + 1) none 0 0 none 0 0 B q e0 := by rw [← hW1]; have := cbox_new (w.alloc (.cells #[.slice none 0 0, .slice none 0 0, .slice none 0 0] 66)) none 0 0 none 0 0 B q e0; rwa [World.size_alloc] at this
  have r1 : CBox W1 w.heap.size none 0 0 none 0 0 none 0 0 := by rw [← hW1]; exact (cbox_new w none 0 0 none 0 0 none 0 0).next (below1 _ _)
  have S1 : CSt W1 (w.heap.size + 1) none none B 0 0 0 0 q e0 [] [] vs := ⟨x1, Own.nil _ _ _, Own.nil _ _ _, h3.below hb1, hqe, fun b hb => (by cases hb), fun h0 b hb => by
    obtain ⟨b', off, e, hb', _⟩ := h3.2 h0
    rw [e] at hb
    injection hb with hb
    have hb9 : b' = b := hb
    subst hb9
    exact ⟨by omega, fun e => (by cases e), fun e => (by cases e), .inl (by omega)⟩⟩
  have HS1 := Lib.hid hs1
  clear hs1 x1
  obtain ⟨tb, htb⟩ : ∃ tb, tb = w.heap.size + 1 := ⟨_, rfl⟩
  rw [← htb] at S1
  have HTB := Lib.hid htb
  go_enter Tryd.func67, Tryd.ntmps67
  go_wp2_with fail
  rw [← htb]
  have hs1' : W1.heap.size = tb + 1 := by rw [HS1.out, HTB.out]
  have hb1' : Below tb W1 W1 := Below.refl _ _
  have HS1' := Lib.hid hs1'
  clear hs1' htb hW1
  go_loopw [16] (fun i wr => ∃ (k n0 c0 n1 c1 n2 c2 : Nat) (A0 A1 A2 : Option Addr) (p f s : List Nat), k ≤ m ∧ i = .int .i64 (k : Int) ∧ CSt wr tb A0 A1 A2 n0 c0 n1 c1 n2 c2 p f s ∧ C = cmpGo (RDep rs) (us.drop k) p f s ∧ n0 + n1 = k ∧ n2 ≤ q ∧ (∀ x, x ∈ f → x < n) ∧ (∀ x, x ∈ s → x < n) ∧ Below tb W1 wr) (fun i _ => m - (intOf i).toNat)
  case atStart => exact ⟨0, 0, 0, 0, 0, q, e0, none, none, B, [], [], vs, Nat.zero_le _, rfl, S1, HC.out, rfl, Nat.le_refl _, (fun x hx => by cases hx), HVS.out, hb1'⟩
  case round =>
    clear S1 hb1'
    obtain ⟨k, n0, c0, n1, c1, n2, c2, A0, A1, A2, p, f, s, hk, rfl, st, hCk, hnk, hn2, hfn, hsn, hb⟩ := hrel
    have HCK := Lib.hid hCk
    have HFN0 := Lib.hid hfn
    have HSN := Lib.hid hsn
    have HNK := Lib.hid hnk
    clear hCk hfn hsn hnk
    have hbw : Below w.heap.size w wr := hb1.trans (hb.mono (by rw [HTB.out]; omega))
    have hR := h.below hbw
    have hU := h2.below hbw
    have y0 := st.x.c0
    have y1 := st.x.c1
    have y2 := st.x.c2
    by_cases hlt : k < m
    · obtain ⟨gu, ou, x, eU, hgu, hxu, hcx⟩ := hU.at_ hlt
      rw [ints_getD us k (by rw [HLU.out]; exact hlt)] at hxu
      injection hxu with hxu
      have hun : us.getD k 0 < n := HUS.out _ (by rw [List.getD_eq_getElem?_getD, List.getElem?_eq_getElem (by rw [HLU.out]; exact hlt)]; exact List.getElem_mem _)
      have HDR := Lib.hid (drop_at us k (by rw [HLU.out]; exact hlt))
      obtain ⟨u, hu⟩ : ∃ u, u = us.getD k 0 := ⟨_, rfl⟩
      rw [← hu] at hxu hun HDR
      subst hxu eU
      clear hu
      have hnk := HNK.out
      have hml0 : n0 + 1 ≤ maxLen := by unfold maxLen; omega
      have hml1 : n1 + 1 ≤ maxLen := by unfold maxLen; omega
      have hby0 : (n0 + 1) * 8 ≤ 140737488355328 := by omega
      have hby1 : (n1 + 1) * 8 ≤ 140737488355328 := by omega
      have HN0 : Hid (n0 + 1 + n1 = k + 1) := Lib.hid (by omega)
      clear hnk
      have HFN : Hid (∀ x, x ∈ f ++ [u] → x < n) := Lib.hid (fun x hx => by
        rcases List.mem_append.1 hx with h | h
        · exact HFN0.out x h
        · simp at h; subst h; exact hun)
      have HWO := Lib.hid (without_any R A2 n c n2 c2 u rs s wr hR hn HR.out HSY.out HRE.out st.r2 (by omega) st.le HSN.out hun)
      cases hfree : freeB (RDep rs) s u
      · rw [hfree] at HWO
        have HCN : Hid (C = cmpGo (RDep rs) (us.drop (k + 1)) p (f ++ [u]) s) := Lib.hid (by rw [HCK.out, HDR.out]; exact cmp_out _ _ _ _ _ _ hfree)
        have hbase : tb + 1 ≤ (wr.alloc (.cells #[.int .i64 (u : Int)] 2)).heap.size := by have := st.x.lt; simp; omega
        have hnk := HNK.out
        have o1 := st.o1
        clear hfree
        go_wp2_with fail
        refine HWO.out.mono ?_
        rintro e w3 (⟨h9, _⟩ | ⟨_, rfl, rfl⟩)
        · cases h9
        go_wp2_with (at_builtin; refine wpList_append_lies _ rfl _ _ 22 rfl (tb + 1) 2 i0 (.int .i64 0) 1 8 Tryd.underlying22 hi hz0 hz1 hz2 rfl (by decide) (.slice A1 n1 c1) n1 ((ints f).map (Value.int .i64)) rfl (World.ownsRow.alloc o1 _) ⟨wr.heap.size, 0, none⟩ 1 1 [.int .i64 (u : Int)] rfl rfl (cell_one_new _ _ _) (by intro v hv; simp at hv; subst hv; rfl) (by decide) hml1 hby1 hbase (wr.heap.size + 1) (by simp) ?_; intro g cap w4 hown hg hat hlt4; have HP := Lib.hid (st.pass hown hg hat hlt4); have x4 := st.mid (.inr rfl) hg; have z1 := x4.c1; have zf := x4.fr 1; clear hown hg hat x4)
        go_roundw
        case rel => exact ⟨k + 1, n0, c0, n1 + 1, cap, n2, c2, A0, some ⟨g, 0, none⟩, A2, p, f ++ [u], s, hlt, by go_num, HP.out.1, HCN.out, by have := HNK.out; omega, hn2, HFN.out, HSN.out, hb.trans HP.out.2⟩
        case measure => simp [intOf]; omega
      · rw [hfree] at HWO
        go_wp2_with fail
        refine HWO.out.mono ?_
        rintro e w3 (⟨_, hn2p, A3, c3, rfl, o3, hb3⟩ | ⟨h9, _⟩)
        rotate_left
        · cases h9
        have st3 := st.below hb3
        have v0 := st3.x.c0
        have v1 := st3.x.c1
        have v2 := st3.x.c2
        have o1 := st3.o1
        have o0 := st3.o0
        have hbase : tb + 1 ≤ (w3.alloc (.cells #[.int .i64 (u : Int)] 2)).heap.size := by have := st3.x.lt; simp; omega
        have HB3 : Hid (Below tb W1 w3) := Lib.hid (hb.trans (hb3.mono (by have := st.x.lt; omega)))
        have HDE := Lib.hid (dependents_any R A1 n c n1 c1 rs f w3 (hR.below hb3) hn HR.out o1.rd (by have := HNK.out; omega) HFN0.out)
        have hD24 := HDL.out f
        have HBI := Lib.hid (depM_bit rs f u)
        obtain ⟨M, hM⟩ : ∃ M, M = depM rs f := ⟨_, rfl⟩
        rw [← hM] at HDE hD24 HBI
        have HHAS : Hid (∀ ww : World, Calls Tryd.prog 95 #[.int .i64 (M : Int), .int .i64 (u : Int)] ww fun e w'' => e = .returned (.bool (M.testBit u)) ∧ ww = w'') := Lib.hid fun ww => has_any M u (by omega) (by omega) ww
        rw [HBI.out] at HHAS
        clear hM hD24 HBI y0 y1 y2
        cases hdep : depL (RDep rs) f u
        · rw [hdep] at HHAS
          have HCN : Hid (C = cmpGo (RDep rs) (us.drop (k + 1)) (p ++ [u]) f (s.erase u)) := Lib.hid (by rw [HCK.out, HDR.out]; exact cmp_in _ _ _ _ _ _ hfree hdep)
          have HSE : Hid (∀ x, x ∈ s.erase u → x < n) := Lib.hid fun x hx => HSN.out x (List.mem_of_mem_erase hx)
          clear hfree hdep
          go_wp2_with fail
          refine HDE.out.mono ?_
          rintro e w' ⟨rfl, rfl⟩
          go_wp2_with fail
          refine (HHAS.out _).mono ?_
          rintro e w' ⟨rfl, rfl⟩
          go_wp2_with (at_builtin; refine wpList_append_lies _ rfl _ _ 22 rfl (tb + 1) 2 i0 (.int .i64 0) 1 8 Tryd.underlying22 hi hz0 hz1 hz2 rfl (by decide) (.slice A0 n0 c0) n0 ((ints p).map (Value.int .i64)) rfl (World.ownsRow.alloc o0 _) ⟨w3.heap.size, 0, none⟩ 1 1 [.int .i64 (u : Int)] rfl rfl (cell_one_new _ _ _) (by intro v hv; simp at hv; subst hv; rfl) (by decide) hml0 hby0 hbase (w3.heap.size + 1) (by simp) ?_; intro g cap w4 hown hg hat hlt4; have HP := Lib.hid (st.take hb3 o3 hown hg hat hlt4); have x4 := st3.mid (.inl rfl) hg; have z1 := x4.c0; have zf := x4.fr 0; have z2 := (x4.set0 (some ⟨g, 0, none⟩) (n0 + 1) cap).c2; have zf2 := (x4.set0 (some ⟨g, 0, none⟩) (n0 + 1) cap).fr 2; clear hown hg hat x4)
          go_roundw
          case rel => exact ⟨k + 1, n0 + 1, cap, n1, c1, n2 - 1, c3, some ⟨g, 0, none⟩, A1, A3, p ++ [u], f, s.erase u, hlt, by go_num, HP.out.1, HCN.out, HN0.out, by omega, HFN0.out, HSE.out, hb.trans HP.out.2⟩
          case measure => simp [intOf]; omega
        · rw [hdep] at HHAS
          have HCN : Hid (C = cmpGo (RDep rs) (us.drop (k + 1)) p (f ++ [u]) s) := Lib.hid (by rw [HCK.out, HDR.out]; exact cmp_dep _ _ _ _ _ _ hdep)
          clear hfree hdep
          go_wp2_with fail
          refine HDE.out.mono ?_
          rintro e w' ⟨rfl, rfl⟩
          go_wp2_with fail
          refine (HHAS.out _).mono ?_
          rintro e w' ⟨rfl, rfl⟩
          go_wp2_with (at_builtin; refine wpList_append_lies _ rfl _ _ 22 rfl (tb + 1) 2 i0 (.int .i64 0) 1 8 Tryd.underlying22 hi hz0 hz1 hz2 rfl (by decide) (.slice A1 n1 c1) n1 ((ints f).map (Value.int .i64)) rfl (World.ownsRow.alloc o1 _) ⟨w3.heap.size, 0, none⟩ 1 1 [.int .i64 (u : Int)] rfl rfl (cell_one_new _ _ _) (by intro v hv; simp at hv; subst hv; rfl) (by decide) hml1 hby1 hbase (w3.heap.size + 1) (by simp) ?_; intro g cap w4 hown hg hat hlt4; have HP := Lib.hid (st3.pass hown hg hat hlt4); have x4 := st3.mid (.inr rfl) hg; have z1 := x4.c1; have zf := x4.fr 1; clear hown hg hat x4)
          go_roundw
          case rel => exact ⟨k + 1, n0, c0, n1 + 1, cap, n2, c2, A0, some ⟨g, 0, none⟩, A2, p, f ++ [u], s, hlt, by go_num, HP.out.1, HCN.out, by have := HNK.out; omega, hn2, HFN.out, HSN.out, HB3.out.trans HP.out.2⟩
          case measure => simp [intOf]; omega
    · have hkm : k = m := by omega
      subst hkm
      have HE : Hid (C = (p, f, s)) := Lib.hid (by rw [HCK.out, List.drop_of_length_le (by rw [HLU.out]; exact Nat.le_refl _)]; rfl)
      have rr : CBox wr w.heap.size none 0 0 none 0 0 none 0 0 := r1.under hb (by rw [HTB.out]; omega)
      have rc0 := rr.c0
      have rc1 := rr.c1
      have rc2 := rr.c2
      have rf0 := rr.fr 0
      have rf1 := rr.fr 1
      have rf2 := rr.fr 2
      have HNP : Hid (p.length = n0) := Lib.hid (by have := st.o0.len; rw [ints_len] at this; exact this)
      have HNF : Hid (f.length = n1) := Lib.hid (by have := st.o1.len; rw [ints_len] at this; exact this)
      have HNS : Hid (s.length = n2) := Lib.hid (by have := st.r2.1; rw [ints_len] at this; exact this)
      have HFIN : Hid (CBox (((wr.setCell ⟨w.heap.size, 0, none⟩ (.slice A0 n0 c0)).setCell ⟨w.heap.size, 1, none⟩ (.slice A1 n1 c1)).setCell ⟨w.heap.size, 2, none⟩ (.slice A2 n2 c2)) w.heap.size A0 n0 c0 A1 n1 c1 A2 n2 c2 ∧ Rd (((wr.setCell ⟨w.heap.size, 0, none⟩ (.slice A0 n0 c0)).setCell ⟨w.heap.size, 1, none⟩ (.slice A1 n1 c1)).setCell ⟨w.heap.size, 2, none⟩ (.slice A2 n2 c2)) A0 n0 (ints p) ∧ Rd (((wr.setCell ⟨w.heap.size, 0, none⟩ (.slice A0 n0 c0)).setCell ⟨w.heap.size, 1, none⟩ (.slice A1 n1 c1)).setCell ⟨w.heap.size, 2, none⟩ (.slice A2 n2 c2)) A1 n1 (ints f) ∧ Rd (((wr.setCell ⟨w.heap.size, 0, none⟩ (.slice A0 n0 c0)).setCell ⟨w.heap.size, 1, none⟩ (.slice A1 n1 c1)).setCell ⟨w.heap.size, 2, none⟩ (.slice A2 n2 c2)) A2 n2 (ints s) ∧ Below w.heap.size w (((wr.setCell ⟨w.heap.size, 0, none⟩ (.slice A0 n0 c0)).setCell ⟨w.heap.size, 1, none⟩ (.slice A1 n1 c1)).setCell ⟨w.heap.size, 2, none⟩ (.slice A2 n2 c2))) := Lib.hid (by
        have htb9 := HTB.out
        have q0 : ∀ q, A0.map (·.block) = some q → q ≠ w.heap.size := fun q hq => by have := (st.o0.lt q hq).1; omega
        have q1 : ∀ q, A1.map (·.block) = some q → q ≠ w.heap.size := fun q hq => by have := (st.o1.lt q hq).1; omega
        have q2 : 0 < n2 → ∀ q, A2.map (·.block) = some q → q ≠ w.heap.size := fun hn q hq => by have := (st.off hn q hq).2.2.2; omega
        exact ⟨((rr.set0 _ _ _).set1 _ _ _).set2 _ _ _, (own_other (own_other (own_other st.o0 _ 0 _ q0) _ 1 _ q0) _ 2 _ q0).rd, (own_other (own_other (own_other st.o1 _ 0 _ q1) _ 1 _ q1) _ 2 _ q1).rd, ((st.r2.other _ 0 _ q2).other _ 1 _ q2).other _ 2 _ q2, ((hbw.setCell (p := ⟨w.heap.size, 0, none⟩) (Nat.le_refl _) _).setCell (p := ⟨w.heap.size, 1, none⟩) (Nat.le_refl _) _).setCell (p := ⟨w.heap.size, 2, none⟩) (Nat.le_refl _) _⟩)
      have HLE := Lib.hid st.le
      clear hbw st
      go_wp2_with fail
      refine ret_gen (fun W => CBox W w.heap.size A0 n0 c0 A1 n1 c1 A2 n2 c2 ∧ Rd W A0 n0 (ints p) ∧ Rd W A1 n1 (ints f) ∧ Rd W A2 n2 (ints s) ∧ Below w.heap.size w W) HFIN.out fun W ⟨h1, h2, h3, h4, h5⟩ => ?_
      have e0 := h1.c0
      have e1 := h1.c1
      have e2 := h1.c2
      refine bodyPost_ret (v := .agg #[.slice A0 n0 c0, .slice A1 n1 c1, .slice A2 n2 c2]) (by simp [results, Tryd.results67, go_sem, e0, e1, e2]) rfl ?_
      refine HPOST.out _ _ ?_
      rw [HE.out]
      show ∃ A0 c0 A1 c1 A2 c2, _ = _ ∧ Rd W A0 p.length (ints p) ∧ Rd W A1 f.length (ints f) ∧ Rd W A2 s.length (ints s) ∧ s.length ≤ c2 ∧ _
      rw [HNP.out, HNF.out, HNS.out]
      exact ⟨A0, c0, A1, c1, A2, c2, (by first | rfl | simp), h2, h3, h4, HLE.out, h5⟩
end Go.Proofs.YtmooanfcedgfnaaDoor
