/-
  A list of lists as an answer: what a call leaves, what stays when its marks are set.
-/
import Derived.Test.YtcojodkcpemfdaaDoorAlph
import Derived.Test.YtcojodkcpemfdaaDoorSS
namespace Go.Proofs.YtcojodkcpemfdaaDoor
open Go Go.RowKit
set_option linter.unusedVariables false
set_option maxRecDepth 100000

/-- What a function that answers a list of lists and a code leaves. -/
def LssPost (w : World) (VN : Nat) (VX : List (List Int)) (C : Int) (e : Ending) (w' : World) : Prop :=
  ∃ A c, e = .returned (.tuple #[.slice A VN c, .int .i64 C]) ∧ OwnSS w' w.heap.size w'.heap.size A VN c VX ∧ Below w.heap.size w w'
section
variable {w w' : World} {lo hi : Nat}
theorem Touched.under {w0 : World} (ht : Touched lo hi w w') (hb : Below w0.heap.size w0 w) (hl : w0.heap.size ≤ lo) : Below w0.heap.size w0 w' :=
  ⟨ht.os.trans hb.os, ht.tape.trans hb.tape, ht.output.trans hb.output, Nat.le_trans hb.size ht.size, fun k hk => (ht.block k (Nat.lt_of_lt_of_le hk hb.size) (.inl (Nat.lt_of_lt_of_le hk hl))).trans (hb.block k hk)⟩
theorem Box.touched {T : TypeId} {g : Nat} {L : Int} {A : Option Addr} {n c : Nat} (h : Box T w g L A n c) (ht : Touched lo hi w w') (hne : g < lo ∨ hi ≤ g) : Box T w' g L A n c := by
  unfold Box; rw [ht.block g h.lt hne]; exact h
theorem row_touched {b n c : Nat} {E : TypeId} {A : Option Addr} {vs : List Value} (h : w.ownsRow b E 1 (.slice A n c) n vs) (ht : Touched lo hi w w') (hne : ∀ q, A.map (·.block) = some q → q < lo ∨ hi ≤ q) : w'.ownsRow b E 1 (.slice A n c) n vs := by
  refine ⟨h.1, ?_⟩
  rcases h.2 with h0 | ⟨g, cap, cur, e, hb, hg, rest⟩
  · exact .inl h0
  · have hA : A = some ⟨g, 0, none⟩ := by injection e
    have hq : A.map (·.block) = some g := by rw [hA]; rfl
    refine .inr ⟨g, cap, cur, e, hb, ?_, rest⟩
    rw [ht.block g (row_block h g hq).2 (hne g hq)]; exact hg
theorem OwnSS.touched {l u n c : Nat} {A : Option Addr} {xss : List (List Int)} (h : OwnSS w l u A n c xss) (ht : Touched lo hi w w') (hne : u ≤ lo ∨ hi ≤ l) : OwnSS w' l u A n c xss := by
  obtain ⟨ts, e, ho⟩ := h
  refine ⟨ts, e, ho.1, row_touched ho.2.1 ht (fun q hq => ?_), ho.2.2.1, fun j t hj => ⟨row_touched (ho.2.2.2 j t hj).1 ht (fun q hq => ?_), (ho.2.2.2 j t hj).2⟩⟩
  · have h1 := ho.lt q hq
    rcases hne with h2 | h2
    · left; omega
    · right; omega
  · have h1 := ((ho.2.2.2 j t hj).1).lt q hq
    have h3 := ((ho.2.2.2 j t hj).2 q hq).1
    rcases hne with h2 | h2
    · left; omega
    · right; omega
theorem OwnSS.wide {l u l' u' n c : Nat} {A : Option Addr} {xss : List (List Int)} (h : OwnSS w l u A n c xss) (h1 : l' ≤ l) (h2 : u ≤ u') : OwnSS w l' u' A n c xss := by
  obtain ⟨ts, e, ho⟩ := h
  refine ⟨ts, e, ho.1, ?_, fun q hq => Nat.lt_of_lt_of_le (ho.2.2.1 q hq) h2, fun j t hj => ⟨((ho.2.2.2 j t hj).1).mono h1, fun q hq => ⟨Nat.lt_of_lt_of_le ((ho.2.2.2 j t hj).2 q hq).1 h2, ((ho.2.2.2 j t hj).2 q hq).2⟩⟩⟩
  refine ⟨ho.2.1.1, ?_⟩
  rcases ho.2.1.2 with h0 | ⟨g, cap, cur, e, hg, rest⟩
  · exact .inl h0
  · exact .inr ⟨g, cap, cur, e, by omega, rest⟩
theorem OwnSS.nil (l u : Nat) : OwnSS w l u none 0 0 [] :=
  ⟨[], rfl, rfl, World.ownsRow_nil w l _ _, fun q hq => (by cases hq), fun j t hj => (by cases hj)⟩
end
theorem small_of {VX : List (List Int)} {SV : Nat} (h : sumL VX = SV) (hs : SV ≤ 1048576) : ∀ xs, xs ∈ VX → xs.length ≤ maxLen := fun xs hx => by
  have := len_sumL VX xs hx
  unfold maxLen; omega
theorem marksSS_mem : ∀ (VX : List (List Int)) (k : Nat) (ys : List Int), ys ∈ marksSS k VX → ∃ xs, xs ∈ VX ∧ ys.length = xs.length
  | [], _, _, h => by cases h
  | x :: r, k, ys, h => by
    rcases List.mem_cons.1 h with h | h
    · exact ⟨x, List.mem_cons_self, by rw [h, marks_len]⟩
    · obtain ⟨xs, h1, h2⟩ := marksSS_mem r _ ys h
      exact ⟨xs, List.mem_cons_of_mem _ h1, h2⟩
theorem small_marks {VX : List (List Int)} {SV : Nat} (h : sumL VX = SV) (hs : SV ≤ 1048576) : ∀ xs, xs ∈ marksSS 1 VX → xs.length ≤ maxLen := fun ys hy => by
  obtain ⟨xs, h1, h2⟩ := marksSS_mem VX 1 ys hy
  rw [h2]; exact small_of h hs xs h1
theorem markSS_one (lo hi : Nat) (A : Option Addr) (n c : Nat) (xss : List (List Int)) (w : World) (h : OwnSS w lo hi A n c xss) {SV : Nat} (hv : sumL xss = SV) (hs : SV ≤ 1048576) (hn : n ≤ 1048576) :
    Calls Tryd.prog 28 #[.slice A n c, .int .i64 1] w fun e w' => e = .returned (.int .i64 ((1 + SV : Nat) : Int)) ∧ OwnSS w' lo hi A n c (marksSS 1 xss) ∧ Touched lo hi w w' := by
  rw [← hv]
  exact markSS_any lo hi A n c 1 xss w h (by omega) hn (by omega)
theorem heldSS_one (A : Option Addr) (n c : Nat) (xss : List (List Int)) (w : World) (h : RdSS w A n (marksSS 1 xss)) {SV : Nat} (hv : sumL xss = SV) (hs : SV ≤ 1048576) (hn : n ≤ 1048576) :
    Calls Tryd.prog 35 #[.slice A n c, .int .i64 1] w fun e w' => e = .returned (.int .i64 ((1 + SV : Nat) : Int)) ∧ w = w' := by
  have hl : xss.length = n := by
    obtain ⟨ts, e, ht⟩ := h
    have := congrArg List.length e
    rw [List.length_map, ht.1, marksSS_len] at this
    exact this.symm
  rw [← hv]
  exact heldSS_any A n c 1 xss w h (by omega) hl hn (by omega)
end Go.Proofs.YtcojodkcpemfdaaDoor
