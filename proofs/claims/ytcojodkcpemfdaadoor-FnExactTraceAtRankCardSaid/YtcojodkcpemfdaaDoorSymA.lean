/-
  slices.symMergeCmpFunc at []int64, wherever its runs meet.
-/
import Derived.Test.YtcojodkcpemfdaaDoorSymG
import Derived.Test.YtcojodkcpemfdaaDoorSymH
namespace Go.Proofs.YtcojodkcpemfdaaDoor
open Go.RowKit
set_option linter.unusedVariables false
set_option maxRecDepth 100000
theorem sym_any (B g n c N : Nat) (key : Nat → Nat) (cf : Nat → Nat → Int) (f : FuncId) (lb : Array Value) (w0 : World) (hn : n ≤ 1048576)
    (eg : ∀ args w, (callFunc f args).run Tryd.prog w = .ok (.enter f args) w) (hcmp : CmpOk w0 g N key cf f lb) :
    ∀ (L a m b : Nat) (ds : List Nat) (w : World), b - a ≤ L → b ≤ n → a < m → m < b → Own 2 w B (some ⟨g, 0, none⟩) n c (ints ds) → w0.grownBy w (some g) → (∀ x, x ∈ ds → x < N) → St key ds → Srt key ds a m → Srt key ds m b →
      Calls Tryd.prog 219 #[.slice (some ⟨g, 0, none⟩) n c, .int .i64 (a : Int), .int .i64 (m : Int), .int .i64 (b : Int), .func (.func f) #[] lb] w (SymPost key w B g n c a b ds) := by
  intro L
  induction L with
  | zero => intro a m b ds w h1 h2 h3 h4; omega
  | succ L ih =>
    intro a m b ds w h1 h2 h3 h4 ho hw hds hst hA hB
    by_cases e1 : m = a + 1
    · subst e1
      rw [show ((a + 1 : Nat) : Int) = (a : Int) + 1 by omega]
      exact sym_left B g n c a b N ds key cf f lb w0 w ho hw hn h2 h4 eg hcmp hds hst hB
    · by_cases e2 : b = m + 1
      · subst e2
        rw [show ((m + 1 : Nat) : Int) = (m : Int) + 1 by omega]
        exact sym_right B g n c a m N ds key cf f lb w0 w ho hw hn h2 (by omega) eg hcmp hds hst hA
      · have hih : ∀ (a' m' b' : Nat) (es : List Nat) (w' : World), b' - a' < b - a → a ≤ a' → b' ≤ b → a' < m' → m' < b' → Own 2 w' B (some ⟨g, 0, none⟩) n c (ints es) → w0.grownBy w' (some g) → (∀ x, x ∈ es → x < N) → St key es → Srt key es a' m' → Srt key es m' b' → Calls Tryd.prog 219 #[.slice (some ⟨g, 0, none⟩) n c, .int .i64 (a' : Int), .int .i64 (m' : Int), .int .i64 (b' : Int), .func (.func f) #[] lb] w' (SymPost key w' B g n c a' b' es) :=
          fun a' m' b' es w' k1 k2 k3 k4 k5 k6 k7 k8 k9 k10 k11 => ih a' m' b' es w' (by omega) (by omega) k4 k5 k6 k7 k8 k9 k10 k11
        by_cases hbr : (a + b) / 2 < m
        · exact sym_genL B g n c a m b N ds key cf f lb w0 w ho hw hn h2 (by omega) (by omega) eg hcmp hds hst hA hB hbr hih
        · exact sym_genR B g n c a m b N ds key cf f lb w0 w ho hw hn h2 (by omega) (by omega) eg hcmp hds hst hA hB (by omega) hih
end Go.Proofs.YtcojodkcpemfdaaDoor
