/-
  The trace of a word: its places sorted by their letters, their letters, and what comes before each.
-/
import Derived.Test.YtokikilfmglhhaaDoorTrOfM
import Derived.Deep.RegionLaw
import Derived.Deep.CutRange
namespace Go.Proofs.YtokikilfmglhhaaDoor
open Go Go.RowKit
set_option linter.unusedVariables false
set_option maxRecDepth 100000

/-- A variable that holds a trace: two slices. -/
def TBox (w : World) (g : Nat) (A : Option Addr) (n c : Nat) (B : Option Addr) (n' c' : Nat) : Prop := w.heap[g]? = some (.cells #[.slice A n c, .slice B n' c'] 63 (0, 0))
section
variable {w w' : World} {g n c n' c' : Nat} {A B : Option Addr}
theorem TBox.lt (h : TBox w g A n c B n' c') : g < w.heap.size := (Array.getElem?_eq_some_iff.1 h).1
theorem TBox.c0 (h : TBox w g A n c B n' c') : w.cell? ⟨g, 0, none⟩ = some (.slice A n c) := by unfold TBox at h; unfold World.cell?; rw [h]; rfl
theorem TBox.c1 (h : TBox w g A n c B n' c') : w.cell? ⟨g, 1, none⟩ = some (.slice B n' c') := by unfold TBox at h; unfold World.cell?; rw [h]; rfl
theorem TBox.fr (h : TBox w g A n c B n' c') (k : Nat) : w.frozen? ⟨g, k, none⟩ = false := by unfold TBox at h; simp [World.frozen?, h]
theorem TBox.next (h : TBox w g A n c B n' c') (hb : Below w.heap.size w w') : TBox w' g A n c B n' c' := (hb.block g h.lt).trans h
theorem TBox.apart {row : Option Nat} (h : TBox w g A n c B n' c') (hg : w.grownBy w' row) (hne : row ≠ some g) : TBox w' g A n c B n' c' := (hg.block g h.lt (fun e => hne e.symm)).trans h
theorem TBox.other (h : TBox w g A n c B n' c') (b k : Nat) (v : Value) (hne : g ≠ b) : TBox (w.setCell ⟨b, k, none⟩ v) g A n c B n' c' := by
  unfold TBox; rw [Below.heap_setCell w _ v g (fun e => hne e)]; exact h
theorem TBox.set0 (h : TBox w g A n c B n' c') (A' : Option Addr) (k k' : Nat) : TBox (w.setCell ⟨g, 0, none⟩ (.slice A' k k')) g A' k k' B n' c' := by unfold TBox at h ⊢; rw [heap_put h]; rfl
theorem TBox.set1 (h : TBox w g A n c B n' c') (A' : Option Addr) (k k' : Nat) : TBox (w.setCell ⟨g, 1, none⟩ (.slice A' k k')) g A n c A' k k' := by unfold TBox at h ⊢; rw [heap_put h]; rfl
end
theorem tbox_new (w : World) (A : Option Addr) (n c : Nat) (B : Option Addr) (n' c' : Nat) : TBox (w.alloc (.cells #[.slice A n c, .slice B n' c'] 63)) w.heap.size A n c B n' c' := World.alloc_heap_new w _
theorem ownBlock_map' {A : Option Addr} {n c q : Nat} (h : (Value.slice A n c).ownBlock = some q) : A.map (·.block) = some q := by
  cases A with
  | none => cases h
  | some a => simpa [Value.ownBlock] using h
theorem own_obj {E : TypeId} {w : World} {B n c b : Nat} {A : Option Addr} {xs : List Int} (h : Own E w B A n c xs) (hb : A.map (·.block) = some b) : ∃ cur, w.heap[b]? = some (.cells cur E (0, 0)) := by
  rcases h.2 with ⟨h0, _⟩ | ⟨g, cap, cur, e1, _, h3, _⟩
  · cases A with
    | none => cases hb
    | some _ => injection h0 with h0; cases h0
  · injection e1 with e1
    subst e1
    injection hb with hb
    subst hb
    exact ⟨cur, h3⟩
theorem own_ne {E E' : TypeId} {w : World} {B B' n c n' c' b b' : Nat} {A A' : Option Addr} {xs ys : List Int} (h : Own E w B A n c xs) (h' : Own E' w B' A' n' c' ys) (hE : E ≠ E') (hb : A.map (·.block) = some b) (hb' : A'.map (·.block) = some b') : b ≠ b' := by
  intro e
  subst e
  obtain ⟨c1, h1⟩ := own_obj h hb
  obtain ⟨c2, h2⟩ := own_obj h' hb'
  rw [h1] at h2
  injection h2 with h2
  injection h2 with _ h2
  exact hE h2
theorem TBox.ne_own {w : World} {g n c n' c' B k d b : Nat} {A A' Q : Option Addr} {E : TypeId} {xs : List Int} (h : TBox w g A n c A' n' c') (h' : Own E w B Q k d xs) (hE : E ≠ 63) (hb : Q.map (·.block) = some b) : b ≠ g := by
  intro e
  subst e
  obtain ⟨c1, h1⟩ := own_obj h' hb
  unfold TBox at h
  rw [h] at h1
  injection h1 with h1
  injection h1 with _ h1
  exact hE h1.symm
def TracePost (m : Nat) (rows us : List Nat) (w : World) (e : Ending) (w' : World) : Prop :=
  ∃ A1 c1 B1 d1 es, e = .returned (.agg #[.slice A1 m c1, .slice B1 m d1]) ∧ es.Perm (List.range m) ∧ Srt (fun p => us.getD p 0) es 0 m ∧ Rd w' A1 m (ints (letM us es m m)) ∧ Rd w' B1 m (ints (befM rows us es m m 0)) ∧ (∀ b, A1.map (·.block) = some b → w.heap.size ≤ b) ∧ (∀ b, B1.map (·.block) = some b → w.heap.size ≤ b) ∧ Below w.heap.size w w'
set_option maxHeartbeats 4000000 in
theorem traceOf_any (R A : Option Addr) (n m cr cu : Nat) (rows us : List Nat) (w : World) (hR : Rd w R n (ints rows)) (hU : Rd w A m (ints us)) (hm : m ≤ 24) (hn : n ≤ 24) (hus : ∀ p, p < m → us.getD p 0 < n) (hrs : ∀ i, rows.getD i 0 < 9223372036854775808) (hT : Tab w) :
    Calls Tryd.prog 54 #[.slice R n cr, .slice A m cu] w (TracePost m rows us w) := by
  obtain ⟨i0, hi, hz0, hz1, hz2⟩ := info_parts info_int
  obtain ⟨i1, hi', hz0', hz1', hz2'⟩ := info_parts info_set
  have h24 : (2:Nat) ^ m ≤ 2 ^ 24 := Nat.pow_le_pow_right (by decide) hm
  obtain ⟨P, hP⟩ : ∃ P, P = 2 ^ m - 1 := ⟨_, rfl⟩
  have HFN : Hid (∀ ww : World, Calls Tryd.prog 93 #[.int .i64 (m : Int)] ww fun e w' => e = .returned (.int .i64 (P : Int)) ∧ ww = w') := Lib.hid (by rw [hP]; exact fun ww => firstNumbers_any m (by omega) ww)
  have HME : Hid (∀ ww : World, Tab ww → Calls Tryd.prog 94 #[.int .i64 (P : Int)] ww fun e w' => ∃ g c, e = .returned (.slice (some ⟨g, 0, none⟩) m c) ∧ Own 2 w' ww.heap.size (some ⟨g, 0, none⟩) m c (ints (List.range m)) ∧ Below ww.heap.size ww w') := Lib.hid fun ww ht => by
    have := members_some P (by omega) ww ht
    rw [show bitsOf P = List.range m by rw [hP]; exact bits_full m hm, List.length_range] at this
    exact this
  have HUS := Lib.hid hus
  have HRS := Lib.hid hrs
  have hlenU : us.length = m := by have := hU.1; rw [ints_len] at this; exact this
  have hlenR : rows.length = n := by have := hR.1; rw [ints_len] at this; exact this
  have HLU := Lib.hid hlenU
  have HLR := Lib.hid hlenR
  clear hP h24 hus hrs hlenU hlenR
  have mixed : Tryd.prog.follows .mixedOrders = true := by kernel_rfl
  obtain ⟨W1, hW1⟩ : ∃ W1, (w.alloc (.cells #[.slice A m cu] 22)).alloc (.cells #[.slice none 0 0, .slice none 0 0] 63) = W1 := ⟨_, rfl⟩
  have hb1 : Below w.heap.size w W1 := by rw [← hW1]; exact ((Below.refl _ w).alloc (Nat.le_refl _) _).alloc (by simp) _
  have u1 : Boxed W1 w.heap.size 22 (.slice A m cu) := by rw [← hW1]; exact (Boxed.new w _ _).alloc _
  have r1 : TBox W1 (w.heap.size + 1) none 0 0 none 0 0 := by rw [← hW1]; have := tbox_new (w.alloc (.cells #[.slice A m cu] 22)) none 0 0 none 0 0; rwa [World.size_alloc] at this
  have uc1 := u1.cell
  go_enter Tryd.func54, Tryd.ntmps54
  go_wp2_with fail
  refine (HFN.out _).mono ?_
  rintro e w' ⟨rfl, rfl⟩
  go_wp2_with fail
  refine (HME.out _ (hT.below hb1)).mono ?_
  rintro e w2 ⟨g, cg, rfl, ho2, hb2⟩
  have hg1 := (ho2.lt g rfl).1
  have hg2 := (ho2.lt g rfl).2
  have hw2 : Below w.heap.size w w2 := hb1.trans (hb2.mono hb1.size)
  have u2 : Boxed w2 w.heap.size 22 (.slice A m cu) := (hb2.block _ u1.lt).trans u1
  have hU2 := hU.below hw2
  have hR2 := hR.below hw2
  have HGW : Hid (w.heap.size + 1 < g) := Lib.hid (by have := r1.lt; omega)
  have HSORT := Lib.hid (sortStable_any W1.heap.size g m cg m (List.range m) (fun p => us.getD p 0) (fun i k => cmpI ((us.getD i 0 : Nat) : Int) ((us.getD k 0 : Nat) : Int)) 96 #[.pointer (some ⟨w.heap.size, 0, none⟩)] w2 ho2 hm (enters_of Tryd.func96 (by kernel_rfl) rfl)
    (traceCmp_ok w.heap.size g m cu A us w2 u2.cell hU2 (by have := HGW.out; omega) (fun b h0 hb e => by
      obtain ⟨b', off, e1, hb', _⟩ := hU.2 h0
      rw [e1] at hb
      injection hb with hb
      injection e with e
      have := HGW.out
      have hb9 : b' = b := hb
      omega) u2.lt) (fun x hx => List.mem_range.1 hx) (range_st _ m))
  clear hg1 hg2
  go_wp2_with fail
  refine HSORT.out.mono ?_
  rintro e w3 ⟨rfl, es, ho3, hg3, hperm, hst, hsrt⟩
  have hgw := HGW.out
  have hw3 : Below w.heap.size w w3 := hw2.grown hg3 hw2.size (fun q e => by cases e; omega)
  have u3 : Boxed w3 w.heap.size 22 (.slice A m cu) := u2.kept hg3 (fun e => by injection e with e; omega)
  have r3 : TBox w3 (w.heap.size + 1) none 0 0 none 0 0 := (r1.next hb2).apart hg3 (fun e => by injection e with e; omega)
  have uc3 := u3.cell
  have hml : m ≤ maxLen := by unfold maxLen; omega
  have hby : i1.bytes * m ≤ 281474976710656 := by rw [hz2']; omega
  clear hg3 ho2 hb2 hgw
  go_wp2_with (at_make; refine wpList_make_full _ rfl _ _ _ rfl w3.heap.size 102 i1 (.int .i64 0) 1 Tryd.underlying59 hi' hz0' hz1' _ _ (m : Int) (m : Int) m rfl rfl rfl rfl hby hml (Nat.le_refl _) ?_; intro w4 hown0 hg4)
  have ho4 : Own 102 w4 w3.heap.size (some ⟨w3.heap.size, 0, none⟩) m m (ints (List.replicate m 0)) := own_made hown0
  have hb4 : Below w3.heap.size w3 w4 := (Below.refl _ _).grown hg4 (Nat.le_refl _) (by simp)
  obtain ⟨W5, hW5⟩ : ∃ W5, w4.alloc (.cells #[.slice none 0 0, .slice (some ⟨w3.heap.size, 0, none⟩) m m] 63) = W5 := ⟨_, rfl⟩
  have x5 : TBox W5 w4.heap.size none 0 0 (some ⟨w3.heap.size, 0, none⟩) m m := by rw [← hW5]; exact tbox_new _ _ _ _ _ _ _
  have hb5 : Below w3.heap.size w3 W5 := by rw [← hW5]; exact hb4.alloc hb4.size _
  have ho5 : Own 102 W5 w3.heap.size (some ⟨w3.heap.size, 0, none⟩) m m (ints (List.replicate m 0)) := ho4.below (by rw [← hW5]; exact (Below.refl _ _).alloc (Nat.le_refl _) _)
  have HLT4 : Hid (w3.heap.size < w4.heap.size) := Lib.hid (ho4.lt _ rfl).2
  have HW3 := Lib.hid hw3
  have HPERM := Lib.hid hperm
  have HSRT := Lib.hid hsrt
  rw [hW5]
  obtain ⟨tb, htb⟩ : ∃ tb, tb = w4.heap.size := ⟨_, rfl⟩
  obtain ⟨bb, hbb⟩ : ∃ bb, bb = w3.heap.size := ⟨_, rfl⟩
  rw [← htb] at x5 HLT4 ⊢
  rw [← hbb] at x5 ho5 HLT4 ⊢
  have HTB := Lib.hid htb
  have HBB := Lib.hid hbb
  clear hown0 hg4 ho4 hb4 hW5 htb hbb HSORT HME HFN hperm hsrt hst
  go_loopw [24] (fun q wr => ∃ (k : Nat) (A1 : Option Addr) (c1 : Nat), k ≤ m ∧ q = .int .i64 (k : Int) ∧ TBox wr tb A1 k c1 (some ⟨bb, 0, none⟩) m m ∧ Own 2 wr w3.heap.size A1 k c1 (ints (letM us es m k)) ∧ Own 102 wr w3.heap.size (some ⟨bb, 0, none⟩) m m (ints (befM rows us es m k 0)) ∧ Below w3.heap.size w3 wr) (fun q _ => m - (intOf q).toNat)
  case atStart => exact ⟨0, none, 0, Nat.zero_le _, rfl, x5, Own.nil _ _ _, by rw [befM_zero]; exact ho5.mono (by rw [HBB.out]; exact Nat.le_refl _), hb5⟩
  case round =>
    clear x5 ho5 hb5
    obtain ⟨k, A1, c1, hk, rfl, x, ho, hob, hb⟩ := hrel
    have hpl := ho3.rd.below hb
    have hUr := (hU.below hw3).below hb
    have hRr := (hR.below hw3).below hb
    have ur : Boxed wr w.heap.size 22 (.slice A m cu) := (hb.block _ u3.lt).trans u3
    have urc := ur.cell
    have x0 := x.c0
    have x1 := x.c1
    have xf0 := x.fr 0
    have xf1 := x.fr 1
    by_cases hkm : k < m
    · obtain ⟨gp, op, xI, eI, hgp, hxI, hcI⟩ := hpl.at_ hkm
      have HL : Hid (es.length = m) := Lib.hid (by rw [HPERM.out.length_eq, List.length_range])
      rw [ints_getD es k (by rw [HL.out]; exact hkm)] at hxI
      injection hxI with hxI
      have HIM : Hid (es.getD k 0 < m) := Lib.hid (by
        have : es.getD k 0 ∈ es := by rw [List.getD_eq_getElem?_getD, List.getElem?_eq_getElem (by rw [HL.out]; exact hkm)]; exact List.getElem_mem _
        exact List.mem_range.1 (HPERM.out.mem_iff.1 this))
      obtain ⟨I, hI⟩ : ∃ I, I = es.getD k 0 := ⟨_, rfl⟩
      rw [← hI] at hxI HIM
      have HI := Lib.hid hI
      subst hxI
      cases eI
      rw [Nat.zero_add] at hcI
      have him := HIM.out
      obtain ⟨gu, ou, xU, eU, hgu, hxU, hcU⟩ := hUr.at_ him
      rw [ints_getD us I (by rw [HLU.out]; exact him)] at hxU
      injection hxU with hxU
      obtain ⟨Lt, hLt⟩ : ∃ Lt, Lt = us.getD I 0 := ⟨_, rfl⟩
      rw [← hLt] at hxU
      have HLT := Lib.hid hLt
      subst hxU eU
      have hmlx : k + 1 ≤ maxLen := by unfold maxLen; omega
      have hby2 : (k + 1) * 8 ≤ 140737488355328 := by omega
      have hdr : ∀ o, Below wr.heap.size wr ((wr.alloc o).drew) := fun o => (((Below.refl _ wr).alloc (Nat.le_refl _) o)).drew
      have y0' := fun o => (x.next (hdr o)).c0
      clear hLt hI
      have HLET : Hid (ints (letM us es m (k + 1)) = ints (letM us es m k ++ [Lt])) := Lib.hid (by rw [letM_snoc, HLT.out, HI.out])
      go_upto_region 7 with fail
      go_cut [36] from 29 to 37 (fun v wx => ∃ g9 cap, v = .slice (some ⟨g9, 0, none⟩) (k + 1) cap ∧ TBox wx tb (some ⟨g9, 0, none⟩) (k + 1) cap (some ⟨bb, 0, none⟩) m m ∧ Own 2 wx w3.heap.size (some ⟨g9, 0, none⟩) (k + 1) cap (ints (letM us es m (k + 1))) ∧ Own 102 wx w3.heap.size (some ⟨bb, 0, none⟩) m m (ints (befM rows us es m k 0)) ∧ Below w3.heap.size w3 wx)
      case first =>
        go_region_law (refine step_append_lies _ (by rfl) _ _ _ (by rfl) w3.heap.size 2 i0 _ 1 8 Tryd.underlying22 hi hz0 hz1 hz2 rfl (by omega) (.slice A1 k c1) k ((ints (letM us es m k)).map (Value.int .i64)) (by rfl) ((World.ownsRow.alloc ho _).drew) ⟨wr.heap.size, 0, none⟩ 1 1 [.int .i64 (Lt : Int)] (by rfl) (by rfl) (World.news_of_block (cs := #[.int .i64 (Lt : Int)]) (t := 2) (fr := (0, 0)) (heap_alloc_new wr _)) (by simp [Value.oneCell']) (by omega) hmlx hby2 (by have := hb.size; simp; omega) (wr.heap.size + 1) (by simp) ?_; intro g9 cap w6 hown hg hat hlt9; have x6 : TBox w6 tb A1 k c1 (some ⟨bb, 0, none⟩) m m := (x.next (hdr _)).apart hg (fun e => x.ne_own ho (by decide) (ownBlock_map' e) rfl); have z0 := x6.c0; have zf := x6.fr 0)
        all_goals (
          rw [ints_snoc_map, ← HLET.out] at hown
          have hbt := HLT4.out
          have hbb := HBB.out
          have hgt : g9 ≠ tb := by
            rcases hat with h9 | h9
            · exact x.ne_own ho (by decide) (ownBlock_map' h9)
            · have := x.lt; omega
          have hb6 : Below w3.heap.size w3 w6 := (hb.trans ((hdr _).mono hb.size)).grown hg (by have := hb.size; simp; omega) (fun q hq => (ho.lt _ (ownBlock_map' hq)).1)
          have hob6 : Own 102 w6 w3.heap.size (some ⟨bb, 0, none⟩) m m (ints (befM rows us es m k 0)) := Own.apart (hob.below (hdr _)) hg (fun q hq e9 => own_ne ho hob (by decide) (ownBlock_map' e9) hq rfl)
          have ho7 := own_other (show Own 2 w6 w3.heap.size (some ⟨g9, 0, none⟩) (k + 1) cap (ints (letM us es m (k + 1))) from hown) tb 0 (.slice (some ⟨g9, 0, none⟩) (k + 1) cap) (by intro q hq; cases hq; exact hgt)
          have hob7 := own_other hob6 tb 0 (.slice (some ⟨g9, 0, none⟩) (k + 1) cap) (by intro q hq; cases hq; exact Nat.ne_of_lt hbt)
          have hb7 := hb6.setCell (p := ⟨tb, 0, none⟩) (by show w3.heap.size ≤ tb; omega) (.slice (some ⟨g9, 0, none⟩) (k + 1) cap)
          have x7 := x6.set0 (some ⟨g9, 0, none⟩) (k + 1) cap
          clear hbt hbb hg hat hlt9
          go_wp2_with fail
          go_meet
          exact ⟨g9, cap, rfl, x7, ho7, hob7, hb7⟩)
      case rest =>
        obtain ⟨g9, cap, rfl, x7, ho7, hob7, hb7⟩ := hcut
        clear x ho hob hb hpl hUr hRr ur urc x0 x1 xf0 xf1 hdr y0' hcI hcU hgp hgu HLET
        go_wp2_with fail
        go_loopw [40] (fun q wy => ∃ f, f ≤ m ∧ q = .int .i64 ((f : Nat) : Int) ∧ TBox wy tb (some ⟨g9, 0, none⟩) (k + 1) cap (some ⟨bb, 0, none⟩) m m ∧ Own 2 wy w3.heap.size (some ⟨g9, 0, none⟩) (k + 1) cap (ints (letM us es m (k + 1))) ∧ Own 102 wy w3.heap.size (some ⟨bb, 0, none⟩) m m (ints (befM rows us es m k f)) ∧ Below w3.heap.size w3 wy) (fun q _ => m - (intOf q).toNat)
        case atStart => exact ⟨0, Nat.zero_le _, rfl, x7, ho7, hob7, hb7⟩
        case round =>
          clear x7 ho7 hob7 hb7
          obtain ⟨f, hf, rfl, x, ho, hob, hb⟩ := hrel
          have hpl := ho3.rd.below hb
          have hUr := (hU.below HW3.out).below hb
          have hRr := (hR.below HW3.out).below hb
          have ur := (show Boxed _ w.heap.size 22 _ from (hb.block _ u3.lt).trans u3)
          have urc := ur.cell
          have x1 := x.c1
          by_cases hfm : f < m
          · obtain ⟨gp, op, xJ, eJ, hgp, hxJ, hcJ⟩ := hpl.at_ hfm
            rw [ints_getD es f (by rw [HL.out]; exact hfm)] at hxJ
            injection hxJ with hxJ
            have HJM : Hid (es.getD f 0 < m) := Lib.hid (by
              have : es.getD f 0 ∈ es := by rw [List.getD_eq_getElem?_getD, List.getElem?_eq_getElem (by rw [HL.out]; exact hfm)]; exact List.getElem_mem _
              exact List.mem_range.1 (HPERM.out.mem_iff.1 this))
            obtain ⟨J, hJ⟩ : ∃ J, J = es.getD f 0 := ⟨_, rfl⟩
            rw [← hJ] at hxJ HJM
            have HJ := Lib.hid hJ
            subst hxJ
            cases eJ
            rw [Nat.zero_add] at hcJ
            have hjm := HJM.out
            have HBEF : Hid (befP rows us es k f = (decide (J < I) && RDep rows Lt (us.getD J 0))) := Lib.hid (by unfold befP; rw [← HJ.out, ← HI.out, ← HLT.out])
            clear hJ
            by_cases hJI : J < I
            · obtain ⟨gv, ov, xV, eV, hgv, hxV, hcV⟩ := hUr.at_ hjm
              obtain ⟨gi, oi, xX, eX, hgi, hxX, hcX⟩ := hUr.at_ him
              rw [ints_getD us J (by rw [HLU.out]; exact hjm)] at hxV
              rw [ints_getD us I (by rw [HLU.out]; exact him)] at hxX
              injection hxV with hxV
              injection hxX with hxX
              obtain ⟨V, hV⟩ : ∃ V, V = us.getD J 0 := ⟨_, rfl⟩
              rw [← hV] at hxV HBEF
              have HV := Lib.hid hV
              rw [← HLT.out] at hxX
              subst hxV hxX
              cases eV
              cases eX
              have hvn : V < n := by have := HUS.out J hjm; rw [← HV.out] at this; exact this
              have hln : Lt < n := by have := HUS.out I him; rw [← HLT.out] at this; exact this
              obtain ⟨gd, od, xD, eD, hgd, hxD, hcD⟩ := hRr.at_ hln
              rw [ints_getD rows Lt (by rw [HLR.out]; exact hln)] at hxD
              injection hxD with hxD
              obtain ⟨D, hD⟩ : ∃ D, D = rows.getD Lt 0 := ⟨_, rfl⟩
              rw [← hD] at hxD
              have hD63 : D < 9223372036854775808 := by rw [hD]; exact HRS.out Lt
              have HDB : Hid (RDep rows Lt V = D.testBit V) := Lib.hid (by unfold RDep; rw [hD])
              subst hxD
              subst eD
              have HHAS : Hid (∀ ww : World, Calls Tryd.prog 98 #[.int .i64 (D : Int), .int .i64 (V : Int)] ww fun e w'' => e = .returned (.bool (D.testBit V)) ∧ w'' = ww) := Lib.hid fun ww => (has_any D V hD63 (by omega) ww).mono fun _ _ h => ⟨h.1, h.2.symm⟩
              have hdJ : decide (J < I) = true := decide_eq_true hJI
              have hn0 : 0 < n := by omega
              obtain ⟨b, hb9⟩ : ∃ b, b = D.testBit V := ⟨_, rfl⟩
              rw [← hb9] at HHAS
              have HB9 := Lib.hid hb9
              clear hD hV hb9 hD63
              go_wp2_with fail
              refine wp_region_still_lit (by kernel_rfl) (by kernel_rfl) ?_
              iterate 4 still_step
              iterate 11 ((with_reducible refine wpStill_want ?_ ?_); kernel_rfl; intro K hK; go_simp; refine hK _ ?_; clear hK K)
              (with_reducible refine wpStill_want ?_ ?_); kernel_rfl; intro K hK; go_simp
              refine ⟨_, HHAS.out _, hK _ ?_⟩; clear hK K
              still_step
              refine wpStill_nil ?_
              have hdw : Below wr.heap.size wr wr.drew := (Below.refl _ _).drew
              cases b
              · have HNX : Hid (befM rows us es m k f = befM rows us es m k (f + 1)) := Lib.hid (befM_skip _ _ _ _ _ _ (by rw [HBEF.out, hdJ, HDB.out, ← HB9.out]; rfl))
                go_wp2_with fail
                go_roundw
                case rel => exact ⟨f + 1, hfm, by go_num, x.next hdw, ho.below hdw, by rw [← HNX.out]; exact hob.below hdw, hb.trans (hdw.mono hb.size)⟩
                case measure => simp [intOf]; omega
              · have HNX : Hid ((befM rows us es m k f).set k ((befM rows us es m k f).getD k 0 ||| 2 ^ f) = befM rows us es m k (f + 1)) := Lib.hid (befM_set _ _ _ _ _ _ hkm (by rw [HBEF.out, hdJ, HDB.out, ← HB9.out]; rfl))
                obtain ⟨M, hM⟩ : ∃ M, M = (befM rows us es m k f).getD k 0 := ⟨_, rfl⟩
                have hM24 : M < 2 ^ m := by rw [hM]; exact befM_lt _ _ _ _ _ _ hf _
                have hp24 : (2:Nat) ^ m ≤ 2 ^ 24 := Nat.pow_le_pow_right (by decide) hm
                rw [← hM] at HNX
                obtain ⟨N, hN⟩ : ∃ N, N = M ||| 2 ^ f := ⟨_, rfl⟩
                rw [← hN] at HNX
                have HWI : Hid (∀ ww : World, Calls Tryd.prog 99 #[.int .i64 (M : Int), .int .i64 (f : Int)] ww fun e w'' => e = .returned (.int .i64 (N : Int)) ∧ w'' = ww) := Lib.hid fun ww => (with_any M f (by omega) (by omega) ww).mono fun _ _ h => ⟨by rw [hN]; exact h.1, h.2.symm⟩
                obtain ⟨wd, hwd⟩ : ∃ wd, wd = wr.drew := ⟨_, rfl⟩
                have hdw : Below wr.heap.size wr wd := by rw [hwd]; exact (Below.refl _ _).drew
                have xd := x.next hdw
                have hod := ho.below hdw
                have hobd := hob.below hdw
                have hbd := hb.trans (hdw.mono hb.size)
                have hcM : wd.cell? ⟨bb, k, none⟩ = some (.int .i64 (M : Int)) := hobd.cell (by rw [ints_getD _ k (by rw [befM_len]; exact hkm), ← hM])
                have hfM := hobd.frozen k
                have hm0 : 0 < m := by omega
                have xd1 := xd.c1
                clear hM hN hM24 hp24
                go_wp2_with fail
                change Code.wp _ _ _ _ wr.drew
                rw [← hwd]
                clear hwd hdw
                go_still_tail 11, mixed
                still_call (HWI.out _)
                repeat still_step
                refine wpStill_nil ?_
                change wpList _ _ _ _ _ wd.drew
                have hdw2 : Below wd.heap.size wd wd.drew := (Below.refl _ _).drew
                have x3 := (xd.next hdw2).other bb k (.int .i64 (N : Int)) (by have := HLT4.out; omega)
                have ho3 := own_other (hod.below hdw2) bb k (.int .i64 (N : Int)) (fun q hq => own_ne (hod.below hdw2) (hobd.below hdw2) (by decide) hq rfl)
                have hob3 := (hobd.below hdw2).set_ k (N : Int)
                rw [ints_set, HNX.out] at hob3
                have hb3 := (hbd.trans (hdw2.mono hbd.size)).setCell (p := ⟨bb, k, none⟩) (by show w3.heap.size ≤ bb; rw [HBB.out]; exact Nat.le_refl _) (.int .i64 (N : Int))
                go_wp2_with fail
                go_roundw
                case rel => exact ⟨f + 1, hfm, by go_num, x3, ho3, hob3, hb3⟩
                case measure => simp [intOf]; omega
            · have hdJ : decide (J < I) = false := decide_eq_false hJI
              go_wp2_with fail
              refine wp_region_still_lit (by kernel_rfl) (by kernel_rfl) ?_
              iterate 4 still_step
              iterate 12 ((with_reducible refine wpStill_skip ?_ ?_); kernel_rfl; simp only [Act.put, List.setIfInBounds_toArray, List.set_cons_zero, List.set_cons_succ])
              still_step
              refine wpStill_nil ?_
              have hdw : Below wr.heap.size wr wr.drew := (Below.refl _ _).drew
              have HNX : Hid (befM rows us es m k f = befM rows us es m k (f + 1)) := Lib.hid (befM_skip _ _ _ _ _ _ (by rw [HBEF.out, hdJ]; rfl))
              go_wp2_with fail
              go_roundw
              case rel => exact ⟨f + 1, hfm, by go_num, x.next hdw, ho.below hdw, by rw [← HNX.out]; exact hob.below hdw, hb.trans (hdw.mono hb.size)⟩
              case measure => simp [intOf]; omega
          · have hfe : f = m := by omega
            subst hfe
            have HRD : Hid (befM rows us es f k f = befM rows us es f (k + 1) 0) := Lib.hid (befM_round _ _ _ _ _)
            go_wp2_with fail
            go_roundw
            case rel => exact ⟨k + 1, some ⟨g9, 0, none⟩, cap, hkm, by go_num, x, ho, by rw [← HRD.out]; exact hob, hb⟩
            case measure => simp [intOf]; omega
    · have hke : k = m := by omega
      subst hke
      have rr : TBox wr (w.heap.size + 1) none 0 0 none 0 0 := r3.next hb
      have rc0 := rr.c0
      have rc1 := rr.c1
      have rf0 := rr.fr 0
      have rf1 := rr.fr 1
      have hwr : Below w.heap.size w wr := HW3.out.trans (hb.mono HW3.out.size)
      have hl3 : Hid (w.heap.size + 1 < w3.heap.size) := Lib.hid r3.lt
      have HFIN : Hid (TBox ((wr.setCell ⟨w.heap.size + 1, 0, none⟩ (.slice A1 k c1)).setCell ⟨w.heap.size + 1, 1, none⟩ (.slice (some ⟨bb, 0, none⟩) k k)) (w.heap.size + 1) A1 k c1 (some ⟨bb, 0, none⟩) k k ∧ Rd ((wr.setCell ⟨w.heap.size + 1, 0, none⟩ (.slice A1 k c1)).setCell ⟨w.heap.size + 1, 1, none⟩ (.slice (some ⟨bb, 0, none⟩) k k)) A1 k (ints (letM us es k k)) ∧ Rd ((wr.setCell ⟨w.heap.size + 1, 0, none⟩ (.slice A1 k c1)).setCell ⟨w.heap.size + 1, 1, none⟩ (.slice (some ⟨bb, 0, none⟩) k k)) (some ⟨bb, 0, none⟩) k (ints (befM rows us es k k 0)) ∧ Below w.heap.size w ((wr.setCell ⟨w.heap.size + 1, 0, none⟩ (.slice A1 k c1)).setCell ⟨w.heap.size + 1, 1, none⟩ (.slice (some ⟨bb, 0, none⟩) k k))) := Lib.hid (by
        have h9 := hl3.out
        have n1 : ∀ q, A1.map (·.block) = some q → q ≠ w.heap.size + 1 := fun q hq => by have := (ho.lt q hq).1; omega
        have n2 : ∀ q, (some (⟨bb, 0, none⟩ : Addr)).map (·.block) = some q → q ≠ w.heap.size + 1 := fun q hq => by have := (hob.lt q hq).1; omega
        exact ⟨(rr.set0 _ _ _).set1 _ _ _, (own_other (own_other ho _ 0 _ n1) _ 1 _ n1).rd, (own_other (own_other hob _ 0 _ n2) _ 1 _ n2).rd, (hwr.setCell (p := ⟨w.heap.size + 1, 0, none⟩) (Nat.le_succ _) _).setCell (p := ⟨w.heap.size + 1, 1, none⟩) (Nat.le_succ _) _⟩)
      have HN1 : Hid (∀ q, A1.map (·.block) = some q → w.heap.size ≤ q) := Lib.hid fun q hq => by have := (ho.lt q hq).1; have := hl3.out; omega
      have HN2 : Hid (∀ q, (some (⟨bb, 0, none⟩ : Addr)).map (·.block) = some q → w.heap.size ≤ q) := Lib.hid fun q hq => by have := (hob.lt q hq).1; have := hl3.out; omega
      clear hwr
      go_wp2_with fail
      refine ret_gen (fun W => TBox W (w.heap.size + 1) A1 k c1 (some ⟨bb, 0, none⟩) k k ∧ Rd W A1 k (ints (letM us es k k)) ∧ Rd W (some ⟨bb, 0, none⟩) k (ints (befM rows us es k k 0)) ∧ Below w.heap.size w W) HFIN.out fun W ⟨h1, h2, h3, h4⟩ => ?_
      have e0 := h1.c0
      have e1 := h1.c1
      refine bodyPost_ret (v := .agg #[.slice A1 k c1, .slice (some ⟨bb, 0, none⟩) k k]) (by simp [results, Tryd.results54, go_sem, e0, e1]) rfl ?_
      exact ⟨A1, c1, some ⟨bb, 0, none⟩, k, es, rfl, HPERM.out, HSRT.out, h2, h3, HN1.out, HN2.out, h4⟩
end Go.Proofs.YtokikilfmglhhaaDoor
