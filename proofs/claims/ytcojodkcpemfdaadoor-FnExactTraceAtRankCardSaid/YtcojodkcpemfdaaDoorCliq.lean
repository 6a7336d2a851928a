/-
  The cliques of a relation: the program's way and the model's, by contracts.
-/
import Derived.Test.YtcojodkcpemfdaaDoorFam
import Derived.Conc.MuLone
namespace Go.Proofs.YtcojodkcpemfdaaDoor
open Go.RowKit
set_option linter.unusedVariables false
set_option maxRecDepth 100000

theorem bitsOf_full (n : Nat) (hn : n ≤ 24) : bitsOf (2 ^ n - 1) = List.range n := by
  unfold bitsOf
  rw [upTo_skip (2 ^ n - 1) n 24 hn (fun b h1 _ => by rw [Nat.testBit_two_pow_sub_one]; simp; omega)]
  unfold upTo
  rw [List.filter_eq_self]
  intro b hb
  rw [Nat.testBit_two_pow_sub_one]
  simpa using hb
theorem or_top (s m : Nat) (h : s < 2 ^ m) : s ||| 2 ^ m = s + 2 ^ m := by
  rw [Nat.or_comm, nat_join m (2 ^ m) s (Nat.mod_self _) h, Nat.add_comm]
theorem famM_asc (fit : Nat → Nat → Bool) (m : Nat) : Asc (famM fit (List.range m)) := by
  induction m with
  | zero => exact List.pairwise_singleton _ _
  | succ m ih =>
    have hl := famM_lt fit (List.range m) m (fun k hk => List.mem_range.1 hk)
    rw [List.range_succ, famM_snoc]
    unfold famStep Asc
    rw [List.pairwise_append]
    refine ⟨ih, ?_, ?_⟩
    · rw [List.pairwise_map]
      refine List.Pairwise.imp_of_mem ?_ (List.Pairwise.filter (fun s => fit s m) ih)
      intro a b ha hb hab
      have h1 := hl a (List.mem_filter.1 ha).1
      have h2 := hl b (List.mem_filter.1 hb).1
      rw [or_top a m h1, or_top b m h2]; omega
    · intro a ha b hb
      obtain ⟨q, hq, rfl⟩ := List.mem_map.1 hb
      have h1 := hl a ha
      have h2 := hl q (List.mem_filter.1 hq).1
      rw [or_top q m h2]; omega
def fitC (us : List Nat) (s k : Nat) : Bool := dif s (us.getD k 0) == 0
/-- All cliques, in ascending order. -/
def cliqM (rs : List Nat) : List Nat := famM (fitC (mutM rs)) (List.range rs.length)

theorem within_any (a b : Nat) (ha : a < 9223372036854775808) (hb : b < 9223372036854775808) (w : World) :
    Calls Tryd.prog 174 #[.int .i64 (a : Int), .int .i64 (b : Int)] w fun e w' => e = .returned (.bool (dif a b == 0)) ∧ w = w' := by
  have h := isWithin_int (a : Int) (b : Int) w
  rw [i64_andNot_nat a b ha hb] at h
  have e : (((dif a b : Nat) : Int) == 0) = (dif a b == 0) := by
    rw [Bool.eq_iff_iff]; simp only [beq_iff_eq]; omega
  rw [e] at h
  exact h
theorem fitC_any (s k n cm gb : Nat) (Am : Option Addr) (us : List Nat) (w : World) (hs : s < 16777216) (hk : k < n) (hn : n ≤ 24) (hu : ∀ i, us.getD i 0 < 2 ^ n) (hul : us.length = n) (hc : w.cell? ⟨gb, 0, none⟩ = some (.slice Am n cm)) (hrd : Rd w Am n (ints us)) :
    Calls Tryd.prog 224 #[.int .i64 (s : Int), .int .i64 (k : Int), .pointer (some ⟨gb, 0, none⟩)] w fun e w' => e = .returned (.bool (fitC us s k)) ∧ w = w' := by
  obtain ⟨b, off, x, rfl, hbs, hx, hcx⟩ := hrd.at_ hk
  have hx2 := ints_getD us k (by omega)
  rw [hx2] at hx
  injection hx with hx
  subst hx
  have hs63 : s < 9223372036854775808 := by omega
  have hm := lt63 hn (hu k)
  have e0 : fitC us s k = (dif s (us.getD k 0) == 0) := rfl
  obtain ⟨D, hD⟩ : ∃ D, D = us.getD k 0 := ⟨_, rfl⟩
  rw [← hD] at hcx hm e0
  have HE := Lib.hid e0
  clear hD hx2 hul e0 hrd hu
  go_enter Tryd.func224, Tryd.ntmps224
  go_wp2_with (go_at_call 174; refine (within_any s D hs63 hm _).mono ?_; rintro e w' ⟨rfl, rfl⟩)
  go_ret
  exact ⟨ret_b _ _ HE.out.symm, rfl⟩
set_option maxHeartbeats 1600000 in
theorem cliques_any (A : Option Addr) (n c : Nat) (rs : List Nat) (w : World) (h : Rd w A n (ints rs)) (hn : n ≤ 24) (hr : ∀ i, rs.getD i 0 < 2 ^ n) (hT : Tab w) :
    Calls Tryd.prog 215 #[.slice A n c] w (FamPost w (cliqM rs)) := by
  have hlen : rs.length = n := by have := h.1; rw [ints_len] at this; exact this
  have hmu := mutM_lt rs n hlen hr
  have HML : Hid ((mutM rs).length = n) := Lib.hid (by rw [mutM_len, hlen])
  have HCM : Hid (cliqM rs = famM (fitC (mutM rs)) (List.range n)) := Lib.hid (by unfold cliqM; rw [hlen])
  clear hlen
  have hn62 : n ≤ 62 := by omega
  have hfull : 2 ^ n - 1 < 16777216 := by have := p24 n hn; have := p2_pos n; omega
  have eg : ∀ args w, (callFunc 224 args).run Tryd.prog w = .ok (.enter 224 args) w := fun args w => Go.MuLone.run_callFunc_enter (P := Tryd.prog) Tryd.func224 (by kernel_rfl) rfl args w
  go_enter Tryd.func215, Tryd.ntmps215
  go_wp2_with fail
  refine (mutual_any A n c rs _ h hn hr hT).mono ?_
  rintro e w1 ⟨A1, c1, rfl, ho1, hb1⟩
  go_wp2_with fail
  refine (firstNumbers_any n hn62 _).mono ?_
  rintro e w' ⟨rfl, rfl⟩
  go_wp2_with fail
  refine (members_any (2 ^ n - 1) hfull _ ?_).mono ?_
  · exact hT.below ((hb1.alloc hb1.size _))
  rintro e w2 ⟨A2, c2, rfl, ho2, hb2⟩
  have hb02 : Below w.heap.size w w2 := (hb1.alloc hb1.size _).trans (hb2.mono (by have := hb1.size; simp; omega))
  rw [bitsOf_full n hn] at ho2 ⊢
  have ho2' : Own 2 w2 (w1.alloc (.cells #[.slice A1 n c1] 73)).heap.size A2 n c2 (ints (List.range n)) := by
    have h9 := ho2; rw [List.length_range] at h9; exact h9
  rw [List.length_range]
  have hbox : w2.cell? ⟨w1.heap.size, 0, none⟩ = some (.slice A1 n c1) := by
    rw [hb2.cell (p := ⟨w1.heap.size, 0, none⟩) (by simp)]
    exact (cell_one_new w1 (.slice A1 n c1) _) 0 _ rfl
  have hrd2 : Rd w2 A1 n (ints (mutM rs)) := by
    refine ho1.rd.below ?_
    exact ((Below.refl _ _).alloc (Nat.le_refl _) _).trans (hb2.mono (by simp))
  have HBX := Lib.hid hbox
  have hboxlt : w1.heap.size < w2.heap.size := block_lt_of_cell hbox
  clear ho2 hbox
  go_wp2_with fail
  refine (familyOf_any (fitC (mutM rs)) 224 #[.pointer (some ⟨w1.heap.size, 0, none⟩)] A2 n c2 (List.range n) _ ho2'.rd hn (fun k hk => by have := List.mem_range.1 hk; omega) (famM_asc _ n) eg (fun s k wx hs hk hbx => fitC_any s k n c1 w1.heap.size A1 (mutM rs) wx hs (List.mem_range.1 hk) hn hmu HML.out ((hbx.cell (p := ⟨w1.heap.size, 0, none⟩) hboxlt).trans HBX.out) (hrd2.below hbx))).mono ?_
  rintro e w3 hp
  rcases hp with ⟨hle, A3, c3, rfl, ho3, hb3⟩ | ⟨hgt, rfl, hb3⟩
  · have hb03 := hb02.trans (hb3.mono hb02.size)
    have ho3' := ho3.mono hb02.size
    have hle2 := Lib.hid hle
    clear eg hle ho3
    go_wp2_with fail
    go_ret2
    show FamPost w (cliqM rs) _ _
    rw [HCM.out]
    exact .inl ⟨hle2.out, A3, c3, rfl, ho3', hb03⟩
  · have hb03 := hb02.trans (hb3.mono hb02.size)
    have hgt2 := Lib.hid hgt
    clear eg hgt
    go_wp2_with fail
    go_ret2
    show FamPost w (cliqM rs) _ _
    rw [HCM.out]
    exact .inr ⟨hgt2.out, rfl, hb03⟩

/-- A family as an answer: the list, or ErrLimit. -/
def famAns (fs : List Nat) : List Int × Int := if fs.length ≤ 4096 then (ints fs, 0) else ([], 3)
theorem famAns_small (fs : List Nat) : (famAns fs).1.length ≤ 4096 := by
  unfold famAns
  split
  · show (ints fs).length ≤ 4096; rw [ints_len]; assumption
  · exact Nat.zero_le _
def cliqAns (xs : List Int) : List Int × Int := if relB xs = true then famAns (cliqM (xs.map Int.toNat)) else ([], 1)
theorem cliqAns_small (xs : List Int) : (cliqAns xs).1.length ≤ 4096 := by
  unfold cliqAns
  split
  · exact famAns_small _
  · exact Nat.zero_le _
theorem AnsPost.from_ {w w1 w' : World} {ys : List Int} {code : Int} {e : Ending} (h : AnsPost w1 ys code e w') (hb : Below w.heap.size w w1) : AnsPost w ys code e w' := by
  obtain ⟨A, c, he, ho, hb2⟩ := h
  exact ⟨A, c, he, ho.mono hb.size, hb.trans (hb2.mono hb.size)⟩
end Go.Proofs.YtcojodkcpemfdaaDoor
