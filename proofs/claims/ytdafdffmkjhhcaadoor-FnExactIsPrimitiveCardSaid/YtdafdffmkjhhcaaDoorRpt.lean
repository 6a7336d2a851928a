/-
  slices.Repeat of numbers, and of slices.
-/
import Derived.Test.YtdafdffmkjhhcaaDoorMn
namespace Go.Proofs.YtdafdffmkjhhcaaDoor
open Go Go.RowKit
set_option linter.unusedVariables false
set_option maxRecDepth 100000

theorem info_slsR : (Tryd.prog.info? 22).map (fun i => (i.zero, i.size, i.bytes)) = some (some (.slice none 0 0), 1, 24) := by kernel_rfl
theorem u64and (a : Nat) (h : a < 4294967296) : bits .and .u64 (a : Int) 4294967295 = (a : Int) := by
  have h1 := u64_and_nat a 4294967295 (by omega) (by omega)
  have h2 : ((4294967295 : Nat) : Int) = 4294967295 := rfl
  rw [h2] at h1
  rw [h1]
  have h3 : a &&& 4294967295 = a := by
    have := Nat.and_two_pow_sub_one_eq_mod a 32
    rw [show (2:Nat) ^ 32 - 1 = 4294967295 by decide, show (2:Nat) ^ 32 = 4294967296 by decide, Nat.mod_eq_of_lt h] at this
    exact this
  rw [h3]
set_option maxHeartbeats 1600000 in
theorem mul64_any (a b : Nat) (ha : a ≤ 1048576) (hb : b ≤ 1048576) (w : World) :
    Calls Tryd.prog 182 #[.int .u64 (a : Int), .int .u64 (b : Int)] w fun e w' => e = .returned (.tuple #[.int .u64 0, .int .u64 ((a * b : Nat) : Int)]) ∧ w = w' := by
  have hab : a * b ≤ 1048576 * 1048576 := Nat.mul_le_mul ha hb
  obtain ⟨P, hP⟩ : ∃ P, P = a * b := ⟨_, rfl⟩
  have hPI : (a : Int) * (b : Int) = (P : Int) := by rw [hP]; exact (Int.natCast_mul a b).symm
  rw [← hP] at hab ⊢
  have a0 := u64and a (by omega)
  have b0 := u64and b (by omega)
  have a1 : (a : Int) / 4294967296 = 0 := by omega
  have b1 : (b : Int) / 4294967296 = 0 := by omega
  have w0 : IntKind.u64.wrap (P : Int) = (P : Int) := IntWalk.u64_in _ (by omega)
  obtain ⟨Q, hQ⟩ : ∃ Q : Nat, (P : Int) / 4294967296 = (Q : Int) := ⟨P / 4294967296, by omega⟩
  have hq : Q < 4294967296 := by omega
  have q0 := u64and Q hq
  have q1 : (Q : Int) / 4294967296 = 0 := by omega
  have q2 : IntKind.u64.wrap (Q : Int) = (Q : Int) := IntWalk.u64_in _ (by omega)
  have z0 : IntKind.u64.wrap 0 = 0 := rfl
  clear hP
  go_enter Tryd.func182, Tryd.ntmps182
  go_wp2_with fail
  go_ret2
  exact ⟨rfl, rfl⟩
set_option maxHeartbeats 1600000 in
theorem mul_any (a b : Nat) (ha : a ≤ 1048576) (hb : b ≤ 1048576) (w : World) :
    Calls Tryd.prog 165 #[.int .u64 (a : Int), .int .u64 (b : Int)] w fun e w' => e = .returned (.tuple #[.int .u64 0, .int .u64 ((a * b : Nat) : Int)]) ∧ w = w' := by
  have HM := Lib.hid (mul64_any a b ha hb w)
  obtain ⟨P, hP⟩ : ∃ P, P = a * b := ⟨_, rfl⟩
  rw [← hP] at HM ⊢
  clear hP
  go_enter Tryd.func165, Tryd.ntmps165
  go_wp2_with fail
  refine HM.out.mono ?_
  rintro e w' ⟨rfl, rfl⟩
  go_wp2_with fail
  go_ret2
  exact ⟨rfl, rfl⟩
/-- A list repeated. -/
def repV {α : Type} (i : Nat) (vs : List α) : List α := (List.replicate i vs).flatten
theorem repV_zero {α : Type} (vs : List α) : repV 0 vs = [] := rfl
theorem repV_one {α : Type} (vs : List α) : repV 1 vs = vs := by unfold repV; simp
theorem repV_add {α : Type} (i j : Nat) (vs : List α) : repV (i + j) vs = repV i vs ++ repV j vs := by unfold repV; rw [← List.replicate_append_replicate, List.flatten_append]
theorem repV_len {α : Type} (i : Nat) (vs : List α) : (repV i vs).length = vs.length * i := by
  induction i with
  | zero => rfl
  | succ i ih => rw [repV_add, List.length_append, ih, repV_one, Nat.mul_succ]
theorem repV_mem {α : Type} {i : Nat} {vs : List α} {x : α} (h : x ∈ repV i vs) : x ∈ vs := by
  unfold repV at h
  obtain ⟨l, hl, hx⟩ := List.mem_flatten.1 h
  rw [(List.mem_replicate.1 hl).2] at hx; exact hx
theorem repV_map {α β : Type} (f : α → β) (i : Nat) (vs : List α) : (repV i vs).map f = repV i (vs.map f) := by
  induction i with
  | zero => rfl
  | succ i ih => rw [repV_add, repV_add, List.map_append, ih, repV_one, repV_one]
/-- One round of doubling. -/
theorem rep_round {α : Type} (i k n c : Nat) (vs Z : List α) (hi : i ≤ k) (hn : n = vs.length * i) (hZ : Z.length = vs.length * k) (ht : Z.take n = repV i vs) (hlt : n < vs.length * k) (hi1 : 1 ≤ i) (hc : c = Nat.min n (vs.length * k - n)) :
    (Z.take c).length = c ∧ n + c ≤ Z.length ∧ ∃ j, j ≤ k ∧ 1 ≤ j ∧ n + c = vs.length * j ∧ (splice Z n (Z.take c)).take (n + c) = repV j vs ∧ (splice Z n (Z.take c)).length = vs.length * k := by
  have hcn : c ≤ n := by rw [hc]; exact Nat.min_le_left _ _
  have hcl : c ≤ vs.length * k - n := by rw [hc]; exact Nat.min_le_right _ _
  have h1 : (Z.take c).length = c := by rw [List.length_take]; omega
  have h2 : n + c ≤ Z.length := by omega
  have hsp : splice Z n (Z.take c) = Z.take n ++ (Z.take c ++ Z.drop (n + c)) := by
    unfold splice
    rw [h1]
  have h3 : (splice Z n (Z.take c)).length = vs.length * k := by rw [length_splice _ _ _ (by rw [h1]; exact h2), hZ]
  have h4 : (splice Z n (Z.take c)).take (n + c) = repV i vs ++ (repV i vs).take c := by
    have hA : (Z.take n).length = n := by rw [List.length_take]; omega
    have hT := List.take_append (l₁ := Z.take n) (l₂ := Z.take c ++ Z.drop (n + c)) (i := n + c)
    rw [hA, Nat.add_sub_cancel_left, List.take_of_length_le (l := Z.take n) (by rw [hA]; omega)] at hT
    have hU := List.take_append (l₁ := Z.take c) (l₂ := Z.drop (n + c)) (i := c)
    rw [h1, Nat.sub_self, List.take_zero, List.append_nil, List.take_of_length_le (l := Z.take c) (by rw [h1]; exact Nat.le_refl _)] at hU
    rw [hsp, hT, hU, ht]
    congr 1
    rw [← ht, List.take_take, Nat.min_eq_left hcn]
  have hpos : 0 < vs.length := by
    rcases Nat.eq_zero_or_pos vs.length with h | h
    · rw [h, Nat.zero_mul] at hlt; omega
    · exact h
  refine ⟨h1, h2, ?_⟩
  rcases Nat.le_total n (vs.length * k - n) with hle | hle
  · have hcc : c = n := by rw [hc]; exact Nat.min_eq_left hle
    have hk : i + i ≤ k := by
      have : vs.length * (i + i) ≤ vs.length * k := by rw [Nat.mul_add, ← hn]; omega
      exact Nat.le_of_mul_le_mul_left this hpos
    refine ⟨i + i, hk, ?_, by rw [Nat.mul_add, ← hn, hcc], ?_, h3⟩
    · omega
    · rw [h4, repV_add]
      congr 1
      exact List.take_of_length_le (by rw [repV_len, ← hn, hcc]; exact Nat.le_refl _)
  · have hcc : c = vs.length * k - n := by rw [hc]; exact Nat.min_eq_right hle
    refine ⟨k, Nat.le_refl _, ?_, by omega, ?_, h3⟩
    · rcases Nat.eq_zero_or_pos k with h | h
      · subst h; rw [Nat.mul_zero] at hlt; omega
      · exact h
    · rw [h4]
      have e : k = i + (k - i) := by omega
      have e2 : repV k vs = repV i vs ++ repV (k - i) vs := by rw [← repV_add, ← e]
      rw [e2]
      congr 1
      have e3 : i = (k - i) + (i - (k - i)) := by
        have : vs.length * (k - i) ≤ vs.length * i := by rw [Nat.mul_sub, ← hn]; exact hle
        have := Nat.le_of_mul_le_mul_left this hpos
        omega
      have e4 : repV i vs = repV (k - i) vs ++ repV (i - (k - i)) vs := by rw [← repV_add, ← e3]
      rw [e4, List.take_append, List.take_of_length_le (by rw [repV_len, Nat.mul_sub, ← hn, hcc]; exact Nat.le_refl _), repV_len, Nat.mul_sub, ← hn, hcc, Nat.sub_self, List.take_zero, List.append_nil]
theorem repV_single {α : Type} (k : Nat) (v : α) : repV k [v] = List.replicate k v := by
  unfold repV
  induction k with
  | zero => rfl
  | succ k ih => rw [List.replicate_succ, List.flatten_cons, ih, List.replicate_succ]; rfl
theorem wadd_is (a b c : Nat) (h : c = a + b) (hc : c ≤ 24 * 24) : wrap64 ((a : Int) + (b : Int)) = (c : Int) := by unfold wrap64; omega
theorem add_at (b off j : Nat) : ((⟨b, off, none⟩ : Addr).add j) = ⟨b, off + j, none⟩ := by
  unfold Addr.add
  by_cases h : j = 0 <;> simp [h]
theorem cell_row {w : World} {g : Nat} {Z : List Value} {t : TypeId} (h : w.heap[g]? = some (.cells Z.toArray t (0, 0))) (j : Nat) (v : Value) (hv : Z[j]? = some v) : w.cell? ⟨g, j, none⟩ = some v := by
  unfold World.cell?
  rw [h]
  simpa using hv
set_option maxHeartbeats 3200000 in
theorem repeat64_any (A : Option Addr) (m c k : Nat) (vals : List Value) (w : World) (hlen : vals.length = m) (hA : 0 < m → ∃ b off, A = some ⟨b, off, none⟩ ∧ b < w.heap.size ∧ ∀ j v, vals[j]? = some v → w.cell? ⟨b, off + j, none⟩ = some v) (h1 : ∀ v ∈ vals, v.oneCell' = true) (hm : m ≤ 24) (hk : k ≤ 24) :
    Calls Tryd.prog 138 #[.slice A m c, .int .i64 (k : Int)] w fun e w' => e = .returned (.slice (some ⟨w.heap.size, 0, none⟩) (m * k) (m * k)) ∧ Hid (w'.heap[w.heap.size]? = some (.cells (repV k vals).toArray 2 (0, 0))) ∧ Below w.heap.size w w' := by
  obtain ⟨i0, hi, hz0, hz1, hz2⟩ := info_parts info_int
  have HMU := Lib.hid fun ww => mul_any m k (by omega) (by omega) ww
  have hL : m * k ≤ 24 * 24 := Nat.mul_le_mul hm hk
  have HLN : Hid (vals.length = m) := Lib.hid hlen
  have H1 := Lib.hid h1
  have HSR : Hid (∀ ww : World, Below w.heap.size w ww → 0 < m → ∃ ad, A = some ad ∧ ∀ j v, vals[j]? = some v → ww.cell? (ad.add j) = some v) := Lib.hid fun ww hw h0 => by
    obtain ⟨b, off, e, hb, hc⟩ := hA h0
    exact ⟨⟨b, off, none⟩, e, fun j v hj => by rw [add_at]; exact (hw.cell (p := ⟨b, off + j, none⟩) hb).trans (hc j v hj)⟩
  have HL1 : Hid (1 ≤ k → vals.take (m * k) = vals) := Lib.hid fun h9 => List.take_of_length_le (by rw [hlen]; exact Nat.le_mul_of_pos_right m h9)
  have HL0 : Hid (k = 0 → m * k = 0) := Lib.hid fun h9 => by rw [h9, Nat.mul_zero]
  have HP1 : Hid (∀ ww : World, Below w.heap.size w ww → 0 < (vals.take (m * k)).length → ∃ ad, A = some ad ∧ ∀ j v, (vals.take (m * k))[j]? = some v → ww.cell? (ad.add j) = some v) := Lib.hid fun ww hw h9 => by
    have h8 : 0 < m := by rw [List.length_take, hlen] at h9; omega
    obtain ⟨ad, e, hc⟩ := HSR.out ww hw h8
    refine ⟨ad, e, fun j v hj => hc j v ?_⟩
    have hjl : j < m * k := by
      rcases Nat.lt_or_ge j (m * k) with h7 | h7
      · exact h7
      · rw [List.getElem?_eq_none (by rw [List.length_take]; omega)] at hj; cases hj
    rwa [List.getElem?_take_of_lt hjl] at hj
  have HCS : Hid ((vals.take (m * k)).length = Nat.min m (m * k)) := Lib.hid (by rw [List.length_take, hlen]; exact Nat.min_comm _ _)
  have HRR : Hid (∀ (i n c : Nat) (Z : List Value), i ≤ k → n = m * i → Z.length = m * k → Z.take n = repV i vals → n < m * k → 1 ≤ i → c = Nat.min n (m * k - n) → (Z.take c).length = c ∧ n + c ≤ Z.length ∧ ∃ j, j ≤ k ∧ 1 ≤ j ∧ n + c = m * j ∧ (splice Z n (Z.take c)).take (n + c) = repV j vals ∧ (splice Z n (Z.take c)).length = m * k) := Lib.hid fun i n c Z a1 a2 a3 a4 a5 a6 a7 => by
    subst hlen
    exact rep_round i k n c vals Z a1 a2 a3 a4 a5 a6 a7
  have HPN : Hid (∀ n : Nat, n < m * k → ∀ i, i ≤ k → (1 ≤ i ∨ m * k = 0) → n = m * i → 0 < n) := Lib.hid fun n a1 i _ a2 a3 => by
    rcases a2 with a2 | a2
    · rcases Nat.eq_zero_or_pos m with h0 | h0
      · rw [h0, Nat.zero_mul] at a1; omega
      · rw [a3]; exact Nat.mul_pos h0 a2
    · omega
  have HRF : Hid (∀ (i : Nat) (Z : List Value), i ≤ k → Z.length = m * k → ¬ m * i < m * k → Z.take (m * i) = repV i vals → Z = repV k vals) := Lib.hid fun i Z a1 a2 a3 a4 => by
    have e9 : m * i = m * k := Nat.le_antisymm (Nat.mul_le_mul_left m a1) (by omega)
    rw [e9, List.take_of_length_le (by omega)] at a4
    rw [a4]
    rcases Nat.eq_zero_or_pos m with h0 | h0
    · have e8 : vals = [] := List.eq_nil_of_length_eq_zero (by omega)
      have e7 : ∀ q, repV q vals = [] := fun q => List.eq_nil_of_length_eq_zero (by rw [repV_len, e8]; simp)
      rw [e7, e7]
    · rw [Nat.eq_of_mul_eq_mul_left h0 e9]
  have HONE : Hid (∀ (Z : List Value) (c i n : Nat), Z.take n = repV i vals → c ≤ n → ∀ v ∈ Z.take c, v.oneCell' = true) := Lib.hid fun Z c i n a1 a2 v hv => by
    have h8 : v ∈ Z.take n := List.take_subset_take_left Z a2 hv
    rw [a1] at h8
    exact h1 v (repV_mem h8)
  obtain ⟨L, hLe⟩ : ∃ L, L = m * k := ⟨_, rfl⟩
  rw [← hLe] at HMU hL HL1 HL0 HCS HP1 HRR HRF HPN ⊢
  have HLE := Lib.hid hLe
  clear hLe hA h1 hlen
  have hml : L ≤ maxLen := by unfold maxLen; omega
  have hby : i0.bytes * L ≤ 281474976710656 := by rw [hz2]; omega
  have hk0 : ¬ ((k : Int) < 0) := by omega
  have hu1 : IntKind.u64.wrap (m : Int) = (m : Int) := IntWalk.u64_in _ (by omega)
  have hu2 : IntKind.u64.wrap (k : Int) = (k : Int) := IntWalk.u64_in _ (by omega)
  have hLm : ¬ ((9223372036854775807 : Int) < (L : Int)) := by omega
  have hLw : IntKind.i64.wrap (L : Int) = (L : Int) := by rw [IntWalk.i64_left]; unfold wrap64; omega
  have hsz : (Tryd.prog.info? 2).map (·.size) = some 1 := by rw [hi]; simp [hz1]
  have HMK : Hid (∀ w1 : World, w1.ownsRow w.heap.size 2 1 (.slice (some ⟨w.heap.size, 0, none⟩) L L) L (madeCells (Value.int .i64 0).cells (L * 1)).toList → w.grownBy w1 none → ∃ Z : List Value, w1.heap[w.heap.size]? = some (.cells Z.toArray 2 (0, 0)) ∧ Z.length = L ∧ Below w.heap.size w w1) := Lib.hid (fun w1 ho hg => ⟨_, (made_row ho).1, (made_row ho).2, (Below.refl _ _).grown hg (Nat.le_refl _) (by simp)⟩)
  go_enter Tryd.func138, Tryd.ntmps138
  go_wp2_with fail
  refine (HMU.out _).mono ?_
  rintro e w' ⟨rfl, rfl⟩
  go_wp2_with (first | (at_make; refine wpList_make_full _ rfl _ _ _ rfl w.heap.size 2 i0 (Value.int .i64 0) 1 Tryd.underlying22 hi hz0 hz1 _ _ (L : Int) (L : Int) L rfl rfl rfl rfl hby hml (Nat.le_refl _) ?_; intro w1 hown0 hg1; obtain ⟨Z, hrow, hZ, hb1⟩ := HMK.out w1 hown0 hg1; clear hown0 hg1; have HZ := Lib.hid hZ; clear hZ) | (refine wpList_copy_splice (by rfl) _ _ _ _ (by rfl) 2 Tryd.underlying22 hsz _ _ _ _ _ _ (by rfl) (by rfl) w.heap.size 0 Z 2 hrow (vals.take L) HCS.out (fun h9 => ⟨rfl, HP1.out _ hb1 h9⟩) (by rw [HZ.out, HCS.out, Nat.zero_add]; exact Nat.min_le_right _ _) (fun v hv => H1.out v (List.mem_of_mem_take hv)) w.heap.size w hb1 (Nat.le_refl _) ?_; intro w2 HG2 hb2))
  have HI0 : Hid (∃ i n, i ≤ k ∧ (1 ≤ i ∨ L = 0) ∧ n = m * i ∧ n ≤ L ∧ (vals.take L).length = n ∧ (splice Z 0 (vals.take L)).length = L ∧ (splice Z 0 (vals.take L)).take n = repV i vals) := Lib.hid (by
    have hz := HZ.out
    have hc := HCS.out
    have hsl : (splice Z 0 (vals.take L)).length = L := by rw [length_splice _ _ _ (by rw [hc, hz, Nat.zero_add]; exact Nat.min_le_right _ _), hz]
    rcases Nat.eq_zero_or_pos k with h0 | h0
    · have hl0 := HL0.out h0
      subst hl0
      refine ⟨0, 0, Nat.zero_le _, .inr rfl, rfl, Nat.le_refl _, by rw [hc]; exact Nat.min_eq_right (Nat.zero_le _), hsl, ?_⟩
      rw [List.take_zero]; rfl
    · have hv := HL1.out h0
      have hmL : m ≤ L := by rw [HLE.out]; exact Nat.le_mul_of_pos_right m h0
      refine ⟨1, m, h0, .inl (Nat.le_refl _), (Nat.mul_one m).symm, hmL, by rw [hv]; exact HLN.out, hsl, ?_⟩
      rw [hv, repV_one]
      unfold splice
      rw [List.take_zero, List.nil_append, ← HLN.out, List.take_append, List.take_of_length_le (Nat.le_refl _), Nat.sub_self, List.take_zero, List.append_nil])
  obtain ⟨ia, na, hia, hia1, hna, hnaL, hcsl, hsl, htk⟩ := HI0.out
  have hG0 : Hid (w2.heap[w.heap.size]? = some (.cells (splice Z 0 (vals.take L)).toArray 2 (0, 0))) := HG2
  obtain ⟨Z0, hZ0⟩ : ∃ Z0, Z0 = splice Z 0 (vals.take L) := ⟨_, rfl⟩
  rw [← hZ0] at hG0 hsl htk
  have HTK := Lib.hid htk
  have HNA := Lib.hid hna
  have HSL := Lib.hid hsl
  clear HI0 HG2 hZ0 HP1 HL1 HL0 HCS hrow hb1 htk hna hsl
  go_wp2_with fail
  go_loopw [8] (fun p wr => ∃ (i n : Nat) (Z : List Value), p = .int .i64 (n : Int) ∧ i ≤ k ∧ (1 ≤ i ∨ L = 0) ∧ n ≤ L ∧ Hid (n = m * i) ∧ Hid (Z.length = L) ∧ Hid (wr.heap[w.heap.size]? = some (.cells Z.toArray 2 (0, 0))) ∧ Hid (Z.take n = repV i vals) ∧ Below w.heap.size w wr) (fun p _ => L - (intOf p).toNat)
  case atStart => exact ⟨ia, na, Z0, by first | rfl | (rw [← List.length_take, hcsl]), hia, hia1, hnaL, HNA, HSL, hG0, HTK, hb2⟩
  case round =>
    clear hb2 hG0 HNA HSL HTK hcsl
    obtain ⟨i, n, Z1, rfl, hi1, hi2, hnL, HN, HZL, HG, HT, hb⟩ := hrel
    by_cases hlt : n < L
    · have hI1 : (n : Int) ≤ (L : Int) := by omega
      have hI2 : (0 : Int) ≤ (n : Int) := by omega
      have HR := Lib.hid (HRR.out i n (Nat.min n (L - n)) Z1 hi1 HN.out HZL.out HT.out hlt (by omega) rfl)
      obtain ⟨cc, hcc⟩ : ∃ cc, cc = Nat.min n (L - n) := ⟨_, rfl⟩
      rw [← hcc] at HR
      have hcn : cc ≤ n := by rw [hcc]; exact Nat.min_le_left _ _
      have hcL : cc ≤ L - n := by rw [hcc]; exact Nat.min_le_right _ _
      have HCC : Hid (cc = Nat.min n (L - n)) := Lib.hid hcc
      have hbd := hb.drew
      have HGd : Hid (wr.drew.heap[w.heap.size]? = some (.cells Z1.toArray 2 (0, 0))) := HG
      obtain ⟨DP, hDP⟩ : ∃ DP, (if L = n then some (⟨w.heap.size, 0, none⟩ : Addr) else some ⟨w.heap.size, n, none⟩) = DP := ⟨_, rfl⟩
      have HPOS : Hid (0 < (Z1.take cc).length → DP = some ⟨w.heap.size, n, none⟩ ∧ ∃ ad, some (⟨w.heap.size, 0, none⟩ : Addr) = some ad ∧ ∀ j v, (Z1.take cc)[j]? = some v → wr.drew.cell? (ad.add j) = some v) := Lib.hid fun _ => ⟨by rw [← hDP]; exact if_neg (by omega), ⟨w.heap.size, 0, none⟩, rfl, fun j v hj => by
        have hjl : j < cc := by
          rcases Nat.lt_or_ge j cc with h7 | h7
          · exact h7
          · rw [List.getElem?_eq_none (by rw [List.length_take]; omega)] at hj; cases hj
        rw [List.getElem?_take_of_lt hjl] at hj
        have := cell_row HGd.out j v hj
        rw [add_at, Nat.zero_add]; exact this⟩
      have hcl : (Z1.take cc).length = cc := HR.out.1
      have hcl2 : min cc Z1.length = cc := by rw [← List.length_take]; exact hcl
      obtain ⟨N2, hN2⟩ : ∃ N2, N2 = n + cc := ⟨_, rfl⟩
      have hN2L : N2 ≤ L := by rw [hN2, Nat.add_comm]; exact Nat.add_le_of_le_sub hnL hcL
      have h9 : 0 < n := HPN.out n hlt i hi1 hi2 HN.out
      have h0c : 0 < cc := by rw [HCC.out]; exact Nat.lt_min.2 ⟨h9, Nat.sub_pos_of_lt hlt⟩
      have hN2n : n < N2 := by rw [hN2]; exact Nat.lt_add_of_pos_right h0c
      have hww : wrap64 ((n : Int) + (cc : Int)) = (N2 : Int) := wadd_is n cc N2 hN2 (Nat.le_trans hN2L hL)
      have hww2 : IntKind.i64.wrap ((n : Int) + (cc : Int)) = (N2 : Int) := by rw [IntWalk.i64_left]; exact hww
      have HN2 := Lib.hid hN2
      clear hN2
      clear hcc
      go_wp2_with fail
      go_region_law (first | (refine step_copy_splice rfl (.tmp 41) (.tmp 44) 22 22 rfl 2 Tryd.underlying22 hsz DP (some ⟨w.heap.size, 0, none⟩) (L - n) (L - n) n L (by go_simp) (by go_simp) w.heap.size n Z1 2 HGd.out (Z1.take cc) (by rw [HR.out.1]; exact HCC.out) HPOS.out (by rw [HR.out.1]; exact HR.out.2.1) (HONE.out Z1 cc i n HT.out hcn) w.heap.size w hbd (Nat.le_refl _) ?_; intro w3 HG3 hb3))
      all_goals (
        obtain ⟨j, hj1, hj2, hj3, hj4, hj5⟩ := HR.out.2.2
        have HJ3 := Lib.hid hj3
        have HJ4 := Lib.hid hj4
        have HJ5 := Lib.hid hj5
        clear hj3 hj4 hj5
        go_simp
        go_wp2_with fail
        go_roundw
        case rel => exact ⟨j, N2, splice Z1 n (Z1.take cc), by first | rfl | go_num, hj1, .inl hj2, hN2L, Lib.hid (by rw [HN2.out]; exact HJ3.out), HJ5, HG3, Lib.hid (by rw [HN2.out]; exact HJ4.out), hb3⟩
        case measure =>
          have hm9 : L - N2 < L - n := Nat.sub_lt_sub_left hlt hN2n
          simpa [intOf] using hm9)
    · have hnE : n = L := by omega
      have HF := Lib.hid (HRF.out i Z1 hi1 HZL.out (by rw [← HN.out]; omega) (by rw [← HN.out]; exact HT.out))
      rw [HF.out] at HG
      subst hnE
      go_wp2_with fail
      go_ret
      exact ⟨rfl, HG, hb⟩
theorem repeat_ints (A : Option Addr) (m c k : Nat) (us : List Nat) (w : World) (h : Rd w A m (ints us)) (hm : m ≤ 24) (hk : k ≤ 24) :
    Calls Tryd.prog 138 #[.slice A m c, .int .i64 (k : Int)] w (MakesE 2 w (m * k) (ints (repV k us))) := by
  have hl : us.length = m := by have := h.1; rw [ints_len] at this; exact this
  have hv : ((ints us).map (Value.int .i64)).length = m := by rw [List.length_map, ints_len, hl]
  have hL : m * k ≤ 24 * 24 := Nat.mul_le_mul hm hk
  refine (repeat64_any A m c k ((ints us).map (Value.int .i64)) w hv (fun h0 => ?_) (ints_oneCell .i64 _) hm hk).mono ?_
  · obtain ⟨b, off, e, hb, hc⟩ := h.2 h0
    refine ⟨b, off, e, hb, fun j v hj => ?_⟩
    rw [List.getElem?_map] at hj
    cases hx : (ints us)[j]? with
    | none => rw [hx] at hj; cases hj
    | some x =>
      rw [hx] at hj
      injection hj with hj
      subst hj
      exact hc j x hx
  · rintro e w' ⟨rfl, hg, hb⟩
    have e1 : repV k ((ints us).map (Value.int .i64)) = (ints (repV k us)).map (Value.int .i64) := by unfold ints; rw [← repV_map, ← repV_map]
    have hg2 := hg.out
    rw [e1] at hg2
    exact ⟨_, _, rfl, own_of_row (Nat.le_refl _) (by unfold maxLen; omega) (by rw [ints_len, repV_len, hl]) hg2, hb⟩
end Go.Proofs.YtdafdffmkjhhcaaDoor
