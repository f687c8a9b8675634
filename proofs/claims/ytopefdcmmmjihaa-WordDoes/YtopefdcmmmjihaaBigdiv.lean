/- Contracts of the big numbers' division: numbers of at most two words. -/
import Derived.Test.YtopefdcmmmjihaaBigsum
import Derived.Test.YtopefdcmmmjihaaBigbita
import Derived.Test.YtopefdcmmmjihaaHeadlaw
namespace Go.Proofs.Ytopefdcmmmjihaa
open Go.ChangeShapes Go.WideShapes Go.ChangeAt Go.RowKit

set_option maxHeartbeats 800000 in
theorem plain_any (v : Value) (ws : List Int) (w : World) (h : Row w v ws) (hl2 : ws.length ≤ 2) :
    Calls Try.prog 42 #[v] w fun e w' => e = .returned (.int .u64 (nv ws)) ∧ w' = w := by
  obtain ⟨ao, n, cap, rfl, -, hlen⟩ := h.slice
  rw [nv_two hl2]
  rcases (show n = 0 ∨ n = 1 ∨ n = 2 by omega) with rfl | rfl | rfl
  · obtain rfl : ws = [] := List.length_eq_zero_iff.1 hlen.symm
    clear h hl2 hlen
    go_enter Try.func42, Try.ntmps42
    go_wp2
    go_ret
    exact ⟨rfl, rfl⟩
  · obtain ⟨g, rfl, p0, x0, x1⟩ := word_now h (j := 0) (by omega)
    have e1 : ws.getD 1 0 = 0 := getD_far (by omega)
    rw [e1]
    generalize ws.getD 0 0 = x at *
    clear h hl2 hlen e1
    go_enter Try.func42, Try.ntmps42
    go_wp2
    go_ret
    exact ⟨congrArg (fun y => Ending.returned (.int .u64 y)) (by omega), rfl⟩
  · obtain ⟨g, rfl, p0, x0, x1⟩ := word_now h (j := 0) (by omega)
    obtain ⟨g', e', p1, y0, y1⟩ := word_now h (j := 1) (by omega)
    cases e'
    generalize ws.getD 0 0 = x at *
    generalize ws.getD 1 0 = y at *
    have ho := or_low x0 x1 y0 y1
    clear h hl2 hlen
    go_enter Try.func42, Try.ntmps42
    go_wp2
    go_ret
    exact ⟨rfl, rfl⟩

theorem lt_cmp {x y : Int} (h : x < y) : cmpI x y = -1 := by unfold cmpI; rw [if_pos h]
set_option linter.unusedSimpArgs false in
set_option maxRecDepth 100000 in
set_option maxHeartbeats 1600000 in
/-- Less than the divisor: nothing, and itself. -/
theorem div_less (va vb : Value) (a b : List Int) (w : World) (ha : Row w va a) (hb : Row w vb b) (na : Norm a) (nb : Norm b) (hla : a.length ≤ 100000) (hlt : nv a < nv b) :
    Calls Try.prog 29 #[va, vb] w fun e w' => ∃ qo qn qc qs ro rn rc rs, e = .returned (.tuple #[.slice qo qn qc, .slice ro rn rc]) ∧ Row w' (.slice qo qn qc) qs ∧ Row w' (.slice ro rn rc) rs ∧ qn ≤ maxLen ∧ rn ≤ maxLen ∧ Norm qs ∧ Norm rs ∧ nv qs = nv a / nv b ∧ nv rs = nv a % nv b ∧ Below w.heap.size w w' := by
  obtain ⟨ao, n, ca, rfl, -, -⟩ := ha.slice
  obtain ⟨bo, m, cb, rfl, -, hm⟩ := hb.slice
  have a0 := (nv_range ha.wds).1
  have hm0 : ((m : Int) == 0) = false := by
    have : m ≠ 0 := by
      intro e; subst e
      have : b = [] := List.length_eq_zero_iff.1 hm.symm
      subst this
      simp [nv] at hlt; omega
    simp; exact this
  have hq : nv a / nv b = 0 := Int.ediv_eq_zero_of_lt a0 hlt
  have hr : nv a % nv b = nv a := Int.emod_eq_of_lt a0 hlt
  have HC : Hid (Calls Try.prog 38 #[.slice ao n ca, .slice bo m cb] w fun e w' => e = .returned (.int .i64 (-1)) ∧ ∃ m, w' = w.drewN m) := by
    have := cmp_any _ _ a b w ha hb na nb
    rw [lt_cmp hlt] at this
    exact this
  have HT : Hid (∀ q, Calls Try.prog 41 #[.slice ao n ca] (w.drewN q) fun e w' => ∃ v', e = .returned v' ∧ Row w' v' a ∧ Below (w.drewN q).heap.size (w.drewN q) w') := fun q => twin_any _ a _ (ha.drewN q) hla
  rw [hq, hr]
  clear ha hb nb hla hlt hq hr a0 hm
  go_enter Try.func29, Try.ntmps29
  go_wp2_with fail
  refine HC.out.mono ?_
  rintro e w1 ⟨rfl, q, rfl⟩
  go_wp2_with fail
  refine (HT.out q).mono ?_
  rintro e w2 ⟨v', rfl, r2, b2⟩
  obtain ⟨to, tn, tc, rfl, htn, -⟩ := r2.slice
  go_wp2
  go_ret2
  exact ⟨_, _, _, [], _, _, _, a, rfl, World.ownsInts_nil _ _ _ _, r2, by unfold maxLen; omega, htn, by simp [Norm], na, rfl, rfl, below_draw b2⟩

theorem ge_cmp {x y : Int} (h : y ≤ x) : 0 ≤ cmpI x y ∧ cmpI x y ≤ 1 := by unfold cmpI; rw [if_neg (by omega)]; split <;> omega
set_option linter.unusedSimpArgs false in
set_option maxRecDepth 100000 in
set_option maxHeartbeats 400000 in
/-- At most two words. -/
theorem div_two (va vb : Value) (a b : List Int) (w : World) (ha : Row w va a) (hb : Row w vb b) (na : Norm a) (nb : Norm b) (hla : a.length ≤ 2) (hle : nv b ≤ nv a) (hb0 : 0 < nv b) :
    Calls Try.prog 29 #[va, vb] w fun e w' => ∃ qo qn qc qs ro rn rc rs, e = .returned (.tuple #[.slice qo qn qc, .slice ro rn rc]) ∧ Row w' (.slice qo qn qc) qs ∧ Row w' (.slice ro rn rc) rs ∧ qn ≤ maxLen ∧ rn ≤ maxLen ∧ Norm qs ∧ Norm rs ∧ nv qs = nv a / nv b ∧ nv rs = nv a % nv b ∧ Below w.heap.size w w' := by
  have hlb := len_le ha.wds hb.wds nb hle
  obtain ⟨ao, n, ca, rfl, -, hn⟩ := ha.slice
  obtain ⟨bo, m, cb, rfl, -, hm⟩ := hb.slice
  have a1 : nv a < 18446744073709551616 := by
    have h1 := (nv_range ha.wds).2
    have h2 := top_mono hla
    have h3 : top 2 = 18446744073709551616 := by decide
    omega
  have hm0 : ((m : Int) == 0) = false := by
    have : m ≠ 0 := by
      intro e; subst e
      have : b = [] := List.length_eq_zero_iff.1 hm.symm
      subst this
      simp [nv] at hb0
    simp; exact this
  have hn2 : (n : Int) ≤ 2 := by omega
  have HC : Hid (Calls Try.prog 38 #[.slice ao n ca, .slice bo m cb] w fun e w' => e = .returned (.int .i64 (cmpI (nv a) (nv b))) ∧ ∃ m, w' = w.drewN m) := cmp_any _ _ a b w ha hb na nb
  have HPA : Hid (∀ q, Calls Try.prog 42 #[.slice ao n ca] (w.drewN q) fun e w' => e = .returned (.int .u64 (nv a)) ∧ w' = w.drewN q) := fun q => plain_any _ a _ (ha.drewN q) hla
  have HPB : Hid (∀ q, Calls Try.prog 42 #[.slice bo m cb] (w.drewN q) fun e w' => e = .returned (.int .u64 (nv b)) ∧ w' = w.drewN q) := fun q => plain_any _ b _ (hb.drewN q) (by omega)
  obtain ⟨g1, g2⟩ := ge_cmp hle
  clear ha hb nb na hla hlb hm hn
  generalize cmpI (nv a) (nv b) = r at *
  generalize nv a = x at *
  generalize nv b = y at *
  have ht1 : x.tdiv y = x / y := Int.tdiv_eq_ediv_of_nonneg (by omega)
  have ht2 : x.tmod y = x % y := Int.tmod_eq_emod_of_nonneg (by omega)
  have hy0 : (y == 0) = false := by simp; omega
  have hy1 : ¬ y = 0 := by omega
  have q0 : 0 ≤ x / y := Int.ediv_nonneg (by omega) (by omega)
  have q1 : x / y < 18446744073709551616 := by have := Int.ediv_le_self y (show 0 ≤ x by omega); omega
  have r0 : 0 ≤ x % y := Int.emod_nonneg _ (by omega)
  have r1 : x % y < 18446744073709551616 := by have := Int.emod_lt_of_pos x hb0; omega
  have hw1 : IntKind.u64.wrap (x / y) = x / y := by rw [IntKind.wrap_u64]; exact Int.emod_eq_of_lt q0 q1
  have hw2 : IntKind.u64.wrap (x % y) = x % y := by rw [IntKind.wrap_u64]; exact Int.emod_eq_of_lt r0 r1
  go_enter Try.func29, Try.ntmps29
  go_wp2_with fail
  refine HC.out.mono ?_
  rintro e w1 ⟨rfl, q, rfl⟩
  go_wp2_with fail
  refine (HPA.out q).mono ?_
  rintro e w2 ⟨rfl, rfl⟩
  go_wp2_with fail
  refine (HPB.out q).mono ?_
  rintro e w2 ⟨rfl, rfl⟩
  go_wp2
  refine wp_region_any (by kernel_rfl) ?_
  refine wpAny_take (i := 0) rfl (by kernel_rfl) (by kernel_rfl) (by kernel_rfl) (fun _ _ _ h => h) (Or.inl ⟨by rfl, fun w => (by go_simp; try with_reducible rfl)⟩) ?_
  try simp only [Act.put, List.setIfInBounds_toArray, List.set_cons_zero, List.set_cons_succ]
  refine wpAny_take (i := 1) rfl (by kernel_rfl) (by kernel_rfl) (by kernel_rfl) (fun _ _ _ h => h) (Or.inl ⟨by rfl, fun w => (by go_simp; try with_reducible rfl)⟩) ?_
  try simp only [Act.put, List.setIfInBounds_toArray, List.set_cons_zero, List.set_cons_succ]
  refine wpAny_take (i := 2) rfl (by kernel_rfl) (by kernel_rfl) (by kernel_rfl) (fun _ _ _ h => h) (Or.inl ⟨by rfl, fun w => (by go_simp; try with_reducible rfl)⟩) ?_
  try simp only [Act.put, List.setIfInBounds_toArray, List.set_cons_zero, List.set_cons_succ]
  refine wpAny_take (i := 4) rfl (by kernel_rfl) (by kernel_rfl) (by kernel_rfl) (fun _ _ _ h => h) (Or.inl ⟨by rfl, fun w => (by go_simp; try with_reducible rfl)⟩) ?_
  try simp only [Act.put, List.setIfInBounds_toArray, List.set_cons_zero, List.set_cons_succ]
  refine wpAny_take (i := 5) rfl (by kernel_rfl) (by kernel_rfl) (by kernel_rfl) (fun _ _ _ h => h) (Or.inl ⟨by rfl, fun w => (by go_simp; try with_reducible rfl)⟩) ?_
  try simp only [Act.put, List.setIfInBounds_toArray, List.set_cons_zero, List.set_cons_succ]
  refine wpAny_take (i := 6) rfl (by kernel_rfl) (by kernel_rfl) (by kernel_rfl) (fun _ _ _ h => h) (Or.inl ⟨by rfl, fun w => (by go_simp; try with_reducible rfl)⟩) ?_
  try simp only [Act.put, List.setIfInBounds_toArray, List.set_cons_zero, List.set_cons_succ]
  refine wpAny_ready (rs := [3]) (by kernel_rfl) (by simp) ?_
  refine AllReady.cons rfl (fun K hK => ?_) AllReady.nil
  go_simp
  refine (words_any (x / y) q0 q1 _).mono ?_
  rintro e wq ⟨vq, qs, rfl, rq, nq, eq, bq0⟩
  have bq : Below w.heap.size w wq := ⟨bq0.os, bq0.tape, bq0.output, bq0.size, bq0.block⟩
  clear bq0
  obtain ⟨qo, qn, qc, rfl, hqn, -⟩ := rq.slice
  refine hK _ _ ?_
  clear hK K
  try simp only [Act.put, List.setIfInBounds_toArray, List.set_cons_zero, List.set_cons_succ]
  refine wpAny_ready (rs := [7]) (by kernel_rfl) (by simp) ?_
  refine AllReady.cons rfl (fun K hK => ?_) AllReady.nil
  go_simp
  refine (words_any (x % y) r0 r1 _).mono ?_
  rintro e wr ⟨vr, rs, rfl, rr, nr, er, br⟩
  obtain ⟨ro, rn, rc, rfl, hrn, -⟩ := rr.slice
  refine hK _ _ ?_
  clear hK K
  try simp only [Act.put, List.setIfInBounds_toArray, List.set_cons_zero, List.set_cons_succ]
  refine wpAny_ready (rs := [8]) (by kernel_rfl) (by simp) ?_
  refine AllReady.cons rfl (fun K hK => ?_) AllReady.nil
  go_simp
  refine hK _ _ ?_
  clear hK K
  refine wpAny_ready (rs := [9]) (by kernel_rfl) (by simp) ?_
  refine AllReady.cons rfl (fun K hK => ?_) AllReady.nil
  go_simp
  refine hK _ _ ?_
  clear hK K
  refine wpAny_done (by kernel_rfl) ?_ _
  go_wp2
  go_ret2
  exact ⟨_, _, _, qs, _, _, _, rs, rfl, rq.below br, rr, hqn, hrn, nq, nr, eq, er, below_trans bq br⟩
end Go.Proofs.Ytopefdcmmmjihaa
