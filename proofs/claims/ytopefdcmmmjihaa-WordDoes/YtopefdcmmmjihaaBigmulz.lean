/- The contract of the big numbers' Mul. -/
import Derived.Test.YtopefdcmmmjihaaBigsum
namespace Go.Proofs.Ytopefdcmmmjihaa
open Go.ChangeShapes Go.WideShapes Go.ChangeAt Go.RowKit

/-- The cells of a number in every later world. -/
theorem int_cells {w : World} {b : Nat} {neg : Bool} {v : Value} (h : IntBlock w b neg v) : ∀ W, Below w.heap.size w W → W.cell? ⟨b, 0, none⟩ = some (.bool neg) ∧ W.cell? ⟨b, 1, none⟩ = some v := fun W hW => by
  have h1 : IntBlock W b neg v := (hW.block b h.lt).trans h
  exact ⟨h1.cells.1, h1.cells.2.1⟩
theorem sg_mul (n1 n2 : Bool) (x y : Int) : sg (n1 != n2) (x * y) = sg n1 x * sg n2 y := by
  unfold sg
  cases n1 <;> cases n2 <;> simp [Int.neg_mul, Int.mul_neg]

set_option linter.unusedSimpArgs false in
set_option maxHeartbeats 4000000 in
theorem Mul_any (z b c : Nat) (n0 : Bool) (v0 : Value) (x y : Int) (w : World) (hz : IntBlock w z n0 v0) (hx : Big w b x) (hy : Big w c y) (hx0 : - top 100 < x) (hx1 : x < top 100) (hy0 : - top 100 < y) (hy1 : y < top 100) :
    Calls Try.prog 17 #[.pointer (some ⟨z, 0, none⟩), .pointer (some ⟨b, 0, none⟩), .pointer (some ⟨c, 0, none⟩)] w fun e w' => e = .returned (.pointer (some ⟨z, 0, none⟩)) ∧ Big w' z (x * y) ∧ w.grownBy w' (some z) := by
  obtain ⟨n1, ao1, k1, c1, a, i1, r1, m1, z1, e1, l1, -⟩ := hx.open
  obtain ⟨n2, ao2, k2, c2, d, i2, r2, m2, z2, e2, l2, -⟩ := hy.open
  have HP : Hid (∀ W, Below w.heap.size w W → (W.cell? ⟨b, 0, none⟩ = some (.bool n1) ∧ W.cell? ⟨b, 1, none⟩ = some (.slice ao1 k1 c1)) ∧ (W.cell? ⟨c, 0, none⟩ = some (.bool n2) ∧ W.cell? ⟨c, 1, none⟩ = some (.slice ao2 k2 c2))) := fun W hW => ⟨int_cells i1 W hW, int_cells i2 W hW⟩
  have HS : Hid (∀ W, Below w.heap.size w W → Calls Try.prog 28 #[.slice ao1 k1 c1, .slice ao2 k2 c2] W fun e w' => ∃ ao n cap ws, e = .returned (.slice ao n cap) ∧ Row w' (.slice ao n cap) ws ∧ n ≤ maxLen ∧ Norm ws ∧ sg (n1 != n2) (nv ws) = x * y ∧ Below W.heap.size W w') := fun W hW => by
    refine (mul_any _ _ a d W (r1.below hW) (r2.below hW) (Nat.le_trans (len_of_abs r1.wds m1 e1 hx0 hx1) (by decide)) (Nat.le_trans (len_of_abs r2.wds m2 e2 hy0 hy1) (by decide))).mono ?_
    rintro e w' ⟨v', ws', rfl, r3, m3, e3, b3⟩
    obtain ⟨ao, n, cap, rfl, hm, -⟩ := r3.slice
    exact ⟨ao, n, cap, ws', rfl, r3, hm, m3, by rw [e3, e1, e2, sg_mul], b3⟩
  have HZ : Hid (∀ W, Below w.heap.size w W → IntBlock W z n0 v0) := fun W hW => (hW.block z hz.lt).trans hz
  clear hx hy i1 i2 r1 r2 m1 m2 z1 z2 e1 e2 hx0 hx1 hy0 hy1 hz l1 l2
  go_enter Try.func17, Try.ntmps17
  go_wp2
  refine wp_region_any (by kernel_rfl) ?_
  refine wpAny_take (i := 0) rfl (by kernel_rfl) (by kernel_rfl) (by kernel_rfl) (fun _ _ _ h => h) (Or.inl ⟨by rfl, fun w => (by go_simp; try with_reducible rfl)⟩) ?_
  simp only [Act.put, List.setIfInBounds_toArray, List.set_cons_zero, List.set_cons_succ]
  refine wpAny_headS (fun W => Below w.heap.size w W) 1 17 19 3 (below_drewN' w 1) (by kernel_rfl) (shutl_one (by kernel_rfl)) (fun _ _ d _ _ h => by cases d <;> exact h) (by kernel_rfl) (by kernel_rfl) (by kernel_rfl) ?_
  simp only [List.take_succ_cons, List.take_zero, List.drop_succ_cons, List.drop_zero]
  repeat (refine wpValS_step _ (by rfl) (by intro W hW; obtain ⟨⟨p1, p2⟩, q1, q2⟩ := HP.out W hW; go_simp; try with_reducible rfl) ?_; try simp only [Act.put, List.setIfInBounds_toArray, List.set_cons_zero, List.set_cons_succ])
  refine wpValS_nil ?_
  refine T_one (i := 18) rfl (by kernel_rfl) (fun K hK => ?_)
  go_simp
  refine (HS.out _ (below_drewN' w 1)).mono ?_
  rintro e w2 ⟨ao, n, cap, ws, rfl, r2, hm2, m2, e2, b2⟩
  refine hK _ _ (fun _ => below_draw b2) ?_
  clear hK K
  refine tail_of (by kernel_rfl) ?_
  try simp only [Act.put, List.setIfInBounds_toArray, List.set_cons_zero, List.set_cons_succ]
  refine wpAny_ready (rs := [19]) (by kernel_rfl) (by simp) ?_
  refine AllReady.cons rfl (fun K hK => ?_) AllReady.nil
  go_simp
  refine (give_any z n0 v0 (n1 != n2) ao n cap w2 hm2 (HZ.out _ (below_draw b2))).mono ?_
  rintro e w3 ⟨rfl, i3, g3⟩
  refine hK _ _ ?_
  clear hK K
  try simp only [Act.put, List.setIfInBounds_toArray, List.set_cons_zero, List.set_cons_succ]
  refine wpAny_ready (rs := [20]) (by kernel_rfl) (by simp) ?_
  refine AllReady.cons rfl (fun K hK => ?_) AllReady.nil
  go_simp
  refine hK _ _ ?_
  clear hK K
  refine wpAny_done (by kernel_rfl) ?_ _
  go_wp2
  go_ret
  refine ⟨rfl, ?_, grown_trans (grown_of_below (below_draw b2)) g3⟩
  have := big_given (HZ.out _ (below_draw b2)) r2 m2 i3 g3
  rw [← e2]
  exact this
end Go.Proofs.Ytopefdcmmmjihaa
