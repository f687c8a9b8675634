/- Contracts of the big numbers: Set. -/
import Derived.Test.YtopefdcmmmjihaaBigmulz
namespace Go.Proofs.Ytopefdcmmmjihaa
open Go.ChangeShapes Go.WideShapes Go.ChangeAt Go.RowKit

set_option linter.unusedSimpArgs false in
set_option maxHeartbeats 4000000 in
theorem Set_any (z b : Nat) (n0 : Bool) (v0 : Value) (x : Int) (w : World) (hz : IntBlock w z n0 v0) (hx : Big w b x) (hx0 : - top 100 < x) (hx1 : x < top 100) :
    Calls Try.prog 49 #[.pointer (some ⟨z, 0, none⟩), .pointer (some ⟨b, 0, none⟩)] w fun e w' => e = .returned (.pointer (some ⟨z, 0, none⟩)) ∧ Big w' z x ∧ w.grownBy w' (some z) := by
  obtain ⟨n1, ao1, k1, c1, a, i1, r1, m1, z1, e1, l1, -⟩ := hx.open
  have HP : Hid (∀ W, Below w.heap.size w W → (W.cell? ⟨b, 0, none⟩ = some (.bool n1) ∧ W.cell? ⟨b, 1, none⟩ = some (.slice ao1 k1 c1))) := fun W hW => int_cells i1 W hW
  have HS : Hid (∀ W, Below w.heap.size w W → Calls Try.prog 41 #[.slice ao1 k1 c1] W fun e w' => ∃ ao j cap ws, e = .returned (.slice ao j cap) ∧ Row w' (.slice ao j cap) ws ∧ j ≤ maxLen ∧ Norm ws ∧ sg n1 (nv ws) = x ∧ Below W.heap.size W w') := fun W hW => by
    refine (twin_any _ a W (r1.below hW) (Nat.le_trans (len_of_abs r1.wds m1 e1 hx0 hx1) (by decide))).mono ?_
    rintro e w' ⟨v', rfl, r3, b3⟩
    obtain ⟨ao, j, cap, rfl, hm, -⟩ := r3.slice
    exact ⟨ao, j, cap, a, rfl, r3, hm, m1, e1.symm, b3⟩
  have HZ : Hid (∀ W, Below w.heap.size w W → IntBlock W z n0 v0) := fun W hW => (hW.block z hz.lt).trans hz
  clear hx i1 r1 m1 z1 e1 hx0 hx1 hz l1
  go_enter Try.func49, Try.ntmps49
  go_wp2
  refine wp_region_any (by kernel_rfl) ?_
  refine wpAny_take (i := 0) rfl (by kernel_rfl) (by kernel_rfl) (by kernel_rfl) (fun _ _ _ h => h) (Or.inl ⟨by rfl, fun w => (by go_simp; try with_reducible rfl)⟩) ?_
  simp only [Act.put, List.setIfInBounds_toArray, List.set_cons_zero, List.set_cons_succ]
  refine wpAny_headS (fun W => Below w.heap.size w W) 1 8 10 3 (below_drewN' w 1) (by kernel_rfl) (shutl_one (by kernel_rfl)) (fun _ _ d _ _ h => by cases d <;> exact h) (by kernel_rfl) (by kernel_rfl) (by kernel_rfl) ?_
  simp only [List.take_succ_cons, List.take_zero, List.drop_succ_cons, List.drop_zero]
  repeat (refine wpValS_step _ (by rfl) (by intro W hW; obtain ⟨p1, p2⟩ := HP.out W hW; go_simp; try with_reducible rfl) ?_; try simp only [Act.put, List.setIfInBounds_toArray, List.set_cons_zero, List.set_cons_succ])
  refine wpValS_nil ?_
  refine T_one (i := 9) rfl (by kernel_rfl) (fun K hK => ?_)
  go_simp
  refine (HS.out _ (below_drewN' w 1)).mono ?_
  rintro e w2 ⟨ao, j, cap, ws, rfl, r2, hm2, m2, e2, b2⟩
  refine hK _ _ (fun _ => below_draw b2) ?_
  clear hK K
  refine tail_of (by kernel_rfl) ?_
  try simp only [Act.put, List.setIfInBounds_toArray, List.set_cons_zero, List.set_cons_succ]
  refine wpAny_ready (rs := [10]) (by kernel_rfl) (by simp) ?_
  refine AllReady.cons rfl (fun K hK => ?_) AllReady.nil
  go_simp
  refine (give_any z n0 v0 n1 ao j cap w2 hm2 (HZ.out _ (below_draw b2))).mono ?_
  rintro e w3 ⟨rfl, i3, g3⟩
  refine hK _ _ ?_
  clear hK K
  try simp only [Act.put, List.setIfInBounds_toArray, List.set_cons_zero, List.set_cons_succ]
  refine wpAny_ready (rs := [11]) (by kernel_rfl) (by simp) ?_
  refine AllReady.cons rfl (fun K hK => ?_) AllReady.nil
  go_simp
  refine hK _ _ ?_
  clear hK K
  refine wpAny_done (by kernel_rfl) ?_ _
  go_wp2
  go_ret
  refine ⟨rfl, ?_, grown_trans (grown_of_below (below_draw b2)) g3⟩
  have := big_given (HZ.out _ (below_draw b2)) r2 m2 i3 g3
  rw [← e2]
  exact this
end Go.Proofs.Ytopefdcmmmjihaa
