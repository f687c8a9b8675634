/- The contract of the big numbers' QuoRem. -/
import Derived.Test.YtopefdcmmmjihaaBigdiv
import Derived.Test.YtopefdcmmmjihaaBigmulz
import Derived.Deep.QuietTactic
import Derived.BigQuiet
namespace Go.Proofs.Ytopefdcmmmjihaa
open Go.ChangeShapes Go.WideShapes Go.ChangeAt Go.RowKit

/-- What div leaves: two rows, of which D tells the values. -/
def DivPost (D : Int → Int → Prop) (W : World) (e : Ending) (w' : World) : Prop :=
  ∃ qo qn qc qs ro rn rc rs, e = .returned (.tuple #[.slice qo qn qc, .slice ro rn rc]) ∧ Row w' (.slice qo qn qc) qs ∧ Row w' (.slice ro rn rc) rs ∧ qn ≤ maxLen ∧ rn ≤ maxLen ∧ Norm qs ∧ Norm rs ∧ D (nv qs) (nv rs) ∧ Below W.heap.size W w'
theorem below_drawn {w w1 : World} (h : Below w.heap.size w w1) (n : Nat) : Below w.heap.size w { w1 with drawn := n } := ⟨h.os, h.tape, h.output, h.size, h.block⟩
theorem Row.other {w w' : World} {v : Value} {ws : List Int} {r : Nat} {n0 : Bool} {v0 : Value} (h : Row w v ws) (hi : IntBlock w r n0 v0) (hg : w.grownBy w' (some r)) : Row w' v ws := h.grown hg (h.not_int hi)

set_option linter.unusedSimpArgs false in
set_option maxHeartbeats 4000000 in
theorem QuoRem_any (D : Int → Int → Prop) (z b c r : Nat) (nz nr : Bool) (vz vr : Value) (n1 n2 : Bool) (ao1 ao2 : Option Addr) (k1 c1 k2 c2 : Nat) (w : World) (hzr : z ≠ r) (hz : IntBlock w z nz vz) (hr : IntBlock w r nr vr)
    (hx : IntBlock w b n1 (.slice ao1 k1 c1)) (hy : IntBlock w c n2 (.slice ao2 k2 c2))
    (hD : ∀ W, Below w.heap.size w W → Calls Try.prog 29 #[.slice ao1 k1 c1, .slice ao2 k2 c2] W (DivPost D W)) :
    Calls Try.prog 18 #[.pointer (some ⟨z, 0, none⟩), .pointer (some ⟨b, 0, none⟩), .pointer (some ⟨c, 0, none⟩), .pointer (some ⟨r, 0, none⟩)] w fun e w' =>
      e = .returned (.tuple #[.pointer (some ⟨z, 0, none⟩), .pointer (some ⟨r, 0, none⟩)]) ∧ ∃ q t, D q t ∧ Big w' z (sg (n1 != n2) q) ∧ Big w' r (sg n1 t) ∧ ∃ w1, w.grownBy w1 (some z) ∧ w1.grownBy w' (some r) := by
  have HX : Hid (∀ W, Below w.heap.size w W → (W.cell? ⟨b, 0, none⟩ = some (.bool n1) ∧ W.cell? ⟨b, 1, none⟩ = some (.slice ao1 k1 c1)) ∧ (W.cell? ⟨c, 0, none⟩ = some (.bool n2) ∧ W.cell? ⟨c, 1, none⟩ = some (.slice ao2 k2 c2))) := fun W hW => ⟨int_cells hx W hW, int_cells hy W hW⟩
  have HD : Hid (∀ W, Below w.heap.size w W → Calls Try.prog 29 #[.slice ao1 k1 c1, .slice ao2 k2 c2] W (DivPost D W)) := hD
  have HZ : Hid (∀ W, Below w.heap.size w W → IntBlock W z nz vz ∧ IntBlock W r nr vr) := fun W hW => ⟨(hW.block z hz.lt).trans hz, (hW.block r hr.lt).trans hr⟩
  obtain ⟨⟨p1, p2⟩, q1, q2⟩ := HX.out w (Below.refl _ _)
  clear hx hy hD hz hr
  go_enter Try.func18, Try.ntmps18
  go_wp2
  go_quiet (fail)
  go_wp2
  refine wp_region_any (by kernel_rfl) ?_
  refine wpAny_headS (fun W => Below w.heap.size w W) 0 8 8 6 (below_drawn (below_drewN' w nq) _) (by kernel_rfl) (shutl_none _) (fun _ _ d _ _ h => by cases d <;> exact h) (by kernel_rfl) (by kernel_rfl) (by kernel_rfl) ?_
  simp only [List.take_succ_cons, List.take_zero, List.drop_succ_cons, List.drop_zero]
  repeat (refine wpValS_step _ (by rfl) (by intro W hW; obtain ⟨⟨p1, p2⟩, q1, q2⟩ := HX.out W hW; go_simp; try with_reducible rfl) ?_; try simp only [Act.put, List.setIfInBounds_toArray, List.set_cons_zero, List.set_cons_succ])
  refine wpValS_nil ?_
  refine tail_of (by kernel_rfl) ?_
  refine wpAny_ready (rs := [8]) (by kernel_rfl) (by simp) ?_
  refine AllReady.cons rfl (fun K hK => ?_) AllReady.nil
  go_simp
  refine (HD.out _ (below_drawn (below_drewN' w nq) _)).mono ?_
  rintro e w2 ⟨qo, qn, qc, qs, ro, rn, rc, rs, rfl, r1, r2, hm1, hm2, m1, m2, hd, b2'⟩
  have b2 : Below w.heap.size w w2 := ⟨b2'.os, b2'.tape, b2'.output, b2'.size, b2'.block⟩
  clear b2'
  refine hK _ _ ?_
  clear hK K
  try simp only [Act.put, List.setIfInBounds_toArray, List.set_cons_zero, List.set_cons_succ]
  refine wpAny_ready (rs := [9]) (by kernel_rfl) (by simp) ?_
  refine AllReady.cons rfl (fun K hK => ?_) AllReady.nil
  go_simp
  refine hK _ _ ?_
  clear hK K
  try simp only [Act.put, List.setIfInBounds_toArray, List.set_cons_zero, List.set_cons_succ]
  refine wpAny_take (i := 10) rfl (by kernel_rfl) (by kernel_rfl) (by kernel_rfl) (fun _ _ _ h => h) (Or.inl ⟨by rfl, fun w => (by go_simp; try with_reducible rfl)⟩) ?_
  try simp only [Act.put, List.setIfInBounds_toArray, List.set_cons_zero, List.set_cons_succ]
  refine wpAny_take (i := 11) rfl (by kernel_rfl) (by kernel_rfl) (by kernel_rfl) (fun _ _ _ h => h) (Or.inl ⟨by rfl, fun w => (by go_simp; try with_reducible rfl)⟩) ?_
  try simp only [Act.put, List.setIfInBounds_toArray, List.set_cons_zero, List.set_cons_succ]
  refine wpAny_ready (rs := [12]) (by kernel_rfl) (by simp) ?_
  refine AllReady.cons rfl (fun K hK => ?_) AllReady.nil
  go_simp
  refine hK _ _ ?_
  clear hK K
  refine wpAny_ready (rs := [13]) (by kernel_rfl) (by simp) ?_
  refine AllReady.cons rfl (fun K hK => ?_) AllReady.nil
  go_simp
  refine hK _ _ ?_
  clear hK K
  refine wpAny_done (by kernel_rfl) ?_ _
  obtain ⟨iz, ir⟩ := HZ.out w2 b2
  have HIZ : Hid (IntBlock w2 z nz vz ∧ IntBlock w2 r nr vr) := ⟨iz, ir⟩
  have HRW : Hid (Row w2 (.slice qo qn qc) qs ∧ Row w2 (.slice ro rn rc) rs) := ⟨r1, r2⟩
  clear iz ir r1 r2 p1 p2 q1 q2
  go_wp2_with fail
  refine (give_any z nz vz (n1 != n2) qo qn qc w2 hm1 HIZ.out.1).mono ?_
  rintro e w3 ⟨rfl, i3, g3⟩
  have ir3 : IntBlock w3 r nr vr := (g3.block r HIZ.out.2.lt (by intro e; cases e; exact hzr rfl)).trans HIZ.out.2
  have HR3 : Hid (IntBlock w3 r nr vr ∧ Row w3 (.slice ro rn rc) rs ∧ Big w3 z (sg (n1 != n2) (nv qs)) ∧ w.grownBy w3 (some z)) := ⟨ir3, HRW.out.2.other HIZ.out.1 g3, big_given HIZ.out.1 HRW.out.1 m1 i3 g3, grown_trans (grown_of_below b2) g3⟩
  clear ir3 i3 g3
  go_wp2_with fail
  refine (give_any r nr vr n1 ro rn rc w3 hm2 HR3.out.1).mono ?_
  rintro e w4 ⟨rfl, i4, g4⟩
  have HB : Hid (Big w4 r (sg n1 (nv rs)) ∧ w3.grownBy w4 (some r)) := ⟨big_given HR3.out.1 HR3.out.2.1 m2 i4 g4, g4⟩
  clear i4 g4
  go_wp2
  go_ret2
  refine ⟨rfl, _, _, hd, ?_, HB.out.1, w3, HR3.out.2.2.2, HB.out.2⟩
  obtain ⟨neg, v, ws, h1, h2, h3⟩ := HR3.out.2.2.1
  exact ⟨neg, v, ws, (HB.out.2.block z h1.lt (by intro e; cases e; exact hzr rfl)).trans h1, h2.other HR3.out.1 HB.out.2, h3⟩
end Go.Proofs.Ytopefdcmmmjihaa
