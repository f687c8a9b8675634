/- Contracts of the big numbers: sum, Add, Sub. -/
import Derived.Test.YtopefdcmmmjihaaBig4
import Derived.Test.YtopefdcmmmjihaaBigsub
import Derived.Test.YtopefdcmmmjihaaBigmul
import Derived.Test.YtopefdcmmmjihaaHeadlaw
namespace Go.Proofs.Ytopefdcmmmjihaa
open Go.ChangeShapes Go.WideShapes Go.ChangeAt Go.RowKit

/-- x, or - x. -/
def sg (n : Bool) (x : Int) : Int := if n then - x else x
theorem below_draw {w w' : World} {m : Nat} (h : Below (w.drewN m).heap.size (w.drewN m) w') : Below w.heap.size w w' := ⟨h.os, h.tape, h.output, h.size, h.block⟩
theorem len_le {a b : List Int} (ha : Wds a) (hb : Wds b) (nb : Norm b) (h : nv b ≤ nv a) : b.length ≤ a.length := by
  rcases Nat.lt_or_ge a.length b.length with h1 | h1
  · have := nv_short ha hb nb h1; omega
  · exact h1

set_option maxHeartbeats 1600000 in
theorem sum_any (xn yn : Bool) (va vb : Value) (a b : List Int) (w : World) (ha : Row w va a) (hb : Row w vb b) (na : Norm a) (nb : Norm b) (hla : a.length ≤ 100000) (hlb : b.length ≤ 100000) :
    Calls Try.prog 26 #[.bool xn, va, .bool yn, vb] w fun e w' => ∃ neg ao n cap ws, e = .returned (.tuple #[.bool neg, .slice ao n cap]) ∧ Row w' (.slice ao n cap) ws ∧ n ≤ maxLen ∧ Norm ws ∧ sg neg (nv ws) = sg xn (nv a) + sg yn (nv b) ∧ Below w.heap.size w w' := by
  have wa := ha.wds
  have wb := hb.wds
  obtain ⟨ao, n, ca, rfl, -, -⟩ := ha.slice
  obtain ⟨bo, m, cb, rfl, -, -⟩ := hb.slice
  by_cases hn : xn = yn
  · subst hn
    have h1 : (xn == xn) = true := by simp
    have HA := add_any _ _ a b w ha hb hla hlb
    have HH : Hid (Calls Try.prog 31 #[.slice ao n ca, .slice bo m cb] w fun e w' => ∃ v' ws', e = .returned v' ∧ Row w' v' ws' ∧ Norm ws' ∧ nv ws' = nv a + nv b ∧ Below w.heap.size w w') := HA
    clear HA ha hb na nb wa wb hla hlb
    go_enter Try.func26, Try.ntmps26
    go_wp2_with fail
    refine HH.out.mono ?_
    rintro e w2 ⟨v', ws', rfl, r2, n2, e2, b2⟩
    obtain ⟨ao2, m2, c2, rfl, hm2, -⟩ := r2.slice
    have HM : Hid (m2 ≤ maxLen) := hm2
    have HR : Hid (Row w2 (.slice ao2 m2 c2) ws') := r2
    have HE : Hid (nv ws' = nv a + nv b) := e2
    clear r2 e2 hm2
    go_wp2
    go_ret2
    refine ⟨_, _, _, _, ws', rfl, HR.out, HM.out, n2, ?_, b2⟩
    rw [HE.out]; unfold sg; cases xn <;> simp <;> omega
  · have h1 : (xn == yn) = false := by simpa using hn
    have h2 : yn = !xn := by cases xn <;> cases yn <;> simp_all
    have HC : Hid (Calls Try.prog 38 #[.slice ao n ca, .slice bo m cb] w fun e w' => e = .returned (.int .i64 (cmpI (nv a) (nv b))) ∧ ∃ m, w' = w.drewN m) := cmp_any _ _ a b w ha hb na nb
    obtain ⟨g1, g2⟩ := cmpI_range (nv a) (nv b)
    have HA : Hid (∀ q, Row (w.drewN q) (.slice ao n ca) a) := fun q => ha.drewN q
    have HB : Hid (∀ q, Row (w.drewN q) (.slice bo m cb) b) := fun q => hb.drewN q
    have HW : Hid (Wds a ∧ Wds b ∧ Norm a ∧ Norm b) := ⟨wa, wb, na, nb⟩
    clear ha hb wa wb na nb
    by_cases hc : nv b ≤ nv a
    · have g3 : 0 ≤ cmpI (nv a) (nv b) := by unfold cmpI; rw [if_neg (by omega)]; split <;> omega
      generalize cmpI (nv a) (nv b) = r at *
      have HL : Hid (nv b ≤ nv a) := hc
      clear hc hn
      go_enter Try.func26, Try.ntmps26
      go_wp2_with fail
      refine HC.out.mono ?_
      rintro e w1 ⟨rfl, q, rfl⟩
      go_wp2_with fail
      refine (sub_any _ _ a b _ (HA.out q) (HB.out q) hla (len_le HW.out.1 HW.out.2.1 HW.out.2.2.2 HL.out) HL.out).mono ?_
      rintro e w2 ⟨v', ws', rfl, r2, n2, e2, b2⟩
      obtain ⟨ao2, m2, c2, rfl, hm2, -⟩ := r2.slice
      have HM : Hid (m2 ≤ maxLen) := hm2
      have HR : Hid (Row w2 (.slice ao2 m2 c2) ws') := r2
      have HE : Hid (nv ws' = nv a - nv b) := e2
      clear r2 e2 hm2
      go_wp2
      go_ret2
      refine ⟨_, _, _, _, ws', rfl, HR.out, HM.out, n2, ?_, below_draw b2⟩
      rw [HE.out, h2]; unfold sg; cases xn <;> simp <;> omega
    · have g3 : cmpI (nv a) (nv b) < 0 := by unfold cmpI; rw [if_pos (by omega)]; omega
      generalize cmpI (nv a) (nv b) = r at *
      have HL : Hid (nv a ≤ nv b) := by show nv a ≤ nv b; omega
      clear hc hn
      go_enter Try.func26, Try.ntmps26
      go_wp2_with fail
      refine HC.out.mono ?_
      rintro e w1 ⟨rfl, q, rfl⟩
      go_wp2_with fail
      refine (sub_any _ _ b a _ (HB.out q) (HA.out q) hlb (len_le HW.out.2.1 HW.out.1 HW.out.2.2.1 HL.out) HL.out).mono ?_
      rintro e w2 ⟨v', ws', rfl, r2, n2, e2, b2⟩
      obtain ⟨ao2, m2, c2, rfl, hm2, -⟩ := r2.slice
      have HM : Hid (m2 ≤ maxLen) := hm2
      have HR : Hid (Row w2 (.slice ao2 m2 c2) ws') := r2
      have HE : Hid (nv ws' = nv b - nv a) := e2
      clear r2 e2 hm2
      go_wp2
      go_ret2
      refine ⟨_, _, _, _, ws', rfl, HR.out, HM.out, n2, ?_, below_draw b2⟩
      rw [HE.out, h2]; unfold sg; cases xn <;> simp <;> omega

/-- A number whose words are few. -/
def BigN (w : World) (b : Nat) (z : Int) : Prop := ∃ neg ao n cap ws, IntBlock w b neg (.slice ao n cap) ∧ Row w (.slice ao n cap) ws ∧ Norm ws ∧ (neg = true → ws ≠ []) ∧ z = sg neg (nv ws) ∧ n = ws.length ∧ n ≤ maxLen
theorem Big.open {w : World} {b : Nat} {z : Int} (h : Big w b z) : BigN w b z := by
  obtain ⟨neg, v, ws, h1, h2, h3, h4, h5⟩ := h
  obtain ⟨ao, n, cap, rfl, hm, hn⟩ := h2.slice
  exact ⟨neg, ao, n, cap, ws, h1, h2, h3, h4, h5, hn, hm⟩
theorem nv_lenS {ws : List Int} (hw : Wds ws) (hn : Norm ws) {k : Nat} (h : nv ws < top k) : ws.length ≤ k := by
  rcases Nat.lt_or_ge k ws.length with h1 | h1
  · have h2 := nv_norm hw hn (by intro e; subst e; simp at h1)
    have h3 := top_mono (m := k) (n := ws.length - 1) (by omega)
    omega
  · exact h1
theorem len_of_abs {ws : List Int} (hw : Wds ws) (hn : Norm ws) {neg : Bool} {z : Int} (e : z = sg neg (nv ws)) {k : Nat} (h0 : - top k < z) (h1 : z < top k) : ws.length ≤ k := by
  apply nv_lenS hw hn
  unfold sg at e
  cases neg <;> simp at e <;> omega

set_option linter.unusedSimpArgs false in
set_option maxHeartbeats 4000000 in
theorem Add_any (z b c : Nat) (n0 : Bool) (v0 : Value) (x y : Int) (w : World) (hz : IntBlock w z n0 v0) (hx : Big w b x) (hy : Big w c y) (hx0 : - top 100 < x) (hx1 : x < top 100) (hy0 : - top 100 < y) (hy1 : y < top 100) :
    Calls Try.prog 14 #[.pointer (some ⟨z, 0, none⟩), .pointer (some ⟨b, 0, none⟩), .pointer (some ⟨c, 0, none⟩)] w fun e w' => e = .returned (.pointer (some ⟨z, 0, none⟩)) ∧ Big w' z (x + y) ∧ w.grownBy w' (some z) := by
  obtain ⟨n1, ao1, k1, c1, a, i1, r1, m1, z1, e1, l1, -⟩ := hx.open
  obtain ⟨n2, ao2, k2, c2, d, i2, r2, m2, z2, e2, l2, -⟩ := hy.open
  obtain ⟨p1, p2, -, -⟩ := i1.cells
  obtain ⟨q1, q2, -, -⟩ := i2.cells
  have HS : Hid (∀ W, Below w.heap.size w W → Calls Try.prog 26 #[.bool n1, .slice ao1 k1 c1, .bool n2, .slice ao2 k2 c2] W fun e w' => ∃ neg ao n cap ws, e = .returned (.tuple #[.bool neg, .slice ao n cap]) ∧ Row w' (.slice ao n cap) ws ∧ n ≤ maxLen ∧ Norm ws ∧ sg neg (nv ws) = x + y ∧ Below W.heap.size W w') := fun W hW => by
    rw [e1, e2]
    exact sum_any n1 n2 _ _ a d W (r1.below hW) (r2.below hW) m1 m2 (Nat.le_trans (len_of_abs r1.wds m1 e1 hx0 hx1) (by decide)) (Nat.le_trans (len_of_abs r2.wds m2 e2 hy0 hy1) (by decide))
  have HZ : Hid (∀ W, Below w.heap.size w W → IntBlock W z n0 v0) := fun W hW => (hW.block z hz.lt).trans hz
  clear hx hy i1 i2 r1 r2 m1 m2 z1 z2 e1 e2 hx0 hx1 hy0 hy1 hz l1 l2
  go_enter Try.func14, Try.ntmps14
  go_wp2
  refine wp_region_any (by kernel_rfl) ?_
  refine wpAny_take (i := 0) rfl (by kernel_rfl) (by kernel_rfl) (by kernel_rfl) (fun _ _ _ h => h) (Or.inl ⟨by rfl, fun w => (by go_simp; try with_reducible rfl)⟩) ?_
  simp only [Act.put, List.setIfInBounds_toArray, List.set_cons_zero, List.set_cons_succ]
  refine wpAny_head 1 16 5 (by kernel_rfl) (shutl_one (by kernel_rfl)) (fun _ _ d _ _ h => by cases d <;> exact h) (by kernel_rfl) (by kernel_rfl) (by kernel_rfl) ?_
  simp only [List.take_succ_cons, List.take_zero, List.drop_succ_cons, List.drop_zero]
  repeat (refine wpVal_step _ (by rfl) (by go_simp; try with_reducible rfl) ?_; simp only [Act.put, List.setIfInBounds_toArray, List.set_cons_zero, List.set_cons_succ])
  refine wpVal_nil ?_
  refine wpAny_ready (rs := [17]) (by kernel_rfl) (by simp) ?_
  refine AllReady.cons rfl (fun K hK => ?_) AllReady.nil
  go_simp
  refine (HS.out _ (below_drewN' w 1)).mono ?_
  rintro e w2 ⟨neg, ao, n, cap, ws, rfl, r2, hm2, m2, e2, b2⟩
  refine hK _ _ ?_
  clear hK K
  try simp only [Act.put, List.setIfInBounds_toArray, List.set_cons_zero, List.set_cons_succ]
  refine wpAny_take (i := 18) rfl (by kernel_rfl) (by kernel_rfl) (by kernel_rfl) (fun _ _ _ h => h) (Or.inl ⟨by rfl, fun w => (by go_simp; try with_reducible rfl)⟩) ?_
  simp only [Act.put, List.setIfInBounds_toArray, List.set_cons_zero, List.set_cons_succ]
  refine wpAny_take (i := 19) rfl (by kernel_rfl) (by kernel_rfl) (by kernel_rfl) (fun _ _ _ h => h) (Or.inl ⟨by rfl, fun w => (by go_simp; try with_reducible rfl)⟩) ?_
  simp only [Act.put, List.setIfInBounds_toArray, List.set_cons_zero, List.set_cons_succ]
  refine wpAny_ready (rs := [20]) (by kernel_rfl) (by simp) ?_
  refine AllReady.cons rfl (fun K hK => ?_) AllReady.nil
  go_simp
  refine (give_any z n0 v0 neg ao n cap w2 hm2 (HZ.out _ (below_draw b2))).mono ?_
  rintro e w3 ⟨rfl, i3, g3⟩
  refine hK _ _ ?_
  clear hK K
  try simp only [Act.put, List.setIfInBounds_toArray, List.set_cons_zero, List.set_cons_succ]
  refine wpAny_ready (rs := [21]) (by kernel_rfl) (by simp) ?_
  refine AllReady.cons rfl (fun K hK => ?_) AllReady.nil
  go_simp
  refine hK _ _ ?_
  clear hK K
  refine wpAny_done (by kernel_rfl) ?_ _
  go_wp2
  go_ret
  refine ⟨rfl, ?_, grown_trans (grown_of_below (below_draw b2)) g3⟩
  have := big_given (HZ.out _ (below_draw b2)) r2 m2 i3 g3
  rw [← e2]
  exact this
set_option linter.unusedSimpArgs false in
set_option maxHeartbeats 4000000 in
theorem Sub_any (z b c : Nat) (n0 : Bool) (v0 : Value) (x y : Int) (w : World) (hz : IntBlock w z n0 v0) (hx : Big w b x) (hy : Big w c y) (hx0 : - top 100 < x) (hx1 : x < top 100) (hy0 : - top 100 < y) (hy1 : y < top 100) :
    Calls Try.prog 16 #[.pointer (some ⟨z, 0, none⟩), .pointer (some ⟨b, 0, none⟩), .pointer (some ⟨c, 0, none⟩)] w fun e w' => e = .returned (.pointer (some ⟨z, 0, none⟩)) ∧ Big w' z (x - y) ∧ w.grownBy w' (some z) := by
  obtain ⟨n1, ao1, k1, c1, a, i1, r1, m1, z1, e1, l1, -⟩ := hx.open
  obtain ⟨n2, ao2, k2, c2, d, i2, r2, m2, z2, e2, l2, -⟩ := hy.open
  obtain ⟨p1, p2, -, -⟩ := i1.cells
  obtain ⟨q1, q2, -, -⟩ := i2.cells
  have HS : Hid (∀ W, Below w.heap.size w W → Calls Try.prog 26 #[.bool n1, .slice ao1 k1 c1, .bool (!n2), .slice ao2 k2 c2] W fun e w' => ∃ neg ao n cap ws, e = .returned (.tuple #[.bool neg, .slice ao n cap]) ∧ Row w' (.slice ao n cap) ws ∧ n ≤ maxLen ∧ Norm ws ∧ sg neg (nv ws) = x - y ∧ Below W.heap.size W w') := fun W hW => by
    rw [show x - y = sg n1 (nv a) + sg (!n2) (nv d) by rw [e1, e2]; unfold sg; cases n2 <;> simp <;> omega]
    exact sum_any n1 (!n2) _ _ a d W (r1.below hW) (r2.below hW) m1 m2 (Nat.le_trans (len_of_abs r1.wds m1 e1 hx0 hx1) (by decide)) (Nat.le_trans (len_of_abs r2.wds m2 e2 hy0 hy1) (by decide))
  have HZ : Hid (∀ W, Below w.heap.size w W → IntBlock W z n0 v0) := fun W hW => (hW.block z hz.lt).trans hz
  clear hx hy i1 i2 r1 r2 m1 m2 z1 z2 e1 e2 hx0 hx1 hy0 hy1 hz l1 l2
  go_enter Try.func16, Try.ntmps16
  go_wp2
  refine wp_region_any (by kernel_rfl) ?_
  refine wpAny_take (i := 0) rfl (by kernel_rfl) (by kernel_rfl) (by kernel_rfl) (fun _ _ _ h => h) (Or.inl ⟨by rfl, fun w => (by go_simp; try with_reducible rfl)⟩) ?_
  simp only [Act.put, List.setIfInBounds_toArray, List.set_cons_zero, List.set_cons_succ]
  refine wpAny_head 1 17 5 (by kernel_rfl) (shutl_one (by kernel_rfl)) (fun _ _ d _ _ h => by cases d <;> exact h) (by kernel_rfl) (by kernel_rfl) (by kernel_rfl) ?_
  simp only [List.take_succ_cons, List.take_zero, List.drop_succ_cons, List.drop_zero]
  repeat (refine wpVal_step _ (by rfl) (by go_simp; try with_reducible rfl) ?_; simp only [Act.put, List.setIfInBounds_toArray, List.set_cons_zero, List.set_cons_succ])
  refine wpVal_nil ?_
  refine wpAny_ready (rs := [18]) (by kernel_rfl) (by simp) ?_
  refine AllReady.cons rfl (fun K hK => ?_) AllReady.nil
  go_simp
  refine (HS.out _ (below_drewN' w 1)).mono ?_
  rintro e w2 ⟨neg, ao, n, cap, ws, rfl, r2, hm2, m2, e2, b2⟩
  refine hK _ _ ?_
  clear hK K
  try simp only [Act.put, List.setIfInBounds_toArray, List.set_cons_zero, List.set_cons_succ]
  refine wpAny_take (i := 19) rfl (by kernel_rfl) (by kernel_rfl) (by kernel_rfl) (fun _ _ _ h => h) (Or.inl ⟨by rfl, fun w => (by go_simp; try with_reducible rfl)⟩) ?_
  simp only [Act.put, List.setIfInBounds_toArray, List.set_cons_zero, List.set_cons_succ]
  refine wpAny_take (i := 20) rfl (by kernel_rfl) (by kernel_rfl) (by kernel_rfl) (fun _ _ _ h => h) (Or.inl ⟨by rfl, fun w => (by go_simp; try with_reducible rfl)⟩) ?_
  simp only [Act.put, List.setIfInBounds_toArray, List.set_cons_zero, List.set_cons_succ]
  refine wpAny_ready (rs := [21]) (by kernel_rfl) (by simp) ?_
  refine AllReady.cons rfl (fun K hK => ?_) AllReady.nil
  go_simp
  refine (give_any z n0 v0 neg ao n cap w2 hm2 (HZ.out _ (below_draw b2))).mono ?_
  rintro e w3 ⟨rfl, i3, g3⟩
  refine hK _ _ ?_
  clear hK K
  try simp only [Act.put, List.setIfInBounds_toArray, List.set_cons_zero, List.set_cons_succ]
  refine wpAny_ready (rs := [22]) (by kernel_rfl) (by simp) ?_
  refine AllReady.cons rfl (fun K hK => ?_) AllReady.nil
  go_simp
  refine hK _ _ ?_
  clear hK K
  refine wpAny_done (by kernel_rfl) ?_ _
  go_wp2
  go_ret
  refine ⟨rfl, ?_, grown_trans (grown_of_below (below_draw b2)) g3⟩
  have := big_given (HZ.out _ (below_draw b2)) r2 m2 i3 g3
  rw [← e2]
  exact this
end Go.Proofs.Ytopefdcmmmjihaa
