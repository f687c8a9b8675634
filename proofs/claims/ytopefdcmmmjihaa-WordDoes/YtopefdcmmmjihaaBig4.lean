/- Contracts of the big numbers: cmp, Cmp. -/
import Derived.Test.YtopefdcmmmjihaaBig3
import Derived.Deep.QuietTactic
import Derived.BigQuiet
namespace Go.Proofs.Ytopefdcmmmjihaa
open Go.ChangeShapes Go.WideShapes Go.ChangeAt Go.RowKit

/-- -1, 0 or 1 as a is less than b, b or more. -/
def cmpI (a b : Int) : Int := if a < b then -1 else if b < a then 1 else 0
theorem Row.drewN {w : World} {v : Value} {ws : List Int} (h : Row w v ws) (n : Nat) : Row (w.drewN n) v ws := h
theorem Big.drewN {w : World} {b : Nat} {z : Int} (h : Big w b z) (n : Nat) : Big (w.drewN n) b z := h
theorem below_drewN' (w : World) (n : Nat) : Below w.heap.size w (w.drewN n) := ⟨rfl, rfl, rfl, Nat.le_refl _, fun _ _ => rfl⟩

/-- The rows of a comparison, word by word: what the walk is told. -/
theorem Row.cellsAt {w : World} {v : Value} {ws : List Int} (h : Row w v ws) (h0 : 0 < ws.length) : ∃ g cap, v = .slice (some ⟨g, 0, none⟩) ws.length cap ∧ ws.length ≤ 9223372036854775807 ∧ ∀ j, j < ws.length → w.cell? ⟨g, j, none⟩ = some (.int .u32 (ws.getD j 0)) := by
  rcases h.shape with ⟨rfl, rfl⟩ | ⟨g, cap, rfl, h1, h2, h3, _⟩
  · simp at h0
  · unfold maxLen at h2; exact ⟨g, cap, rfl, by omega, h3⟩

theorem getD_some {l : List Int} {i : Nat} (h : i < l.length) : l[i]? = some (l.getD i 0) := by
  rw [List.getD_eq_getElem?_getD, List.getElem?_eq_getElem h]; rfl
theorem nv_eq_of {a b : List Int} (hl : a.length = b.length) (h : ∀ j, j < a.length → a.getD j 0 = b.getD j 0) : a = b := by
  apply List.ext_getElem?
  intro i
  by_cases hi : i < a.length
  · rw [getD_some hi, getD_some (by omega), h i hi]
  · rw [List.getElem?_eq_none (by omega), List.getElem?_eq_none (by omega)]
theorem cmp_at {a b : List Int} (ha : Wds a) (hb : Wds b) (hl : a.length = b.length) {k : Nat} (hk : k < a.length) (he : ∀ j, k < j → j < a.length → a.getD j 0 = b.getD j 0) (hlt : a.getD k 0 < b.getD k 0) : nv a < nv b := by
  refine nv_lt_at k ha hb hl (fun j hj => ?_) (fun x y hx hy => ?_) hk
  · by_cases h : j < a.length
    · rw [getD_some h, getD_some (by omega), he j hj h]
    · rw [List.getElem?_eq_none (by omega), List.getElem?_eq_none (by omega)]
  · rw [getD_some hk] at hx
    rw [getD_some (by omega)] at hy
    cases hx; cases hy
    exact hlt

set_option maxHeartbeats 1600000 in
theorem cmp_any (va vb : Value) (a b : List Int) (w : World) (ha : Row w va a) (hb : Row w vb b) (na : Norm a) (nb : Norm b) :
    Calls Try.prog 38 #[va, vb] w fun e w' => e = .returned (.int .i64 (cmpI (nv a) (nv b))) ∧ ∃ m, w' = w.drewN m := by
  have wa := ha.wds
  have wb := hb.wds
  obtain ⟨aoa, n, capa, rfl, hna, hla⟩ := ha.slice
  obtain ⟨aob, m, capb, rfl, hnb, hlb⟩ := hb.slice
  unfold maxLen at hna hnb
  by_cases hlt : n < m
  · have hv := nv_short wa wb nb (by omega)
    have e : cmpI (nv a) (nv b) = -1 := by unfold cmpI; rw [if_pos hv]
    rw [e]
    have h1 : ((n : Int) != (m : Int)) = true := by rw [bne_iff_ne]; omega
    clear e hv na nb wa wb ha hb hla hlb
    go_enter Try.func38, Try.ntmps38
    go_wp2
    go_ret
    exact ⟨rfl, 0, rfl⟩
  by_cases hgt : m < n
  · have hv := nv_short wb wa na (by omega)
    have e : cmpI (nv a) (nv b) = 1 := by unfold cmpI; rw [if_neg (by omega), if_pos hv]
    rw [e]
    have h1 : ((n : Int) != (m : Int)) = true := by rw [bne_iff_ne]; omega
    clear e hv na nb wa wb ha hb hla hlb
    go_enter Try.func38, Try.ntmps38
    go_wp2
    go_ret
    exact ⟨rfl, 0, rfl⟩
  obtain rfl : n = m := by omega
  by_cases h0 : n = 0
  · subst h0
    obtain rfl : a = [] := List.length_eq_zero_iff.1 hla.symm
    obtain rfl : b = [] := List.length_eq_zero_iff.1 hlb.symm
    clear hlt hgt ha hb na nb wa wb hla hlb
    go_enter Try.func38, Try.ntmps38
    go_wp2
    refine wp_loop_rounds 1 ?_
    rw [rounds_succ]
    go_wp2
    go_ret
    exact ⟨rfl, 0, rfl⟩
  obtain ⟨ga, ca, ea, -, hca⟩ := ha.cellsAt (by omega)
  obtain ⟨gb, cb, eb, -, hcb⟩ := hb.cellsAt (by omega)
  simp only [Value.slice.injEq] at ea eb
  obtain ⟨rfl, -, rfl⟩ := ea
  obtain ⟨rfl, -, rfl⟩ := eb
  have HA : Hid (∀ j, j < a.length → w.cell? ⟨ga, j, none⟩ = some (.int .u32 (a.getD j 0))) := hca
  have HB : Hid (∀ j, j < b.length → w.cell? ⟨gb, j, none⟩ = some (.int .u32 (b.getD j 0))) := hcb
  have HL : Hid (a.length = n ∧ b.length = n) := ⟨hla.symm, hlb.symm⟩
  have HW : Hid (Wds a ∧ Wds b) := ⟨wa, wb⟩
  have h1 : ((n : Int) != (n : Int)) = false := by simp
  clear ha hb na nb wa wb hca hcb hla hlb hlt hgt
  go_enter Try.func38, Try.ntmps38
  go_wp2
  go_loopw [5] (fun t wr => ∃ (k q : Nat), k ≤ n ∧ t = .int .i64 ((k : Int) - 1) ∧ wr = w.drewN q ∧ Hid (∀ j, k ≤ j → j < n → a.getD j 0 = b.getD j 0)) (fun t _ => (intOf t + 1).toNat)
  case atStart => exact ⟨n, 0, Nat.le_refl _, rfl, rfl, fun j h1 h2 => by omega⟩
  case round =>
    obtain ⟨k, q, hk, rfl, rfl, HE⟩ := hrel
    rcases Nat.eq_zero_or_pos k with rfl | hpos
    · go_wp2
      go_ret
      have e : a = b := nv_eq_of (by rw [HL.out.1, HL.out.2]) (fun j hj => HE.out j (Nat.zero_le _) (by rw [← HL.out.1]; exact hj))
      refine ⟨?_, q, rfl⟩
      subst e
      unfold cmpI
      simp
    · obtain ⟨j, rfl⟩ : ∃ j, k = j + 1 := ⟨k - 1, by omega⟩
      have c1 := HA.out j (by rw [HL.out.1]; omega)
      have c2 := HB.out j (by rw [HL.out.2]; omega)
      generalize hx : a.getD j 0 = x at c1
      generalize hy : b.getD j 0 = y at c2
      have HX : Hid (a.getD j 0 = x) := hx
      have HY : Hid (b.getD j 0 = y) := hy
      clear hx hy
      by_cases hxy : x = y
      · subst hxy
        have t1 : (x != x) = false := by simp
        go_wp2
        go_quiet (fail)
        go_wp2
        exact ⟨⟨j, _, by omega, rfl, rfl, fun i h1 h2 => by
          by_cases hij : i = j
          · subst hij; rw [HX.out, HY.out]
          · exact HE.out i (by omega) h2⟩, by simp [intOf]⟩
      · have t1 : (x != y) = true := by rw [bne_iff_ne]; exact hxy
        by_cases hlt : x < y
        · have e : cmpI (nv a) (nv b) = -1 := by
            have := cmp_at HW.out.1 HW.out.2 (by rw [HL.out.1, HL.out.2]) (k := j) (by rw [HL.out.1]; omega) (fun i h1 h2 => HE.out i (by omega) (by rw [← HL.out.1]; exact h2)) (by rw [HX.out, HY.out]; exact hlt)
            unfold cmpI; rw [if_pos this]
          have HQ : Hid (cmpI (nv a) (nv b) = -1) := e
          clear e
          go_wp2
          go_quiet (fail)
          go_wp2
          go_quiet (fail)
          go_wp2
          go_ret
          exact ⟨by rw [HQ.out]; rfl, _, by rw [World.drewN_drewN, World.drewN_drewN]⟩
        · have hgt : y < x := by omega
          have e : cmpI (nv a) (nv b) = 1 := by
            have := cmp_at HW.out.2 HW.out.1 (by rw [HL.out.1, HL.out.2]) (k := j) (by rw [HL.out.2]; omega) (fun i h1 h2 => (HE.out i (by omega) (by rw [← HL.out.2]; exact h2)).symm) (by rw [HX.out, HY.out]; exact hgt)
            unfold cmpI; rw [if_neg (by omega), if_pos this]
          have HQ : Hid (cmpI (nv a) (nv b) = 1) := e
          clear e
          go_wp2
          go_quiet (fail)
          go_wp2
          go_quiet (fail)
          go_wp2
          go_ret
          exact ⟨by rw [HQ.out]; rfl, _, by rw [World.drewN_drewN, World.drewN_drewN]⟩

/-- A callee that draws, met in a world that has drawn. -/
theorem quiet_of_far {P : Program} {f : FuncId} {args : Array Value} {w : World} {a n : Nat} {v : Value}
    (h : Calls P f args (w.drewN (a + n)) fun e w' => e = .returned v ∧ ∃ m, w' = (w.drewN (a + n)).drewN m) : Calls P f args (w.drewN (a + n)) fun e w'' => e = .returned v ∧ ∃ m, w'' = w.drewN (a + m) :=
  h.mono fun _ _ ⟨he, m, hm⟩ => ⟨he, n + m, by rw [hm, World.drewN_drewN, Nat.add_assoc]⟩
theorem cmpI_neg (a b : Int) : cmpI (- a) (- b) = - cmpI a b := by
  unfold cmpI
  by_cases h1 : a < b
  · rw [if_neg (by omega), if_pos (by omega), if_pos h1]; rfl
  · by_cases h2 : b < a
    · rw [if_pos (by omega), if_neg h1, if_pos h2]
    · rw [if_neg (by omega), if_neg (by omega), if_neg h1, if_neg h2]; rfl
theorem cmpI_range (a b : Int) : -1 ≤ cmpI a b ∧ cmpI a b ≤ 1 := by
  unfold cmpI
  split
  · omega
  · split <;> omega

set_option maxHeartbeats 1600000 in
theorem Cmp_any (b c : Nat) (x y : Int) (w : World) (hx : Big w b x) (hy : Big w c y) :
    Calls Try.prog 24 #[.pointer (some ⟨b, 0, none⟩), .pointer (some ⟨c, 0, none⟩)] w fun e w' => e = .returned (.int .i64 (cmpI x y)) ∧ ∃ m, w' = w.drewN m := by
  obtain ⟨n1, v1, a, i1, r1, m1, z1, e1⟩ := hx
  obtain ⟨n2, v2, d, i2, r2, m2, z2, e2⟩ := hy
  obtain ⟨p1, p2, -, -⟩ := i1.cells
  obtain ⟨q1, q2, -, -⟩ := i2.cells
  have g1 := (nv_range r1.wds).1
  have g2 := (nv_range r2.wds).1
  by_cases hn : n1 = n2
  · subst hn
    obtain ⟨s1, s2⟩ := cmpI_range (nv a) (nv d)
    obtain ⟨ao1, k1, c1, rfl, -, -⟩ := r1.slice
    obtain ⟨ao2, k2, c2, rfl, -, -⟩ := r2.slice
    have HC : Hid (∀ q, Calls Try.prog 38 #[.slice ao1 k1 c1, .slice ao2 k2 c2] (w.drewN q) fun e w' => e = .returned (.int .i64 (cmpI (nv a) (nv d))) ∧ ∃ m, w' = (w.drewN q).drewN m) := fun q => cmp_any _ _ a d (w.drewN q) (r1.drewN q) (r2.drewN q) m1 m2
    cases n1
    · have HE : Hid (cmpI x y = cmpI (nv a) (nv d)) := by rw [e1, e2]; rfl
      generalize cmpI (nv a) (nv d) = r at *
      clear e1 e2 g1 g2 i1 i2 r1 r2 m1 m2 z1 z2
      go_enter Try.func24, Try.ntmps24
      go_wp2
      go_quiet (fail)
      go_wp2
      go_quiet ((go_at_call 38; exact quiet_of_far (HC.out _)))
      go_wp2
      go_ret
      exact ⟨by rw [HE.out]; rfl, _, rfl⟩
    · have HE : Hid (cmpI x y = - cmpI (nv a) (nv d)) := by
        show cmpI x y = _
        rw [e1, e2]
        simp only [if_true]
        exact cmpI_neg _ _
      generalize cmpI (nv a) (nv d) = r at *
      clear e1 e2 g1 g2 i1 i2 r1 r2 m1 m2 z1 z2
      go_enter Try.func24, Try.ntmps24
      go_wp2
      go_quiet (fail)
      go_wp2
      go_quiet ((go_at_call 38; exact quiet_of_far (HC.out _)))
      go_wp2
      go_ret
      exact ⟨by rw [HE.out]; rfl, _, rfl⟩
  · cases n1
    · obtain rfl : n2 = true := by cases n2 <;> simp_all
      have gt : cmpI x y = 1 := by
        have := nv_pos r2.wds m2 (z2 rfl)
        simp at e1 e2
        unfold cmpI; rw [if_neg (by omega), if_pos (by omega)]
      rw [gt]
      clear gt e1 e2 g1 g2 i1 i2 r1 r2 m1 m2 z1 z2 p2 q2 hn
      go_enter Try.func24, Try.ntmps24
      go_wp2
      go_quiet (fail)
      go_wp2
      go_ret
      exact ⟨rfl, _, rfl⟩
    · obtain rfl : n2 = false := by cases n2 <;> simp_all
      have lt : cmpI x y = -1 := by
        have := nv_pos r1.wds m1 (z1 rfl)
        simp at e1 e2
        unfold cmpI; rw [if_pos (by omega)]
      rw [lt]
      clear lt e1 e2 g1 g2 i1 i2 r1 r2 m1 m2 z1 z2 p2 q2 hn
      go_enter Try.func24, Try.ntmps24
      go_wp2
      go_quiet (fail)
      go_wp2
      go_ret
      exact ⟨rfl, _, rfl⟩
end Go.Proofs.Ytopefdcmmmjihaa
