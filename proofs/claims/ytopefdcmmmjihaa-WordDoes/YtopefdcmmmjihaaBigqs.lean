/- QuoRem of numbers of at most 64 bits. -/
import Derived.Test.YtopefdcmmmjihaaBigmod
namespace Go.Proofs.Ytopefdcmmmjihaa
open Go.ChangeShapes Go.WideShapes Go.ChangeAt Go.RowKit

/-- div, where the number divided has at most 64 bits. -/
theorem div_small (va vb : Value) (a b : List Int) (w : World) (ha : Row w va a) (hb : Row w vb b) (na : Norm a) (nb : Norm b) (h1 : nv a < 18446744073709551616) (hb0 : 0 < nv b) :
    Calls Try.prog 29 #[va, vb] w (DivPost (fun q t => q = nv a / nv b ∧ t = nv a % nv b) w) := by
  have t2 : top 2 = 18446744073709551616 := by decide
  have hl : a.length ≤ 2 := nv_lenS ha.wds na (by omega)
  rcases Int.lt_or_le (nv a) (nv b) with h | h
  · refine (div_less va vb a b w ha hb na nb (by omega) h).mono ?_
    rintro e w' ⟨qo, qn, qc, qs, ro, rn, rc, rs, he, r1, r2, l1, l2, m1, m2, e1, e2, hB⟩
    exact ⟨qo, qn, qc, qs, ro, rn, rc, rs, he, r1, r2, l1, l2, m1, m2, ⟨e1, e2⟩, hB⟩
  · refine (div_two va vb a b w ha hb na nb hl h hb0).mono ?_
    rintro e w' ⟨qo, qn, qc, qs, ro, rn, rc, rs, he, r1, r2, l1, l2, m1, m2, e1, e2, hB⟩
    exact ⟨qo, qn, qc, qs, ro, rn, rc, rs, he, r1, r2, l1, l2, m1, m2, ⟨e1, e2⟩, hB⟩
/-- What is less than the divisor, or has at most 64 bits. -/
theorem divOK_small {X Y : Int} (h1 : X < 18446744073709551616) (hY : 0 < Y) : DivOK X Y := by
  intro va vb a d W ha hd na nd ea ed
  have t0 := top_mono (m := 3) (n := 99) (by decide)
  have t3 : top 3 = 79228162514264337593543950336 := by decide
  have a0 := (nv_range ha.wds).1
  subst ea ed
  refine (div_small va vb a d W ha hd na nd h1 hY).mono ?_
  rintro e w' ⟨qo, qn, qc, qs, ro, rn, rc, rs, he, r1, r2, l1, l2, m1, m2, ⟨e1, e2⟩, hB⟩
  have q0 : 0 ≤ nv a / nv d := Int.ediv_nonneg a0 (by omega)
  have q1 : nv a / nv d ≤ nv a := Int.ediv_le_self _ a0
  exact ⟨qo, qn, qc, qs, ro, rn, rc, rs, he, r1, r2, l1, l2, m1, m2, ⟨by omega, by omega, e2⟩, hB⟩
theorem sg_tdiv (n1 n2 : Bool) {x y : Int} (hx : 0 ≤ x) : sg (n1 != n2) (x / y) = (sg n1 x).tdiv (sg n2 y) := by
  have e : x / y = x.tdiv y := (Int.tdiv_eq_ediv_of_nonneg hx).symm
  rw [e]
  unfold sg
  cases n1 <;> cases n2 <;> simp [Int.neg_tdiv, Int.tdiv_neg]
theorem sg_tmod (n1 n2 : Bool) {x y : Int} (hx : 0 ≤ x) : sg n1 (x % y) = (sg n1 x).tmod (sg n2 y) := by
  have e : x % y = x.tmod y := (Int.tmod_eq_emod_of_nonneg hx).symm
  rw [e]
  unfold sg
  cases n1 <;> cases n2 <;> simp [Int.neg_tmod, Int.tmod_neg]

theorem QuoRem_small (z b c r : Nat) (nz nr : Bool) (vz vr : Value) (x y : Int) (w : World) (hzr : z ≠ r) (hz : IntBlock w z nz vz) (hr : IntBlock w r nr vr) (hx : Big w b x) (hy : Big w c y)
    (x0 : -18446744073709551616 < x) (x1 : x < 18446744073709551616) (hy0 : y ≠ 0) :
    Calls Try.prog 18 #[.pointer (some ⟨z, 0, none⟩), .pointer (some ⟨b, 0, none⟩), .pointer (some ⟨c, 0, none⟩), .pointer (some ⟨r, 0, none⟩)] w fun e w' =>
      e = .returned (.tuple #[.pointer (some ⟨z, 0, none⟩), .pointer (some ⟨r, 0, none⟩)]) ∧ Big w' z (x.tdiv y) ∧ Big w' r (x.tmod y) ∧ ∃ w1, w.grownBy w1 (some z) ∧ w1.grownBy w' (some r) := by
  obtain ⟨n1, ao1, k1, c1, a, i1, r1, m1, z1, e1, -, -⟩ := hx.open
  obtain ⟨n2, ao2, k2, c2, d, i2, r2, m2, z2, e2, -, -⟩ := hy.open
  have a0 := (nv_range r1.wds).1
  have d0 := (nv_range r2.wds).1
  have a1 : nv a < 18446744073709551616 := by cases n1 <;> simp [sg] at e1 <;> omega
  have d1 : 0 < nv d := by cases n2 <;> simp [sg] at e2 <;> omega
  refine (QuoRem_any (fun q t => q = nv a / nv d ∧ t = nv a % nv d) z b c r nz nr vz vr n1 n2 ao1 ao2 k1 c1 k2 c2 w hzr hz hr i1 i2 (fun W hW => div_small _ _ a d W (r1.below hW) (r2.below hW) m1 m2 a1 d1)).mono ?_
  rintro e w' ⟨he, q, t, ⟨rfl, rfl⟩, bz, br, h⟩
  refine ⟨he, ?_, ?_, h⟩
  · rw [e1, e2, ← sg_tdiv n1 n2 a0]; exact bz
  · rw [e1, e2, ← sg_tmod n1 n2 a0]; exact br
end Go.Proofs.Ytopefdcmmmjihaa
