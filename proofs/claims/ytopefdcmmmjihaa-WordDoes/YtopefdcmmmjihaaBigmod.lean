/- Contracts of the big numbers: DivMod, Mod, by a divisor above 0. -/
import Derived.Test.YtopefdcmmmjihaaBigquo
import Derived.Test.YtopefdcmmmjihaaBigset
namespace Go.Proofs.Ytopefdcmmmjihaa
open Go.ChangeShapes Go.WideShapes Go.ChangeAt Go.RowKit

/-- All but two blocks are as they were. -/
structure Kept2 (w w' : World) (z m : Nat) : Prop where
  os : w'.os = w.os
  tape : w'.tape = w.tape
  output : w'.output = w.output
  size : w.heap.size ≤ w'.heap.size
  block : ∀ k, k < w.heap.size → k ≠ z → k ≠ m → w'.heap[k]? = w.heap[k]?
theorem Kept2.trans {a b c : World} {z m : Nat} (h1 : Kept2 a b z m) (h2 : Kept2 b c z m) : Kept2 a c z m :=
  ⟨h2.os.trans h1.os, h2.tape.trans h1.tape, h2.output.trans h1.output, Nat.le_trans h1.size h2.size, fun k hk hz hm => (h2.block k (Nat.lt_of_lt_of_le hk h1.size) hz hm).trans (h1.block k hk hz hm)⟩
theorem kept_below {a b : World} {z m : Nat} (h : Below a.heap.size a b) : Kept2 a b z m := ⟨h.os, h.tape, h.output, h.size, fun k hk _ _ => h.block k hk⟩
theorem kept_z {a b : World} {z m : Nat} (h : a.grownBy b (some z)) : Kept2 a b z m := ⟨h.os, h.tape, h.output, h.size, fun k hk hz _ => h.block k hk (by simpa using hz)⟩
theorem kept_m {a b : World} {z m : Nat} (h : a.grownBy b (some m)) : Kept2 a b z m := ⟨h.os, h.tape, h.output, h.size, fun k hk _ hm => h.block k hk (by simpa using hm)⟩
theorem Big.kept {w w' : World} {b z m : Nat} {x : Int} {nz nm : Bool} {vz vm : Value} (h : Big w b x) (hz : IntBlock w z nz vz) (hm : IntBlock w m nm vm) (k : Kept2 w w' z m) (bz : b ≠ z) (bm : b ≠ m) : Big w' b x := by
  obtain ⟨neg, v, ws, h1, h2, h3⟩ := h
  refine ⟨neg, v, ws, (k.block b h1.lt bz bm).trans h1, row_kept h2 (fun j hj => k.block j (h2.lt j hj) (fun e => ?_) (fun e => ?_)), h3⟩
  · subst e; exact h2.not_int hz hj
  · subst e; exact h2.not_int hm hj
theorem Big.block {w : World} {b : Nat} {x : Int} (h : Big w b x) : ∃ n v, IntBlock w b n v := by
  obtain ⟨n, v, _, h1, _⟩ := h; exact ⟨n, v, h1⟩
theorem Big.grown {w w' : World} {b r : Nat} {x : Int} {n : Bool} {v : Value} (h : Big w b x) (hi : IntBlock w r n v) (hg : w.grownBy w' (some r)) (hne : b ≠ r) : Big w' b x :=
  h.kept hi hi (kept_z hg) hne hne
/-- div answers for these two numbers. -/
def DivOK (X Y : Int) : Prop := ∀ (va vb : Value) (a d : List Int) (W : World), Row W va a → Row W vb d → Norm a → Norm d → nv a = X → nv d = Y → Calls Try.prog 29 #[va, vb] W (DivPost (fun q t => 0 ≤ q ∧ q < top 99 ∧ t = X % Y) W)
theorem mod_neg {X y : Int} (hy : 0 < y) (h : 0 < X % y) : y - X % y = (- X) % y := by
  have h1 := Int.emod_add_mul_ediv X y
  have h2 := Int.emod_lt_of_pos X hy
  generalize X % y = r at *
  generalize X / y = q at *
  have e : - X = (y - r) + y * (- q - 1) := by
    rw [← h1, Int.mul_sub, Int.mul_neg, Int.mul_one]; omega
  rw [e, Int.add_mul_emod_self_left, Int.emod_eq_of_lt (by omega) (by omega)]
theorem mod_neg0 {X y : Int} (h : X % y = 0) : (- X) % y = 0 := by
  exact Int.emod_eq_zero_of_dvd (Int.dvd_neg.2 (Int.dvd_of_emod_eq_zero h))

set_option maxHeartbeats 4000000 in
theorem DivMod_any (z b c m : Nat) (nz nm : Bool) (vz vm : Value) (x y : Int) (w : World) (hzm : z ≠ m) (hz : IntBlock w z nz vz) (hm : IntBlock w m nm vm) (hx : Big w b x) (hy : Big w c y) (hy0 : 0 < y) (hy1 : y < top 99) (hD : DivOK (if x < 0 then - x else x) y) :
    Calls Try.prog 46 #[.pointer (some ⟨z, 0, none⟩), .pointer (some ⟨b, 0, none⟩), .pointer (some ⟨c, 0, none⟩), .pointer (some ⟨m, 0, none⟩)] w fun e w' =>
      e = .returned (.tuple #[.pointer (some ⟨z, 0, none⟩), .pointer (some ⟨m, 0, none⟩)]) ∧ Big w' m (x % y) ∧ Kept2 w w' z m := by
  have t1 : top 100 = 4294967296 * top 99 := rfl
  have t0 := top_pos 99
  have HY : Hid (Big w c y) := hy
  have HX : Hid (Big w b x) := hx
  have HZM : Hid (IntBlock w z nz vz ∧ IntBlock w m nm vm) := ⟨hz, hm⟩
  have zlt := hz.lt
  have mlt := hm.lt
  obtain ⟨n1, ao1, k1, c1, a, i1, r1, m1, z1, e1, -, -⟩ := hx.open
  obtain ⟨n2, ao2, k2, c2, d, i2, r2, m2, z2, e2, -, -⟩ := hy.open
  have a0 := (nv_range r1.wds).1
  have d0 := (nv_range r2.wds).1
  have en2 : n2 = false := by cases n2; rfl; simp [sg] at e2; omega
  subst en2
  have eX : nv a = if x < 0 then - x else x := by
    cases n1
    · simp [sg] at e1; rw [if_neg (by omega)]; omega
    · have := nv_pos r1.wds m1 (z1 rfl)
      simp [sg] at e1; rw [if_pos (by omega)]; omega
  have eY : nv d = y := by simp [sg] at e2; exact e2.symm
  have HD : Hid (∀ W, Below w.heap.size w W → Calls Try.prog 29 #[.slice ao1 k1 c1, .slice ao2 k2 c2] W (DivPost (fun q t => 0 ≤ q ∧ q < top 99 ∧ t = nv a % y) W)) := fun W hW => by
    rw [eX]
    exact hD _ _ a d W (r1.below hW) (r2.below hW) m1 m2 eX eY
  have HI : Hid (IntBlock w b n1 (.slice ao1 k1 c1) ∧ IntBlock w c false (.slice ao2 k2 c2)) := ⟨i1, i2⟩
  have HE : Hid (x = sg n1 (nv a)) := e1
  clear hx hy hz hm hD i1 i2 r1 r2 m1 m2 z1 z2 e1 e2 eX eY d0
  have ha : Below w.heap.size w (w.alloc (.cells #[.bool false, .slice none 0 0] 33)) := (Below.refl _ _).alloc (Nat.le_refl _) _
  have HN : Hid (IntBlock (w.alloc (.cells #[.bool false, .slice none 0 0] 33)) w.heap.size false (.slice none 0 0) ∧ Big (w.alloc (.cells #[.bool false, .slice none 0 0] 33)) c y) := ⟨int_new w, HY.out.below ha⟩
  have HA : Hid (Below w.heap.size w (w.alloc (.cells #[.bool false, .slice none 0 0] 33))) := ha
  clear ha
  go_enter Try.func46, Try.ntmps46
  go_wp2_with fail
  refine (Set_any w.heap.size c false (.slice none 0 0) y _ HN.out.1 HN.out.2 (by omega) (by omega)).mono ?_
  rintro e w1 ⟨rfl, bD, gD⟩
  have b1 : Below w.heap.size w w1 := below_grown HA.out gD (Nat.le_refl _)
  have dlt : w.heap.size < w1.heap.size := by obtain ⟨_, _, h⟩ := bD.block; exact h.lt
  have HB1 : Hid (Big w1 w.heap.size y ∧ Below w.heap.size w w1 ∧ IntBlock w1 z nz vz ∧ IntBlock w1 m nm vm) := ⟨bD, b1, (b1.block z zlt).trans HZM.out.1, (b1.block m mlt).trans HZM.out.2⟩
  clear bD gD
  go_wp2_with fail
  refine (QuoRem_any (fun q t => 0 ≤ q ∧ q < top 99 ∧ t = nv a % y) z b c m nz nm vz vm n1 false ao1 ao2 k1 c1 k2 c2 w1 hzm HB1.out.2.2.1 HB1.out.2.2.2 ((b1.block b HI.out.1.lt).trans HI.out.1) ((b1.block c HI.out.2.lt).trans HI.out.2) (fun W hW => HD.out W (below_trans b1 hW))).mono ?_
  rintro e w2 ⟨rfl, q, t, ⟨q0, q1, et⟩, bz, bm, w1', g1, g2⟩
  have K2 : Kept2 w1 w2 z m := (kept_z g1).trans (kept_m g2)
  have HK2 : Hid (Kept2 w w2 z m) := (kept_below b1).trans K2
  have HD2 : Hid (Big w2 w.heap.size y) := HB1.out.1.kept HB1.out.2.2.1 HB1.out.2.2.2 K2 (by omega) (by omega)
  have tr0 : 0 ≤ t := by rw [et]; exact Int.emod_nonneg _ (by omega)
  have tr1 : t < y := by rw [et]; exact Int.emod_lt_of_pos _ hy0
  have HM2 : Hid (Big w2 m (sg n1 t)) := bm
  have HZ2 : Hid (Big w2 z (sg (n1 != false) q)) := bz
  have HT : Hid (t = nv a % y) := et
  clear g1 g2 K2 bz et
  obtain ⟨nm2, mo, mn, mc, ms, im, rm, mm, zm, em, -, -⟩ := bm.open
  obtain ⟨p0, -, -, -⟩ := im.cells
  have ms0 := (nv_range rm.wds).1
  cases nm2
  · have hres : sg n1 t = x % y := by
      have hge : 0 ≤ sg n1 t := by rw [em]; exact ms0
      rw [HE.out]
      cases n1
      · show t = nv a % y; exact HT.out
      · have hge' : 0 ≤ - t := hge
        have h0 : t = 0 := by omega
        show - t = (- nv a) % y
        rw [mod_neg0 (by rw [← HT.out]; exact h0), h0]; rfl
    have HRES : Hid (sg n1 t = x % y) := hres
    clear hres im rm mm zm em ms0 bm
    go_wp2
    go_ret2
    exact ⟨rfl, by rw [← HRES.out]; exact HM2.out, HK2.out⟩
  · have hpos := nv_pos rm.wds mm (zm rfl)
    have hlt : sg n1 t < 0 := by rw [em]; simp [sg]; omega
    obtain rfl : n1 = true := by cases n1; (exfalso; simp [sg] at hlt; omega); rfl
    have ht : 0 < t := by simp [sg] at hlt; omega
    obtain ⟨nd, dd, dn, dc, ds, idd, rd, md, zd, ed, -, -⟩ := HD2.out.open
    have end0 : nd = false := by
      cases nd
      · rfl
      · have := (nv_range rd.wds).1
        simp [sg] at ed; omega
    subst end0
    obtain ⟨d0, -, -, -⟩ := idd.cells
    have hres : sg true t + y = x % y := by
      rw [HE.out]
      show - t + y = (- nv a) % y
      rw [← mod_neg hy0 (by rw [← HT.out]; exact ht), ← HT.out]; omega
    have HRES : Hid (sg true t + y = x % y) := hres
    clear hres im rm mm zm em ms0 bm hlt hpos idd rd md zd ed
    go_wp2_with fail
    refine (newInt_any 1 (by decide) (by decide) w2).mono ?_
    rintro e w3 ⟨o, rfl, ho, bo, b3⟩
    have bz3 : Big w3 z (sg (true != false) q) := HZ2.out.below b3
    have bm3 : Big w3 m (sg true t) := HM2.out.below b3
    have bd3 : Big w3 w.heap.size y := HD2.out.below b3
    obtain ⟨nz3, vz3, iz3⟩ := bz3.block
    have HB3 : Hid (Big w3 z (sg (true != false) q) ∧ Big w3 m (sg true t) ∧ Big w3 w.heap.size y ∧ IntBlock w3 z nz3 vz3 ∧ Big w3 o 1 ∧ Below w2.heap.size w2 w3) := ⟨bz3, bm3, bd3, iz3, bo, b3⟩
    clear bz3 bm3 bd3 iz3 bo b3
    have sq : sg (true != false) q = - q := rfl
    have st : sg true t = - t := rfl
    go_wp2_with fail
    refine (Sub_any z z o nz3 vz3 (sg (true != false) q) 1 w3 HB3.out.2.2.2.1 HB3.out.1 HB3.out.2.2.2.2.1 (by rw [sq]; omega) (by rw [sq]; omega) (by omega) (by omega)).mono ?_
    rintro e w4 ⟨rfl, -, g4⟩
    have bm4 : Big w4 m (sg true t) := HB3.out.2.1.grown HB3.out.2.2.2.1 g4 (Ne.symm hzm)
    have bd4 : Big w4 w.heap.size y := HB3.out.2.2.1.grown HB3.out.2.2.2.1 g4 (by omega)
    obtain ⟨nm4, vm4, im4⟩ := bm4.block
    have HB4 : Hid (Big w4 m (sg true t) ∧ Big w4 w.heap.size y ∧ IntBlock w4 m nm4 vm4 ∧ Kept2 w w4 z m) := ⟨bm4, bd4, im4, (HK2.out.trans (kept_below HB3.out.2.2.2.2.2)).trans (kept_z g4)⟩
    clear bm4 bd4 im4 g4
    go_wp2_with fail
    refine (Add_any m m w.heap.size nm4 vm4 (sg true t) y w4 HB4.out.2.2.1 HB4.out.1 HB4.out.2.1 (by rw [st]; omega) (by rw [st]; omega) (by omega) (by omega)).mono ?_
    rintro e w5 ⟨rfl, b5, g5⟩
    have HB5 : Hid (Big w5 m (sg true t + y) ∧ Kept2 w w5 z m) := ⟨b5, HB4.out.2.2.2.trans (kept_m g5)⟩
    clear b5 g5
    go_wp2
    go_ret2
    exact ⟨rfl, by rw [← HRES.out]; exact HB5.out.1, HB5.out.2⟩

set_option maxHeartbeats 1600000 in
theorem Mod_any (m b c : Nat) (nm : Bool) (vm : Value) (x y : Int) (w : World) (hm : IntBlock w m nm vm) (hx : Big w b x) (hy : Big w c y) (hy0 : 0 < y) (hy1 : y < top 99) (hD : DivOK (if x < 0 then - x else x) y) :
    Calls Try.prog 34 #[.pointer (some ⟨m, 0, none⟩), .pointer (some ⟨b, 0, none⟩), .pointer (some ⟨c, 0, none⟩)] w fun e w' => e = .returned (.pointer (some ⟨m, 0, none⟩)) ∧ Big w' m (x % y) ∧ w.grownBy w' (some m) := by
  have ha : Below w.heap.size w (w.alloc (.cells #[.bool false, .slice none 0 0] 33)) := (Below.refl _ _).alloc (Nat.le_refl _) _
  have hlt := hm.lt
  have HC : Hid (Calls Try.prog 46 #[.pointer (some ⟨w.heap.size, 0, none⟩), .pointer (some ⟨b, 0, none⟩), .pointer (some ⟨c, 0, none⟩), .pointer (some ⟨m, 0, none⟩)] (w.alloc (.cells #[.bool false, .slice none 0 0] 33)) fun e w' =>
      e = .returned (.tuple #[.pointer (some ⟨w.heap.size, 0, none⟩), .pointer (some ⟨m, 0, none⟩)]) ∧ Big w' m (x % y) ∧ Kept2 (w.alloc (.cells #[.bool false, .slice none 0 0] 33)) w' w.heap.size m) :=
    DivMod_any w.heap.size b c m false nm _ vm x y _ (by omega) (int_new w) ((ha.block m hlt).trans hm) (hx.below ha) (hy.below ha) hy0 hy1 hD
  have HA : Hid (Below w.heap.size w (w.alloc (.cells #[.bool false, .slice none 0 0] 33))) := ha
  clear hm hx hy hD ha
  go_enter Try.func34, Try.ntmps34
  go_wp2_with fail
  refine HC.out.mono ?_
  rintro e w1 ⟨rfl, b1, k1⟩
  have HB : Hid (Big w1 m (x % y) ∧ w.grownBy w1 (some m)) := ⟨b1, ⟨k1.os.trans HA.out.os, k1.tape.trans HA.out.tape, k1.output.trans HA.out.output, Nat.le_trans HA.out.size k1.size, fun k hk hne => (k1.block k (Nat.lt_of_lt_of_le hk HA.out.size) (by omega) (by simpa using hne)).trans (HA.out.block k hk)⟩⟩
  clear b1 k1
  go_wp2
  go_ret
  exact ⟨rfl, HB.out.1, HB.out.2⟩

theorem Bit_any (b : Nat) (x : Int) (i : Nat) (hi : i ≤ 10000000) (w : World) (h : Big w b x) (h0 : 0 ≤ x) (h1 : x < top 100) :
    Calls Try.prog 35 #[.pointer (some ⟨b, 0, none⟩), .int .i64 i] w fun e w' => e = .returned (.int .u64 (x / 2 ^ i % 2)) ∧ w' = w := by
  obtain ⟨neg, ao, n, cap, ws, i1, r1, m1, z1, e1, -, -⟩ := h.open
  have en : neg = false := by
    cases neg
    · rfl
    · have := nv_pos r1.wds m1 (z1 rfl)
      simp [sg] at e1; omega
  subst en
  have t0 := top_pos 100
  have hl := len_of_abs r1.wds m1 e1 (k := 100) (by omega) h1
  obtain ⟨c0, c1, -, -⟩ := i1.cells
  have ex : x = nv ws := e1
  subst ex
  have HC : Hid (Calls Try.prog 47 #[.slice ao n cap, .int .i64 i] w fun e w' => e = .returned (.int .u64 (nv ws / 2 ^ i % 2)) ∧ w' = w) := bit_any _ ws i hi w r1 (by omega)
  have b0 : 0 ≤ nv ws / 2 ^ i % 2 := Int.emod_nonneg _ (by decide)
  have b1 : nv ws / 2 ^ i % 2 < 2 := Int.emod_lt_of_pos _ (by decide)
  generalize nv ws / 2 ^ i % 2 = v at *
  clear h i1 r1 m1 z1 e1 h0 h1 t0 hl
  go_enter Try.func35, Try.ntmps35
  go_wp2_with fail
  refine HC.out.mono ?_
  rintro e w1 ⟨rfl, rfl⟩
  go_wp2
  go_ret
  exact ⟨rfl, rfl⟩
end Go.Proofs.Ytopefdcmmmjihaa
