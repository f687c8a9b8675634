/- The contract of the big numbers' shift to the left. -/
import Derived.Test.YtopefdcmmmjihaaBigmul
import Derived.Test.YtopefdcmmmjihaaShplain
namespace Go.Proofs.Ytopefdcmmmjihaa
open Go.ChangeShapes Go.WideShapes Go.ChangeAt Go.RowKit

set_option maxHeartbeats 1600000 in
theorem left_any (va : Value) (a : List Int) (n : Nat) (w : World) (ha : Row w va a) (hla : a.length ≤ 100000) (hn : n ≤ 100000) :
    Calls Try.prog 30 #[va, .int .u64 n] w fun e w' => ∃ v' ws', e = .returned v' ∧ Row w' v' ws' ∧ Norm ws' ∧ nv ws' = nv a * 2 ^ n ∧ Below w.heap.size w w' := by
  obtain ⟨ao, m, ca, rfl, -, hm⟩ := ha.slice
  have HA : Hid (Row w (.slice ao m ca) a) := ha
  have HN : Hid (a.length = m) := hm.symm
  have hm1 : m ≤ 100000 := by omega
  clear ha hm hla
  by_cases hm0 : m = 0
  · subst hm0
    obtain rfl : a = [] := List.length_eq_zero_iff.1 HN.out
    clear HA HN
    go_enter Try.func30, Try.ntmps30
    go_wp2
    go_ret
    exact ⟨_, [], rfl, World.ownsInts_nil _ _ _ _, by simp [Norm], by simp [nv], Below.refl _ _⟩
  have hm2 : ((m : Int) == 0) = false := by simp; omega
  have HT : Hid (top (n / 32) * 2 ^ (n % 32) = 2 ^ n) := top_shift n
  have q1 : ((n : Int) / 32) = ((n / 32 : Nat) : Int) := by omega
  have q2 : ((n : Int) % 32) = ((n % 32 : Nat) : Int) := by omega
  have hW : n / 32 ≤ 100000 := by omega
  have hs : n % 32 < 32 := by omega
  generalize n / 32 = W at *
  generalize n % 32 = s at *
  have hmk := fun X => run_make_row' (P := Try.prog) 31 54 (.int .u32 0) 4 Try.underlying31 Try.infoU32 rfl .i64 .i64 (m + W + 1) (by omega) (by omega) X
  have ec : ((m + W + 1 : Nat) : Int) = (m : Int) + (W : Int) + 1 := by omega
  rw [ec] at hmk
  clear ec
  go_enter Try.func30, Try.ntmps30
  go_wp2
  go_loopw [8] (fun ii wr => ∃ (k : Nat) (rs : List Int), k ≤ m ∧ ii = .int .i64 k ∧ Hid (wr.ownsRow w.heap.size 54 1 (.slice (some ⟨w.heap.size, 0, none⟩) (m + W + 1) (m + W + 1)) (m + W + 1) (rs.map (Value.int .u32)) ∧ Wds rs ∧ rs.length = m + W + 1 ∧ nv rs = top W * 2 ^ s * nv (a.take k) ∧ rs.getD (k + W) 0 < 2 ^ s ∧ ∀ t, k + W < t → rs.getD t 0 = 0) ∧ Below w.heap.size w wr)
    (fun ii _ => m - (intOf ii).toNat)
  case atStart => exact ⟨0, List.replicate (m + W + 1) 0, Nat.zero_le _, rfl, ⟨made_row w (m + W + 1) (by omega), wds_zeros _, by simp, by rw [nv_zeros (fun x hx => (List.mem_replicate.1 hx).2)]; simp [nv], by rw [getD_zeros]; exact Int.pow_pos (by decide), fun t _ => getD_zeros _ _⟩, (Below.refl _ _).alloc (Nat.le_refl _) _⟩
  case round =>
    obtain ⟨k, rs, hk, rfl, HQ, hbel⟩ := hrel
    by_cases hk2 : k < m
    · obtain ⟨ga, rfl, p1, x0, x1⟩ := HA.out.word hbel hk2
      have f1 := HQ.out.1.frozenAt (k + W)
      have f2 := HQ.out.1.frozenAt (k + W + 1)
      have p3 := word_there HQ.out.1 HQ.out.2.2.1 (j := k + W) (by omega)
      have p4 := word_there HQ.out.1 HQ.out.2.2.1 (j := k + W + 1) (by omega)
      have z1 := HQ.out.2.2.2.2.2 (k + W + 1) (by omega)
      rw [z1] at p4
      have y01 := Wds.at HQ.out.2.1 (i := k + W) (by rw [HQ.out.2.2.1]; omega)
      have y2 := HQ.out.2.2.2.2.1
      have HST : Hid (nv ((rs.set (k + W) (rs.getD (k + W) 0 + a.getD k 0 * 2 ^ s % 4294967296)).set (k + W + 1) (a.getD k 0 * 2 ^ s / 4294967296)) = top W * 2 ^ s * nv (a.take (k + 1))) := left_step (by rw [HQ.out.2.2.1]; omega) HQ.out.2.2.2.1 z1
      obtain ⟨o1, o2⟩ := shl_or hs y01.1 y2 x0
      obtain ⟨s0, s1, s2, s3, s4⟩ := shl_small hs x0 x1
      have hz := or_zero s2 (by omega)
      obtain ⟨w1, g1⟩ := HQ.out.1.stored (k + W) (.int .u32 (rs.getD (k + W) 0 + a.getD k 0 * 2 ^ s % 4294967296))
      generalize a.getD k 0 = x at *
      generalize rs.getD (k + W) 0 = p at *
      have hw : IntKind.u32.wrap (x * 2 ^ s) = x * 2 ^ s % 4294967296 := IntKind.wrap_u32 _
      have hw2 : IntKind.u64.wrap (x * 2 ^ s) = x * 2 ^ s := by rw [IntKind.wrap_u64]; omega
      have hij : ((k : Int) + (W : Int)).toNat = k + W := by omega
      have hij2 : ((k : Int) + (W : Int) + 1).toNat = k + W + 1 := by omega
      clear hmk z1
      go_wp2
      obtain ⟨w2, g2⟩ := w1.stored (k + W + 1) (.int .u32 (x * 2 ^ s / 4294967296))
      have hb1 := hbel.grown g1 hbel.size (fun t ht => by cases ht; exact Nat.le_refl _)
      exact ⟨⟨k + 1, (rs.set (k + W) (p + x * 2 ^ s % 4294967296)).set (k + W + 1) (x * 2 ^ s / 4294967296), by omega, by go_num, ⟨by rw [List.map_set, List.map_set]; exact w2, (HQ.out.2.1.set (by omega) _).set (by omega) _, by rw [List.length_set, List.length_set]; exact HQ.out.2.2.1, HST.out, by rw [show k + 1 + W = k + W + 1 from by omega, List.getD_eq_getElem?_getD, List.getElem?_set_self (by rw [List.length_set, HQ.out.2.2.1]; omega)]; exact s3, fun t ht => by rw [getD_set_ne _ (by omega), getD_set_ne _ (by omega)]; exact HQ.out.2.2.2.2.2 t (by omega)⟩, hb1.grown g2 hb1.size (fun t ht => by cases ht; exact Nat.le_refl _)⟩, by simp [intOf]; omega⟩
    · obtain rfl : k = m := by omega
      have HR : Hid (Row wr (.slice (some ⟨w.heap.size, 0, none⟩) (k + W + 1) (k + W + 1)) rs) := row_of (n := k + W + 1) HQ.out.2.2.1.symm HQ.out.1 HQ.out.2.1
      have HV : Hid (nv rs = nv a * 2 ^ n) := by
        have := HQ.out.2.2.2.1
        rw [List.take_of_length_le (by rw [HN.out]; exact Nat.le_refl _), HT.out, Int.mul_comm] at this
        exact this
      clear hmk
      go_wp2_with fail
      refine (trim_any _ _ _ HR.out).mono ?_
      rintro e w2 ⟨rfl, t, v', rfl, ht, hr', -, hz, hlast⟩
      go_wp2
      go_ret
      exact ⟨_, _, rfl, hr', norm_take ht hlast, by rw [nv_take hz, HV.out], hbel⟩
end Go.Proofs.Ytopefdcmmmjihaa
