/- The contract of the big numbers' shift to the right. -/
import Derived.Test.YtopefdcmmmjihaaBigmul
import Derived.Test.YtopefdcmmmjihaaShplain
namespace Go.Proofs.Ytopefdcmmmjihaa
open Go.ChangeShapes Go.WideShapes Go.ChangeAt Go.RowKit

set_option maxHeartbeats 1600000 in
theorem right_any (va : Value) (a : List Int) (n : Nat) (w : World) (ha : Row w va a) (hla : a.length ≤ 100000) (hn : n ≤ 100000) :
    Calls Try.prog 32 #[va, .int .u64 n] w fun e w' => ∃ v' ws', e = .returned v' ∧ Row w' v' ws' ∧ Norm ws' ∧ nv ws' = nv a / 2 ^ n ∧ Below w.heap.size w w' := by
  obtain ⟨ao, m, ca, rfl, -, hm⟩ := ha.slice
  have HA : Hid (Row w (.slice ao m ca) a) := ha
  have HN : Hid (a.length = m) := hm.symm
  have hm1 : m ≤ 100000 := by omega
  rw [nv_shift ha.wds n]
  have HWD : Hid (Wds (a.drop (n / 32)) ∧ (a.drop (n / 32)).length = m - n / 32) := ⟨fun y hy => ha.wds y (List.mem_of_mem_drop hy), by rw [List.length_drop]; omega⟩
  have q1 : ((n : Int) / 32) = ((n / 32 : Nat) : Int) := by omega
  have q2 : ((n : Int) % 32) = ((n % 32 : Nat) : Int) := by omega
  have hW : n / 32 ≤ 100000 := by omega
  have hs : n % 32 < 32 := by omega
  clear ha hm hla
  generalize n / 32 = W at *
  generalize n % 32 = s at *
  by_cases hge : m ≤ W
  · have e : a.drop W = [] := List.length_eq_zero_iff.1 (by rw [HWD.out.2]; omega)
    rw [e]
    clear HA HN HWD e
    go_enter Try.func32, Try.ntmps32
    go_wp2
    go_ret
    exact ⟨_, [], rfl, World.ownsInts_nil _ _ _ _, by simp [Norm], by simp [nv], Below.refl _ _⟩
  obtain ⟨L, rfl⟩ : ∃ L, m = L + W := ⟨m - W, by omega⟩
  have HB : Hid (Wds (a.drop W) ∧ (a.drop W).length = L ∧ ∀ k, (a.drop W).getD k 0 = a.getD (k + W) 0) := ⟨HWD.out.1, by rw [HWD.out.2]; omega, fun k => getD_drop W k⟩
  clear HWD
  generalize a.drop W = b at *
  have hmk := fun X => run_make_row' (P := Try.prog) 31 54 (.int .u32 0) 4 Try.underlying31 Try.infoU32 rfl .i64 .i64 L (by omega) (by omega) X
  have ec : ((L + W : Nat) : Int) - (W : Int) = (L : Int) := by omega
  have ec2 : (L : Int) + (W : Int) - (W : Int) = (L : Int) := by omega
  go_enter Try.func32, Try.ntmps32
  go_wp2
  go_loopw [8] (fun ii wr => ∃ (k : Nat) (rs : List Int), k ≤ L ∧ ii = .int .i64 k ∧ Hid (wr.ownsRow w.heap.size 54 1 (.slice (some ⟨w.heap.size, 0, none⟩) L L) L (rs.map (Value.int .u32)) ∧ Wds rs ∧ rs.length = L ∧ nv (rs.take k) = nv b / 2 ^ s % top k) ∧ Below w.heap.size w wr)
    (fun ii _ => L - (intOf ii).toNat)
  case atStart => exact ⟨0, List.replicate L 0, Nat.zero_le _, rfl, ⟨made_row w L (by omega), wds_zeros _, by simp, by simp [nv, top, Int.emod_one]⟩, (Below.refl _ _).alloc (Nat.le_refl _) _⟩
  case round =>
    obtain ⟨k, rs, hk, rfl, HQ, hbel⟩ := hrel
    by_cases hk2 : k < L
    · obtain ⟨ga, rfl, p1, x0, x1⟩ := HA.out.word hbel (j := k + W) (by omega)
      have f1 := HQ.out.1.frozenAt k
      have p3 := word_there HQ.out.1 HQ.out.2.2.1 (j := k) (by omega)
      have HST : Hid (nv ((rs.set k ((b.getD k 0 + 4294967296 * b.getD (k + 1) 0) / 2 ^ s % 4294967296)).take (k + 1)) = nv b / 2 ^ s % top (k + 1)) := right_step HB.out.1 hs (by rw [HQ.out.2.2.1]; omega) HQ.out.2.2.2
      rw [HB.out.2.2 k, HB.out.2.2 (k + 1), show k + 1 + W = k + W + 1 from by omega] at HST
      have hij : ((k : Int) + (W : Int)).toNat = k + W := by omega
      have hij2 : ((k : Int) + (W : Int) + 1).toNat = k + W + 1 := by omega
      by_cases hk3 : k + W + 1 < L + W
      · obtain ⟨gb, eg, p2, y0, y1⟩ := HA.out.word hbel (j := k + W + 1) hk3
        obtain rfl : ga = gb := by cases eg; rfl
        clear eg
        generalize a.getD (k + W) 0 = x at *
        generalize a.getD (k + W + 1) 0 = y at *
        have hor := or_low x0 x1 y0 y1
        obtain ⟨v0, v1⟩ := shr_small (v := x + 4294967296 * y) (s := s) (by omega) (by omega)
        have hw : IntKind.u32.wrap ((x + 4294967296 * y) / 2 ^ s) = (x + 4294967296 * y) / 2 ^ s % 4294967296 := IntKind.wrap_u32 _
        obtain ⟨w1, g1⟩ := HQ.out.1.stored k (.int .u32 ((x + 4294967296 * y) / 2 ^ s % 4294967296))
        clear hmk
        go_wp2
        exact ⟨⟨k + 1, rs.set k ((x + 4294967296 * y) / 2 ^ s % 4294967296), by omega, by go_num, ⟨by rw [List.map_set]; exact w1, HQ.out.2.1.set (by omega) _, by rw [List.length_set]; exact HQ.out.2.2.1, HST.out⟩, hbel.grown g1 hbel.size (fun t ht => by cases ht; exact Nat.le_refl _)⟩, by simp [intOf]; omega⟩
      · have ey : a.getD (k + W + 1) 0 = 0 := getD_far (by rw [HN.out]; omega)
        rw [ey, Int.mul_zero, Int.add_zero] at HST
        generalize a.getD (k + W) 0 = x at *
        obtain ⟨v0, v1⟩ := shr_small (v := x) (s := s) (by omega) (by omega)
        have hw : IntKind.u32.wrap (x / 2 ^ s) = x / 2 ^ s % 4294967296 := IntKind.wrap_u32 _
        obtain ⟨w1, g1⟩ := HQ.out.1.stored k (.int .u32 (x / 2 ^ s % 4294967296))
        clear hmk ey
        go_wp2
        exact ⟨⟨k + 1, rs.set k (x / 2 ^ s % 4294967296), by omega, by go_num, ⟨by rw [List.map_set]; exact w1, HQ.out.2.1.set (by omega) _, by rw [List.length_set]; exact HQ.out.2.2.1, HST.out⟩, hbel.grown g1 hbel.size (fun t ht => by cases ht; exact Nat.le_refl _)⟩, by simp [intOf]; omega⟩
    · obtain rfl : k = L := by omega
      have HR : Hid (Row wr (.slice (some ⟨w.heap.size, 0, none⟩) k k) rs) := row_of (n := k) HQ.out.2.2.1.symm HQ.out.1 HQ.out.2.1
      have HV : Hid (nv rs = nv b / 2 ^ s) := right_end HB.out.1 (by rw [HQ.out.2.2.1, HB.out.2.1]) (by rw [HB.out.2.1]; exact HQ.out.2.2.2)
      clear hmk
      go_wp2_with fail
      refine (trim_any _ _ _ HR.out).mono ?_
      rintro e w2 ⟨rfl, t, v', rfl, ht, hr', -, hz, hlast⟩
      go_wp2
      go_ret
      exact ⟨_, _, rfl, hr', norm_take ht hlast, by rw [nv_take hz, HV.out], hbel⟩
end Go.Proofs.Ytopefdcmmmjihaa
