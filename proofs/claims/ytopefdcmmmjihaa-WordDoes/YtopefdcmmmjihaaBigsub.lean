/- The contract of the big numbers' difference of words. -/
import Derived.Test.YtopefdcmmmjihaaBigadd
import Derived.Test.YtopefdcmmmjihaaSubplain
namespace Go.Proofs.Ytopefdcmmmjihaa
open Go.ChangeShapes Go.WideShapes Go.ChangeAt Go.RowKit

theorem borrow (x c y : Int) (x0 : 0 ≤ x) (x1 : x < 4294967296) (y0 : 0 ≤ y) (y1 : y < 4294967296) (c0 : 0 ≤ c) (c1 : c ≤ 1) :
    ∃ d1 D c' : Int, IntKind.u64.wrap (x - c) = d1 ∧ IntKind.u64.wrap (d1 - y) = D ∧ 0 ≤ d1 ∧ d1 < 18446744073709551616 ∧ 0 ≤ D ∧ D < 18446744073709551616 ∧ D / 9223372036854775808 = c' ∧ 0 ≤ c' ∧ c' ≤ 1 ∧ D % 4294967296 = x - c - y + 4294967296 * c' := by
  simp only [IntKind.wrap_u64]
  refine ⟨_, _, _, rfl, rfl, by omega, by omega, by omega, by omega, rfl, by omega, by omega, by omega⟩
theorem borrow0 (x c : Int) (x0 : 0 ≤ x) (x1 : x < 4294967296) (c0 : 0 ≤ c) (c1 : c ≤ 1) :
    ∃ D c' : Int, IntKind.u64.wrap (x - c) = D ∧ 0 ≤ D ∧ D < 18446744073709551616 ∧ D / 9223372036854775808 = c' ∧ 0 ≤ c' ∧ c' ≤ 1 ∧ D % 4294967296 = x - c - 0 + 4294967296 * c' := by
  simp only [IntKind.wrap_u64]
  refine ⟨_, _, rfl, by omega, by omega, rfl, by omega, by omega, by omega⟩

set_option maxHeartbeats 1600000 in
theorem sub_any (va vb : Value) (a b : List Int) (w : World) (ha : Row w va a) (hb : Row w vb b) (hla : a.length ≤ 100000) (hlb : b.length ≤ a.length) (hle : nv b ≤ nv a) :
    Calls Try.prog 33 #[va, vb] w fun e w' => ∃ v' ws', e = .returned v' ∧ Row w' v' ws' ∧ Norm ws' ∧ nv ws' = nv a - nv b ∧ Below w.heap.size w w' := by
  obtain ⟨ao, n, ca, rfl, -, hn⟩ := ha.slice
  obtain ⟨bo, m, cb, rfl, -, hm⟩ := hb.slice
  have HA : Hid (Row w (.slice ao n ca) a) := ha
  have HB : Hid (Row w (.slice bo m cb) b) := hb
  have HN : Hid (a.length = n ∧ b.length = m) := ⟨hn.symm, hm.symm⟩
  have hn1 : n ≤ 100000 := by omega
  have hm1 : m ≤ n := by omega
  have HLE : Hid (nv b ≤ nv a) := hle
  clear ha hb hn hm hla hlb hle
  have hmk := fun W => run_make_row' (P := Try.prog) 31 54 (.int .u32 0) 4 Try.underlying31 Try.infoU32 rfl .i64 .i64 n (by omega) (by omega) W
  go_enter Try.func33, Try.ntmps33
  go_wp2
  go_loopw [6, 7] (fun cc ii wr => ∃ (k : Nat) (c : Int) (rs : List Int), k ≤ n ∧ cc = .int .u64 c ∧ ii = .int .i64 k ∧ 0 ≤ c ∧ c ≤ 1 ∧ Hid (wr.ownsRow w.heap.size 54 1 (.slice (some ⟨w.heap.size, 0, none⟩) n n) n (rs.map (Value.int .u32)) ∧ Wds rs ∧ rs.length = n ∧ nv (rs.take k) = nv (a.take k) - nv (b.take k) + top k * c) ∧ Below w.heap.size w wr)
    (fun _ ii _ => n - (intOf ii).toNat)
  case atStart => exact ⟨0, 0, List.replicate n 0, Nat.zero_le _, rfl, rfl, by omega, by omega, ⟨made_row w n (by omega), wds_zeros _, by simp, by simp [nv]⟩, (Below.refl _ _).alloc (Nat.le_refl _) _⟩
  case round =>
    obtain ⟨k, c, rs, hk, rfl, rfl, hc0, hc1, HQ, hbel⟩ := hrel
    by_cases hk2 : k < n
    · obtain ⟨ga, rfl, p1, x0, x1⟩ := HA.out.word hbel hk2
      have f1 := HQ.out.1.frozenAt k
      have p3 := word_there HQ.out.1 HQ.out.2.2.1 (j := k) (by omega)
      by_cases hk3 : k < m
      · obtain ⟨gb, rfl, p2, y0, y1⟩ := HB.out.word hbel hk3
        obtain ⟨d1, D, c', e1, e2, d10, d11, D0, D1, e3, c0', c1', e4⟩ := borrow (a.getD k 0) c (b.getD k 0) x0 x1 y0 y1 hc0 hc1
        have HST : Hid (nv ((rs.set k (D % 4294967296)).take (k + 1)) = nv (a.take (k + 1)) - nv (b.take (k + 1)) + top (k + 1) * c') := sub_step (by rw [HQ.out.2.2.1]; omega) HQ.out.2.2.2 _ e4
        generalize a.getD k 0 = x at *
        generalize b.getD k 0 = y at *
        have hw : IntKind.u32.wrap D = D % 4294967296 := IntKind.wrap_u32 _
        clear hmk e4
        go_wp2
        obtain ⟨o1, g1⟩ := HQ.out.1.stored k (.int .u32 (D % 4294967296))
        exact ⟨⟨k + 1, c', rs.set k (D % 4294967296), by omega, rfl, by go_num, by omega, by omega, ⟨by rw [List.map_set]; exact o1, HQ.out.2.1.set (by omega) k, by rw [List.length_set]; exact HQ.out.2.2.1, HST.out⟩, hbel.grown g1 hbel.size (fun t ht => by cases ht; exact Nat.le_refl _)⟩, by simp [intOf]; omega⟩
      · have ey : b.getD k 0 = 0 := getD_far (by rw [HN.out.2]; omega)
        obtain ⟨D, c', e1, D0, D1, e3, c0', c1', e4⟩ := borrow0 (a.getD k 0) c x0 x1 hc0 hc1
        have HST : Hid (nv ((rs.set k (D % 4294967296)).take (k + 1)) = nv (a.take (k + 1)) - nv (b.take (k + 1)) + top (k + 1) * c') := sub_step (by rw [HQ.out.2.2.1]; omega) HQ.out.2.2.2 _ (by rw [ey]; exact e4)
        generalize a.getD k 0 = x at *
        have hw : IntKind.u32.wrap D = D % 4294967296 := IntKind.wrap_u32 _
        clear hmk ey e4
        go_wp2
        obtain ⟨o1, g1⟩ := HQ.out.1.stored k (.int .u32 (D % 4294967296))
        exact ⟨⟨k + 1, c', rs.set k (D % 4294967296), by omega, rfl, by go_num, by omega, by omega, ⟨by rw [List.map_set]; exact o1, HQ.out.2.1.set (by omega) k, by rw [List.length_set]; exact HQ.out.2.2.1, HST.out⟩, hbel.grown g1 hbel.size (fun t ht => by cases ht; exact Nat.le_refl _)⟩, by simp [intOf]; omega⟩
    · obtain rfl : k = n := by omega
      have HR : Hid (Row wr (.slice (some ⟨w.heap.size, 0, none⟩) k k) rs) := row_of (n := k) HQ.out.2.2.1.symm HQ.out.1 HQ.out.2.1
      have HV : Hid (nv rs = nv a - nv b) := by
        have h := HQ.out.2.2.2
        rw [List.take_of_length_le (l := a) (by rw [HN.out.1]; exact Nat.le_refl _), List.take_of_length_le (l := b) (by rw [HN.out.2]; omega)] at h
        exact sub_end HQ.out.2.1 HQ.out.2.2.1 h (by have := HLE.out; omega) hc0 hc1
      clear hmk
      go_wp2_with fail
      refine (trim_any _ _ _ HR.out).mono ?_
      rintro e w2 ⟨rfl, t, v', rfl, ht, hr', -, hz, hlast⟩
      go_wp2
      go_ret
      exact ⟨_, _, rfl, hr', norm_take ht hlast, by rw [nv_take hz, HV.out], hbel⟩
end Go.Proofs.Ytopefdcmmmjihaa
