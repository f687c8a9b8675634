/- The contract of the big numbers' product of words. -/
import Derived.Test.YtjmklmcnlieplaaDoorBigadd
import Derived.Test.YtjmklmcnlieplaaDoorMulplain
import Derived.Deep.QuietTactic
import Derived.BigQuiet
namespace Go.Proofs.YtjmklmcnlieplaaDoor
set_option maxRecDepth 100000
open Go.ChangeShapes Go.WideShapes Go.ChangeAt Go.RowKit

theorem getD_zeros (n t : Nat) : (List.replicate n (0 : Int)).getD t 0 = 0 := by
  rw [List.getD_eq_getElem?_getD, List.getElem?_replicate]
  split <;> rfl
set_option maxHeartbeats 1600000 in
theorem mul_any (va vb : Value) (a b : List Int) (w : World) (ha : Row w va a) (hb : Row w vb b) (hla : a.length ≤ 100000) (hlb : b.length ≤ 100000) :
    Calls Tryd.prog 56 #[va, vb] w fun e w' => ∃ v' ws', e = .returned v' ∧ Row w' v' ws' ∧ Norm ws' ∧ nv ws' = nv a * nv b ∧ Below w.heap.size w w' := by
  obtain ⟨ao, n, ca, rfl, -, hn⟩ := ha.slice
  obtain ⟨bo, m, cb, rfl, -, hm⟩ := hb.slice
  have HA : Hid (Row w (.slice ao n ca) a) := ha
  have HB : Hid (Row w (.slice bo m cb) b) := hb
  have HN : Hid (a.length = n ∧ b.length = m) := ⟨hn.symm, hm.symm⟩
  have hn1 : n ≤ 100000 := by omega
  have hm1 : m ≤ 100000 := by omega
  clear ha hb hn hm hla hlb
  by_cases hn0 : n = 0
  · subst hn0
    obtain rfl : a = [] := List.length_eq_zero_iff.1 HN.out.1
    clear HA HB HN
    go_enter Tryd.func56, Tryd.ntmps56
    go_wp2
    go_ret
    exact ⟨_, [], rfl, World.ownsInts_nil _ _ _ _, by simp [Norm], by simp [nv], Below.refl _ _⟩
  have hn2 : ((n : Int) == 0) = false := by simp; omega
  by_cases hm0 : m = 0
  · subst hm0
    obtain rfl : b = [] := List.length_eq_zero_iff.1 HN.out.2
    clear HA HB HN
    go_enter Tryd.func56, Tryd.ntmps56
    go_wp2
    go_ret
    exact ⟨_, [], rfl, World.ownsInts_nil _ _ _ _, by simp [Norm], by simp [nv], Below.refl _ _⟩
  have hm2 : ((m : Int) == 0) = false := by simp; omega
  have hmk := fun W => run_make_row' (P := Tryd.prog) 73 84 (.int .u32 0) 4 Tryd.underlying73 Tryd.infoU32 rfl .i64 .i64 (n + m) (by omega) (by omega) W
  have ec : ((n + m : Nat) : Int) = (n : Int) + (m : Int) := by omega
  rw [ec] at hmk
  clear ec
  go_enter Tryd.func56, Tryd.ntmps56
  go_wp2
  go_loopw [6] (fun ii wr => ∃ (k : Nat) (rs : List Int), k ≤ n ∧ ii = .int .i64 k ∧ Hid (wr.ownsRow w.heap.size 84 1 (.slice (some ⟨w.heap.size, 0, none⟩) (n + m) (n + m)) (n + m) (rs.map (Value.int .u32)) ∧ Wds rs ∧ rs.length = n + m ∧ nv rs = nv (a.take k) * nv b ∧ ∀ t, k + m ≤ t → rs.getD t 0 = 0) ∧ Below w.heap.size w wr)
    (fun ii _ => n - (intOf ii).toNat)
  case atStart => exact ⟨0, List.replicate (n + m) 0, Nat.zero_le _, rfl, ⟨made_row w (n + m) (by omega), wds_zeros _, by simp, by rw [nv_zeros (fun x hx => (List.mem_replicate.1 hx).2)]; simp [nv], fun t _ => getD_zeros _ _⟩, (Below.refl _ _).alloc (Nat.le_refl _) _⟩
  case round =>
    obtain ⟨k, rs, hk, rfl, HQ, hbel⟩ := hrel
    by_cases hk2 : k < n
    · obtain ⟨ga, ea, p1, x0, x1⟩ := HA.out.word hbel hk2
      clear p1
      have HG : Hid (∀ W, Below w.heap.size w W → W.cell? ⟨ga, k, none⟩ = some (.int .u32 (a.getD k 0))) := fun W hW => by
        obtain ⟨g', e', q1, _⟩ := HA.out.word hW hk2
        rw [ea] at e'; cases e'; exact q1
      generalize hx : a.getD k 0 = x at *
      have HX : Hid (a.getD k 0 = x) := hx
      subst ea
      clear hmk hx
      obtain ⟨wo, rfl⟩ : ∃ wo : World, wo = wr := ⟨_, rfl⟩
      go_wp2
      go_loopw [7, 8] (fun cc jj wq => ∃ (j : Nat) (c : Int) (qs : List Int), j ≤ m ∧ cc = .int .u64 c ∧ jj = .int .i64 j ∧ 0 ≤ c ∧ c < 4294967296 ∧ Hid (wq.ownsRow w.heap.size 84 1 (.slice (some ⟨w.heap.size, 0, none⟩) (n + m) (n + m)) (n + m) (qs.map (Value.int .u32)) ∧ Wds qs ∧ qs.length = n + m ∧ nv qs + top (k + j) * c = nv rs + top k * x * nv (b.take j) ∧ ∀ t, k + m ≤ t → qs.getD t 0 = 0) ∧ Below w.heap.size w wq)
        (fun _ jj _ => m - (intOf jj).toNat)
      case atStart => exact ⟨0, 0, rs, Nat.zero_le _, rfl, rfl, by omega, by omega, ⟨HQ.out.1, HQ.out.2.1, HQ.out.2.2.1, by simp [nv], HQ.out.2.2.2.2⟩, hbel⟩
      case round =>
        obtain ⟨j, c, qs, hj, rfl, rfl, hc0, hc1, HP, hbq⟩ := hrel
        by_cases hj2 : j < m
        · have p1 := HG.out wr hbq
          obtain ⟨gb, rfl, p2, y0, y1⟩ := HB.out.word hbq hj2
          have p3 := word_there HP.out.1 HP.out.2.2.1 (j := k + j) (by omega)
          have z01 := Wds.at HP.out.2.1 (i := k + j) (by rw [HP.out.2.2.1]; omega)
          have f1 := HP.out.1.frozenAt (k + j)
          have HST : Hid (nv (qs.set (k + j) ((c + (x * b.getD j 0 + qs.getD (k + j) 0)) % 4294967296)) + top (k + (j + 1)) * ((c + (x * b.getD j 0 + qs.getD (k + j) 0)) / 4294967296) = nv rs + top k * x * nv (b.take (j + 1))) := mul_step (by rw [HP.out.2.2.1]; omega) HP.out.2.2.2.1
          generalize b.getD j 0 = y at *
          generalize qs.getD (k + j) 0 = z at *
          obtain ⟨z0, z1⟩ := z01
          obtain ⟨m0, m1⟩ := mul_bound x0 x1 y0 y1
          have hw : IntKind.u32.wrap (c + (x * y + z)) = (c + (x * y + z)) % 4294967296 := IntKind.wrap_u32 _
          have hij : ((k : Int) + (j : Int)).toNat = k + j := by omega
          go_wp2
          go_quiet (fail)
          go_wp2
          obtain ⟨o1, g1⟩ := World.ownsRow.stored (w := wr.drewN nq) HP.out.1 (k + j) (.int .u32 ((c + (x * y + z)) % 4294967296))
          have hb1 : Below w.heap.size w (wr.drewN nq) := ⟨hbq.os, hbq.tape, hbq.output, hbq.size, hbq.block⟩
          exact ⟨⟨j + 1, (c + (x * y + z)) / 4294967296, qs.set (k + j) ((c + (x * y + z)) % 4294967296), by omega, rfl, by go_num, by omega, by omega, ⟨by rw [List.map_set]; exact o1, HP.out.2.1.set (by omega) _, by rw [List.length_set]; exact HP.out.2.2.1, HST.out, fun t ht => by rw [getD_set_ne _ (by omega)]; exact HP.out.2.2.2.2 t ht⟩, hb1.grown g1 hb1.size (fun t ht => by cases ht; exact Nat.le_refl _)⟩, by simp [intOf]; omega⟩
        · obtain rfl : j = m := by omega
          have p3 := word_there HP.out.1 HP.out.2.2.1 (j := k + j) (by omega)
          have f1 := HP.out.1.frozenAt (k + j)
          have hij : ((k : Int) + (j : Int)).toNat = k + j := by omega
          have hval : nv (qs.set (k + j) c) = nv (a.take (k + 1)) * nv b := by
            have e := HN.out.2
            have h2 := HP.out.2.2.2.1
            rw [List.take_of_length_le (by omega), HQ.out.2.2.2.1, ← HX.out] at h2
            have := mul_end (a := a) (b := b) (rs := qs) (i := k) (c := c) (by rw [e, HP.out.2.2.1]; omega) (by rw [e]; exact HP.out.2.2.2.2 _ (Nat.le_refl _)) (by rw [e]; exact h2)
            rw [e] at this
            exact this
          have HV : Hid (nv (qs.set (k + j) c) = nv (a.take (k + 1)) * nv b) := hval
          clear hval
          go_wp2
          obtain ⟨o1, g1⟩ := HP.out.1.stored (k + j) (.int .u32 c)
          exact ⟨⟨k + 1, qs.set (k + j) c, by omega, by go_num, ⟨by rw [List.map_set]; exact o1, HP.out.2.1.set (by omega) _, by rw [List.length_set]; exact HP.out.2.2.1, HV.out, fun t ht => by rw [getD_set_ne _ (by omega)]; exact HP.out.2.2.2.2 t (by omega)⟩, hbq.grown g1 hbq.size (fun t ht => by cases ht; exact Nat.le_refl _)⟩, by simp [intOf]; omega⟩
    · obtain rfl : k = n := by omega
      have HR : Hid (Row wr (.slice (some ⟨w.heap.size, 0, none⟩) (k + m) (k + m)) rs) := row_of (n := k + m) HQ.out.2.2.1.symm HQ.out.1 HQ.out.2.1
      have HV : Hid (nv rs = nv a * nv b) := by
        have := HQ.out.2.2.2.1
        rw [List.take_of_length_le (by rw [HN.out.1]; exact Nat.le_refl _)] at this
        exact this
      clear hmk
      go_wp2_with fail
      refine (trim_any _ _ _ HR.out).mono ?_
      rintro e w2 ⟨rfl, t, v', rfl, ht, hr', -, hz, hlast⟩
      go_wp2
      go_ret
      exact ⟨_, _, rfl, hr', norm_take ht hlast, by rw [nv_take hz, HV.out], hbel⟩
end Go.Proofs.YtjmklmcnlieplaaDoor
