/- The contract of the big numbers' sum of words. -/
import Derived.Test.YtjmklmcnlieplaaDoorBig5
import Derived.Test.YtjmklmcnlieplaaDoorAddplain
namespace Go.Proofs.YtjmklmcnlieplaaDoor
set_option maxRecDepth 100000
open Go.ChangeShapes Go.WideShapes Go.ChangeAt Go.RowKit

theorem getD_far {l : List Int} {k : Nat} (h : l.length ≤ k) : l.getD k 0 = 0 := by
  rw [List.getD_eq_getElem?_getD, List.getElem?_eq_none h]; rfl
/-- Word j of a row, in a later world. -/
theorem Row.word {w w' : World} {ao : Option Addr} {n cap : Nat} {ws : List Int} (h : Row w (.slice ao n cap) ws) (hb : Below w.heap.size w w') {j : Nat} (hj : j < n) :
    ∃ g, ao = some ⟨g, 0, none⟩ ∧ w'.cell? ⟨g, j, none⟩ = some (.int .u32 (ws.getD j 0)) ∧ 0 ≤ ws.getD j 0 ∧ ws.getD j 0 < 4294967296 := by
  have hw := h.wds
  have hl : n = ws.length := by
    obtain ⟨_, _, _, e, _, h2⟩ := h.slice
    cases e; exact h2
  rcases (h.below hb).shape with ⟨h1, h2⟩ | ⟨g, c, h1, _, _, h3, _⟩
  · simp only [Value.slice.injEq] at h1; omega
  · simp only [Value.slice.injEq] at h1
    exact ⟨g, h1.1, h3 j (by omega), Wds.at hw (by omega)⟩
/-- The new row of a sum. -/
theorem made_row (w : World) (n : Nat) (h : n ≤ 1000000) : (w.alloc (.cells (madeCells #[.int .u32 0] n) 84)).ownsRow w.heap.size 84 1 (.slice (some ⟨w.heap.size, 0, none⟩) n n) n ((List.replicate n (0 : Int)).map (Value.int .u32)) := by
  have := World.ownsRow_lit (base := w.heap.size) (e := 84) (size := 1) w (madeCells #[.int .u32 0] n) n (Nat.le_refl _) (by unfold maxLen; omega) (by simp [madeCells])
  rw [toList_madeCells_one] at this
  rw [List.map_replicate]
  exact this
theorem word_there {wr : World} {B g n : Nat} {rs : List Int} (h : wr.ownsRow B 84 1 (.slice (some ⟨g, 0, none⟩) n n) n (rs.map (Value.int .u32))) (hl : rs.length = n) {j : Nat} (hj : j < n) : wr.cell? ⟨g, j, none⟩ = some (.int .u32 (rs.getD j 0)) := by
  rw [h.cellAt j (by omega), List.getElem?_map, List.getElem?_eq_getElem (by omega), List.getD_eq_getElem?_getD, List.getElem?_eq_getElem (by omega)]
  rfl

set_option maxHeartbeats 1600000 in
theorem add_any (va vb : Value) (a b : List Int) (w : World) (ha : Row w va a) (hb : Row w vb b) (hla : a.length ≤ 100000) (hlb : b.length ≤ 100000) :
    Calls Tryd.prog 55 #[va, vb] w fun e w' => ∃ v' ws', e = .returned v' ∧ Row w' v' ws' ∧ Norm ws' ∧ nv ws' = nv a + nv b ∧ Below w.heap.size w w' := by
  obtain ⟨ao, n, ca, rfl, -, hn⟩ := ha.slice
  obtain ⟨bo, m, cb, rfl, -, hm⟩ := hb.slice
  have HA : Hid (Row w (.slice ao n ca) a) := ha
  have HB : Hid (Row w (.slice bo m cb) b) := hb
  have HN : Hid (a.length = n ∧ b.length = m) := ⟨hn.symm, hm.symm⟩
  have hn1 : n ≤ 100000 := by omega
  have hm1 : m ≤ 100000 := by omega
  clear ha hb hn hm hla hlb
  by_cases hlt : n < m
  · have hmk := fun W => run_make_row' (P := Tryd.prog) 73 84 (.int .u32 0) 4 Tryd.underlying73 Tryd.infoU32 rfl .i64 .i64 (m + 1) (by omega) (by omega) W
    have ec : ((m + 1 : Nat) : Int) = (m : Int) + 1 := by omega
    rw [ec] at hmk
    clear ec
    go_enter Tryd.func55, Tryd.ntmps55
    go_wp2
    go_loopw [6, 7] (fun cc ii wr => ∃ (k : Nat) (c : Int) (rs : List Int), k ≤ m ∧ cc = .int .u64 c ∧ ii = .int .i64 k ∧ 0 ≤ c ∧ c ≤ 1 ∧ Hid (wr.ownsRow w.heap.size 84 1 (.slice (some ⟨w.heap.size, 0, none⟩) (m + 1) (m + 1)) (m + 1) (rs.map (Value.int .u32)) ∧ Wds rs ∧ rs.length = m + 1 ∧ nv (rs.take k) + top k * c = nv (b.take k) + nv (a.take k)) ∧ Below w.heap.size w wr)
      (fun _ ii _ => m - (intOf ii).toNat)
    case atStart => exact ⟨0, 0, List.replicate (m + 1) 0, Nat.zero_le _, rfl, rfl, by omega, by omega, ⟨made_row w (m + 1) (by omega), wds_zeros _, by simp, by simp [nv]⟩, (Below.refl _ _).alloc (Nat.le_refl _) _⟩
    case round =>
      obtain ⟨k, c, rs, hk, rfl, rfl, hc0, hc1, HQ, hbel⟩ := hrel
      by_cases hk2 : k < m
      · obtain ⟨ga, rfl, p1, x0, x1⟩ := HB.out.word hbel hk2
        have f1 := HQ.out.1.frozenAt k
        have p3 := word_there HQ.out.1 HQ.out.2.2.1 (j := k) (by omega)
        have HST : Hid (nv ((rs.set k ((c + b.getD k 0 + a.getD k 0) % 4294967296)).take (k + 1)) + top (k + 1) * ((c + b.getD k 0 + a.getD k 0) / 4294967296) = nv (b.take (k + 1)) + nv (a.take (k + 1))) := add_step (by rw [HQ.out.2.2.1]; omega) HQ.out.2.2.2
        by_cases hk3 : k < n
        · obtain ⟨gb, rfl, p2, y0, y1⟩ := HA.out.word hbel hk3
          generalize b.getD k 0 = x at *
          generalize a.getD k 0 = y at *
          have hw : IntKind.u32.wrap (c + x + y) = (c + x + y) % 4294967296 := IntKind.wrap_u32 _
          clear hmk
          go_wp2
          obtain ⟨o1, g1⟩ := HQ.out.1.stored k (.int .u32 ((c + x + y) % 4294967296))
          exact ⟨⟨k + 1, (c + x + y) / 4294967296, rs.set k ((c + x + y) % 4294967296), by omega, rfl, by go_num, by omega, by omega, ⟨by rw [List.map_set]; exact o1, HQ.out.2.1.set (by omega) k, by rw [List.length_set]; exact HQ.out.2.2.1, HST.out⟩, hbel.grown g1 hbel.size (fun t ht => by cases ht; exact Nat.le_refl _)⟩, by simp [intOf]; omega⟩
        · have ey : a.getD k 0 = 0 := getD_far (by rw [HN.out.1]; omega)
          rw [ey] at HST
          simp only [Int.add_zero] at HST
          generalize b.getD k 0 = x at *
          have hw : IntKind.u32.wrap (c + x) = (c + x) % 4294967296 := IntKind.wrap_u32 _
          clear hmk ey
          go_wp2
          obtain ⟨o1, g1⟩ := HQ.out.1.stored k (.int .u32 ((c + x) % 4294967296))
          exact ⟨⟨k + 1, (c + x) / 4294967296, rs.set k ((c + x) % 4294967296), by omega, rfl, by go_num, by omega, by omega, ⟨by rw [List.map_set]; exact o1, HQ.out.2.1.set (by omega) k, by rw [List.length_set]; exact HQ.out.2.2.1, HST.out⟩, hbel.grown g1 hbel.size (fun t ht => by cases ht; exact Nat.le_refl _)⟩, by simp [intOf]; omega⟩
      · obtain rfl : k = m := by omega
        have f1 := HQ.out.1.frozenAt k
        have p3 := word_there HQ.out.1 HQ.out.2.2.1 (j := k) (by omega)
        obtain ⟨o1, g1⟩ := HQ.out.1.stored k (.int .u32 c)
        have hval : nv (rs.set k c) = nv b + nv a := by
          rw [nv_set_last HQ.out.2.2.1, HQ.out.2.2.2, List.take_of_length_le (by rw [HN.out.2]; exact Nat.le_refl _), List.take_of_length_le (by rw [HN.out.1]; omega)]
        have HV : Hid (nv (rs.set k c) = nv b + nv a) := hval
        have HR : Hid (Row (wr.setCell ⟨w.heap.size, k, none⟩ (.int .u32 c)) (.slice (some ⟨w.heap.size, 0, none⟩) (k + 1) (k + 1)) (rs.set k c)) := row_of (n := k + 1) (by rw [List.length_set]; exact HQ.out.2.2.1.symm) (by rw [List.map_set]; exact o1) (HQ.out.2.1.set (by omega) k)
        have HBL : Hid (Below w.heap.size w (wr.setCell ⟨w.heap.size, k, none⟩ (.int .u32 c))) := hbel.grown g1 hbel.size (fun t ht => by cases ht; exact Nat.le_refl _)
        clear hmk hval o1 g1
        go_wp2_with fail
        refine (trim_any _ _ _ HR.out).mono ?_
        rintro e w2 ⟨rfl, t, v', rfl, ht, hr', -, hz, hlast⟩
        go_wp2
        go_ret
        exact ⟨_, _, rfl, hr', norm_take ht hlast, by rw [nv_take hz, HV.out]; exact Int.add_comm _ _, HBL.out⟩
  · have hmk := fun W => run_make_row' (P := Tryd.prog) 73 84 (.int .u32 0) 4 Tryd.underlying73 Tryd.infoU32 rfl .i64 .i64 (n + 1) (by omega) (by omega) W
    have ec : ((n + 1 : Nat) : Int) = (n : Int) + 1 := by omega
    rw [ec] at hmk
    clear ec
    go_enter Tryd.func55, Tryd.ntmps55
    go_wp2
    go_loopw [6, 7] (fun cc ii wr => ∃ (k : Nat) (c : Int) (rs : List Int), k ≤ n ∧ cc = .int .u64 c ∧ ii = .int .i64 k ∧ 0 ≤ c ∧ c ≤ 1 ∧ Hid (wr.ownsRow w.heap.size 84 1 (.slice (some ⟨w.heap.size, 0, none⟩) (n + 1) (n + 1)) (n + 1) (rs.map (Value.int .u32)) ∧ Wds rs ∧ rs.length = n + 1 ∧ nv (rs.take k) + top k * c = nv (a.take k) + nv (b.take k)) ∧ Below w.heap.size w wr)
      (fun _ ii _ => n - (intOf ii).toNat)
    case atStart => exact ⟨0, 0, List.replicate (n + 1) 0, Nat.zero_le _, rfl, rfl, by omega, by omega, ⟨made_row w (n + 1) (by omega), wds_zeros _, by simp, by simp [nv]⟩, (Below.refl _ _).alloc (Nat.le_refl _) _⟩
    case round =>
      obtain ⟨k, c, rs, hk, rfl, rfl, hc0, hc1, HQ, hbel⟩ := hrel
      by_cases hk2 : k < n
      · obtain ⟨ga, rfl, p1, x0, x1⟩ := HA.out.word hbel hk2
        have f1 := HQ.out.1.frozenAt k
        have p3 := word_there HQ.out.1 HQ.out.2.2.1 (j := k) (by omega)
        have HST : Hid (nv ((rs.set k ((c + a.getD k 0 + b.getD k 0) % 4294967296)).take (k + 1)) + top (k + 1) * ((c + a.getD k 0 + b.getD k 0) / 4294967296) = nv (a.take (k + 1)) + nv (b.take (k + 1))) := add_step (by rw [HQ.out.2.2.1]; omega) HQ.out.2.2.2
        by_cases hk3 : k < m
        · obtain ⟨gb, rfl, p2, y0, y1⟩ := HB.out.word hbel hk3
          generalize a.getD k 0 = x at *
          generalize b.getD k 0 = y at *
          have hw : IntKind.u32.wrap (c + x + y) = (c + x + y) % 4294967296 := IntKind.wrap_u32 _
          clear hmk
          go_wp2
          obtain ⟨o1, g1⟩ := HQ.out.1.stored k (.int .u32 ((c + x + y) % 4294967296))
          exact ⟨⟨k + 1, (c + x + y) / 4294967296, rs.set k ((c + x + y) % 4294967296), by omega, rfl, by go_num, by omega, by omega, ⟨by rw [List.map_set]; exact o1, HQ.out.2.1.set (by omega) k, by rw [List.length_set]; exact HQ.out.2.2.1, HST.out⟩, hbel.grown g1 hbel.size (fun t ht => by cases ht; exact Nat.le_refl _)⟩, by simp [intOf]; omega⟩
        · have ey : b.getD k 0 = 0 := getD_far (by rw [HN.out.2]; omega)
          rw [ey] at HST
          simp only [Int.add_zero] at HST
          generalize a.getD k 0 = x at *
          have hw : IntKind.u32.wrap (c + x) = (c + x) % 4294967296 := IntKind.wrap_u32 _
          clear hmk ey
          go_wp2
          obtain ⟨o1, g1⟩ := HQ.out.1.stored k (.int .u32 ((c + x) % 4294967296))
          exact ⟨⟨k + 1, (c + x) / 4294967296, rs.set k ((c + x) % 4294967296), by omega, rfl, by go_num, by omega, by omega, ⟨by rw [List.map_set]; exact o1, HQ.out.2.1.set (by omega) k, by rw [List.length_set]; exact HQ.out.2.2.1, HST.out⟩, hbel.grown g1 hbel.size (fun t ht => by cases ht; exact Nat.le_refl _)⟩, by simp [intOf]; omega⟩
      · obtain rfl : k = n := by omega
        have f1 := HQ.out.1.frozenAt k
        have p3 := word_there HQ.out.1 HQ.out.2.2.1 (j := k) (by omega)
        obtain ⟨o1, g1⟩ := HQ.out.1.stored k (.int .u32 c)
        have hval : nv (rs.set k c) = nv a + nv b := by
          rw [nv_set_last HQ.out.2.2.1, HQ.out.2.2.2, List.take_of_length_le (by rw [HN.out.1]; exact Nat.le_refl _), List.take_of_length_le (by rw [HN.out.2]; omega)]
        have HV : Hid (nv (rs.set k c) = nv a + nv b) := hval
        have HR : Hid (Row (wr.setCell ⟨w.heap.size, k, none⟩ (.int .u32 c)) (.slice (some ⟨w.heap.size, 0, none⟩) (k + 1) (k + 1)) (rs.set k c)) := row_of (n := k + 1) (by rw [List.length_set]; exact HQ.out.2.2.1.symm) (by rw [List.map_set]; exact o1) (HQ.out.2.1.set (by omega) k)
        have HBL : Hid (Below w.heap.size w (wr.setCell ⟨w.heap.size, k, none⟩ (.int .u32 c))) := hbel.grown g1 hbel.size (fun t ht => by cases ht; exact Nat.le_refl _)
        clear hmk hval o1 g1
        go_wp2_with fail
        refine (trim_any _ _ _ HR.out).mono ?_
        rintro e w2 ⟨rfl, t, v', rfl, ht, hr', -, hz, hlast⟩
        go_wp2
        go_ret
        exact ⟨_, _, rfl, hr', norm_take ht hlast, by rw [nv_take hz, HV.out], HBL.out⟩
end Go.Proofs.YtjmklmcnlieplaaDoor
