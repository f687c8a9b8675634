/- A copy of all calls, in a row that is made ahead. -/
import Derived.Test.YtiaoidbhdkldlabCcopy
namespace Go.Proofs.Ytiaoidbhdkldlab
open Go.ChangeShapes Go.WideShapes Go.ChangeAt Go.RowKit
set_option maxRecDepth 100000
set_option linter.unusedSimpArgs false
set_option linter.unusedVariables false

theorem ccells_set : ∀ (ms : List Ce) (k : Nat) (e : Ce), k < ms.length → ccells (ms.set k e) = (((ccells ms).set (k * 3) (.int .i64 e.x.site)).set (k * 3 + 1) (.int .i64 e.x.fn)).set (k * 3 + 2) e.L
  | [], k, e, h => by simp at h
  | m :: r, 0, e, _ => by simp [ccells, Ce.cells]
  | m :: r, k + 1, e, h => by
    have ih := ccells_set r k e (by simpa using h)
    have e1 : ccells (m :: r) = Ce.cells m ++ ccells r := by simp [ccells]
    have e2 : ccells ((m :: r).set (k + 1) e) = Ce.cells m ++ ccells (r.set k e) := by simp [ccells]
    rw [e1, e2, ih]
    have h3 : (Ce.cells m).length = 3 := rfl
    rw [List.set_append_right _ _ (by rw [h3]; omega), List.set_append_right _ _ (by rw [h3]; omega), List.set_append_right _ _ (by rw [h3]; omega), h3]
    rw [show (k + 1) * 3 - 3 = k * 3 by omega, show (k + 1) * 3 + 1 - 3 = k * 3 + 1 by omega, show (k + 1) * 3 + 2 - 3 = k * 3 + 2 by omega]
/-- A call laid at a place of an own row. -/
theorem CRow.put {B g n cap k : Nat} {u : World} {ms : List Ce} {cs : List Cc} {c : Cc} {L : Value} (h : CRow B u (.slice (some ⟨g, 0, none⟩) n cap) ms cs) (hk : k < ms.length) (hl : IOwn B u L c.args) (hn : ms.length = n) :
    CRow B (((u.setCell ⟨g, k * 3, none⟩ (.int .i64 c.site)).setCell ⟨g, k * 3 + 1, none⟩ (.int .i64 c.fn)).setCell ⟨g, k * 3 + 2, none⟩ L) (.slice (some ⟨g, 0, none⟩) n cap) (ms.set k ⟨c, L⟩) (cs.set k c) := by
  subst hn
  obtain ⟨r1, g1⟩ := h.row.stored (k * 3) (.int .i64 c.site)
  obtain ⟨r2, g2⟩ := r1.stored (k * 3 + 1) (.int .i64 c.fn)
  obtain ⟨r3, g3⟩ := r2.stored (k * 3 + 2) L
  have keep3 : ∀ {M : Value} {l : List Int}, IOwn B u M l → IOwn B (((u.setCell ⟨g, k * 3, none⟩ (.int .i64 c.site)).setCell ⟨g, k * 3 + 1, none⟩ (.int .i64 c.fn)).setCell ⟨g, k * 3 + 2, none⟩ L) M l := fun {M l} h0 => by
    exact iown_grown (iown_grown (iown_grown h0 g1 (fun q hq => by cases hq; exact row_typed h.row _ rfl)) g2 (fun q hq => by cases hq; exact row_typed r1 _ rfl)) g3 (fun q hq => by cases hq; exact row_typed r2 _ rfl)
  refine ⟨?_, fun e he => ?_, by rw [List.map_set, h.xs]⟩
  · rw [ccells_set ms k ⟨c, L⟩ hk, List.length_set]
    exact r3
  · rcases List.mem_or_eq_of_mem_set he with h1 | h1
    · exact keep3 (h.lies e h1)
    · subst h1; exact keep3 hl
def zeroC : Cc := ⟨0, 0, []⟩
def zeroE : Ce := ⟨zeroC, .slice none 0 0⟩
theorem zero_cells : ∀ n, ccells (List.replicate n zeroE) = (madeCells #[.int .i64 0, .int .i64 0, .slice none 0 0] (n * 3)).toList := by
  intro n
  apply List.ext_getElem?
  intro j
  by_cases hj : j < n * 3
  · have h1 : j / 3 < n := by omega
    have h2 := ccells_get (List.replicate n zeroE) (j / 3) (j % 3) zeroE (by omega) (by rw [List.getElem?_replicate]; simp [h1])
    rw [show j / 3 * 3 + j % 3 = j by omega] at h2
    rw [h2]
    have h3 : j % 3 = 0 ∨ j % 3 = 1 ∨ j % 3 = 2 := by omega
    rcases h3 with h | h | h <;> simp [madeCells, hj, h, zeroE, zeroC, Ce.cells]
  · rw [List.getElem?_eq_none (by rw [ccells_len, List.length_replicate]; omega), List.getElem?_eq_none (by rw [Array.length_toList, size_madeCells]; omega)]
/-- A row that is made, with room for more. -/
theorem CRow.made (w : World) (n cap : Nat) (h : n ≤ cap) (hm : cap ≤ maxLen) : CRow w.heap.size (w.alloc (.cells (madeCells #[.int .i64 0, .int .i64 0, .slice none 0 0] (cap * 3)) 25)) (.slice (some ⟨w.heap.size, 0, none⟩) n cap) (List.replicate n zeroE) (List.replicate n zeroC) := by
  refine ⟨⟨by rw [ccells_len], .inr ⟨w.heap.size, cap, _, by simp, Nat.le_refl _, by show (w.heap.push _)[w.heap.size]? = _; exact Array.getElem?_push_size, by simpa using h, hm, size_madeCells _ _, ?_⟩⟩, fun e he => ?_, by simp [zeroE]⟩
  · rw [← zero_cells, List.length_replicate]
    apply List.ext_getElem?
    intro j
    rw [List.getElem?_take]
    split
    · rename_i hj
      have h1 : j / 3 < n := by omega
      have h2 := ccells_get (List.replicate n zeroE) (j / 3) (j % 3) zeroE (by omega) (by rw [List.getElem?_replicate]; simp [h1])
      have h3 := ccells_get (List.replicate cap zeroE) (j / 3) (j % 3) zeroE (by omega) (by rw [List.getElem?_replicate]; simp; omega)
      rw [show j / 3 * 3 + j % 3 = j by omega] at h2 h3
      rw [h2, h3]
    · rename_i hj
      rw [List.getElem?_eq_none (by rw [ccells_len, List.length_replicate]; omega)]
  · rw [List.eq_of_mem_replicate he]
    exact IOwn.nil _ _
theorem fill_step {cs : List Cc} {k : Nat} (h : k < cs.length) : (cs.take k ++ List.replicate (cs.length - k) zeroC).set k cs[k] = cs.take (k + 1) ++ List.replicate (cs.length - (k + 1)) zeroC := by
  rw [List.set_append_right _ _ (by simp; omega), list_take cs k h, List.length_take, Nat.min_eq_left (by omega), Nat.sub_self, show cs.length - k = (cs.length - (k + 1)) + 1 by omega, List.replicate_succ, List.set_cons_zero, List.append_assoc]
  rfl
set_option maxHeartbeats 4000000 in
theorem own_copyAll (v : Value) (es : List Ce) (cs : List Cc) (w : World) (hv : CSrc w v es cs) (hc : COk cs) :
    Calls Try.prog 24 #[v] w fun e w' => ∃ v' ms, e = .returned v' ∧ CRow w.heap.size w' v' ms cs ∧ Below w.heap.size w w' := by
  obtain ⟨lo, lc, rfl⟩ := hv.row.shape
  have hsz : es.length ≤ 3518437208800 := by rw [hv.len]; exact hc.size
  have HX : Hid (∀ k (h1 : k < es.length), ∃ b1 o1, lo = some ⟨b1, o1, none⟩ ∧ ∀ u, Below w.heap.size w u → u.cell? ⟨b1, o1 + k * 3, none⟩ = some (.int .i64 es[k].x.site) ∧ u.cell? ⟨b1, o1 + k * 3 + 1, none⟩ = some (.int .i64 es[k].x.fn) ∧ u.cell? ⟨b1, o1 + k * 3 + 2, none⟩ = some es[k].L) := fun k h1 => by
    obtain ⟨b1, o1, c1, e1, x0, x1, x2⟩ := hv.row.at h1
    cases e1
    exact ⟨b1, o1, rfl, fun u hb => ⟨by rw [hb.cell (World.block_lt_of_cell? _ _ x0)]; exact x0, by rw [hb.cell (World.block_lt_of_cell? _ _ x1)]; exact x1, by rw [hb.cell (World.block_lt_of_cell? _ _ x2)]; exact x2⟩⟩
  have HL : Hid (∀ k (h1 : k < es.length) u, Below w.heap.size w u → ILies u es[k].L es[k].x.args) := fun k h1 u hb => (hv.lies es[k] (List.getElem_mem h1)).below hb (Nat.le_refl _)
  have HSZ : Hid (∀ k (h1 : k < es.length), es[k].x.args.length * 8 ≤ 140737488355328 ∧ (cs.take k ++ List.replicate (es.length - k) zeroC).set k es[k].x = cs.take (k + 1) ++ List.replicate (es.length - (k + 1)) zeroC) := fun k h1 => by
    have h2 : k < cs.length := by rw [← hv.len]; exact h1
    have h3 := hv.one h1 h2
    refine ⟨?_, by rw [hv.len, h3, fill_step h2]⟩
    have := (hc.each cs[k] (List.getElem_mem h2)).sz
    rw [h3]; omega
  have HLE : Hid (es.length = cs.length) := hv.len
  have HM : Hid (∀ w : World, CRow w.heap.size (w.alloc (.cells (madeCells #[.int .i64 0, .int .i64 0, .slice none 0 0] ((es.length + 1) * 3)) 25)) (.slice (some ⟨w.heap.size, 0, none⟩) es.length (es.length + 1)) (List.replicate es.length zeroE) (List.replicate es.length zeroC)) := fun w => CRow.made w es.length (es.length + 1) (by omega) (by unfold maxLen; omega)
  clear hv hc
  obtain ⟨i0, hi, hz0, hz1, hz2⟩ := info_parts Try.infoCallC
  have hmk : ∀ u : World, (Instr.makeSlice 22 (.int .i64 (es.length : Int)) (.int .i64 ((es.length : Int) + 1))).run Try.prog u =
      .ok (.slice (some ⟨u.heap.size, 0, none⟩) es.length (es.length + 1)) (u.alloc (.cells (madeCells #[.int .i64 0, .int .i64 0, .slice none 0 0] ((es.length + 1) * 3)) 25)) := fun u => by
    have h := run_make (P := Try.prog) u 22 25 i0 (.agg #[.int .i64 0, .int .i64 0, .slice none 0 0]) Try.underlying22 hi hz0 .i64 .i64 (es.length : Int) ((es.length : Int) + 1) (by omega) (by omega) (by rw [hz2]; omega) (by omega)
    rw [show ((es.length : Int) + 1).toNat = es.length + 1 by omega] at h
    simpa [hz1, Value.cells] using h
  go_enter Try.func24, Try.ntmps24
  go_wp2_with fail
  go_loopw [14] (fun i wr => ∃ (k : Nat) (ms : List Ce), k ≤ es.length ∧ i = .int .i64 k ∧ Hid (CRow w.heap.size wr (.slice (some ⟨w.heap.size, 0, none⟩) es.length (es.length + 1)) ms (cs.take k ++ List.replicate (es.length - k) zeroC)) ∧ Hid (Below w.heap.size w wr)) (fun i _ => es.length - (intOf i).toNat)
  case atStart => exact ⟨0, _, Nat.zero_le _, rfl, HM.out w, (Below.refl _ _).alloc (Nat.le_refl _) _⟩
  case round =>
    obtain ⟨k, ms, hk, rfl, HBL, HB⟩ := hrel
    have hml : ms.length = es.length := by
      have := HBL.out.len
      rw [List.length_append, List.length_take, ← HLE.out, List.length_replicate] at this
      omega
    by_cases hlt : k < es.length
    · obtain ⟨b1, o1, rfl, hx⟩ := HX.out k hlt
      obtain ⟨x0, x1, x2⟩ := hx wr HB.out
      have hlt2 : (k : Int) < (es.length : Int) := by omega
      have HK : Hid _ := HSZ.out k hlt
      have HW : Hid (w.heap.size < wr.heap.size) := by have := HBL.out.row.lt _ rfl; exact this.2
      clear hx
      obtain ⟨eo, ec, hes⟩ := (HL.out k hlt w (Below.refl _ _)).shape
      have HC : Hid (∀ o, Calls Try.prog 25 #[.agg #[.int .i64 es[k].x.site, .int .i64 es[k].x.fn, .slice eo es[k].x.args.length ec]] (wr.alloc o) fun e w' => ∃ L', e = .returned (cval es[k].x L') ∧ IOwn (wr.alloc o).heap.size w' L' es[k].x.args ∧ Below (wr.alloc o).heap.size (wr.alloc o) w') := fun o => by
        have := own_copyCall es[k].x es[k].L (wr.alloc o) HK.out.1 ((HL.out k hlt wr HB.out).below ((Below.refl _ _).alloc (Nat.le_refl _) _) (Nat.le_refl _))
        rw [hes] at this
        exact this
      rw [hes] at x2
      clear hes
      go_wp2_with fail
      refine Calls.mono (HC.out _) ?_
      rintro e w1 ⟨L', rfl, hown, hb1⟩
      obtain ⟨ao, cap, rfl⟩ := hown.shape
      have hr1 := HBL.out.below (below_up hb1)
      have HB2 : Hid (Below w.heap.size w w1) := HB.out.trans ((below_up hb1).mono (by have := HW.out; omega))
      have HP : Hid (CRow w.heap.size (((w1.setCell ⟨w.heap.size, k * 3, none⟩ (.int .i64 es[k].x.site)).setCell ⟨w.heap.size, k * 3 + 1, none⟩ (.int .i64 es[k].x.fn)).setCell ⟨w.heap.size, k * 3 + 2, none⟩ (.slice ao es[k].x.args.length cap)) (.slice (some ⟨w.heap.size, 0, none⟩) es.length (es.length + 1)) (ms.set k ⟨es[k].x, .slice ao es[k].x.args.length cap⟩) (cs.take (k + 1) ++ List.replicate (es.length - (k + 1)) zeroC)) := by
        have := hr1.put (show k < ms.length by omega) (hown.up (by have := HW.out; simp; omega)) hml
        rw [HK.out.2] at this
        exact this
      have hrw := hr1.row
      rw [hml] at hrw
      have ce : ∀ j, j < 3 → ∃ c, w1.cell? ⟨w.heap.size, k * 3 + j, none⟩ = some c := fun j hj => by
        rw [hrw.cellAt (k * 3 + j) (by omega)]
        exact ⟨_, List.getElem?_eq_getElem (by rw [ccells_len]; omega)⟩
      obtain ⟨q0, y0⟩ := ce 0 (by decide)
      obtain ⟨q1, y1⟩ := ce 1 (by decide)
      obtain ⟨q2, y2⟩ := ce 2 (by decide)
      rw [Nat.add_zero] at y0
      have z0 := hrw.frozenAt (k * 3)
      have z1 := hrw.frozenAt (k * 3 + 1)
      have z2 := hrw.frozenAt (k * 3 + 2)
      clear hrw hr1 hown hb1 ce
      unfold cval
      go_wp2_with fail
      go_roundw
      case rel => exact ⟨k + 1, _, by omega, by go_num, HP.out, ((HB2.out.setCell (Nat.le_refl _) _).setCell (Nat.le_refl _) _).setCell (Nat.le_refl _) _⟩
      case measure => simp [intOf]; omega
    · have hkn : k = es.length := by omega
      subst hkn
      have hlt2 : ¬ (es.length : Int) < (es.length : Int) := by omega
      have HT : Hid (cs.take es.length ++ List.replicate (es.length - es.length) zeroC = cs) := by rw [HLE.out, List.take_length, Nat.sub_self]; exact List.append_nil _
      go_wp2_with fail
      go_ret
      exact ⟨_, rfl, ⟨ms, by have := HBL.out; rw [HT.out] at this; exact this⟩, HB.out⟩
end Go.Proofs.Ytiaoidbhdkldlab
