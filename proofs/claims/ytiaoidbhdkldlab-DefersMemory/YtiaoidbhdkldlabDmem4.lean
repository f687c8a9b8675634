/- Memory: calls with marked room behind them. -/
import Derived.Test.YtiaoidbhdkldlabDmem3
namespace Go.Proofs.Ytiaoidbhdkldlab
open Go.ChangeShapes Go.WideShapes Go.ChangeAt Go.RowKit
set_option maxRecDepth 100000
set_option linter.unusedSimpArgs false
set_option linter.unusedVariables false
theorem ccells_last : ∀ (ms : List Ce) (k : Nat) (e : Ce) (L : Value), ms[k]? = some e → ccells (ms.set k ⟨e.x, L⟩) = (ccells ms).set (k * 3 + 2) L
  | [], k, e, x, h => by simp at h
  | m :: r, 0, e, x, h => by
    simp at h
    subst h
    simp [ccells, Ce.cells]
  | m :: r, k + 1, e, x, h => by
    have ih := ccells_last r k e x (by simpa using h)
    have e1 : ccells (m :: r) = Ce.cells m ++ ccells r := by simp [ccells]
    have e2 : ∀ e', ccells ((m :: r).set (k + 1) e') = Ce.cells m ++ ccells (r.set k e') := fun e' => by simp [ccells]
    rw [e1, e2, ih]
    have h3 : (Ce.cells m).length = 3 := rfl
    rw [List.set_append_right _ _ (by rw [h3]; omega), h3, show (k + 1) * 3 + 2 - 3 = k * 3 + 2 by omega]
/-- A whole block of calls. -/
def MA (A : Nat) (ks : List Ce) (u : World) : Prop := u.heap[A]? = some (.cells (ccells ks).toArray 25 (0, 0))
theorem MA.below {A : Nat} {ks : List Ce} {u u' : World} (h : MA A ks u) (hb : Below u.heap.size u u') : MA A ks u' := by
  show u'.heap[A]? = _
  rw [hb.block _ (Array.getElem?_eq_some_iff.1 h).1]; exact h
theorem MA.cells {A k : Nat} {ks : List Ce} {u : World} {e : Ce} (h : MA A ks u) (hk : ks[k]? = some e) : (u.cell? ⟨A, k * 3, none⟩ = some (.int .i64 e.x.site) ∧ u.cell? ⟨A, k * 3 + 1, none⟩ = some (.int .i64 e.x.fn) ∧ u.cell? ⟨A, k * 3 + 2, none⟩ = some e.L) ∧ u.frozen? ⟨A, k * 3, none⟩ = false ∧ u.frozen? ⟨A, k * 3 + 1, none⟩ = false ∧ u.frozen? ⟨A, k * 3 + 2, none⟩ = false := by
  have h0 := ccells_get ks k 0 e (by decide) hk
  have h1 := ccells_get ks k 1 e (by decide) hk
  have h2 := ccells_get ks k 2 e (by decide) hk
  rw [Nat.add_zero] at h0
  have hb : u.heap[A]? = some (.cells (ccells ks).toArray 25 (0, 0)) := h
  refine ⟨⟨?_, ?_, ?_⟩, ?_, ?_, ?_⟩
  · simp only [World.cell?, hb]; simpa [Ce.cells] using h0
  · simp only [World.cell?, hb]; simpa [Ce.cells] using h1
  · simp only [World.cell?, hb]; simpa [Ce.cells] using h2
  · simp [World.frozen?, hb]
  · simp [World.frozen?, hb]
  · simp [World.frozen?, hb]
theorem MA.put {A k : Nat} {ks : List Ce} {u : World} {c : Cc} {L : Value} (h : MA A ks u) (hk : k < ks.length) :
    MA A (ks.set k ⟨c, L⟩) (((u.setCell ⟨A, k * 3, none⟩ (.int .i64 c.site)).setCell ⟨A, k * 3 + 1, none⟩ (.int .i64 c.fn)).setCell ⟨A, k * 3 + 2, none⟩ L) := by
  have h1 := heap_setCell_same u A (k * 3) _ 25 (.int .i64 c.site) h
  have h2 := heap_setCell_same _ A (k * 3 + 1) _ 25 (.int .i64 c.fn) h1
  have h3 := heap_setCell_same _ A (k * 3 + 2) _ 25 L h2
  show _ = _
  rw [h3, ccells_set ks k ⟨c, L⟩ hk]
  simp
theorem MA.last {A k : Nat} {ks : List Ce} {u : World} {e : Ce} (h : MA A ks u) (hk : ks[k]? = some e) (L : Value) : MA A (ks.set k ⟨e.x, L⟩) (u.setCell ⟨A, k * 3 + 2, none⟩ L) := by
  have h1 := heap_setCell_same u A (k * 3 + 2) _ 25 L h
  show _ = _
  rw [h1, ccells_last ks k e L hk]
  simp
/-- The call j stands in the block, its numbers with marked room behind them. -/
def RoomAt (u : World) (c : Cc) (j : Nat) (ks : List Ce) : Prop := ∃ g, ks[j]? = some ⟨c, .slice (some ⟨g, 0, none⟩) c.args.length (c.args.length + 2)⟩ ∧ Room u g c.args
theorem RoomAt.keep {u u' : World} {c : Cc} {j : Nat} {ks ks' : List Ce} (h : RoomAt u c j ks) (hk : ks'[j]? = ks[j]?) (hb : ∀ g l, Room u g l → Room u' g l) : RoomAt u' c j ks' := by
  obtain ⟨g, h1, h2⟩ := h
  exact ⟨g, by rw [hk]; exact h1, hb g _ h2⟩
theorem room_below {u u' : World} (hb : Below u.heap.size u u') : ∀ g l, Room u g l → Room u' g l := fun g l h => by
  show u'.heap[g]? = _
  rw [hb.block _ (Array.getElem?_eq_some_iff.1 h).1]; exact h
theorem room_set {u : World} {A j : Nat} {ks : List Ce} {v : Value} (hm : MA A ks u) : ∀ g l, Room u g l → Room (u.setCell ⟨A, j, none⟩ v) g l := fun g l h => by
  show (u.setCell ⟨A, j, none⟩ v).heap[g]? = _
  rw [heap_setCell_other _ _ _ _ (fun e => by
    have e2 : g = A := by simpa using e
    subst e2
    have h1 : u.heap[g]? = _ := hm
    rw [show u.heap[g]? = _ from h] at h1
    simp at h1)]
  exact h
/-- A block of calls, whatever it holds. -/
def CAny (A : Nat) (u : World) : Prop := ∃ cur : Array Value, u.heap[A]? = some (Obj.cells cur 25 (0, 0))
theorem MA.any {A : Nat} {ks : List Ce} {u : World} (h : MA A ks u) : CAny A u := ⟨_, h⟩
theorem CAny.set {A j : Nat} {u : World} {v : Value} (h : CAny A u) : CAny A (u.setCell ⟨A, j, none⟩ v) := by
  obtain ⟨cur, hc⟩ := h
  exact ⟨_, heap_setCell_same u A j _ _ v hc⟩
theorem room_any {u : World} {A j : Nat} {v : Value} (hm : CAny A u) : ∀ g l, Room u g l → Room (u.setCell ⟨A, j, none⟩ v) g l := fun g l h => by
  show (u.setCell ⟨A, j, none⟩ v).heap[g]? = _
  rw [heap_setCell_other _ _ _ _ (fun e => by
    have e2 : g = A := by simpa using e
    subst e2
    obtain ⟨cur, h1⟩ := hm
    rw [show u.heap[g]? = _ from h] at h1
    simp at h1)]
  exact h
theorem made_zero (n : Nat) : madeCells #[.int .i64 0, .int .i64 0, .slice none 0 0] (n * 3) = (ccells (List.replicate n zeroE)).toArray := by rw [zero_cells]
set_option maxHeartbeats 3000000 in
theorem own_roomyCalls (v : Value) (es : List Ce) (cs : List Cc) (w : World) (hv : CSrc w v es cs) (hc : COk cs) :
    Calls Try.prog 8 #[v] w fun e w' => ∃ ks, e = .returned (.slice (some ⟨w.heap.size, 0, none⟩) cs.length (cs.length + 1)) ∧ MA w.heap.size ks w' ∧ ks.length = cs.length + 1 ∧ ks[cs.length]? = some ⟨⟨-4711, 0, []⟩, .slice none 0 0⟩ ∧ (∀ j c, cs[j]? = some c → RoomAt w' c j ks) ∧ Below w.heap.size w w' := by
  obtain ⟨lo, lc, rfl⟩ := hv.row.shape
  have HZ : Hid (cs.length ≤ 3518437208800) := hc.size
  have HX : Hid (∀ k (h1 : k < es.length), ∃ b1 o1 c L, lo = some ⟨b1, o1, none⟩ ∧ cs[k]? = some c ∧ c.args.length ≤ 17592186043904 ∧ (∃ ao cap, L = .slice ao c.args.length cap) ∧ ∀ u, Below w.heap.size w u → (u.cell? ⟨b1, o1 + k * 3, none⟩ = some (.int .i64 c.site) ∧ u.cell? ⟨b1, o1 + k * 3 + 1, none⟩ = some (.int .i64 c.fn) ∧ u.cell? ⟨b1, o1 + k * 3 + 2, none⟩ = some L) ∧ ILies u L c.args) := fun k h1 => by
    obtain ⟨b1, o1, c1, e1, x0, x1, x2⟩ := hv.row.at h1
    cases e1
    have h2 : k < cs.length := by rw [← hv.len]; exact h1
    have h3 := hv.one h1 h2
    have hl := hv.lies es[k] (List.getElem_mem h1)
    rw [h3] at x0 x1 hl
    have hs := (hc.each cs[k] (List.getElem_mem h2)).sz
    exact ⟨b1, o1, cs[k], es[k].L, rfl, List.getElem?_eq_getElem h2, by omega, hl.shape, fun u hb => ⟨⟨by rw [hb.cell (World.block_lt_of_cell? _ _ x0)]; exact x0, by rw [hb.cell (World.block_lt_of_cell? _ _ x1)]; exact x1, by rw [hb.cell (World.block_lt_of_cell? _ _ x2)]; exact x2⟩, hl.below hb (Nat.le_refl _)⟩⟩
  have hle := hv.len
  rw [← hle] at HZ ⊢
  have HLE : Hid (es.length = cs.length) := hle
  have hz := HZ.out
  clear hv hc hle
  obtain ⟨i0, hi, hz0, hz1, hz2⟩ := info_parts Try.infoCallC
  have hmk : ∀ u : World, (Instr.makeSlice 22 (.int .i64 ((es.length : Int) + 1)) (.int .i64 ((es.length : Int) + 1))).run Try.prog u =
      .ok (.slice (some ⟨u.heap.size, 0, none⟩) (es.length + 1) (es.length + 1)) (u.alloc (.cells (ccells (List.replicate (es.length + 1) zeroE)).toArray 25)) := fun u => by
    have h := run_make (P := Try.prog) u 22 25 i0 (.agg #[.int .i64 0, .int .i64 0, .slice none 0 0]) Try.underlying22 hi hz0 .i64 .i64 ((es.length : Int) + 1) ((es.length : Int) + 1) (by omega) (by omega) (by rw [hz2]; omega) (by omega)
    rw [show ((es.length : Int) + 1).toNat = es.length + 1 by omega] at h
    rw [← made_zero]
    simpa [hz1, Value.cells] using h
  have HNEW : Hid (MA w.heap.size (List.replicate (es.length + 1) zeroE) (w.alloc (.cells (ccells (List.replicate (es.length + 1) zeroE)).toArray 25))) := by
    show (w.heap.push _)[w.heap.size]? = _
    exact Array.getElem?_push_size
  go_enter Try.func8, Try.ntmps8
  go_wp2_with fail
  go_loopw [4] (fun i wr => ∃ (k : Nat) (ks : List Ce), k ≤ es.length ∧ i = .int .i64 k ∧ Hid (MA w.heap.size ks wr) ∧ Hid (ks.length = es.length + 1) ∧ Hid (∀ j c, j < k → cs[j]? = some c → RoomAt wr c j ks) ∧ Hid (Below w.heap.size w wr)) (fun i _ => es.length - (intOf i).toNat)
  case atStart => exact ⟨0, _, Nat.zero_le _, rfl, HNEW.out, List.length_replicate .., (fun j c hj => by omega), (Below.refl _ _).alloc (Nat.le_refl _) _⟩
  case round =>
    obtain ⟨k, ks, hk, rfl, HMA, HKL, HRM, HB⟩ := hrel
    by_cases hlt : k < es.length
    · obtain ⟨b1, o1, ⟨st, fnn, ag⟩, L0, rfl, hck, hag, ⟨lo2, lc2, rfl⟩, hx⟩ := HX.out k hlt
      obtain ⟨⟨x0, x1, x2⟩, hil⟩ := hx wr HB.out
      obtain ⟨e0, he0⟩ : ∃ e0, ks[k]? = some e0 := ⟨_, List.getElem?_eq_getElem (by rw [HKL.out]; omega)⟩
      obtain ⟨⟨c0, c1, c2⟩, f0, f1, f2⟩ := HMA.out.cells he0
      have hlt2 : (k : Int) < (es.length : Int) := by omega
      have hlt3 : (k : Int) < (es.length : Int) + 1 := by omega
      have HM1 : Hid (MA w.heap.size (ks.set k ⟨⟨st, fnn, ag⟩, .slice lo2 ag.length lc2⟩) (((wr.setCell ⟨w.heap.size, k * 3, none⟩ (.int .i64 st)).setCell ⟨w.heap.size, k * 3 + 1, none⟩ (.int .i64 fnn)).setCell ⟨w.heap.size, k * 3 + 2, none⟩ (.slice lo2 ag.length lc2))) := HMA.out.put (c := ⟨st, fnn, ag⟩) (by rw [HKL.out]; omega)
      have HB1 : Hid (Below w.heap.size w (((wr.setCell ⟨w.heap.size, k * 3, none⟩ (.int .i64 st)).setCell ⟨w.heap.size, k * 3 + 1, none⟩ (.int .i64 fnn)).setCell ⟨w.heap.size, k * 3 + 2, none⟩ (.slice lo2 ag.length lc2))) := ((HB.out.setCell (Nat.le_refl _) _).setCell (Nat.le_refl _) _).setCell (Nat.le_refl _) _
      obtain ⟨⟨y0, y1, y2⟩, hil2⟩ := hx _ HB1.out
      have HRY : Hid _ := own_roomy ag (.slice lo2 ag.length lc2) (((wr.setCell ⟨w.heap.size, k * 3, none⟩ (.int .i64 st)).setCell ⟨w.heap.size, k * 3 + 1, none⟩ (.int .i64 fnn)).setCell ⟨w.heap.size, k * 3 + 2, none⟩ (.slice lo2 ag.length lc2)) hil2 hag
      have HCK : Hid (cs[k]? = some ⟨st, fnn, ag⟩) := hck
      have hbl : b1 < w.heap.size := World.block_lt_of_cell? _ _ (hx w (Below.refl _ _)).1.1
      have hbn : ¬ b1 = w.heap.size := by omega
      clear hx hil hil2 hck he0
      go_wp2_with fail
      refine Calls.mono HRY.out ?_
      rintro r u1 ⟨rfl, hroom, b2⟩
      have hm2 := HM1.out.below b2
      have hk1 : (ks.set k (⟨⟨st, fnn, ag⟩, .slice lo2 ag.length lc2⟩ : Ce))[k]? = some ⟨⟨st, fnn, ag⟩, .slice lo2 ag.length lc2⟩ := List.getElem?_set_self (by rw [HKL.out]; omega)
      obtain ⟨⟨d0, d1, d2⟩, g0, g1, g2⟩ := hm2.cells hk1
      obtain ⟨gg, hgg⟩ : ∃ gg, (((wr.setCell ⟨w.heap.size, k * 3, none⟩ (.int .i64 st)).setCell ⟨w.heap.size, k * 3 + 1, none⟩ (.int .i64 fnn)).setCell ⟨w.heap.size, k * 3 + 2, none⟩ (.slice lo2 ag.length lc2)).heap.size = gg := ⟨_, rfl⟩
      rw [hgg] at hroom ⊢
      have HM3 : Hid (MA w.heap.size (ks.set k ⟨⟨st, fnn, ag⟩, .slice (some ⟨gg, 0, none⟩) ag.length (ag.length + 2)⟩) (u1.setCell ⟨w.heap.size, k * 3 + 2, none⟩ (.slice (some ⟨gg, 0, none⟩) ag.length (ag.length + 2)))) := by
        have := hm2.last hk1 (.slice (some ⟨gg, 0, none⟩) ag.length (ag.length + 2))
        rw [List.set_set] at this
        exact this
      have HB3 : Hid (Below w.heap.size w (u1.setCell ⟨w.heap.size, k * 3 + 2, none⟩ (.slice (some ⟨gg, 0, none⟩) ag.length (ag.length + 2)))) := (HB1.out.trans (b2.mono HB1.out.size)).setCell (Nat.le_refl _) _
      have HRM3 : Hid (∀ j c, j < k + 1 → cs[j]? = some c → RoomAt (u1.setCell ⟨w.heap.size, k * 3 + 2, none⟩ (.slice (some ⟨gg, 0, none⟩) ag.length (ag.length + 2))) c j (ks.set k ⟨⟨st, fnn, ag⟩, .slice (some ⟨gg, 0, none⟩) ag.length (ag.length + 2)⟩)) := fun j c hj hc => by
        rcases Nat.lt_or_ge j k with h | h
        · refine (HRM.out j c h hc).keep (List.getElem?_set_ne (by omega)) (fun g l hr => ?_)
          have a1 := room_set (j := k * 3) (v := .int .i64 st) HMA.out g l hr
          have m1 : CAny w.heap.size (wr.setCell ⟨w.heap.size, k * 3, none⟩ (.int .i64 st)) := HMA.out.any.set
          have a2 := room_any (j := k * 3 + 1) (v := .int .i64 fnn) m1 g l a1
          have a3 := room_any (j := k * 3 + 2) (v := .slice lo2 ag.length lc2) m1.set g l a2
          exact room_set (j := k * 3 + 2) (v := .slice (some ⟨gg, 0, none⟩) ag.length (ag.length + 2)) hm2 g l (room_below b2 g l a3)
        · have : j = k := by omega
          subst this
          rw [HCK.out] at hc; cases hc
          exact ⟨gg, List.getElem?_set_self (by rw [HKL.out]; omega), room_set (j := j * 3 + 2) (v := .slice (some ⟨gg, 0, none⟩) ag.length (ag.length + 2)) hm2 _ _ hroom⟩
      clear hm2 hroom b2 hk1 hgg
      go_wp2_with fail
      go_roundw
      case rel => exact ⟨k + 1, _, by omega, by go_num, HM3.out, by rw [List.length_set]; exact HKL.out, HRM3.out, HB3.out⟩
      case measure => simp [intOf]; omega
    · have hkn : k = es.length := by omega
      subst hkn
      have hlt2 : ¬ (es.length : Int) < (es.length : Int) := by omega
      have hlt3 : (es.length : Int) < (es.length : Int) + 1 := by omega
      obtain ⟨e0, he0⟩ : ∃ e0, ks[es.length]? = some e0 := ⟨_, List.getElem?_eq_getElem (by rw [HKL.out]; omega)⟩
      obtain ⟨⟨c0, c1, c2⟩, f0, f1, f2⟩ := HMA.out.cells he0
      have HM1 : Hid (MA w.heap.size (ks.set es.length ⟨⟨-4711, 0, []⟩, .slice none 0 0⟩) (((wr.setCell ⟨w.heap.size, es.length * 3, none⟩ (.int .i64 (-4711))).setCell ⟨w.heap.size, es.length * 3 + 1, none⟩ (.int .i64 0)).setCell ⟨w.heap.size, es.length * 3 + 2, none⟩ (.slice none 0 0))) := HMA.out.put (c := ⟨-4711, 0, []⟩) (by rw [HKL.out]; omega)
      have HRM3 : Hid (∀ j c, cs[j]? = some c → RoomAt (((wr.setCell ⟨w.heap.size, es.length * 3, none⟩ (.int .i64 (-4711))).setCell ⟨w.heap.size, es.length * 3 + 1, none⟩ (.int .i64 0)).setCell ⟨w.heap.size, es.length * 3 + 2, none⟩ (.slice none 0 0)) c j (ks.set es.length ⟨⟨-4711, 0, []⟩, .slice none 0 0⟩)) := fun j c hc => by
        have hj : j < es.length := by rw [HLE.out]; exact (List.getElem?_eq_some_iff.1 hc).1
        refine (HRM.out j c hj hc).keep (List.getElem?_set_ne (by omega)) (fun g l hr => ?_)
        have a1 := room_set (j := es.length * 3) (v := .int .i64 (-4711)) HMA.out g l hr
        have m1 : CAny w.heap.size (wr.setCell ⟨w.heap.size, es.length * 3, none⟩ (.int .i64 (-4711))) := HMA.out.any.set
        have a2 := room_any (j := es.length * 3 + 1) (v := .int .i64 0) m1 g l a1
        exact room_any (j := es.length * 3 + 2) (v := .slice none 0 0) m1.set g l a2
      have HB3 : Hid (Below w.heap.size w (((wr.setCell ⟨w.heap.size, es.length * 3, none⟩ (.int .i64 (-4711))).setCell ⟨w.heap.size, es.length * 3 + 1, none⟩ (.int .i64 0)).setCell ⟨w.heap.size, es.length * 3 + 2, none⟩ (.slice none 0 0))) := ((HB.out.setCell (Nat.le_refl _) _).setCell (Nat.le_refl _) _).setCell (Nat.le_refl _) _
      have HKS : Hid ((ks.set es.length (⟨⟨-4711, 0, []⟩, .slice none 0 0⟩ : Ce))[es.length]? = some ⟨⟨-4711, 0, []⟩, .slice none 0 0⟩) := List.getElem?_set_self (by rw [HKL.out]; omega)
      clear he0
      go_wp2_with fail
      go_ret
      exact ⟨rfl, _, HM1.out, by rw [List.length_set]; exact HKL.out, HKS.out, HRM3.out, HB3.out⟩
end Go.Proofs.Ytiaoidbhdkldlab
