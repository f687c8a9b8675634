/- Copies of calls. -/
import Derived.Test.YtiaoidbhdkldlabCcame
namespace Go.Proofs.Ytiaoidbhdkldlab
open Go.ChangeShapes Go.WideShapes Go.ChangeAt Go.RowKit
set_option maxRecDepth 100000
set_option linter.unusedSimpArgs false
set_option linter.unusedVariables false

theorem own_copyCall (x : Cc) (L : Value) (w : World) (hs : x.args.length * 8 ≤ 140737488355328) (hm : ILies w L x.args) :
    Calls Try.prog 25 #[cval x L] w fun e w' => ∃ L', e = .returned (cval x L') ∧ IOwn w.heap.size w' L' x.args ∧ Below w.heap.size w w' := by
  have HC : Hid (∀ o1 o2, ILies ((w.alloc o1).alloc o2) L x.args) := fun o1 o2 => hm.below (((Below.refl _ _).alloc (Nat.le_refl _) _).alloc (by simp) _) (Nat.le_refl _)
  have HN : Hid (x.args.length * 8 ≤ 140737488355328) := hs
  unfold cval
  go_enter Try.func25, Try.ntmps25
  go_wp2_with (at_builtin; refine icopy rfl _ _ rfl rfl rfl (HC.out _ _) HN.out (w.heap.size + 2) (by simp) ?_; intro v' w1 hown hb1; obtain ⟨ao, cap, rfl⟩ := hown.shape; have HO : Hid (IOwn (w.heap.size + 2) w1 (.slice ao x.args.length cap) x.args) := hown; clear hown; obtain ⟨hh1, hh2, hz, hb2⟩ := two_boxes hb1; obtain ⟨⟨c0, c1, c2⟩, f0, f1, f2⟩ := box3 hh1; obtain ⟨⟨d0, d1, d2⟩, g0, g1, g2⟩ := box3 hh2; have HB : Hid _ := hb2; clear hb1 hb2 hh1 hh2)
  refine bodyPost_ret (v := cval x (.slice ao x.args.length cap)) (by simp [cval, results, Try.results25, go_sem, c0, c1, c2, d0, d1, d2]) rfl ⟨_, rfl, ?_, ?_⟩
  · refine IOwn.up (B := w.heap.size + 2) ?_ (by omega)
    exact ownsRow_setCell_below (ownsRow_setCell_below (ownsRow_setCell_below (ownsRow_setCell_below HO.out (by simp) _) (by simp) _) (by simp) _) (by simp) _
  · exact (((HB.out.setCell (Nat.le_refl _) _).setCell (by simp) _).setCell (by simp) _).setCell (by simp) _
theorem list_take {α : Type} (l : List α) (k : Nat) (h : k < l.length) : l.take (k + 1) = l.take k ++ [l[k]] := List.take_succ_eq_append_getElem h
theorem step_box {wr w1 : World} {o : Obj} {c : Value} {o2 : Obj} (hb : Below (wr.alloc o).heap.size (wr.alloc o) w1) : Below wr.heap.size wr ((w1.setCell ⟨wr.heap.size, 2, none⟩ c).alloc o2) := by
  have h1 := (one_box hb).2.2
  have h2 := hb.size
  simp at h2
  exact (h1.setCell (Nat.le_refl _) _).alloc (by simp; omega) _
theorem ccells_new2 {w : World} {p : Addr} {c : Value} {x : Cc} {L : Value} : ∀ (j : Nat) u, (Ce.cells ⟨x, L⟩)[j]? = some u → ((w.setCell p c).alloc (.cells #[.int .i64 x.site, .int .i64 x.fn, L] 25)).cell? ((⟨w.heap.size, 0, none⟩ : Addr).add j) = some u := by
  intro j u hu
  have := ccells_new (w := w.setCell p c) (x := x) (L := L) j u hu
  rwa [show (w.setCell p c).heap.size = w.heap.size by simp] at this
set_option maxHeartbeats 4000000 in
theorem own_calls (v : Value) (es : List Ce) (cs : List Cc) (w : World) (hv : CSrc w v es cs) (hc : COk cs) :
    Calls Try.prog 18 #[v] w fun e w' => ∃ v' ms, e = .returned v' ∧ CRow w.heap.size w' v' ms cs ∧ Below w.heap.size w w' := by
  obtain ⟨lo, lc, rfl⟩ := hv.row.shape
  have hsz : es.length ≤ 3518437208800 := by rw [hv.len]; exact hc.size
  have HX : Hid (∀ k (h1 : k < es.length), ∃ b1 o1, lo = some ⟨b1, o1, none⟩ ∧ ∀ u, Below w.heap.size w u → u.cell? ⟨b1, o1 + k * 3, none⟩ = some (.int .i64 es[k].x.site) ∧ u.cell? ⟨b1, o1 + k * 3 + 1, none⟩ = some (.int .i64 es[k].x.fn) ∧ u.cell? ⟨b1, o1 + k * 3 + 2, none⟩ = some es[k].L) := fun k h1 => by
    obtain ⟨b1, o1, c1, e1, x0, x1, x2⟩ := hv.row.at h1
    cases e1
    exact ⟨b1, o1, rfl, fun u hb => ⟨by rw [hb.cell (World.block_lt_of_cell? _ _ x0)]; exact x0, by rw [hb.cell (World.block_lt_of_cell? _ _ x1)]; exact x1, by rw [hb.cell (World.block_lt_of_cell? _ _ x2)]; exact x2⟩⟩
  have HL : Hid (∀ k (h1 : k < es.length) u, Below w.heap.size w u → ILies u es[k].L es[k].x.args) := fun k h1 u hb => (hv.lies es[k] (List.getElem_mem h1)).below hb (Nat.le_refl _)
  have HSZ : Hid (∀ k (h1 : k < es.length), es[k].x.args.length * 8 ≤ 140737488355328 ∧ cs.take (k + 1) = cs.take k ++ [es[k].x]) := fun k h1 => by
    have h2 : k < cs.length := by rw [← hv.len]; exact h1
    have h3 := hv.one h1 h2
    refine ⟨?_, by rw [list_take _ _ h2, h3]⟩
    have := (hc.each cs[k] (List.getElem_mem h2)).sz
    rw [h3]; omega
  have HLE : Hid (es.length = cs.length) := hv.len
  clear hv hc
  obtain ⟨i0, hi, hz0, hz1, hz2⟩ := info_parts Try.infoCallC
  go_enter Try.func18, Try.ntmps18
  go_wp2_with fail
  go_loopw [3, 4] (fun mv i wr => ∃ (k : Nat) (ms : List Ce), k ≤ es.length ∧ i = .int .i64 k ∧ Hid (CRow w.heap.size wr mv ms (cs.take k)) ∧ Hid (Below w.heap.size w wr)) (fun _ i _ => es.length - (intOf i).toNat)
  case atStart => exact ⟨0, [], Nat.zero_le _, rfl, CRow.nil _ _, Below.refl _ _⟩
  case round =>
    obtain ⟨k, ms, hk, rfl, HBL, HB⟩ := hrel
    have hml : ms.length = k := by
      have := HBL.out.len
      rw [List.length_take, ← HLE.out] at this
      omega
    obtain ⟨mo, mc, hmv⟩ := row_slice HBL.out.row
    subst hmv
    by_cases hlt : k < es.length
    · obtain ⟨b1, o1, rfl, hx⟩ := HX.out k hlt
      obtain ⟨x0, x1, x2⟩ := hx wr HB.out
      have hlt2 : (k : Int) < (es.length : Int) := by omega
      have HI : Hid (∀ o, ILies (wr.alloc o) es[k].L es[k].x.args) := fun o => (HL.out k hlt wr HB.out).below ((Below.refl _ _).alloc (Nat.le_refl _) _) (Nat.le_refl _)
      have HK : Hid _ := HSZ.out k hlt
      have HW : Hid (w.heap.size ≤ wr.heap.size) := HB.out.size
      clear hx
      obtain ⟨eo, ec, hes⟩ := (HL.out k hlt w (Below.refl _ _)).shape
      rw [hes] at x2 HI
      have HES : Hid (es[k].L = .slice eo es[k].x.args.length ec) := hes
      clear hes
      rw [hml]
      go_wp2_with (at_builtin; first
        | (refine icopy rfl _ _ rfl rfl rfl (HI.out _) HK.out.1 (wr.heap.size + 1) (by simp) ?_; intro v' w1 hown hb1; obtain ⟨ao, cap, rfl⟩ := hown.shape
           have HU : Hid (∀ o2, CRow w.heap.size ((w1.setCell ⟨wr.heap.size, 2, none⟩ (.slice ao es[k].x.args.length cap)).alloc o2) (.slice mo k mc) ms (cs.take k)) := fun o2 => by have := HBL.out.below (step_box (c := .slice ao es[k].x.args.length cap) (o2 := o2) hb1); rw [hml] at this; exact this
           have HO : Hid (∀ o2, IOwn w.heap.size ((w1.setCell ⟨wr.heap.size, 2, none⟩ (.slice ao es[k].x.args.length cap)).alloc o2) (.slice ao es[k].x.args.length cap) es[k].x.args) := fun o2 => (IOwn.below (ownsRow_setCell_below hown (by simp) _) ((Below.refl _ _).alloc (Nat.le_refl _) _)).up (by have := HW.out; omega)
           have HB3 : Hid (∀ o2, Below w.heap.size w ((w1.setCell ⟨wr.heap.size, 2, none⟩ (.slice ao es[k].x.args.length cap)).alloc o2)) := fun o2 => HB.out.trans ((step_box (c := .slice ao es[k].x.args.length cap) (o2 := o2) hb1).mono HW.out)
           obtain ⟨hh1, hz, hb2⟩ := one_box hb1
           have HZ : Hid (wr.heap.size < w1.heap.size) := hz
           obtain ⟨⟨c0, c1, c2⟩, f0, f1, f2⟩ := box3 hh1
           clear hb1 hb2 hh1 hown hz)
        | (refine wpList_append_own _ rfl _ _ 22 rfl w.heap.size 25 i0 _ 3 40 Try.underlying22 hi hz0 hz1 hz2 rfl (by decide) _ _ _ rfl (by have := (HU.out (.cells #[.int .i64 es[k].x.site, .int .i64 es[k].x.fn, .slice ao es[k].x.args.length cap] 25)).row; rw [hml] at this; exact this) ⟨w1.heap.size, 0, none⟩ 1 1 (Ce.cells ⟨es[k].x, .slice ao es[k].x.args.length cap⟩) rfl rfl ccells_new2 ccells_one (by unfold maxLen; omega) (by omega) (by have := HZ.out; have := HW.out; simp; omega) ?_
           intro v' w3 hown hgrow hnil
           obtain ⟨qo, qc, rfl⟩ := row_slice hown
           have HR : Hid (CRow w.heap.size w3 (.slice qo (k + 1) qc) (ms ++ [⟨es[k].x, .slice ao es[k].x.args.length cap⟩]) (cs.take (k + 1))) := by
             have := (HU.out _).push (by rw [hml]; exact hown) hgrow (HO.out _)
             rw [HK.out.2]
             exact this
           have HB4 : Hid (Below w.heap.size w w3) := (HB3.out _).grown hgrow (by have := HZ.out; have := HW.out; simp; omega) (fun q hq => (((HU.out (.cells #[.int .i64 es[k].x.site, .int .i64 es[k].x.fn, .slice ao es[k].x.args.length cap] 25)).row.lt q hq)).1)
           clear hown hgrow hnil))
      go_roundw
      case rel => exact ⟨k + 1, ms ++ [(⟨es[k].x, .slice ao es[k].x.args.length cap⟩ : Ce)], by omega, by go_num, HR.out, HB4.out⟩
      case measure => simp [intOf]; omega
    · have hkn : k = es.length := by omega
      subst hkn
      have hlt2 : ¬ (es.length : Int) < (es.length : Int) := by omega
      have HT : Hid (cs.take es.length = cs) := by rw [HLE.out]; exact List.take_length
      go_wp2_with fail
      go_ret
      exact ⟨_, rfl, ⟨ms, by have := HBL.out; rw [HT.out, hml] at this; exact this⟩, HB.out⟩
end Go.Proofs.Ytiaoidbhdkldlab
