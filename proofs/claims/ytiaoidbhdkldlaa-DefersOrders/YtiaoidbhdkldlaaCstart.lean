/- The order of kept calls, by the reference. -/
import Derived.Test.YtiaoidbhdkldlaaCbitw
import Derived.BigQuiet
import Derived.Deep.QuietTactic
namespace Go.Proofs.Ytiaoidbhdkldlaa
open Go.ChangeShapes Go.WideShapes Go.ChangeAt Go.RowKit
set_option maxRecDepth 100000
set_option linter.unusedSimpArgs false
set_option linter.unusedVariables false
set_option maxHeartbeats 1000000 in
theorem own_order1 (v : Value) (es : List Ce) (cs : List Cc) (w : World) (hv : CSrc w v es cs) (hc : COk cs) :
    Calls Try.prog 20 #[.bool true, v] w fun e w' => ((Rise cs cs.length ∧ ∃ v' ms, e = .returned (.tuple #[v', .int .i64 0]) ∧ CRow w.heap.size w' v' ms cs.reverse) ∨ (¬ Rise cs cs.length ∧ e = .returned (.tuple #[.slice none 0 0, .int .i64 14]))) ∧ Below w.heap.size w w' := by
  have HV : Hid (CSrc w v es cs) := hv
  obtain ⟨lo, lc, rfl⟩ := hv.row.shape
  clear hv
  go_enter Try.func20, Try.ntmps20
  go_wp2_with fail
  refine (own_bits _ _ _ _ HV.out hc).mono ?_
  rintro e u1 ⟨h | h, b1⟩
  · obtain ⟨hr, V1, M1, rfl, q1⟩ := h
    have HR : Hid (Rise cs cs.length) := hr
    clear hr
    go_wp2_with fail
    go_ret2
    exact ⟨.inl ⟨HR.out, _, M1, rfl, q1.up (by omega)⟩, b1⟩
  · obtain ⟨hr, rfl⟩ := h
    have HR : Hid (¬ Rise cs cs.length) := hr
    clear hr
    go_wp2_with fail
    go_ret2
    exact ⟨.inr ⟨HR.out, rfl⟩, b1⟩
theorem below_dn' (w : World) (n : Nat) : Below w.heap.size w (w.drewN n) := ⟨rfl, rfl, rfl, Nat.le_refl _, fun _ _ => rfl⟩
theorem drop_reve {es : List Ce} {i : Nat} (h : i < es.length) : (es.drop (i + 1)).reverse ++ [es[i]] = (es.drop i).reverse := by
  rw [List.drop_eq_getElem_cons h, List.reverse_cons]
set_option maxHeartbeats 1000000 in
theorem ref_started (o : Bool) (v : Value) (es : List Ce) (cs : List Cc) (w : World) (hv : CSrc w v es cs) (hz : cs.length ≤ 3518437208800) :
    Calls Try.prog 21 #[.bool o, v] w fun e w' => (((o = true → Rise cs cs.length) ∧ ∃ v' ms, e = .returned (.tuple #[v', .int .i64 0]) ∧ CSrc w' v' ms cs.reverse) ∨ (o = true ∧ ¬ Rise cs cs.length ∧ e = .returned (.tuple #[.slice none 0 0, .int .i64 14]))) ∧ Below w.heap.size w w' := by
  obtain ⟨lo, lc, rfl⟩ := hv.row.shape
  have hsz : es.length ≤ 3518437208800 := by rw [hv.len]; exact hz
  have HX : Hid (∀ k (h1 : k < es.length), ∃ b1 o1 c, lo = some ⟨b1, o1, none⟩ ∧ cs[k]? = some c ∧ es[k].x = c ∧ ∀ u, Below w.heap.size w u → (u.cell? ⟨b1, o1 + k * 3, none⟩ = some (.int .i64 c.site) ∧ u.cell? ⟨b1, o1 + k * 3 + 1, none⟩ = some (.int .i64 c.fn) ∧ u.cell? ⟨b1, o1 + k * 3 + 2, none⟩ = some es[k].L)) := fun k h1 => by
    obtain ⟨b1, o1, c1, e1, x0, x1, x2⟩ := hv.row.at h1
    cases e1
    have h2 : k < cs.length := by rw [← hv.len]; exact h1
    have h3 := hv.one h1 h2
    rw [h3] at x0 x1
    exact ⟨b1, o1, cs[k], rfl, List.getElem?_eq_getElem h2, h3, fun u hb => ⟨by rw [hb.cell (World.block_lt_of_cell? _ _ x0)]; exact x0, by rw [hb.cell (World.block_lt_of_cell? _ _ x1)]; exact x1, by rw [hb.cell (World.block_lt_of_cell? _ _ x2)]; exact x2⟩⟩
  have HSH : Hid (∀ k (h1 : k < es.length), ∃ ao cap, es[k].L = .slice ao es[k].x.args.length cap) := fun k h1 => (hv.lies es[k] (List.getElem_mem h1)).shape
  have HLE : Hid (es.length = cs.length) := hv.len
  have HEND : Hid (∀ u v', Below w.heap.size w u → u.ownsRow w.heap.size 25 3 v' es.length (ccells es.reverse) → CSrc u v' es.reverse cs.reverse) := fun u v' hb hr => by
    refine ⟨lies_of_row (by rw [List.length_reverse]; exact hr), fun e he => (hv.lies e (List.mem_reverse.1 he)).below hb (Nat.le_refl _), by rw [List.map_reverse, hv.xs]⟩
  clear hv
  obtain ⟨i0, hi, hz0, hz1, hz2⟩ := info_parts Try.infoCallC
  go_enter Try.func21, Try.ntmps21
  go_wp2_with fail
  go_loopw [12] (fun i wr => ∃ k : Nat, k ≤ es.length ∧ i = .int .i64 k ∧ Hid (o = true → Rise cs k) ∧ Hid (Below w.heap.size w wr)) (fun i _ => es.length - (intOf i).toNat)
  case atStart => exact ⟨0, Nat.zero_le _, rfl, fun _ => Rise.zero _, Below.refl _ _⟩
  case round =>
    obtain ⟨k, hk, rfl, HR, HB⟩ := hrel
    by_cases hlt : k < es.length
    · obtain ⟨b1, o1, ⟨st, fnn, ag⟩, rfl, hck, -, hx⟩ := HX.out k hlt
      obtain ⟨x0, x1, x2⟩ := hx wr HB.out
      obtain ⟨ao, ac, hL⟩ := HSH.out k hlt
      rw [hL] at x2
      have hlt2 : (k : Int) < (es.length : Int) := by omega
      have HCK : Hid (cs[k]? = some ⟨st, fnn, ag⟩) := hck
      have HMEET : Hid (k < cs.length) := by rw [← HLE.out]; exact hlt
      clear hx hck hL
      generalize es[k].x.args.length = agl at *
      obtain ⟨wq, hwq⟩ : ∃ x, wr = x := ⟨_, rfl⟩
      subst hwq
      cases o with
      | false =>
        go_wp2_with fail
        go_quiet (fail)
        go_wp2_with fail
        go_roundw
        case rel => exact ⟨k + 1, by omega, by go_num, (fun h => by cases h), HB.out.trans ((below_up (below_dn' _ _)).mono HB.out.size)⟩
        case measure => simp [intOf]; omega
      | true =>
        by_cases h0 : st < 0
        · have HNR : Hid (¬ Rise cs cs.length) := not_rise (fun hr => by have := (hr k _ (by omega) HCK.out).1; simp only at this; omega) HMEET.out
          go_wp2_with fail
          go_quiet (fail)
          go_wp2_with fail
          go_ret2
          exact ⟨.inr ⟨HNR.out, rfl⟩, HB.out.trans ((below_up (below_dn' _ _)).mono HB.out.size)⟩
        · have h1 : decide (st < 0) = false := decide_eq_false h0
          by_cases h7 : 7 < st
          · have HNR : Hid (¬ Rise cs cs.length) := not_rise (fun hr => by have := (hr k _ (by omega) HCK.out).2.1; simp only at this; omega) HMEET.out
            go_wp2_with fail
            go_quiet (fail)
            go_wp2_with fail
            go_ret2
            exact ⟨.inr ⟨HNR.out, rfl⟩, HB.out.trans ((below_up (below_dn' _ _)).mono HB.out.size)⟩
          · have h2 : decide (7 < st) = false := decide_eq_false h7
            have HRK : Hid (Rise cs k) := HR.out rfl
            have HB0 : Hid (0 ≤ st) := by show 0 ≤ st; omega
            have HB8 : Hid (st < 8) := by show st < 8; omega
            by_cases hk0 : k = 0
            · subst hk0
              simp only [Nat.zero_mul, Nat.add_zero] at x0 x1 x2
              have HR2 : Hid (Rise cs (0 + 1)) := HRK.out.more HCK.out HB0.out HB8.out (fun p hp => by omega)
              clear h0 h7
              go_wp2_with fail
              go_quiet (fail)
              go_wp2_with fail
              go_roundw
              case rel => exact ⟨0 + 1, by omega, by go_num, (fun _ => HR2.out), HB.out.trans ((below_up (below_dn' _ _)).mono HB.out.size)⟩
              case measure => simp [intOf]; omega
            · obtain ⟨j, hj⟩ : ∃ j : Nat, k = j + 1 := ⟨k - 1, by omega⟩
              obtain ⟨b2, o2, ⟨pt, pfn, pag⟩, hlo, hcp, -, hxp⟩ := HX.out j (by omega)
              cases hlo
              obtain ⟨y0, y1, y2⟩ := hxp wr HB.out
              have hbl : b1 < wr.heap.size := by have := World.block_lt_of_cell? _ _ y0; exact this
              have hbn : ¬ b1 = wr.heap.size := by omega
              obtain ⟨z0, -, -⟩ := hxp (wr.alloc (.cells #[.int .i64 st, .int .i64 fnn, .slice ao agl ac] 25)) (HB.out.alloc HB.out.size _)
              have HCP : Hid (cs[j]? = some ⟨pt, pfn, pag⟩) := hcp
              have HJK : Hid (k = j + 1) := hj
              have hjk : 0 < k := by omega
              have hji : (k : Int) - 1 = (j : Int) := by omega
              have hwj : IntKind.i64.wrap (j : Int) = (j : Int) := by rw [IntKind.wrap_i64]; omega
              have hjl : (j : Int) < (es.length : Int) := by omega
              clear h0 h7 hxp hcp y1 y2 hk0 hj
              by_cases hp : st ≤ pt
              · have HNR : Hid (¬ Rise cs cs.length) := not_rise (fun hr => by have := (hr k _ (by omega) HCK.out).2.2 _ (by have := HJK.out; omega) (by rw [HJK.out, Nat.add_sub_cancel]; exact HCP.out); simp only at this; omega) HMEET.out
                go_wp2_with fail
                go_quiet (fail)
                go_wp2_with fail
                go_ret2
                exact ⟨.inr ⟨HNR.out, rfl⟩, HB.out.trans ((below_up (below_dn' _ _)).mono HB.out.size)⟩
              · have hp2 : decide (st ≤ pt) = false := decide_eq_false hp
                have HR2 : Hid (Rise cs (k + 1)) := HRK.out.more HCK.out HB0.out HB8.out (fun q _ hq => by rw [HJK.out, Nat.add_sub_cancel] at hq; rw [HCP.out] at hq; cases hq; simp only; omega)
                clear hp
                go_wp2_with fail
                go_quiet (fail)
                go_wp2_with fail
                go_roundw
                case rel => exact ⟨k + 1, by omega, by go_num, (fun _ => HR2.out), HB.out.trans ((below_up (below_dn' _ _)).mono HB.out.size)⟩
                case measure => simp [intOf]; omega
    · have hkn : k = es.length := by omega
      subst hkn
      have hlt2 : ¬ (es.length : Int) < (es.length : Int) := by omega
      have HR2 : Hid (o = true → Rise cs cs.length) := by have := HR.out; rw [HLE.out] at this; exact this
      clear HR hk hlt
      obtain ⟨wq, hwq⟩ : ∃ x, wr = x := ⟨_, rfl⟩
      subst hwq
      go_wp2_with fail
      go_loopw [8, 9] (fun s8 s9 wr => ∃ j : Nat, j ≤ es.length ∧ s9 = .int .i64 ((j : Int) - 1) ∧ Hid (wr.ownsRow w.heap.size 25 3 s8 (es.drop j).reverse.length (ccells (es.drop j).reverse)) ∧ Hid (Below w.heap.size w wr)) (fun _ s9 _ => (intOf s9 + 1).toNat)
      case atStart => exact ⟨es.length, Nat.le_refl _, by go_num, by rw [List.drop_length]; exact World.ownsRow_nil _ _ _ _, HB.out⟩
      case round =>
        obtain ⟨j, hj, rfl, HRW, HB⟩ := hrel
        cases j with
        | zero =>
          go_wp2_with fail
          go_ret2
          exact ⟨.inl ⟨HR2.out, _, es.reverse, rfl, HEND.out _ _ HB.out (by have := HRW.out; rw [List.drop_zero, List.length_reverse] at this; exact this)⟩, HB.out⟩
        | succ i =>
          obtain ⟨b1, o1, c, rfl, -, hxc, hx⟩ := HX.out i (by omega)
          obtain ⟨x0, x1, x2⟩ := hx wr HB.out
          obtain ⟨ao, ac, hL⟩ := HSH.out i (by omega)
          have HREV : Hid ((es.drop (i + 1)).reverse ++ [es[i]] = (es.drop i).reverse) := drop_reve (by omega)
          have hrl : (es.drop (i + 1)).reverse.length = es.length - (i + 1) := by simp
          have HRW2 : Hid _ := HRW.out
          have HEE : Hid (es[i] = ⟨c, .slice ao c.args.length ac⟩) := by
            have h1 := hL
            rw [hxc] at h1
            have h2 : es[i] = ⟨es[i].x, es[i].L⟩ := rfl
            rw [h2, hxc, h1]; exact rfl
          rw [hL, hxc] at x2
          have hil : (i : Int) < (es.length : Int) := by omega
          have hi0 : (0 : Int) ≤ (i : Int) := by omega
          rw [hrl] at HRW
          obtain ⟨mo, mc, hmv⟩ := row_slice HRW.out
          subst hmv
          have HJ : Hid (i + 1 ≤ es.length) := hj
          have HWZ : Hid (w.heap.size ≤ wr.heap.size) := HB.out.size
          clear hx hxc hL hrl
          obtain ⟨wq, hwq⟩ : ∃ x, wr = x := ⟨_, rfl⟩
          subst hwq
          rw [show (((i + 1 : Nat) : Int) - 1) = (i : Int) by omega]
          go_wp2_with (at_builtin
                       refine wpList_append_own _ rfl _ _ 22 rfl w.heap.size 25 i0 _ 3 40 Try.underlying22 hi hz0 hz1 hz2 rfl (by decide) _ _ _ rfl (World.ownsRow.alloc HRW.out _) ⟨wr.heap.size, 0, none⟩ 1 1 (Ce.cells ⟨c, .slice ao c.args.length ac⟩) rfl rfl ccells_new ccells_one (by unfold maxLen; omega) (by omega) (by have := HWZ.out; simp; omega) ?_
                       intro v' w3 hown hgrow hnil
                       have HR3 : Hid (w3.ownsRow w.heap.size 25 3 v' (es.drop i).reverse.length (ccells (es.drop i).reverse)) := by
                         rw [← HREV.out, List.length_append, HEE.out, show ccells ((es.drop (i + 1)).reverse ++ [⟨c, .slice ao c.args.length ac⟩]) = ccells (es.drop (i + 1)).reverse ++ Ce.cells ⟨c, .slice ao c.args.length ac⟩ by simp [ccells]]
                         rw [show (es.drop (i + 1)).reverse.length = es.length - (i + 1) by simp]
                         exact hown
                       have HB3 : Hid (Below w.heap.size w w3) := (HB.out.alloc HWZ.out _).grown hgrow (by have := HWZ.out; simp; omega) (fun q hq => (HRW.out.lt q hq).1)
                       clear hown hgrow hnil)
          go_roundw
          case rel => exact ⟨i, by have := HJ.out; omega, by go_num, HR3.out, HB3.out⟩
          case measure => first | (simp [intOf]; done) | (simp [intOf]; omega)
end Go.Proofs.Ytiaoidbhdkldlaa
