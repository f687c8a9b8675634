/-
  For every list of calls that comes in whose places rise (made so), bits and records start the same calls in the same order: the law's function returns true.
-/
import Derived.Test.YtiaoidbhdkldlabCsite
import Derived.BigQuiet
import Derived.Deep.QuietTactic
namespace Go.Proofs.Ytiaoidbhdkldlab.defersSame
open Go.ChangeShapes Go.WideShapes Go.ChangeAt Go.RowKit
open Go.WideMaps Go.WideElems
open Go.ChangeMaps (open_string shut_string)
set_option linter.unusedVariables false
set_option linter.unusedSimpArgs false
set_option maxRecDepth 100000

theorem own : ownKnob Try.prog.godebug = none := by kernel_rfl

theorem below_dn' (w : World) (n : Nat) : Below w.heap.size w (w.drewN n) := ⟨rfl, rfl, rfl, Nat.le_refl _, fun _ _ => rfl⟩
theorem row_swap {B : Nat} {u : World} {v : Value} {ms : List Ce} {cs : List Cc} (h : CRow B u v ms cs) : CRow B u v ms cs := h
set_option maxHeartbeats 4000000 in
theorem walk (v0 : Value) (es0 : List Ce) (cs0 : List Cc) (w : World) (hv0 : CSrc w v0 es0 cs0) (hc0 : ∀ c ∈ cs0, CIn c) (hz0 : cs0.length ≤ 3518437208780) :
    Calls Try.prog 6 #[v0] w fun e w' => e = .returned (.bool true) ∧ Below w.heap.size w w' := by
  have hc : COk cs0 := ⟨hc0, by omega⟩
  have HLE : Hid (es0.length = cs0.length) := hv0.len
  have HV : Hid (CSrc w v0 es0 cs0) := hv0
  obtain ⟨vo, vc, rfl⟩ := hv0.row.shape
  have HX : Hid (∀ k (h1 : k < es0.length), ∃ b1 o1 st, vo = some ⟨b1, o1, none⟩ ∧ ∀ u, Below w.heap.size w u → u.cell? ⟨b1, o1 + k * 3, none⟩ = some (.int .i64 st)) := fun k h1 => by
    obtain ⟨b1, o1, c1, e1, x0, x1, x2⟩ := hv0.row.at h1
    cases e1
    exact ⟨b1, o1, es0[k].x.site, rfl, fun u hb => by rw [hb.cell (World.block_lt_of_cell? _ _ x0)]; exact x0⟩
  clear hv0
  by_cases hbig : 8 < es0.length
  · have hb2 : 8 < es0.length := hbig
    go_enter Try.func6, Try.ntmps6
    go_wp2_with fail
    refine (own_calls _ _ _ _ HV.out hc).mono ?_
    rintro e u1 ⟨V1, M1, rfl, q1, b1⟩
    have hM1 : M1.length = es0.length := by rw [q1.len, HLE.out]
    obtain ⟨mo, mc, hV1⟩ := row_slice q1.row
    rw [hM1] at hV1
    subst hV1
    have hmc : 8 ≤ mc := by
      rcases q1.row.2 with ⟨h0, h1⟩ | ⟨g, cap', cur, h1, h2, h3, h4, _⟩
      · omega
      · injection h1 with i1 i2 i3
        omega
    have HROW : Hid (CRow w.heap.size u1 (.slice mo 8 mc) (M1.take 8) (cs0.take 8)) := q1.take hM1 (by omega) (by omega)
    have HCI0 : Hid (∀ c ∈ cs0.take 8, CIn c) := fun c h => hc0 c (List.mem_of_mem_take h)
    have HCL0 : Hid ((cs0.take 8).length = 8) := by show _ = _; rw [List.length_take, ← HLE.out]; omega
    have HB1 : Hid (Below w.heap.size w u1) := b1
    have hb3 : (8 : Int) < (es0.length : Int) := by omega
    clear q1 b1 hM1
    go_wp2_with fail
    go_loopw [4] (fun s4 wr => ∃ (k : Nat) (ms : List Ce) (cs1 : List Cc), k ≤ 8 ∧ s4 = .int .i64 k ∧ Hid (CRow w.heap.size wr (.slice mo 8 mc) ms cs1) ∧ Hid (∀ c ∈ cs1, CIn c) ∧ Hid (cs1.length = 8) ∧ Hid (Rise cs1 k) ∧ Hid (Below w.heap.size w wr)) (fun i _ => 8 - (intOf i).toNat)
    case atStart => exact ⟨0, _, _, Nat.zero_le _, rfl, HROW.out, HCI0.out, HCL0.out, Rise.zero _, HB1.out⟩
    case round =>
      obtain ⟨k, ms, cs1, hk, rfl, HRW, HCI, HCL, HR, HB⟩ := hrel
      have hml : ms.length = 8 := by have := HRW.out.len; rw [HCL.out] at this; exact this
      by_cases hlt : k < 8
      · obtain ⟨g, hg⟩ : ∃ g, mo = some ⟨g, 0, none⟩ := by
          rcases HRW.out.row.2 with ⟨h0, h1⟩ | ⟨g, cap', cur, h1, _⟩
          · rw [hml] at h1; omega
          · injection h1 with h2; exact ⟨g, h2⟩
        subst hg
        have HGB : Hid (w.heap.size ≤ g) := (HRW.out.row.lt _ rfl).1
        obtain ⟨⟨⟨s0, fnn, ag⟩, L⟩, hme⟩ : ∃ e, ms[k]? = some e := ⟨_, List.getElem?_eq_getElem (by omega)⟩
        obtain ⟨ao, ac, hsh⟩ := (HRW.out.lies _ (List.mem_of_getElem? hme)).shape
        simp only at hsh
        subst hsh
        have HCS : Hid (cs1[k]? = some ⟨s0, fnn, ag⟩) := by
          show cs1[k]? = _
          rw [← HRW.out.xs, List.getElem?_map, hme]; rfl
        have HMEET : Hid (k < cs1.length) := by show k < cs1.length; rw [HCL.out]; exact hlt
        obtain ⟨⟨c0, c1, c2⟩, f0, f1, f2⟩ := HRW.out.cells hml hme
        have HC1 : Hid (CRow w.heap.size (wr.setCell ⟨g, k * 3, none⟩ (.int .i64 k)) (.slice (some ⟨g, 0, none⟩) 8 mc) (ms.set k ⟨⟨k, fnn, ag⟩, .slice ao ag.length ac⟩) (cs1.set k ⟨k, fnn, ag⟩)) := HRW.out.site hml hme (k : Int)
        have hlt2 : (k : Int) < 8 := by omega
        by_cases hk0 : k = 0
        · subst hk0
          simp only [Nat.zero_mul, Nat.zero_add] at c0 c1 c2 f0 f1 f2 HC1
          go_wp2_with fail
          go_quiet (fail)
          go_wp2_with fail
          go_roundw
          case rel => exact ⟨0 + 1, _, _, by omega, by go_num, HC1.out.below (below_dn' _ _), in_set HCI.out HCS.out (by decide) (by decide), by rw [List.length_set]; exact HCL.out, rise_set HR.out HMEET.out (by simp) (by simp) (fun p hp => by omega), (HB.out.setCell HGB.out _).trans ((below_dn' _ _).mono (HB.out.setCell HGB.out _).size)⟩
          case measure => first | (simp [intOf]; done) | (simp [intOf]; omega)
        · obtain ⟨j, hj⟩ : ∃ j : Nat, k = j + 1 := ⟨k - 1, by omega⟩
          obtain ⟨⟨⟨pt, pfn, pag⟩, PL⟩, hpe⟩ : ∃ e, ms[j]? = some e := ⟨_, List.getElem?_eq_getElem (by omega)⟩
          have HPC : Hid (cs1[j]? = some ⟨pt, pfn, pag⟩) := by
            show cs1[j]? = _
            rw [← HRW.out.xs, List.getElem?_map, hpe]; rfl
          have HPE : Hid (ms[j]? = some ⟨⟨pt, pfn, pag⟩, PL⟩) := hpe
          have HPP : Hid (0 ≤ pt ∧ pt < 8) := ⟨(HR.out j _ (by omega) HPC.out).1, (HR.out j _ (by omega) HPC.out).2.1⟩
          have HJK : Hid (k = j + 1) := hj
          obtain ⟨⟨y0w, -, -⟩, -, -, -⟩ := HRW.out.cells hml hpe
          obtain ⟨b1, o1, st, rfl, hx⟩ := HX.out k (by omega)
          have z0w := hx wr HB.out
          have z1w := hx (wr.setCell ⟨g, k * 3, none⟩ (.int .i64 k)) (HB.out.setCell HGB.out _)
          have hbl : b1 < w.heap.size := World.block_lt_of_cell? _ _ (hx w (Below.refl _ _))
          have hbg : ¬ b1 = g := by have := HGB.out; omega
          have hgb : ¬ g = b1 := by have := HGB.out; omega
          have hkj : ¬ k * 3 = j * 3 := by omega
          have hjk : ¬ j * 3 = k * 3 := by omega
          have hkp : 0 < k := by omega
          have hji : (k : Int) - 1 = (j : Int) := by omega
          have hwj : IntKind.i64.wrap (j : Int) = (j : Int) := by rw [IntKind.wrap_i64]; omega
          have hjl : (j : Int) < 8 := by omega
          have hjn : j < 8 := by omega
          have hp0 : 0 ≤ pt := HPP.out.1
          have hp8 : pt < 8 := HPP.out.2
          have hkl : (k : Int) < (es0.length : Int) := by omega
          clear hx hme hpe hbl hj hk0
          cases hq : (Int.tmod st 2 == 0) with
          | false =>
            have HC2 : Hid (CRow w.heap.size ((wr.setCell ⟨g, k * 3, none⟩ (.int .i64 (k : Int)))) (.slice (some ⟨g, 0, none⟩) 8 mc) (ms.set k ⟨⟨(k : Int), fnn, ag⟩, .slice ao ag.length ac⟩) (cs1.set k ⟨(k : Int), fnn, ag⟩)) := HC1.out
            have hm2 : (ms.set k (⟨⟨(k : Int), fnn, ag⟩, .slice ao ag.length ac⟩ : Ce)).length = 8 := by rw [List.length_set]; exact hml
            have hk2 : (ms.set k (⟨⟨(k : Int), fnn, ag⟩, .slice ao ag.length ac⟩ : Ce))[k]? = some ⟨⟨(k : Int), fnn, ag⟩, .slice ao ag.length ac⟩ := List.getElem?_set_self (by omega)
            have hp2 : (ms.set k (⟨⟨(k : Int), fnn, ag⟩, .slice ao ag.length ac⟩ : Ce))[j]? = some ⟨⟨pt, pfn, pag⟩, PL⟩ := by rw [List.getElem?_set_ne (by omega)]; exact HPE.out
            obtain ⟨⟨d0, -, -⟩, e0, -, -⟩ := HC2.out.cells hm2 hk2
            obtain ⟨⟨y0, -, -⟩, -, -, -⟩ := HC2.out.cells hm2 hp2
            have HMK : Hid ((ms.set k (⟨⟨(k : Int), fnn, ag⟩, .slice ao ag.length ac⟩ : Ce)).length = 8 ∧ (ms.set k (⟨⟨(k : Int), fnn, ag⟩, .slice ao ag.length ac⟩ : Ce))[k]? = some ⟨⟨(k : Int), fnn, ag⟩, .slice ao ag.length ac⟩) := ⟨hm2, hk2⟩
            clear hm2 hk2 hp2
            have HBW : Hid (Below w.heap.size w ((wr.setCell ⟨g, k * 3, none⟩ (.int .i64 (k : Int))))) := HB.out.setCell HGB.out _
            by_cases hle : (k : Int) ≤ pt
            · have HN3 : Hid (∀ nq, CRow w.heap.size (((wr.setCell ⟨g, k * 3, none⟩ (.int .i64 (k : Int))).drewN nq).setCell ⟨g, k * 3, none⟩ (.int .i64 (pt + 1))) (.slice (some ⟨g, 0, none⟩) 8 mc) (ms.set k ⟨⟨pt + 1, fnn, ag⟩, .slice ao ag.length ac⟩) (cs1.set k ⟨pt + 1, fnn, ag⟩)) := fun nq => by
                have h := (HC2.out.below (below_dn' _ nq)).site HMK.out.1 HMK.out.2 (pt + 1)
                rw [List.set_set, List.set_set] at h
                exact h
              have hpw : (pt + 1 : Int) < 9 := by have := HPP.out.2; omega
              have hpw0 : (0 : Int) ≤ pt + 1 := by have := HPP.out.1; omega
              by_cases h8 : 8 ≤ pt + 1
              · go_wp2_with fail
                go_quiet (fail)
                go_wp2_with fail
                go_ret
                exact ⟨rfl, (HBW.out.trans ((below_dn' _ _).mono HBW.out.size)).setCell HGB.out _⟩
              · have h9 : decide (8 ≤ pt + 1) = false := decide_eq_false h8
                go_wp2_with fail
                go_quiet (fail)
                go_wp2_with fail
                go_roundw
                case rel => exact ⟨k + 1, _, _, by omega, by go_num, HN3.out _, in_set HCI.out HCS.out (by have := HPP.out.1; omega) (by have := HPP.out.2; omega), by rw [List.length_set]; exact HCL.out, rise_set HR.out HMEET.out (by have := HPP.out.1; simp only; omega) (by simp only; omega) (fun p _ hq => by rw [HJK.out, Nat.add_sub_cancel, HPC.out] at hq; cases hq; simp only; omega), (HBW.out.trans ((below_dn' _ _).mono HBW.out.size)).setCell HGB.out _⟩
                case measure => first | (simp [intOf]; done) | (simp [intOf]; omega)
            · have hle2 : decide ((k : Int) ≤ pt) = false := decide_eq_false hle
              by_cases h8 : 8 ≤ (k : Int)
              · exfalso; omega
              · have h9 : decide (8 ≤ (k : Int)) = false := decide_eq_false h8
                go_wp2_with fail
                go_quiet (fail)
                go_wp2_with fail
                go_roundw
                case rel => exact ⟨k + 1, _, _, by omega, by go_num, HC2.out.below (below_dn' _ _), in_set HCI.out HCS.out (by omega) (by omega), by rw [List.length_set]; exact HCL.out, rise_set HR.out HMEET.out (by simp only; omega) (by simp only; omega) (fun p _ hq => by rw [HJK.out, Nat.add_sub_cancel, HPC.out] at hq; cases hq; simp only; omega), HBW.out.trans ((below_dn' _ _).mono HBW.out.size)⟩
                case measure => first | (simp [intOf]; done) | (simp [intOf]; omega)
          | true =>
            have HC2 : Hid (CRow w.heap.size ((wr.setCell ⟨g, k * 3, none⟩ (.int .i64 (k : Int)))) (.slice (some ⟨g, 0, none⟩) 8 mc) (ms.set k ⟨⟨(k : Int), fnn, ag⟩, .slice ao ag.length ac⟩) (cs1.set k ⟨(k : Int), fnn, ag⟩)) := HC1.out
            have hm2 : (ms.set k (⟨⟨(k : Int), fnn, ag⟩, .slice ao ag.length ac⟩ : Ce)).length = 8 := by rw [List.length_set]; exact hml
            have hk2 : (ms.set k (⟨⟨(k : Int), fnn, ag⟩, .slice ao ag.length ac⟩ : Ce))[k]? = some ⟨⟨(k : Int), fnn, ag⟩, .slice ao ag.length ac⟩ := List.getElem?_set_self (by omega)
            have hp2 : (ms.set k (⟨⟨(k : Int), fnn, ag⟩, .slice ao ag.length ac⟩ : Ce))[j]? = some ⟨⟨pt, pfn, pag⟩, PL⟩ := by rw [List.getElem?_set_ne (by omega)]; exact HPE.out
            obtain ⟨⟨d0, -, -⟩, e0, -, -⟩ := HC2.out.cells hm2 hk2
            obtain ⟨⟨y0, -, -⟩, -, -, -⟩ := HC2.out.cells hm2 hp2
            have HMK : Hid ((ms.set k (⟨⟨(k : Int), fnn, ag⟩, .slice ao ag.length ac⟩ : Ce)).length = 8 ∧ (ms.set k (⟨⟨(k : Int), fnn, ag⟩, .slice ao ag.length ac⟩ : Ce))[k]? = some ⟨⟨(k : Int), fnn, ag⟩, .slice ao ag.length ac⟩) := ⟨hm2, hk2⟩
            clear hm2 hk2 hp2
            have HBW : Hid (Below w.heap.size w ((wr.setCell ⟨g, k * 3, none⟩ (.int .i64 (k : Int))))) := HB.out.setCell HGB.out _
            by_cases hle : (k : Int) ≤ pt
            · have HN3 : Hid (∀ nq, CRow w.heap.size (((wr.setCell ⟨g, k * 3, none⟩ (.int .i64 (k : Int))).drewN nq).setCell ⟨g, k * 3, none⟩ (.int .i64 (pt + 1))) (.slice (some ⟨g, 0, none⟩) 8 mc) (ms.set k ⟨⟨pt + 1, fnn, ag⟩, .slice ao ag.length ac⟩) (cs1.set k ⟨pt + 1, fnn, ag⟩)) := fun nq => by
                have h := (HC2.out.below (below_dn' _ nq)).site HMK.out.1 HMK.out.2 (pt + 1)
                rw [List.set_set, List.set_set] at h
                exact h
              have hpw : (pt + 1 : Int) < 9 := by have := HPP.out.2; omega
              have hpw0 : (0 : Int) ≤ pt + 1 := by have := HPP.out.1; omega
              by_cases h8 : 8 ≤ pt + 1
              · go_wp2_with fail
                go_quiet (fail)
                go_wp2_with fail
                go_ret
                exact ⟨rfl, (HBW.out.trans ((below_dn' _ _).mono HBW.out.size)).setCell HGB.out _⟩
              · have h9 : decide (8 ≤ pt + 1) = false := decide_eq_false h8
                go_wp2_with fail
                go_quiet (fail)
                go_wp2_with fail
                go_roundw
                case rel => exact ⟨k + 1, _, _, by omega, by go_num, HN3.out _, in_set HCI.out HCS.out (by have := HPP.out.1; omega) (by have := HPP.out.2; omega), by rw [List.length_set]; exact HCL.out, rise_set HR.out HMEET.out (by have := HPP.out.1; simp only; omega) (by simp only; omega) (fun p _ hq => by rw [HJK.out, Nat.add_sub_cancel, HPC.out] at hq; cases hq; simp only; omega), (HBW.out.trans ((below_dn' _ _).mono HBW.out.size)).setCell HGB.out _⟩
                case measure => first | (simp [intOf]; done) | (simp [intOf]; omega)
            · have hle2 : decide ((k : Int) ≤ pt) = false := decide_eq_false hle
              by_cases h8 : 8 ≤ (k : Int)
              · exfalso; omega
              · have h9 : decide (8 ≤ (k : Int)) = false := decide_eq_false h8
                go_wp2_with fail
                go_quiet (fail)
                go_wp2_with fail
                go_roundw
                case rel => exact ⟨k + 1, _, _, by omega, by go_num, HC2.out.below (below_dn' _ _), in_set HCI.out HCS.out (by omega) (by omega), by rw [List.length_set]; exact HCL.out, rise_set HR.out HMEET.out (by simp only; omega) (by simp only; omega) (fun p _ hq => by rw [HJK.out, Nat.add_sub_cancel, HPC.out] at hq; cases hq; simp only; omega), HBW.out.trans ((below_dn' _ _).mono HBW.out.size)⟩
                case measure => first | (simp [intOf]; done) | (simp [intOf]; omega)
      · have hkn : k = 8 := by omega
        subst hkn
        have HR2 : Hid (Rise cs1 cs1.length) := by have := HR.out; rw [HCL.out]; exact this
        have HCK : Hid (COk cs1) := ⟨HCI.out, by rw [HCL.out]; omega⟩
        have HCR : Hid (∀ c ∈ cs1.reverse, c.args.length ≤ 140737488351232) := fun c h => by have := (HCI.out c (List.mem_reverse.1 h)).sz; omega
        have HRL : Hid (cs1.reverse.length ≤ 3518437208900) := by show _ ≤ _; rw [List.length_reverse, HCL.out]; omega
        clear hk hlt
        go_wp2_with fail
        refine (own_calls _ _ _ _ HRW.out.src HCK.out).mono ?_
        rintro e u2 ⟨V2, M2, rfl, q2, b2⟩
        go_wp2_with fail
        refine (own_order1 _ _ _ _ q2.src HCK.out).mono ?_
        rintro e u3 ⟨h | h, b3⟩
        · obtain ⟨_, V3, M3, rfl, q3⟩ := h
          have B3 : Below wr.heap.size wr u3 := b2.trans (b3.mono b2.size)
          have HRW3 := HRW.out.below B3
          clear b2 b3
          go_wp2_with fail
          refine (own_calls _ _ _ _ HRW3.src HCK.out).mono ?_
          rintro e u4 ⟨V4, M4, rfl, q4, b4⟩
          go_wp2_with fail
          refine (own_order0 _ _ _ _ q4.src HCK.out).mono ?_
          rintro e u5 ⟨V5, M5, rfl, q5, b5⟩
          have B5 : Below u3.heap.size u3 u5 := b4.trans (b5.mono b4.size)
          clear b4 b5
          go_wp2_with fail
          refine (lit_two1 _ _ rfl).mono ?_
          rintro e u6 ⟨ao, cap, rfl, b6⟩
          have HS : Hid (Calls Try.prog 19 #[V3, V5] u6 fun e w' => e = .returned (.bool true) ∧ Below u6.heap.size u6 w') := own_sames _ _ M3 M5 cs1.reverse _ (q3.src.below (B5.trans (b6.mono B5.size))) (q5.src.below b6) HCR.out HRL.out
          have BE : Hid (Below w.heap.size w u6) := HB.out.trans ((B3.trans ((B5.trans (b6.mono B5.size)).mono B3.size)).mono HB.out.size)
          clear b6 B3 B5 q3 q5 HRW3
          go_wp2_with fail
          refine Calls.mono HS.out ?_
          rintro e u7 ⟨rfl, b7⟩
          go_wp2_with fail
          all_goals go_ret
          all_goals exact ⟨rfl, BE.out.trans (b7.mono BE.out.size)⟩
        · exact absurd HR2.out h.1
  · have hb2 : decide (8 < es0.length) = false := decide_eq_false hbig
    have hn8le : es0.length ≤ 8 := by omega
    go_enter Try.func6, Try.ntmps6
    go_wp2_with fail
    refine (own_calls _ _ _ _ HV.out hc).mono ?_
    rintro e u1 ⟨V1, M1, rfl, q1, b1⟩
    have hM1 : M1.length = es0.length := by rw [q1.len, HLE.out]
    obtain ⟨mo, mc, hV1⟩ := row_slice q1.row
    rw [hM1] at hV1
    subst hV1
    have HROW : Hid (CRow w.heap.size u1 (.slice mo es0.length mc) M1 cs0) := q1
    have HCI0 : Hid (∀ c ∈ cs0, CIn c) := hc0
    have HCL0 : Hid (cs0.length = es0.length) := HLE.out.symm
    have HB1 : Hid (Below w.heap.size w u1) := b1
    clear q1 b1 hM1
    go_wp2_with fail
    go_loopw [4] (fun s4 wr => ∃ (k : Nat) (ms : List Ce) (cs1 : List Cc), k ≤ es0.length ∧ s4 = .int .i64 k ∧ Hid (CRow w.heap.size wr (.slice mo es0.length mc) ms cs1) ∧ Hid (∀ c ∈ cs1, CIn c) ∧ Hid (cs1.length = es0.length) ∧ Hid (Rise cs1 k) ∧ Hid (Below w.heap.size w wr)) (fun i _ => es0.length - (intOf i).toNat)
    case atStart => exact ⟨0, _, _, Nat.zero_le _, rfl, HROW.out, HCI0.out, HCL0.out, Rise.zero _, HB1.out⟩
    case round =>
      obtain ⟨k, ms, cs1, hk, rfl, HRW, HCI, HCL, HR, HB⟩ := hrel
      have hml : ms.length = es0.length := by have := HRW.out.len; rw [HCL.out] at this; exact this
      by_cases hlt : k < es0.length
      · obtain ⟨g, hg⟩ : ∃ g, mo = some ⟨g, 0, none⟩ := by
          rcases HRW.out.row.2 with ⟨h0, h1⟩ | ⟨g, cap', cur, h1, _⟩
          · rw [hml] at h1; omega
          · injection h1 with h2; exact ⟨g, h2⟩
        subst hg
        have HGB : Hid (w.heap.size ≤ g) := (HRW.out.row.lt _ rfl).1
        obtain ⟨⟨⟨s0, fnn, ag⟩, L⟩, hme⟩ : ∃ e, ms[k]? = some e := ⟨_, List.getElem?_eq_getElem (by omega)⟩
        obtain ⟨ao, ac, hsh⟩ := (HRW.out.lies _ (List.mem_of_getElem? hme)).shape
        simp only at hsh
        subst hsh
        have HCS : Hid (cs1[k]? = some ⟨s0, fnn, ag⟩) := by
          show cs1[k]? = _
          rw [← HRW.out.xs, List.getElem?_map, hme]; rfl
        have HMEET : Hid (k < cs1.length) := by show k < cs1.length; rw [HCL.out]; exact hlt
        obtain ⟨⟨c0, c1, c2⟩, f0, f1, f2⟩ := HRW.out.cells hml hme
        have HC1 : Hid (CRow w.heap.size (wr.setCell ⟨g, k * 3, none⟩ (.int .i64 k)) (.slice (some ⟨g, 0, none⟩) es0.length mc) (ms.set k ⟨⟨k, fnn, ag⟩, .slice ao ag.length ac⟩) (cs1.set k ⟨k, fnn, ag⟩)) := HRW.out.site hml hme (k : Int)
        have hlt2 : (k : Int) < (es0.length : Int) := by omega
        by_cases hk0 : k = 0
        · subst hk0
          simp only [Nat.zero_mul, Nat.zero_add] at c0 c1 c2 f0 f1 f2 HC1
          go_wp2_with fail
          go_quiet (fail)
          go_wp2_with fail
          go_roundw
          case rel => exact ⟨0 + 1, _, _, by omega, by go_num, HC1.out.below (below_dn' _ _), in_set HCI.out HCS.out (by decide) (by decide), by rw [List.length_set]; exact HCL.out, rise_set HR.out HMEET.out (by simp) (by simp) (fun p hp => by omega), (HB.out.setCell HGB.out _).trans ((below_dn' _ _).mono (HB.out.setCell HGB.out _).size)⟩
          case measure => first | (simp [intOf]; done) | (simp [intOf]; omega)
        · obtain ⟨j, hj⟩ : ∃ j : Nat, k = j + 1 := ⟨k - 1, by omega⟩
          obtain ⟨⟨⟨pt, pfn, pag⟩, PL⟩, hpe⟩ : ∃ e, ms[j]? = some e := ⟨_, List.getElem?_eq_getElem (by omega)⟩
          have HPC : Hid (cs1[j]? = some ⟨pt, pfn, pag⟩) := by
            show cs1[j]? = _
            rw [← HRW.out.xs, List.getElem?_map, hpe]; rfl
          have HPE : Hid (ms[j]? = some ⟨⟨pt, pfn, pag⟩, PL⟩) := hpe
          have HPP : Hid (0 ≤ pt ∧ pt < 8) := ⟨(HR.out j _ (by omega) HPC.out).1, (HR.out j _ (by omega) HPC.out).2.1⟩
          have HJK : Hid (k = j + 1) := hj
          obtain ⟨⟨y0w, -, -⟩, -, -, -⟩ := HRW.out.cells hml hpe
          obtain ⟨b1, o1, st, rfl, hx⟩ := HX.out k (by omega)
          have z0w := hx wr HB.out
          have z1w := hx (wr.setCell ⟨g, k * 3, none⟩ (.int .i64 k)) (HB.out.setCell HGB.out _)
          have hbl : b1 < w.heap.size := World.block_lt_of_cell? _ _ (hx w (Below.refl _ _))
          have hbg : ¬ b1 = g := by have := HGB.out; omega
          have hgb : ¬ g = b1 := by have := HGB.out; omega
          have hkj : ¬ k * 3 = j * 3 := by omega
          have hjk : ¬ j * 3 = k * 3 := by omega
          have hkp : 0 < k := by omega
          have hji : (k : Int) - 1 = (j : Int) := by omega
          have hwj : IntKind.i64.wrap (j : Int) = (j : Int) := by rw [IntKind.wrap_i64]; omega
          have hjl : (j : Int) < (es0.length : Int) := by omega
          have hjn : j < es0.length := by omega
          have hp0 : 0 ≤ pt := HPP.out.1
          have hp8 : pt < 8 := HPP.out.2
          have hkl : (k : Int) < (es0.length : Int) := by omega
          clear hx hme hpe hbl hj hk0
          cases hq : (Int.tmod st 2 == 0) with
          | false =>
            have HC2 : Hid (CRow w.heap.size ((wr.setCell ⟨g, k * 3, none⟩ (.int .i64 (k : Int)))) (.slice (some ⟨g, 0, none⟩) es0.length mc) (ms.set k ⟨⟨(k : Int), fnn, ag⟩, .slice ao ag.length ac⟩) (cs1.set k ⟨(k : Int), fnn, ag⟩)) := HC1.out
            have hm2 : (ms.set k (⟨⟨(k : Int), fnn, ag⟩, .slice ao ag.length ac⟩ : Ce)).length = es0.length := by rw [List.length_set]; exact hml
            have hk2 : (ms.set k (⟨⟨(k : Int), fnn, ag⟩, .slice ao ag.length ac⟩ : Ce))[k]? = some ⟨⟨(k : Int), fnn, ag⟩, .slice ao ag.length ac⟩ := List.getElem?_set_self (by omega)
            have hp2 : (ms.set k (⟨⟨(k : Int), fnn, ag⟩, .slice ao ag.length ac⟩ : Ce))[j]? = some ⟨⟨pt, pfn, pag⟩, PL⟩ := by rw [List.getElem?_set_ne (by omega)]; exact HPE.out
            obtain ⟨⟨d0, -, -⟩, e0, -, -⟩ := HC2.out.cells hm2 hk2
            obtain ⟨⟨y0, -, -⟩, -, -, -⟩ := HC2.out.cells hm2 hp2
            have HMK : Hid ((ms.set k (⟨⟨(k : Int), fnn, ag⟩, .slice ao ag.length ac⟩ : Ce)).length = es0.length ∧ (ms.set k (⟨⟨(k : Int), fnn, ag⟩, .slice ao ag.length ac⟩ : Ce))[k]? = some ⟨⟨(k : Int), fnn, ag⟩, .slice ao ag.length ac⟩) := ⟨hm2, hk2⟩
            clear hm2 hk2 hp2
            have HBW : Hid (Below w.heap.size w ((wr.setCell ⟨g, k * 3, none⟩ (.int .i64 (k : Int))))) := HB.out.setCell HGB.out _
            by_cases hle : (k : Int) ≤ pt
            · have HN3 : Hid (∀ nq, CRow w.heap.size (((wr.setCell ⟨g, k * 3, none⟩ (.int .i64 (k : Int))).drewN nq).setCell ⟨g, k * 3, none⟩ (.int .i64 (pt + 1))) (.slice (some ⟨g, 0, none⟩) es0.length mc) (ms.set k ⟨⟨pt + 1, fnn, ag⟩, .slice ao ag.length ac⟩) (cs1.set k ⟨pt + 1, fnn, ag⟩)) := fun nq => by
                have h := (HC2.out.below (below_dn' _ nq)).site HMK.out.1 HMK.out.2 (pt + 1)
                rw [List.set_set, List.set_set] at h
                exact h
              have hpw : (pt + 1 : Int) < 9 := by have := HPP.out.2; omega
              have hpw0 : (0 : Int) ≤ pt + 1 := by have := HPP.out.1; omega
              by_cases h8 : 8 ≤ pt + 1
              · go_wp2_with fail
                go_quiet (fail)
                go_wp2_with fail
                go_ret
                exact ⟨rfl, (HBW.out.trans ((below_dn' _ _).mono HBW.out.size)).setCell HGB.out _⟩
              · have h9 : decide (8 ≤ pt + 1) = false := decide_eq_false h8
                go_wp2_with fail
                go_quiet (fail)
                go_wp2_with fail
                go_roundw
                case rel => exact ⟨k + 1, _, _, by omega, by go_num, HN3.out _, in_set HCI.out HCS.out (by have := HPP.out.1; omega) (by have := HPP.out.2; omega), by rw [List.length_set]; exact HCL.out, rise_set HR.out HMEET.out (by have := HPP.out.1; simp only; omega) (by simp only; omega) (fun p _ hq => by rw [HJK.out, Nat.add_sub_cancel, HPC.out] at hq; cases hq; simp only; omega), (HBW.out.trans ((below_dn' _ _).mono HBW.out.size)).setCell HGB.out _⟩
                case measure => first | (simp [intOf]; done) | (simp [intOf]; omega)
            · have hle2 : decide ((k : Int) ≤ pt) = false := decide_eq_false hle
              by_cases h8 : 8 ≤ (k : Int)
              · exfalso; omega
              · have h9 : decide (8 ≤ (k : Int)) = false := decide_eq_false h8
                go_wp2_with fail
                go_quiet (fail)
                go_wp2_with fail
                go_roundw
                case rel => exact ⟨k + 1, _, _, by omega, by go_num, HC2.out.below (below_dn' _ _), in_set HCI.out HCS.out (by omega) (by omega), by rw [List.length_set]; exact HCL.out, rise_set HR.out HMEET.out (by simp only; omega) (by simp only; omega) (fun p _ hq => by rw [HJK.out, Nat.add_sub_cancel, HPC.out] at hq; cases hq; simp only; omega), HBW.out.trans ((below_dn' _ _).mono HBW.out.size)⟩
                case measure => first | (simp [intOf]; done) | (simp [intOf]; omega)
          | true =>
            by_cases hn8 : es0.length < 8
            · have hn8i : (es0.length : Int) < 8 := by omega
              have HC2 : Hid (CRow w.heap.size (((wr.setCell ⟨g, k * 3, none⟩ (.int .i64 (k : Int))).setCell ⟨g, k * 3, none⟩ (.int .i64 ((k : Int) + 1)))) (.slice (some ⟨g, 0, none⟩) es0.length mc) (ms.set k ⟨⟨((k : Int) + 1), fnn, ag⟩, .slice ao ag.length ac⟩) (cs1.set k ⟨((k : Int) + 1), fnn, ag⟩)) := by
                have h := HC1.out.site (k := k) (e := ⟨⟨(k : Int), fnn, ag⟩, .slice ao ag.length ac⟩) (by rw [List.length_set]; exact hml) (List.getElem?_set_self (by omega)) ((k : Int) + 1)
                rw [List.set_set, List.set_set] at h
                exact h
              have hm2 : (ms.set k (⟨⟨((k : Int) + 1), fnn, ag⟩, .slice ao ag.length ac⟩ : Ce)).length = es0.length := by rw [List.length_set]; exact hml
              have hk2 : (ms.set k (⟨⟨((k : Int) + 1), fnn, ag⟩, .slice ao ag.length ac⟩ : Ce))[k]? = some ⟨⟨((k : Int) + 1), fnn, ag⟩, .slice ao ag.length ac⟩ := List.getElem?_set_self (by omega)
              have hp2 : (ms.set k (⟨⟨((k : Int) + 1), fnn, ag⟩, .slice ao ag.length ac⟩ : Ce))[j]? = some ⟨⟨pt, pfn, pag⟩, PL⟩ := by rw [List.getElem?_set_ne (by omega)]; exact HPE.out
              obtain ⟨⟨d0, -, -⟩, e0, -, -⟩ := HC2.out.cells hm2 hk2
              obtain ⟨⟨y0, -, -⟩, -, -, -⟩ := HC2.out.cells hm2 hp2
              have HMK : Hid ((ms.set k (⟨⟨((k : Int) + 1), fnn, ag⟩, .slice ao ag.length ac⟩ : Ce)).length = es0.length ∧ (ms.set k (⟨⟨((k : Int) + 1), fnn, ag⟩, .slice ao ag.length ac⟩ : Ce))[k]? = some ⟨⟨((k : Int) + 1), fnn, ag⟩, .slice ao ag.length ac⟩) := ⟨hm2, hk2⟩
              clear hm2 hk2 hp2
              have HBW : Hid (Below w.heap.size w (((wr.setCell ⟨g, k * 3, none⟩ (.int .i64 (k : Int))).setCell ⟨g, k * 3, none⟩ (.int .i64 ((k : Int) + 1))))) := (HB.out.setCell HGB.out _).setCell HGB.out _
              by_cases hle : ((k : Int) + 1) ≤ pt
              · have HN3 : Hid (∀ nq, CRow w.heap.size ((((wr.setCell ⟨g, k * 3, none⟩ (.int .i64 (k : Int))).setCell ⟨g, k * 3, none⟩ (.int .i64 ((k : Int) + 1))).drewN nq).setCell ⟨g, k * 3, none⟩ (.int .i64 (pt + 1))) (.slice (some ⟨g, 0, none⟩) es0.length mc) (ms.set k ⟨⟨pt + 1, fnn, ag⟩, .slice ao ag.length ac⟩) (cs1.set k ⟨pt + 1, fnn, ag⟩)) := fun nq => by
                  have h := (HC2.out.below (below_dn' _ nq)).site HMK.out.1 HMK.out.2 (pt + 1)
                  rw [List.set_set, List.set_set] at h
                  exact h
                have hpw : (pt + 1 : Int) < 9 := by have := HPP.out.2; omega
                have hpw0 : (0 : Int) ≤ pt + 1 := by have := HPP.out.1; omega
                by_cases h8 : 8 ≤ pt + 1
                · go_wp2_with fail
                  go_quiet (fail)
                  go_wp2_with fail
                  go_ret
                  exact ⟨rfl, (HBW.out.trans ((below_dn' _ _).mono HBW.out.size)).setCell HGB.out _⟩
                · have h9 : decide (8 ≤ pt + 1) = false := decide_eq_false h8
                  go_wp2_with fail
                  go_quiet (fail)
                  go_wp2_with fail
                  go_roundw
                  case rel => exact ⟨k + 1, _, _, by omega, by go_num, HN3.out _, in_set HCI.out HCS.out (by have := HPP.out.1; omega) (by have := HPP.out.2; omega), by rw [List.length_set]; exact HCL.out, rise_set HR.out HMEET.out (by have := HPP.out.1; simp only; omega) (by simp only; omega) (fun p _ hq => by rw [HJK.out, Nat.add_sub_cancel, HPC.out] at hq; cases hq; simp only; omega), (HBW.out.trans ((below_dn' _ _).mono HBW.out.size)).setCell HGB.out _⟩
                  case measure => first | (simp [intOf]; done) | (simp [intOf]; omega)
              · have hle2 : decide (((k : Int) + 1) ≤ pt) = false := decide_eq_false hle
                by_cases h8 : 8 ≤ ((k : Int) + 1)
                · exfalso; omega
                · have h9 : decide (8 ≤ ((k : Int) + 1)) = false := decide_eq_false h8
                  go_wp2_with fail
                  go_quiet (fail)
                  go_wp2_with fail
                  go_roundw
                  case rel => exact ⟨k + 1, _, _, by omega, by go_num, HC2.out.below (below_dn' _ _), in_set HCI.out HCS.out (by omega) (by omega), by rw [List.length_set]; exact HCL.out, rise_set HR.out HMEET.out (by simp only; omega) (by simp only; omega) (fun p _ hq => by rw [HJK.out, Nat.add_sub_cancel, HPC.out] at hq; cases hq; simp only; omega), HBW.out.trans ((below_dn' _ _).mono HBW.out.size)⟩
                  case measure => first | (simp [intOf]; done) | (simp [intOf]; omega)
            · have hn9 : decide (es0.length < 8) = false := decide_eq_false hn8
              have HC2 : Hid (CRow w.heap.size ((wr.setCell ⟨g, k * 3, none⟩ (.int .i64 (k : Int)))) (.slice (some ⟨g, 0, none⟩) es0.length mc) (ms.set k ⟨⟨(k : Int), fnn, ag⟩, .slice ao ag.length ac⟩) (cs1.set k ⟨(k : Int), fnn, ag⟩)) := HC1.out
              have hm2 : (ms.set k (⟨⟨(k : Int), fnn, ag⟩, .slice ao ag.length ac⟩ : Ce)).length = es0.length := by rw [List.length_set]; exact hml
              have hk2 : (ms.set k (⟨⟨(k : Int), fnn, ag⟩, .slice ao ag.length ac⟩ : Ce))[k]? = some ⟨⟨(k : Int), fnn, ag⟩, .slice ao ag.length ac⟩ := List.getElem?_set_self (by omega)
              have hp2 : (ms.set k (⟨⟨(k : Int), fnn, ag⟩, .slice ao ag.length ac⟩ : Ce))[j]? = some ⟨⟨pt, pfn, pag⟩, PL⟩ := by rw [List.getElem?_set_ne (by omega)]; exact HPE.out
              obtain ⟨⟨d0, -, -⟩, e0, -, -⟩ := HC2.out.cells hm2 hk2
              obtain ⟨⟨y0, -, -⟩, -, -, -⟩ := HC2.out.cells hm2 hp2
              have HMK : Hid ((ms.set k (⟨⟨(k : Int), fnn, ag⟩, .slice ao ag.length ac⟩ : Ce)).length = es0.length ∧ (ms.set k (⟨⟨(k : Int), fnn, ag⟩, .slice ao ag.length ac⟩ : Ce))[k]? = some ⟨⟨(k : Int), fnn, ag⟩, .slice ao ag.length ac⟩) := ⟨hm2, hk2⟩
              clear hm2 hk2 hp2
              have HBW : Hid (Below w.heap.size w ((wr.setCell ⟨g, k * 3, none⟩ (.int .i64 (k : Int))))) := HB.out.setCell HGB.out _
              by_cases hle : (k : Int) ≤ pt
              · have HN3 : Hid (∀ nq, CRow w.heap.size (((wr.setCell ⟨g, k * 3, none⟩ (.int .i64 (k : Int))).drewN nq).setCell ⟨g, k * 3, none⟩ (.int .i64 (pt + 1))) (.slice (some ⟨g, 0, none⟩) es0.length mc) (ms.set k ⟨⟨pt + 1, fnn, ag⟩, .slice ao ag.length ac⟩) (cs1.set k ⟨pt + 1, fnn, ag⟩)) := fun nq => by
                  have h := (HC2.out.below (below_dn' _ nq)).site HMK.out.1 HMK.out.2 (pt + 1)
                  rw [List.set_set, List.set_set] at h
                  exact h
                have hpw : (pt + 1 : Int) < 9 := by have := HPP.out.2; omega
                have hpw0 : (0 : Int) ≤ pt + 1 := by have := HPP.out.1; omega
                by_cases h8 : 8 ≤ pt + 1
                · go_wp2_with fail
                  go_quiet (fail)
                  go_wp2_with fail
                  go_ret
                  exact ⟨rfl, (HBW.out.trans ((below_dn' _ _).mono HBW.out.size)).setCell HGB.out _⟩
                · have h9 : decide (8 ≤ pt + 1) = false := decide_eq_false h8
                  go_wp2_with fail
                  go_quiet (fail)
                  go_wp2_with fail
                  go_roundw
                  case rel => exact ⟨k + 1, _, _, by omega, by go_num, HN3.out _, in_set HCI.out HCS.out (by have := HPP.out.1; omega) (by have := HPP.out.2; omega), by rw [List.length_set]; exact HCL.out, rise_set HR.out HMEET.out (by have := HPP.out.1; simp only; omega) (by simp only; omega) (fun p _ hq => by rw [HJK.out, Nat.add_sub_cancel, HPC.out] at hq; cases hq; simp only; omega), (HBW.out.trans ((below_dn' _ _).mono HBW.out.size)).setCell HGB.out _⟩
                  case measure => first | (simp [intOf]; done) | (simp [intOf]; omega)
              · have hle2 : decide ((k : Int) ≤ pt) = false := decide_eq_false hle
                by_cases h8 : 8 ≤ (k : Int)
                · exfalso; omega
                · have h9 : decide (8 ≤ (k : Int)) = false := decide_eq_false h8
                  go_wp2_with fail
                  go_quiet (fail)
                  go_wp2_with fail
                  go_roundw
                  case rel => exact ⟨k + 1, _, _, by omega, by go_num, HC2.out.below (below_dn' _ _), in_set HCI.out HCS.out (by omega) (by omega), by rw [List.length_set]; exact HCL.out, rise_set HR.out HMEET.out (by simp only; omega) (by simp only; omega) (fun p _ hq => by rw [HJK.out, Nat.add_sub_cancel, HPC.out] at hq; cases hq; simp only; omega), HBW.out.trans ((below_dn' _ _).mono HBW.out.size)⟩
                  case measure => first | (simp [intOf]; done) | (simp [intOf]; omega)
      · have hkn : k = es0.length := by omega
        subst hkn
        have HR2 : Hid (Rise cs1 cs1.length) := by have := HR.out; rw [HCL.out]; exact this
        have HCK : Hid (COk cs1) := ⟨HCI.out, by rw [HCL.out]; omega⟩
        have HCR : Hid (∀ c ∈ cs1.reverse, c.args.length ≤ 140737488351232) := fun c h => by have := (HCI.out c (List.mem_reverse.1 h)).sz; omega
        have HRL : Hid (cs1.reverse.length ≤ 3518437208900) := by show _ ≤ _; rw [List.length_reverse, HCL.out]; omega
        clear hk hlt
        go_wp2_with fail
        refine (own_calls _ _ _ _ HRW.out.src HCK.out).mono ?_
        rintro e u2 ⟨V2, M2, rfl, q2, b2⟩
        go_wp2_with fail
        refine (own_order1 _ _ _ _ q2.src HCK.out).mono ?_
        rintro e u3 ⟨h | h, b3⟩
        · obtain ⟨_, V3, M3, rfl, q3⟩ := h
          have B3 : Below wr.heap.size wr u3 := b2.trans (b3.mono b2.size)
          have HRW3 := HRW.out.below B3
          clear b2 b3
          go_wp2_with fail
          refine (own_calls _ _ _ _ HRW3.src HCK.out).mono ?_
          rintro e u4 ⟨V4, M4, rfl, q4, b4⟩
          go_wp2_with fail
          refine (own_order0 _ _ _ _ q4.src HCK.out).mono ?_
          rintro e u5 ⟨V5, M5, rfl, q5, b5⟩
          have B5 : Below u3.heap.size u3 u5 := b4.trans (b5.mono b4.size)
          clear b4 b5
          go_wp2_with fail
          refine (lit_two1 _ _ rfl).mono ?_
          rintro e u6 ⟨ao, cap, rfl, b6⟩
          have HS : Hid (Calls Try.prog 19 #[V3, V5] u6 fun e w' => e = .returned (.bool true) ∧ Below u6.heap.size u6 w') := own_sames _ _ M3 M5 cs1.reverse _ (q3.src.below (B5.trans (b6.mono B5.size))) (q5.src.below b6) HCR.out HRL.out
          have BE : Hid (Below w.heap.size w u6) := HB.out.trans ((B3.trans ((B5.trans (b6.mono B5.size)).mono B3.size)).mono HB.out.size)
          clear b6 B3 B5 q3 q5 HRW3
          go_wp2_with fail
          refine Calls.mono HS.out ?_
          rintro e u7 ⟨rfl, b7⟩
          go_wp2_with fail
          all_goals go_ret
          all_goals exact ⟨rfl, BE.out.trans (b7.mono BE.out.size)⟩
        · exact absurd HR2.out h.1

theorem contract (H : Type) (enc : TypeId × Value → H) (W : World) (base : Nat) (args : Array Value) (ds gs : List (DataW H)) (before : List MemPlace)
    (hval : ∀ (j : Nat) t v, Try.f6.params[j]? = some t → args[j]? = some v → Value.okWide Try.prog W .any base t v)
    (hW : DataW.Whole enc Try.prog Try.f6.params.toList Rows.defersSameSpec.vars false W args.toList ds gs before)
    (hsz : (DataW.weightsEach Try.prog (Try.f6.params.toList ++ Rows.defersSameSpec.plain.varTypes Try.prog) (ds ++ gs)).all (· ≤ reachBytes) = true) :
    Calls Try.prog 6 args W fun e W' => ∃ v, e = .returned v ∧ Rows.defersSameSpec.post enc Try.prog Try.f6 false true false false W args v W' := by
  have hW' := hW
  obtain ⟨p, q, hA0, hV, rfl, hfz, hnd⟩ := hW
  have hA : DataW.TrodAll enc Try.prog W 0 (fun _ => true) true Try.f6.params.toList args.toList ds p := hA0
  rw [Try.params6] at hA hval hsz
  obtain ⟨v0, vs0, d0, ds0, p0, q0, hargs, rfl, rfl, h0, r0⟩ := trodAll_cons hA
  obtain ⟨rfl, rfl, rfl⟩ := trodAll_nil r0
  obtain rfl : args = #[v0] := by cases args; simp_all
  obtain ⟨rfl, rfl⟩ := trodVars_none hV
  obtain ⟨ao0, len0, cap0, rfl⟩ := okWide_slice Try.underlying22 (hval 0 22 v0 rfl rfl)
  obtain ⟨es0, cs0, hC0, hE0, hN0⟩ := cs_came (j := 0) h0 hsz rfl rfl
  clear hA0
  simp only [List.append_nil] at hW'
  have hlt0 : ∀ x ∈ p0, x.block < W.heap.size := fun x hx => hW'.lt x (by simp [hx])
  refine (walk _ es0 cs0 W hC0 hE0 hN0).mono fun e W' ⟨he, bel⟩ => ?_
  subst he
  exact ⟨_, rfl, _, _, _, [], p0 ++ [], [], hW', trodAll_mk1 (shut_bool Try.underlying4 _), (trodAll_cons_mk (Below.trod (by kernel_rfl) (by kernel_rfl) (of_decide_eq_true (by kernel_rfl)) h0 bel hlt0) trodAll_mk0), rfl, bel.frame _, fun h => by cases h⟩

set_option maxRecDepth 100000 in
theorem lifted (os : Os) (started : os.Started) (H : Type) (enc : TypeId × Value → H) :
    ReturnsInHanded {} Try.checked os 6 .any (Rows.defersSameSpec.pre6 enc Try.prog Try.f6 Rows.defersSameRow.domain false) (Rows.defersSameSpec.post enc Try.prog Try.f6 false true false false) := by
  refine returnsInHanded_of_change_sized (C := Try.checked) own started (by kernel_rfl) Try.func6
    (ChangeSpec.witness6 (enc := enc) (C := Try.checked) false ⟨#[], #[.slice none 0 0], []⟩ 8 (by kernel_rfl) (by kernel_rfl) (by kernel_rfl) (by kernel_rfl)) ?_
  intro W base args ds gs before hval0 hW hcnd hsz _
  exact contract H enc W base args ds gs before hval0 hW hsz

theorem proved : Rows.DefersSameSaid :=
  OpenClaim.holds_of_wide 6 Try.f6 rfl rfl rfl rfl rfl rfl rfl ⟨rfl, rfl, rfl, rfl, rfl⟩ rfl rfl rfl rfl rfl (by kernel_rfl) Try.func6 (by kernel_rfl)
    (of_decide_eq_true (by kernel_rfl)) (by unfold Func.isWrapper; first | (rw [if_pos (by decide +kernel)]; kernel_rfl) | (rw [if_neg (by decide +kernel)]; exact ⟨rfl, rfl⟩))
    (fun os started H enc _ => lifted os started H enc)
#print axioms proved
end Go.Proofs.Ytiaoidbhdkldlab.defersSame
