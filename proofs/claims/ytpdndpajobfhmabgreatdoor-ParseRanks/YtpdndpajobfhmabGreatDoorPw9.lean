/- The parser's walk over a file. -/
import Derived.Test.YtpdndpajobfhmabGreatDoorPw8
namespace Go.Proofs.YtpdndpajobfhmabGreatDoor
open Go.ChangeShapes Go.WideShapes Go.ChangeAt Go.RowKit
set_option maxRecDepth 100000
set_option linter.unusedSimpArgs false
set_option linter.unusedVariables false

theorem KRel.drew {B pb : Nat} {toks : List Tk} {w W : World} {tv tv1 v : Value} {st : Ps} {kids : List Nat} (h : KRel B pb toks w tv st W tv1 kids v) (m : Nat) : KRel B pb toks w tv st (W.drewN m) tv1 kids v :=
  h.step (h.sit.prs.mvb (below_drewN1 W m)) ⟨h.sit.prs.drewN m, h.sit.n, h.sit.pos, h.sit.tree⟩
theorem KRel.below {B pb : Nat} {toks : List Tk} {w W W2 : World} {tv tv1 v : Value} {st : Ps} {kids : List Nat} (h : KRel B pb toks w tv st W tv1 kids v) (hb : Below W.heap.size W W2) : KRel B pb toks w tv st W2 tv1 kids v :=
  h.step (h.sit.prs.mvb hb) ⟨h.sit.prs.below hb, h.sit.n, h.sit.pos, h.sit.tree⟩
set_option maxHeartbeats 4000000 in
theorem c_file (toks : List Tk) (n : Nat) : CFile toks n := by
  intro B pb st w tv hs hna
  obtain ⟨i0, hi, hz0, hz1, hz2⟩ := info_parts Tryz.infoInt
  cases n with
  | zero => exact absurd rfl hna
  | succ n =>
    simp only [run] at hna ⊢
    have hp := hs.pos
    have hn := hs.n
    have htr := hs.tree
    generalize hR : run toks n (.fileLoop []) st = R at *
    have HST : Hid (FRel B pb toks w tv n R [] (.slice none 0 0) w) := ⟨n, st, tv, Nat.le_refl _, ⟨hs, Mv.refl _ _ _, nil_row _ _, fun g hg => by cases hg⟩, Nat.zero_le _, hR⟩
    have HNA : Hid (R ≠ .na) := hna
    clear hna hs hR htr
    go_enter Tryz.func17, Tryz.ntmps17
    go_wp2
    go_loopw [2] (fun v wr => ∃ (kids : List Nat) (ko : Option Addr) (kc : Nat), v = .slice ko kids.length kc ∧ Hid (FRel B pb toks w tv n R kids v wr)) (fun _ wr => toks.length + 1 - posP pb wr)
    case atStart => exact ⟨[], none, 0, rfl, HST.out⟩
    case round =>
      clear HST
      obtain ⟨kids, ko, kc, rfl, HK⟩ := hrel
      obtain ⟨m, st1, tv1, hm, hkr, hkl, hrun⟩ := HK.out
      have HKR : Hid (KRel B pb toks w tv st1 wr tv1 kids (.slice ko kids.length kc)) := hkr
      have hp1 := hkr.sit.pos
      have htr := hkr.sit.tree
      have HPP : Hid (posP pb wr = st1.pos) := hkr.sit.prs.posP
      obtain ⟨tq, tc, c0, c1, -, -, -⟩ := hkr.sit.prs.cells
      clear HK hkr
      cases m with
      | zero => exact absurd hrun.symm HNA.out
      | succ m =>
        simp only [run] at hrun
        by_cases hlt : st1.pos < toks.length
        · rw [if_pos hlt] at hrun
          have hli : (st1.pos : Int) < (toks.length : Int) := by omega
          by_cases hfn : isP toks st1 ⟨#[102, 117, 110, 99]⟩ = true
          · rw [if_pos hfn] at hrun
            have HI1 : Hid (∀ W, Prs B pb toks st1 W tv1 → Calls Tryz.prog 28 #[.pointer (some ⟨pb, 0, none⟩), .string ⟨#[102, 117, 110, 99]⟩] W fun e w' => e = .returned (.bool true) ∧ Below W.heap.size W w') := fun W h => is_at hfn hn (by omega) h
            have HFN : Hid (∀ W, Prs B pb toks st1 W tv1 → run toks m .function st1 ≠ .na → Calls Tryz.prog 29 #[.pointer (some ⟨pb, 0, none⟩)] W (PO B pb toks W tv1 ret1 (run toks m .function st1))) := fun W h hx => c_func toks m B pb st1 W tv1 ⟨h, hn, hp1, htr⟩ hx
            cases hq : run toks m .function st1 with
            | na => rw [hq] at hrun; exact absurd hrun.symm HNA.out
            | bad =>
              rw [hq] at hrun HFN
              have HRR : Hid (R = .bad) := hrun.symm
              clear hrun hfn hq
              go_wp2
              go_quiet (fail)
              have HQ2 : Hid (KRel B pb toks w tv st1 (wr.drewN nq) tv1 kids (.slice ko kids.length kc)) := HKR.out.drew nq
              go_wp2_with fail
              refine (HI1.out _ HQ2.out.sit.prs).mono ?_
              rintro e w3 ⟨rfl, hb3⟩
              have HQ3 : Hid (KRel B pb toks w tv st1 w3 tv1 kids (.slice ko kids.length kc)) := HQ2.out.below hb3
              clear hb3
              go_wp2_with fail
              refine (HFN.out _ HQ3.out.sit.prs (by intro e; cases e)).mono ?_
              rintro e w4 ⟨rfl, tv4, m4⟩
              refine ⟨rfl, ?_⟩
              rw [HRR.out]
              exact ⟨rfl, _, HQ3.out.mv.trans m4⟩
            | ok r2 st2 =>
              have HS2 : Hid (∀ W tvx, Prs B pb toks st2 W tvx → Sit B pb toks st2 W tvx) := fun W tvx hx => HKR.out.sit.after hq rfl hx
              have hadv := func_adv hq
              obtain ⟨j1, j2, j3⟩ := run_inv toks _ _ _ _ _ hq hp1
              simp only [cst] at j3
              rw [hq] at hrun HFN
              simp only [Out.bind] at hrun
              split at hrun
              · rename_i k
                have HGO : Hid (∀ W, Prs B pb toks st1 W tv1 → Calls Tryz.prog 29 #[.pointer (some ⟨pb, 0, none⟩)] W (PO B pb toks W tv1 ret1 (.ok [k] st2))) := fun W h => HFN.out W h (by intro e; cases e)
                clear HFN
                by_cases hlt2 : st2.pos < toks.length
                · rw [if_pos hlt2] at hrun
                  have hli2 : (st2.pos : Int) < (toks.length : Int) := by omega
                  by_cases g59 : isP toks st2 ⟨#[59]⟩ = true
                  · rw [if_pos g59] at hrun
                    have HMU : Hid (∀ W tvx, Prs B pb toks st2 W tvx → Calls Tryz.prog 30 #[.pointer (some ⟨pb, 0, none⟩), .string ⟨#[59]⟩] W (PP B pb toks W tvx unitV (some ((), st2.next)))) := fun W tvx h => by
                      have := own_must B pb toks st2 W tvx ⟨#[59]⟩ h hn (by omega)
                      unfold mustP at this
                      rwa [g59, if_pos rfl] at this
                    have HNX : Hid (∀ W tvx v, KRel B pb toks w tv st2.next W tvx (kids ++ [k]) v → FRel B pb toks w tv n R (kids ++ [k]) v W ∧ posP pb W = st2.pos + 1) := fun W tvx v hx => ⟨⟨m, st2.next, tvx, by omega, hx, by simp; omega, hrun⟩, by rw [hx.sit.prs.posP]; rfl⟩
                    have HSN : Hid (∀ W' tv', Prs B pb toks st2.next W' tv' → Sit B pb toks st2.next W' tv') := fun W' tv' h => ⟨h, hn, by simp only [next_pos]; omega, by simp only [next_pos, next_tree]; omega⟩
                    clear hrun hfn hq g59 j3
                    generalize st2.next = st3 at *
                    go_wp2
                    go_quiet (fail)
                    have HQ2 : Hid (KRel B pb toks w tv st1 (wr.drewN nq) tv1 kids (.slice ko kids.length kc)) := HKR.out.drew nq
                    go_wp2_with fail
                    refine (HI1.out _ HQ2.out.sit.prs).mono ?_
                    rintro e w3 ⟨rfl, hb3⟩
                    have HQ3 : Hid (KRel B pb toks w tv st1 w3 tv1 kids (.slice ko kids.length kc)) := HQ2.out.below hb3
                    clear hb3
                    go_wp2_with fail
                    refine (HGO.out _ HQ3.out.sit.prs).mono ?_
                    rintro e w4 ⟨rfl, tv4, q4, m4⟩
                    have HQ4 : Hid (KRel B pb toks w tv st2 w4 tv4 kids (.slice ko kids.length kc)) := HQ3.out.step m4 (HS2.out _ _ q4)
                    have hB4 : B ≤ w4.heap.size := Nat.le_trans q4.low (Nat.le_of_lt q4.lt)
                    clear q4 m4
                    simp only [ret1]
                    go_wp2_with (at_builtin; refine wpList_append_own_at _ rfl _ _ 33 rfl B 3 i0 (.int .i64 0) 1 8 Tryz.underlying33 hi hz0 hz1 hz2 rfl (by decide) _ _ _ rfl (World.ownsRow.alloc HQ4.out.row _) ⟨w4.heap.size, 0, none⟩ 1 1 [.int .i64 (k : Int)] rfl rfl ?c1 ?c2 ?c3 ?c4 ?c5 ?_)
                    case c1 => exact cell_one_new _ _ _
                    case c2 => intro y hy; simp at hy; subst hy; rfl
                    case c3 => unfold maxLen; omega
                    case c4 => omega
                    case c5 => simp; omega
                    intro v6 w6 hown6 hgrow6 _ hat6
                    have hk6 := HQ4.out.put hgrow6 hown6 hat6
                    obtain ⟨ko', kc', rfl⟩ : ∃ a c, v6 = .slice a (kids ++ [k]).length c := by
                      rcases hown6.2 with ⟨_, h0⟩ | ⟨g, cap, cur, hv, _⟩
                      · omega
                      · exact ⟨some ⟨g, 0, none⟩, cap, by rw [hv]; simp⟩
                    have HQ6 : Hid (KRel B pb toks w tv st2 w6 tv4 (kids ++ [k]) (.slice ko' (kids ++ [k]).length kc')) := hk6
                    obtain ⟨tq6, tc6, d0, d1, -, -, -⟩ := hk6.sit.prs.cells
                    clear hk6 hown6 hgrow6 hat6
                    go_wp2
                    go_quiet (fail)
                    have HQ7 : Hid (KRel B pb toks w tv st2 (w6.drewN nq) tv4 (kids ++ [k]) (.slice ko' (kids ++ [k]).length kc')) := HQ6.out.drew nq
                    go_wp2_with fail
                    refine (HMU.out _ _ HQ7.out.sit.prs).mono ?_
                    rintro e w8 ⟨rfl, tv8, q8, m8⟩
                    obtain ⟨hr8, hp8⟩ := HNX.out w8 tv8 _ (HQ7.out.step m8 (HSN.out _ _ q8))
                    have HREL : Hid (FRel B pb toks w tv n R (kids ++ [k]) (.slice ko' (kids ++ [k]).length kc') w8) := hr8
                    have HPOS : Hid (posP pb w8 = st2.pos + 1) := hp8
                    clear q8 m8 hr8 hp8
                    go_wp2
                    exact ⟨⟨kids ++ [k], ko', kc', by first | rfl | simp, (by first | exact HREL.out | (have h := HREL.out; rw [List.length_append] at h; exact h))⟩, by rw [HPOS.out, HPP.out]; omega⟩
                  · rw [if_neg g59] at hrun
                    have e59' : isP toks st2 ⟨#[59]⟩ = false := by simpa using g59
                    have HRR : Hid (R = .bad) := hrun.symm
                    have HMU : Hid (∀ W tvx, Prs B pb toks st2 W tvx → Calls Tryz.prog 30 #[.pointer (some ⟨pb, 0, none⟩), .string ⟨#[59]⟩] W (PP B pb toks W tvx unitV none)) := fun W tvx h => by
                      have := own_must B pb toks st2 W tvx ⟨#[59]⟩ h hn (by omega)
                      unfold mustP at this
                      rwa [e59', if_neg (by decide)] at this
                    clear hrun hfn hq g59 e59' j3
                    go_wp2
                    go_quiet (fail)
                    have HQ2 : Hid (KRel B pb toks w tv st1 (wr.drewN nq) tv1 kids (.slice ko kids.length kc)) := HKR.out.drew nq
                    go_wp2_with fail
                    refine (HI1.out _ HQ2.out.sit.prs).mono ?_
                    rintro e w3 ⟨rfl, hb3⟩
                    have HQ3 : Hid (KRel B pb toks w tv st1 w3 tv1 kids (.slice ko kids.length kc)) := HQ2.out.below hb3
                    clear hb3
                    go_wp2_with fail
                    refine (HGO.out _ HQ3.out.sit.prs).mono ?_
                    rintro e w4 ⟨rfl, tv4, q4, m4⟩
                    have HQ4 : Hid (KRel B pb toks w tv st2 w4 tv4 kids (.slice ko kids.length kc)) := HQ3.out.step m4 (HS2.out _ _ q4)
                    have hB4 : B ≤ w4.heap.size := Nat.le_trans q4.low (Nat.le_of_lt q4.lt)
                    clear q4 m4
                    simp only [ret1]
                    go_wp2_with (at_builtin; refine wpList_append_own_at _ rfl _ _ 33 rfl B 3 i0 (.int .i64 0) 1 8 Tryz.underlying33 hi hz0 hz1 hz2 rfl (by decide) _ _ _ rfl (World.ownsRow.alloc HQ4.out.row _) ⟨w4.heap.size, 0, none⟩ 1 1 [.int .i64 (k : Int)] rfl rfl ?c1 ?c2 ?c3 ?c4 ?c5 ?_)
                    case c1 => exact cell_one_new _ _ _
                    case c2 => intro y hy; simp at hy; subst hy; rfl
                    case c3 => unfold maxLen; omega
                    case c4 => omega
                    case c5 => simp; omega
                    intro v6 w6 hown6 hgrow6 _ hat6
                    have hk6 := HQ4.out.put hgrow6 hown6 hat6
                    obtain ⟨ko', kc', rfl⟩ : ∃ a c, v6 = .slice a (kids ++ [k]).length c := by
                      rcases hown6.2 with ⟨_, h0⟩ | ⟨g, cap, cur, hv, _⟩
                      · omega
                      · exact ⟨some ⟨g, 0, none⟩, cap, by rw [hv]; simp⟩
                    have HQ6 : Hid (KRel B pb toks w tv st2 w6 tv4 (kids ++ [k]) (.slice ko' (kids ++ [k]).length kc')) := hk6
                    obtain ⟨tq6, tc6, d0, d1, -, -, -⟩ := hk6.sit.prs.cells
                    clear hk6 hown6 hgrow6 hat6
                    go_wp2
                    go_quiet (fail)
                    have HQ7 : Hid (KRel B pb toks w tv st2 (w6.drewN nq) tv4 (kids ++ [k]) (.slice ko' (kids ++ [k]).length kc')) := HQ6.out.drew nq
                    go_wp2_with fail
                    refine (HMU.out _ _ HQ7.out.sit.prs).mono ?_
                    rintro e w8 ⟨rfl, tv8, m8⟩
                    refine ⟨rfl, ?_⟩
                    rw [HRR.out]
                    exact ⟨rfl, _, HQ7.out.mv.trans m8⟩
                · rw [if_neg hlt2] at hrun
                  have hli2 : ¬ (st2.pos : Int) < (toks.length : Int) := by omega
                  have HNX : Hid (∀ W tvx v, KRel B pb toks w tv st2 W tvx (kids ++ [k]) v → FRel B pb toks w tv n R (kids ++ [k]) v W ∧ posP pb W = st2.pos) := fun W tvx v hx => ⟨⟨m, st2, tvx, by omega, hx, by simp; omega, hrun⟩, hx.sit.prs.posP⟩
                  clear hrun hfn hq j3
                  go_wp2
                  go_quiet (fail)
                  have HQ2 : Hid (KRel B pb toks w tv st1 (wr.drewN nq) tv1 kids (.slice ko kids.length kc)) := HKR.out.drew nq
                  go_wp2_with fail
                  refine (HI1.out _ HQ2.out.sit.prs).mono ?_
                  rintro e w3 ⟨rfl, hb3⟩
                  have HQ3 : Hid (KRel B pb toks w tv st1 w3 tv1 kids (.slice ko kids.length kc)) := HQ2.out.below hb3
                  clear hb3
                  go_wp2_with fail
                  refine (HGO.out _ HQ3.out.sit.prs).mono ?_
                  rintro e w4 ⟨rfl, tv4, q4, m4⟩
                  have HQ4 : Hid (KRel B pb toks w tv st2 w4 tv4 kids (.slice ko kids.length kc)) := HQ3.out.step m4 (HS2.out _ _ q4)
                  have hB4 : B ≤ w4.heap.size := Nat.le_trans q4.low (Nat.le_of_lt q4.lt)
                  clear q4 m4
                  simp only [ret1]
                  go_wp2_with (at_builtin; refine wpList_append_own_at _ rfl _ _ 33 rfl B 3 i0 (.int .i64 0) 1 8 Tryz.underlying33 hi hz0 hz1 hz2 rfl (by decide) _ _ _ rfl (World.ownsRow.alloc HQ4.out.row _) ⟨w4.heap.size, 0, none⟩ 1 1 [.int .i64 (k : Int)] rfl rfl ?c1 ?c2 ?c3 ?c4 ?c5 ?_)
                  case c1 => exact cell_one_new _ _ _
                  case c2 => intro y hy; simp at hy; subst hy; rfl
                  case c3 => unfold maxLen; omega
                  case c4 => omega
                  case c5 => simp; omega
                  intro v6 w6 hown6 hgrow6 _ hat6
                  have hk6 := HQ4.out.put hgrow6 hown6 hat6
                  obtain ⟨ko', kc', rfl⟩ : ∃ a c, v6 = .slice a (kids ++ [k]).length c := by
                    rcases hown6.2 with ⟨_, h0⟩ | ⟨g, cap, cur, hv, _⟩
                    · omega
                    · exact ⟨some ⟨g, 0, none⟩, cap, by rw [hv]; simp⟩
                  have HQ6 : Hid (KRel B pb toks w tv st2 w6 tv4 (kids ++ [k]) (.slice ko' (kids ++ [k]).length kc')) := hk6
                  obtain ⟨tq6, tc6, d0, d1, -, -, -⟩ := hk6.sit.prs.cells
                  clear hk6 hown6 hgrow6 hat6
                  go_wp2
                  go_quiet (fail)
                  have HQ7 : Hid (KRel B pb toks w tv st2 (w6.drewN nq) tv4 (kids ++ [k]) (.slice ko' (kids ++ [k]).length kc')) := HQ6.out.drew nq
                  obtain ⟨hr8, hp8⟩ := HNX.out _ tv4 _ HQ7.out
                  have HREL : Hid (FRel B pb toks w tv n R (kids ++ [k]) (.slice ko' (kids ++ [k]).length kc') (w6.drewN nq)) := hr8
                  have HPOS : Hid (posP pb (w6.drewN nq) = st2.pos) := hp8
                  clear hr8 hp8
                  go_wp2
                  exact ⟨⟨kids ++ [k], ko', kc', by first | rfl | simp, (by first | exact HREL.out | (have h := HREL.out; rw [List.length_append] at h; exact h))⟩, by rw [HPOS.out, HPP.out]; omega⟩
              · exact absurd hrun.symm HNA.out
          · rw [if_neg hfn] at hrun
            have efn : isP toks st1 ⟨#[102, 117, 110, 99]⟩ = false := by simpa using hfn
            have HI1 : Hid (∀ W, Prs B pb toks st1 W tv1 → Calls Tryz.prog 28 #[.pointer (some ⟨pb, 0, none⟩), .string ⟨#[102, 117, 110, 99]⟩] W fun e w' => e = .returned (.bool false) ∧ Below W.heap.size W w') := fun W h => is_at efn hn (by omega) h
            by_cases g59 : isP toks st1 ⟨#[59]⟩ = true
            · rw [if_pos g59] at hrun
              have HMU : Hid (∀ W tvx, Prs B pb toks st1 W tvx → Calls Tryz.prog 30 #[.pointer (some ⟨pb, 0, none⟩), .string ⟨#[59]⟩] W (PP B pb toks W tvx unitV (some ((), st1.next)))) := fun W tvx h => by
                have := own_must B pb toks st1 W tvx ⟨#[59]⟩ h hn (by omega)
                unfold mustP at this
                rwa [g59, if_pos rfl] at this
              have HNX : Hid (∀ W tvx v, KRel B pb toks w tv st1.next W tvx kids v → FRel B pb toks w tv n R kids v W ∧ posP pb W = st1.pos + 1) := fun W tvx v hx => ⟨⟨m, st1.next, tvx, by omega, hx, by simp only [next_pos]; omega, hrun⟩, by rw [hx.sit.prs.posP]; rfl⟩
              have HSN : Hid (∀ W' tv', Prs B pb toks st1.next W' tv' → Sit B pb toks st1.next W' tv') := fun W' tv' h => ⟨h, hn, by simp only [next_pos]; omega, by simp only [next_pos, next_tree]; omega⟩
              clear hrun hfn efn g59
              generalize st1.next = st3 at *
              go_wp2
              go_quiet (fail)
              have HQ2 : Hid (KRel B pb toks w tv st1 (wr.drewN nq) tv1 kids (.slice ko kids.length kc)) := HKR.out.drew nq
              go_wp2_with fail
              refine (HI1.out _ HQ2.out.sit.prs).mono ?_
              rintro e w3 ⟨rfl, hb3⟩
              have HQ3 : Hid (KRel B pb toks w tv st1 w3 tv1 kids (.slice ko kids.length kc)) := HQ2.out.below hb3
              obtain ⟨tq3, tc3, d0, d1, -, -, -⟩ := HQ3.out.sit.prs.cells
              clear hb3
              go_wp2
              go_quiet (fail)
              have HQ7 : Hid (KRel B pb toks w tv st1 (w3.drewN nq) tv1 kids (.slice ko kids.length kc)) := HQ3.out.drew nq
              go_wp2_with fail
              refine (HMU.out _ _ HQ7.out.sit.prs).mono ?_
              rintro e w8 ⟨rfl, tv8, q8, m8⟩
              obtain ⟨hr8, hp8⟩ := HNX.out w8 tv8 _ (HQ7.out.step m8 (HSN.out _ _ q8))
              have HREL : Hid (FRel B pb toks w tv n R kids (.slice ko kids.length kc) w8) := hr8
              have HPOS : Hid (posP pb w8 = st1.pos + 1) := hp8
              clear q8 m8 hr8 hp8
              go_wp2
              exact ⟨⟨kids, ko, kc, rfl, HREL.out⟩, by rw [HPOS.out, HPP.out]; omega⟩
            · rw [if_neg g59] at hrun
              have e59' : isP toks st1 ⟨#[59]⟩ = false := by simpa using g59
              have HRR : Hid (R = .bad) := hrun.symm
              have HMU : Hid (∀ W tvx, Prs B pb toks st1 W tvx → Calls Tryz.prog 30 #[.pointer (some ⟨pb, 0, none⟩), .string ⟨#[59]⟩] W (PP B pb toks W tvx unitV none)) := fun W tvx h => by
                have := own_must B pb toks st1 W tvx ⟨#[59]⟩ h hn (by omega)
                unfold mustP at this
                rwa [e59', if_neg (by decide)] at this
              clear hrun hfn efn g59 e59'
              go_wp2
              go_quiet (fail)
              have HQ2 : Hid (KRel B pb toks w tv st1 (wr.drewN nq) tv1 kids (.slice ko kids.length kc)) := HKR.out.drew nq
              go_wp2_with fail
              refine (HI1.out _ HQ2.out.sit.prs).mono ?_
              rintro e w3 ⟨rfl, hb3⟩
              have HQ3 : Hid (KRel B pb toks w tv st1 w3 tv1 kids (.slice ko kids.length kc)) := HQ2.out.below hb3
              obtain ⟨tq3, tc3, d0, d1, -, -, -⟩ := HQ3.out.sit.prs.cells
              clear hb3
              go_wp2
              go_quiet (fail)
              have HQ7 : Hid (KRel B pb toks w tv st1 (w3.drewN nq) tv1 kids (.slice ko kids.length kc)) := HQ3.out.drew nq
              go_wp2_with fail
              refine (HMU.out _ _ HQ7.out.sit.prs).mono ?_
              rintro e w8 ⟨rfl, tv8, m8⟩
              refine ⟨rfl, ?_⟩
              rw [HRR.out]
              exact ⟨rfl, _, HQ7.out.mv.trans m8⟩
        · rw [if_neg hlt] at hrun
          have hli : ¬ (st1.pos : Int) < (toks.length : Int) := by omega
          have HRR : Hid (R = .ok [] (st1.lay ⟨1, ⟨#[]⟩, ⟨#[]⟩, 0, kids⟩)) := hrun.symm
          have HLA : Hid (∀ W, Prs B pb toks st1 W tv1 → W.ownsRow B 3 1 (.slice ko kids.length kc) kids.length (kcells kids) → Calls Tryz.prog 31 #[.pointer (some ⟨pb, 0, none⟩), Nd.val ⟨1, ⟨#[]⟩, ⟨#[]⟩, 0, kids⟩ (.slice ko kids.length kc)] W fun e w' => e = .returned (.int .i64 st1.tree.length) ∧ ∃ tv', Prs B pb toks (st1.lay ⟨1, ⟨#[]⟩, ⟨#[]⟩, 0, kids⟩) w' tv' ∧ MvX pb (Value.slice ko kids.length kc).ownBlock W tv1 w' tv') := fun W h hrow => own_lay B pb toks st1 W tv1 ⟨1, ⟨#[]⟩, ⟨#[]⟩, 0, kids⟩ ko kids.length kc h hrow (by omega)
          unfold Nd.val at HLA
          generalize st1.lay ⟨1, ⟨#[]⟩, ⟨#[]⟩, 0, kids⟩ = st3 at *
          clear hrun
          go_wp2
          go_quiet (fail)
          have HQ2 : Hid (KRel B pb toks w tv st1 (wr.drewN nq) tv1 kids (.slice ko kids.length kc)) := HKR.out.drew nq
          go_wp2_with fail
          refine (HLA.out _ HQ2.out.sit.prs HQ2.out.row).mono ?_
          rintro e w3 ⟨rfl, tv3, q3, m3⟩
          have HQ3 : Hid (Prs B pb toks st3 w3 tv3 ∧ Mv pb w tv w3 tv3) := ⟨q3, HQ2.out.mv.then m3 (fun q hq => (HQ2.out.far q hq).1)⟩
          clear q3 m3
          go_wp2
          go_end0
          rw [HRR.out]
          exact ⟨rfl, _, HQ3.out⟩
end Go.Proofs.YtpdndpajobfhmabGreatDoor
