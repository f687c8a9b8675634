/-
  For every list of events without a panic (made such as may happen): recover gives nothing, no panic is in flight, and nothing crashes.
-/
import Derived.Test.YtcnpoldcebdhjabPquiet
import Derived.Test.YtcnpoldcebdhjabEcame
import Derived.BigQuiet
import Derived.SizedLaws
import Derived.JoinedCond
namespace Go.Proofs.Ytcnpoldcebdhjab.panicsQuiet
open Go.ChangeShapes Go.WideShapes Go.ChangeAt Go.RowKit
open Go.WideMaps Go.WideElems
open Go.ChangeMaps (open_string shut_string)
set_option linter.unusedVariables false
set_option linter.unusedSimpArgs false
set_option maxRecDepth 100000

theorem own : ownKnob Try.prog.godebug = none := by kernel_rfl

set_option maxHeartbeats 2000000 in
theorem walk (v0 : Value) (es0 : List Eo) (w : World) (hv0 : EvSrc w v0 es0) (hz0 : es0.length ≤ 140737488351232) :
    Calls Try.prog 3 #[v0] w fun e w' => e = .returned (.bool true) ∧ Below w.heap.size w w' := by
  have HEV : Hid (EvSrc w v0 es0 ∧ es0.length ≤ 140737488351232) := ⟨hv0, hz0⟩
  obtain ⟨vo, vc, hsh⟩ := hv0.row.shape
  subst hsh
  clear hv0 hz0
  go_enter Try.func3, Try.ntmps3
  go_wp2_with fail
  refine (own_events _ es0 w HEV.out.1 HEV.out.2).mono ?_
  rintro e w1 ⟨v1, es1, rfl, hrow, hmap, hb1⟩
  have HOK1 := Hid.mk' (evs_ok hmap)
  have HB1 := Hid.mk' hb1
  obtain ⟨vo1, vc1, hsh1⟩ := row_slice hrow
  subst hsh1
  obtain ⟨n, hn1⟩ : ∃ n, n = es1.length := ⟨_, rfl⟩
  have HLEN : Hid (n = es1.length) := hn1
  have hnb : n ≤ 400 := by have := HOK1.out.1; omega
  have HROW : Hid (w1.ownsRow w.heap.size 28 6 (.slice vo1 n vc1) (qz 0 es1).length (rc Eo.cells (qz 0 es1))) := by show World.ownsRow _ _ _ _ _ _ _; rw [qz_zero, hn1]; exact hrow
  rw [← hn1]
  clear hrow hmap hb1 hn1
  go_wp2_with fail
  go_loopw [3] (fun s3 wr => ∃ (k : Nat), k ≤ n ∧ s3 = .int .i64 k ∧ Hid (wr.ownsRow w.heap.size 28 6 (.slice vo1 n vc1) (qz k es1).length (rc Eo.cells (qz k es1))) ∧ Hid (Below w.heap.size w wr)) (fun i _ => n - (intOf i).toNat)
  case atStart => exact ⟨0, Nat.zero_le _, rfl, HROW.out, HB1.out⟩
  case round =>
    obtain ⟨k, hk, rfl, HR, HB⟩ := hrel
    obtain ⟨wq, hwq⟩ : ∃ x, x = wr := ⟨_, rfl⟩
    subst hwq
    by_cases hlt : k < n
    · have hlti : (k : Int) < (n : Int) := by omega
      obtain ⟨e, he⟩ : ∃ e, es1[k]? = some e := ⟨es1[k]'(by rw [← HLEN.out]; exact hlt), List.getElem?_eq_getElem _⟩
      have HE := Hid.mk' he
      obtain ⟨g, cap, hv, hBg, hg, hc, hf, -⟩ := own_at Eo.len HR.out (qz_get he)
      simp only [Value.slice.injEq] at hv
      have hvo := hv.1
      subst hvo
      have c0 : wq.cell? ⟨g, k * 6, none⟩ = some (.int .i64 e.x.k) := by have := hc 0 _ rfl; simpa using this
      have f0 : wq.frozen? ⟨g, k * 6, none⟩ = false := hf _
      have HBG := Hid.mk' hBg
      clear hv hBg hg hc hf he
      by_cases h4 : e.x.k = 4
      · have h4b : (e.x.k == 4) = true := by simpa using h4
        have HS : Hid ((wq.setCell ⟨g, k * 6, none⟩ (.int .i64 2)).ownsRow w.heap.size 28 6 (.slice (some ⟨g, 0, none⟩) n vc1) (qz (k + 1) es1).length (rc Eo.cells (qz (k + 1) es1))) := by
          have h := own_set Eo.len HR.out (k := k) (i := 0) (e' := q1 e) (u := .int .i64 2) (qz_get HE.out) (by decide) (by simp [q1, h4, Eo.cells])
          rw [qz_step HE.out, Nat.add_zero, qz_len, ← qz_len (k + 1) es1] at h
          exact h
        have HBS : Hid (Below w.heap.size w (wq.setCell ⟨g, k * 6, none⟩ (.int .i64 2))) := HB.out.setCell HBG.out _
        clear h4
        go_wp2_with fail
        go_roundw
        case rel => exact ⟨k + 1, by omega, by go_num, HS.out, HBS.out⟩
        case measure => simp [intOf]; omega
      · have h4b : (e.x.k == 4) = false := by simpa using h4
        have HS : Hid (wq.ownsRow w.heap.size 28 6 (.slice (some ⟨g, 0, none⟩) n vc1) (qz (k + 1) es1).length (rc Eo.cells (qz (k + 1) es1))) := by
          have h := HR.out
          rw [qz_same HE.out h4] at h
          exact h
        clear h4
        go_wp2_with fail
        go_roundw
        case rel => exact ⟨k + 1, by omega, by go_num, HS.out, HB.out⟩
        case measure => simp [intOf]; omega
    · have hke : k = n := by omega
      subst hke
      have hlti : ¬ (k : Int) < (k : Int) := by omega
      have HFULL : Hid (wq.ownsRow w.heap.size 28 6 (.slice vo1 k vc1) (es1.map q1).length (rc Eo.cells (es1.map q1))) := by
        have h := HR.out
        rw [show qz k es1 = es1.map q1 by rw [HLEN.out, qz_full]] at h
        exact h
      have HL2 : Hid ((es1.map q1).length ≤ 400) := by show _ ≤ _; rw [List.length_map]; exact HOK1.out.1
      have HN2 : Hid (∀ e ∈ es1.map q1, Norm e.x ∧ e.x.k ≠ 4) := fun e he => by
        obtain ⟨e2, h2, rfl⟩ := List.mem_map.1 he
        exact q1_norm (HOK1.out.2 e2 h2)
      generalize es1.map q1 = es2 at *
      go_wp2_with fail
      refine (own_playedE _ es2 _ w.heap.size HFULL.out HL2.out (fun e he => (HN2.out e he).1)).mono ?_
      rintro e w2 ⟨so, sc, ao, ac, ss, ts, rfl, hp, hb2⟩
      have HP := Hid.mk' hp
      have HB2 : Hid (Below w.heap.size w w2) := HB.out.trans (hb2.mono HB.out.size)
      have HQ := Hid.mk' (hp.quiet (fun e he => by obtain ⟨e2, h2, rfl⟩ := List.mem_map.1 he; exact (HN2.out e2 h2).2))
      have HSLEN : Hid (ss.length = ts.length + 1) := hp.len
      have htl := hp.short
      have HTD : Hid (∀ u, Below w2.heap.size w2 u → ∀ k (t : To), ts[k]? = some t → ∃ ga, ao = some ⟨ga, 0, none⟩ ∧ u.cell? ⟨ga, k, none⟩ = some (.slice t.to t.td.length t.tc) ∧ ∀ i (x : Tl), t.td[i]? = some x → ∃ gt, t.to = some ⟨gt, 0, none⟩ ∧ u.cell? ⟨gt, i * 7, none⟩ = some (.int .i64 x.k) ∧ u.cell? ⟨gt, i * 7 + 1, none⟩ = some (.int .i64 x.n) ∧ u.cell? ⟨gt, i * 7 + 2, none⟩ = some (.int .i64 x.to) ∧ u.cell? ⟨gt, i * 7 + 3, none⟩ = some (.int .i64 x.v.k) ∧ u.cell? ⟨gt, i * 7 + 4, none⟩ = some (.int .i64 x.v.n) ∧ u.cell? ⟨gt, i * 7 + 5, none⟩ = some (.string x.v.s) ∧ u.cell? ⟨gt, i * 7 + 6, none⟩ = some (.slice none 0 0)) := fun u hu k t hk => by
        obtain ⟨ga, cap, hv, -, hga, hcc, -, -⟩ := own_at To.len (HP.out.below hu).trow hk
        simp only [Value.slice.injEq] at hv
        refine ⟨ga, hv.1, by have := hcc 0 _ rfl; simpa using this, fun i x hx => ?_⟩
        obtain ⟨gt, cap2, hv2, -, hgt, hc2, -, -⟩ := own_at Tl.len ((HP.out.below hu).told t (List.mem_of_getElem? hk)) hx
        simp only [Value.slice.injEq] at hv2
        exact ⟨gt, hv2.1, by have := hc2 0 _ rfl; simpa using this, hc2 1 _ rfl, hc2 2 _ rfl, hc2 3 _ rfl, hc2 4 _ rfl, hc2 5 _ rfl, hc2 6 _ rfl⟩
      have HTL : Hid (∀ t ∈ ts, t.td.length ≤ 9223372036854775807) := fun t ht => row_max (hp.told t ht)
      have HSC : Hid (∀ u, Below w2.heap.size w2 u → ∀ k, k < ts.length → ∃ gs s, so = some ⟨gs, 0, none⟩ ∧ u.cell? ⟨gs, (k + 1) * 6 + 1, none⟩ = some (.slice (So.po s) 0 (So.pc s))) := fun u hu k hk => by
        obtain ⟨s, hs⟩ : ∃ s, ss[k + 1]? = some s := ⟨ss[k + 1]'(by rw [hp.len]; omega), List.getElem?_eq_getElem _⟩
        obtain ⟨gs, hso, hg, hc⟩ := HP.out.at hs
        have h0 : s.st.ps = [] := HQ.out.2 k s hs
        obtain ⟨-, c1, -⟩ := hc u hu
        rw [h0] at c1
        exact ⟨gs, s, hso, c1⟩
      obtain ⟨m, hm⟩ : ∃ m, m = ts.length := ⟨_, rfl⟩
      have HM : Hid (m = ts.length) := hm
      rw [← hm] at htl HSC ⊢
      clear hp hb2 hm hk hlt hnb
      go_wp2_with fail
      go_loopw [7] (fun s7 wr => ∃ (k : Nat), k ≤ m ∧ s7 = .int .i64 k ∧ Hid (Below w2.heap.size w2 wr)) (fun i _ => m - (intOf i).toNat)
      case atStart => exact ⟨0, Nat.zero_le _, rfl, Below.refl _ _⟩
      case round =>
        obtain ⟨j, hj, rfl, HBj⟩ := hrel
        obtain ⟨wj, hwj⟩ : ∃ x, x = wr := ⟨_, rfl⟩
        subst hwj
        by_cases hjl : j < m
        · have hjli : (j : Int) < (m : Int) := by omega
          obtain ⟨t, ht⟩ : ∃ t, ts[j]? = some t := ⟨ts[j]'(by rw [← HM.out]; exact hjl), List.getElem?_eq_getElem _⟩
          obtain ⟨ga, hao, k0, -⟩ := HTD.out wj HBj.out j t ht
          subst hao
          have HT := Hid.mk' ht
          have htb := HTL.out t (List.mem_of_getElem? ht)
          have HQT : Hid (∀ x ∈ t.td, qb x = true) := HQ.out.1 t (List.mem_of_getElem? ht)
          clear ht
          go_wp2_with fail
          go_loopw [47] (fun s47 wr => ∃ (i : Nat), i ≤ t.td.length ∧ s47 = .int .i64 i ∧ Hid (Below w2.heap.size w2 wr)) (fun i _ => t.td.length - (intOf i).toNat)
          case atStart => exact ⟨0, Nat.zero_le _, rfl, HBj.out⟩
          case round =>
            obtain ⟨i, hi, rfl, HBu⟩ := hrel
            obtain ⟨uq, huq⟩ : ∃ x, x = wr := ⟨_, rfl⟩
            subst huq
            by_cases hil : i < t.td.length
            · have hili : (i : Int) < (t.td.length : Int) := by omega
              obtain ⟨x, hx⟩ : ∃ x, t.td[i]? = some x := ⟨_, List.getElem?_eq_getElem hil⟩
              obtain ⟨-, -, -, hcell⟩ := HTD.out uq HBu.out j t HT.out
              obtain ⟨gt, hto, x0, x1, x2, x3, x4, x5, x6⟩ := hcell i x hx
              have hqb := HQT.out x (List.mem_of_getElem? hx)
              have HBN : Hid (∀ o, Below w2.heap.size w2 (uq.alloc o)) := fun o => HBu.out.trans (((Below.refl _ _).alloc (Nat.le_refl _) o).mono HBu.out.size)
              have h5b : (x.k == 5) = false := by unfold qb at hqb; cases h : (x.k == 5) with | true => simp [bne, h] at hqb | false => rfl
              have h4b : (x.k == 4) = false := by unfold qb at hqb; cases h : (x.k == 4) with | true => simp [bne, h] at hqb | false => rfl
              have h27 : (x.n == 2) = true → (x.k == 7) = false := fun h => by unfold qb at hqb; cases h7 : (x.k == 7) with | true => simp [bne, h, h7] at hqb | false => rfl
              clear hx hcell hqb
              rw [hto] at k0
              cases h2 : (x.n == 2) with
              | true =>
                have h7b := h27 h2
                clear h27
                go_wp2_with fail
                go_roundw
                case rel => exact ⟨i + 1, by omega, by go_num, HBN.out _⟩
                case measure => simp [intOf]; omega
              | false =>
                clear h27
                go_wp2_with fail
                go_roundw
                case rel => exact ⟨i + 1, by omega, by go_num, HBN.out _⟩
                case measure => simp [intOf]; omega
            · have hie : t.td.length = i := by omega
              obtain ⟨gs, s, hso, cs⟩ := HSC.out uq HBu.out j hjl
              subst hso
              have hj1 : (j : Int) + 1 < (m : Int) + 1 := by omega
              have hj0 : (0 : Int) ≤ (j : Int) + 1 := by omega
              go_wp2_with fail
              go_roundw
              case rel => exact ⟨j + 1, by omega, by go_num, HBu.out⟩
              case measure => simp [intOf]; omega
        · have HF : Hid (Below w.heap.size w wj) := HB2.out.trans (HBj.out.mono HB2.out.size)
          go_wp2_with fail
          go_ret
          exact ⟨rfl, HF.out⟩

theorem contract (H : Type) (enc : TypeId × Value → H) (W : World) (base : Nat) (args : Array Value) (ds gs : List (DataW H)) (before : List MemPlace)
    (hval : ∀ (j : Nat) t v, Try.f3.params[j]? = some t → args[j]? = some v → Value.okWide Try.prog W .any base t v)
    (hW : DataW.Whole enc Try.prog Try.f3.params.toList Rows.panicsQuietSpec.vars false W args.toList ds gs before)
    (hsz : (DataW.weightsEach Try.prog (Try.f3.params.toList ++ Rows.panicsQuietSpec.plain.varTypes Try.prog) (ds ++ gs)).all (· ≤ reachBytes) = true) :
    Calls Try.prog 3 args W fun e W' => ∃ v, e = .returned v ∧ Rows.panicsQuietSpec.post enc Try.prog Try.f3 false true false false W args v W' := by
  have hW' := hW
  obtain ⟨p, q, hA0, hV, rfl, hfz, hnd⟩ := hW
  have hA : DataW.TrodAll enc Try.prog W 0 (fun _ => true) true Try.f3.params.toList args.toList ds p := hA0
  rw [Try.params3] at hA hval hsz
  obtain ⟨v0, vs0, d0, ds0, p0, q0, hargs, rfl, rfl, h0, r0⟩ := trodAll_cons hA
  obtain ⟨rfl, rfl, rfl⟩ := trodAll_nil r0
  obtain rfl : args = #[v0] := by cases args; simp_all
  obtain ⟨rfl, rfl⟩ := trodVars_none hV
  obtain ⟨ao0, len0, cap0, rfl⟩ := okWide_slice Try.underlying22 (hval 0 22 v0 rfl rfl)
  obtain ⟨es0, hC0, hN0⟩ := evs_came (j := 0) h0 hsz rfl rfl
  clear hA0
  simp only [List.append_nil] at hW'
  have hlt0 : ∀ x ∈ p0, x.block < W.heap.size := fun x hx => hW'.lt x (by simp [hx])
  refine (walk _ es0 W hC0 hN0).mono fun e W' ⟨he, bel⟩ => ?_
  subst he
  exact ⟨_, rfl, _, _, _, [], p0 ++ [], [], hW', trodAll_mk1 (shut_bool Try.underlying4 _), (trodAll_cons_mk (Below.trod (by kernel_rfl) (by kernel_rfl) (of_decide_eq_true (by kernel_rfl)) h0 bel hlt0) trodAll_mk0), rfl, bel.frame _, fun h => by cases h⟩

set_option maxRecDepth 100000 in
theorem lifted (os : Os) (started : os.Started) (H : Type) (enc : TypeId × Value → H) :
    ReturnsInHanded {} Try.checked os 3 .any (Rows.panicsQuietSpec.pre6 enc Try.prog Try.f3 Rows.panicsQuietRow.domain false) (Rows.panicsQuietSpec.post enc Try.prog Try.f3 false true false false) := by
  refine returnsInHanded_of_change_sized (C := Try.checked) own started (by kernel_rfl) Try.func3
    (ChangeSpec.witness6 (enc := enc) (C := Try.checked) false ⟨#[], #[.slice none 0 0], []⟩ 8 (by kernel_rfl) (by kernel_rfl) (by kernel_rfl) (by kernel_rfl)) ?_
  intro W base args ds gs before hval0 hW hcnd hsz _
  exact contract H enc W base args ds gs before hval0 hW hsz

theorem proved : Rows.PanicsQuietSaid :=
  OpenClaim.holds_of_wide 3 Try.f3 rfl rfl rfl rfl rfl rfl rfl ⟨rfl, rfl, rfl, rfl, rfl⟩ rfl rfl rfl rfl rfl (by kernel_rfl) Try.func3 (by kernel_rfl)
    (of_decide_eq_true (by kernel_rfl)) (by unfold Func.isWrapper; first | (rw [if_pos (by decide +kernel)]; kernel_rfl) | (rw [if_neg (by decide +kernel)]; exact ⟨rfl, rfl⟩))
    (fun os started H enc _ => lifted os started H enc)
#print axioms proved
end Go.Proofs.Ytcnpoldcebdhjab.panicsQuiet
