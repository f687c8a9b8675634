/-
  For every list of events (made such as may happen): playing it whole and playing it step by step come to the same.
-/
import Derived.Test.YtcnpoldcebdhjaaPcut2
import Derived.Test.YtcnpoldcebdhjaaEcame
import Derived.BigQuiet
import Derived.SizedLaws
import Derived.JoinedCond
namespace Go.Proofs.Ytcnpoldcebdhjaa.panicsCut
open Go.ChangeShapes Go.WideShapes Go.ChangeAt Go.RowKit
open Go.WideMaps Go.WideElems
open Go.ChangeMaps (open_string shut_string)
set_option linter.unusedVariables false
set_option linter.unusedSimpArgs false
set_option maxRecDepth 100000

theorem own : ownKnob Try.prog.godebug = none := by kernel_rfl

set_option maxHeartbeats 2000000 in
theorem walk (v0 : Value) (es0 : List Eo) (w : World) (hv0 : EvSrc w v0 es0) (hz0 : es0.length ≤ 140737488351232) :
    Calls Try.prog 7 #[v0] w fun e w' => e = .returned (.bool true) ∧ Below w.heap.size w w' := by
  have HEV : Hid (EvSrc w v0 es0 ∧ es0.length ≤ 140737488351232) := ⟨hv0, hz0⟩
  obtain ⟨vo, vc, hsh⟩ := hv0.row.shape
  subst hsh
  clear hv0 hz0
  go_enter Try.func7, Try.ntmps7
  go_wp2_with fail
  refine (own_events2 _ es0 w HEV.out.1 HEV.out.2).mono ?_
  rintro e w1 ⟨v1, es1, rfl, hrow, hmap, hlists, hb1⟩
  have HROW := Hid.mk' hrow
  have HOK1 := Hid.mk' (evs_ok hmap)
  have HLS := Hid.mk' hlists
  have HMAP := Hid.mk' (evs_same hmap)
  have HB1 := Hid.mk' hb1
  obtain ⟨vo1, vc1, hsh1⟩ := row_slice hrow
  subst hsh1
  clear hrow hmap hb1 hlists
  go_wp2_with fail
  refine (own_playedE _ es1 w1 w.heap.size HROW.out HOK1.out.1 HOK1.out.2).mono ?_
  rintro e w2 ⟨so, sc, ao, ac, ss, ts, rfl, hp, hb2⟩
  have HP2 := Hid.mk' hp
  have HB2 : Hid (Below w.heap.size w w2) := HB1.out.trans (hb2.mono HB1.out.size)
  have HSRC : Hid (EvSrc w2 (.slice vo1 es1.length vc1) es1) := ⟨lies_own Eo.len (row_below HROW.out hb2), fun e he => by
    obtain ⟨l, h1, h2, h3⟩ := (HLS.out e he).below hb2
    exact ⟨l, h1, h2.lies, h3⟩⟩
  have HN1 : Hid (es1.length ≤ 140737488351232) := by have := HOK1.out.1; show _ ≤ _; omega
  have HLEN : Hid (ss.length = ts.length + 1) := hp.len
  have htl := hp.short
  obtain ⟨s, hs⟩ : ∃ s, ss[ts.length]? = some s := ⟨ss[ts.length]'(by rw [hp.len]; omega), List.getElem?_eq_getElem _⟩
  have HRUN := Hid.mk' (hp.run hs)
  have HS := Hid.mk' hs
  clear hp hb2 hs
  go_wp2_with fail
  refine (own_events2 _ es1 w2 HSRC.out HN1.out).mono ?_
  rintro e w3 ⟨v3, es3, rfl, hrow3, hmap3, -, hb3⟩
  have hx3 : es3.map (·.x) = es1.map (·.x) := by rw [hmap3, List.take_of_length_le HOK1.out.1, HMAP.out]
  have HPLAY : Hid (Calls Try.prog 18 #[v3] w3 fun x w' => ∃ F P T es, x = .returned (.tuple #[s.st.val F P, T, .int .i64 0]) ∧ Stepped w3.heap.size w' F P T es s.st (ts.flatMap (·.td)) ∧ Below w3.heap.size w3 w') := by
    have h := own_play v3 es3 w3 (row_up hrow3 (Nat.zero_le _)) (by have h1 := congrArg List.length hx3; have h2 := HOK1.out.1; simp at h1; omega) (fun e he => by
      have h1 : e.x ∈ es3.map (·.x) := List.mem_map.2 ⟨e, he, rfl⟩
      rw [hx3] at h1
      obtain ⟨e2, h2, h3⟩ := List.mem_map.1 h1
      rw [← h3]; exact HOK1.out.2 e2 h2)
    rw [hx3, HRUN.out] at h
    exact h
  have HB3 : Hid (Below w2.heap.size w2 w3) := hb3
  clear hrow3 hmap3 hb3 hx3
  go_wp2_with fail
  refine Calls.mono HPLAY.out ?_
  rintro e w4 ⟨F, P, T, fes, rfl, hst, hb4⟩
  have HB24 : Hid (Below w2.heap.size w2 w4) := HB3.out.trans (hb4.mono HB3.out.size)
  have HP4 := Hid.mk' (HP2.out.below HB24.out)
  have HTR := Hid.mk' hst.td
  obtain ⟨fo2, fc2, hF⟩ := row_slice hst.fr.row
  obtain ⟨po2, pc2, hP⟩ := row_slice hst.ps
  obtain ⟨to2, tc2, hT⟩ := row_slice hst.td
  have hfl := hst.fr.len
  rw [List.length_reverse] at hfl
  rw [hfl] at hF
  rw [List.length_reverse] at hP
  subst hF; subst hP; subst hT
  obtain ⟨TL, hTL⟩ : ∃ x, x = (ts.flatMap (·.td)).length := ⟨_, rfl⟩
  have HTLN : Hid (TL = (ts.flatMap (·.td)).length) := hTL
  have htlm : TL ≤ 2000 := by rw [hTL]; exact HP2.out.tells HS.out
  rw [← hTL]
  have HB4 : Hid (Below w.heap.size w w4) := HB2.out.trans (HB24.out.mono HB2.out.size)
  have HTO : Hid (∀ u, Below w4.heap.size w4 u → ∀ c (x : Tl), (ts.flatMap (·.td))[c]? = some x → ∃ gt, to2 = some ⟨gt, 0, none⟩ ∧ u.cell? ⟨gt, c * 7, none⟩ = some (.int .i64 x.k) ∧ u.cell? ⟨gt, c * 7 + 1, none⟩ = some (.int .i64 x.n) ∧ u.cell? ⟨gt, c * 7 + 2, none⟩ = some (.int .i64 x.to)) := fun u hu c x hx => by
    obtain ⟨gt, cap2, hv2, -, hgt, hc2, -, -⟩ := own_at Tl.len (row_below HTR.out hu) hx
    simp only [Value.slice.injEq] at hv2
    exact ⟨gt, hv2.1, by have := hc2 0 _ rfl; simpa using this, hc2 1 _ rfl, hc2 2 _ rfl⟩
  have HTD : Hid (∀ u, Below w4.heap.size w4 u → ∀ k (t : To), ts[k]? = some t → ∃ ga, ao = some ⟨ga, 0, none⟩ ∧ u.cell? ⟨ga, k, none⟩ = some (.slice t.to t.td.length t.tc) ∧ ∀ i (x : Tl), t.td[i]? = some x → ∃ gt, t.to = some ⟨gt, 0, none⟩ ∧ u.cell? ⟨gt, i * 7, none⟩ = some (.int .i64 x.k) ∧ u.cell? ⟨gt, i * 7 + 1, none⟩ = some (.int .i64 x.n) ∧ u.cell? ⟨gt, i * 7 + 2, none⟩ = some (.int .i64 x.to)) := fun u hu k t hk => by
    obtain ⟨ga, cap, hv, -, hga, hcc, -, -⟩ := own_at To.len (HP4.out.below hu).trow hk
    simp only [Value.slice.injEq] at hv
    refine ⟨ga, hv.1, by have := hcc 0 _ rfl; simpa using this, fun i x hx => ?_⟩
    obtain ⟨gt, cap2, hv2, -, hgt, hc2, -, -⟩ := own_at Tl.len ((HP4.out.below hu).told t (List.mem_of_getElem? hk)) hx
    simp only [Value.slice.injEq] at hv2
    exact ⟨gt, hv2.1, by have := hc2 0 _ rfl; simpa using this, hc2 1 _ rfl, hc2 2 _ rfl⟩
  have HTLS : Hid (∀ t ∈ ts, t.td.length ≤ 9223372036854775807) := fun t ht => row_max (HP4.out.told t ht)
  obtain ⟨gs, hso, hgs, hcs⟩ := HP4.out.at HS.out
  subst hso
  have hel : s.es.length = s.st.fr.length := by have h := (HP4.out.own s (List.mem_of_getElem? HS.out)).fr.len; rw [List.length_reverse] at h; exact h
  rw [hel] at hcs
  have HSC := Hid.mk' hcs
  obtain ⟨j0, hj0, hfit⟩ := HP4.out.fit s (List.mem_of_getElem? HS.out)
  have hflb : s.st.fr.length ≤ 30 := hfit.ok.bd.fr
  have hplb : s.st.ps.length ≤ 1000000 := by have := hfit.ok.bd.ps; omega
  clear hst hb4 hfl hel hcs hTL hfit hgs
  obtain ⟨m, hm⟩ : ∃ m, m = ts.length := ⟨_, rfl⟩
  have HM : Hid (m = ts.length) := hm
  rw [← hm] at htl HSC ⊢
  clear hm
  unfold St.val
  generalize s.st.fr.length = fl at *
  generalize s.st.ps.length = pl at *
  generalize s.st.next = nx at *
  generalize s.st.ser = sr at *
  generalize s.st.fin = fi at *
  generalize s.st.stat = sx at *
  have HBX : Hid (∀ u, Below (w4.alloc (.cells #[.slice fo2 fl fc2, .slice po2 pl pc2, .int .i64 nx, .int .i64 sr, .int .i64 fi, .int .i64 sx] 26)).heap.size (w4.alloc (.cells #[.slice fo2 fl fc2, .slice po2 pl pc2, .int .i64 nx, .int .i64 sr, .int .i64 fi, .int .i64 sx] 26)) u → u.heap[w4.heap.size]? = some (.cells #[.slice fo2 fl fc2, .slice po2 pl pc2, .int .i64 nx, .int .i64 sr, .int .i64 fi, .int .i64 sx] 26 (0, 0)) ∧ Below w4.heap.size w4 u) := fun u hu => ⟨box_stays hu, below_up hu⟩
  go_wp2_with fail
  generalize w4.alloc (.cells #[.slice fo2 fl fc2, .slice po2 pl pc2, .int .i64 nx, .int .i64 sr, .int .i64 fi, .int .i64 sx] 26) = W1 at *
  go_loopw [9, 10] (fun s9 s10 wr => ∃ (i : Nat), i ≤ m ∧ s10 = .int .i64 i ∧ s9 = .int .i64 ((ts.take i).flatMap (·.td)).length ∧ Hid (Below W1.heap.size W1 wr)) (fun _ i _ => m - (intOf i).toNat)
  case atStart => exact ⟨0, Nat.zero_le _, rfl, by simp, Below.refl _ _⟩
  case round =>
    obtain ⟨i, hi, rfl, rfl, HB⟩ := hrel
    obtain ⟨wq, hwq⟩ : ∃ x, x = wr := ⟨_, rfl⟩
    subst hwq
    obtain ⟨hbx, hup⟩ := HBX.out wq HB.out
    by_cases hlt : i < m
    · have hlti : (i : Int) < (m : Int) := by omega
      obtain ⟨⟨td, to, tc⟩, ht⟩ : ∃ t, ts[i]? = some t := ⟨ts[i]'(by rw [← HM.out]; exact hlt), List.getElem?_eq_getElem _⟩
      have HT := Hid.mk' ht
      have htb : td.length ≤ 9223372036854775807 := HTLS.out _ (List.mem_of_getElem? ht)
      have HFT : Hid (((ts.take (i + 1)).flatMap (·.td)).length = ((ts.take i).flatMap (·.td)).length + td.length) := flat_take ht
      have HFA : Hid (∀ j x, td[j]? = some x → (ts.flatMap (·.td))[((ts.take i).flatMap (·.td)).length + j]? = some x) := fun j x hx => flat_at HT.out hx
      obtain ⟨ga, hao, -, -⟩ := HTD.out wq hup i _ ht
      subst hao
      generalize ((ts.take i).flatMap (·.td)).length = bs at *
      clear hbx hup ht
      go_wp2_with fail
      go_loopw [9, 11] (fun s9 s11 wr => ∃ (j : Nat), j ≤ td.length ∧ s11 = .int .i64 j ∧ s9 = .int .i64 (bs + j : Nat) ∧ Hid (Below W1.heap.size W1 wr)) (fun _ j _ => td.length - (intOf j).toNat)
      case atStart => exact ⟨0, Nat.zero_le _, rfl, by simp, HB.out⟩
      case round =>
        obtain ⟨j, hj, rfl, rfl, HBu⟩ := hrel
        obtain ⟨uq, huq⟩ : ∃ x, x = wr := ⟨_, rfl⟩
        subst huq
        obtain ⟨-, hup⟩ := HBX.out uq HBu.out
        obtain ⟨ga', hga, k0, hcell⟩ := HTD.out uq hup i _ HT.out
        simp only [Option.some.injEq, Addr.mk.injEq] at hga
        obtain ⟨hga, -⟩ := hga
        subst hga
        simp only at k0
        by_cases hil : j < td.length
        · have hili : (j : Int) < (td.length : Int) := by omega
          obtain ⟨x, hx⟩ : ∃ x, td[j]? = some x := ⟨_, List.getElem?_eq_getElem hil⟩
          obtain ⟨gt, hto, x0, x1, x2⟩ := hcell j x hx
          obtain ⟨gt2, hto2, y0, y1, y2⟩ := HTO.out uq hup _ x (HFA.out j x hx)
          obtain ⟨c, hc⟩ : ∃ c, c = bs + j := ⟨_, rfl⟩
          have HC : Hid (c = bs + j) := hc
          have hcl : c < TL := by
            have h := (List.getElem?_eq_some_iff.1 (HFA.out j x hx)).1
            rw [HTLN.out, hc]; exact h
          have hcl0 : (c : Int) < (TL : Int) := by omega
          have hcl1 : decide ((TL : Int) ≤ (c : Int)) = false := by simp; omega
          have hcb : c ≤ 2000 := by omega
          rw [← hc] at y0 y1 y2 ⊢
          simp only at hto
          subst hto
          subst hto2
          have HBQ : Hid (∀ n, Below W1.heap.size W1 (uq.drewN n)) := fun n => HBu.out.trans ((below_dn _ _).mono HBu.out.size)
          clear hx hcell hup hc
          go_wp2_with fail
          go_quiet (fail)
          go_wp2_with fail
          go_roundw
          case rel => exact ⟨j + 1, by omega, by go_num, (by rw [HC.out]; go_num), HBQ.out _⟩
          case measure => simp [intOf]; omega
        · have hje : td.length = j := by omega
          have HFT2 : Hid (((ts.take (i + 1)).flatMap (·.td)).length = bs + j) := by show _ = _; rw [HFT.out, hje]
          clear hcell hup
          go_wp2_with fail
          go_roundw
          case rel => exact ⟨i + 1, by omega, by go_num, (by rw [HFT2.out]), HBu.out⟩
          case measure => simp [intOf]; omega
    · have hie : m = i := by omega
      have HF0 : Hid (((ts.take i).flatMap (·.td)).length = TL) := by show _ = _; rw [← hie, HM.out, List.take_length, HTLN.out]
      rw [HF0.out]
      subst hie
      obtain ⟨c0, c1, c2, c3, c4, c5⟩ := HSC.out wq hup
      obtain ⟨⟨a0, a1, a2, a3, a4, a5⟩, -⟩ := box6 hbx
      have hmi : (m : Int) < (m : Int) + 1 := by omega
      have HF : Hid (Below w.heap.size w wq) := HB4.out.trans (hup.mono HB4.out.size)
      obtain ⟨b, hb⟩ : ∃ b, b = w4.heap.size := ⟨_, rfl⟩
      have hbl : b < wq.heap.size := by rw [hb]; exact (Array.getElem?_eq_some_iff.1 hbx).1
      have hal : Below wq.heap.size wq (wq.alloc (.cells #[.slice s.fo fl s.fc, .slice s.po pl s.pc, .int .i64 nx, .int .i64 sr, .int .i64 fi, .int .i64 sx] 26)) := (Below.refl _ _).alloc (Nat.le_refl _) _
      have hbx2 := hbx
      rw [← hb, ← hal.block b hbl] at hbx2
      obtain ⟨⟨z0, z1, z2, z3, z4, z5⟩, -⟩ := box6 hbx2
      obtain ⟨⟨y0, y1, y2, y3, y4, y5⟩, -⟩ := box6 (box_stays (w := wq) (o := (.cells #[.slice s.fo fl s.fc, .slice s.po pl s.pc, .int .i64 nx, .int .i64 sr, .int .i64 fi, .int .i64 sx] 26)) (Below.refl _ _))
      have HF2 : Hid (Below w.heap.size w (wq.alloc (.cells #[.slice s.fo fl s.fc, .slice s.po pl s.pc, .int .i64 nx, .int .i64 sr, .int .i64 fi, .int .i64 sx] 26))) := HF.out.alloc HF.out.size _
      rw [← hb]
      clear hbx hup hbl hal hbx2 hb a0 a1 a2 a3 a4 a5
      go_wp2_with fail
      go_ret
      exact ⟨rfl, HF2.out⟩

theorem contract (H : Type) (enc : TypeId × Value → H) (W : World) (base : Nat) (args : Array Value) (ds gs : List (DataW H)) (before : List MemPlace)
    (hval : ∀ (j : Nat) t v, Try.f7.params[j]? = some t → args[j]? = some v → Value.okWide Try.prog W .any base t v)
    (hW : DataW.Whole enc Try.prog Try.f7.params.toList Rows.panicsCutSpec.vars false W args.toList ds gs before)
    (hsz : (DataW.weightsEach Try.prog (Try.f7.params.toList ++ Rows.panicsCutSpec.plain.varTypes Try.prog) (ds ++ gs)).all (· ≤ reachBytes) = true) :
    Calls Try.prog 7 args W fun e W' => ∃ v, e = .returned v ∧ Rows.panicsCutSpec.post enc Try.prog Try.f7 false true false false W args v W' := by
  have hW' := hW
  obtain ⟨p, q, hA0, hV, rfl, hfz, hnd⟩ := hW
  have hA : DataW.TrodAll enc Try.prog W 0 (fun _ => true) true Try.f7.params.toList args.toList ds p := hA0
  rw [Try.params7] at hA hval hsz
  obtain ⟨v0, vs0, d0, ds0, p0, q0, hargs, rfl, rfl, h0, r0⟩ := trodAll_cons hA
  obtain ⟨rfl, rfl, rfl⟩ := trodAll_nil r0
  obtain rfl : args = #[v0] := by cases args; simp_all
  obtain ⟨rfl, rfl⟩ := trodVars_none hV
  obtain ⟨ao0, len0, cap0, rfl⟩ := okWide_slice Try.underlying29 (hval 0 29 v0 rfl rfl)
  obtain ⟨es0, hC0, hN0⟩ := evs_came (j := 0) h0 hsz rfl rfl
  clear hA0
  simp only [List.append_nil] at hW'
  have hlt0 : ∀ x ∈ p0, x.block < W.heap.size := fun x hx => hW'.lt x (by simp [hx])
  refine (walk _ es0 W hC0 hN0).mono fun e W' ⟨he, bel⟩ => ?_
  subst he
  exact ⟨_, rfl, _, _, _, [], p0 ++ [], [], hW', trodAll_mk1 (shut_bool Try.underlying4 _), (trodAll_cons_mk (Below.trod (by kernel_rfl) (by kernel_rfl) (of_decide_eq_true (by kernel_rfl)) h0 bel hlt0) trodAll_mk0), rfl, bel.frame _, fun h => by cases h⟩

set_option maxRecDepth 100000 in
theorem lifted (os : Os) (started : os.Started) (H : Type) (enc : TypeId × Value → H) :
    ReturnsInHanded {} Try.checked os 7 .any (Rows.panicsCutSpec.pre6 enc Try.prog Try.f7 Rows.panicsCutRow.domain false) (Rows.panicsCutSpec.post enc Try.prog Try.f7 false true false false) := by
  refine returnsInHanded_of_change_sized (C := Try.checked) own started (by kernel_rfl) Try.func7
    (ChangeSpec.witness6 (enc := enc) (C := Try.checked) false ⟨#[], #[.slice none 0 0], []⟩ 8 (by kernel_rfl) (by kernel_rfl) (by kernel_rfl) (by kernel_rfl)) ?_
  intro W base args ds gs before hval0 hW hcnd hsz _
  exact contract H enc W base args ds gs before hval0 hW hsz

theorem proved : Rows.PanicsCutSaid :=
  OpenClaim.holds_of_wide 7 Try.f7 rfl rfl rfl rfl rfl rfl rfl ⟨rfl, rfl, rfl, rfl, rfl⟩ rfl rfl rfl rfl rfl (by kernel_rfl) Try.func7 (by kernel_rfl)
    (of_decide_eq_true (by kernel_rfl)) (by unfold Func.isWrapper; first | (rw [if_pos (by decide +kernel)]; kernel_rfl) | (rw [if_neg (by decide +kernel)]; exact ⟨rfl, rfl⟩))
    (fun os started H enc _ => lifted os started H enc)
#print axioms proved
end Go.Proofs.Ytcnpoldcebdhjaa.panicsCut
