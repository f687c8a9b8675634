/-
  For every list of events (made such as may happen): a run crashes just when a panic leaves main; then the last panic was neither recovered nor broken off, and the status is 2.
-/
import Derived.Test.YtcnpoldcebdhjabPcrash
import Derived.Test.YtcnpoldcebdhjabEcame
import Derived.BigQuiet
import Derived.SizedLaws
import Derived.JoinedCond
namespace Go.Proofs.Ytcnpoldcebdhjab.panicsCrash
open Go.ChangeShapes Go.WideShapes Go.ChangeAt Go.RowKit
open Go.WideMaps Go.WideElems
open Go.ChangeMaps (open_string shut_string)
set_option linter.unusedVariables false
set_option linter.unusedSimpArgs false
set_option maxRecDepth 100000

theorem own : ownKnob Try.prog.godebug = none := by kernel_rfl

set_option maxHeartbeats 2000000 in
theorem walk (v0 : Value) (es0 : List Eo) (w : World) (hv0 : EvSrc w v0 es0) (hz0 : es0.length ≤ 140737488351232) :
    Calls Try.prog 6 #[v0] w fun e w' => e = .returned (.bool true) ∧ Below w.heap.size w w' := by
  have HEV : Hid (EvSrc w v0 es0 ∧ es0.length ≤ 140737488351232) := ⟨hv0, hz0⟩
  obtain ⟨vo, vc, hsh⟩ := hv0.row.shape
  subst hsh
  clear hv0 hz0
  go_enter Try.func6, Try.ntmps6
  go_wp2_with fail
  refine (own_events _ es0 w HEV.out.1 HEV.out.2).mono ?_
  rintro e w1 ⟨v1, es1, rfl, hrow, hmap, hb1⟩
  have HROW := Hid.mk' hrow
  have HOK1 := Hid.mk' (evs_ok hmap)
  have HB1 := Hid.mk' hb1
  obtain ⟨vo1, vc1, hsh1⟩ := row_slice hrow
  subst hsh1
  clear hrow hmap hb1
  go_wp2_with fail
  refine (own_playedE _ es1 w1 w.heap.size HROW.out HOK1.out.1 HOK1.out.2).mono ?_
  rintro e w2 ⟨so, sc, ao, ac, ss, ts, rfl, hp, hb2⟩
  have HP := Hid.mk' hp
  have HB2 : Hid (Below w.heap.size w w2) := HB1.out.trans (hb2.mono HB1.out.size)
  have HLEN : Hid (ss.length = ts.length + 1) := hp.len
  have htl := hp.short
  obtain ⟨s, hs⟩ : ∃ s, ss[ts.length]? = some s := ⟨ss[ts.length]'(by rw [hp.len]; omega), List.getElem?_eq_getElem _⟩
  obtain ⟨g, hso, hg, hc⟩ := hp.at hs
  subst hso
  obtain ⟨c0, c1, c2, c3, c4, c5⟩ := hc w2 (Below.refl _ _)
  have hmem : s ∈ ss := List.mem_of_getElem? hs
  have HSO : Hid (SOwn w2 s) := hp.own s hmem
  obtain ⟨j0, hj0, hfit⟩ := hp.fit s hmem
  have HU := Hid.mk' hfit.ok.u
  have hplb : s.st.ps.length ≤ 1000000 := by have := hfit.ok.bd.ps; omega
  have HCR : Hid (ts.any (fun t => bad t.td) = decide (s.st.fin = 2)) := hp.crash hs
  have HTD : Hid (∀ u, Below w2.heap.size w2 u → ∀ k (t : To), ts[k]? = some t → ∃ ga, ao = some ⟨ga, 0, none⟩ ∧ u.cell? ⟨ga, k, none⟩ = some (.slice t.to t.td.length t.tc) ∧ ∀ i (x : Tl), t.td[i]? = some x → ∃ gt, t.to = some ⟨gt, 0, none⟩ ∧ u.cell? ⟨gt, i * 7, none⟩ = some (.int .i64 x.k) ∧ u.cell? ⟨gt, i * 7 + 1, none⟩ = some (.int .i64 x.n) ∧ u.cell? ⟨gt, i * 7 + 2, none⟩ = some (.int .i64 x.to) ∧ u.cell? ⟨gt, i * 7 + 3, none⟩ = some (.int .i64 x.v.k) ∧ u.cell? ⟨gt, i * 7 + 4, none⟩ = some (.int .i64 x.v.n) ∧ u.cell? ⟨gt, i * 7 + 5, none⟩ = some (.string x.v.s) ∧ u.cell? ⟨gt, i * 7 + 6, none⟩ = some (.slice none 0 0)) := fun u hu k t hk => by
    obtain ⟨ga, cap, hv, -, hga, hcc, -, -⟩ := own_at To.len (HP.out.below hu).trow hk
    simp only [Value.slice.injEq] at hv
    refine ⟨ga, hv.1, by have := hcc 0 _ rfl; simpa using this, fun i x hx => ?_⟩
    obtain ⟨gt, cap2, hv2, -, hgt, hc2, -, -⟩ := own_at Tl.len ((HP.out.below hu).told t (List.mem_of_getElem? hk)) hx
    simp only [Value.slice.injEq] at hv2
    exact ⟨gt, hv2.1, by have := hc2 0 _ rfl; simpa using this, hc2 1 _ rfl, hc2 2 _ rfl, hc2 3 _ rfl, hc2 4 _ rfl, hc2 5 _ rfl, hc2 6 _ rfl⟩
  have HTL : Hid (∀ t ∈ ts, t.td.length ≤ 9223372036854775807) := fun t ht => row_max (hp.told t ht)
  have hmi : (ts.length : Int) < (ts.length : Int) + 1 := by omega
  obtain ⟨m, hm⟩ : ∃ m, m = ts.length := ⟨_, rfl⟩
  have HM : Hid (m = ts.length) := hm
  rw [← hm] at htl c0 c1 c2 c3 c4 c5 hmi ⊢
  have HBX : Hid (∀ u, Below (w2.alloc (.cells #[.slice s.fo s.es.length s.fc, .slice s.po s.st.ps.length s.pc, .int .i64 s.st.next, .int .i64 s.st.ser, .int .i64 s.st.fin, .int .i64 s.st.stat] 39)).heap.size (w2.alloc (.cells #[.slice s.fo s.es.length s.fc, .slice s.po s.st.ps.length s.pc, .int .i64 s.st.next, .int .i64 s.st.ser, .int .i64 s.st.fin, .int .i64 s.st.stat] 39)) u → u.heap[w2.heap.size]? = some (.cells #[.slice s.fo s.es.length s.fc, .slice s.po s.st.ps.length s.pc, .int .i64 s.st.next, .int .i64 s.st.ser, .int .i64 s.st.fin, .int .i64 s.st.stat] 39 (0, 0)) ∧ Below w2.heap.size w2 u) := fun u hu => ⟨box_stays hu, below_up hu⟩
  clear hp hb2 hc hs hmem hfit hm
  go_wp2_with fail
  generalize w2.alloc (.cells #[.slice s.fo s.es.length s.fc, .slice s.po s.st.ps.length s.pc, .int .i64 s.st.next, .int .i64 s.st.ser, .int .i64 s.st.fin, .int .i64 s.st.stat] 39) = W1 at *
  go_loopw [7, 8] (fun s7 s8 wr => ∃ (k : Nat), k ≤ m ∧ s8 = .int .i64 k ∧ s7 = .bool ((ts.take k).any (fun t => bad t.td)) ∧ Hid (Below W1.heap.size W1 wr)) (fun _ i _ => m - (intOf i).toNat)
  case atStart => exact ⟨0, Nat.zero_le _, rfl, by simp, Below.refl _ _⟩
  case round =>
    obtain ⟨k, hk, rfl, rfl, HB⟩ := hrel
    obtain ⟨wq, hwq⟩ : ∃ x, x = wr := ⟨_, rfl⟩
    subst hwq
    obtain ⟨hbx, hup⟩ := HBX.out wq HB.out
    by_cases hlt : k < m
    · have hlti : (k : Int) < (m : Int) := by omega
      obtain ⟨t, ht⟩ : ∃ t, ts[k]? = some t := ⟨ts[k]'(by rw [← HM.out]; exact hlt), List.getElem?_eq_getElem _⟩
      obtain ⟨ga, hao, k0, -⟩ := HTD.out wq hup k t ht
      subst hao
      have HT := Hid.mk' ht
      have HTK : Hid ((ts.take (k + 1)).any (fun t => bad t.td) = ((ts.take k).any (fun t => bad t.td) || bad t.td)) := by show _ = _; rw [List.take_add_one, ht]; simp
      have htb := HTL.out t (List.mem_of_getElem? ht)
      generalize (ts.take k).any (fun t => bad t.td) = b at *
      clear hbx ht
      go_wp2_with fail
      go_loopw [7, 38] (fun s7 s38 wr => ∃ (i : Nat), i ≤ t.td.length ∧ s38 = .int .i64 i ∧ s7 = .bool (b || bad (t.td.take i)) ∧ Hid (Below W1.heap.size W1 wr)) (fun _ j _ => t.td.length - (intOf j).toNat)
      case atStart => exact ⟨0, Nat.zero_le _, rfl, by simp [bad], HB.out⟩
      case round =>
        obtain ⟨i, hi, rfl, rfl, HBu⟩ := hrel
        obtain ⟨uq, huq⟩ : ∃ x, x = wr := ⟨_, rfl⟩
        subst huq
        obtain ⟨-, hup2⟩ := HBX.out uq HBu.out
        by_cases hil : i < t.td.length
        · have hili : (i : Int) < (t.td.length : Int) := by omega
          obtain ⟨x, hx⟩ : ∃ x, t.td[i]? = some x := ⟨_, List.getElem?_eq_getElem hil⟩
          obtain ⟨-, -, -, hcell⟩ := HTD.out uq hup2 k t HT.out
          obtain ⟨gt, hto, x0, x1, x2, x3, x4, x5, x6⟩ := hcell i x hx
          have HTO := Hid.mk' hto
          have HXK : Hid (bad (t.td.take (i + 1)) = (bad (t.td.take i) || isB x)) := by show _ = _; unfold bad; rw [List.take_add_one, hx]; simp
          generalize bad (t.td.take i) = b2 at *
          generalize hb3 : (b || b2) = b3 at *
          have HB3 := Hid.mk' hb3
          have HBN : Hid (∀ o, Below W1.heap.size W1 (uq.alloc o)) := fun o => HBu.out.trans (((Below.refl _ _).alloc (Nat.le_refl _) o).mono HBu.out.size)
          clear hx hcell hup2 hb3
          rw [hto] at k0
          cases b3 with
          | true =>
            go_wp2_with fail
            go_roundw
            case rel => exact ⟨i + 1, by omega, by go_num, (by rw [HXK.out, ← Bool.or_assoc, HB3.out]; simp [isB, ]), HBN.out _⟩
            case measure => simp [intOf]; omega
          | false =>
            by_cases h4 : x.k = 4
            · have h4b : (x.k == 4) = true := by simpa using h4
              have H4 := Hid.mk' h4
              clear h4
              by_cases h0 : x.n = 0
              · have h0b : (x.n == 0) = true := by simpa using h0
                have H0 := Hid.mk' h0
                clear h0
                go_wp2_with fail
                go_roundw
                case rel => exact ⟨i + 1, by omega, by go_num, (by rw [HXK.out, ← Bool.or_assoc, HB3.out]; simp [isB, H4.out, H0.out]), HBN.out _⟩
                case measure => simp [intOf]; omega
              · have h0b : (x.n == 0) = false := by simpa using h0
                clear h0
                go_wp2_with fail
                go_roundw
                case rel => exact ⟨i + 1, by omega, by go_num, (by rw [HXK.out, ← Bool.or_assoc, HB3.out]; simp [isB, h0b]), HBN.out _⟩
                case measure => simp [intOf]; omega
            · have h4b : (x.k == 4) = false := by simpa using h4
              clear h4
              go_wp2_with fail
              go_roundw
              case rel => exact ⟨i + 1, by omega, by go_num, (by rw [HXK.out, ← Bool.or_assoc, HB3.out]; simp [isB, h4b]), HBN.out _⟩
              case measure => simp [intOf]; omega
        · have hie : t.td.length = i := by omega
          have HFULL : Hid ((b || bad (t.td.take i)) = (ts.take (k + 1)).any (fun t => bad t.td)) := by show _ = _; rw [HTK.out, ← hie, List.take_length]
          have HBN : Hid (Below W1.heap.size W1 uq) := HBu.out
          rw [HFULL.out]
          clear hup2
          go_wp2_with fail
          go_roundw
          case rel => exact ⟨k + 1, by omega, by go_num, rfl, HBN.out⟩
          case measure => simp [intOf]; omega
    · have hke : m = k := by omega
      subst hke
      have HALL : Hid ((ts.take m).any (fun t => bad t.td) = decide (s.st.fin = 2)) := by show _ = _; rw [HM.out, List.take_length]; exact HCR.out
      rw [HALL.out]
      obtain ⟨⟨a0, a1, a2, a3, a4, a5⟩, -⟩ := box6 hbx
      have HF : Hid (Below w.heap.size w wq) := HB2.out.trans (hup.mono HB2.out.size)
      by_cases hf2 : s.st.fin = 2
      · have hu := HU.out
        obtain ⟨hst, hfr, q, ps', hps, hrc⟩ := hu.crash hf2
        have hab := hu.head q ps' hps
        have hes : s.es.length = 0 := by have := HSO.out.fr.len; rw [hfr] at this; simpa using this
        have hq : s.st.ps.reverse[ps'.length]? = some q := by rw [hps, List.reverse_cons, List.getElem?_append_right (by simp)]; simp
        obtain ⟨gp, cap, hv, -, hgl, hcc, -, -⟩ := own_at Pn.len HSO.out.ps hq
        simp only [Value.slice.injEq] at hv
        have hpo := hv.1
        have k5 : wq.cell? ⟨gp, ps'.length * 7 + 5, none⟩ = some (.bool false) := by rw [hup.cell hgl]; have := hcc 5 _ rfl; rw [hrc] at this; exact this
        have k6 : wq.cell? ⟨gp, ps'.length * 7 + 6, none⟩ = some (.bool false) := by rw [hup.cell hgl]; have := hcc 6 _ rfl; rw [hab] at this; exact this
        have hpl : s.st.ps.length = ps'.length + 1 := by rw [hps]; rfl
        rw [hpl] at hplb
        rw [hpo, hpl] at a1
        rw [hes] at a0
        rw [hf2] at a4 ⊢
        rw [hst] at a5
        have hpi : (0 : Int) ≤ (ps'.length : Int) := by omega
        have hpi2 : (ps'.length : Int) < (ps'.length : Int) + 1 := by omega
        clear hbx hup hf2 hu hst hfr hps hrc hab hes hq hv hpo hpl hcc
        go_wp2_with fail
        try go_quiet (fail)
        try go_wp2_with fail
        go_ret
        first | exact ⟨rfl, HF.out⟩ | exact ⟨rfl, HF.out.trans ((below_dn _ _).mono HF.out.size)⟩
      · have hfb : (s.st.fin != 2) = true := by simpa using hf2
        have hdf : decide (s.st.fin = 2) = false := by simpa using hf2
        rw [hdf]
        clear hbx hup hf2
        go_wp2_with fail
        go_ret
        exact ⟨rfl, HF.out⟩

theorem contract (H : Type) (enc : TypeId × Value → H) (W : World) (base : Nat) (args : Array Value) (ds gs : List (DataW H)) (before : List MemPlace)
    (hval : ∀ (j : Nat) t v, Try.f6.params[j]? = some t → args[j]? = some v → Value.okWide Try.prog W .any base t v)
    (hW : DataW.Whole enc Try.prog Try.f6.params.toList Rows.panicsCrashSpec.vars false W args.toList ds gs before)
    (hsz : (DataW.weightsEach Try.prog (Try.f6.params.toList ++ Rows.panicsCrashSpec.plain.varTypes Try.prog) (ds ++ gs)).all (· ≤ reachBytes) = true) :
    Calls Try.prog 6 args W fun e W' => ∃ v, e = .returned v ∧ Rows.panicsCrashSpec.post enc Try.prog Try.f6 false true false false W args v W' := by
  have hW' := hW
  obtain ⟨p, q, hA0, hV, rfl, hfz, hnd⟩ := hW
  have hA : DataW.TrodAll enc Try.prog W 0 (fun _ => true) true Try.f6.params.toList args.toList ds p := hA0
  rw [Try.params6] at hA hval hsz
  obtain ⟨v0, vs0, d0, ds0, p0, q0, hargs, rfl, rfl, h0, r0⟩ := trodAll_cons hA
  obtain ⟨rfl, rfl, rfl⟩ := trodAll_nil r0
  obtain rfl : args = #[v0] := by cases args; simp_all
  obtain ⟨rfl, rfl⟩ := trodVars_none hV
  obtain ⟨ao0, len0, cap0, rfl⟩ := okWide_slice Try.underlying22 (hval 0 22 v0 rfl rfl)
  obtain ⟨es0, hC0, hN0⟩ := evs_came (j := 0) h0 hsz rfl rfl
  clear hA0
  simp only [List.append_nil] at hW'
  have hlt0 : ∀ x ∈ p0, x.block < W.heap.size := fun x hx => hW'.lt x (by simp [hx])
  refine (walk _ es0 W hC0 hN0).mono fun e W' ⟨he, bel⟩ => ?_
  subst he
  exact ⟨_, rfl, _, _, _, [], p0 ++ [], [], hW', trodAll_mk1 (shut_bool Try.underlying4 _), (trodAll_cons_mk (Below.trod (by kernel_rfl) (by kernel_rfl) (of_decide_eq_true (by kernel_rfl)) h0 bel hlt0) trodAll_mk0), rfl, bel.frame _, fun h => by cases h⟩

set_option maxRecDepth 100000 in
theorem lifted (os : Os) (started : os.Started) (H : Type) (enc : TypeId × Value → H) :
    ReturnsInHanded {} Try.checked os 6 .any (Rows.panicsCrashSpec.pre6 enc Try.prog Try.f6 Rows.panicsCrashRow.domain false) (Rows.panicsCrashSpec.post enc Try.prog Try.f6 false true false false) := by
  refine returnsInHanded_of_change_sized (C := Try.checked) own started (by kernel_rfl) Try.func6
    (ChangeSpec.witness6 (enc := enc) (C := Try.checked) false ⟨#[], #[.slice none 0 0], []⟩ 8 (by kernel_rfl) (by kernel_rfl) (by kernel_rfl) (by kernel_rfl)) ?_
  intro W base args ds gs before hval0 hW hcnd hsz _
  exact contract H enc W base args ds gs before hval0 hW hsz

theorem proved : Rows.PanicsCrashSaid :=
  OpenClaim.holds_of_wide 6 Try.f6 rfl rfl rfl rfl rfl rfl rfl ⟨rfl, rfl, rfl, rfl, rfl⟩ rfl rfl rfl rfl rfl (by kernel_rfl) Try.func6 (by kernel_rfl)
    (of_decide_eq_true (by kernel_rfl)) (by unfold Func.isWrapper; first | (rw [if_pos (by decide +kernel)]; kernel_rfl) | (rw [if_neg (by decide +kernel)]; exact ⟨rfl, rfl⟩))
    (fun os started H enc _ => lifted os started H enc)
#print axioms proved
end Go.Proofs.Ytcnpoldcebdhjab.panicsCrash
