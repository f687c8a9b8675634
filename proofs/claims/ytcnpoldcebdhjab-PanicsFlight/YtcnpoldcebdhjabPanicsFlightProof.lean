/-
  For every list of events (made such as may happen): panics in flight have rising numbers, and the last one was not broken off.
-/
import Derived.Test.YtcnpoldcebdhjabPl3
import Derived.Test.YtcnpoldcebdhjabEcame
import Derived.BigQuiet
import Derived.SizedLaws
import Derived.JoinedCond
namespace Go.Proofs.Ytcnpoldcebdhjab.panicsFlight
open Go.ChangeShapes Go.WideShapes Go.ChangeAt Go.RowKit
open Go.WideMaps Go.WideElems
open Go.ChangeMaps (open_string shut_string)
set_option linter.unusedVariables false
set_option linter.unusedSimpArgs false
set_option maxRecDepth 100000

theorem own : ownKnob Try.prog.godebug = none := by kernel_rfl

set_option maxHeartbeats 2000000 in
theorem walk (v0 : Value) (es0 : List Eo) (w : World) (hv0 : EvSrc w v0 es0) (hz0 : es0.length ≤ 140737488351232) :
    Calls Try.prog 7 #[v0] w fun e w' => e = .returned (.bool true) ∧ Below w.heap.size w w' := by
  have HEV : Hid (EvSrc w v0 es0 ∧ es0.length ≤ 140737488351232) := ⟨hv0, hz0⟩
  obtain ⟨vo, vc, hsh⟩ := hv0.row.shape
  subst hsh
  clear hv0 hz0
  go_enter Try.func7, Try.ntmps7
  go_wp2_with fail
  refine (own_events _ es0 w HEV.out.1 HEV.out.2).mono ?_
  rintro e w1 ⟨v1, es1, rfl, hrow, hmap, hb1⟩
  have HROW := Hid.mk' hrow
  have HOK1 := Hid.mk' (evs_ok hmap)
  have HB1 := Hid.mk' hb1
  obtain ⟨vo1, vc1, hsh1⟩ := row_slice hrow
  subst hsh1
  clear hrow hmap hb1
  go_wp2_with fail
  refine (own_playedE _ es1 w1 w.heap.size HROW.out HOK1.out.1 HOK1.out.2).mono ?_
  rintro e w2 ⟨so, sc, ao, ac, ss, ts, rfl, hp, hb2⟩
  have HP := Hid.mk' hp
  have HB2 : Hid (Below w.heap.size w w2) := HB1.out.trans (hb2.mono HB1.out.size)
  have HLEN : Hid (ss.length = ts.length + 1) := hp.len
  have htl := hp.short
  clear hp hb2
  generalize ts.length = m at *
  go_wp2_with fail
  go_loopw [21] (fun s21 wr => ∃ (k : Nat), k ≤ m + 1 ∧ s21 = .int .i64 k ∧ Hid (Below w2.heap.size w2 wr)) (fun i _ => m + 1 - (intOf i).toNat)
  case atStart => exact ⟨0, Nat.zero_le _, rfl, Below.refl _ _⟩
  case round =>
    obtain ⟨k, hk, rfl, HB⟩ := hrel
    obtain ⟨wq, hwq⟩ : ∃ x, x = wr := ⟨_, rfl⟩
    subst hwq
    by_cases hlt : k < m + 1
    · have hlti : (k : Int) < (m : Int) + 1 := by omega
      obtain ⟨s, hs⟩ : ∃ s, ss[k]? = some s := ⟨ss[k]'(by rw [HLEN.out]; exact hlt), List.getElem?_eq_getElem _⟩
      obtain ⟨g, hso, hg, hc⟩ := HP.out.at hs
      subst hso
      obtain ⟨c0, c1, c2, c3, c4, c5⟩ := hc wq HB.out
      have hmem : s ∈ ss := List.mem_of_getElem? hs
      have HSO : Hid (SOwn wq s) := (HP.out.own s hmem).keeps (Keeps.below (t0 := 39) HB.out) (by decide) (by decide) (by decide)
      obtain ⟨j0, hj0, hfit⟩ := HP.out.fit s hmem
      have HU := Hid.mk' hfit.ok.u
      have hpl : s.st.ps.length ≤ 1000000 := by have := hfit.ok.bd.ps; omega
      have HPC : Hid (∀ u, Below wq.heap.size wq u → ∀ i (q : Pn), s.st.ps.reverse[i]? = some q → ∃ gp, s.po = some ⟨gp, 0, none⟩ ∧ u.cell? ⟨gp, i * 7, none⟩ = some (.int .i64 q.ser) ∧ u.cell? ⟨gp, i * 7 + 6, none⟩ = some (.bool q.ab)) := fun u hu i q hq => by
        obtain ⟨gp, cap, hv, -, hgl, hcc, -, -⟩ := own_at Pn.len HSO.out.ps hq
        simp only [Value.slice.injEq] at hv
        refine ⟨gp, hv.1, ?_, ?_⟩
        · rw [hu.cell hgl]; have := hcc 0 _ rfl; simpa using this
        · rw [hu.cell hgl]; exact hcc 6 _ rfl
      have HSORT : Hid (∀ i (p q : Pn), s.st.ps.reverse[i]? = some p → s.st.ps.reverse[i + 1]? = some q → p.ser < q.ser) := fun i p q h1 h2 => by
        have hs2 := List.pairwise_reverse.2 hfit.ok.u.sorted
        have hl2 := (List.getElem?_eq_some_iff.1 h2).1
        have e1 := (List.getElem?_eq_some_iff.1 h1).2
        have e2 := (List.getElem?_eq_some_iff.1 h2).2
        have := List.pairwise_iff_getElem.1 hs2 i (i + 1) (by omega) hl2 (by omega)
        rw [e1, e2] at this
        exact this
      have HLT : Hid (∀ i (q : Pn), s.st.ps.reverse[i]? = some q → q.ser < s.st.ser) := fun i q h => (hfit.ok.u.lt q (by simpa using List.mem_of_getElem? h)).2
      have HLAST : Hid (∀ i (q : Pn), s.st.ps.reverse[i]? = some q → i + 1 = s.st.ps.length → q.ab = false) := fun i q h hi => by
        cases hps : s.st.ps with
        | nil => rw [hps] at h; simp at h
        | cons p r =>
          rw [hps] at h hi
          simp only [List.length_cons] at hi
          rw [List.reverse_cons, List.getElem?_append_right (by simp; omega)] at h
          have : i - r.reverse.length = 0 := by simp; omega
          rw [this] at h
          simp at h
          subst h
          exact hfit.ok.u.head p r hps
      obtain ⟨pl, hple⟩ : ∃ pl, pl = s.st.ps.length := ⟨_, rfl⟩
      have HPLE : Hid (pl = s.st.ps.length) := hple
      rw [← hple] at c1 hpl
      have HBX : Hid (∀ u, Below (wq.alloc (.cells #[.slice s.fo s.es.length s.fc, .slice s.po s.st.ps.length s.pc, .int .i64 s.st.next, .int .i64 s.st.ser, .int .i64 s.st.fin, .int .i64 s.st.stat] 39)).heap.size (wq.alloc (.cells #[.slice s.fo s.es.length s.fc, .slice s.po s.st.ps.length s.pc, .int .i64 s.st.next, .int .i64 s.st.ser, .int .i64 s.st.fin, .int .i64 s.st.stat] 39)) u → u.heap[wq.heap.size]? = some (.cells #[.slice s.fo s.es.length s.fc, .slice s.po s.st.ps.length s.pc, .int .i64 s.st.next, .int .i64 s.st.ser, .int .i64 s.st.fin, .int .i64 s.st.stat] 39 (0, 0)) ∧ Below wq.heap.size wq u) := fun u hu => ⟨box_stays hu, below_up hu⟩
      rw [← hple] at HBX
      clear hc hs hfit hmem hple
      go_wp2_with fail
      generalize wq.alloc (.cells #[.slice s.fo s.es.length s.fc, .slice s.po pl s.pc, .int .i64 s.st.next, .int .i64 s.st.ser, .int .i64 s.st.fin, .int .i64 s.st.stat] 39) = W1 at *
      go_loopw [8] (fun s8 u => ∃ (i : Nat), i ≤ pl ∧ s8 = .int .i64 i ∧ Hid (Below W1.heap.size W1 u)) (fun j _ => pl - (intOf j).toNat)
      case atStart => exact ⟨0, Nat.zero_le _, rfl, Below.refl _ _⟩
      case round =>
        obtain ⟨i, hi, rfl, HBu⟩ := hrel
        obtain ⟨uq, huq⟩ : ∃ x, x = wr := ⟨_, rfl⟩
        subst huq
        obtain ⟨hbx, hup⟩ := HBX.out uq HBu.out
        obtain ⟨⟨a0, a1, a2, a3, a4, a5⟩, -⟩ := box6 hbx
        by_cases hil : i < pl
        · have hili : (i : Int) < (pl : Int) := by omega
          have hl : i < s.st.ps.reverse.length := by rw [List.length_reverse, ← HPLE.out]; exact hil
          obtain ⟨q, hq⟩ : ∃ q, s.st.ps.reverse[i]? = some q := ⟨_, List.getElem?_eq_getElem hl⟩
          obtain ⟨gp, hpo, k0, -⟩ := HPC.out uq hup i q hq
          have hlt2 : decide (s.st.ser ≤ q.ser) = false := by have := HLT.out i q hq; simp; omega
          rcases i with _ | i
          · have hz0 : decide ((0 : Int) < 0) = false := by decide
            simp only [Nat.zero_mul] at k0
            rw [hpo] at a1
            clear hbx hup hq hl
            go_wp2_with fail
            go_quiet (fail)
            go_wp2_with fail
            go_roundw
            case rel => exact ⟨1, by omega, by go_num, HBu.out.trans ((below_dn _ _).mono HBu.out.size)⟩
            case measure => simp [intOf]; omega
          · obtain ⟨p, hp⟩ : ∃ p, s.st.ps.reverse[i]? = some p := ⟨_, List.getElem?_eq_getElem (by omega)⟩
            obtain ⟨gp', hpo', k1, -⟩ := HPC.out uq hup i p hp
            have hgg : gp' = gp := by rw [hpo] at hpo'; cases hpo'; rfl
            subst hgg
            have hge : decide (q.ser ≤ p.ser) = false := by have := HSORT.out i p q hp hq; simp; omega
            have hpos : (0 : Int) < (i : Int) + 1 := by omega
            have hii : (i : Int) < (pl : Int) := by omega
            rw [hpo] at a1
            clear hbx hup hq hp hl
            go_wp2_with fail
            go_quiet (fail)
            go_wp2_with fail
            go_roundw
            case rel => exact ⟨i + 2, by omega, by go_num, HBu.out.trans ((below_dn _ _).mono HBu.out.size)⟩
            case measure => simp [intOf]; omega
        · have hie : i = pl := by omega
          subst hie
          have HBN : Hid (Below w2.heap.size w2 uq) := HB.out.trans (hup.mono HB.out.size)
          rcases i with _ | i
          · clear hbx hup
            go_wp2_with fail
            go_roundw
            case rel => exact ⟨k + 1, by omega, by go_num, HBN.out⟩
            case measure => simp [intOf]; omega
          · have hl : i < s.st.ps.reverse.length := by rw [List.length_reverse, ← HPLE.out]; omega
            obtain ⟨q, hq⟩ : ∃ q, s.st.ps.reverse[i]? = some q := ⟨_, List.getElem?_eq_getElem hl⟩
            obtain ⟨gp, hpo, -, k6⟩ := HPC.out uq hup i q hq
            rw [HLAST.out i q hq HPLE.out] at k6
            have hii : (i : Int) < (i : Int) + 1 := by omega
            have hi0 : (0 : Int) ≤ (i : Int) := by omega
            rw [hpo] at a1
            clear hbx hup hq hl
            go_wp2_with fail
            go_roundw
            case rel => exact ⟨k + 1, by omega, by go_num, HBN.out⟩
            case measure => simp [intOf]; omega
    · have HF : Hid (Below w.heap.size w wq) := HB2.out.trans (HB.out.mono HB2.out.size)
      go_wp2_with fail
      go_ret
      exact ⟨rfl, HF.out⟩

theorem contract (H : Type) (enc : TypeId × Value → H) (W : World) (base : Nat) (args : Array Value) (ds gs : List (DataW H)) (before : List MemPlace)
    (hval : ∀ (j : Nat) t v, Try.f7.params[j]? = some t → args[j]? = some v → Value.okWide Try.prog W .any base t v)
    (hW : DataW.Whole enc Try.prog Try.f7.params.toList Rows.panicsFlightSpec.vars false W args.toList ds gs before)
    (hsz : (DataW.weightsEach Try.prog (Try.f7.params.toList ++ Rows.panicsFlightSpec.plain.varTypes Try.prog) (ds ++ gs)).all (· ≤ reachBytes) = true) :
    Calls Try.prog 7 args W fun e W' => ∃ v, e = .returned v ∧ Rows.panicsFlightSpec.post enc Try.prog Try.f7 false true false false W args v W' := by
  have hW' := hW
  obtain ⟨p, q, hA0, hV, rfl, hfz, hnd⟩ := hW
  have hA : DataW.TrodAll enc Try.prog W 0 (fun _ => true) true Try.f7.params.toList args.toList ds p := hA0
  rw [Try.params7] at hA hval hsz
  obtain ⟨v0, vs0, d0, ds0, p0, q0, hargs, rfl, rfl, h0, r0⟩ := trodAll_cons hA
  obtain ⟨rfl, rfl, rfl⟩ := trodAll_nil r0
  obtain rfl : args = #[v0] := by cases args; simp_all
  obtain ⟨rfl, rfl⟩ := trodVars_none hV
  obtain ⟨ao0, len0, cap0, rfl⟩ := okWide_slice Try.underlying22 (hval 0 22 v0 rfl rfl)
  obtain ⟨es0, hC0, hN0⟩ := evs_came (j := 0) h0 hsz rfl rfl
  clear hA0
  simp only [List.append_nil] at hW'
  have hlt0 : ∀ x ∈ p0, x.block < W.heap.size := fun x hx => hW'.lt x (by simp [hx])
  refine (walk _ es0 W hC0 hN0).mono fun e W' ⟨he, bel⟩ => ?_
  subst he
  exact ⟨_, rfl, _, _, _, [], p0 ++ [], [], hW', trodAll_mk1 (shut_bool Try.underlying4 _), (trodAll_cons_mk (Below.trod (by kernel_rfl) (by kernel_rfl) (of_decide_eq_true (by kernel_rfl)) h0 bel hlt0) trodAll_mk0), rfl, bel.frame _, fun h => by cases h⟩

set_option maxRecDepth 100000 in
theorem lifted (os : Os) (started : os.Started) (H : Type) (enc : TypeId × Value → H) :
    ReturnsInHanded {} Try.checked os 7 .any (Rows.panicsFlightSpec.pre6 enc Try.prog Try.f7 Rows.panicsFlightRow.domain false) (Rows.panicsFlightSpec.post enc Try.prog Try.f7 false true false false) := by
  refine returnsInHanded_of_change_sized (C := Try.checked) own started (by kernel_rfl) Try.func7
    (ChangeSpec.witness6 (enc := enc) (C := Try.checked) false ⟨#[], #[.slice none 0 0], []⟩ 8 (by kernel_rfl) (by kernel_rfl) (by kernel_rfl) (by kernel_rfl)) ?_
  intro W base args ds gs before hval0 hW hcnd hsz _
  exact contract H enc W base args ds gs before hval0 hW hsz

theorem proved : Rows.PanicsFlightSaid :=
  OpenClaim.holds_of_wide 7 Try.f7 rfl rfl rfl rfl rfl rfl rfl ⟨rfl, rfl, rfl, rfl, rfl⟩ rfl rfl rfl rfl rfl (by kernel_rfl) Try.func7 (by kernel_rfl)
    (of_decide_eq_true (by kernel_rfl)) (by unfold Func.isWrapper; first | (rw [if_pos (by decide +kernel)]; kernel_rfl) | (rw [if_neg (by decide +kernel)]; exact ⟨rfl, rfl⟩))
    (fun os started H enc _ => lifted os started H enc)
#print axioms proved
end Go.Proofs.Ytcnpoldcebdhjab.panicsFlight
