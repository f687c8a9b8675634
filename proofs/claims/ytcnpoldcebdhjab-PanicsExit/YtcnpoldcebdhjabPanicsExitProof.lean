/-
  For every list of events (made such as may happen) and every number: behind an exit nothing goes on and no deferred call starts, and the status is the number's lowest eight bits.
-/
import Derived.Test.YtcnpoldcebdhjabPl3
import Derived.Test.YtcnpoldcebdhjabEcame
import Derived.SizedLaws
import Derived.JoinedCond
namespace Go.Proofs.Ytcnpoldcebdhjab.panicsExit
open Go.ChangeShapes Go.WideShapes Go.ChangeAt Go.RowKit
open Go.WideMaps Go.WideElems
open Go.ChangeMaps (open_string shut_string)
set_option linter.unusedVariables false
set_option linter.unusedSimpArgs false
set_option maxRecDepth 100000

theorem own : ownKnob Try.prog.godebug = none := by kernel_rfl

set_option maxHeartbeats 2000000 in
theorem walk (v0 : Value) (es0 : List Eo) (a1 : Int) (w : World) (hv0 : EvSrc w v0 es0) (hz0 : es0.length ≤ 140737488351232) (ha1 : (Lit.int .i64 a1).wf = true) :
    Calls Try.prog 5 #[v0, .int .i64 a1] w fun e w' => e = .returned (.bool true) ∧ Below w.heap.size w w' := by
  have HEV : Hid (EvSrc w v0 es0 ∧ es0.length ≤ 140737488351232) := ⟨hv0, hz0⟩
  have HA1 : Hid ((Lit.int .i64 a1).wf = true) := ha1
  obtain ⟨vo, vc, hsh⟩ := hv0.row.shape
  subst hsh
  clear hv0 hz0 ha1
  go_enter Try.func5, Try.ntmps5
  go_wp2_with fail
  refine (own_events _ es0 w HEV.out.1 HEV.out.2).mono ?_
  rintro e w1 ⟨v1, es1, rfl, hrow, hmap, hb1⟩
  have HROW := Hid.mk' hrow
  have HOK1 := Hid.mk' (evs_ok hmap)
  have HB1 := Hid.mk' hb1
  obtain ⟨vo1, vc1, hsh1⟩ := row_slice hrow
  subst hsh1
  clear hrow hmap hb1
  go_wp2_with fail
  refine (own_playedE _ es1 w1 w.heap.size HROW.out HOK1.out.1 HOK1.out.2).mono ?_
  rintro e w2 ⟨so, sc, ao, ac, ss, ts, rfl, hp, hb2⟩
  have HP := Hid.mk' hp
  have HB2 : Hid (Below w.heap.size w w2) := HB1.out.trans (hb2.mono HB1.out.size)
  have hlen := hp.len
  obtain ⟨s, hs⟩ : ∃ s, ss[ts.length]? = some s := ⟨ss[ts.length]'(by omega), List.getElem?_eq_getElem _⟩
  obtain ⟨g, hso, hg, hc⟩ := hp.at hs
  subst hso
  obtain ⟨c0, c1, c2, c3, c4, c5⟩ := hc w2 (Below.refl _ _)
  have hmem : s ∈ ss := List.mem_of_getElem? hs
  have HSO := Hid.mk' (hp.own s hmem)
  have HFIT := Hid.mk' (hp.fit s hmem)
  have hmi : (ts.length : Int) < (ts.length : Int) + 1 := by omega
  have htl : ts.length ≤ 400 := by
    have h1 := congrArg List.length hp.td
    have h2 : ∀ (l : List Ev) (st : St), (trace st l).length ≤ l.length := by
      intro l
      induction l with
      | nil => intro st; simp [trace]
      | cons e r ih => intro st; unfold trace; split <;> simp [ih]
    have h3 := h2 (es1.map (·.x)) bSt
    have h4 := hp.len4
    simp at h1 h3 h4
    omega
  clear hp hb2 hs hc hlen hmem
  by_cases hfin : s.st.fin = 0
  · have HE : Hid (∀ u, Below w2.heap.size w2 u → Calls Try.prog 11 #[.agg #[.slice s.fo s.es.length s.fc, .slice s.po s.st.ps.length s.pc, .int .i64 s.st.next, .int .i64 s.st.ser, .int .i64 s.st.fin, .int .i64 s.st.stat], .agg #[.int .i64 6, .int .i64 a1, .int .i64 0, .int .i64 0, .string ⟨#[]⟩, .slice none 0 0]] u fun x w' => (∃ s' g tc, s'.st = s.st.done 3 (and255 a1) ∧ x = .returned (.tuple #[So.val s', .slice (some ⟨g, 0, none⟩) 1 tc, .int .i64 0]) ∧ SOwn w' s' ∧ TakeOk s'.st [] ∧ g < w'.heap.size ∧ w'.cell? ⟨g, 0, none⟩ = some (.int .i64 7) ∧ w'.cell? ⟨g, 1, none⟩ = some (.int .i64 3)) ∧ Below u.heap.size u w') := fun u hu => by
      obtain ⟨j, hj, hf⟩ := HFIT.out
      exact own_exit s a1 none 0 0 j u (HSO.out.keeps (Keeps.below (t0 := 39) hu) (by decide) (by decide) (by decide)) hf hj hfin
    have HSP : Hid (∀ u, Calls Try.prog 12 #[.int .i64 a1, .int .i64 256] u fun e w' => e = .returned (.int .i64 (and255 a1)) ∧ w' = u) := fun u => by rw [and255_is, ← spotI_256]; exact own_spot256 a1 u
    have hfb : (s.st.fin == 0) = true := by simpa using hfin
    have hfb2 : (s.st.fin != 0) = false := by simp [hfin]
    clear hfin
    go_wp2_with fail
    refine (HE.out _ ((Below.refl _ _).alloc (Nat.le_refl _) _)).mono ?_
    rintro e w3 ⟨⟨s', g2, tc, hs', rfl, hso', htk, hg2, q0, q1⟩, hb3⟩
    have HB3 : Hid (Below w.heap.size w w3) := HB2.out.trans (((Below.refl _ _).alloc (Nat.le_refl _) _ |>.trans (hb3.mono (by simp))).mono HB2.out.size)
    have hfin3 : s'.st.fin = 3 := by rw [hs']; rfl
    have hstat3 : s'.st.stat = and255 a1 := by rw [hs']; rfl
    have HE2 : Hid (∀ u, Below w3.heap.size w3 u → Calls Try.prog 11 #[.agg #[.slice s'.fo s'.es.length s'.fc, .slice s'.po s'.st.ps.length s'.pc, .int .i64 s'.st.next, .int .i64 s'.st.ser, .int .i64 3, .int .i64 (and255 a1)], .agg #[.int .i64 2, .int .i64 0, .int .i64 0, .int .i64 0, .string ⟨#[]⟩, .slice none 0 0]] u fun x w' => x = .returned (.tuple #[zeroSt, .slice none 0 0, .int .i64 17]) ∧ Below u.heap.size u w') := fun u hu => by
      have := own_ended s' ⟨2, 0, 0, 0, ⟨#[]⟩⟩ none 0 0 u (hso'.keeps (Keeps.below (t0 := 39) hu) (by decide) (by decide) (by decide)) htk (by rw [hfin3]; decide)
      unfold So.val at this
      rw [hfin3, hstat3] at this
      exact this
    unfold So.val
    rw [hfin3, hstat3]
    generalize s'.es.length = fl at *
    generalize s'.st.ps.length = pl at *
    generalize s'.st.next = nx at *
    generalize s'.st.ser = sr at *
    clear hs' hso' htk hfin3 hstat3 hb3 c0 c1 c2 c3 c4 c5
    generalize and255 a1 = sa at *
    go_wp2_with fail
    refine (HE2.out _ ((Below.refl _ _).alloc (Nat.le_refl _) _)).mono ?_
    rintro e w4 ⟨rfl, hb4⟩
    have hb34 : Below w3.heap.size w3 w4 := ((Below.refl _ _).alloc (Nat.le_refl _) _).trans (hb4.mono (by simp))
    have HB4 : Hid (Below w.heap.size w w4) := HB3.out.trans (hb34.mono HB3.out.size)
    have hbx := box_stays hb4
    have hsz34 : w3.heap.size < w4.heap.size := by have := hb4.size; simp at this; omega
    have hal : Below w4.heap.size w4 (w4.alloc (.cells #[.slice none 0 0, .slice none 0 0, .int .i64 0, .int .i64 0, .int .i64 0, .int .i64 0] 39)) := (Below.refl _ _).alloc (Nat.le_refl _) _
    have hbx5 : (w4.alloc (.cells #[.slice none 0 0, .slice none 0 0, .int .i64 0, .int .i64 0, .int .i64 0, .int .i64 0] 39)).heap[w3.heap.size]? = _ := (hal.block _ hsz34).trans hbx
    obtain ⟨⟨d0, d1, d2, d3, d4, d5⟩, -⟩ := box6 hbx5
    have hb35 := hb34.trans (hal.mono hb34.size)
    have e0 : (w4.alloc (.cells #[.slice none 0 0, .slice none 0 0, .int .i64 0, .int .i64 0, .int .i64 0, .int .i64 0] 39)).cell? ⟨g2, 0, none⟩ = some (.int .i64 7) := by rw [hb35.cell hg2]; exact q0
    have e1 : (w4.alloc (.cells #[.slice none 0 0, .slice none 0 0, .int .i64 0, .int .i64 0, .int .i64 0, .int .i64 0] 39)).cell? ⟨g2, 1, none⟩ = some (.int .i64 3) := by rw [hb35.cell hg2]; exact q1
    have HB5 : Hid (Below w.heap.size w (w4.alloc (.cells #[.slice none 0 0, .slice none 0 0, .int .i64 0, .int .i64 0, .int .i64 0, .int .i64 0] 39))) := HB4.out.trans (hal.mono HB4.out.size)
    clear hb4 hb34 hb35 hbx hbx5 hal q0 q1 hsz34
    unfold zeroSt
    go_wp2_with fail
    generalize w4.alloc (.cells #[.slice none 0 0, .slice none 0 0, .int .i64 0, .int .i64 0, .int .i64 0, .int .i64 0] 39) = w5 at *
    go_quiet ((go_at_call 12; exact Calls.quiet_of_same (HSP.out _)))
    go_wp2_with fail
    go_ret
    exact ⟨rfl, HB5.out.trans ((below_dn _ _).mono HB5.out.size)⟩
  · have HE : Hid (∀ u, Below w2.heap.size w2 u → Calls Try.prog 11 #[.agg #[.slice s.fo s.es.length s.fc, .slice s.po s.st.ps.length s.pc, .int .i64 s.st.next, .int .i64 s.st.ser, .int .i64 s.st.fin, .int .i64 s.st.stat], .agg #[.int .i64 2, .int .i64 0, .int .i64 0, .int .i64 0, .string ⟨#[]⟩, .slice none 0 0]] u fun x w' => x = .returned (.tuple #[zeroSt, .slice none 0 0, .int .i64 17]) ∧ Below u.heap.size u w') := fun u hu => by
      obtain ⟨j, hj, hf⟩ := HFIT.out
      exact own_ended s ⟨2, 0, 0, 0, ⟨#[]⟩⟩ none 0 0 u (HSO.out.keeps (Keeps.below (t0 := 39) hu) (by decide) (by decide) (by decide)) (hf.take (by omega)) hfin
    have hfb : (s.st.fin == 0) = false := by simpa using hfin
    have hfb2 : (s.st.fin != 0) = true := by simpa using hfin
    clear hfin
    go_wp2_with fail
    refine (HE.out _ ((Below.refl _ _).alloc (Nat.le_refl _) _)).mono ?_
    rintro e w3 ⟨rfl, hb3⟩
    have HB3 : Hid (∀ o, Below w.heap.size w (w3.alloc o)) := fun o => (HB2.out.trans (((Below.refl _ _).alloc (Nat.le_refl _) _ |>.trans (hb3.mono (by simp))).mono HB2.out.size)).trans (((Below.refl _ _).alloc (Nat.le_refl _) o).mono (Nat.le_trans HB2.out.size (by have := hb3.size; simp at this; omega)))
    clear hb3
    unfold zeroSt
    go_wp2_with fail
    go_ret
    exact ⟨rfl, HB3.out _⟩

theorem contract (H : Type) (enc : TypeId × Value → H) (W : World) (base : Nat) (args : Array Value) (ds gs : List (DataW H)) (before : List MemPlace)
    (hval : ∀ (j : Nat) t v, Try.f5.params[j]? = some t → args[j]? = some v → Value.okWide Try.prog W .any base t v)
    (hW : DataW.Whole enc Try.prog Try.f5.params.toList Rows.panicsExitSpec.vars false W args.toList ds gs before)
    (hsz : (DataW.weightsEach Try.prog (Try.f5.params.toList ++ Rows.panicsExitSpec.plain.varTypes Try.prog) (ds ++ gs)).all (· ≤ reachBytes) = true) :
    Calls Try.prog 5 args W fun e W' => ∃ v, e = .returned v ∧ Rows.panicsExitSpec.post enc Try.prog Try.f5 false true false false W args v W' := by
  have hW' := hW
  obtain ⟨p, q, hA0, hV, rfl, hfz, hnd⟩ := hW
  have hA : DataW.TrodAll enc Try.prog W 0 (fun _ => true) true Try.f5.params.toList args.toList ds p := hA0
  rw [Try.params5] at hA hval hsz
  obtain ⟨v0, vs0, d0, ds0, p0, q0, hargs, rfl, rfl, h0, r0⟩ := trodAll_cons hA
  obtain ⟨v1, vs1, d1, ds1, p1, q1, rfl, rfl, rfl, h1, r1⟩ := trodAll_cons r0
  obtain ⟨rfl, rfl, rfl⟩ := trodAll_nil r1
  obtain rfl : args = #[v0, v1] := by cases args; simp_all
  obtain ⟨rfl, rfl⟩ := trodVars_none hV
  obtain ⟨ao0, len0, cap0, rfl⟩ := okWide_slice Try.underlying22 (hval 0 22 v0 rfl rfl)
  obtain ⟨es0, hC0, hN0⟩ := evs_came (j := 0) h0 hsz rfl rfl
  obtain ⟨a1, rfl, rfl, rfl, wf1⟩ := open_int Try.underlying3 (hval 1 3 v1 rfl rfl) h1
  clear hA0
  simp only [List.append_nil, List.nil_append] at hW'
  have hlt0 : ∀ x ∈ p0, x.block < W.heap.size := fun x hx => hW'.lt x (by simp [hx])
  refine (walk _ es0 a1 W hC0 hN0 wf1).mono fun e W' ⟨he, bel⟩ => ?_
  subst he
  exact ⟨_, rfl, _, _, _, [], p0 ++ ([] ++ ([])), [], hW', trodAll_mk1 (shut_bool Try.underlying4 _), (trodAll_cons_mk (Below.trod (by kernel_rfl) (by kernel_rfl) (of_decide_eq_true (by kernel_rfl)) h0 bel hlt0) (trodAll_cons_mk (shut_int Try.underlying3 wf1) trodAll_mk0)), rfl, bel.frame _, fun h => by cases h⟩

set_option maxRecDepth 100000 in
theorem lifted (os : Os) (started : os.Started) (H : Type) (enc : TypeId × Value → H) :
    ReturnsInHanded {} Try.checked os 5 .any (Rows.panicsExitSpec.pre6 enc Try.prog Try.f5 Rows.panicsExitRow.domain false) (Rows.panicsExitSpec.post enc Try.prog Try.f5 false true false false) := by
  refine returnsInHanded_of_change_sized (C := Try.checked) own started (by kernel_rfl) Try.func5
    (ChangeSpec.witness6 (enc := enc) (C := Try.checked) false ⟨#[], #[.slice none 0 0, .int .i64 0], []⟩ 8 (by kernel_rfl) (by kernel_rfl) (by kernel_rfl) (by kernel_rfl)) ?_
  intro W base args ds gs before hval0 hW hcnd hsz _
  exact contract H enc W base args ds gs before hval0 hW hsz

theorem proved : Rows.PanicsExitSaid :=
  OpenClaim.holds_of_wide 5 Try.f5 rfl rfl rfl rfl rfl rfl rfl ⟨rfl, rfl, rfl, rfl, rfl⟩ rfl rfl rfl rfl rfl (by kernel_rfl) Try.func5 (by kernel_rfl)
    (of_decide_eq_true (by kernel_rfl)) (by unfold Func.isWrapper; first | (rw [if_pos (by decide +kernel)]; kernel_rfl) | (rw [if_neg (by decide +kernel)]; exact ⟨rfl, rfl⟩))
    (fun os started H enc _ => lifted os started H enc)
#print axioms proved
end Go.Proofs.Ytcnpoldcebdhjab.panicsExit
