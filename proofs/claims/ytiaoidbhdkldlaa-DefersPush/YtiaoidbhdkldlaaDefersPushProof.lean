/-
  For all lists of calls and each call that come in, defers.Push answers the list with the call behind it (P8.1): the law's function returns true.
-/
import Derived.Test.YtiaoidbhdkldlaaCpush
import Derived.Test.YtiaoidbhdkldlaaCsame
namespace Go.Proofs.Ytiaoidbhdkldlaa.defersPush
open Go.ChangeShapes Go.WideShapes Go.ChangeAt Go.RowKit
open Go.WideMaps Go.WideElems
open Go.ChangeMaps (open_string shut_string)
set_option linter.unusedVariables false
set_option linter.unusedSimpArgs false
set_option maxRecDepth 100000

theorem own : ownKnob Try.prog.godebug = none := by kernel_rfl

set_option maxHeartbeats 2000000 in
theorem walk (v0 : Value) (es0 : List Ce) (cs0 : List Cc) (x1 : Cc) (L1 : Value) (w : World) (hv0 : CSrc w v0 es0 cs0) (hc0 : ∀ c ∈ cs0, CIn c) (hz0 : cs0.length ≤ 3518437208780) (hx1 : CIn x1) (hm1 : ILies w L1 x1.args) :
    Calls Try.prog 3 #[v0, cval x1 L1] w fun e w' => e = .returned (.bool true) ∧ Below w.heap.size w w' := by
  have hc : COk cs0 := ⟨hc0, by omega⟩
  have HV : Hid (∀ u, Below (w.alloc (.cells #[.int .i64 x1.site, .int .i64 x1.fn, L1] 25)).heap.size (w.alloc (.cells #[.int .i64 x1.site, .int .i64 x1.fn, L1] 25)) u → CSrc u v0 es0 cs0) := fun u h => hv0.below (below_up h)
  have HM : Hid (∀ u, Below (w.alloc (.cells #[.int .i64 x1.site, .int .i64 x1.fn, L1] 25)).heap.size (w.alloc (.cells #[.int .i64 x1.site, .int .i64 x1.fn, L1] 25)) u → ILies u L1 x1.args) := fun u h => hm1.below (below_up h) (Nat.le_refl _)
  have HCS : Hid (∀ c ∈ cs0 ++ [x1], c.args.length ≤ 140737488351232) := fun c h => by
    have h1 : CIn c := by
      rcases List.mem_append.1 h with h | h
      · exact hc0 c h
      · simp at h; subst h; exact hx1
    have := h1.sz; omega
  have HZ : Hid (cs0.length ≤ 3518437208780) := hz0
  obtain ⟨lo, lc, rfl⟩ := hm1.shape
  obtain ⟨vo, vc, rfl⟩ := hv0.row.shape
  clear hv0 hm1
  unfold cval
  go_enter Try.func3, Try.ntmps3
  go_wp2_with fail
  have hl : AllStab [isV (.slice vo es0.length vc), isRow (w.heap.size + 1) cs0, isV (cval x1 (.slice lo x1.args.length lc)), isRow (w.heap.size + 1) (cs0 ++ [x1]), isV (.slice vo es0.length vc), isRow (w.heap.size + 1) cs0, isV (cval x1 (.slice lo x1.args.length lc)), isLit (w.heap.size + 1) x1 (.slice lo x1.args.length lc), isMix (w.heap.size + 1) cs0 x1 (.slice lo x1.args.length lc), isV (.bool true), isV (.bool true)] := ⟨stab_is _, stab_row _ _, stab_is _, stab_row _ _, stab_is _, stab_row _ _, stab_is _, stab_lit _ _ _, stab_mix _ _ _ _, stab_is _, stab_is _, trivial⟩
  refine wp_joint (JF [isV (.slice vo es0.length vc), isRow (w.heap.size + 1) cs0, isV (cval x1 (.slice lo x1.args.length lc)), isRow (w.heap.size + 1) (cs0 ++ [x1]), isV (.slice vo es0.length vc), isRow (w.heap.size + 1) cs0, isV (cval x1 (.slice lo x1.args.length lc)), isLit (w.heap.size + 1) x1 (.slice lo x1.args.length lc), isMix (w.heap.size + 1) cs0 x1 (.slice lo x1.args.length lc), isV (.bool true), isV (.bool true)] ([99, 3, 99, 99, 99, 8, 99, 8, 99, 99, 99].getD · 99) (fun d f _ => d 3 = true → d 5 = true → ∀ g, (f 3).ownBlock = some g → (f 5).ownBlock ≠ some g) _) (by kernel_rfl) (by kernel_rfl) (by kernel_rfl) (fun f => ⟨(Below.refl _ _).drew, rfl, (fun i h _ => by cases h), (fun h1 => by cases h1)⟩) ?_ ?_
  · refine stepsOK5_cons (fun f d u hJ hn hd hno K hK => ?_) (stepsOK5_cons (fun f d u hJ hn hd hno K hK => ?_) (stepsOK5_cons (fun f d u hJ hn hd hno K hK => ?_) (stepsOK5_cons (fun f d u hJ hn hd hno K hK => ?_) (stepsOK5_cons (fun f d u hJ hn hd hno K hK => ?_) (stepsOK5_cons (fun f d u hJ hn hd hno K hK => ?_) (stepsOK5_cons (fun f d u hJ hn hd hno K hK => ?_) (stepsOK5_cons (fun f d u hJ hn hd hno K hK => ?_) (stepsOK5_cons (fun f d u hJ hn hd hno K hK => ?_) (stepsOK5_cons (fun f d u hJ hn hd hno K hK => ?_) (stepsOK5_cons (fun f d u hJ hn hd hno K hK => ?_) stepsOK5_nil))))))))))
    · refine wanted_on rfl ?_
      simp only [putAll, Act.put, List.setIfInBounds_toArray, List.set_cons_zero, List.set_cons_succ] at hK ⊢
      go_simp
      exact hK _ _ _ rfl (hJ.grow hl (by decide) (Below.refl _ _) rfl (fun h1 h2 => hJ.more h1 h2))
    · have e0 : f 0 = (.slice vo es0.length vc) := hJ.at 0 (hd 0 (by kernel_rfl)) hJ.none
      refine wanted_on rfl ?_
      simp only [putAll, Act.put, List.setIfInBounds_toArray, List.set_cons_zero, List.set_cons_succ, e0] at hK ⊢
      go_simp
      refine (own_calls _ es0 cs0 u (HV.out u hJ.up) hc).mono ?_
      rintro e u1 ⟨W1, M1, rfl, h1, hb⟩
      exact hK _ _ _ rfl (hJ.grow hl (by decide) hb ⟨M1, h1.up (by have := hJ.up.size; simp at this; omega)⟩ (fun h1 h2 => hJ.more h1 h2))
    · obtain ⟨⟨c0, c1, c2⟩, _⟩ := box3 (box_stays hJ.up)
      refine wanted_on rfl ?_
      simp only [putAll, Act.put, List.setIfInBounds_toArray, List.set_cons_zero, List.set_cons_succ] at hK ⊢
      go_simp
      exact hK _ _ _ rfl (hJ.grow hl (by decide) (Below.refl _ _) rfl (fun h1 h2 => hJ.more h1 h2))
    · obtain ⟨m1, q1⟩ := hJ.at 1 (hd 1 (by kernel_rfl)) hn
      obtain ⟨V1, e1⟩ : ∃ V, f 1 = V := ⟨_, rfl⟩
      rw [e1] at q1
      have e2 : f 2 = (cval x1 (.slice lo x1.args.length lc)) := hJ.at 2 (hd 2 (by kernel_rfl)) hJ.none
      unfold cval at e2
      refine wanted_on rfl ?_
      simp only [putAll, Act.put, List.setIfInBounds_toArray, List.set_cons_zero, List.set_cons_succ, e1, e2] at hK ⊢
      go_simp
      have hnot : d 5 = false := hno 5 (by kernel_rfl)
      refine (own_push _ m1 cs0 x1 _ u q1.src hc hx1 (HM.out u hJ.up)).mono ?_
      rintro e u1 ⟨W1, M1, rfl, h1, hb⟩
      refine hK _ _ _ rfl (hJ.grow hl (by decide) hb ⟨M1, h1.up (by have := hJ.up.size; simp at this; omega)⟩ (fun h1 h2 => ?_))
      exfalso
      have h3 : d 5 = true := h2
      rw [hnot] at h3
      cases h3
    · refine wanted_on rfl ?_
      simp only [putAll, Act.put, List.setIfInBounds_toArray, List.set_cons_zero, List.set_cons_succ] at hK ⊢
      go_simp
      exact hK _ _ _ rfl (hJ.grow hl (by decide) (Below.refl _ _) rfl (fun h1 h2 => hJ.more h1 h2))
    · have e4 : f 4 = (.slice vo es0.length vc) := hJ.at 4 (hd 4 (by kernel_rfl)) hJ.none
      refine wanted_on rfl ?_
      simp only [putAll, Act.put, List.setIfInBounds_toArray, List.set_cons_zero, List.set_cons_succ, e4] at hK ⊢
      go_simp
      have h3d : d 3 = true := hd 3 (by kernel_rfl)
      obtain ⟨m3, q3⟩ := hJ.at 3 h3d hJ.none
      refine (own_calls _ es0 cs0 u (HV.out u hJ.up) hc).mono ?_
      rintro e u1 ⟨W1, M1, rfl, h1, hb⟩
      refine hK _ _ _ rfl (hJ.grow hl (by decide) hb ⟨M1, h1.up (by have := hJ.up.size; simp at this; omega)⟩ (fun _ _ g hg1 hg2 => ?_))
      have h4 := (q3.row.lt g hg1).2
      have h5 := (h1.row.lt g hg2).1
      omega
    · obtain ⟨⟨c0, c1, c2⟩, _⟩ := box3 (box_stays hJ.up)
      refine wanted_on rfl ?_
      simp only [putAll, Act.put, List.setIfInBounds_toArray, List.set_cons_zero, List.set_cons_succ] at hK ⊢
      go_simp
      exact hK _ _ _ rfl (hJ.grow hl (by decide) (Below.refl _ _) rfl (fun h1 h2 => hJ.more h1 h2))
    · have e6 : f 6 = (cval x1 (.slice lo x1.args.length lc)) := hJ.at 6 (hd 6 (by kernel_rfl)) hJ.none
      unfold cval at e6
      refine wanted_on rfl ?_
      simp only [putAll, Act.put, List.setIfInBounds_toArray, List.set_cons_zero, List.set_cons_succ, e6] at hK ⊢
      go_simp
      exact hK _ _ _ rfl (hJ.grow hl (by decide) ((Below.refl _ _).alloc (Nat.le_refl _) _) (lit_is (by have := hJ.up.size; simp at this; omega)) (fun h1 h2 => hJ.more h1 h2))
    · obtain ⟨m5, q5⟩ := hJ.at 5 (hd 5 (by kernel_rfl)) hn
      obtain ⟨V5, e5⟩ : ∃ V, f 5 = V := ⟨_, rfl⟩
      rw [e5] at q5
      have q7 : isLit (w.heap.size + 1) x1 (.slice lo x1.args.length lc) (f 7) u := hJ.at 7 (hd 7 (by kernel_rfl)) hn
      obtain ⟨V7, e7⟩ : ∃ V, f 7 = V := ⟨_, rfl⟩
      rw [e7] at q7
      refine wanted_on rfl ?_
      simp only [putAll, Act.put, List.setIfInBounds_toArray, List.set_cons_zero, List.set_cons_succ, e5, e7] at hK ⊢
      have hml : m5.length ≤ 3518437208800 := by have := q5.len; have := HZ.out; omega
      refine capp0 _ _ rfl rfl rfl q5.row q7 (by have := hJ.up.size; simp at this; omega) hml ?_
      intro v1 u1 h1 hg hb
      refine hK _ _ _ rfl (hJ.step (by decide) (hJ.up.trans (hb.mono (by simp))) (fun j h2 h3 h4 h5 h6 => ?_) ⟨m5, by rw [show ccells (m5 ++ [⟨x1, .slice lo x1.args.length lc⟩]) = ccells m5 ++ Ce.cells ⟨x1, .slice lo x1.args.length lc⟩ by simp [ccells]]; exact h1, fun e he => iown_grown (q5.lies e he) hg (row_typed q5.row), q5.xs⟩ (fun h1 h2 => hJ.more h1 h2))
      match j, h3, h6 with
      | 0, _, h6 => exact h6
      | 1, _, h6 => exact absurd (show d 3 = false from h5) (by rw [hd 3 (by kernel_rfl)]; simp)
      | 2, _, h6 => exact h6
      | 3, _, h6 => obtain ⟨m3, q3⟩ := h6; exact ⟨m3, q3.kept hg (apart_blocks (fun g h7 => by have := hJ.more (hd 3 (by kernel_rfl)) (hd 5 (by kernel_rfl)) g h7; rwa [e5] at this)) (row_typed q5.row)⟩
      | 4, _, h6 => exact h6
      | 5, h3, _ => exact absurd rfl h3
      | 6, _, h6 => exact h6
      | 7, h3, _ => exact absurd rfl h3
      | 8, _, _ => exact absurd rfl h2
      | 9, _, _ => cases (hno 9 (by kernel_rfl)).symm.trans h4
      | 10, _, _ => cases (hno 10 (by kernel_rfl)).symm.trans h4
      | j + 11, _, _ => exact trivial
    · obtain ⟨m3, q3⟩ := hJ.at 3 (hd 3 (by kernel_rfl)) hJ.none
      obtain ⟨V3, e3⟩ : ∃ V, f 3 = V := ⟨_, rfl⟩
      rw [e3] at q3
      have q8 : isMix (w.heap.size + 1) cs0 x1 (.slice lo x1.args.length lc) (f 8) u := hJ.at 8 (hd 8 (by kernel_rfl)) hJ.none
      obtain ⟨V8, e8⟩ : ∃ V, f 8 = V := ⟨_, rfl⟩
      rw [e8] at q8
      refine wanted_on rfl ?_
      simp only [putAll, Act.put, List.setIfInBounds_toArray, List.set_cons_zero, List.set_cons_succ, e3, e8] at hK ⊢
      go_simp
      obtain ⟨E8, s8⟩ := mix_src q8 (HM.out u hJ.up)
      refine (own_sames _ _ m3 E8 _ u q3.src s8 HCS.out (by have := HZ.out; simp; omega)).mono ?_
      rintro e u1 ⟨rfl, hb⟩
      exact hK _ _ _ rfl (hJ.grow hl (by decide) hb rfl (fun h1 h2 => hJ.more h1 h2))
    · have e9 : f 9 = (.bool true) := hJ.at 9 (hd 9 (by kernel_rfl)) hJ.none
      refine wanted_on rfl ?_
      simp only [putAll, Act.put, List.setIfInBounds_toArray, List.set_cons_zero, List.set_cons_succ, e9] at hK ⊢
      go_simp
      exact hK _ _ _ rfl (hJ.grow hl (by decide) (Below.refl _ _) rfl (fun h1 h2 => hJ.more h1 h2))
  · intro f d u hJ hall
    have e10 : f 10 = .bool true := hJ.at 10 (hall 10 (by decide)) hJ.none
    simp only [putAll, Act.put, List.setIfInBounds_toArray, List.set_cons_zero, List.set_cons_succ, Nat.reduceAdd, e10]
    go_wp2_with fail
    all_goals go_ret
    exact ⟨rfl, below_up hJ.up⟩

theorem contract (H : Type) (enc : TypeId × Value → H) (W : World) (base : Nat) (args : Array Value) (ds gs : List (DataW H)) (before : List MemPlace)
    (hval : ∀ (j : Nat) t v, Try.f3.params[j]? = some t → args[j]? = some v → Value.okWide Try.prog W .any base t v)
    (hW : DataW.Whole enc Try.prog Try.f3.params.toList Rows.defersPushSpec.vars false W args.toList ds gs before)
    (hsz : (DataW.weightsEach Try.prog (Try.f3.params.toList ++ Rows.defersPushSpec.plain.varTypes Try.prog) (ds ++ gs)).all (· ≤ reachBytes) = true) :
    Calls Try.prog 3 args W fun e W' => ∃ v, e = .returned v ∧ Rows.defersPushSpec.post enc Try.prog Try.f3 false true false false W args v W' := by
  have hW' := hW
  obtain ⟨p, q, hA0, hV, rfl, hfz, hnd⟩ := hW
  have hA : DataW.TrodAll enc Try.prog W 0 (fun _ => true) true Try.f3.params.toList args.toList ds p := hA0
  rw [Try.params3] at hA hval hsz
  obtain ⟨v0, vs0, d0, ds0, p0, q0, hargs, rfl, rfl, h0, r0⟩ := trodAll_cons hA
  obtain ⟨v1, vs1, d1, ds1, p1, q1, rfl, rfl, rfl, h1, r1⟩ := trodAll_cons r0
  obtain ⟨rfl, rfl, rfl⟩ := trodAll_nil r1
  obtain rfl : args = #[v0, v1] := by cases args; simp_all
  obtain ⟨rfl, rfl⟩ := trodVars_none hV
  obtain ⟨ao0, len0, cap0, rfl⟩ := okWide_slice Try.underlying22 (hval 0 22 v0 rfl rfl)
  obtain ⟨es0, cs0, hC0, hE0, hN0⟩ := cs_came (j := 0) h0 hsz rfl rfl
  obtain ⟨x1, L1, rfl, i1, m1⟩ := ccame_of (j := 1) (hval 1 25 v1 rfl rfl) h1 hsz rfl rfl
  clear hA0
  simp only [List.append_nil] at hW'
  have hlt0 : ∀ x ∈ p0, x.block < W.heap.size := fun x hx => hW'.lt x (by simp [hx])
  have hlt1 : ∀ x ∈ p1, x.block < W.heap.size := fun x hx => hW'.lt x (by simp [hx])
  refine (walk _ es0 cs0 x1 L1 W hC0 hE0 hN0 i1 m1).mono fun e W' ⟨he, bel⟩ => ?_
  subst he
  exact ⟨_, rfl, _, _, _, [], p0 ++ (p1 ++ []), [], hW', trodAll_mk1 (shut_bool Try.underlying4 _), (trodAll_cons_mk (Below.trod (by kernel_rfl) (by kernel_rfl) (of_decide_eq_true (by kernel_rfl)) h0 bel hlt0) (trodAll_cons_mk (Below.trod (by kernel_rfl) (by kernel_rfl) (of_decide_eq_true (by kernel_rfl)) h1 bel hlt1) trodAll_mk0)), rfl, bel.frame _, fun h => by cases h⟩

set_option maxRecDepth 100000 in
theorem lifted (os : Os) (started : os.Started) (H : Type) (enc : TypeId × Value → H) :
    ReturnsInHanded {} Try.checked os 3 .any (Rows.defersPushSpec.pre6 enc Try.prog Try.f3 Rows.defersPushRow.domain false) (Rows.defersPushSpec.post enc Try.prog Try.f3 false true false false) := by
  refine returnsInHanded_of_change_sized (C := Try.checked) own started (by kernel_rfl) Try.func3
    (ChangeSpec.witness6 (enc := enc) (C := Try.checked) false ⟨#[], #[.slice none 0 0, .agg #[.int .i64 0, .int .i64 0, .slice none 0 0]], []⟩ 8 (by kernel_rfl) (by kernel_rfl) (by kernel_rfl) (by kernel_rfl)) ?_
  intro W base args ds gs before hval0 hW hcnd hsz _
  exact contract H enc W base args ds gs before hval0 hW hsz

theorem proved : Rows.DefersPushSaid :=
  OpenClaim.holds_of_wide 3 Try.f3 rfl rfl rfl rfl rfl rfl rfl ⟨rfl, rfl, rfl, rfl, rfl⟩ rfl rfl rfl rfl rfl (by kernel_rfl) Try.func3 (by kernel_rfl)
    (of_decide_eq_true (by kernel_rfl)) (by unfold Func.isWrapper; first | (rw [if_pos (by decide +kernel)]; kernel_rfl) | (rw [if_neg (by decide +kernel)]; exact ⟨rfl, rfl⟩))
    (fun os started H enc _ => lifted os started H enc)
#print axioms proved
end Go.Proofs.Ytiaoidbhdkldlaa.defersPush
