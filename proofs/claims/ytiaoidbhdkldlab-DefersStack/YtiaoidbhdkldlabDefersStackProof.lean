/-
  For every list of calls and each call that come in, what is pushed is popped, and the rest is as it was: the law's function returns true.
-/
import Derived.Test.YtiaoidbhdkldlabCpop
import Derived.Test.YtiaoidbhdkldlabCsame
namespace Go.Proofs.Ytiaoidbhdkldlab.defersStack
open Go.ChangeShapes Go.WideShapes Go.ChangeAt Go.RowKit
open Go.WideMaps Go.WideElems
open Go.ChangeMaps (open_string shut_string)
set_option linter.unusedVariables false
set_option linter.unusedSimpArgs false
set_option maxRecDepth 100000

theorem own : ownKnob Try.prog.godebug = none := by kernel_rfl

/-- A place in memory that holds a call. -/
def isPtr (x : Cc) : Value → World → Prop := fun v w => ∃ g L, v = .pointer (some ⟨g, 0, none⟩) ∧ (w.cell? ⟨g, 0, none⟩ = some (.int .i64 x.site) ∧ w.cell? ⟨g, 1, none⟩ = some (.int .i64 x.fn) ∧ w.cell? ⟨g, 2, none⟩ = some L) ∧ IOwn 0 w L x.args
theorem stab_ptr (x : Cc) : Stab (isPtr x) := fun v w w' hb ⟨g, L, e, ⟨h0, h1, h2⟩, hi⟩ => ⟨g, L, e, ⟨by rw [hb.cell (World.block_lt_of_cell? _ _ h0)]; exact h0, by rw [hb.cell (World.block_lt_of_cell? _ _ h1)]; exact h1, by rw [hb.cell (World.block_lt_of_cell? _ _ h2)]; exact h2⟩, hi.below hb⟩
theorem head_of {B : Nat} {w : World} {v : Value} {m : List Ce} {x : Cc} (h : CRow B w v m [x]) : ∃ g L cap, v = .slice (some ⟨g, 0, none⟩) 1 cap ∧ (w.cell? ⟨g, 0, none⟩ = some (.int .i64 x.site) ∧ w.cell? ⟨g, 1, none⟩ = some (.int .i64 x.fn) ∧ w.cell? ⟨g, 2, none⟩ = some L) ∧ IOwn 0 w L x.args := by
  obtain ⟨e, rfl, rfl⟩ := one_of h
  have hr := h.row
  rcases h.row.2 with ⟨h0, h1⟩ | ⟨g, cap, cur, rfl, hg1, hg2, hcap, hmax, hcs, htk⟩
  · simp at h1
  · refine ⟨g, e.L, cap, rfl, ⟨?_, ?_, ?_⟩, (h.lies e (by simp)).up (by omega)⟩
    · rw [hr.cellAt 0 (by simp)]; rfl
    · rw [hr.cellAt 1 (by simp)]; rfl
    · rw [hr.cellAt 2 (by simp)]; rfl
set_option maxHeartbeats 2000000 in
theorem walk (v0 : Value) (es0 : List Ce) (cs0 : List Cc) (x1 : Cc) (L1 : Value) (w : World) (hv0 : CSrc w v0 es0 cs0) (hc0 : ∀ c ∈ cs0, CIn c) (hz0 : cs0.length ≤ 3518437208780) (hx1 : CIn x1) (hm1 : ILies w L1 x1.args) :
    Calls Try.prog 4 #[v0, cval x1 L1] w fun e w' => e = .returned (.bool true) ∧ Below w.heap.size w w' := by
  have hc : COk cs0 := ⟨hc0, by omega⟩
  have hc1 : COk [x1] := ⟨fun c h => by simp at h; subst h; exact hx1, by simp⟩
  have hc2 : COk (cs0 ++ [x1]) := ⟨fun c h => by
    rcases List.mem_append.1 h with h | h
    · exact hc0 c h
    · simp at h; subst h; exact hx1, by simp; omega⟩
  have hcs : ∀ c ∈ cs0, c.args.length ≤ 140737488351232 := fun c h => by have := (hc0 c h).sz; omega
  have hcx : x1.args.length ≤ 140737488351232 := by have := hx1.sz; omega
  have HV : Hid (∀ u, Below w.heap.size w u → CSrc u v0 es0 cs0) := fun u h => hv0.below h
  have HM : Hid (∀ u, Below w.heap.size w u → ILies u L1 x1.args) := fun u h => hm1.below h (Nat.le_refl _)
  have HLE : Hid (es0.length = cs0.length) := hv0.len
  obtain ⟨lo, lc, rfl⟩ := hm1.shape
  obtain ⟨vo, vc, rfl⟩ := hv0.row.shape
  clear hv0 hm1
  unfold cval
  go_enter Try.func4, Try.ntmps4
  go_wp2_with fail
  have hl : AllStab [isV (.slice vo es0.length vc), isRow 0 cs0, isV (cval x1 (.slice lo x1.args.length lc)), isLit 0 x1 (.slice lo x1.args.length lc), isRow 0 [x1], isPtr x1, isCall 0 x1, isRow 0 (cs0 ++ [x1]), isRow 0 (cs0 ++ [x1])] := ⟨stab_is _, stab_row _ _, stab_is _, stab_lit _ _ _, stab_row _ _, stab_ptr _, stab_call _, stab_row _ _, stab_row _ _, trivial⟩
  refine wp_joint (JF [isV (.slice vo es0.length vc), isRow 0 cs0, isV (cval x1 (.slice lo x1.args.length lc)), isLit 0 x1 (.slice lo x1.args.length lc), isRow 0 [x1], isPtr x1, isCall 0 x1, isRow 0 (cs0 ++ [x1]), isRow 0 (cs0 ++ [x1])] ([99, 99, 99, 99, 99, 99, 99, 99, 99].getD · 99) (fun _ _ _ => True) _) (by kernel_rfl) (by kernel_rfl) (by kernel_rfl) (fun f => ⟨(Below.refl _ _).drew, rfl, (fun i h _ => by cases h), trivial⟩) ?_ ?_
  · refine stepsOK5_cons (fun f d u hJ hn hd hno K hK => ?_) (stepsOK5_cons (fun f d u hJ hn hd hno K hK => ?_) (stepsOK5_cons (fun f d u hJ hn hd hno K hK => ?_) (stepsOK5_cons (fun f d u hJ hn hd hno K hK => ?_) (stepsOK5_cons (fun f d u hJ hn hd hno K hK => ?_) (stepsOK5_cons (fun f d u hJ hn hd hno K hK => ?_) (stepsOK5_cons (fun f d u hJ hn hd hno K hK => ?_) (stepsOK5_cons (fun f d u hJ hn hd hno K hK => ?_) (stepsOK5_cons (fun f d u hJ hn hd hno K hK => ?_) stepsOK5_nil))))))))
    · refine wanted_on rfl ?_
      simp only [putAll, Act.put, List.setIfInBounds_toArray, List.set_cons_zero, List.set_cons_succ] at hK ⊢
      go_simp
      exact hK _ _ _ rfl (hJ.grow hl (by decide) (Below.refl _ _) rfl trivial)
    · have e0 : f 0 = (.slice vo es0.length vc) := hJ.at 0 (hd 0 (by kernel_rfl)) hJ.none
      refine wanted_on rfl ?_
      simp only [putAll, Act.put, List.setIfInBounds_toArray, List.set_cons_zero, List.set_cons_succ, e0] at hK ⊢
      go_simp
      refine (own_calls _ es0 cs0 u (HV.out u (below_up hJ.up)) hc).mono ?_
      rintro e u1 ⟨W1, M1, rfl, h1, hb⟩
      exact hK _ _ _ rfl (hJ.grow hl (by decide) hb ⟨M1, h1.up (by omega)⟩ trivial)
    · obtain ⟨⟨c0, c1, c2⟩, _⟩ := box3 (box_stays hJ.up)
      refine wanted_on rfl ?_
      simp only [putAll, Act.put, List.setIfInBounds_toArray, List.set_cons_zero, List.set_cons_succ] at hK ⊢
      go_simp
      exact hK _ _ _ rfl (hJ.grow hl (by decide) (Below.refl _ _) rfl trivial)
    · have e2 : f 2 = (cval x1 (.slice lo x1.args.length lc)) := hJ.at 2 (hd 2 (by kernel_rfl)) hJ.none
      unfold cval at e2
      refine wanted_on rfl ?_
      simp only [putAll, Act.put, List.setIfInBounds_toArray, List.set_cons_zero, List.set_cons_succ, e2] at hK ⊢
      go_simp
      exact hK _ _ _ rfl (hJ.grow hl (by decide) ((Below.refl _ _).alloc (Nat.le_refl _) _) (lit_is (by omega)) trivial)
    · have q3 : isLit 0 x1 (.slice lo x1.args.length lc) (f 3) u := hJ.at 3 (hd 3 (by kernel_rfl)) hJ.none
      obtain ⟨V3, e3⟩ : ∃ V, f 3 = V := ⟨_, rfl⟩
      rw [e3] at q3
      refine wanted_on rfl ?_
      simp only [putAll, Act.put, List.setIfInBounds_toArray, List.set_cons_zero, List.set_cons_succ, e3] at hK ⊢
      go_simp
      refine (own_calls _ [⟨x1, .slice lo x1.args.length lc⟩] [x1] u ⟨lies_of_row q3, fun e he => by simp at he; subst he; exact HM.out u (below_up hJ.up), rfl⟩ hc1).mono ?_
      rintro e u1 ⟨W1, M1, rfl, h1, hb⟩
      exact hK _ _ _ rfl (hJ.grow hl (by decide) hb ⟨M1, h1.up (by omega)⟩ trivial)
    · obtain ⟨m4, q4⟩ := hJ.at 4 (hd 4 (by kernel_rfl)) hJ.none
      obtain ⟨V4, e4⟩ : ∃ V, f 4 = V := ⟨_, rfl⟩
      rw [e4] at q4
      obtain ⟨g4, L4, cap4, hV4, hc4, hi4⟩ := head_of q4
      subst hV4
      refine wanted_on rfl ?_
      simp only [putAll, Act.put, List.setIfInBounds_toArray, List.set_cons_zero, List.set_cons_succ, e4] at hK ⊢
      go_simp
      exact hK _ _ _ rfl (hJ.grow hl (by decide) (Below.refl _ _) ⟨g4, L4, rfl, hc4, hi4⟩ trivial)
    · obtain ⟨g5, L5, e5, ⟨y0, y1, y2⟩, q5⟩ := hJ.at 5 (hd 5 (by kernel_rfl)) hJ.none
      refine wanted_on rfl ?_
      simp only [putAll, Act.put, List.setIfInBounds_toArray, List.set_cons_zero, List.set_cons_succ, e5] at hK ⊢
      go_simp
      exact hK _ _ _ rfl (hJ.grow hl (by decide) (Below.refl _ _) ⟨L5, rfl, q5⟩ trivial)
    · obtain ⟨m1, q1⟩ := hJ.at 1 (hd 1 (by kernel_rfl)) hJ.none
      obtain ⟨V1, e1⟩ : ∃ V, f 1 = V := ⟨_, rfl⟩
      rw [e1] at q1
      obtain ⟨V6, e6, q6⟩ := hJ.at 6 (hd 6 (by kernel_rfl)) hJ.none
      refine wanted_on rfl ?_
      simp only [putAll, Act.put, List.setIfInBounds_toArray, List.set_cons_zero, List.set_cons_succ, e1, e6] at hK ⊢
      go_simp
      refine (own_push _ m1 cs0 x1 _ u q1.src hc hx1 (IOwn.lies q6)).mono ?_
      rintro e u1 ⟨W1, M1, rfl, h1, hb⟩
      exact hK _ _ _ rfl (hJ.grow hl (by decide) hb ⟨M1, h1.up (by omega)⟩ trivial)
    · obtain ⟨m7, q7⟩ := hJ.at 7 (hd 7 (by kernel_rfl)) hJ.none
      obtain ⟨V7, e7⟩ : ∃ V, f 7 = V := ⟨_, rfl⟩
      rw [e7] at q7
      refine wanted_on rfl ?_
      simp only [putAll, Act.put, List.setIfInBounds_toArray, List.set_cons_zero, List.set_cons_succ, e7] at hK ⊢
      go_simp
      exact hK _ _ _ rfl (hJ.grow hl (by decide) (Below.refl _ _) ⟨m7, q7⟩ trivial)
  · intro f d u hJ hall
    obtain ⟨m8, q8⟩ := hJ.at 8 (hall 8 (by decide)) hJ.none
    obtain ⟨V8, e8⟩ : ∃ V, f 8 = V := ⟨_, rfl⟩
    rw [e8] at q8
    have HB : Hid _ := hJ.up
    have HBB : Hid (Below w.heap.size w u) := below_up hJ.up
    obtain ⟨qo, qc, hq8⟩ := q8.src.row.shape
    have hl8 : m8.length = es0.length + 1 := by have := q8.len; have := HLE.out; simp at *; omega
    rw [hl8] at hq8
    subst hq8
    simp only [putAll, Act.put, List.setIfInBounds_toArray, List.set_cons_zero, List.set_cons_succ, Nat.reduceAdd, e8]
    clear hl hall hJ
    go_wp2_with fail
    refine (own_calls _ _ _ _ q8.src hc2).mono ?_
    rintro e u1 ⟨V1, M1, rfl, q1, b1⟩
    go_wp2_with fail
    refine (own_pop V1 M1 (cs0 ++ [x1]) cs0.length u1 q1.src hc2 (by rw [q1.len]; simp) (by simp)).mono ?_
    rintro e u2 ⟨V2, M2, L2, rfl, q2, l2, b2⟩
    rw [show (cs0 ++ [x1])[cs0.length] = x1 by simp] at l2 ⊢
    rw [show (cs0 ++ [x1]).take cs0.length = cs0 by simp] at q2
    obtain ⟨lo2, lc2, hs2⟩ := l2.shape
    subst hs2
    unfold cval
    have B2 : Hid (Below u.heap.size u u2) := b1.trans (b2.mono b1.size)
    have B3 : Hid (Below w.heap.size w u2) := HBB.out.trans (B2.out.mono HBB.out.size)
    have hbx : u2.heap[w.heap.size]? = some (.cells #[.int .i64 x1.site, .int .i64 x1.fn, .slice lo x1.args.length lc] 25 (0, 0)) := box_stays (HB.out.trans (B2.out.mono HB.out.size))
    have hz2 : w.heap.size < u2.heap.size := (Array.getElem?_eq_some_iff.1 hbx).1
    obtain ⟨⟨c0, c1, c2⟩, f0, f1, f2⟩ := box3 hbx
    have HBX : Hid _ := hbx
    clear b1 b2 hbx
    have hci : ((es0.length : Nat) : Int) + 1 ≤ 9223372036854775807 := by have := HLE.out; omega
    have q2o : ∀ o, CSrc (u2.alloc o) V2 M2 cs0 := fun o => q2.src.below ((Below.refl _ _).alloc (Nat.le_refl _) _)
    have l2o : ∀ u, Below u2.heap.size u2 u → ILies u (.slice lo2 x1.args.length lc2) x1.args := fun u h => IOwn.lies (IOwn.below l2 h)
    go_wp2_with fail
    refine (own_sames V2 _ M2 es0 cs0 _ (q2o _) (HV.out _ (B3.out.alloc B3.out.size _)) hcs (by omega)).mono ?_
    rintro e u3 ⟨rfl, b3⟩
    have hb3 : Below u2.heap.size u2 u3 := below_up b3
    have hy := box_stays b3
    have hx : u3.heap[w.heap.size]? = some (.cells #[.int .i64 x1.site, .int .i64 x1.fn, .slice lo x1.args.length lc] 25 (0, 0)) := by rw [hb3.block _ hz2]; exact HBX.out
    obtain ⟨⟨c0', c1', c2'⟩, f0', f1', f2'⟩ := box3 hx
    obtain ⟨⟨d0', d1', d2'⟩, g0', g1', g2'⟩ := box3 hy
    clear hx hy b3
    go_wp2_with fail
    refine (own_same x1 _ _ _ (HM.out _ (B3.out.trans (hb3.mono B3.out.size))) (l2o _ hb3) hcx).mono ?_
    rintro e u4 ⟨rfl, b4⟩
    go_wp2_with fail
    all_goals go_ret
    all_goals exact ⟨rfl, B3.out.trans ((hb3.trans (b4.mono hb3.size)).mono B3.out.size)⟩

theorem contract (H : Type) (enc : TypeId × Value → H) (W : World) (base : Nat) (args : Array Value) (ds gs : List (DataW H)) (before : List MemPlace)
    (hval : ∀ (j : Nat) t v, Try.f4.params[j]? = some t → args[j]? = some v → Value.okWide Try.prog W .any base t v)
    (hW : DataW.Whole enc Try.prog Try.f4.params.toList Rows.defersStackSpec.vars false W args.toList ds gs before)
    (hsz : (DataW.weightsEach Try.prog (Try.f4.params.toList ++ Rows.defersStackSpec.plain.varTypes Try.prog) (ds ++ gs)).all (· ≤ reachBytes) = true) :
    Calls Try.prog 4 args W fun e W' => ∃ v, e = .returned v ∧ Rows.defersStackSpec.post enc Try.prog Try.f4 false true false false W args v W' := by
  have hW' := hW
  obtain ⟨p, q, hA0, hV, rfl, hfz, hnd⟩ := hW
  have hA : DataW.TrodAll enc Try.prog W 0 (fun _ => true) true Try.f4.params.toList args.toList ds p := hA0
  rw [Try.params4] at hA hval hsz
  obtain ⟨v0, vs0, d0, ds0, p0, q0, hargs, rfl, rfl, h0, r0⟩ := trodAll_cons hA
  obtain ⟨v1, vs1, d1, ds1, p1, q1, rfl, rfl, rfl, h1, r1⟩ := trodAll_cons r0
  obtain ⟨rfl, rfl, rfl⟩ := trodAll_nil r1
  obtain rfl : args = #[v0, v1] := by cases args; simp_all
  obtain ⟨rfl, rfl⟩ := trodVars_none hV
  obtain ⟨ao0, len0, cap0, rfl⟩ := okWide_slice Try.underlying22 (hval 0 22 v0 rfl rfl)
  obtain ⟨es0, cs0, hC0, hE0, hN0⟩ := cs_came (j := 0) h0 hsz rfl rfl
  obtain ⟨x1, L1, rfl, i1, m1⟩ := ccame_of (j := 1) (hval 1 25 v1 rfl rfl) h1 hsz rfl rfl
  clear hA0
  simp only [List.append_nil] at hW'
  have hlt0 : ∀ x ∈ p0, x.block < W.heap.size := fun x hx => hW'.lt x (by simp [hx])
  have hlt1 : ∀ x ∈ p1, x.block < W.heap.size := fun x hx => hW'.lt x (by simp [hx])
  refine (walk _ es0 cs0 x1 L1 W hC0 hE0 hN0 i1 m1).mono fun e W' ⟨he, bel⟩ => ?_
  subst he
  exact ⟨_, rfl, _, _, _, [], p0 ++ (p1 ++ []), [], hW', trodAll_mk1 (shut_bool Try.underlying4 _), (trodAll_cons_mk (Below.trod (by kernel_rfl) (by kernel_rfl) (of_decide_eq_true (by kernel_rfl)) h0 bel hlt0) (trodAll_cons_mk (Below.trod (by kernel_rfl) (by kernel_rfl) (of_decide_eq_true (by kernel_rfl)) h1 bel hlt1) trodAll_mk0)), rfl, bel.frame _, fun h => by cases h⟩

set_option maxRecDepth 100000 in
theorem lifted (os : Os) (started : os.Started) (H : Type) (enc : TypeId × Value → H) :
    ReturnsInHanded {} Try.checked os 4 .any (Rows.defersStackSpec.pre6 enc Try.prog Try.f4 Rows.defersStackRow.domain false) (Rows.defersStackSpec.post enc Try.prog Try.f4 false true false false) := by
  refine returnsInHanded_of_change_sized (C := Try.checked) own started (by kernel_rfl) Try.func4
    (ChangeSpec.witness6 (enc := enc) (C := Try.checked) false ⟨#[], #[.slice none 0 0, .agg #[.int .i64 0, .int .i64 0, .slice none 0 0]], []⟩ 8 (by kernel_rfl) (by kernel_rfl) (by kernel_rfl) (by kernel_rfl)) ?_
  intro W base args ds gs before hval0 hW hcnd hsz _
  exact contract H enc W base args ds gs before hval0 hW hsz

theorem proved : Rows.DefersStackSaid :=
  OpenClaim.holds_of_wide 4 Try.f4 rfl rfl rfl rfl rfl rfl rfl ⟨rfl, rfl, rfl, rfl, rfl⟩ rfl rfl rfl rfl rfl (by kernel_rfl) Try.func4 (by kernel_rfl)
    (of_decide_eq_true (by kernel_rfl)) (by unfold Func.isWrapper; first | (rw [if_pos (by decide +kernel)]; kernel_rfl) | (rw [if_neg (by decide +kernel)]; exact ⟨rfl, rfl⟩))
    (fun os started H enc _ => lifted os started H enc)
#print axioms proved
end Go.Proofs.Ytiaoidbhdkldlab.defersStack
