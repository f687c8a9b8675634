/-
  For every list of calls that comes in, kept by bits or by records, defers.Order answers the order in which they are started, or ErrRange (P8.4): the law's function returns true.
-/
import Derived.Test.YtiaoidbhdkldlaaCstart
import Derived.Test.YtiaoidbhdkldlaaCsame
namespace Go.Proofs.Ytiaoidbhdkldlaa.defersOrders
open Go.ChangeShapes Go.WideShapes Go.ChangeAt Go.RowKit
open Go.WideMaps Go.WideElems
open Go.ChangeMaps (open_string shut_string)
set_option linter.unusedVariables false
set_option linter.unusedSimpArgs false
set_option maxRecDepth 100000

theorem own : ownKnob Try.prog.godebug = none := by kernel_rfl

theorem lit_one (u : World) (g : Nat) (hg : g = u.heap.size) : Calls Try.prog 20 #[.bool true, .slice (some ⟨g, 0, none⟩) 1 1] (u.alloc (.cells #[.int .i64 1, .int .i64 0, .slice none 0 0] 25)) fun e w' => ∃ ao cap, e = .returned (.tuple #[.slice ao 1 cap, .int .i64 0]) ∧ Below u.heap.size u w' := by
  subst hg
  have hr := CRow.lit (u := u) (x := ⟨1, 0, []⟩) (L := .slice none 0 0) (B := u.heap.size) (Nat.le_refl _) (IOwn.nil _ _)
  have hc : CIn ⟨1, 0, []⟩ := ⟨by decide, by decide, (fun i h => by cases h), by simp⟩
  refine (own_order1 _ _ _ _ hr.src ⟨fun c h => by simp at h; subst h; exact hc, by simp⟩).mono ?_
  rintro e w1 ⟨h | h, hb⟩
  · obtain ⟨_, V, ms, rfl, q⟩ := h
    have hl : ms.length = 1 := q.len
    obtain ⟨ao, cap, hV⟩ := row_slice q.row
    rw [hl] at hV
    subst hV
    exact ⟨ao, cap, rfl, below_up hb⟩
  · exact absurd (show Rise [⟨1, 0, []⟩] 1 from fun j c hj hc => by
      have : j = 0 := by omega
      subst this
      simp at hc
      subst hc
      exact ⟨by decide, by decide, fun p hp => by omega⟩) h.1
set_option maxHeartbeats 2000000 in
theorem walk (a0 : Bool) (v1 : Value) (es1 : List Ce) (cs1 : List Cc) (w : World)  (hv1 : CSrc w v1 es1 cs1) (hc1 : ∀ c ∈ cs1, CIn c) (hz1 : cs1.length ≤ 3518437208780) :
    Calls Try.prog 8 #[.bool a0, v1] w fun e w' => e = .returned (.bool true) ∧ Below w.heap.size w w' := by
  have hc : COk cs1 := ⟨hc1, by omega⟩
  have hcr : ∀ c ∈ cs1.reverse, c.args.length ≤ 140737488351232 := fun c h => by have := (hc1 c (List.mem_reverse.1 h)).sz; omega
  have HV : Hid (∀ u, Below w.heap.size w u → CSrc u v1 es1 cs1) := fun u h => hv1.below h
  obtain ⟨vo, vc, rfl⟩ := hv1.row.shape
  clear hv1
  cases a0 with
  | false =>
    go_enter Try.func8, Try.ntmps8
    go_wp2_with fail
    refine (own_calls _ _ _ _ (HV.out w (Below.refl _ _)) hc).mono ?_
    rintro e u1 ⟨V1, M1, rfl, q1, b1⟩
    go_wp2_with fail
    refine (own_order0 _ _ _ _ q1.src hc).mono ?_
    rintro e u2 ⟨V2, M2, rfl, q2, b2⟩
    have B2 := b1.trans (b2.mono b1.size)
    clear b1 b2
    go_wp2_with fail
    refine (ref_started false _ _ _ _ (HV.out _ B2) (by omega)).mono ?_
    rintro e u3 ⟨h | h, b3⟩
    · have B3 : Hid (Below w.heap.size w u3) := B2.trans (b3.mono B2.size)
      clear B2
      obtain ⟨_, h3⟩ := h
      obtain ⟨V3, M3, rfl, q3⟩ := h3
      have q2' := q2.src.below b3
      clear b3
      go_wp2_with fail
      refine (lit_one _ _ rfl).mono ?_
      rintro e u4 ⟨ao, cap, rfl, b4⟩
      have B4 : Hid (Below w.heap.size w u4) := B3.out.trans (b4.mono B3.out.size)
      have HS : Hid (Calls Try.prog 9 #[V2, V3] u4 fun e w' => e = .returned (.bool true) ∧ Below u4.heap.size u4 w') := own_sames V2 V3 M2 M3 cs1.reverse u4 (q2'.below b4) (q3.below b4) hcr (by simp; omega)
      clear b4
      go_wp2_with fail
      refine Calls.mono HS.out ?_
      rintro e u5 ⟨rfl, b5⟩
      go_wp2_with fail
      all_goals go_ret
      all_goals exact ⟨rfl, B4.out.trans (b5.mono B4.out.size)⟩
    · exact absurd h.1 (by simp)
  | true =>
    go_enter Try.func8, Try.ntmps8
    go_wp2_with fail
    refine (own_calls _ _ _ _ (HV.out w (Below.refl _ _)) hc).mono ?_
    rintro e u1 ⟨V1, M1, rfl, q1, b1⟩
    go_wp2_with fail
    refine (own_order1 _ _ _ _ q1.src hc).mono ?_
    rintro e u2 ⟨h | h, b2⟩
    · obtain ⟨hr, V2, M2, rfl, q2⟩ := h
      have B2 := b1.trans (b2.mono b1.size)
      clear b1 b2
      go_wp2_with fail
      refine (ref_started true _ _ _ _ (HV.out _ B2) (by omega)).mono ?_
      rintro e u3 ⟨h | h, b3⟩
      · have B3 : Hid (Below w.heap.size w u3) := B2.trans (b3.mono B2.size)
        clear B2
        obtain ⟨_, h3⟩ := h
        clear hr
        obtain ⟨V3, M3, rfl, q3⟩ := h3
        have q2' := q2.src.below b3
        clear b3
        go_wp2_with fail
        refine (lit_one _ _ rfl).mono ?_
        rintro e u4 ⟨ao, cap, rfl, b4⟩
        have B4 : Hid (Below w.heap.size w u4) := B3.out.trans (b4.mono B3.out.size)
        have HS : Hid (Calls Try.prog 9 #[V2, V3] u4 fun e w' => e = .returned (.bool true) ∧ Below u4.heap.size u4 w') := own_sames V2 V3 M2 M3 cs1.reverse u4 (q2'.below b4) (q3.below b4) hcr (by simp; omega)
        clear b4
        go_wp2_with fail
        refine Calls.mono HS.out ?_
        rintro e u5 ⟨rfl, b5⟩
        go_wp2_with fail
        all_goals go_ret
        all_goals exact ⟨rfl, B4.out.trans (b5.mono B4.out.size)⟩
      · exact absurd hr h.2.1
    · obtain ⟨hr, rfl⟩ := h
      have B2 := b1.trans (b2.mono b1.size)
      clear b1 b2
      go_wp2_with fail
      refine (ref_started true _ _ _ _ (HV.out _ B2) (by omega)).mono ?_
      rintro e u3 ⟨h | h, b3⟩
      · exact absurd (h.1 rfl) hr
      · have B3 : Hid (Below w.heap.size w u3) := B2.trans (b3.mono B2.size)
        clear B2 b3
        obtain ⟨_, _, rfl⟩ := h
        clear hr
        go_wp2_with fail
        refine (lit_one _ _ rfl).mono ?_
        rintro e u4 ⟨ao, cap, rfl, b4⟩
        have B4 : Hid (Below w.heap.size w u4) := B3.out.trans (b4.mono B3.out.size)
        have HS : Hid (Calls Try.prog 9 #[.slice none 0 0, .slice none 0 0] u4 fun e w' => e = .returned (.bool true) ∧ Below u4.heap.size u4 w') := own_sames (.slice none 0 0) (.slice none 0 0) [] [] [] u4 ⟨.inl ⟨rfl, rfl⟩, (fun e h => by cases h), rfl⟩ ⟨.inl ⟨rfl, rfl⟩, (fun e h => by cases h), rfl⟩ (fun c h => by cases h) (by simp)
        clear b4
        go_wp2_with fail
        refine Calls.mono HS.out ?_
        rintro e u5 ⟨rfl, b5⟩
        go_wp2_with fail
        all_goals go_ret
        all_goals exact ⟨rfl, B4.out.trans (b5.mono B4.out.size)⟩

theorem contract (H : Type) (enc : TypeId × Value → H) (W : World) (base : Nat) (args : Array Value) (ds gs : List (DataW H)) (before : List MemPlace)
    (hval : ∀ (j : Nat) t v, Try.f8.params[j]? = some t → args[j]? = some v → Value.okWide Try.prog W .any base t v)
    (hW : DataW.Whole enc Try.prog Try.f8.params.toList Rows.defersOrdersSpec.vars false W args.toList ds gs before)
    (hsz : (DataW.weightsEach Try.prog (Try.f8.params.toList ++ Rows.defersOrdersSpec.plain.varTypes Try.prog) (ds ++ gs)).all (· ≤ reachBytes) = true) :
    Calls Try.prog 8 args W fun e W' => ∃ v, e = .returned v ∧ Rows.defersOrdersSpec.post enc Try.prog Try.f8 false true false false W args v W' := by
  have hW' := hW
  obtain ⟨p, q, hA0, hV, rfl, hfz, hnd⟩ := hW
  have hA : DataW.TrodAll enc Try.prog W 0 (fun _ => true) true Try.f8.params.toList args.toList ds p := hA0
  rw [Try.params8] at hA hval hsz
  obtain ⟨v0, vs0, d0, ds0, p0, q0, hargs, rfl, rfl, h0, r0⟩ := trodAll_cons hA
  obtain ⟨v1, vs1, d1, ds1, p1, q1, rfl, rfl, rfl, h1, r1⟩ := trodAll_cons r0
  obtain ⟨rfl, rfl, rfl⟩ := trodAll_nil r1
  obtain rfl : args = #[v0, v1] := by cases args; simp_all
  obtain ⟨rfl, rfl⟩ := trodVars_none hV
  obtain ⟨a0, rfl, rfl, rfl⟩ := open_bool Try.underlying4 (hval 0 4 v0 rfl rfl) h0
  obtain ⟨ao1, len1, cap1, rfl⟩ := okWide_slice Try.underlying22 (hval 1 22 v1 rfl rfl)
  obtain ⟨es1, cs1, hC1, hE1, hN1⟩ := cs_came (j := 1) h1 hsz rfl rfl
  clear hA0
  simp only [List.append_nil, List.nil_append] at hW'
  have hlt1 : ∀ x ∈ p1, x.block < W.heap.size := fun x hx => hW'.lt x (by simp [hx])
  refine (walk a0 _ es1 cs1 W  hC1 hE1 hN1).mono fun e W' ⟨he, bel⟩ => ?_
  subst he
  exact ⟨_, rfl, _, _, _, [], [] ++ (p1 ++ []), [], hW', trodAll_mk1 (shut_bool Try.underlying4 _), (trodAll_cons_mk (shut_bool Try.underlying4 _) (trodAll_cons_mk (Below.trod (by kernel_rfl) (by kernel_rfl) (of_decide_eq_true (by kernel_rfl)) h1 bel hlt1) trodAll_mk0)), rfl, bel.frame _, fun h => by cases h⟩

set_option maxRecDepth 100000 in
theorem lifted (os : Os) (started : os.Started) (H : Type) (enc : TypeId × Value → H) :
    ReturnsInHanded {} Try.checked os 8 .any (Rows.defersOrdersSpec.pre6 enc Try.prog Try.f8 Rows.defersOrdersRow.domain false) (Rows.defersOrdersSpec.post enc Try.prog Try.f8 false true false false) := by
  refine returnsInHanded_of_change_sized (C := Try.checked) own started (by kernel_rfl) Try.func8
    (ChangeSpec.witness6 (enc := enc) (C := Try.checked) false ⟨#[], #[.bool false, .slice none 0 0], []⟩ 8 (by kernel_rfl) (by kernel_rfl) (by kernel_rfl) (by kernel_rfl)) ?_
  intro W base args ds gs before hval0 hW hcnd hsz _
  exact contract H enc W base args ds gs before hval0 hW hsz

theorem proved : Rows.DefersOrdersSaid :=
  OpenClaim.holds_of_wide 8 Try.f8 rfl rfl rfl rfl rfl rfl rfl ⟨rfl, rfl, rfl, rfl, rfl⟩ rfl rfl rfl rfl rfl (by kernel_rfl) Try.func8 (by kernel_rfl)
    (of_decide_eq_true (by kernel_rfl)) (by unfold Func.isWrapper; first | (rw [if_pos (by decide +kernel)]; kernel_rfl) | (rw [if_neg (by decide +kernel)]; exact ⟨rfl, rfl⟩))
    (fun os started H enc _ => lifted os started H enc)
#print axioms proved
end Go.Proofs.Ytiaoidbhdkldlaa.defersOrders
