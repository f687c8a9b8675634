/-
  For every list of calls that comes in, kept by records, the order of their order is the list itself: the law's function returns true.
-/
import Derived.Test.YtiaoidbhdkldlabCorder
import Derived.Test.YtiaoidbhdkldlabCsame
namespace Go.Proofs.Ytiaoidbhdkldlab.defersTwice
open Go.ChangeShapes Go.WideShapes Go.ChangeAt Go.RowKit
open Go.WideMaps Go.WideElems
open Go.ChangeMaps (open_string shut_string)
set_option linter.unusedVariables false
set_option linter.unusedSimpArgs false
set_option maxRecDepth 100000

theorem own : ownKnob Try.prog.godebug = none := by kernel_rfl

theorem lit_two (u : World) (g : Nat) (hg : g = u.heap.size) : Calls Try.prog 12 #[.bool false, .slice (some ⟨g, 0, none⟩) 2 2] (u.alloc (.cells #[.int .i64 1, .int .i64 0, .slice none 0 0, .int .i64 2, .int .i64 0, .slice none 0 0] 25)) fun e w' => ∃ b cap, e = .returned (.tuple #[.slice (some ⟨b, 0, none⟩) 2 cap, .int .i64 0]) ∧ w'.cell? ⟨b, 0, none⟩ = some (.int .i64 2) ∧ Below u.heap.size u w' := by
  subst hg
  have hr : CRow u.heap.size (u.alloc (.cells #[.int .i64 1, .int .i64 0, .slice none 0 0, .int .i64 2, .int .i64 0, .slice none 0 0] 25)) (.slice (some ⟨u.heap.size, 0, none⟩) 2 2) [⟨⟨1, 0, []⟩, .slice none 0 0⟩, ⟨⟨2, 0, []⟩, .slice none 0 0⟩] [⟨1, 0, []⟩, ⟨2, 0, []⟩] :=
    ⟨World.ownsRow_lit u #[.int .i64 1, .int .i64 0, .slice none 0 0, .int .i64 2, .int .i64 0, .slice none 0 0] 2 (Nat.le_refl _) (by decide) rfl, fun e he => by
      simp at he
      rcases he with rfl | rfl <;> exact IOwn.nil _ _, rfl⟩
  refine (own_order0 _ _ _ _ hr.src ⟨fun c h => by
    simp at h
    rcases h with rfl | rfl <;> exact ⟨by decide, by decide, (fun i h => by cases h), by simp⟩, by simp⟩).mono ?_
  rintro e w1 ⟨V, ms, rfl, q, hb⟩
  have hl : ms.length = 2 := q.len
  obtain ⟨ao, cap, hV⟩ := row_slice q.row
  rw [hl] at hV
  subst hV
  obtain ⟨e0, he0⟩ : ∃ e0, ms[0]? = some e0 := ⟨_, List.getElem?_eq_getElem (by omega)⟩
  have hx : e0.x = ⟨2, 0, []⟩ := by
    have := q.xs
    have h2 : (ms.map (·.x))[0]? = some e0.x := by rw [List.getElem?_map, he0]; rfl
    rw [this] at h2
    simpa using h2.symm
  rcases q.row.2 with ⟨h0, h1⟩ | ⟨g, cap', cur, h1, _⟩
  · omega
  · injection h1 with h2 h3 h4
    subst h2
    obtain ⟨⟨c0, -, -⟩, -⟩ := q.cells hl he0
    rw [hx] at c0
    exact ⟨g, cap, rfl, by simpa using c0, below_up hb⟩
set_option maxHeartbeats 2000000 in
theorem walk (v0 : Value) (es0 : List Ce) (cs0 : List Cc) (w : World) (hv0 : CSrc w v0 es0 cs0) (hc0 : ∀ c ∈ cs0, CIn c) (hz0 : cs0.length ≤ 3518437208780) :
    Calls Try.prog 5 #[v0] w fun e w' => e = .returned (.bool true) ∧ Below w.heap.size w w' := by
  have hc : COk cs0 := ⟨hc0, by omega⟩
  have hcr : COk cs0.reverse := ⟨fun c h => hc0 c (List.mem_reverse.1 h), by simp; omega⟩
  have hcs : ∀ c ∈ cs0, c.args.length ≤ 140737488351232 := fun c h => by have := (hc0 c h).sz; omega
  have HV : Hid (∀ u, Below w.heap.size w u → CSrc u v0 es0 cs0) := fun u h => hv0.below h
  obtain ⟨vo, vc, rfl⟩ := hv0.row.shape
  clear hv0
  go_enter Try.func5, Try.ntmps5
  go_wp2_with fail
  refine (own_calls _ _ _ _ (HV.out w (Below.refl _ _)) hc).mono ?_
  rintro e u1 ⟨V1, M1, rfl, q1, b1⟩
  go_wp2_with fail
  refine (own_order0 _ _ _ _ q1.src hc).mono ?_
  rintro e u2 ⟨V2, M2, rfl, q2, b2⟩
  have B2 := b1.trans (b2.mono b1.size)
  clear b1 b2
  go_wp2_with fail
  refine (own_calls _ _ _ _ q2.src hcr).mono ?_
  rintro e u3 ⟨V3, M3, rfl, q3, b3⟩
  have B3 := B2.trans (b3.mono B2.size)
  clear B2 b3
  go_wp2_with fail
  refine (own_order0 _ _ _ _ q3.src hcr).mono ?_
  rintro e u4 ⟨V4, M4, rfl, q4, b4⟩
  have B4 : Hid (Below w.heap.size w u4) := B3.trans (b4.mono B3.size)
  rw [List.reverse_reverse] at q4
  clear B3 b4
  go_wp2_with fail
  refine (lit_two _ _ rfl).mono ?_
  rintro e u5 ⟨b, cap, rfl, c0, b5⟩
  have HS : Hid (Calls Try.prog 19 #[V4, .slice vo es0.length vc] u5 fun e w' => e = .returned (.bool true) ∧ Below u5.heap.size u5 w') := own_sames _ _ M4 es0 cs0 _ (q4.src.below b5) (HV.out _ (B4.out.trans (b5.mono B4.out.size))) hcs (by omega)
  have B5 : Hid (Below w.heap.size w u5) := B4.out.trans (b5.mono B4.out.size)
  clear b5 q4
  go_wp2_with fail
  refine Calls.mono HS.out ?_
  rintro e u6 ⟨rfl, b6⟩
  go_wp2_with fail
  all_goals go_ret
  all_goals exact ⟨rfl, B5.out.trans (b6.mono B5.out.size)⟩

theorem contract (H : Type) (enc : TypeId × Value → H) (W : World) (base : Nat) (args : Array Value) (ds gs : List (DataW H)) (before : List MemPlace)
    (hval : ∀ (j : Nat) t v, Try.f5.params[j]? = some t → args[j]? = some v → Value.okWide Try.prog W .any base t v)
    (hW : DataW.Whole enc Try.prog Try.f5.params.toList Rows.defersTwiceSpec.vars false W args.toList ds gs before)
    (hsz : (DataW.weightsEach Try.prog (Try.f5.params.toList ++ Rows.defersTwiceSpec.plain.varTypes Try.prog) (ds ++ gs)).all (· ≤ reachBytes) = true) :
    Calls Try.prog 5 args W fun e W' => ∃ v, e = .returned v ∧ Rows.defersTwiceSpec.post enc Try.prog Try.f5 false true false false W args v W' := by
  have hW' := hW
  obtain ⟨p, q, hA0, hV, rfl, hfz, hnd⟩ := hW
  have hA : DataW.TrodAll enc Try.prog W 0 (fun _ => true) true Try.f5.params.toList args.toList ds p := hA0
  rw [Try.params5] at hA hval hsz
  obtain ⟨v0, vs0, d0, ds0, p0, q0, hargs, rfl, rfl, h0, r0⟩ := trodAll_cons hA
  obtain ⟨rfl, rfl, rfl⟩ := trodAll_nil r0
  obtain rfl : args = #[v0] := by cases args; simp_all
  obtain ⟨rfl, rfl⟩ := trodVars_none hV
  obtain ⟨ao0, len0, cap0, rfl⟩ := okWide_slice Try.underlying22 (hval 0 22 v0 rfl rfl)
  obtain ⟨es0, cs0, hC0, hE0, hN0⟩ := cs_came (j := 0) h0 hsz rfl rfl
  clear hA0
  simp only [List.append_nil] at hW'
  have hlt0 : ∀ x ∈ p0, x.block < W.heap.size := fun x hx => hW'.lt x (by simp [hx])
  refine (walk _ es0 cs0 W hC0 hE0 hN0).mono fun e W' ⟨he, bel⟩ => ?_
  subst he
  exact ⟨_, rfl, _, _, _, [], p0 ++ [], [], hW', trodAll_mk1 (shut_bool Try.underlying4 _), (trodAll_cons_mk (Below.trod (by kernel_rfl) (by kernel_rfl) (of_decide_eq_true (by kernel_rfl)) h0 bel hlt0) trodAll_mk0), rfl, bel.frame _, fun h => by cases h⟩

set_option maxRecDepth 100000 in
theorem lifted (os : Os) (started : os.Started) (H : Type) (enc : TypeId × Value → H) :
    ReturnsInHanded {} Try.checked os 5 .any (Rows.defersTwiceSpec.pre6 enc Try.prog Try.f5 Rows.defersTwiceRow.domain false) (Rows.defersTwiceSpec.post enc Try.prog Try.f5 false true false false) := by
  refine returnsInHanded_of_change_sized (C := Try.checked) own started (by kernel_rfl) Try.func5
    (ChangeSpec.witness6 (enc := enc) (C := Try.checked) false ⟨#[], #[.slice none 0 0], []⟩ 8 (by kernel_rfl) (by kernel_rfl) (by kernel_rfl) (by kernel_rfl)) ?_
  intro W base args ds gs before hval0 hW hcnd hsz _
  exact contract H enc W base args ds gs before hval0 hW hsz

theorem proved : Rows.DefersTwiceSaid :=
  OpenClaim.holds_of_wide 5 Try.f5 rfl rfl rfl rfl rfl rfl rfl ⟨rfl, rfl, rfl, rfl, rfl⟩ rfl rfl rfl rfl rfl (by kernel_rfl) Try.func5 (by kernel_rfl)
    (of_decide_eq_true (by kernel_rfl)) (by unfold Func.isWrapper; first | (rw [if_pos (by decide +kernel)]; kernel_rfl) | (rw [if_neg (by decide +kernel)]; exact ⟨rfl, rfl⟩))
    (fun os started H enc _ => lifted os started H enc)
#print axioms proved
end Go.Proofs.Ytiaoidbhdkldlab.defersTwice
