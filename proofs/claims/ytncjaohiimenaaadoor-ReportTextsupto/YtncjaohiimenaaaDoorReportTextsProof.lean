/-
  For every value that comes in and is of bulk at most 1048576, report.Text answers exactly what P10.1 says: the law's function returns true; the library's tables hold at the start what the program's text lays (the card ties them).
-/
import Derived.Test.YtncjaohiimenaaaDoorRref2
import Derived.Stop.LaidErr
import Derived.Test.YtncjaohiimenaaaDoorVcame
import Derived.JoinedCond
import Derived.Test.YtncjaohiimenaaaDoorVsmall
import Derived.Test.YtncjaohiimenaaaDoorCards
import Derived.Test.YtncjaohiimenaaaDoorTie
import Derived.Deep.DeepHandedRow
import Derived.Lib.LaidTab
import Derived.SizedLaws
import Derived.Deep.DeepWitnessRowRef
namespace Go.Proofs.YtncjaohiimenaaaDoor.reportTexts
open Go.ChangeShapes Go.WideShapes Go.ChangeAt Go.RowKit
open Go.WideMaps Go.WideElems
open Go.ChangeMaps (open_string shut_string)
set_option linter.unusedVariables false
set_option maxRecDepth 100000

theorem own : ownKnob Tryd.prog.godebug = none := by kernel_rfl

theorem pow_tab : Lib.pow10Tab = [1, 10, 100, 1000, 10000, 100000, 1000000, 10000000, 100000000, 1000000000, 10000000000, 100000000000, 1000000000000, 10000000000000, 100000000000000, 1000000000000000, 10000000000000000, 100000000000000000, 1000000000000000000, 10000000000000000000] := by decide
theorem pow_of {W : World} (h : laidMetH Tryd.prog Rows.reportTextsRow.laid W) : Pow W := by
  have h0 : laidMet Tryd.prog Rows.reportTextsRow.laid W := h
  unfold Pow
  rw [pow_tab]
  exact Lib.tabIs_of_head Tryd.gPow (by kernel_rfl) Tryd.underlying93 Tryd.underlying81 (by kernel_rfl) (by kernel_rfl) h0.tail.tail

set_option maxHeartbeats 8000000 in
theorem walk (x0 : Vv) (L0 : Value) (w : World) (i0 : VIn x0) (m0 : ILies w L0 x0.l) (b0 : x0.s.size ≤ 1048576 ∧ x0.l.length ≤ 1048576) (hp : Pow w) :
    Calls Tryd.prog 3 #[vval x0 L0] w fun e w' => e = .returned (.bool true) ∧ Below w.heap.size w w' := by
  have HO : Hid (∀ (L : Value) (u : World), ILies u L x0.l → Calls Tryd.prog 9 #[vval x0 L] u fun e w' => ∃ L', e = .returned (vval x0 L') ∧ ILies w' L' x0.l ∧ Below u.heap.size u w') := fun L u h => own_own x0 L u i0 h
  have HX : Hid (∃ S, textV x0 = S) := ⟨_, rfl⟩
  obtain ⟨S, hS⟩ := HX.out
  clear HX
  have HW : Hid (∀ V u, ILies u V x0.l → Below w.heap.size w u → Calls Tryd.prog 8 #[vval x0 V] u fun e w' => e = .returned (.string S) ∧ Below u.heap.size u w') := fun V u h1 h2 => by rw [← hS]; exact own_text x0 V u i0 h1 (by omega) (hp.below h2)
  have HR : Hid (∀ u, Calls Tryd.prog 10 #[vval x0 L0] u fun e w' => e = .returned (.string S) ∧ Below u.heap.size u w') := fun u => by rw [← hS]; exact ref_text x0 L0 u i0 (by omega)
  clear hS
  unfold vval
  go_enter Tryd.func3, Tryd.ntmps3
  go_wp2_with fail
  refine wp_grow [isV (vval x0 L0), isVal x0, isV (.string S), isV (vval x0 L0), isV (.string S), isV (.bool true), isV (.bool true)]
    ⟨stab_is _, stab_val _, stab_is _, stab_is _, stab_is _, stab_is _, stab_is _, trivial⟩ (by kernel_rfl) (by kernel_rfl) (by kernel_rfl) ?_ ?_
  · refine stepsOK_cons (fun f u hG hd K hK => ?_) (stepsOK_cons (fun f u hG hd K hK => ?_) (stepsOK_cons (fun f u hG hd K hK => ?_) (stepsOK_cons (fun f u hG hd K hK => ?_) (stepsOK_cons (fun f u hG hd K hK => ?_) (stepsOK_cons (fun f u hG hd K hK => ?_) (stepsOK_cons (fun f u hG hd K hK => ?_) stepsOK_nil))))))
    · obtain ⟨⟨c0, c1, c2, c3⟩, _⟩ := box4 (box_stays hG)
      refine wanted_on rfl ?_
      simp only [putAll, Act.put, List.setIfInBounds_toArray, List.set_cons_zero, List.set_cons_succ] at hK ⊢
      go_simp
      exact hK _ _ _ rfl hG (Below.refl _ _) rfl
    · have e0 : f 0 = (vval x0 L0) := hd 0 (by kernel_rfl)
      refine wanted_on rfl ?_
      simp only [putAll, Act.put, List.setIfInBounds_toArray, List.set_cons_zero, List.set_cons_succ, e0] at hK ⊢
      go_simp
      refine (HO.out _ _ (m0.below (below_up hG) (Nat.le_refl _))).mono ?_
      rintro e u1 ⟨V1, rfl, h1, hb⟩
      exact hK _ _ _ rfl (hG.trans (hb.mono hG.size)) hb ⟨_, rfl, h1⟩
    · obtain ⟨V1, e1, q1⟩ := hd 1 (by kernel_rfl)
      refine wanted_on rfl ?_
      simp only [putAll, Act.put, List.setIfInBounds_toArray, List.set_cons_zero, List.set_cons_succ, e1] at hK ⊢
      go_simp
      refine (HW.out V1 u q1 (below_up hG)).mono ?_
      rintro e u1 ⟨rfl, hb⟩
      exact hK _ _ _ rfl (hG.trans (hb.mono hG.size)) hb rfl
    · obtain ⟨⟨c0, c1, c2, c3⟩, _⟩ := box4 (box_stays hG)
      refine wanted_on rfl ?_
      simp only [putAll, Act.put, List.setIfInBounds_toArray, List.set_cons_zero, List.set_cons_succ] at hK ⊢
      go_simp
      exact hK _ _ _ rfl hG (Below.refl _ _) rfl
    · have e3 : f 3 = (vval x0 L0) := hd 3 (by kernel_rfl)
      refine wanted_on rfl ?_
      simp only [putAll, Act.put, List.setIfInBounds_toArray, List.set_cons_zero, List.set_cons_succ, e3] at hK ⊢
      go_simp
      refine (HR.out u).mono ?_
      rintro e u1 ⟨rfl, hb⟩
      exact hK _ _ _ rfl (hG.trans (hb.mono hG.size)) hb rfl
    · have e2 : f 2 = (.string S) := hd 2 (by kernel_rfl)
      have e4 : f 4 = (.string S) := hd 4 (by kernel_rfl)
      refine wanted_on rfl ?_
      simp only [putAll, Act.put, List.setIfInBounds_toArray, List.set_cons_zero, List.set_cons_succ, e2, e4] at hK ⊢
      go_simp
      exact hK _ _ _ rfl hG (Below.refl _ _) (by simp [isV, atR])
    · have e5 : f 5 = (.bool true) := hd 5 (by kernel_rfl)
      refine wanted_on rfl ?_
      simp only [putAll, Act.put, List.setIfInBounds_toArray, List.set_cons_zero, List.set_cons_succ, e5] at hK ⊢
      go_simp
      exact hK _ _ _ rfl hG (Below.refl _ _) rfl
  · intro f u hG hf
    have e6 : f 6 = .bool true := hf 6 (by decide)
    simp only [putAll, Act.put, List.setIfInBounds_toArray, List.set_cons_zero, List.set_cons_succ, e6]
    go_wp2_with fail
    all_goals go_ret
    exact ⟨rfl, (below_up hG)⟩

theorem contract (H : Type) (enc : TypeId × Value → H) (W : World) (base : Nat) (args : Array Value) (ds gs : List (DataW H)) (before : List MemPlace)
    (hval : ∀ (j : Nat) t v, Tryd.f3.params[j]? = some t → args[j]? = some v → Value.okWide Tryd.prog W .any base t v)
    (hW : DataW.Whole enc Tryd.prog Tryd.f3.params.toList Rows.reportTextsSpec.vars false W args.toList ds gs before)
    (hsz : (DataW.weightsEach Tryd.prog (Tryd.f3.params.toList ++ (Rows.OpenSpec.upto Rows.reportTextsSpec).bare.plain.varTypes Tryd.prog) (ds ++ gs)).all (· ≤ reachBytes) = true) (hk : Rows.uptoSmall H (ds ++ gs) = true) (hL : laidMetH Tryd.prog Rows.reportTextsRow.laid W) :
    Calls Tryd.prog 3 args W fun e W' => ∃ v, e = .returned v ∧ Rows.reportTextsSpec.post enc Tryd.prog Tryd.f3 false true false false W args v W' := by
  have hW' := hW
  obtain ⟨p, q, hA0, hV, rfl, hfz, hnd⟩ := hW
  have hA : DataW.TrodAll enc Tryd.prog W 0 (fun _ => true) true Tryd.f3.params.toList args.toList ds p := hA0
  rw [Tryd.params3] at hA hval hsz
  obtain ⟨v0, vs0, d0, ds0, p0, q0, hargs, rfl, rfl, h0, r0⟩ := trodAll_cons hA
  obtain ⟨rfl, rfl, rfl⟩ := trodAll_nil r0
  obtain rfl : args = #[v0] := by cases args; simp_all
  obtain ⟨rfl, rfl⟩ := trodVars_none hV
  obtain ⟨x0, L0, rfl, i0, m0, b0⟩ := vcame_of_small (j := 0) (hval 0 24 v0 rfl rfl) h0 hsz rfl rfl hk
  clear hA0
  simp only [List.append_nil] at hW'
  have hlt0 : ∀ x ∈ p0, x.block < W.heap.size := fun x hx => hW'.lt x (by simp [hx])
  refine (walk x0 L0 W i0 m0 b0 (pow_of hL)).mono fun e W' ⟨he, bel⟩ => ?_
  subst he
  exact ⟨_, rfl, _, _, _, [], p0 ++ [], [], hW', trodAll_mk1 (shut_bool Tryd.underlying4 _), (trodAll_cons_mk (Below.trod (by kernel_rfl) (by kernel_rfl) (of_decide_eq_true (by kernel_rfl)) h0 bel hlt0) trodAll_mk0), rfl, bel.frame _, fun h => by cases h⟩

noncomputable def low : Nat := (World.holding Tryd.prog default ⟨#[], #[], []⟩).heap.size
noncomputable def laidWorld (os : Os) : World :=
  let w0 := World.holding Tryd.prog os ⟨#[], #[], []⟩
  { w0 with heap := (((w0.heap.modify 1 fun
      | .cells _ t frozen => .cells #[.int .u64 1, .int .u64 10, .int .u64 100, .int .u64 1000, .int .u64 10000, .int .u64 100000, .int .u64 1000000, .int .u64 10000000, .int .u64 100000000, .int .u64 1000000000, .int .u64 10000000000, .int .u64 100000000000, .int .u64 1000000000000, .int .u64 10000000000000, .int .u64 100000000000000, .int .u64 1000000000000000, .int .u64 10000000000000000, .int .u64 100000000000000000, .int .u64 1000000000000000000, .int .u64 10000000000000000000] t frozen
      | o => o).modify 3 fun
      | .cells _ t frozen => .cells #[.int .u8 0, .int .u8 1, .int .u8 28, .int .u8 2, .int .u8 29, .int .u8 14, .int .u8 24, .int .u8 3, .int .u8 30, .int .u8 22, .int .u8 20, .int .u8 15, .int .u8 25, .int .u8 17, .int .u8 4, .int .u8 8, .int .u8 31, .int .u8 27, .int .u8 13, .int .u8 23, .int .u8 21, .int .u8 19, .int .u8 16, .int .u8 7, .int .u8 26, .int .u8 12, .int .u8 18, .int .u8 6, .int .u8 11, .int .u8 5, .int .u8 10, .int .u8 9] t frozen
      | o => o).modify 4 fun
      | .cells _ t frozen => .cells #[.int .u8 0, .int .u8 1, .int .u8 56, .int .u8 2, .int .u8 57, .int .u8 49, .int .u8 28, .int .u8 3, .int .u8 61, .int .u8 58, .int .u8 42, .int .u8 50, .int .u8 38, .int .u8 29, .int .u8 17, .int .u8 4, .int .u8 62, .int .u8 47, .int .u8 59, .int .u8 36, .int .u8 45, .int .u8 43, .int .u8 51, .int .u8 22, .int .u8 53, .int .u8 39, .int .u8 33, .int .u8 30, .int .u8 24, .int .u8 18, .int .u8 12, .int .u8 5, .int .u8 63, .int .u8 55, .int .u8 48, .int .u8 27, .int .u8 60, .int .u8 41, .int .u8 37, .int .u8 16, .int .u8 46, .int .u8 35, .int .u8 44, .int .u8 21, .int .u8 52, .int .u8 32, .int .u8 23, .int .u8 11, .int .u8 54, .int .u8 26, .int .u8 40, .int .u8 15, .int .u8 34, .int .u8 20, .int .u8 31, .int .u8 10, .int .u8 25, .int .u8 14, .int .u8 19, .int .u8 9, .int .u8 13, .int .u8 8, .int .u8 7, .int .u8 6] t frozen
      | o => o) }
theorem laid_met (os : Os) : laidMet Tryd.prog Rows.reportTextsUptoRow.laid ((laidWorld os).forCall (fun _ _ => 0) ⟨#[], #[.agg #[.int .i64 0, .int .i64 0, .string ByteArray.empty, .slice none 0 0]], []⟩).memory :=
  laidMet_of_run' 8 (by kernel_rfl) (by kernel_rfl)
theorem reads (os : Os) {H : Type} (enc : TypeId × Value → H) : ∃ places, DataW.whole enc Tryd.prog ((laidWorld os).forCall (fun _ _ => 0) ⟨#[], #[.agg #[.int .i64 0, .int .i64 0, .string ByteArray.empty, .slice none 0 0]], []⟩).memory Tryd.f3.params.toList Rows.reportTextsSpec.vars false #[Value.agg #[.int .i64 0, .int .i64 0, .string ByteArray.empty, .slice none 0 0]].toList 8 = some ([.agg [.lit (.int .i64 0), .lit (.int .i64 0), .lit (.string []), .nil]], [], places) :=
  ⟨[], by kernel_rfl⟩

set_option maxRecDepth 100000 in
theorem lifted (os : Os) (started : os.Started) (H : Type) (enc : TypeId × Value → H) (F : Stop.Interp) :
    ReturnsInHanded {} Tryd.checked os 3 .any ((Rows.OpenSpec.upto Rows.reportTextsSpec).preRow enc Tryd.prog Tryd.f3 Rows.reportTextsUptoRow.domain false Rows.reportTextsUptoRow.laid) (((Rows.OpenSpec.upto Rows.reportTextsSpec).at F).post enc Tryd.prog Tryd.f3 false true false false) := by
  obtain ⟨places, hx⟩ := reads os enc
  refine returnsInHanded_of_row (C := Tryd.checked) (s := Rows.OpenSpec.upto Rows.reportTextsSpec) own started (by kernel_rfl) Tryd.func3
    (witness_row_at (enc := enc) (C := Tryd.checked) false (laidWorld os) #[.agg #[.int .i64 0, .int .i64 0, .string ByteArray.empty, .slice none 0 0]] rfl (by kernel_rfl) (by kernel_rfl) (by kernel_rfl)
      (OpenSpec.preRow_of_cond 8 hx (by kernel_rfl) (fun k hk => by cases hk; kernel_rfl) (by kernel_rfl) (laid_met os))) ?_
  intro W base args ds gs before hval hW _ hcond hsz hL _ _
  exact contract H enc W base args ds gs before hval hW hsz (hcond _ rfl) hL

theorem said : Rows.ReportTextsUptoSaid :=
  OpenClaim.holds_of_cond 3 Tryd.f3 rfl rfl rfl rfl rfl rfl rfl ⟨rfl, rfl, rfl, rfl, rfl⟩ rfl rfl rfl rfl rfl (by kernel_rfl) Tryd.func3 (by kernel_rfl)
    (of_decide_eq_true (by kernel_rfl)) (by unfold Func.isWrapper; first | (rw [if_pos (by decide +kernel)]; kernel_rfl) | (rw [if_neg (by decide +kernel)]; exact ⟨rfl, rfl⟩))
    (fun os started H enc _ F => by rw [OpenClaim.pre_eq_preRow]; exact lifted os started H enc F)

theorem plain (f : FuncId) (fn : Func) (hf : Tryd.pinned.checked.prog.funcNamed "panicroad/panicroadlaw.ReportTexts" = some f) (hfn : Tryd.pinned.checked.prog.funcs[f]? = some fn) :
    false = Tryd.pinned.checked.prog.looks [] ∧ ∀ (j : Nat) t, fn.params[j]? = some t → Tryd.pinned.checked.prog.wantsStandIn t = false := by
  obtain rfl : f = 3 := Option.some.inj ((show Tryd.prog.funcNamed "panicroad/panicroadlaw.ReportTexts" = some 3 by kernel_rfl).symm.trans hf) |>.symm
  obtain rfl : fn = Tryd.f3 := (Option.some.inj (Tryd.func3.symm.trans hfn)).symm
  refine ⟨by kernel_rfl, fun j t ht => ?_⟩
  rw [Tryd.params3] at ht
  have hm := Array.mem_of_getElem? ht
  simp at hm
  subst hm
  exact (show Tryd.prog.wantsStandIn 24 = false by kernel_rfl)

theorem card : Rows.ReportTextsUptoCardSaid :=
  Claim7.holds_tied_plain_at .later [] _ _ _ _ said (fun _ h => by cases h) (by kernel_rfl) (fun _ h => by cases h) reportTextsUpto_row_tie rfl ⟨rfl, rfl⟩ (by kernel_rfl) rfl plain (by kernel_rfl)
#print axioms card
end Go.Proofs.YtncjaohiimenaaaDoor.reportTexts
