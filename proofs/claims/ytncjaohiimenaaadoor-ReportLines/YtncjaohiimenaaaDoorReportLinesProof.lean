/-
  For every outcome that comes in, report.Lines answers exactly the text of P10.5, or ErrKind: the law's function returns true; the tables that the row lists hold at the start what the program's text lays (the card ties them).
-/
import Derived.Test.YtncjaohiimenaaaDoorRlines
import Derived.Test.YtncjaohiimenaaaDoorTextTab
import Derived.Stop.LaidErr
import Derived.Test.YtncjaohiimenaaaDoorOcame
import Derived.Test.YtncjaohiimenaaaDoorCards
import Derived.Test.YtncjaohiimenaaaDoorTie
import Derived.Deep.DeepHandedRow
import Derived.Lib.LaidTab
import Derived.SizedLaws
import Derived.Deep.DeepWitnessRowRef
namespace Go.Proofs.YtncjaohiimenaaaDoor.reportLines
open Go.ChangeShapes Go.WideShapes Go.ChangeAt Go.RowKit
open Go.WideMaps Go.WideElems
open Go.ChangeMaps (open_string shut_string)
set_option linter.unusedVariables false
set_option maxRecDepth 100000

theorem own : ownKnob Tryd.prog.godebug = none := by kernel_rfl

theorem pow_tab : Lib.pow10Tab = [1, 10, 100, 1000, 10000, 100000, 1000000, 10000000, 100000000, 1000000000, 10000000000, 100000000000, 1000000000000, 10000000000000, 100000000000000, 1000000000000000, 10000000000000000, 100000000000000000, 1000000000000000000, 10000000000000000000] := by decide
theorem pow_of {W : World} (h : laidMetH Tryd.prog Rows.reportLinesRow.laid W) : Pow W := by
  have h0 : laidMet Tryd.prog Rows.reportLinesRow.laid W := h
  unfold Pow
  rw [pow_tab]
  exact Lib.tabIs_of_head Tryd.gPow (by kernel_rfl) Tryd.underlying93 Tryd.underlying81 (by kernel_rfl) (by kernel_rfl) h0.tail.tail

theorem table {W : World} (h : laidMetH Tryd.prog Rows.reportLinesRow.laid W) : EndTab W := by
  intro k hk
  have h0 : laidMet Tryd.prog Rows.reportLinesRow.laid W := h
  have h' : laidMet Tryd.prog (("panicroad/report.words", textData (endsL.map (·.data.toList))) :: _) W := h0.tail.tail.tail
  have hs : (endsL.map (·.data.toList))[k]? = some (endAt k).data.toList := by
    rw [List.getElem?_map]
    unfold endAt
    rw [List.getD_eq_getElem?_getD, List.getElem?_eq_getElem (show k < endsL.length from hk)]
    rfl
  exact text_at (by kernel_rfl : Tryd.prog.globalNamed "panicroad/report.words" = some 0) (by kernel_rfl) Tryd.underlying59 Tryd.underlying9 (by kernel_rfl) (by kernel_rfl) h' k _ hs

set_option maxHeartbeats 8000000 in
theorem walk (o : Ov) (w : World) (i0 : OIn o) (m0 : RLies 3 Sx.cells w o.L o.l)  (hp : Pow w) (ht : EndTab w) :
    Calls Tryd.prog 6 #[o.val o.L] w fun e w' => e = .returned (.bool true) ∧ Below w.heap.size w w' := by
  obtain ⟨lo, lc, hL⟩ := m0.shape
  rw [hL] at m0 ⊢
  have HM : Hid (∀ u, Below w.heap.size w u → RLies 3 Sx.cells u (.slice lo o.l.length lc) o.l) := fun u hu => m0.below hu (Nat.le_refl _)
  have HO : Hid (∀ L u, Below w.heap.size w u → Calls Tryd.prog 18 #[.agg #[.int .i64 o.e, .string o.out, .string o.crash, .int .i64 o.st, .int .i64 o.steps, L]] u fun r w' => r = .returned (.tuple #[.string (lineO o), .int .i64 (enE o.e)]) ∧ Below u.heap.size u w') := fun L u hu => own_lines o L u i0 (ht.below hu) (hp.below hu)
  have HR : Hid (∀ L u, Calls Tryd.prog 19 #[.agg #[.int .i64 o.e, .string o.out, .string o.crash, .int .i64 o.st, .int .i64 o.steps, L]] u fun r w' => r = .returned (.tuple #[.string (lineO o), .int .i64 (enE o.e)]) ∧ Below u.heap.size u w') := fun L u => ref_lines o L u i0
  have HN : Hid (o.l.length * 24 ≤ 140737488355328) := by have := i0.sl; show _ ≤ _; omega
  generalize lineO o = LN at *
  generalize enE o.e = z at *
  clear i0 m0 hp ht hL
  unfold Ov.val
  go_enter Tryd.func6, Tryd.ntmps6
  go_wp2_with (at_builtin; refine gcopy rfl _ _ Sx.len Tryd.infoSta rfl (by decide) Tryd.underlying40 rfl rfl rfl (HM.out _ (((Below.refl _ _).alloc (Nat.le_refl _) _).alloc (by simp) _)) (fun x _ => x.one) HN.out (by decide) (w.heap.size + 2) (by simp) ?_; intro v' w1 hown hb1; obtain ⟨ao, cap, rfl⟩ := row_slice hown; obtain ⟨g1, g2, hz, hb2⟩ := two_boxes hb1; obtain ⟨⟨c0, c1, c2, c3, c4, c5⟩, ⟨e0, e1, e2, e3, e4, e5⟩⟩ := box6 g1; obtain ⟨⟨d0, d1, d2, d3, d4, d5⟩, ⟨f0, f1, f2, f3, f4, f5⟩⟩ := box6 g2; have HB := Hid.mk' hb2; have HG1 := Hid.mk' g1; have HG2 := Hid.mk' g2; clear hown hb1 hb2 g1 g2)
  have HS : Hid (Below w.heap.size w (w1.setCell ⟨w.heap.size + 1, 5, none⟩ (.slice ao o.l.length cap))) := HB.out.setCell (by show _ ≤ _; simp) _
  have HX1 : Hid ((w1.setCell ⟨w.heap.size + 1, 5, none⟩ (.slice ao o.l.length cap)).heap[w.heap.size]? = some (.cells #[.int .i64 o.e, .string o.out, .string o.crash, .int .i64 o.st, .int .i64 o.steps, .slice lo o.l.length lc] 42 (0, 0))) := by show _ = _; rw [heap_setCell_other _ _ _ _ (by simp)]; exact HG1.out
  refine Calls.mono (HO.out _ _ HS.out) ?_
  rintro e w2 ⟨rfl, hb2⟩
  have HB2 : Hid (Below w.heap.size w w2) := HS.out.trans (hb2.mono HS.out.size)
  have HX2 : Hid (w2.heap[w.heap.size]? = some (.cells #[.int .i64 o.e, .string o.out, .string o.crash, .int .i64 o.st, .int .i64 o.steps, .slice lo o.l.length lc] 42 (0, 0))) := by show _ = _; rw [hb2.block _ (by have := HS.out.size; simp [World.setCell]; omega)]; exact HX1.out
  clear hb2 c0 c1 c2 c3 c4 c5 d0 d1 d2 d3 d4 d5 e0 e1 e2 e3 e4 e5 f0 f1 f2 f3 f4 f5
  obtain ⟨⟨c0, c1, c2, c3, c4, c5⟩, -⟩ := box6 HX2.out
  go_wp2_with fail
  refine Calls.mono (HR.out _ _) ?_
  rintro e w3 ⟨rfl, hb3⟩
  have HB3 : Hid (Below w.heap.size w w3) := HB2.out.trans (hb3.mono HB2.out.size)
  clear hb3 c0 c1 c2 c3 c4 c5
  go_wp2_with fail
  all_goals go_ret
  exact ⟨rfl, HB3.out⟩

theorem contract (H : Type) (enc : TypeId × Value → H) (W : World) (base : Nat) (args : Array Value) (ds gs : List (DataW H)) (before : List MemPlace)
    (hval : ∀ (j : Nat) t v, Tryd.f6.params[j]? = some t → args[j]? = some v → Value.okWide Tryd.prog W .any base t v)
    (hW : DataW.Whole enc Tryd.prog Tryd.f6.params.toList Rows.reportLinesSpec.vars false W args.toList ds gs before)
    (hsz : (DataW.weightsEach Tryd.prog (Tryd.f6.params.toList ++ (OpenSpec.ofChange Rows.reportLinesSpec).bare.plain.varTypes Tryd.prog) (ds ++ gs)).all (· ≤ reachBytes) = true) (hL : laidMetH Tryd.prog Rows.reportLinesRow.laid W) :
    Calls Tryd.prog 6 args W fun e W' => ∃ v, e = .returned v ∧ Rows.reportLinesSpec.post enc Tryd.prog Tryd.f6 false true false false W args v W' := by
  have hW' := hW
  obtain ⟨p, q, hA0, hV, rfl, hfz, hnd⟩ := hW
  have hA : DataW.TrodAll enc Tryd.prog W 0 (fun _ => true) true Tryd.f6.params.toList args.toList ds p := hA0
  rw [Tryd.params6] at hA hval hsz
  obtain ⟨v0, vs0, d0, ds0, p0, q0, hargs, rfl, rfl, h0, r0⟩ := trodAll_cons hA
  obtain ⟨rfl, rfl, rfl⟩ := trodAll_nil r0
  obtain rfl : args = #[v0] := by cases args; simp_all
  obtain ⟨rfl, rfl⟩ := trodVars_none hV
  obtain ⟨o, ho, i0, m0⟩ := ocame_of (j := 0) (hval 0 42 v0 rfl rfl) h0 hsz rfl rfl
  subst ho
  clear hA0
  simp only [List.append_nil] at hW'
  have hlt0 : ∀ x ∈ p0, x.block < W.heap.size := fun x hx => hW'.lt x (by simp [hx])
  refine (walk o W i0 m0  (pow_of hL) (table hL)).mono fun e W' ⟨he, bel⟩ => ?_
  subst he
  exact ⟨_, rfl, _, _, _, [], p0 ++ [], [], hW', trodAll_mk1 (shut_bool Tryd.underlying4 _), (trodAll_cons_mk (Below.trod (by kernel_rfl) (by kernel_rfl) (of_decide_eq_true (by kernel_rfl)) h0 bel hlt0) trodAll_mk0), rfl, bel.frame _, fun h => by cases h⟩

noncomputable def low : Nat := (World.holding Tryd.prog default ⟨#[], #[], []⟩).heap.size
noncomputable def laidWorld (os : Os) : World :=
  let w0 := World.holding Tryd.prog os ⟨#[], #[], []⟩
  { w0 with heap := ((((w0.heap.modify 1 fun
      | .cells _ t frozen => .cells #[.int .u64 1, .int .u64 10, .int .u64 100, .int .u64 1000, .int .u64 10000, .int .u64 100000, .int .u64 1000000, .int .u64 10000000, .int .u64 100000000, .int .u64 1000000000, .int .u64 10000000000, .int .u64 100000000000, .int .u64 1000000000000, .int .u64 10000000000000, .int .u64 100000000000000, .int .u64 1000000000000000, .int .u64 10000000000000000, .int .u64 100000000000000000, .int .u64 1000000000000000000, .int .u64 10000000000000000000] t frozen
      | o => o).modify 3 fun
      | .cells _ t frozen => .cells #[.int .u8 0, .int .u8 1, .int .u8 28, .int .u8 2, .int .u8 29, .int .u8 14, .int .u8 24, .int .u8 3, .int .u8 30, .int .u8 22, .int .u8 20, .int .u8 15, .int .u8 25, .int .u8 17, .int .u8 4, .int .u8 8, .int .u8 31, .int .u8 27, .int .u8 13, .int .u8 23, .int .u8 21, .int .u8 19, .int .u8 16, .int .u8 7, .int .u8 26, .int .u8 12, .int .u8 18, .int .u8 6, .int .u8 11, .int .u8 5, .int .u8 10, .int .u8 9] t frozen
      | o => o).modify 4 fun
      | .cells _ t frozen => .cells #[.int .u8 0, .int .u8 1, .int .u8 56, .int .u8 2, .int .u8 57, .int .u8 49, .int .u8 28, .int .u8 3, .int .u8 61, .int .u8 58, .int .u8 42, .int .u8 50, .int .u8 38, .int .u8 29, .int .u8 17, .int .u8 4, .int .u8 62, .int .u8 47, .int .u8 59, .int .u8 36, .int .u8 45, .int .u8 43, .int .u8 51, .int .u8 22, .int .u8 53, .int .u8 39, .int .u8 33, .int .u8 30, .int .u8 24, .int .u8 18, .int .u8 12, .int .u8 5, .int .u8 63, .int .u8 55, .int .u8 48, .int .u8 27, .int .u8 60, .int .u8 41, .int .u8 37, .int .u8 16, .int .u8 46, .int .u8 35, .int .u8 44, .int .u8 21, .int .u8 52, .int .u8 32, .int .u8 23, .int .u8 11, .int .u8 54, .int .u8 26, .int .u8 40, .int .u8 15, .int .u8 34, .int .u8 20, .int .u8 31, .int .u8 10, .int .u8 25, .int .u8 14, .int .u8 19, .int .u8 9, .int .u8 13, .int .u8 8, .int .u8 7, .int .u8 6] t frozen
      | o => o).modify 0 fun
      | .cells _ t frozen => .cells #[.string ⟨#[100, 111, 110, 101]⟩, .string ⟨#[99, 114, 97, 115, 104]⟩, .string ⟨#[101, 120, 105, 116]⟩, .string ⟨#[102, 117, 101, 108]⟩, .string ⟨#[109, 101, 109, 111, 114, 121]⟩, .string ⟨#[100, 101, 112, 116, 104]⟩, .string ⟨#[111, 117, 116, 112, 117, 116]⟩, .string ⟨#[119, 105, 108, 100]⟩] t frozen
      | o => o) }
theorem laid_met (os : Os) : laidMet Tryd.prog Rows.reportLinesRow.laid ((laidWorld os).forCall (fun _ _ => 0) ⟨#[], #[.agg #[.int .i64 0, .string ByteArray.empty, .string ByteArray.empty, .int .i64 0, .int .i64 0, .slice none 0 0]], []⟩).memory :=
  laidMet_of_run' 8 (by kernel_rfl) (by kernel_rfl)
theorem reads (os : Os) {H : Type} (enc : TypeId × Value → H) : ∃ places, DataW.whole enc Tryd.prog ((laidWorld os).forCall (fun _ _ => 0) ⟨#[], #[.agg #[.int .i64 0, .string ByteArray.empty, .string ByteArray.empty, .int .i64 0, .int .i64 0, .slice none 0 0]], []⟩).memory Tryd.f6.params.toList Rows.reportLinesSpec.vars false #[Value.agg #[.int .i64 0, .string ByteArray.empty, .string ByteArray.empty, .int .i64 0, .int .i64 0, .slice none 0 0]].toList 8 = some ([.agg [.lit (.int .i64 0), .lit (.string []), .lit (.string []), .lit (.int .i64 0), .lit (.int .i64 0), .nil]], [], places) :=
  ⟨[], by kernel_rfl⟩

set_option maxRecDepth 100000 in
theorem lifted (os : Os) (started : os.Started) (H : Type) (enc : TypeId × Value → H) (F : Stop.Interp) :
    ReturnsInHanded {} Tryd.checked os 6 .any ((OpenSpec.ofChange Rows.reportLinesSpec).preRow enc Tryd.prog Tryd.f6 Rows.reportLinesRow.domain false Rows.reportLinesRow.laid) (((OpenSpec.ofChange Rows.reportLinesSpec).at F).post enc Tryd.prog Tryd.f6 false true false false) := by
  obtain ⟨places, hx⟩ := reads os enc
  refine returnsInHanded_of_row (C := Tryd.checked) (s := OpenSpec.ofChange Rows.reportLinesSpec) own started (by kernel_rfl) Tryd.func6
    (witness_row_at (enc := enc) (C := Tryd.checked) false (laidWorld os) #[.agg #[.int .i64 0, .string ByteArray.empty, .string ByteArray.empty, .int .i64 0, .int .i64 0, .slice none 0 0]] rfl (by kernel_rfl) (by kernel_rfl) (by kernel_rfl)
      (OpenSpec.preRow_of_cond 8 hx (by kernel_rfl) (fun k hk => by cases hk) (by kernel_rfl) (laid_met os))) ?_
  intro W base args ds gs before hval hW _ _ hsz hL _ _
  exact contract H enc W base args ds gs before hval hW hsz hL

theorem said : Rows.ReportLinesSaid :=
  OpenClaim.holds_of_cond 6 Tryd.f6 rfl rfl rfl rfl rfl rfl rfl ⟨rfl, rfl, rfl, rfl, rfl⟩ rfl rfl rfl rfl rfl (by kernel_rfl) Tryd.func6 (by kernel_rfl)
    (of_decide_eq_true (by kernel_rfl)) (by unfold Func.isWrapper; first | (rw [if_pos (by decide +kernel)]; kernel_rfl) | (rw [if_neg (by decide +kernel)]; exact ⟨rfl, rfl⟩))
    (fun os started H enc _ F => by rw [OpenClaim.pre_eq_preRow]; exact lifted os started H enc F)

theorem plain (f : FuncId) (fn : Func) (hf : Tryd.pinned.checked.prog.funcNamed "panicroad/panicroadlaw.ReportLines" = some f) (hfn : Tryd.pinned.checked.prog.funcs[f]? = some fn) :
    false = Tryd.pinned.checked.prog.looks [] ∧ ∀ (j : Nat) t, fn.params[j]? = some t → Tryd.pinned.checked.prog.wantsStandIn t = false := by
  obtain rfl : f = 6 := Option.some.inj ((show Tryd.prog.funcNamed "panicroad/panicroadlaw.ReportLines" = some 6 by kernel_rfl).symm.trans hf) |>.symm
  obtain rfl : fn = Tryd.f6 := (Option.some.inj (Tryd.func6.symm.trans hfn)).symm
  refine ⟨by kernel_rfl, fun j t ht => ?_⟩
  rw [Tryd.params6] at ht
  have hm := Array.mem_of_getElem? ht
  simp at hm
  subst hm
  exact (show Tryd.prog.wantsStandIn 42 = false by kernel_rfl)

theorem card : Rows.ReportLinesCardSaid :=
  Claim7.holds_tied_plain_at .later [] _ _ _ _ said (fun _ h => by cases h) (by kernel_rfl) (fun _ h => by cases h) reportLines_row_tie rfl ⟨rfl, rfl⟩ (by kernel_rfl) rfl plain (by kernel_rfl)
#print axioms card
end Go.Proofs.YtncjaohiimenaaaDoor.reportLines
