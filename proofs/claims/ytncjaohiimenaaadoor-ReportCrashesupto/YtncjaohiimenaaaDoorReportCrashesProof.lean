/-
  For every list of panics that comes in and is of bulk at most 1048576, report.Crash answers exactly the text of P10.2: the law's function returns true; the library's tables hold at the start what the program's text lays (the card ties them).
-/
import Derived.Test.YtncjaohiimenaaaDoorRcrashr
import Derived.Stop.LaidErr
import Derived.Test.YtncjaohiimenaaaDoorRpcame
import Derived.JoinedCond
import Derived.Test.YtncjaohiimenaaaDoorCards
import Derived.Test.YtncjaohiimenaaaDoorTie
import Derived.Deep.DeepHandedRow
import Derived.Lib.LaidTab
import Derived.SizedLaws
import Derived.Deep.DeepWitnessRowRef
namespace Go.Proofs.YtncjaohiimenaaaDoor.reportCrashes
open Go.ChangeShapes Go.WideShapes Go.ChangeAt Go.RowKit
open Go.WideMaps Go.WideElems
open Go.ChangeMaps (open_string shut_string)
set_option linter.unusedVariables false
set_option maxRecDepth 100000

theorem own : ownKnob Tryd.prog.godebug = none := by kernel_rfl

def onePe : Pe := ⟨0, ⟨1, 1, ⟨#[]⟩, []⟩, .slice none 0 0, false, false⟩
theorem one_is : crashB [onePe] = ⟨#[112, 97, 110, 105, 99, 58, 32, 49, 10]⟩ := by kernel_rfl
theorem one_in : PsIn [onePe] := ⟨fun e he => by simp at he; subst he; exact ⟨⟨(by kernel_rfl : (Lit.int .i64 1).wf = true), (by kernel_rfl : (Lit.int .i64 1).wf = true), by decide, (fun i hi => by cases hi), by decide⟩, by decide, by decide⟩, by decide⟩
theorem one_lies (w u : World) (g : Nat) (hg : g = w.heap.size) (h : Below (w.alloc (.cells #[.int .i64 0, .int .i64 1, .int .i64 1, .string ⟨#[]⟩, .slice none 0 0, .bool false, .bool false] 30)).heap.size (w.alloc (.cells #[.int .i64 0, .int .i64 1, .int .i64 1, .string ⟨#[]⟩, .slice none 0 0, .bool false, .bool false] 30)) u) : PsLies u (.slice (some ⟨g, 0, none⟩) 1 1) [onePe] := by
  subst hg
  have h1 : (w.alloc (.cells #[.int .i64 0, .int .i64 1, .int .i64 1, .string ⟨#[]⟩, .slice none 0 0, .bool false, .bool false] 30)).ownsRow 0 30 7 (.slice (some ⟨w.heap.size, 0, none⟩) 1 1) 1 (Pe.cells onePe) := World.ownsRow_lit w #[.int .i64 0, .int .i64 1, .int .i64 1, .string ⟨#[]⟩, .slice none 0 0, .bool false, .bool false] 1 (Nat.zero_le _) (by decide) rfl
  have h2 : (w.alloc (.cells #[.int .i64 0, .int .i64 1, .int .i64 1, .string ⟨#[]⟩, .slice none 0 0, .bool false, .bool false] 30)).ownsRow 0 30 7 (.slice (some ⟨w.heap.size, 0, none⟩) 1 1) [onePe].length (rc Pe.cells [onePe]) := by rw [rc_one]; exact h1
  exact ⟨lies_own Pe.len (row_below h2 h), fun e he => by simp at he; subst he; exact .inl ⟨rfl, rfl⟩⟩
theorem pow_tab : Lib.pow10Tab = [1, 10, 100, 1000, 10000, 100000, 1000000, 10000000, 100000000, 1000000000, 10000000000, 100000000000, 1000000000000, 10000000000000, 100000000000000, 1000000000000000, 10000000000000000, 100000000000000000, 1000000000000000000, 10000000000000000000] := by decide
theorem pow_of {W : World} (h : laidMetH Tryd.prog Rows.reportCrashesRow.laid W) : Pow W := by
  have h0 : laidMet Tryd.prog Rows.reportCrashesRow.laid W := h
  unfold Pow
  rw [pow_tab]
  exact Lib.tabIs_of_head Tryd.gPow (by kernel_rfl) Tryd.underlying93 Tryd.underlying81 (by kernel_rfl) (by kernel_rfl) h0.tail.tail

set_option maxHeartbeats 8000000 in
theorem walk (v0 : Value) (es : List Pe) (w : World) (hC : PsLies w v0 es) (hE : PsIn es) (hp : Pow w) :
    Calls Tryd.prog 4 #[v0] w fun e w' => e = .returned (.bool true) ∧ Below w.heap.size w w' := by
  obtain ⟨lo, lc, hsh⟩ := hC.row.shape
  subst hsh
  have HFL : Hid (∀ u, Below w.heap.size w u → Calls Tryd.prog 12 #[.slice lo es.length lc] u fun e w' => ∃ v' ms, e = .returned v' ∧ PRow u.heap.size w' v' ms ∧ ms.map Pe.key = es.map Pe.key ∧ Below u.heap.size u w') := fun u hu => own_flights _ es u (hC.below hu) hE
  have HCR : Hid (∀ v ms u, PsLies u v ms → ms.map Pe.key = es.map Pe.key → Below w.heap.size w u → Calls Tryd.prog 11 #[v] u fun e w' => e = .returned (.string (crashB es)) ∧ Below u.heap.size u w') := fun v ms u h1 h2 hu => by
    have := own_crash v ms u h1 (hE.key h2) (hp.below hu)
    rwa [crashB_key h2] at this
  have HRF : Hid (∀ u, Below w.heap.size w u → Calls Tryd.prog 13 #[.slice lo es.length lc] u fun e w' => e = .returned (.string (crashB es)) ∧ Below u.heap.size u w') := fun u hu => ref_crash _ es u (hC.below hu) hE
  have HON : Hid (∀ u, Below (w.alloc (.cells #[.int .i64 0, .int .i64 1, .int .i64 1, .string ⟨#[]⟩, .slice none 0 0, .bool false, .bool false] 30)).heap.size (w.alloc (.cells #[.int .i64 0, .int .i64 1, .int .i64 1, .string ⟨#[]⟩, .slice none 0 0, .bool false, .bool false] 30)) u → Calls Tryd.prog 11 #[.slice (some ⟨w.heap.size, 0, none⟩) 1 1] u fun e w' => e = .returned (.string ⟨#[112, 97, 110, 105, 99, 58, 32, 49, 10]⟩) ∧ Below u.heap.size u w') := fun u hu => by
    rw [← one_is]
    exact own_crash _ [onePe] u (one_lies w u _ rfl hu) one_in (hp.below (((Below.refl _ _).alloc (Nat.le_refl _) _).trans (hu.mono (by simp))))
  have HW0 : Hid (Below w.heap.size w (w.alloc (.cells #[.int .i64 0, .int .i64 1, .int .i64 1, .string ⟨#[]⟩, .slice none 0 0, .bool false, .bool false] 30))) := (Below.refl _ _).alloc (Nat.le_refl _) _
  generalize crashB es = CB at *
  clear hC hE hp
  go_enter Tryd.func4, Tryd.ntmps4
  go_wp2_with fail
  generalize w.alloc (.cells #[.int .i64 0, .int .i64 1, .int .i64 1, .string ⟨#[]⟩, .slice none 0 0, .bool false, .bool false] 30) = W0 at *
  refine Calls.mono (HFL.out _ HW0.out) ?_
  rintro e w1 ⟨v1, ms, rfl, hr, hk, hb1⟩
  have HR1 := Hid.mk' hr
  have HK1 := Hid.mk' hk
  have HB1 : Hid (Below W0.heap.size W0 w1) := hb1
  have HW1 : Hid (Below w.heap.size w w1) := HW0.out.trans (hb1.mono HW0.out.size)
  clear hr hk hb1
  go_wp2_with fail
  refine Calls.mono (HCR.out _ ms _ HR1.out.lies HK1.out HW1.out) ?_
  rintro e w2 ⟨rfl, hb2⟩
  have HB2 : Hid (Below W0.heap.size W0 w2) := HB1.out.trans (hb2.mono HB1.out.size)
  have HW2 : Hid (Below w.heap.size w w2) := HW1.out.trans (hb2.mono HW1.out.size)
  clear hb2
  go_wp2_with fail
  refine Calls.mono (HRF.out _ HW2.out) ?_
  rintro e w3 ⟨rfl, hb3⟩
  have HB3 : Hid (Below W0.heap.size W0 w3) := HB2.out.trans (hb3.mono HB2.out.size)
  have HW3 : Hid (Below w.heap.size w w3) := HW2.out.trans (hb3.mono HW2.out.size)
  clear hb3
  go_wp2_with fail
  refine Calls.mono (HON.out _ HB3.out) ?_
  rintro e w4 ⟨rfl, hb4⟩
  have HW4 : Hid (Below w.heap.size w w4) := HW3.out.trans (hb4.mono HW3.out.size)
  clear hb4
  go_wp2_with fail
  all_goals go_ret
  exact ⟨rfl, HW4.out⟩

theorem contract (H : Type) (enc : TypeId × Value → H) (W : World) (base : Nat) (args : Array Value) (ds gs : List (DataW H)) (before : List MemPlace)
    (hval : ∀ (j : Nat) t v, Tryd.f4.params[j]? = some t → args[j]? = some v → Value.okWide Tryd.prog W .any base t v)
    (hW : DataW.Whole enc Tryd.prog Tryd.f4.params.toList Rows.reportCrashesSpec.vars false W args.toList ds gs before)
    (hk : Rows.uptoSmall H (ds ++ gs) = true) (hL : laidMetH Tryd.prog Rows.reportCrashesRow.laid W) :
    Calls Tryd.prog 4 args W fun e W' => ∃ v, e = .returned v ∧ Rows.reportCrashesSpec.post enc Tryd.prog Tryd.f4 false true false false W args v W' := by
  have hW' := hW
  obtain ⟨p, q, hA0, hV, rfl, hfz, hnd⟩ := hW
  have hA : DataW.TrodAll enc Tryd.prog W 0 (fun _ => true) true Tryd.f4.params.toList args.toList ds p := hA0
  rw [Tryd.params4] at hA hval
  obtain ⟨v0, vs0, d0, ds0, p0, q0, hargs, rfl, rfl, h0, r0⟩ := trodAll_cons hA
  obtain ⟨rfl, rfl, rfl⟩ := trodAll_nil r0
  obtain rfl : args = #[v0] := by cases args; simp_all
  obtain ⟨rfl, rfl⟩ := trodVars_none hV
  obtain ⟨ao, len, cap, rfl⟩ := okWide_slice Tryd.underlying28 (hval 0 28 v0 rfl rfl)
  have h0k := h0
  obtain ⟨fuel0, hf0⟩ := h0
  obtain ⟨es, hC, hE⟩ := ps_came hf0 (small_part hk (by simp))
  clear hA0
  simp only [List.append_nil] at hW'
  have hlt : ∀ x ∈ p0, x.block < W.heap.size := fun x hx => hW'.lt x (by simpa using hx)
  refine (walk _ es W hC hE (pow_of hL)).mono fun e W' ⟨he, bel⟩ => ?_
  subst he
  exact ⟨_, rfl, _, _, _, [], p0 ++ [], [], hW', trodAll_mk1 (shut_bool Tryd.underlying4 _), trodAll_cons_mk (Below.trod (by kernel_rfl) (by kernel_rfl) (of_decide_eq_true (by kernel_rfl)) h0k bel hlt) trodAll_mk0, rfl, bel.frame _, fun h => by cases h⟩

noncomputable def low : Nat := (World.holding Tryd.prog default ⟨#[], #[], []⟩).heap.size
noncomputable def laidWorld (os : Os) : World :=
  let w0 := World.holding Tryd.prog os ⟨#[], #[], []⟩
  { w0 with heap := (((w0.heap.modify 1 fun
      | .cells _ t frozen => .cells #[.int .u64 1, .int .u64 10, .int .u64 100, .int .u64 1000, .int .u64 10000, .int .u64 100000, .int .u64 1000000, .int .u64 10000000, .int .u64 100000000, .int .u64 1000000000, .int .u64 10000000000, .int .u64 100000000000, .int .u64 1000000000000, .int .u64 10000000000000, .int .u64 100000000000000, .int .u64 1000000000000000, .int .u64 10000000000000000, .int .u64 100000000000000000, .int .u64 1000000000000000000, .int .u64 10000000000000000000] t frozen
      | o => o).modify 3 fun
      | .cells _ t frozen => .cells #[.int .u8 0, .int .u8 1, .int .u8 28, .int .u8 2, .int .u8 29, .int .u8 14, .int .u8 24, .int .u8 3, .int .u8 30, .int .u8 22, .int .u8 20, .int .u8 15, .int .u8 25, .int .u8 17, .int .u8 4, .int .u8 8, .int .u8 31, .int .u8 27, .int .u8 13, .int .u8 23, .int .u8 21, .int .u8 19, .int .u8 16, .int .u8 7, .int .u8 26, .int .u8 12, .int .u8 18, .int .u8 6, .int .u8 11, .int .u8 5, .int .u8 10, .int .u8 9] t frozen
      | o => o).modify 4 fun
      | .cells _ t frozen => .cells #[.int .u8 0, .int .u8 1, .int .u8 56, .int .u8 2, .int .u8 57, .int .u8 49, .int .u8 28, .int .u8 3, .int .u8 61, .int .u8 58, .int .u8 42, .int .u8 50, .int .u8 38, .int .u8 29, .int .u8 17, .int .u8 4, .int .u8 62, .int .u8 47, .int .u8 59, .int .u8 36, .int .u8 45, .int .u8 43, .int .u8 51, .int .u8 22, .int .u8 53, .int .u8 39, .int .u8 33, .int .u8 30, .int .u8 24, .int .u8 18, .int .u8 12, .int .u8 5, .int .u8 63, .int .u8 55, .int .u8 48, .int .u8 27, .int .u8 60, .int .u8 41, .int .u8 37, .int .u8 16, .int .u8 46, .int .u8 35, .int .u8 44, .int .u8 21, .int .u8 52, .int .u8 32, .int .u8 23, .int .u8 11, .int .u8 54, .int .u8 26, .int .u8 40, .int .u8 15, .int .u8 34, .int .u8 20, .int .u8 31, .int .u8 10, .int .u8 25, .int .u8 14, .int .u8 19, .int .u8 9, .int .u8 13, .int .u8 8, .int .u8 7, .int .u8 6] t frozen
      | o => o) }
theorem laid_met (os : Os) : laidMet Tryd.prog Rows.reportCrashesUptoRow.laid ((laidWorld os).forCall (fun _ _ => 0) ⟨#[], #[.slice none 0 0], []⟩).memory :=
  laidMet_of_run' 8 (by kernel_rfl) (by kernel_rfl)
theorem reads (os : Os) {H : Type} (enc : TypeId × Value → H) : ∃ places, DataW.whole enc Tryd.prog ((laidWorld os).forCall (fun _ _ => 0) ⟨#[], #[.slice none 0 0], []⟩).memory Tryd.f4.params.toList Rows.reportCrashesSpec.vars false #[Value.slice none 0 0].toList 8 = some ([.nil], [], places) :=
  ⟨[], by kernel_rfl⟩

set_option maxRecDepth 100000 in
theorem lifted (os : Os) (started : os.Started) (H : Type) (enc : TypeId × Value → H) (F : Stop.Interp) :
    ReturnsInHanded {} Tryd.checked os 4 .any ((Rows.OpenSpec.upto Rows.reportCrashesSpec).preRow enc Tryd.prog Tryd.f4 Rows.reportCrashesUptoRow.domain false Rows.reportCrashesUptoRow.laid) (((Rows.OpenSpec.upto Rows.reportCrashesSpec).at F).post enc Tryd.prog Tryd.f4 false true false false) := by
  obtain ⟨places, hx⟩ := reads os enc
  refine returnsInHanded_of_row (C := Tryd.checked) (s := Rows.OpenSpec.upto Rows.reportCrashesSpec) own started (by kernel_rfl) Tryd.func4
    (witness_row_at (enc := enc) (C := Tryd.checked) false (laidWorld os) #[.slice none 0 0] rfl (by kernel_rfl) (by kernel_rfl) (by kernel_rfl)
      (OpenSpec.preRow_of_cond 8 hx (by kernel_rfl) (fun k hk => by cases hk; kernel_rfl) (by kernel_rfl) (laid_met os))) ?_
  intro W base args ds gs before hval hW _ hcond hsz hL _ _
  exact contract H enc W base args ds gs before hval hW (hcond _ rfl) hL

theorem said : Rows.ReportCrashesUptoSaid :=
  OpenClaim.holds_of_cond 4 Tryd.f4 rfl rfl rfl rfl rfl rfl rfl ⟨rfl, rfl, rfl, rfl, rfl⟩ rfl rfl rfl rfl rfl (by kernel_rfl) Tryd.func4 (by kernel_rfl)
    (of_decide_eq_true (by kernel_rfl)) (by unfold Func.isWrapper; first | (rw [if_pos (by decide +kernel)]; kernel_rfl) | (rw [if_neg (by decide +kernel)]; exact ⟨rfl, rfl⟩))
    (fun os started H enc _ F => by rw [OpenClaim.pre_eq_preRow]; exact lifted os started H enc F)

theorem plain (f : FuncId) (fn : Func) (hf : Tryd.pinned.checked.prog.funcNamed "panicroad/panicroadlaw.ReportCrashes" = some f) (hfn : Tryd.pinned.checked.prog.funcs[f]? = some fn) :
    false = Tryd.pinned.checked.prog.looks [] ∧ ∀ (j : Nat) t, fn.params[j]? = some t → Tryd.pinned.checked.prog.wantsStandIn t = false := by
  obtain rfl : f = 4 := Option.some.inj ((show Tryd.prog.funcNamed "panicroad/panicroadlaw.ReportCrashes" = some 4 by kernel_rfl).symm.trans hf) |>.symm
  obtain rfl : fn = Tryd.f4 := (Option.some.inj (Tryd.func4.symm.trans hfn)).symm
  refine ⟨by kernel_rfl, fun j t ht => ?_⟩
  rw [Tryd.params4] at ht
  have hm := Array.mem_of_getElem? ht
  simp at hm
  subst hm
  exact (show Tryd.prog.wantsStandIn 28 = false by kernel_rfl)

theorem card : Rows.ReportCrashesUptoCardSaid :=
  Claim7.holds_tied_plain_at .later [] _ _ _ _ said (fun _ h => by cases h) (by kernel_rfl) (fun _ h => by cases h) reportCrashesUpto_row_tie rfl ⟨rfl, rfl⟩ (by kernel_rfl) rfl plain (by kernel_rfl)
#print axioms card
end Go.Proofs.YtncjaohiimenaaaDoor.reportCrashes
