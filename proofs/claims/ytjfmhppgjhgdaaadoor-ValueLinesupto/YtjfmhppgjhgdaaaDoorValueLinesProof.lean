/-
  For every list of values that comes in and is of bulk at most 1048576, value.Line answers exactly the line of P6.2: the law's function returns true; the library's tables hold at the start what the program's text lays (the card ties them).
-/
import Derived.Test.YtjfmhppgjhgdaaaDoorVrline
import Derived.Stop.LaidErr
import Derived.Test.YtjfmhppgjhgdaaaDoorVlcame
import Derived.JoinedCond
import Derived.Test.YtjfmhppgjhgdaaaDoorCards
import Derived.Test.YtjfmhppgjhgdaaaDoorTie
import Derived.Deep.DeepHandedRow
import Derived.Lib.LaidTab
import Derived.SizedLaws
import Derived.Deep.DeepWitnessRowRef
namespace Go.Proofs.YtjfmhppgjhgdaaaDoor.valueLines
open Go.ChangeShapes Go.WideShapes Go.ChangeAt Go.RowKit
open Go.WideMaps Go.WideElems
open Go.ChangeMaps (open_string shut_string)
set_option linter.unusedVariables false
set_option maxRecDepth 100000

theorem own : ownKnob Tryd.prog.godebug = none := by kernel_rfl

theorem pow_tab : Lib.pow10Tab = [1, 10, 100, 1000, 10000, 100000, 1000000, 10000000, 100000000, 1000000000, 10000000000, 100000000000, 1000000000000, 10000000000000, 100000000000000, 1000000000000000, 10000000000000000, 100000000000000000, 1000000000000000000, 10000000000000000000] := by decide
theorem pow_of {W : World} (h : laidMetH Tryd.prog Rows.valueLinesRow.laid W) : Pow W := by
  have h0 : laidMet Tryd.prog Rows.valueLinesRow.laid W := h
  unfold Pow
  rw [pow_tab]
  exact Lib.tabIs_of_head Tryd.gPow (by kernel_rfl) Tryd.underlying72 Tryd.underlying62 (by kernel_rfl) (by kernel_rfl) h0.tail.tail

set_option maxHeartbeats 8000000 in
theorem walk (v0 : Value) (es : List Ve) (w : World) (hC : VsLies w v0 es) (hE : EsIn w es) (hp : Pow w) :
    Calls Tryd.prog 4 #[v0] w fun e w' => e = .returned (.bool true) ∧ Below w.heap.size w w' := by
  obtain ⟨lo, lc, rfl⟩ := hC.shape
  have hsz := hE.size
  have HX : Hid (∀ k (h1 : k < es.length), ∃ b1 o1, lo = some ⟨b1, o1, none⟩ ∧ ∀ u, Below w.heap.size w u → u.cell? ⟨b1, o1 + k * 4, none⟩ = some (.int .i64 es[k].x.kind) ∧ u.cell? ⟨b1, o1 + k * 4 + 1, none⟩ = some (.int .i64 es[k].x.n) ∧ u.cell? ⟨b1, o1 + k * 4 + 2, none⟩ = some (.string es[k].x.s) ∧ u.cell? ⟨b1, o1 + k * 4 + 3, none⟩ = some es[k].L) := fun k h1 => by
    obtain ⟨b1, o1, c1, e1, x0, x1, x2, x3⟩ := hC.at h1
    cases e1
    exact ⟨b1, o1, rfl, fun u hb => ⟨by rw [hb.cell (World.block_lt_of_cell? _ _ x0)]; exact x0, by rw [hb.cell (World.block_lt_of_cell? _ _ x1)]; exact x1, by rw [hb.cell (World.block_lt_of_cell? _ _ x2)]; exact x2, by rw [hb.cell (World.block_lt_of_cell? _ _ x3)]; exact x3⟩⟩
  have HO : Hid (∀ k (h1 : k < es.length) u, Below w.heap.size w u → Calls Tryd.prog 6 #[.agg #[.int .i64 es[k].x.kind, .int .i64 es[k].x.n, .string es[k].x.s, es[k].L]] u fun e w' => ∃ L', e = .returned (vval es[k].x L') ∧ ILies w' L' es[k].x.l ∧ Fresh u.heap.size L' ∧ Below u.heap.size u w') := fun k h1 u hb => by
    obtain ⟨a1, a2, a3, a4⟩ := hE.each es[k] (List.getElem_mem h1)
    exact own_own2 es[k].x es[k].L u a1 (a2.below hb (Nat.le_refl _))
  have HSL : Hid (∀ k (h1 : k < es.length), ∃ ao cap, es[k].L = .slice ao es[k].x.l.length cap) := fun k h1 => (hE.each es[k] (List.getElem_mem h1)).2.1.shape
  have HDN : Hid (∀ v ms u, Bld w.heap.size es es.length v ms u → VsLies u v ms ∧ EsIn u ms ∧ lineB ms = lineB es) := fun v ms u h => h.done hE
  have HLN : Hid (∀ v ms u, VsLies u v ms → EsIn u ms → Below w.heap.size w u → Calls Tryd.prog 8 #[v] u fun e w' => e = .returned (.string (lineB ms)) ∧ Below u.heap.size u w') := fun v ms u h1 h2 hb => own_line v ms u h1 h2 (hp.below hb)
  have HRL : Hid (∀ u, Below w.heap.size w u → Calls Tryd.prog 9 #[.slice lo es.length lc] u fun e w' => e = .returned (.string (lineB es)) ∧ Below u.heap.size u w') := fun u hb => ref_line _ es u (hC.below hb (Nat.le_refl _)) (hE.below hb (Nat.le_refl _))
  obtain ⟨i0, hi, hz0, hz1, hz2⟩ := info_parts Tryd.infoValV
  clear hC hE hp
  go_enter Tryd.func4, Tryd.ntmps4
  go_wp2_with fail
  go_loopw [3, 4] (fun mv i wr => ∃ (k : Nat) (ms : List Ve), k ≤ es.length ∧ i = .int .i64 k ∧ Hid (Bld w.heap.size es k mv ms wr) ∧ Hid (Below w.heap.size w wr)) (fun _ i _ => es.length - (intOf i).toNat)
  case atStart => exact ⟨0, [], Nat.zero_le _, rfl, ⟨rfl, rfl, World.ownsRow_nil _ _ _ _, (fun e h => by cases h)⟩, Below.refl _ _⟩
  case round =>
    obtain ⟨k, ms, hk, rfl, HBL, HB⟩ := hrel
    obtain ⟨mo, mc, hmv⟩ := row_slice HBL.out.row
    subst hmv
    by_cases hlt : k < es.length
    · obtain ⟨b1, o1, rfl, hx⟩ := HX.out k hlt
      obtain ⟨x0, x1, x2, x3⟩ := hx wr HB.out
      have HOK : Hid _ := HO.out k hlt wr HB.out
      have hlt2 : (k : Int) < (es.length : Int) := by omega
      obtain ⟨eo, ec, hes⟩ := HSL.out k hlt
      rw [hes] at x3 HOK
      clear hx hes
      go_wp2_with fail
      refine Calls.mono HOK.out ?_
      rintro e w1 ⟨L', rfl, l1, fr, hb1⟩
      obtain ⟨po, pc, rfl⟩ := l1.shape
      have HBL1 : Hid (Bld w.heap.size es k (.slice mo k mc) ms (w1.alloc (.cells #[.int .i64 es[k].x.kind, .int .i64 es[k].x.n, .string es[k].x.s, .slice po es[k].x.l.length pc] 24))) := (HBL.out.below hb1).below show_below
      have HB1 : Hid (Below w.heap.size w w1) := HB.out.trans (hb1.mono HB.out.size)
      have HL1 : Hid (ILies (w1.alloc (.cells #[.int .i64 es[k].x.kind, .int .i64 es[k].x.n, .string es[k].x.s, .slice po es[k].x.l.length pc] 24)) (.slice po es[k].x.l.length pc) es[k].x.l) := l1.below show_below (Nat.le_refl _)
      have HAP : Hid (es[k].x.l ≠ [] → ∀ a n c, Value.slice po es[k].x.l.length pc = .slice (some a) n c → (Value.slice mo k mc).ownBlock ≠ some a.block) := fun _ a n c h1 h2 => by
        have h3 := fr a n c h1
        have h4 := HBL.out.row.lt _ h2
        omega
      have HSZ : Hid (w.heap.size ≤ w1.heap.size) := HB1.out.size
      clear hb1 fr l1 HOK
      unfold vval
      go_wp2_with (at_builtin; refine wpList_append_own_at _ rfl _ _ 28 rfl w.heap.size 24 i0 _ 4 56 Tryd.underlying28 hi hz0 hz1 hz2 rfl (by decide) _ _ _ rfl HBL1.out.row ⟨w1.heap.size, 0, none⟩ 1 1 (Ve.cells ⟨es[k].x, .slice po es[k].x.l.length pc⟩) rfl rfl cells_new cells_one (by unfold maxLen; omega) (by omega) (by have := HSZ.out; simp; omega) ?_; intro v' w3 hown hgrow hnil hat; obtain ⟨qo, qc, rfl⟩ := row_slice hown; have HBL3 : Hid _ := HBL1.out.push hlt hown hgrow hat HL1.out HAP.out; have HB3 : Hid (Below w.heap.size w w3) := ((HB1.out.alloc HSZ.out _).grown hgrow (by have := HSZ.out; simp; omega) (fun q hq => (HBL1.out.row.lt q hq).1)); clear hown hgrow hnil hat)
      go_roundw
      case rel => exact ⟨k + 1, ms ++ [(⟨es[k].x, .slice po es[k].x.l.length pc⟩ : Ve)], by omega, by go_num, HBL3.out, HB3.out⟩
      case measure => simp [intOf]; omega
    · have hkn : k = es.length := by omega
      subst hkn
      have hlt2 : ¬ (es.length : Int) < (es.length : Int) := by omega
      obtain ⟨hv2, he2, hl2⟩ := HDN.out _ _ _ HBL.out
      have HV2 : Hid _ := hv2
      have HE2 : Hid _ := he2
      have HL2 : Hid _ := hl2
      clear hv2 he2 hl2
      go_wp2_with fail
      refine (HLN.out _ ms _ HV2.out HE2.out HB.out).mono ?_
      rintro e u1 ⟨rfl, hb1⟩
      have HB1 : Hid (Below w.heap.size w u1) := HB.out.trans (hb1.mono HB.out.size)
      clear hb1
      go_wp2_with fail
      refine (HRL.out _ HB1.out).mono ?_
      rintro e u2 ⟨rfl, hb2⟩
      have HB2 : Hid (Below w.heap.size w u2) := HB1.out.trans (hb2.mono HB1.out.size)
      clear hb2
      have hq : ((lineB ms).toList == (lineB es).toList) = true := by rw [HL2.out]; simp
      go_wp2_with fail
      go_ret
      exact ⟨rfl, HB2.out⟩

theorem contract (H : Type) (enc : TypeId × Value → H) (W : World) (base : Nat) (args : Array Value) (ds gs : List (DataW H)) (before : List MemPlace)
    (hval : ∀ (j : Nat) t v, Tryd.f4.params[j]? = some t → args[j]? = some v → Value.okWide Tryd.prog W .any base t v)
    (hW : DataW.Whole enc Tryd.prog Tryd.f4.params.toList Rows.valueLinesSpec.vars false W args.toList ds gs before)
    (hk : Rows.uptoSmall H (ds ++ gs) = true) (hL : laidMetH Tryd.prog Rows.valueLinesRow.laid W) :
    Calls Tryd.prog 4 args W fun e W' => ∃ v, e = .returned v ∧ Rows.valueLinesSpec.post enc Tryd.prog Tryd.f4 false true false false W args v W' := by
  have hW' := hW
  obtain ⟨p, q, hA0, hV, rfl, hfz, hnd⟩ := hW
  have hA : DataW.TrodAll enc Tryd.prog W 0 (fun _ => true) true Tryd.f4.params.toList args.toList ds p := hA0
  rw [Tryd.params4] at hA hval
  obtain ⟨v0, vs0, d0, ds0, p0, q0, hargs, rfl, rfl, h0, r0⟩ := trodAll_cons hA
  obtain ⟨rfl, rfl, rfl⟩ := trodAll_nil r0
  obtain rfl : args = #[v0] := by cases args; simp_all
  obtain ⟨rfl, rfl⟩ := trodVars_none hV
  obtain ⟨ao, len, cap, rfl⟩ := okWide_slice Tryd.underlying28 (hval 0 28 v0 rfl rfl)
  have h0k := h0
  obtain ⟨fuel0, hf0⟩ := h0
  obtain ⟨es, hC, hE⟩ := vs_came hf0 (small_part hk (by simp))
  clear hA0
  simp only [List.append_nil] at hW'
  have hlt : ∀ x ∈ p0, x.block < W.heap.size := fun x hx => hW'.lt x (by simpa using hx)
  refine (walk _ es W hC hE (pow_of hL)).mono fun e W' ⟨he, bel⟩ => ?_
  subst he
  exact ⟨_, rfl, _, _, _, [], p0 ++ [], [], hW', trodAll_mk1 (shut_bool Tryd.underlying4 _), trodAll_cons_mk (Below.trod (by kernel_rfl) (by kernel_rfl) (of_decide_eq_true (by kernel_rfl)) h0k bel hlt) trodAll_mk0, rfl, bel.frame _, fun h => by cases h⟩

noncomputable def low : Nat := (World.holding Tryd.prog default ⟨#[], #[], []⟩).heap.size
noncomputable def laidWorld (os : Os) : World :=
  let w0 := World.holding Tryd.prog os ⟨#[], #[], []⟩
  { w0 with heap := (((w0.heap.modify 1 fun
      | .cells _ t frozen => .cells #[.int .u64 1, .int .u64 10, .int .u64 100, .int .u64 1000, .int .u64 10000, .int .u64 100000, .int .u64 1000000, .int .u64 10000000, .int .u64 100000000, .int .u64 1000000000, .int .u64 10000000000, .int .u64 100000000000, .int .u64 1000000000000, .int .u64 10000000000000, .int .u64 100000000000000, .int .u64 1000000000000000, .int .u64 10000000000000000, .int .u64 100000000000000000, .int .u64 1000000000000000000, .int .u64 10000000000000000000] t frozen
      | o => o).modify 2 fun
      | .cells _ t frozen => .cells #[.int .u8 0, .int .u8 1, .int .u8 28, .int .u8 2, .int .u8 29, .int .u8 14, .int .u8 24, .int .u8 3, .int .u8 30, .int .u8 22, .int .u8 20, .int .u8 15, .int .u8 25, .int .u8 17, .int .u8 4, .int .u8 8, .int .u8 31, .int .u8 27, .int .u8 13, .int .u8 23, .int .u8 21, .int .u8 19, .int .u8 16, .int .u8 7, .int .u8 26, .int .u8 12, .int .u8 18, .int .u8 6, .int .u8 11, .int .u8 5, .int .u8 10, .int .u8 9] t frozen
      | o => o).modify 3 fun
      | .cells _ t frozen => .cells #[.int .u8 0, .int .u8 1, .int .u8 56, .int .u8 2, .int .u8 57, .int .u8 49, .int .u8 28, .int .u8 3, .int .u8 61, .int .u8 58, .int .u8 42, .int .u8 50, .int .u8 38, .int .u8 29, .int .u8 17, .int .u8 4, .int .u8 62, .int .u8 47, .int .u8 59, .int .u8 36, .int .u8 45, .int .u8 43, .int .u8 51, .int .u8 22, .int .u8 53, .int .u8 39, .int .u8 33, .int .u8 30, .int .u8 24, .int .u8 18, .int .u8 12, .int .u8 5, .int .u8 63, .int .u8 55, .int .u8 48, .int .u8 27, .int .u8 60, .int .u8 41, .int .u8 37, .int .u8 16, .int .u8 46, .int .u8 35, .int .u8 44, .int .u8 21, .int .u8 52, .int .u8 32, .int .u8 23, .int .u8 11, .int .u8 54, .int .u8 26, .int .u8 40, .int .u8 15, .int .u8 34, .int .u8 20, .int .u8 31, .int .u8 10, .int .u8 25, .int .u8 14, .int .u8 19, .int .u8 9, .int .u8 13, .int .u8 8, .int .u8 7, .int .u8 6] t frozen
      | o => o) }
theorem laid_met (os : Os) : laidMet Tryd.prog Rows.valueLinesUptoRow.laid ((laidWorld os).forCall (fun _ _ => 0) ⟨#[], #[.slice none 0 0], []⟩).memory :=
  laidMet_of_run' 8 (by kernel_rfl) (by kernel_rfl)
theorem reads (os : Os) {H : Type} (enc : TypeId × Value → H) : ∃ places, DataW.whole enc Tryd.prog ((laidWorld os).forCall (fun _ _ => 0) ⟨#[], #[.slice none 0 0], []⟩).memory Tryd.f4.params.toList Rows.valueLinesSpec.vars false #[Value.slice none 0 0].toList 8 = some ([.nil], [], places) :=
  ⟨[], by kernel_rfl⟩

set_option maxRecDepth 100000 in
theorem lifted (os : Os) (started : os.Started) (H : Type) (enc : TypeId × Value → H) (F : Stop.Interp) :
    ReturnsInHanded {} Tryd.checked os 4 .any ((Rows.OpenSpec.upto Rows.valueLinesSpec).preRow enc Tryd.prog Tryd.f4 Rows.valueLinesUptoRow.domain false Rows.valueLinesUptoRow.laid) (((Rows.OpenSpec.upto Rows.valueLinesSpec).at F).post enc Tryd.prog Tryd.f4 false true false false) := by
  obtain ⟨places, hx⟩ := reads os enc
  refine returnsInHanded_of_row (C := Tryd.checked) (s := Rows.OpenSpec.upto Rows.valueLinesSpec) own started (by kernel_rfl) Tryd.func4
    (witness_row_at (enc := enc) (C := Tryd.checked) false (laidWorld os) #[.slice none 0 0] rfl (by kernel_rfl) (by kernel_rfl) (by kernel_rfl)
      (OpenSpec.preRow_of_cond 8 hx (by kernel_rfl) (fun k hk => by cases hk; kernel_rfl) (by kernel_rfl) (laid_met os))) ?_
  intro W base args ds gs before hval hW _ hcond hsz hL _ _
  exact contract H enc W base args ds gs before hval hW (hcond _ rfl) hL

theorem said : Rows.ValueLinesUptoSaid :=
  OpenClaim.holds_of_cond 4 Tryd.f4 rfl rfl rfl rfl rfl rfl rfl ⟨rfl, rfl, rfl, rfl, rfl⟩ rfl rfl rfl rfl rfl (by kernel_rfl) Tryd.func4 (by kernel_rfl)
    (of_decide_eq_true (by kernel_rfl)) (by unfold Func.isWrapper; first | (rw [if_pos (by decide +kernel)]; kernel_rfl) | (rw [if_neg (by decide +kernel)]; exact ⟨rfl, rfl⟩))
    (fun os started H enc _ F => by rw [OpenClaim.pre_eq_preRow]; exact lifted os started H enc F)

theorem plain (f : FuncId) (fn : Func) (hf : Tryd.pinned.checked.prog.funcNamed "panicroad/panicroadlaw.ValueLines" = some f) (hfn : Tryd.pinned.checked.prog.funcs[f]? = some fn) :
    false = Tryd.pinned.checked.prog.looks [] ∧ ∀ (j : Nat) t, fn.params[j]? = some t → Tryd.pinned.checked.prog.wantsStandIn t = false := by
  obtain rfl : f = 4 := Option.some.inj ((show Tryd.prog.funcNamed "panicroad/panicroadlaw.ValueLines" = some 4 by kernel_rfl).symm.trans hf) |>.symm
  obtain rfl : fn = Tryd.f4 := (Option.some.inj (Tryd.func4.symm.trans hfn)).symm
  refine ⟨by kernel_rfl, fun j t ht => ?_⟩
  rw [Tryd.params4] at ht
  have hm := Array.mem_of_getElem? ht
  simp at hm
  subst hm
  exact (show Tryd.prog.wantsStandIn 28 = false by kernel_rfl)

theorem card : Rows.ValueLinesUptoCardSaid :=
  Claim7.holds_tied_plain_at .later [] _ _ _ _ said (fun _ h => by cases h) (by kernel_rfl) (fun _ h => by cases h) valueLinesUpto_row_tie rfl ⟨rfl, rfl⟩ (by kernel_rfl) rfl plain (by kernel_rfl)
#print axioms card
end Go.Proofs.YtjfmhppgjhgdaaaDoor.valueLines
