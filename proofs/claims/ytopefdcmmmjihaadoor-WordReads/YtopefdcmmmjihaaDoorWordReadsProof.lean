/-
  WordReads returns true for every text, and the argument reads afterwards as before; the library's tables and errors hold at the start what the program's text lays (the card ties them).
-/
import Derived.Test.YtopefdcmmmjihaaDoorBig6
import Derived.Test.YtopefdcmmmjihaaDoorBigss
import Derived.Test.YtopefdcmmmjihaaDoorBigbits
import Derived.ProofKit
import Derived.OpenShut
import Derived.Test.YtopefdcmmmjihaaDoorCards
import Derived.Test.YtopefdcmmmjihaaDoorTie
import Derived.Deep.DeepHandedRow
import Derived.Lib.LaidTab
import Derived.SizedLaws
import Derived.Deep.DeepWitnessRowRef
namespace Go.Proofs.YtopefdcmmmjihaaDoor.wordReads
open Go.ChangeShapes Go.WideShapes Go.ChangeAt Go.RowKit
open Go.WideMaps Go.WideElems
open Go.ChangeMaps (open_string shut_string)
set_option linter.unusedVariables false

theorem own : ownKnob Tryd.prog.godebug = none := by kernel_rfl

theorem below_of_grown {w w1 w2 : World} (h1 : Below w.heap.size w w1) (h2 : w1.grownBy w2 (some w.heap.size)) : Below w.heap.size w w2 := below_grown h1 h2 (Nat.le_refl _)
set_option maxHeartbeats 800000 in
theorem ref_read (s : ByteArray) (hs : s.size ≤ 140737488355328) (w : World) :
    Calls Tryd.prog 9 #[.string s] w fun e w' => e = .returned (.tuple #[.int .i64 (rdN s), .int .i64 (rdE s)]) ∧ Below w.heap.size w w' := by
  by_cases h20 : 20 < s.size
  · obtain ⟨e1, e2⟩ := rd_no (s := s) (fun v b1 b2 e => by
      have h1 := itoa_len v b1 b2
      rw [e, size_list] at h1
      omega)
    rw [e1, e2]
    have hlt : (20 : Int) < (s.size : Int) := by omega
    clear e1 e2
    go_enter Tryd.func9, Tryd.ntmps9
    go_wp2
    go_ret2
    exact ⟨rfl, Below.refl _ _⟩
  have h20' : s.size ≤ 20 := by omega
  have hle : (s.size : Int) ≤ 20 := by omega
  have HSS : Hid (∀ W, Calls Tryd.prog 16 #[.pointer (some ⟨w.heap.size, 0, none⟩), .string s, .int .i64 10] (w.alloc (.cells #[.bool false, .slice none 0 0] 40)) fun e w' => SsPost (w.alloc (.cells #[.bool false, .slice none 0 0] 40)) w.heap.size (Lib.atoi s.data.toList) e w') := fun _ : Unit => setString_any s h20' w.heap.size false _ _ (int_new w)
  have b0 : Below w.heap.size w (w.alloc (.cells #[.bool false, .slice none 0 0] 40)) := (Below.refl _ _).alloc (Nat.le_refl _) _
  cases ha : Lib.atoi s.data.toList with
  | none =>
    obtain ⟨e1, e2⟩ := rd_no (s := s) (fun v b1 b2 e => by
      have h1 := atoi_of_itoa v
      rw [e, ha] at h1
      cases h1)
    rw [e1, e2]
    rw [ha] at HSS
    clear e1 e2 ha
    go_enter Tryd.func9, Tryd.ntmps9
    go_wp2_with fail
    refine (HSS.out ()).mono ?_
    rintro e w1 ⟨-, p2, p3⟩
    obtain rfl := p2 rfl
    go_wp2
    go_ret2
    exact ⟨rfl, below_of_grown b0 p3⟩
  | some z =>
    have hsmall : -(10 ^ 40 : Int) < z ∧ z < 10 ^ 40 := by
      obtain ⟨c, r, hl, hcase⟩ := Lib.atoi_cases ha
      have hlen := congrArg List.length hl
      rw [size_list] at hlen
      simp at hlen
      have key : ∀ (l : List UInt8) (m : Nat), Lib.decFrom 0 l = some m → l.length ≤ 20 → m < 100000000000000000000 := fun l m h1 h2 =>
        decFrom_small (l := l) (k := l.length) (by rw [List.take_of_length_le (Nat.le_refl _)]; exact h1) h2
      rcases hcase with ⟨_, m, _, h1, h2⟩ | ⟨_, m, _, h1, h2⟩ | ⟨_, _, m, h1, h2⟩
      · have := key _ _ h1 (by omega); omega
      · have := key _ _ h1 (by omega); omega
      · have := key _ _ h1 (by simp; omega); omega
    have HSM : Hid (-(10 ^ 40 : Int) < z ∧ z < 10 ^ 40) := hsmall
    rw [ha] at HSS
    by_cases heq : Lib.itoa z = s.data.toList
    · have hq : (Lib.itoa z == s.toList) = true := by
        rw [heq, ByteArray.toList_eq]; simp
      by_cases hfit : -9223372036854775808 ≤ z ∧ z ≤ 9223372036854775807
      · obtain ⟨e1, e2⟩ := rd_yes hfit.1 hfit.2 heq
        rw [e1, e2]
        have hf : fitB z = true := by unfold fitB; exact decide_eq_true hfit
        have HFIT : Hid (-9223372036854775808 ≤ z ∧ z ≤ 9223372036854775807) := hfit
        clear e1 e2 ha hsmall heq hfit
        go_enter Tryd.func9, Tryd.ntmps9
        go_wp2_with fail
        refine (HSS.out ()).mono ?_
        rintro e w1 ⟨p1, -, p3⟩
        obtain ⟨rfl, hbig⟩ := p1 z rfl
        have HB1 : Hid (Big w1 w.heap.size z) := hbig
        have b1 := below_of_grown b0 p3
        clear hbig p1 p3
        go_wp2_with fail
        refine (string_any _ z w1 HB1.out HSM.out.1 HSM.out.2).mono ?_
        rintro e w2 ⟨rfl, b2⟩
        have HB2 : Hid (Big w2 w.heap.size z) := HB1.out.below b2
        go_wp2_with fail
        refine (isInt64_any _ z w2 HB2.out HSM.out.1 HSM.out.2).mono ?_
        rintro e w3 ⟨rfl, rfl⟩
        go_wp2_with fail
        refine (int64_any _ z _ HB2.out HFIT.out.1 HFIT.out.2).mono ?_
        rintro e w4 ⟨rfl, rfl⟩
        go_wp2
        go_ret2
        exact ⟨rfl, below_trans b1 b2⟩
      · obtain ⟨e1, e2⟩ := rd_no (s := s) (fun v b1 b2 e => by
          have h1 := atoi_of_itoa v
          rw [e, ha] at h1
          cases h1
          exact hfit ⟨b1, b2⟩)
        rw [e1, e2]
        have hf : fitB z = false := by unfold fitB; exact decide_eq_false hfit
        clear e1 e2 ha hsmall heq hfit
        go_enter Tryd.func9, Tryd.ntmps9
        go_wp2_with fail
        refine (HSS.out ()).mono ?_
        rintro e w1 ⟨p1, -, p3⟩
        obtain ⟨rfl, hbig⟩ := p1 z rfl
        have HB1 : Hid (Big w1 w.heap.size z) := hbig
        have b1 := below_of_grown b0 p3
        clear hbig p1 p3
        go_wp2_with fail
        refine (string_any _ z w1 HB1.out HSM.out.1 HSM.out.2).mono ?_
        rintro e w2 ⟨rfl, b2⟩
        have HB2 : Hid (Big w2 w.heap.size z) := HB1.out.below b2
        go_wp2_with fail
        refine (isInt64_any _ z w2 HB2.out HSM.out.1 HSM.out.2).mono ?_
        rintro e w3 ⟨rfl, rfl⟩
        go_wp2
        go_ret2
        exact ⟨rfl, below_trans b1 b2⟩
    · have hq : (Lib.itoa z == s.toList) = false := by
        rw [ByteArray.toList_eq, beq_eq_false_iff_ne]; exact heq
      obtain ⟨e1, e2⟩ := rd_no (s := s) (fun v b1 b2 e => by
        have h1 := atoi_of_itoa v
        rw [e, ha] at h1
        cases h1
        exact heq e)
      rw [e1, e2]
      clear e1 e2 ha hsmall heq
      go_enter Tryd.func9, Tryd.ntmps9
      go_wp2_with fail
      refine (HSS.out ()).mono ?_
      rintro e w1 ⟨p1, -, p3⟩
      obtain ⟨rfl, hbig⟩ := p1 z rfl
      have HB1 : Hid (Big w1 w.heap.size z) := hbig
      have b1 := below_of_grown b0 p3
      clear hbig p1 p3
      go_wp2_with fail
      refine (string_any _ z w1 HB1.out HSM.out.1 HSM.out.2).mono ?_
      rintro e w2 ⟨rfl, b2⟩
      go_wp2
      go_ret2
      exact ⟨rfl, below_trans b1 b2⟩
theorem pow_tab : Lib.pow10Tab = [1, 10, 100, 1000, 10000, 100000, 1000000, 10000000, 100000000, 1000000000, 10000000000, 100000000000, 1000000000000, 10000000000000, 100000000000000, 1000000000000000, 10000000000000000, 100000000000000000, 1000000000000000000, 10000000000000000000] := by decide
theorem pow_of {W : World} (h : laidMetH Tryd.prog Rows.wordReadsRow.laid W) : Pow W := by
  have h0 : laidMet Tryd.prog Rows.wordReadsRow.laid W := h
  unfold Pow
  rw [pow_tab]
  exact Lib.tabIs_of_head Tryd.gPow (by kernel_rfl) Tryd.underlying83 Tryd.underlying51 (by kernel_rfl) (by kernel_rfl) h0.tail.tail
theorem star : "*" ++ "errors.errorString" = "*errors.errorString" := by decide
theorem row_tp (u : TypeId) (h : Tryd.prog.typeName? 3 u = some "*errors.errorString") : u = 88 :=
  typeName_ptr_named (nm := "errors.errorString") (by rw [star]; kernel_rfl) (by kernel_rfl) (by decide) u (by rw [star]; exact h)
theorem lib_of {W : World} (h : laidMetH Tryd.prog Rows.wordReadsRow.laid W) : Lib3 W := by
  have h0 : laidMet Tryd.prog Rows.wordReadsRow.laid W := h
  refine ⟨pow_of h, ?_, ?_⟩
  · obtain ⟨a0, s0, hv0, -, -, -⟩ := laid_sentinel h0.tail.tail.tail.tail Tryd.gSyn (by kernel_rfl) Tryd.underlying34 row_tp Tryd.underlying88 Tryd.underlying90 rfl rfl Tryd.underlying9 (by kernel_rfl) (by kernel_rfl)
    exact ⟨_, _, hv0⟩
  · obtain ⟨a0, s0, hv0, -, -, -⟩ := laid_sentinel h0.tail.tail.tail Tryd.gRng (by kernel_rfl) Tryd.underlying34 row_tp Tryd.underlying88 Tryd.underlying90 rfl rfl Tryd.underlying9 (by kernel_rfl) (by kernel_rfl)
    exact ⟨_, _, hv0⟩

theorem walk (a0 : ByteArray) (w0 : a0.size ≤ maxLen) (z0 : a0.size ≤ 140737488355328) (w : World) (hl : Lib3 w) :
    Calls Tryd.prog 4 #[.string a0] w fun e w' => e = .returned (.bool true) ∧ Below w.heap.size w w' := by
  have HL : Hid (Lib3 w) := hl
  have HZ : Hid (a0.size ≤ 140737488355328) := z0
  clear w0 hl z0
  go_enter Tryd.func4, Tryd.ntmps4
  go_wp2_with fail
  refine (read_any a0 (by have := HZ.out; omega) w HL.out).mono ?_
  rintro e w1 ⟨rfl, hb⟩
  go_wp2_with fail
  refine (ref_read a0 HZ.out w1).mono ?_
  rintro e w2 ⟨rfl, hb2⟩
  go_wp2
  go_ret
  exact ⟨rfl, below_trans hb hb2⟩

theorem contract (H : Type) (enc : TypeId × Value → H) (W : World) (base : Nat) (args : Array Value) (ds gs : List (DataW H)) (before : List MemPlace)
    (hval : ∀ (j : Nat) t v, Tryd.f4.params[j]? = some t → args[j]? = some v → Value.okWide Tryd.prog W .any base t v)
    (hW : DataW.Whole enc Tryd.prog Tryd.f4.params.toList Rows.wordReadsSpec.vars false W args.toList ds gs before) (hsz : (DataW.weightsEach Tryd.prog (Tryd.f4.params.toList ++ (OpenSpec.ofChange Rows.wordReadsSpec).bare.plain.varTypes Tryd.prog) (ds ++ gs)).all (· ≤ reachBytes) = true) (hL : laidMetH Tryd.prog Rows.wordReadsRow.laid W) :
    Calls Tryd.prog 4 args W fun e W' => ∃ v, e = .returned v ∧ Rows.wordReadsSpec.post enc Tryd.prog Tryd.f4 false true false false W args v W' := by
  have hW' := hW
  obtain ⟨p, q, hA0, hV, rfl, hfz, hnd⟩ := hW
  have hA : DataW.TrodAll enc Tryd.prog W 0 (fun _ => true) true Tryd.f4.params.toList args.toList ds p := hA0
  rw [Tryd.params4] at hA hval hsz
  obtain ⟨v0, vs0, d0, ds0, p0, q0, hargs, rfl, rfl, h0, r0⟩ := trodAll_cons hA
  obtain ⟨rfl, rfl, rfl⟩ := trodAll_nil r0
  obtain rfl : args = #[v0] := by cases args; simp_all
  obtain ⟨rfl, rfl⟩ := trodVars_none hV
  obtain ⟨a0, rfl, rfl, rfl, w0⟩ := open_string Tryd.underlying9 (hval 0 9 v0 rfl rfl) h0
  have z0 : a0.size ≤ 140737488355328 := by
    have h1 := sized_string hsz (j := 0) (t := 9) rfl rfl
    have h2 := reachBytes_lt
    have e1 : a0.size = a0.data.size := rfl
    have e2 : a0.data.toList.length = a0.data.size := Array.length_toList
    have e3 : (2 : Nat) ^ 47 = 140737488355328 := by decide
    omega
  clear hA0
  simp only [List.append_nil] at hW'
  refine (walk a0 w0 z0 W (lib_of hL)).mono fun e W' ⟨he, bel⟩ => ?_
  subst he
  exact ⟨_, rfl, _, _, _, [], [], [], hW', trodAll_mk1 (shut_bool Tryd.underlying4 _), (trodAll_cons_mk (shut_string Tryd.underlying9 w0) trodAll_mk0), rfl, bel.frame _, fun h => by cases h⟩

noncomputable def low : Nat := (World.holding Tryd.prog default ⟨#[], #[], []⟩).heap.size
noncomputable def laidWorld (os : Os) : World :=
  let w0 := World.holding Tryd.prog os ⟨#[.cells #[.string ⟨#[118, 97, 108, 117, 101, 32, 111, 117, 116, 32, 111, 102, 32, 114, 97, 110, 103, 101]⟩] 90, .cells #[.string ⟨#[105, 110, 118, 97, 108, 105, 100, 32, 115, 121, 110, 116, 97, 120]⟩] 90], #[], []⟩
  { w0 with heap := (((((w0.heap.modify 3 fun
      | .cells _ t frozen => .cells #[.int .u64 1, .int .u64 10, .int .u64 100, .int .u64 1000, .int .u64 10000, .int .u64 100000, .int .u64 1000000, .int .u64 10000000, .int .u64 100000000, .int .u64 1000000000, .int .u64 10000000000, .int .u64 100000000000, .int .u64 1000000000000, .int .u64 10000000000000, .int .u64 100000000000000, .int .u64 1000000000000000, .int .u64 10000000000000000, .int .u64 100000000000000000, .int .u64 1000000000000000000, .int .u64 10000000000000000000] t frozen
      | o => o).modify 4 fun
      | .cells _ t frozen => .cells #[.int .u8 0, .int .u8 1, .int .u8 28, .int .u8 2, .int .u8 29, .int .u8 14, .int .u8 24, .int .u8 3, .int .u8 30, .int .u8 22, .int .u8 20, .int .u8 15, .int .u8 25, .int .u8 17, .int .u8 4, .int .u8 8, .int .u8 31, .int .u8 27, .int .u8 13, .int .u8 23, .int .u8 21, .int .u8 19, .int .u8 16, .int .u8 7, .int .u8 26, .int .u8 12, .int .u8 18, .int .u8 6, .int .u8 11, .int .u8 5, .int .u8 10, .int .u8 9] t frozen
      | o => o).modify 5 fun
      | .cells _ t frozen => .cells #[.int .u8 0, .int .u8 1, .int .u8 56, .int .u8 2, .int .u8 57, .int .u8 49, .int .u8 28, .int .u8 3, .int .u8 61, .int .u8 58, .int .u8 42, .int .u8 50, .int .u8 38, .int .u8 29, .int .u8 17, .int .u8 4, .int .u8 62, .int .u8 47, .int .u8 59, .int .u8 36, .int .u8 45, .int .u8 43, .int .u8 51, .int .u8 22, .int .u8 53, .int .u8 39, .int .u8 33, .int .u8 30, .int .u8 24, .int .u8 18, .int .u8 12, .int .u8 5, .int .u8 63, .int .u8 55, .int .u8 48, .int .u8 27, .int .u8 60, .int .u8 41, .int .u8 37, .int .u8 16, .int .u8 46, .int .u8 35, .int .u8 44, .int .u8 21, .int .u8 52, .int .u8 32, .int .u8 23, .int .u8 11, .int .u8 54, .int .u8 26, .int .u8 40, .int .u8 15, .int .u8 34, .int .u8 20, .int .u8 31, .int .u8 10, .int .u8 25, .int .u8 14, .int .u8 19, .int .u8 9, .int .u8 13, .int .u8 8, .int .u8 7, .int .u8 6] t frozen
      | o => o).modify 2 fun
      | .cells _ t frozen => .cells #[.iface 88 (.pointer (some ⟨low, 0, none⟩))] t frozen
      | o => o).modify 1 fun
      | .cells _ t frozen => .cells #[.iface 88 (.pointer (some ⟨low + 1, 0, none⟩))] t frozen
      | o => o) }
theorem laid_met (os : Os) : laidMet Tryd.prog Rows.wordReadsRow.laid ((laidWorld os).forCall (fun _ _ => 0) ⟨#[], #[.string ByteArray.empty], []⟩).memory :=
  laidMet_of_run' 8 (by kernel_rfl) (by kernel_rfl)
theorem reads (os : Os) {H : Type} (enc : TypeId × Value → H) : ∃ places, DataW.whole enc Tryd.prog ((laidWorld os).forCall (fun _ _ => 0) ⟨#[], #[.string ByteArray.empty], []⟩).memory Tryd.f4.params.toList Rows.wordReadsSpec.vars false #[Value.string ByteArray.empty].toList 8 = some ([.lit (.string [])], [], places) :=
  ⟨[], by kernel_rfl⟩

set_option maxRecDepth 100000 in
theorem lifted (os : Os) (started : os.Started) (H : Type) (enc : TypeId × Value → H) (F : Stop.Interp) :
    ReturnsInHanded {} Tryd.checked os 4 .any ((OpenSpec.ofChange Rows.wordReadsSpec).preRow enc Tryd.prog Tryd.f4 Rows.wordReadsRow.domain false Rows.wordReadsRow.laid) (((OpenSpec.ofChange Rows.wordReadsSpec).at F).post enc Tryd.prog Tryd.f4 false true false false) := by
  obtain ⟨places, hx⟩ := reads os enc
  refine returnsInHanded_of_row (C := Tryd.checked) (s := OpenSpec.ofChange Rows.wordReadsSpec) own started (by kernel_rfl) Tryd.func4
    (witness_row_atRef (enc := enc) (C := Tryd.checked) false (laidWorld os) #[.string ByteArray.empty] rfl (by kernel_rfl) (by kernel_rfl) (by kernel_rfl)
      (OpenSpec.preRow_of_cond 8 hx (by kernel_rfl) (fun k hk => by cases hk) (by kernel_rfl) (laid_met os))) ?_
  intro W base args ds gs before hval hW _ _ hsz hL _ _
  exact contract H enc W base args ds gs before hval hW hsz hL

theorem said : Rows.WordReadsSaid :=
  OpenClaim.holds_of_cond 4 Tryd.f4 rfl rfl rfl rfl rfl rfl rfl ⟨rfl, rfl, rfl, rfl, rfl⟩ rfl rfl rfl rfl rfl (by kernel_rfl) Tryd.func4 (by kernel_rfl)
    (of_decide_eq_true (by kernel_rfl)) (by unfold Func.isWrapper; first | (rw [if_pos (by decide +kernel)]; kernel_rfl) | (rw [if_neg (by decide +kernel)]; exact ⟨rfl, rfl⟩))
    (fun os started H enc _ F => by rw [OpenClaim.pre_eq_preRow]; exact lifted os started H enc F)

theorem plain (f : FuncId) (fn : Func) (hf : Tryd.pinned.checked.prog.funcNamed "panicroad/panicroadlaw.WordReads" = some f) (hfn : Tryd.pinned.checked.prog.funcs[f]? = some fn) :
    true = Tryd.pinned.checked.prog.looks [] ∧ ∀ (j : Nat) t, fn.params[j]? = some t → Tryd.pinned.checked.prog.wantsStandIn t = false := by
  obtain rfl : f = 4 := Option.some.inj ((show Tryd.prog.funcNamed "panicroad/panicroadlaw.WordReads" = some 4 by kernel_rfl).symm.trans hf) |>.symm
  obtain rfl : fn = Tryd.f4 := (Option.some.inj (Tryd.func4.symm.trans hfn)).symm
  refine ⟨by kernel_rfl, fun j t ht => ?_⟩
  rw [Tryd.params4] at ht
  have hm := Array.mem_of_getElem? ht
  simp at hm
  subst hm
  exact (show Tryd.prog.wantsStandIn 9 = false by kernel_rfl)

theorem card : Rows.WordReadsCardSaid :=
  Claim7.holds_tied_plain_at .later [] _ _ _ _ said (fun _ h => by cases h) (by kernel_rfl) (fun _ h => by cases h) wordReads_row_tie rfl ⟨rfl, rfl⟩ (by kernel_rfl) rfl plain (by kernel_rfl)
#print axioms card
end Go.Proofs.YtopefdcmmmjihaaDoor.wordReads
