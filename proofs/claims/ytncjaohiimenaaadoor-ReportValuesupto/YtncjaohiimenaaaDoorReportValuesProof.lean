/-
  For every list of panics that comes in and is of bulk at most 1048576, report.Values answers exactly what value.Show says of each value (P10.6): the law's function returns true; the library's tables hold at the start what the program's text lays (the card ties them).
-/
import Derived.Test.YtncjaohiimenaaaDoorRvalues
import Derived.Test.YtncjaohiimenaaaDoorVrshow
import Derived.Stop.LaidErr
import Derived.Test.YtncjaohiimenaaaDoorRpcame
import Derived.JoinedCond
import Derived.Test.YtncjaohiimenaaaDoorCards
import Derived.Test.YtncjaohiimenaaaDoorTie
import Derived.Deep.DeepHandedRow
import Derived.Lib.LaidTab
import Derived.SizedLaws
import Derived.Deep.DeepWitnessRowRef
namespace Go.Proofs.YtncjaohiimenaaaDoor.reportValues
open Go.ChangeShapes Go.WideShapes Go.ChangeAt Go.RowKit
open Go.WideMaps Go.WideElems
open Go.ChangeMaps (open_string shut_string)
set_option linter.unusedVariables false
set_option maxRecDepth 100000

theorem own : ownKnob Tryd.prog.godebug = none := by kernel_rfl

def onePe : Pe := ⟨0, ⟨1, 1, ⟨#[]⟩, []⟩, .slice none 0 0, false, false⟩
theorem one_in : PsIn [onePe] := ⟨fun e he => by simp at he; subst he; exact ⟨⟨(by kernel_rfl : (Lit.int .i64 1).wf = true), (by kernel_rfl : (Lit.int .i64 1).wf = true), by decide, (fun i hi => by cases hi), by decide⟩, by decide, by decide⟩, by decide⟩
theorem one_lies (w u : World) (g : Nat) (hg : g = w.heap.size) (h : Below (w.alloc (.cells #[.int .i64 0, .int .i64 1, .int .i64 1, .string ⟨#[]⟩, .slice none 0 0, .bool false, .bool false] 30)).heap.size (w.alloc (.cells #[.int .i64 0, .int .i64 1, .int .i64 1, .string ⟨#[]⟩, .slice none 0 0, .bool false, .bool false] 30)) u) : PsLies u (.slice (some ⟨g, 0, none⟩) 1 1) [onePe] := by
  subst hg
  have h1 : (w.alloc (.cells #[.int .i64 0, .int .i64 1, .int .i64 1, .string ⟨#[]⟩, .slice none 0 0, .bool false, .bool false] 30)).ownsRow 0 30 7 (.slice (some ⟨w.heap.size, 0, none⟩) 1 1) 1 (Pe.cells onePe) := World.ownsRow_lit w #[.int .i64 0, .int .i64 1, .int .i64 1, .string ⟨#[]⟩, .slice none 0 0, .bool false, .bool false] 1 (Nat.zero_le _) (by decide) rfl
  have h2 : (w.alloc (.cells #[.int .i64 0, .int .i64 1, .int .i64 1, .string ⟨#[]⟩, .slice none 0 0, .bool false, .bool false] 30)).ownsRow 0 30 7 (.slice (some ⟨w.heap.size, 0, none⟩) 1 1) [onePe].length (rc Pe.cells [onePe]) := by rw [rc_one]; exact h1
  exact ⟨lies_own Pe.len (row_below h2 h), fun e he => by simp at he; subst he; exact .inl ⟨rfl, rfl⟩⟩
theorem below_cut {w u : World} (h : Below w.heap.size w u) : Below w.heap.size w u := h
theorem pow_tab : Lib.pow10Tab = [1, 10, 100, 1000, 10000, 100000, 1000000, 10000000, 100000000, 1000000000, 10000000000, 100000000000, 1000000000000, 10000000000000, 100000000000000, 1000000000000000, 10000000000000000, 100000000000000000, 1000000000000000000, 10000000000000000000] := by decide
theorem pow_of {W : World} (h : laidMetH Tryd.prog Rows.reportValuesRow.laid W) : Pow W := by
  have h0 : laidMet Tryd.prog Rows.reportValuesRow.laid W := h
  unfold Pow
  rw [pow_tab]
  exact Lib.tabIs_of_head Tryd.gPow (by kernel_rfl) Tryd.underlying93 Tryd.underlying81 (by kernel_rfl) (by kernel_rfl) h0.tail.tail

set_option maxHeartbeats 8000000 in
theorem walk (v0 : Value) (es : List Pe) (w : World) (hC : PsLies w v0 es) (hE : PsIn es) (hp : Pow w) :
    Calls Tryd.prog 7 #[v0] w fun e w' => e = .returned (.bool true) ∧ Below w.heap.size w w' := by
  obtain ⟨vo, vc, hsh⟩ := hC.row.shape
  subst hsh
  have HSRC := Hid.mk' hC
  have HIN := Hid.mk' hE
  have HFL : Hid (∀ u, Below w.heap.size w u → Calls Tryd.prog 12 #[.slice vo es.length vc] u fun e w' => ∃ v' ms, e = .returned v' ∧ PRow u.heap.size w' v' ms ∧ ms.map Pe.key = es.map Pe.key ∧ Below u.heap.size u w') := fun u hu => own_flights _ es u (hC.below hu) hE
  have HVA : Hid (∀ v ms u, PsLies u v ms → ms.map Pe.key = es.map Pe.key → Below w.heap.size w u → Calls Tryd.prog 20 #[v] u fun e w' => ∃ ga, e = .returned (.slice (some ⟨ga, 0, none⟩) es.length es.length) ∧ Fill ga es.length es.length (es.map fun e => showV e.x) w' ∧ Below u.heap.size u w') := fun v ms u h1 h2 hu => by
    have := own_values v ms u h1 (hE.key h2) (hp.below hu)
    have hl : ms.length = es.length := by have := congrArg List.length h2; simpa using this
    have hm : (ms.map fun e => showV e.x) = es.map fun e => showV e.x := by
      have h3 := congrArg (List.map fun (p : Int × Vv × Bool × Bool) => showV p.2.1) h2
      rw [List.map_map, List.map_map] at h3
      exact h3
    rwa [hl, hm] at this
  have HON : Hid (∀ w0 u, Below w.heap.size w w0 → Below (w0.alloc (.cells #[.int .i64 0, .int .i64 1, .int .i64 1, .string ⟨#[]⟩, .slice none 0 0, .bool false, .bool false] 30)).heap.size (w0.alloc (.cells #[.int .i64 0, .int .i64 1, .int .i64 1, .string ⟨#[]⟩, .slice none 0 0, .bool false, .bool false] 30)) u → Calls Tryd.prog 20 #[.slice (some ⟨w0.heap.size, 0, none⟩) 1 1] u fun e w' => ∃ ga, e = .returned (.slice (some ⟨ga, 0, none⟩) 1 1) ∧ Below u.heap.size u w') := fun w0 u h0 hu => by
    refine (own_values _ [onePe] u (one_lies w0 u _ rfl hu) one_in (hp.below (h0.trans ((((Below.refl _ _).alloc (Nat.le_refl _) _).trans (hu.mono (by simp))).mono h0.size)))).mono ?_
    rintro e w' ⟨ga, rfl, -, hb⟩
    exact ⟨ga, rfl, hb⟩
  obtain ⟨n, hn1⟩ : ∃ n, n = es.length := ⟨_, rfl⟩
  have HLEN : Hid (n = es.length) := hn1
  have hnb : n ≤ 1048576 := by have := hE.size; omega
  rw [← hn1] at HSRC HFL HVA ⊢
  clear hC hE hp hn1
  go_enter Tryd.func7, Tryd.ntmps7
  go_wp2_with fail
  refine Calls.mono (HFL.out _ (Below.refl _ _)) ?_
  rintro e w1 ⟨v1, ms, rfl, hr, hk, hb1⟩
  have HR1 := Hid.mk' hr
  have HK1 := Hid.mk' hk
  have HW1 := Hid.mk' hb1
  clear hr hk hb1
  go_wp2_with fail
  refine Calls.mono (HVA.out _ ms _ HR1.out.lies HK1.out HW1.out) ?_
  rintro e w2 ⟨ga, rfl, hfi, hb2⟩
  have HF2 := Hid.mk' hfi
  have HW2 : Hid (Below w.heap.size w w2) := HW1.out.trans (hb2.mono HW1.out.size)
  clear hb2 hfi
  go_wp2_with fail
  have HAL : Hid (Below w2.heap.size w2 (w2.alloc (.cells #[.int .i64 0, .int .i64 1, .int .i64 1, .string ⟨#[]⟩, .slice none 0 0, .bool false, .bool false] 30))) := (Below.refl _ _).alloc (Nat.le_refl _) _
  refine Calls.mono (HON.out _ _ HW2.out (Below.refl _ _)) ?_
  rintro e w3 ⟨gx, rfl, hb3⟩
  have HF3 : Hid (Fill ga n n (es.map fun e => showV e.x) w3) := (HF2.out.below HAL.out).below hb3
  have HW3 : Hid (Below w.heap.size w w3) := (HW2.out.trans (HAL.out.mono HW2.out.size)).trans (hb3.mono (by have := HW2.out.size; simp; omega))
  clear hb3
  go_wp2_with fail
  go_loopw [5] (fun s5 wr => ∃ k : Nat, k ≤ n ∧ s5 = .int .i64 k ∧ Hid (Fill ga n n (es.map fun e => showV e.x) wr) ∧ Hid (Below w.heap.size w wr)) (fun i _ => n - (intOf i).toNat)
  case atStart => exact ⟨0, Nat.zero_le _, rfl, HF3.out, HW3.out⟩
  case round =>
    obtain ⟨k, hk, rfl, HF, HB⟩ := hrel
    obtain ⟨wq, hwq⟩ : ∃ x, x = wr := ⟨_, rfl⟩
    subst hwq
    by_cases hlt : k < n
    · have hlti : (k : Int) < (n : Int) := by omega
      obtain ⟨⟨ser, ⟨kd, nn, ss, ll⟩, L, rc0, ab0⟩, he⟩ : ∃ e, es[k]? = some e := ⟨es[k]'(by rw [← HLEN.out]; exact hlt), List.getElem?_eq_getElem _⟩
      obtain ⟨b, off, rfl, hx⟩ := HSRC.out.at he
      obtain ⟨-, hll⟩ := hx wq HB.out
      obtain ⟨lo, lc, hL⟩ := hll.shape
      simp only at hL hll hx
      subst hL
      obtain ⟨hvin, hss, hls⟩ := HIN.out.each _ (List.mem_of_getElem? he)
      simp only at hvin hss hls
      have HLK : Hid ((es.map fun e => showV e.x)[k]? = some (showV ⟨kd, nn, ss, ll⟩)) := by show _ = _; rw [List.getElem?_map, he]; rfl
      have HC : Hid (∀ u, Below wq.heap.size wq u → u.cell? ⟨ga, k, none⟩ = some (.string (showV ⟨kd, nn, ss, ll⟩)) ∧ u.cell? ⟨b, off + k * 7 + 1, none⟩ = some (.int .i64 kd) ∧ u.cell? ⟨b, off + k * 7 + 2, none⟩ = some (.int .i64 nn) ∧ u.cell? ⟨b, off + k * 7 + 3, none⟩ = some (.string ss) ∧ u.cell? ⟨b, off + k * 7 + 4, none⟩ = some (.slice lo ll.length lc)) := fun u hu => by
        obtain ⟨⟨-, x1, x2, x3, x4, -, -⟩, -⟩ := hx u (HB.out.trans (hu.mono HB.out.size))
        exact ⟨(HF.out.below hu).at hlt HLK.out, x1, x2, x3, x4⟩
      have HR : Hid (∀ u, Below wq.heap.size wq u → Calls Tryd.prog 21 #[.agg #[.int .i64 kd, .int .i64 nn, .string ss, .slice lo ll.length lc]] u fun e w' => e = .returned (.string (showV ⟨kd, nn, ss, ll⟩)) ∧ Below u.heap.size u w') := fun u hu =>
        ref_show ⟨kd, nn, ss, ll⟩ _ u hvin (hx u (HB.out.trans (hu.mono HB.out.size))).2 (fun _ => by simp only; omega)
      generalize showV ⟨kd, nn, ss, ll⟩ = TX at *
      have hk0 : (0 : Int) ≤ (k : Int) := by omega
      clear hx hll hvin he
      go_wp2_with fail
      refine wp_grow [isV (.slice (some ⟨ga, 0, none⟩) n n), isV (.int .i64 (k : Int)), isV (.pointer (some ⟨ga, k, none⟩)), isV (.string TX), isV (.slice (some ⟨b, off, none⟩) n vc), isV (.int .i64 (k : Int)), isV (.pointer (some ⟨b, off + k * 7, none⟩)), isV (.pointer (some ⟨b, off + k * 7 + 1, none⟩)), isV (.agg #[.int .i64 kd, .int .i64 nn, .string ss, .slice lo ll.length lc]), isV (.string TX), isV (.bool false)]
        ⟨stab_is _, stab_is _, stab_is _, stab_is _, stab_is _, stab_is _, stab_is _, stab_is _, stab_is _, stab_is _, stab_is _, trivial⟩ (by kernel_rfl) (by kernel_rfl) (by kernel_rfl) ?_ ?_
      · refine stepsOK_cons (fun f u hG hd K hK => ?_) (stepsOK_cons (fun f u hG hd K hK => ?_) (stepsOK_cons (fun f u hG hd K hK => ?_) (stepsOK_cons (fun f u hG hd K hK => ?_) (stepsOK_cons (fun f u hG hd K hK => ?_) (stepsOK_cons (fun f u hG hd K hK => ?_) (stepsOK_cons (fun f u hG hd K hK => ?_) (stepsOK_cons (fun f u hG hd K hK => ?_) (stepsOK_cons (fun f u hG hd K hK => ?_) (stepsOK_cons (fun f u hG hd K hK => ?_) (stepsOK_cons (fun f u hG hd K hK => ?_) stepsOK_nil))))))))))
        · refine wanted_on rfl ?_
          simp only [putAll, Act.put, List.setIfInBounds_toArray, List.set_cons_zero, List.set_cons_succ] at hK ⊢
          go_simp
          exact hK _ _ _ rfl hG (Below.refl _ _) rfl
        · refine wanted_on rfl ?_
          simp only [putAll, Act.put, List.setIfInBounds_toArray, List.set_cons_zero, List.set_cons_succ] at hK ⊢
          go_simp
          exact hK _ _ _ rfl hG (Below.refl _ _) rfl
        · have e0 : f 0 = (.slice (some ⟨ga, 0, none⟩) n n) := hd 0 (by kernel_rfl)
          have e1 : f 1 = (.int .i64 (k : Int)) := hd 1 (by kernel_rfl)
          refine wanted_on rfl ?_
          simp only [putAll, Act.put, List.setIfInBounds_toArray, List.set_cons_zero, List.set_cons_succ, e0, e1] at hK ⊢
          go_simp
          exact hK _ _ _ rfl hG (Below.refl _ _) rfl
        · have e2 : f 2 = (.pointer (some ⟨ga, k, none⟩)) := hd 2 (by kernel_rfl)
          have y0 := (HC.out u (below_cut hG)).1
          refine wanted_on rfl ?_
          simp only [putAll, Act.put, List.setIfInBounds_toArray, List.set_cons_zero, List.set_cons_succ, e2] at hK ⊢
          go_simp
          exact hK _ _ _ rfl hG (Below.refl _ _) rfl
        · refine wanted_on rfl ?_
          simp only [putAll, Act.put, List.setIfInBounds_toArray, List.set_cons_zero, List.set_cons_succ] at hK ⊢
          go_simp
          exact hK _ _ _ rfl hG (Below.refl _ _) rfl
        · refine wanted_on rfl ?_
          simp only [putAll, Act.put, List.setIfInBounds_toArray, List.set_cons_zero, List.set_cons_succ] at hK ⊢
          go_simp
          exact hK _ _ _ rfl hG (Below.refl _ _) rfl
        · have e4 : f 4 = (.slice (some ⟨b, off, none⟩) n vc) := hd 4 (by kernel_rfl)
          have e5 : f 5 = (.int .i64 (k : Int)) := hd 5 (by kernel_rfl)
          refine wanted_on rfl ?_
          simp only [putAll, Act.put, List.setIfInBounds_toArray, List.set_cons_zero, List.set_cons_succ, e4, e5] at hK ⊢
          go_simp
          exact hK _ _ _ rfl hG (Below.refl _ _) rfl
        · have e6 : f 6 = (.pointer (some ⟨b, off + k * 7, none⟩)) := hd 6 (by kernel_rfl)
          refine wanted_on rfl ?_
          simp only [putAll, Act.put, List.setIfInBounds_toArray, List.set_cons_zero, List.set_cons_succ, e6] at hK ⊢
          go_simp
          exact hK _ _ _ rfl hG (Below.refl _ _) rfl
        · have e7 : f 7 = (.pointer (some ⟨b, off + k * 7 + 1, none⟩)) := hd 7 (by kernel_rfl)
          obtain ⟨-, y1, y2, y3, y4⟩ := HC.out u (below_cut hG)
          refine wanted_on rfl ?_
          simp only [putAll, Act.put, List.setIfInBounds_toArray, List.set_cons_zero, List.set_cons_succ, e7] at hK ⊢
          go_simp
          exact hK _ _ _ rfl hG (Below.refl _ _) rfl
        · have e8 : f 8 = (.agg #[.int .i64 kd, .int .i64 nn, .string ss, .slice lo ll.length lc]) := hd 8 (by kernel_rfl)
          refine wanted_on rfl ?_
          simp only [putAll, Act.put, List.setIfInBounds_toArray, List.set_cons_zero, List.set_cons_succ, e8] at hK ⊢
          go_simp
          refine (HR.out u (below_cut hG)).mono ?_
          rintro e u1 ⟨rfl, hb⟩
          exact hK _ _ _ rfl (hG.trans (hb.mono hG.size)) hb rfl
        · have e3 : f 3 = (.string TX) := hd 3 (by kernel_rfl)
          have e9 : f 9 = (.string TX) := hd 9 (by kernel_rfl)
          refine wanted_on rfl ?_
          simp only [putAll, Act.put, List.setIfInBounds_toArray, List.set_cons_zero, List.set_cons_succ, e3, e9] at hK ⊢
          go_simp
          exact hK _ _ _ rfl hG (Below.refl _ _) (by simp [isV, atR])
      · intro f u hG hf
        have e10 : f 10 = .bool false := hf 10 (by decide)
        have HFU := Hid.mk' (HF.out.below (below_cut hG))
        have HBU : Hid (Below w.heap.size w u) := HB.out.trans ((below_cut hG).mono HB.out.size)
        simp only [putAll, Act.put, List.setIfInBounds_toArray, List.set_cons_zero, List.set_cons_succ, e10]
        clear hf hG e10
        go_wp2_with fail
        go_roundw
        case rel => exact ⟨k + 1, by omega, by go_num, HFU.out, HBU.out⟩
        case measure => simp [intOf]; omega
    · have hke : n = k := by omega
      subst hke
      have hlti : ¬ (n : Int) < (n : Int) := by omega
      go_wp2_with fail
      go_ret
      exact ⟨rfl, HB.out⟩

theorem contract (H : Type) (enc : TypeId × Value → H) (W : World) (base : Nat) (args : Array Value) (ds gs : List (DataW H)) (before : List MemPlace)
    (hval : ∀ (j : Nat) t v, Tryd.f7.params[j]? = some t → args[j]? = some v → Value.okWide Tryd.prog W .any base t v)
    (hW : DataW.Whole enc Tryd.prog Tryd.f7.params.toList Rows.reportValuesSpec.vars false W args.toList ds gs before)
    (hk : Rows.uptoSmall H (ds ++ gs) = true) (hL : laidMetH Tryd.prog Rows.reportValuesRow.laid W) :
    Calls Tryd.prog 7 args W fun e W' => ∃ v, e = .returned v ∧ Rows.reportValuesSpec.post enc Tryd.prog Tryd.f7 false true false false W args v W' := by
  have hW' := hW
  obtain ⟨p, q, hA0, hV, rfl, hfz, hnd⟩ := hW
  have hA : DataW.TrodAll enc Tryd.prog W 0 (fun _ => true) true Tryd.f7.params.toList args.toList ds p := hA0
  rw [Tryd.params7] at hA hval
  obtain ⟨v0, vs0, d0, ds0, p0, q0, hargs, rfl, rfl, h0, r0⟩ := trodAll_cons hA
  obtain ⟨rfl, rfl, rfl⟩ := trodAll_nil r0
  obtain rfl : args = #[v0] := by cases args; simp_all
  obtain ⟨rfl, rfl⟩ := trodVars_none hV
  obtain ⟨ao, len, cap, rfl⟩ := okWide_slice Tryd.underlying28 (hval 0 28 v0 rfl rfl)
  have h0k := h0
  obtain ⟨fuel0, hf0⟩ := h0
  obtain ⟨es, hC, hE⟩ := ps_came hf0 (small_part hk (by simp))
  clear hA0
  simp only [List.append_nil] at hW'
  have hlt : ∀ x ∈ p0, x.block < W.heap.size := fun x hx => hW'.lt x (by simpa using hx)
  refine (walk _ es W hC hE (pow_of hL)).mono fun e W' ⟨he, bel⟩ => ?_
  subst he
  exact ⟨_, rfl, _, _, _, [], p0 ++ [], [], hW', trodAll_mk1 (shut_bool Tryd.underlying4 _), trodAll_cons_mk (Below.trod (by kernel_rfl) (by kernel_rfl) (of_decide_eq_true (by kernel_rfl)) h0k bel hlt) trodAll_mk0, rfl, bel.frame _, fun h => by cases h⟩

noncomputable def low : Nat := (World.holding Tryd.prog default ⟨#[], #[], []⟩).heap.size
noncomputable def laidWorld (os : Os) : World :=
  let w0 := World.holding Tryd.prog os ⟨#[], #[], []⟩
  { w0 with heap := (((w0.heap.modify 1 fun
      | .cells _ t frozen => .cells #[.int .u64 1, .int .u64 10, .int .u64 100, .int .u64 1000, .int .u64 10000, .int .u64 100000, .int .u64 1000000, .int .u64 10000000, .int .u64 100000000, .int .u64 1000000000, .int .u64 10000000000, .int .u64 100000000000, .int .u64 1000000000000, .int .u64 10000000000000, .int .u64 100000000000000, .int .u64 1000000000000000, .int .u64 10000000000000000, .int .u64 100000000000000000, .int .u64 1000000000000000000, .int .u64 10000000000000000000] t frozen
      | o => o).modify 3 fun
      | .cells _ t frozen => .cells #[.int .u8 0, .int .u8 1, .int .u8 28, .int .u8 2, .int .u8 29, .int .u8 14, .int .u8 24, .int .u8 3, .int .u8 30, .int .u8 22, .int .u8 20, .int .u8 15, .int .u8 25, .int .u8 17, .int .u8 4, .int .u8 8, .int .u8 31, .int .u8 27, .int .u8 13, .int .u8 23, .int .u8 21, .int .u8 19, .int .u8 16, .int .u8 7, .int .u8 26, .int .u8 12, .int .u8 18, .int .u8 6, .int .u8 11, .int .u8 5, .int .u8 10, .int .u8 9] t frozen
      | o => o).modify 4 fun
      | .cells _ t frozen => .cells #[.int .u8 0, .int .u8 1, .int .u8 56, .int .u8 2, .int .u8 57, .int .u8 49, .int .u8 28, .int .u8 3, .int .u8 61, .int .u8 58, .int .u8 42, .int .u8 50, .int .u8 38, .int .u8 29, .int .u8 17, .int .u8 4, .int .u8 62, .int .u8 47, .int .u8 59, .int .u8 36, .int .u8 45, .int .u8 43, .int .u8 51, .int .u8 22, .int .u8 53, .int .u8 39, .int .u8 33, .int .u8 30, .int .u8 24, .int .u8 18, .int .u8 12, .int .u8 5, .int .u8 63, .int .u8 55, .int .u8 48, .int .u8 27, .int .u8 60, .int .u8 41, .int .u8 37, .int .u8 16, .int .u8 46, .int .u8 35, .int .u8 44, .int .u8 21, .int .u8 52, .int .u8 32, .int .u8 23, .int .u8 11, .int .u8 54, .int .u8 26, .int .u8 40, .int .u8 15, .int .u8 34, .int .u8 20, .int .u8 31, .int .u8 10, .int .u8 25, .int .u8 14, .int .u8 19, .int .u8 9, .int .u8 13, .int .u8 8, .int .u8 7, .int .u8 6] t frozen
      | o => o) }
theorem laid_met (os : Os) : laidMet Tryd.prog Rows.reportValuesUptoRow.laid ((laidWorld os).forCall (fun _ _ => 0) ⟨#[], #[.slice none 0 0], []⟩).memory :=
  laidMet_of_run' 8 (by kernel_rfl) (by kernel_rfl)
theorem reads (os : Os) {H : Type} (enc : TypeId × Value → H) : ∃ places, DataW.whole enc Tryd.prog ((laidWorld os).forCall (fun _ _ => 0) ⟨#[], #[.slice none 0 0], []⟩).memory Tryd.f7.params.toList Rows.reportValuesSpec.vars false #[Value.slice none 0 0].toList 8 = some ([.nil], [], places) :=
  ⟨[], by kernel_rfl⟩

set_option maxRecDepth 100000 in
theorem lifted (os : Os) (started : os.Started) (H : Type) (enc : TypeId × Value → H) (F : Stop.Interp) :
    ReturnsInHanded {} Tryd.checked os 7 .any ((Rows.OpenSpec.upto Rows.reportValuesSpec).preRow enc Tryd.prog Tryd.f7 Rows.reportValuesUptoRow.domain false Rows.reportValuesUptoRow.laid) (((Rows.OpenSpec.upto Rows.reportValuesSpec).at F).post enc Tryd.prog Tryd.f7 false true false false) := by
  obtain ⟨places, hx⟩ := reads os enc
  refine returnsInHanded_of_row (C := Tryd.checked) (s := Rows.OpenSpec.upto Rows.reportValuesSpec) own started (by kernel_rfl) Tryd.func7
    (witness_row_at (enc := enc) (C := Tryd.checked) false (laidWorld os) #[.slice none 0 0] rfl (by kernel_rfl) (by kernel_rfl) (by kernel_rfl)
      (OpenSpec.preRow_of_cond 8 hx (by kernel_rfl) (fun k hk => by cases hk; kernel_rfl) (by kernel_rfl) (laid_met os))) ?_
  intro W base args ds gs before hval hW _ hcond hsz hL _ _
  exact contract H enc W base args ds gs before hval hW (hcond _ rfl) hL

theorem said : Rows.ReportValuesUptoSaid :=
  OpenClaim.holds_of_cond 7 Tryd.f7 rfl rfl rfl rfl rfl rfl rfl ⟨rfl, rfl, rfl, rfl, rfl⟩ rfl rfl rfl rfl rfl (by kernel_rfl) Tryd.func7 (by kernel_rfl)
    (of_decide_eq_true (by kernel_rfl)) (by unfold Func.isWrapper; first | (rw [if_pos (by decide +kernel)]; kernel_rfl) | (rw [if_neg (by decide +kernel)]; exact ⟨rfl, rfl⟩))
    (fun os started H enc _ F => by rw [OpenClaim.pre_eq_preRow]; exact lifted os started H enc F)

theorem plain (f : FuncId) (fn : Func) (hf : Tryd.pinned.checked.prog.funcNamed "panicroad/panicroadlaw.ReportValues" = some f) (hfn : Tryd.pinned.checked.prog.funcs[f]? = some fn) :
    false = Tryd.pinned.checked.prog.looks [] ∧ ∀ (j : Nat) t, fn.params[j]? = some t → Tryd.pinned.checked.prog.wantsStandIn t = false := by
  obtain rfl : f = 7 := Option.some.inj ((show Tryd.prog.funcNamed "panicroad/panicroadlaw.ReportValues" = some 7 by kernel_rfl).symm.trans hf) |>.symm
  obtain rfl : fn = Tryd.f7 := (Option.some.inj (Tryd.func7.symm.trans hfn)).symm
  refine ⟨by kernel_rfl, fun j t ht => ?_⟩
  rw [Tryd.params7] at ht
  have hm := Array.mem_of_getElem? ht
  simp at hm
  subst hm
  exact (show Tryd.prog.wantsStandIn 28 = false by kernel_rfl)

theorem card : Rows.ReportValuesUptoCardSaid :=
  Claim7.holds_tied_plain_at .later [] _ _ _ _ said (fun _ h => by cases h) (by kernel_rfl) (fun _ h => by cases h) reportValuesUpto_row_tie rfl ⟨rfl, rfl⟩ (by kernel_rfl) rfl plain (by kernel_rfl)
#print axioms card
end Go.Proofs.YtncjaohiimenaaaDoor.reportValues
