/-
  TypesMemory returns true for every text, and the argument reads afterwards as before; no condition.
-/
import Derived.Test.YtmcechcigehjbabTmem
import Derived.Deep.QuietTactic
import Derived.BigQuiet
import Derived.ProofKit
import Derived.OpenShut
namespace Go.Proofs.Ytmcechcigehjbab.typesMemory
open Go.ChangeShapes Go.WideShapes Go.ChangeAt Go.RowKit
open Go.WideMaps Go.WideElems
open Go.ChangeMaps (open_string shut_string)
set_option linter.unusedSimpArgs false
set_option maxRecDepth 100000
set_option linter.unusedVariables false

theorem own : ownKnob Try.prog.godebug = none := by kernel_rfl

set_option maxHeartbeats 4000000 in
theorem walk (a0 : ByteArray) (w0 : a0.size ≤ maxLen)  (w : World)  :
    Calls Try.prog 4 #[.string a0] w fun e w' => e = .returned (.bool true) ∧ Below w.heap.size w w' := by
  have HO : Hid (∀ (w : World), Calls Try.prog 11 #[.string a0] w (ParPost w a0.data.toList)) := fun w => own_pars a0 w w0
  have HD : Hid (∀ (w : World), Calls Try.prog 11 #[.string ⟨#[102, 117, 110, 99, 40, 105, 110, 116, 41]⟩] w fun e w' => ∃ ao cv, e = .returned (.tuple #[.slice ao 1 cv, .int .i64 0]) ∧ Below w.heap.size w w') := fun w => by
    have h : validF (⟨#[102, 117, 110, 99, 40, 105, 110, 116, 41]⟩ : ByteArray).data.toList = true := by decide +kernel
    have h1 : (parT (⟨#[102, 117, 110, 99, 40, 105, 110, 116, 41]⟩ : ByteArray).data.toList).length = 1 := by decide +kernel
    refine (own_pars ⟨#[102, 117, 110, 99, 40, 105, 110, 116, 41]⟩ w (by decide)).mono ?_
    rintro e w' ⟨ao, cv, rfl, _, hb⟩
    unfold errV
    rw [if_pos h, h1]
    exact ⟨ao, cv, rfl, hb⟩
  have hl4 := parT_len a0.data.toList
  unfold ParPost at HO
  generalize parT a0.data.toList = ts at *
  generalize errV a0.data.toList = m at *
  have HLX : Hid ((ts.map Value.string).length = ts.length) := by show (ts.map Value.string).length = ts.length; simp
  have HST : Hid (∀ u ∈ ts.map Value.string, u.oneCell' = true) := fun u hu => by obtain ⟨x, _, rfl⟩ := List.mem_map.1 hu; rfl
  have HGET : Hid (∀ k : Nat, k < ts.length → ∃ x, (ts.map Value.string)[k]? = some (.string x)) := fun k hk => ⟨ts[k], by rw [List.getElem?_map, List.getElem?_eq_getElem hk]; rfl⟩
  generalize ts.map Value.string = xs at *
  generalize ts.length = n at *
  obtain ⟨i0, hi, hz0, hz1, hz2⟩ := info_parts Try.info9
  clear w0
  go_enter Try.func4, Try.ntmps4
  go_wp2_with fail
  refine (HO.out _).mono ?_
  rintro e w1 ⟨ao, cv, rfl, hA1, b1⟩
  have HA1 : Hid (w1.ownsRow w.heap.size 9 1 (.slice ao n cv) n xs) := hA1
  clear hA1
  go_wp2_with fail
  refine (HO.out _).mono ?_
  rintro e w2 ⟨bo, cb, rfl, hB2, b2⟩
  have HB2 : Hid (w2.ownsRow w1.heap.size 9 1 (.slice bo n cb) n xs) := hB2
  have HA2 : Hid (w2.ownsRow w.heap.size 9 1 (.slice ao n cv) n xs) := owns_below' HA1.out b2
  clear hB2
  go_wp2_with fail
  refine (HD.out _).mono ?_
  rintro e w3 ⟨xo, cx, rfl, b3⟩
  have HB3 : Hid (w3.ownsRow w1.heap.size 9 1 (.slice bo n cb) n xs) := owns_below' HB2.out b3
  have HA3 : Hid (w3.ownsRow w.heap.size 9 1 (.slice ao n cv) n xs) := owns_below' HA2.out b3
  have HW3 : Hid (Below w.heap.size w w3) := (b1.trans (b2.mono b1.size)).trans (b3.mono (Nat.le_trans b1.size b2.size))
  have hs1 : w.heap.size ≤ w1.heap.size := b1.size
  have hs3 : w1.heap.size ≤ w3.heap.size := Nat.le_trans b2.size b3.size
  have HAL : Hid (∀ q, (Value.slice ao n cv).ownBlock = some q → w.heap.size ≤ q ∧ q < w1.heap.size) := fun q hq => HA1.out.lt q hq
  clear b1 b2 b3
  by_cases hbo : bo = none
  · subst hbo
    obtain ⟨rfl, rfl⟩ : n = 0 ∧ cb = 0 := by
      rcases HB3.out.2 with ⟨h, h0⟩ | ⟨g, cap, cur, h, _⟩
      · cases h; exact ⟨rfl, rfl⟩
      · cases h
    have hxe : xs = [] := List.length_eq_zero_iff.1 HLX.out
    subst hxe
    have HA4 : Hid (w3.ownsRow w.heap.size 9 1 (.slice ao 0 cv) 0 []) := HA3.out
    have HG4 : Hid (w3.grownBy w3 none) := World.grownBy.refl _ _
    have HW4 : Hid (w3.ownsRow w3.heap.size 9 1 (.slice none 0 0) 0 []) := World.ownsRow_nil _ _ _ _
    go_wp2_with fail
    go_loopw [10] (fun y wr => y = .int .i64 0 ∧ Hid (wr = w3)) (fun _ _ => 0)
    case atStart => exact ⟨rfl, rfl⟩
    case round =>
      obtain ⟨rfl, HX⟩ := hrel
      have hX := HX.out
      subst hX
      clear HX
      go_wp2_with (at_builtin; refine wpList_append_own_at _ rfl _ _ 30 rfl w.heap.size 9 i0 (.string ByteArray.empty) 1 16 Try.underlying30 hi hz0 hz1 hz2 rfl (by decide) _ _ _ rfl (World.ownsRow.alloc HA4.out _) ⟨wr.heap.size, 0, none⟩ 2 2 [.string ⟨#[63]⟩, .string ⟨#[63]⟩] rfl rfl (row_two _ _ _ _) (fun x hx => by simp at hx; subst hx; rfl) (by unfold maxLen; omega) (by omega) (by simp; omega) ?_; intro v' w5 hown' hgrow5 hnil5 hat5; obtain ⟨g5, cap5, rfl⟩ := own_slice2 hown'; obtain ⟨⟨u5, hc5⟩, hf5, hx5⟩ := mem_fin HGET.out hs1 hs3 HAL.out HW3.out HB3.out HG4.out HW4.out (World.grownBy.refl _ _) hown' rfl hgrow5 hat5; have HX5 : Hid _ := hx5; clear hx5 hown' hgrow5 hnil5 hat5)
      go_loopw [11] (fun y wq => y = .int .i64 0 ∧ Hid (wq = w5.setCell ⟨g5, 0, none⟩ (.string ⟨#[33]⟩))) (fun _ _ => 0)
      case atStart => exact ⟨rfl, rfl⟩
      case round =>
        obtain ⟨rfl, HQ⟩ := hrel
        have hQ := HQ.out
        subst hQ
        clear HQ
        go_wp2_with fail
        go_ret
        exact ⟨rfl, HX5.out.1⟩
  · obtain ⟨⟨gb, ob, spb⟩, rfl⟩ := Option.ne_none_iff_exists'.1 hbo
    obtain ⟨rfl, rfl⟩ : ob = 0 ∧ spb = none := by
      rcases HB3.out.2 with ⟨h, _⟩ | ⟨g, cap, cur, h, _⟩
      · cases h
      · cases h; exact ⟨rfl, rfl⟩
    have HBC : Hid (∀ j u, xs[j]? = some u → w3.cell? ((⟨gb, 0, none⟩ : Addr).add j) = some u) := HB3.out.cells rfl
    clear hbo
    go_wp2_with (at_builtin; refine wpList_append_own_at _ rfl _ _ 30 rfl w3.heap.size 9 i0 (.string ByteArray.empty) 1 16 Try.underlying30 hi hz0 hz1 hz2 rfl (by decide) _ _ _ rfl (World.ownsRow_nil _ _ _ _) ⟨gb, 0, none⟩ n cb xs rfl (by rw [HLX.out]; omega) HBC.out HST.out (by unfold maxLen; omega) (by omega) (Nat.le_refl _) ?_; intro vW w4 hW4 hg4 hn4 hat4; obtain ⟨wo, cw, rfl, hW4'⟩ := own_slice0 hW4; have HA4 : Hid _ := owns_apart HA3.out hg4 (fun q hq => by cases hq); have HW4 : Hid _ := hW4'; have HG4 : Hid (w3.grownBy w4 none) := hg4; clear hW4 hW4' hg4 hn4 hat4)
    have hs4 : w3.heap.size ≤ w4.heap.size := HG4.out.size
    go_loopw [10] (fun y wr => ∃ (k : Nat) (ys : List Value), k ≤ n ∧ y = .int .i64 k ∧ Hid (ys.length = n ∧ wr.ownsRow w.heap.size 9 1 (.slice ao n cv) n ys ∧ w4.grownBy wr (Value.slice ao n cv).ownBlock)) (fun y _ => n - (intOf y).toNat)
    case atStart => exact ⟨0, xs, Nat.zero_le _, rfl, HLX.out, HA4.out, World.grownBy.refl _ _⟩
    case round =>
      obtain ⟨k, ys, hk, rfl, HX⟩ := hrel
      by_cases hlt : k < n
      · obtain ⟨g, cap, hv, hgl, hgr⟩ := owns_form HX.out.2.1 (by omega)
        obtain ⟨rfl, rfl⟩ : ao = some ⟨g, 0, none⟩ ∧ cv = cap := by cases hv; exact ⟨rfl, rfl⟩
        have hck : wr.cell? ⟨g, k, none⟩ = ys[k]? := HX.out.2.1.cellAt k (by omega)
        have hyk : ys[k]? = some (ys[k]'(by have := HX.out.1; omega)) := List.getElem?_eq_getElem _
        rw [hyk] at hck
        have hfk := HX.out.2.1.frozenAt k
        have HS := HX.out.2.1.stored k (.string ⟨#[63]⟩)
        have HNX : Hid ((ys.set k (.string ⟨#[63]⟩)).length = n ∧ (wr.setCell ⟨g, k, none⟩ (.string ⟨#[63]⟩)).ownsRow w.heap.size 9 1 (.slice (some ⟨g, 0, none⟩) n cv) n (ys.set k (.string ⟨#[63]⟩)) ∧ w4.grownBy (wr.setCell ⟨g, k, none⟩ (.string ⟨#[63]⟩)) (Value.slice (some ⟨g, 0, none⟩) n cv).ownBlock) := ⟨by rw [List.length_set]; exact HX.out.1, HS.1, HX.out.2.2.trans HS.2⟩
        have hlt2 : (k : Int) < (n : Int) := by omega
        clear hv hyk HS
        go_wp2_with fail
        go_roundw
        case rel => exact ⟨k + 1, _, by omega, by go_num, HNX.out⟩
        case measure => simp [intOf]; omega
      · have hlt2 : ¬ (k : Int) < (n : Int) := by omega
        have hsr : w4.heap.size ≤ wr.heap.size := HX.out.2.2.size
        go_wp2_with (at_builtin; refine wpList_append_own_at _ rfl _ _ 30 rfl w.heap.size 9 i0 (.string ByteArray.empty) 1 16 Try.underlying30 hi hz0 hz1 hz2 rfl (by decide) _ _ _ rfl (HX.out.2.1.alloc _) ⟨wr.heap.size, 0, none⟩ 2 2 [.string ⟨#[63]⟩, .string ⟨#[63]⟩] rfl rfl (row_two _ _ _ _) (fun x hx => by simp at hx; subst hx; rfl) (by unfold maxLen; omega) (by omega) (by simp; omega) ?_; intro v' w5 hown' hgrow5 hnil5 hat5; obtain ⟨g5, cap5, rfl⟩ := own_slice2 hown'; obtain ⟨⟨u5, hc5⟩, hf5, hx5⟩ := mem_fin HGET.out hs1 hs3 HAL.out HW3.out HB3.out HG4.out HW4.out HX.out.2.2 hown' HX.out.1 hgrow5 hat5; have HX5 : Hid _ := hx5; clear hx5 hown' hgrow5 hnil5 hat5)
        go_loopw [11] (fun y wq => ∃ k : Nat, k ≤ n ∧ y = .int .i64 k ∧ Hid (∃ m, wq = (w5.setCell ⟨g5, 0, none⟩ (.string ⟨#[33]⟩)).drewN m)) (fun y _ => n - (intOf y).toNat)
        case atStart => exact ⟨0, Nat.zero_le _, rfl, 0, rfl⟩
        case round =>
          obtain ⟨j, hj, rfl, HQ⟩ := hrel
          by_cases hjn : j < n
          · obtain ⟨x, gb, gw, e1, e2, q1, q2⟩ := HX5.out.2 j hjn
            cases e1
            cases e2
            obtain ⟨m5, rfl⟩ := HQ.out
            have hq : (x.toList == x.toList) = true := by simp
            have hlt3 : (j : Int) < (n : Int) := by omega
            go_wp2_with fail
            go_quiet (fail)
            go_wp2_with fail
            go_roundw
            case rel => exact ⟨j + 1, by omega, by go_num, m5 + nq, rfl⟩
            case measure => simp [intOf]; omega
          · obtain ⟨m5, rfl⟩ := HQ.out
            have hlt3 : ¬ (j : Int) < (n : Int) := by omega
            go_wp2_with fail
            go_ret
            exact ⟨rfl, HX5.out.1.os, HX5.out.1.tape, HX5.out.1.output, HX5.out.1.size, HX5.out.1.block⟩

theorem contract (H : Type) (enc : TypeId × Value → H) (W : World) (base : Nat) (args : Array Value) (ds gs : List (DataW H)) (before : List MemPlace)
    (hval : ∀ (j : Nat) t v, Try.f4.params[j]? = some t → args[j]? = some v → Value.okWide Try.prog W .any base t v)
    (hW : DataW.Whole enc Try.prog Try.f4.params.toList Rows.typesMemorySpec.vars false W args.toList ds gs before) :
    Calls Try.prog 4 args W fun e W' => ∃ v, e = .returned v ∧ Rows.typesMemorySpec.post enc Try.prog Try.f4 false true false false W args v W' := by
  have hW' := hW
  obtain ⟨p, q, hA0, hV, rfl, hfz, hnd⟩ := hW
  have hA : DataW.TrodAll enc Try.prog W 0 (fun _ => true) true Try.f4.params.toList args.toList ds p := hA0
  rw [Try.params4] at hA hval
  obtain ⟨v0, vs0, d0, ds0, p0, q0, hargs, rfl, rfl, h0, r0⟩ := trodAll_cons hA
  obtain ⟨rfl, rfl, rfl⟩ := trodAll_nil r0
  obtain rfl : args = #[v0] := by cases args; simp_all
  obtain ⟨rfl, rfl⟩ := trodVars_none hV
  obtain ⟨a0, rfl, rfl, rfl, w0⟩ := open_string Try.underlying9 (hval 0 9 v0 rfl rfl) h0
  clear hA0
  simp only [List.append_nil] at hW'
  refine (walk a0 w0  W).mono fun e W' ⟨he, bel⟩ => ?_
  subst he
  exact ⟨_, rfl, _, _, _, [], [], [], hW', trodAll_mk1 (shut_bool Try.underlying4 _), (trodAll_cons_mk (shut_string Try.underlying9 w0) trodAll_mk0), rfl, bel.frame _, fun h => by cases h⟩

set_option maxRecDepth 100000 in
theorem lifted (os : Os) (started : os.Started) (H : Type) (enc : TypeId × Value → H) :
    ReturnsInHanded {} Try.checked os 4 .any (Rows.typesMemorySpec.pre6 enc Try.prog Try.f4 Rows.typesMemoryRow.domain false) (Rows.typesMemorySpec.post enc Try.prog Try.f4 false true false false) := by
  refine returnsInHanded_of_change (C := Try.checked) own started (by kernel_rfl) Try.func4
    (ChangeSpec.witness6 (enc := enc) (C := Try.checked) false ⟨#[], #[.string ByteArray.empty], []⟩ 8 (by kernel_rfl) (by kernel_rfl) (by kernel_rfl) (by kernel_rfl)) ?_
  intro W base args ds gs before hval0 hW hcnd _
  exact contract H enc W base args ds gs before hval0 hW

theorem proved : Rows.TypesMemorySaid :=
  OpenClaim.holds_of_wide 4 Try.f4 rfl rfl rfl rfl rfl rfl rfl ⟨rfl, rfl, rfl, rfl, rfl⟩ rfl rfl rfl rfl rfl (by kernel_rfl) Try.func4 (by kernel_rfl)
    (of_decide_eq_true (by kernel_rfl)) (by unfold Func.isWrapper; first | (rw [if_pos (by decide +kernel)]; kernel_rfl) | (rw [if_neg (by decide +kernel)]; exact ⟨rfl, rfl⟩))
    (fun os started H enc _ => lifted os started H enc)
#print axioms proved
end Go.Proofs.Ytmcechcigehjbab.typesMemory
