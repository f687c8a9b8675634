/-
  TypesFuncs returns true for all lists of texts and texts, and the arguments read afterwards as before; no condition.
-/
import Derived.Test.YtmcechcigehjbaaReffunc
import Derived.Maps.AppendAt
import Derived.ProofKit
import Derived.OpenShut
import Derived.Test.YtmcechcigehjbaaCame
namespace Go.Proofs.Ytmcechcigehjbaa.typesFuncs
open Go.ChangeShapes Go.WideShapes Go.ChangeAt Go.RowKit
open Go.WideMaps Go.WideElems
open Go.ChangeMaps (open_string shut_string)
set_option linter.unusedSimpArgs false
set_option maxRecDepth 100000
set_option linter.unusedVariables false

theorem own : ownKnob Try.prog.godebug = none := by kernel_rfl

theorem made_int : funcE [] [105, 110, 116] = 0 ∧ funcV [] [105, 110, 116] = [102, 117, 110, 99, 40, 41, 105, 110, 116] := by decide +kernel
set_option maxHeartbeats 4000000 in
theorem walk (v0 : Value) (xs : List ByteArray) (a1 : ByteArray) (w : World) (hC : Came w v0 xs) (hS : ∀ s ∈ xs, s.size ≤ maxLen) (hN : xs.length * 16 ≤ 140737488351232) (w1 : a1.size ≤ maxLen) :
    Calls Try.prog 6 #[v0, .string a1] w fun e w' => e = .returned (.bool true) ∧ Below w.heap.size w w' := by
  have HFN : Hid (∀ (v : Value) (W : World), Lies W v xs → Calls Try.prog 16 #[v, .string a1] W (FuncPost W xs a1.data.toList)) := fun v W hL => own_func v xs a1 W hL hS w1
  have HFR : Hid (∀ (v : Value) (W : World), Came W v xs → Calls Try.prog 17 #[v, .string a1] W (FuncPost W xs a1.data.toList)) := fun v W hL => ref_func v xs a1 W hL hS w1 hN
  have HFI : Hid (∀ (W : World), Calls Try.prog 16 #[.slice none 0 0, .string ⟨#[105, 110, 116]⟩] W fun e w' => e = .returned (.tuple #[.string ⟨#[102, 117, 110, 99, 40, 41, 105, 110, 116]⟩, .int .i64 0]) ∧ Below W.heap.size W w') := fun W => by
    have := own_func (.slice none 0 0) [] ⟨#[105, 110, 116]⟩ W ⟨none, 0, rfl, fun h => absurd rfl h⟩ (fun x hx => by cases hx) (by decide)
    unfold FuncPost at this
    rw [made_int.1, made_int.2] at this
    exact this
  unfold FuncPost at HFN HFR
  obtain ⟨i0, hi, hz0, hz1, hz2⟩ := info_parts Try.info9
  have hN2 : xs.length ≤ 8796093022208 := by omega
  have hq : ((⟨(funcV xs a1.data.toList).toArray⟩ : ByteArray).toList == (⟨(funcV xs a1.data.toList).toArray⟩ : ByteArray).toList) = true := by simp
  rcases hC with ⟨rfl, rfl⟩ | ⟨ad, cap, rfl, hcap, hspot, hcell⟩
  · have HLc : Hid (Lies w (.slice none 0 0) []) := ⟨none, 0, rfl, fun h => absurd rfl h⟩
    have HBc : Hid (Below w.heap.size w w) := Below.refl _ _
    have HCAME : Hid (Came w (.slice none 0 0) []) := .inl ⟨rfl, rfl⟩
    clear hS hN
    go_enter Try.func6, Try.ntmps6
    go_wp2_with fail
    generalize (⟨(funcV [] a1.data.toList).toArray⟩ : ByteArray) = t at *
    generalize funcE [] a1.data.toList = m at *
    refine (HFN.out _ _ HLc.out).mono ?_
    rintro e w2 ⟨rfl, b2⟩
    have HB2 : Hid (Below w.heap.size w w2) := HBc.out.trans (b2.mono HBc.out.size)
    clear b2
    go_wp2_with fail
    refine (HFR.out _ _ (HCAME.out.below HB2.out)).mono ?_
    rintro e w3 ⟨rfl, b3⟩
    have HB3 : Hid (Below w.heap.size w w3) := HB2.out.trans (b3.mono HB2.out.size)
    clear b3
    go_wp2_with fail
    refine (HFI.out _).mono ?_
    rintro e w4 ⟨rfl, b4⟩
    have HB4 : Hid (Below w.heap.size w w4) := HB3.out.trans (b4.mono HB3.out.size)
    clear b4
    go_wp2_with fail
    go_ret
    exact ⟨by first | rfl | simp, HB4.out⟩
  · have HCAME : Hid (Came w (.slice (some ad) xs.length cap) xs) := .inr ⟨ad, cap, rfl, hcap, hspot, hcell⟩
    have HST : Hid (∀ u ∈ xs.map Value.string, u.oneCell' = true) := fun u hu => by obtain ⟨x, _, rfl⟩ := List.mem_map.1 hu; rfl
    have HNW : Hid (∀ j u, (xs.map Value.string)[j]? = some u → w.cell? (ad.add j) = some u) := fun j u hu => by
      rw [List.getElem?_map] at hu
      obtain ⟨x, hx, rfl⟩ := Option.map_eq_some_iff.1 hu
      exact hcell j x hx
    clear hS hN hspot hcell
    go_enter Try.func6, Try.ntmps6
    go_wp2_with (at_builtin; refine wpList_append_own _ rfl _ _ 23 rfl w.heap.size 9 i0 (.string ByteArray.empty) 1 16 Try.underlying23 hi hz0 hz1 hz2 rfl (by decide) _ _ _ rfl (World.ownsRow_nil _ _ _ _) ad xs.length cap (xs.map Value.string) rfl (by simp) HNW.out HST.out (by unfold maxLen; omega) (by omega) (Nat.le_refl _) ?_; intro vc wc hWc hgc hnc; rw [Nat.zero_add, List.nil_append] at hWc; have HLc : Hid (Lies wc vc xs) := lies_of hWc rfl; have HBc : Hid (Below w.heap.size w wc) := ⟨hgc.os, hgc.tape, hgc.output, hgc.size, fun k hk => hgc.block k hk (fun h => by have h' : some k = none := h; cases h')⟩; clear hWc hgc hnc)
    generalize (⟨(funcV xs a1.data.toList).toArray⟩ : ByteArray) = t at *
    generalize funcE xs a1.data.toList = m at *
    refine (HFN.out _ _ HLc.out).mono ?_
    rintro e w2 ⟨rfl, b2⟩
    have HB2 : Hid (Below w.heap.size w w2) := HBc.out.trans (b2.mono HBc.out.size)
    clear b2
    go_wp2_with fail
    refine (HFR.out _ _ (HCAME.out.below HB2.out)).mono ?_
    rintro e w3 ⟨rfl, b3⟩
    have HB3 : Hid (Below w.heap.size w w3) := HB2.out.trans (b3.mono HB2.out.size)
    clear b3
    go_wp2_with fail
    refine (HFI.out _).mono ?_
    rintro e w4 ⟨rfl, b4⟩
    have HB4 : Hid (Below w.heap.size w w4) := HB3.out.trans (b4.mono HB3.out.size)
    clear b4
    go_wp2_with fail
    go_ret
    exact ⟨by first | rfl | simp, HB4.out⟩

theorem contract (H : Type) (enc : TypeId × Value → H) (W : World) (base : Nat) (args : Array Value) (ds gs : List (DataW H)) (before : List MemPlace)
    (hval : ∀ (j : Nat) t v, Try.f6.params[j]? = some t → args[j]? = some v → Value.okWide Try.prog W .any base t v)
    (hW : DataW.Whole enc Try.prog Try.f6.params.toList Rows.typesFuncsSpec.vars false W args.toList ds gs before)
    (hsz : (DataW.weightsEach Try.prog (Try.f6.params.toList ++ Rows.typesFuncsSpec.plain.varTypes Try.prog) (ds ++ gs)).all (· ≤ reachBytes) = true) :
    Calls Try.prog 6 args W fun e W' => ∃ v, e = .returned v ∧ Rows.typesFuncsSpec.post enc Try.prog Try.f6 false true false false W args v W' := by
  have hW' := hW
  obtain ⟨p, q, hA0, hV, rfl, hfz, hnd⟩ := hW
  have hA : DataW.TrodAll enc Try.prog W 0 (fun _ => true) true Try.f6.params.toList args.toList ds p := hA0
  rw [Try.params6] at hA hval hsz
  obtain ⟨v0, vs0, d0, ds0, p0, q0, hargs, rfl, rfl, h0, r0⟩ := trodAll_cons hA
  obtain ⟨v1, vs1, d1, ds1, p1, q1, rfl, rfl, rfl, h1, r1⟩ := trodAll_cons r0
  obtain ⟨rfl, rfl, rfl⟩ := trodAll_nil r1
  obtain rfl : args = #[v0, v1] := by cases args; simp_all
  obtain ⟨rfl, rfl⟩ := trodVars_none hV
  obtain ⟨a1, rfl, rfl, rfl, w1⟩ := open_string Try.underlying9 (hval 1 9 v1 rfl rfl) h1
  obtain ⟨ao, len, cap, rfl⟩ := okWide_slice Try.underlying23 (hval 0 23 v0 rfl rfl)
  have h0k := h0
  obtain ⟨fuel0, hf0⟩ := h0
  obtain ⟨xs, hC, hS, hshape⟩ := came_of hf0
  have hN : xs.length * 16 ≤ 140737488351232 := by
    rcases hshape with h | ⟨spare, hd⟩
    · rw [h]; decide
    · have := sized_slice hsz (j := 0) (t := 23) (e := 9) rfl (by simp only at hd; rw [hd]; rfl) Try.underlying23
      rw [Try.bytesStr] at this
      simp only [strs, List.length_map, reachBytes] at this
      omega
  clear hA0
  simp only [List.append_nil] at hW'
  have hlt : ∀ x ∈ p0, x.block < W.heap.size := fun x hx => hW'.lt x (by simpa using hx)
  refine (walk _ xs a1 W hC hS hN w1).mono fun e W' ⟨he, bel⟩ => ?_
  subst he
  exact ⟨_, rfl, _, _, _, [], p0 ++ ([] ++ []), [], hW', trodAll_mk1 (shut_bool Try.underlying4 _), trodAll_cons_mk (Below.trod (by kernel_rfl) (by kernel_rfl) (of_decide_eq_true (by kernel_rfl)) h0k bel hlt) (trodAll_cons_mk (shut_string Try.underlying9 w1) trodAll_mk0), rfl, bel.frame _, fun h => by cases h⟩

set_option maxRecDepth 100000 in
theorem lifted (os : Os) (started : os.Started) (H : Type) (enc : TypeId × Value → H) :
    ReturnsInHanded {} Try.checked os 6 .any (Rows.typesFuncsSpec.pre6 enc Try.prog Try.f6 Rows.typesFuncsRow.domain false) (Rows.typesFuncsSpec.post enc Try.prog Try.f6 false true false false) := by
  refine returnsInHanded_of_change_sized (C := Try.checked) own started (by kernel_rfl) Try.func6
    (ChangeSpec.witness6 (enc := enc) (C := Try.checked) false ⟨#[], #[.slice none 0 0, .string ByteArray.empty], []⟩ 8 (by kernel_rfl) (by kernel_rfl) (by kernel_rfl) (by kernel_rfl)) ?_
  intro W base args ds gs before hval0 hW hcnd hsz _
  exact contract H enc W base args ds gs before hval0 hW hsz

theorem proved : Rows.TypesFuncsSaid :=
  OpenClaim.holds_of_wide 6 Try.f6 rfl rfl rfl rfl rfl rfl rfl ⟨rfl, rfl, rfl, rfl, rfl⟩ rfl rfl rfl rfl rfl (by kernel_rfl) Try.func6 (by kernel_rfl)
    (of_decide_eq_true (by kernel_rfl)) (by unfold Func.isWrapper; first | (rw [if_pos (by decide +kernel)]; kernel_rfl) | (rw [if_neg (by decide +kernel)]; exact ⟨rfl, rfl⟩))
    (fun os started H enc _ => lifted os started H enc)
#print axioms proved
end Go.Proofs.Ytmcechcigehjbaa.typesFuncs
