/-
  TypesMade returns true for all lists of texts and texts, and the arguments read afterwards as before; no condition.
-/
import Derived.Test.YtmcechcigehjbabTyplain5
import Derived.Test.YtmcechcigehjbabOwnfunc2
import Derived.Maps.AppendAt
import Derived.Deep.QuietTactic
import Derived.BigQuiet
import Derived.ProofKit
import Derived.OpenShut
import Derived.Test.YtmcechcigehjbabCame
namespace Go.Proofs.Ytmcechcigehjbab.typesMade
open Go.ChangeShapes Go.WideShapes Go.ChangeAt Go.RowKit
open Go.WideMaps Go.WideElems
open Go.ChangeMaps (open_string shut_string)
set_option linter.unusedSimpArgs false
set_option maxRecDepth 100000
set_option linter.unusedVariables false

theorem own : ownKnob Try.prog.godebug = none := by kernel_rfl

theorem made_vals {xs : List ByteArray} {r : ByteArray} (h : funcE xs r.data.toList = 0) : funcV xs r.data.toList = funcT xs r.data.toList ∧ validF (funcT xs r.data.toList) = true ∧ valid (funcT xs r.data.toList) = true ∧ parT (funcT xs r.data.toList) = xs ∧ errV (funcT xs r.data.toList) = 0 ∧ resV (funcT xs r.data.toList) = r ∧ (funcT xs r.data.toList).length ≤ 100 := by
  have hv : funcV xs r.data.toList = funcT xs r.data.toList := by unfold funcV; rw [if_pos h]
  unfold funcE at h
  split at h
  · cases h
  · next h4 =>
    split at h
    · cases h
    · next hp =>
      split at h
      · cases h
      · next hr =>
        split at h
        · cases h
        · next hl =>
          have hp' : partsOk xs = true := by cases hq : partsOk xs with | true => rfl | false => exact absurd hq hp
          have hr' : r.data.toList = [] ∨ valid r.data.toList = true := by
            by_cases e : r.data.toList = []
            · exact .inl e
            · right
              cases hq : valid r.data.toList with
              | true => rfl
              | false => exact absurd ⟨e, hq⟩ hr
          obtain ⟨m1, m2, m3⟩ := func_made (xs := xs) (r := r.data.toList) (by omega) hp' hr' (by omega)
          have m4 : valid (funcT xs r.data.toList) = true := by unfold validF at m1; rw [Bool.and_eq_true] at m1; exact m1.2
          exact ⟨hv, m1, m4, m2, by unfold errV; rw [if_pos m1], by unfold resV; rw [if_pos m1, m3], by omega⟩
theorem made_not {xs : List ByteArray} {r : Tx} (h : funcE xs r ≠ 0) : funcV xs r = [] := by unfold funcV; rw [if_neg h]
theorem made_int : funcE [⟨#[105, 110, 116]⟩] [] = 0 ∧ funcV [⟨#[105, 110, 116]⟩] [] = [102, 117, 110, 99, 40, 105, 110, 116, 41] := by decide +kernel
theorem lies_one (w : World) (x : ByteArray) : Lies (w.alloc (.cells #[.string x] 9)) (.slice (some ⟨w.heap.size, 0, none⟩) 1 1) [x] := by
  refine ⟨some ⟨w.heap.size, 0, none⟩, 1, rfl, fun _ => ⟨Nat.le_refl _, w.heap.size, rfl, fun k y hk => ?_⟩⟩
  match k, hk with
  | 0, hk => simp at hk; subst hk; simp
set_option maxHeartbeats 8000000 in
theorem walk (v0 : Value) (xs : List ByteArray) (a1 : ByteArray) (w : World) (hC : Came w v0 xs) (hS : ∀ s ∈ xs, s.size ≤ maxLen) (hN : xs.length * 16 ≤ 140737488351232) (w1 : a1.size ≤ maxLen) :
    Calls Try.prog 6 #[v0, .string a1] w fun e w' => e = .returned (.bool true) ∧ Below w.heap.size w w' := by
  have HFN : Hid (∀ (v : Value) (W : World), Lies W v xs → Calls Try.prog 13 #[v, .string a1] W (FuncPost W xs a1.data.toList)) := fun v W hL => own_func v xs a1 W hL hS w1
  have HFI : Hid (∀ (W : World), Calls Try.prog 13 #[.slice (some ⟨W.heap.size, 0, none⟩) 1 1, .string ⟨#[]⟩] (W.alloc (.cells #[.string ⟨#[105, 110, 116]⟩] 9)) fun e w' => e = .returned (.tuple #[.string ⟨#[102, 117, 110, 99, 40, 105, 110, 116, 41]⟩, .int .i64 0]) ∧ Below (W.heap.size + 1) (W.alloc (.cells #[.string ⟨#[105, 110, 116]⟩] 9)) w') := fun W => by
    have := own_func _ [⟨#[105, 110, 116]⟩] ⟨#[]⟩ _ (lies_one W ⟨#[105, 110, 116]⟩) (fun x hx => by simp at hx; subst hx; decide) (by decide)
    unfold FuncPost at this
    rw [made_int.1, made_int.2] at this
    simpa using this
  have HVL : Hid (∀ (t : ByteArray) (w : World), t.size ≤ maxLen → Calls Try.prog 14 #[.string t] w fun e w' => e = .returned (.bool (valid t.data.toList)) ∧ Below w.heap.size w w') := own_valid
  unfold FuncPost at HFN
  obtain ⟨i0, hi, hz0, hz1, hz2⟩ := info_parts Try.info9
  have hN2 : xs.length ≤ 8796093022208 := by omega
  rcases hC with ⟨rfl, rfl⟩ | ⟨ad, cap, rfl, hcap, hspot, hcell⟩
  · have HLc : Hid (Lies w (.slice none 0 0) []) := ⟨none, 0, rfl, fun h => absurd rfl h⟩
    have HBc : Hid (Below w.heap.size w w) := Below.refl _ _
    have HCAME : Hid (Came w (.slice none 0 0) []) := .inl ⟨rfl, rfl⟩
    clear hS hN
    go_enter Try.func6, Try.ntmps6
    go_wp2_with fail
    by_cases hE : funcE [] a1.data.toList = 0
    · obtain ⟨z1, z2, z3, z4, z5, z6, z7⟩ := made_vals hE
      rw [hE, z1] at HFN
      have hsz : (⟨(funcT [] a1.data.toList).toArray⟩ : ByteArray).size ≤ maxLen := by rw [← bsize_list]; unfold maxLen; simp only [List.toList_toArray]; omega
      have HPR : Hid (∀ (W : World), Calls Try.prog 11 #[.string ⟨(funcT [] a1.data.toList).toArray⟩] W fun e w' => ∃ (ao : Option Addr) (cv : Nat), e = .returned (.tuple #[.slice ao 0 cv, .int .i64 0]) ∧ w'.ownsRow W.heap.size 9 1 (.slice ao 0 cv) 0 (([] : List ByteArray).map Value.string) ∧ Below W.heap.size W w') := fun W => by
        have := own_pars ⟨(funcT [] a1.data.toList).toArray⟩ W hsz
        unfold ParPost at this
        simp only [List.toList_toArray] at this
        rw [z4, z5] at this
        exact this
      have HRS : Hid (∀ (W : World), Calls Try.prog 12 #[.string ⟨(funcT [] a1.data.toList).toArray⟩] W fun e w' => e = .returned (.tuple #[.string a1, .int .i64 0]) ∧ Below W.heap.size W w') := fun W => by
        have := own_res ⟨(funcT [] a1.data.toList).toArray⟩ W hsz
        simp only [List.toList_toArray] at this
        rw [z5, z6] at this
        exact this
      have HVT : Hid (∀ (W : World), Calls Try.prog 14 #[.string ⟨(funcT [] a1.data.toList).toArray⟩] W fun e w' => e = .returned (.bool true) ∧ Below W.heap.size W w') := fun W => by
        have := HVL.out ⟨(funcT [] a1.data.toList).toArray⟩ W hsz
        simp only [List.toList_toArray] at this
        rw [z3] at this
        exact this
      generalize (⟨(funcT [] a1.data.toList).toArray⟩ : ByteArray) = t at *
      have hq1 : (a1.toList == a1.toList) = true := by simp
      clear hE z1 z2 z3 z4 z5 z6 z7 hsz
      refine (HFN.out _ _ HLc.out).mono ?_
      rintro e w2 ⟨rfl, b2⟩
      have HB2 : Hid (Below w.heap.size w w2) := HBc.out.trans (b2.mono HBc.out.size)
      clear b2
      go_wp2_with fail
      refine (HFI.out _).mono ?_
      rintro e w3 ⟨rfl, b3⟩
      have HB3 : Hid (Below w.heap.size w w3) := (HB2.out.alloc HB2.out.size _).trans (b3.mono (Nat.le_succ_of_le HB2.out.size))
      clear b3
      go_wp2_with fail
      refine (HPR.out _).mono ?_
      rintro e w4 ⟨po, cp, rfl, hp4, b4⟩
      have HP4 : Hid (Lies w4 (.slice po 0 cp) []) := lies_of hp4 rfl
      have HB4 : Hid (Below w.heap.size w w4) := HB3.out.trans (b4.mono HB3.out.size)
      clear hp4 b4
      go_wp2_with fail
      refine (HRS.out _).mono ?_
      rintro e w5 ⟨rfl, b5⟩
      have HP5 : Hid (Lies w5 (.slice po 0 cp) []) := HP4.out.below b5
      have HB5 : Hid (Below w.heap.size w w5) := HB4.out.trans (b5.mono HB4.out.size)
      clear b5
      go_wp2_with fail
      refine (HVT.out _).mono ?_
      rintro e w6 ⟨rfl, b6⟩
      have HP6 : Hid (([] : List ByteArray) ≠ [] → 0 ≤ cp ∧ ∃ g, po = some ⟨g, 0, none⟩ ∧ ∀ (k : Nat) x, ([] : List ByteArray)[k]? = some x → w6.cell? ⟨g, k, none⟩ = some (.string x)) := by
        obtain ⟨ao, cv, e, h⟩ := HP5.out.below b6
        cases e
        exact h
      have HB6 : Hid (Below w.heap.size w w6) := HB5.out.trans (b6.mono HB5.out.size)
      have HC6 : Hid (Came w6 (.slice none 0 0) []) := HCAME.out.below HB6.out
      clear b6
      go_wp2_with fail
      go_loopw [13] (fun y wr => y = .int .i64 0 ∧ Hid (wr = w6)) (fun _ _ => 0)
      case atStart => exact ⟨rfl, rfl⟩
      case round =>
        obtain ⟨rfl, HQ⟩ := hrel
        have hQ := HQ.out
        subst hQ
        clear HQ
        go_wp2_with fail
        go_ret
        exact ⟨rfl, HB6.out⟩
    · have hV := made_not hE
      rw [hV] at HFN
      have hne : ((funcE [] a1.data.toList) == 0) = false := by rw [beq_eq_false_iff_ne]; exact hE
      generalize funcE [] a1.data.toList = m at *
      clear hV hE
      refine (HFN.out _ _ HLc.out).mono ?_
      rintro e w2 ⟨rfl, b2⟩
      have HB2 : Hid (Below w.heap.size w w2) := HBc.out.trans (b2.mono HBc.out.size)
      clear b2
      go_wp2_with fail
      refine (HFI.out _).mono ?_
      rintro e w3 ⟨rfl, b3⟩
      have HB3 : Hid (Below w.heap.size w w3) := (HB2.out.alloc HB2.out.size _).trans (b3.mono (Nat.le_succ_of_le HB2.out.size))
      clear b3
      go_wp2_with fail
      go_ret
      exact ⟨rfl, HB3.out⟩
  · have HCAME : Hid (Came w (.slice (some ad) xs.length cap) xs) := .inr ⟨ad, cap, rfl, hcap, hspot, hcell⟩
    have HST : Hid (∀ u ∈ xs.map Value.string, u.oneCell' = true) := fun u hu => by obtain ⟨x, _, rfl⟩ := List.mem_map.1 hu; rfl
    have HNW : Hid (∀ j u, (xs.map Value.string)[j]? = some u → w.cell? (ad.add j) = some u) := fun j u hu => by
      rw [List.getElem?_map] at hu
      obtain ⟨x, hx, rfl⟩ := Option.map_eq_some_iff.1 hu
      exact hcell j x hx
    clear hS hN hspot hcell
    go_enter Try.func6, Try.ntmps6
    go_wp2_with (at_builtin; refine wpList_append_own _ rfl _ _ 30 rfl w.heap.size 9 i0 (.string ByteArray.empty) 1 16 Try.underlying30 hi hz0 hz1 hz2 rfl (by decide) _ _ _ rfl (World.ownsRow_nil _ _ _ _) ad xs.length cap (xs.map Value.string) rfl (by simp) HNW.out HST.out (by unfold maxLen; omega) (by omega) (Nat.le_refl _) ?_; intro vc wc hWc hgc hnc; rw [Nat.zero_add, List.nil_append] at hWc; have HLc : Hid (Lies wc vc xs) := lies_of hWc rfl; have HBc : Hid (Below w.heap.size w wc) := ⟨hgc.os, hgc.tape, hgc.output, hgc.size, fun k hk => hgc.block k hk (fun h => by have h' : some k = none := h; cases h')⟩; clear hWc hgc hnc)
    by_cases hE : funcE xs a1.data.toList = 0
    · obtain ⟨z1, z2, z3, z4, z5, z6, z7⟩ := made_vals hE
      rw [hE, z1] at HFN
      have hsz : (⟨(funcT xs a1.data.toList).toArray⟩ : ByteArray).size ≤ maxLen := by rw [← bsize_list]; unfold maxLen; simp only [List.toList_toArray]; omega
      have HPR : Hid (∀ (W : World), Calls Try.prog 11 #[.string ⟨(funcT xs a1.data.toList).toArray⟩] W fun e w' => ∃ (ao : Option Addr) (cv : Nat), e = .returned (.tuple #[.slice ao xs.length cv, .int .i64 0]) ∧ w'.ownsRow W.heap.size 9 1 (.slice ao xs.length cv) xs.length (xs.map Value.string) ∧ Below W.heap.size W w') := fun W => by
        have := own_pars ⟨(funcT xs a1.data.toList).toArray⟩ W hsz
        unfold ParPost at this
        simp only [List.toList_toArray] at this
        rw [z4, z5] at this
        exact this
      have HRS : Hid (∀ (W : World), Calls Try.prog 12 #[.string ⟨(funcT xs a1.data.toList).toArray⟩] W fun e w' => e = .returned (.tuple #[.string a1, .int .i64 0]) ∧ Below W.heap.size W w') := fun W => by
        have := own_res ⟨(funcT xs a1.data.toList).toArray⟩ W hsz
        simp only [List.toList_toArray] at this
        rw [z5, z6] at this
        exact this
      have HVT : Hid (∀ (W : World), Calls Try.prog 14 #[.string ⟨(funcT xs a1.data.toList).toArray⟩] W fun e w' => e = .returned (.bool true) ∧ Below W.heap.size W w') := fun W => by
        have := HVL.out ⟨(funcT xs a1.data.toList).toArray⟩ W hsz
        simp only [List.toList_toArray] at this
        rw [z3] at this
        exact this
      generalize (⟨(funcT xs a1.data.toList).toArray⟩ : ByteArray) = t at *
      have hq1 : (a1.toList == a1.toList) = true := by simp
      clear hE z1 z2 z3 z4 z5 z6 z7 hsz
      refine (HFN.out _ _ HLc.out).mono ?_
      rintro e w2 ⟨rfl, b2⟩
      have HB2 : Hid (Below w.heap.size w w2) := HBc.out.trans (b2.mono HBc.out.size)
      clear b2
      go_wp2_with fail
      refine (HFI.out _).mono ?_
      rintro e w3 ⟨rfl, b3⟩
      have HB3 : Hid (Below w.heap.size w w3) := (HB2.out.alloc HB2.out.size _).trans (b3.mono (Nat.le_succ_of_le HB2.out.size))
      clear b3
      go_wp2_with fail
      refine (HPR.out _).mono ?_
      rintro e w4 ⟨po, cp, rfl, hp4, b4⟩
      have HP4 : Hid (Lies w4 (.slice po xs.length cp) xs) := lies_of hp4 rfl
      have HB4 : Hid (Below w.heap.size w w4) := HB3.out.trans (b4.mono HB3.out.size)
      clear hp4 b4
      go_wp2_with fail
      refine (HRS.out _).mono ?_
      rintro e w5 ⟨rfl, b5⟩
      have HP5 : Hid (Lies w5 (.slice po xs.length cp) xs) := HP4.out.below b5
      have HB5 : Hid (Below w.heap.size w w5) := HB4.out.trans (b5.mono HB4.out.size)
      clear b5
      go_wp2_with fail
      refine (HVT.out _).mono ?_
      rintro e w6 ⟨rfl, b6⟩
      have HP6 : Hid (xs ≠ [] → xs.length ≤ cp ∧ ∃ g, po = some ⟨g, 0, none⟩ ∧ ∀ (k : Nat) x, xs[k]? = some x → w6.cell? ⟨g, k, none⟩ = some (.string x)) := by
        obtain ⟨ao, cv, e, h⟩ := HP5.out.below b6
        cases e
        exact h
      have HB6 : Hid (Below w.heap.size w w6) := HB5.out.trans (b6.mono HB5.out.size)
      have HC6 : Hid (Came w6 (.slice (some ad) xs.length cap) xs) := HCAME.out.below HB6.out
      clear b6
      go_wp2_with fail
      go_loopw [13] (fun y wr => ∃ k : Nat, k ≤ xs.length ∧ y = .int .i64 k ∧ Hid (∃ m, wr = w6.drewN m)) (fun y _ => xs.length - (intOf y).toNat)
      case atStart => exact ⟨0, Nat.zero_le _, rfl, 0, rfl⟩
      case round =>
        obtain ⟨k, hk, rfl, HQ⟩ := hrel
        by_cases hkn : k < xs.length
        · have hne : xs ≠ [] := fun e => by rw [e] at hkn; simp at hkn
          obtain ⟨bb, off, cc, e1, hcc, q1⟩ := HC6.out.cells hne
          obtain ⟨hpc, gp, e2, q2⟩ := HP6.out hne
          have hx : xs[k]? = some xs[k] := List.getElem?_eq_getElem hkn
          have c1 := q1 k _ hx
          have c2 := q2 k _ hx
          clear q1 q2 hx
          cases e1
          cases e2
          obtain ⟨m5, rfl⟩ := HQ.out
          generalize xs[k] = x at *
          have hq : (x.toList == x.toList) = true := by simp
          have hlt3 : (k : Int) < (xs.length : Int) := by omega
          go_wp2_with fail
          go_quiet (fail)
          go_wp2_with fail
          go_roundw
          case rel => exact ⟨k + 1, by omega, by go_num, m5 + nq, rfl⟩
          case measure => simp [intOf]; omega
        · obtain ⟨m5, rfl⟩ := HQ.out
          have hlt3 : ¬ (k : Int) < (xs.length : Int) := by omega
          go_wp2_with fail
          go_ret
          exact ⟨rfl, HB6.out.os, HB6.out.tape, HB6.out.output, HB6.out.size, HB6.out.block⟩
    · have hV := made_not hE
      rw [hV] at HFN
      have hne : ((funcE xs a1.data.toList) == 0) = false := by rw [beq_eq_false_iff_ne]; exact hE
      generalize funcE xs a1.data.toList = m at *
      clear hV hE
      refine (HFN.out _ _ HLc.out).mono ?_
      rintro e w2 ⟨rfl, b2⟩
      have HB2 : Hid (Below w.heap.size w w2) := HBc.out.trans (b2.mono HBc.out.size)
      clear b2
      go_wp2_with fail
      refine (HFI.out _).mono ?_
      rintro e w3 ⟨rfl, b3⟩
      have HB3 : Hid (Below w.heap.size w w3) := (HB2.out.alloc HB2.out.size _).trans (b3.mono (Nat.le_succ_of_le HB2.out.size))
      clear b3
      go_wp2_with fail
      go_ret
      exact ⟨rfl, HB3.out⟩

theorem contract (H : Type) (enc : TypeId × Value → H) (W : World) (base : Nat) (args : Array Value) (ds gs : List (DataW H)) (before : List MemPlace)
    (hval : ∀ (j : Nat) t v, Try.f6.params[j]? = some t → args[j]? = some v → Value.okWide Try.prog W .any base t v)
    (hW : DataW.Whole enc Try.prog Try.f6.params.toList Rows.typesMadeSpec.vars false W args.toList ds gs before)
    (hsz : (DataW.weightsEach Try.prog (Try.f6.params.toList ++ Rows.typesMadeSpec.plain.varTypes Try.prog) (ds ++ gs)).all (· ≤ reachBytes) = true) :
    Calls Try.prog 6 args W fun e W' => ∃ v, e = .returned v ∧ Rows.typesMadeSpec.post enc Try.prog Try.f6 false true false false W args v W' := by
  have hW' := hW
  obtain ⟨p, q, hA0, hV, rfl, hfz, hnd⟩ := hW
  have hA : DataW.TrodAll enc Try.prog W 0 (fun _ => true) true Try.f6.params.toList args.toList ds p := hA0
  rw [Try.params6] at hA hval hsz
  obtain ⟨v0, vs0, d0, ds0, p0, q0, hargs, rfl, rfl, h0, r0⟩ := trodAll_cons hA
  obtain ⟨v1, vs1, d1, ds1, p1, q1, rfl, rfl, rfl, h1, r1⟩ := trodAll_cons r0
  obtain ⟨rfl, rfl, rfl⟩ := trodAll_nil r1
  obtain rfl : args = #[v0, v1] := by cases args; simp_all
  obtain ⟨rfl, rfl⟩ := trodVars_none hV
  obtain ⟨a1, rfl, rfl, rfl, w1⟩ := open_string Try.underlying9 (hval 1 9 v1 rfl rfl) h1
  obtain ⟨ao, len, cap, rfl⟩ := okWide_slice Try.underlying30 (hval 0 30 v0 rfl rfl)
  have h0k := h0
  obtain ⟨fuel0, hf0⟩ := h0
  obtain ⟨xs, hC, hS, hshape⟩ := came_of hf0
  have hN : xs.length * 16 ≤ 140737488351232 := by
    rcases hshape with h | ⟨spare, hd⟩
    · rw [h]; decide
    · have := sized_slice hsz (j := 0) (t := 30) (e := 9) rfl (by simp only at hd; rw [hd]; rfl) Try.underlying30
      rw [Try.bytesStr] at this
      simp only [strs, List.length_map, reachBytes] at this
      omega
  clear hA0
  simp only [List.append_nil] at hW'
  have hlt : ∀ x ∈ p0, x.block < W.heap.size := fun x hx => hW'.lt x (by simpa using hx)
  refine (walk _ xs a1 W hC hS hN w1).mono fun e W' ⟨he, bel⟩ => ?_
  subst he
  exact ⟨_, rfl, _, _, _, [], p0 ++ ([] ++ []), [], hW', trodAll_mk1 (shut_bool Try.underlying4 _), trodAll_cons_mk (Below.trod (by kernel_rfl) (by kernel_rfl) (of_decide_eq_true (by kernel_rfl)) h0k bel hlt) (trodAll_cons_mk (shut_string Try.underlying9 w1) trodAll_mk0), rfl, bel.frame _, fun h => by cases h⟩

set_option maxRecDepth 100000 in
theorem lifted (os : Os) (started : os.Started) (H : Type) (enc : TypeId × Value → H) :
    ReturnsInHanded {} Try.checked os 6 .any (Rows.typesMadeSpec.pre6 enc Try.prog Try.f6 Rows.typesMadeRow.domain false) (Rows.typesMadeSpec.post enc Try.prog Try.f6 false true false false) := by
  refine returnsInHanded_of_change_sized (C := Try.checked) own started (by kernel_rfl) Try.func6
    (ChangeSpec.witness6 (enc := enc) (C := Try.checked) false ⟨#[], #[.slice none 0 0, .string ByteArray.empty], []⟩ 8 (by kernel_rfl) (by kernel_rfl) (by kernel_rfl) (by kernel_rfl)) ?_
  intro W base args ds gs before hval0 hW hcnd hsz _
  exact contract H enc W base args ds gs before hval0 hW hsz

theorem proved : Rows.TypesMadeSaid :=
  OpenClaim.holds_of_wide 6 Try.f6 rfl rfl rfl rfl rfl rfl rfl ⟨rfl, rfl, rfl, rfl, rfl⟩ rfl rfl rfl rfl rfl (by kernel_rfl) Try.func6 (by kernel_rfl)
    (of_decide_eq_true (by kernel_rfl)) (by unfold Func.isWrapper; first | (rw [if_pos (by decide +kernel)]; kernel_rfl) | (rw [if_neg (by decide +kernel)]; exact ⟨rfl, rfl⟩))
    (fun os started H enc _ => lifted os started H enc)
#print axioms proved
end Go.Proofs.Ytmcechcigehjbab.typesMade
