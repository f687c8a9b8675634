/-
  TypesFitting returns true for all pairs of texts, and the arguments read afterwards as before; no condition.
-/
import Derived.Test.YtmcechcigehjbabFitting
import Derived.ProofKit
import Derived.OpenShut
namespace Go.Proofs.Ytmcechcigehjbab.typesFitting
open Go.ChangeShapes Go.WideShapes Go.ChangeAt Go.RowKit
open Go.WideMaps Go.WideElems
open Go.ChangeMaps (open_string shut_string)
set_option linter.unusedSimpArgs false
set_option maxRecDepth 100000
set_option linter.unusedVariables false

theorem own : ownKnob Try.prog.godebug = none := by kernel_rfl

set_option maxHeartbeats 8000000 in
theorem walk (a0 : ByteArray) (a1 : ByteArray) (w0 : a0.size ≤ maxLen) (w1 : a1.size ≤ maxLen)  (w : World)  :
    Calls Try.prog 7 #[.string a0, .string a1] w fun e w' => e = .returned (.bool true) ∧ Below w.heap.size w w' := by
  have HVA : Hid (∀ w : World, Calls Try.prog 14 #[.string ⟨#[91, 93, 105, 110, 116]⟩] w fun e w' => e = .returned (.bool true) ∧ Below w.heap.size w w') := fun w => by
    have h : valid (⟨#[91, 93, 105, 110, 116]⟩ : ByteArray).data.toList = true := by decide +kernel
    have := own_valid ⟨#[91, 93, 105, 110, 116]⟩ w (by decide)
    rw [h] at this
    exact this
  have HFB : Hid (∀ w : World, Calls Try.prog 15 #[.string ⟨#[98, 111, 111, 108]⟩, .string ⟨#[97, 110, 121]⟩] w fun e w' => e = .returned (.bool false) ∧ Below w.heap.size w w') := fun w => by
    have h : fitsB ⟨#[98, 111, 111, 108]⟩ ⟨#[97, 110, 121]⟩ = false := by decide +kernel
    have := own_fits ⟨#[98, 111, 111, 108]⟩ ⟨#[97, 110, 121]⟩ w (by decide)
    rw [h] at this
    exact this
  have HZ : Hid (∀ (w : World), Calls Try.prog 8 #[.string a0] w fun e w' => e = .returned (.tuple #[zval (zk a0), .int .i64 (ze a0)]) ∧ Below w.heap.size w w') := fun w => own_zero a0 w w0
  have HV : Hid (∀ (w : World), Calls Try.prog 14 #[.string a0] w fun e w' => e = .returned (.bool (valid a0.data.toList)) ∧ Below w.heap.size w w') := fun w => own_valid a0 w w0
  have HFF : Hid (∀ (w : World), Calls Try.prog 15 #[.string a0, .string a0] w fun e w' => e = .returned (.bool (valid a0.data.toList)) ∧ Below w.heap.size w w') := fun w => by have := own_fits a0 a0 w w0; rw [fits_self] at this; exact this
  have HFN : Hid (∀ (w : World), Calls Try.prog 15 #[.string ⟨#[110, 105, 108]⟩, .string a0] w fun e w' => e = .returned (.bool (nilB a0)) ∧ Below w.heap.size w w') := fun w => by have := own_fits ⟨#[110, 105, 108]⟩ a0 w w0; rw [fits_nil] at this; exact this
  have HC1 : Hid (∀ (w : World), Calls Try.prog 16 #[.string a0, .string a1] w fun e w' => e = .returned (.bool (compB a0 a1)) ∧ Below w.heap.size w w') := fun w => own_comps a0 a1 w w0 w1
  have HC2 : Hid (∀ (w : World), Calls Try.prog 16 #[.string a1, .string a0] w fun e w' => e = .returned (.bool (compB a0 a1)) ∧ Below w.heap.size w w') := fun w => by have := own_comps a1 a0 w w1 w0; rw [comp_symm] at this; exact this
  have HFU : Hid (∀ (w : World), Calls Try.prog 15 #[.string a0, .string a1] w fun e w' => e = .returned (.bool (fitsB a0 a1)) ∧ Below w.heap.size w w') := fun w => own_fits a0 a1 w w1
  have HW : Hid (fitsB a0 a1 = true → (a0.toList == [110, 105, 108]) = false → (a1.toList == [97, 110, 121]) = false → (a0.toList == a1.toList) = true) := fits_why
  have HK : Hid (valid a0.data.toList = true → (zk a0 == 4) = nilB a0) := kind_nil
  have HE : Hid (ze a0 = if valid a0.data.toList = true then 0 else 9) := rfl
  clear w0 w1
  generalize compB a0 a1 = c at *
  generalize fitsB a0 a1 = f at *
  unfold zval at HZ
  generalize zk a0 = k at *
  generalize nilB a0 = nb at *
  cases hv : valid a0.data.toList with
  | true =>
    have he : ze a0 = 0 := by rw [HE.out, hv]; rfl
    have HK2 : Hid ((k == 4) = nb) := HK.out hv
    rw [he] at HZ
    rw [hv] at HV HFF
    clear hv he HE HK
    cases hfv : f with
    | false =>
      rw [hfv] at HFU
      clear hfv HW
      go_enter Try.func7, Try.ntmps7
      go_wp2_with fail
      refine (HVA.out _).mono ?_
      rintro e w1 ⟨rfl, b1⟩
      go_wp2_with fail
      refine (HFB.out _).mono ?_
      rintro e w2 ⟨rfl, b2⟩
      go_wp2_with fail
      refine (HZ.out _).mono ?_
      rintro e w3 ⟨rfl, b3⟩
      go_wp2_with fail
      refine (HV.out _).mono ?_
      rintro e w4 ⟨rfl, b4⟩
      go_wp2_with fail
      refine (HFF.out _).mono ?_
      rintro e w5 ⟨rfl, b5⟩
      go_wp2_with fail
      refine (HV.out _).mono ?_
      rintro e w6 ⟨rfl, b6⟩
      have HB3 : Hid (Below w.heap.size w w3) := (b1.trans (b2.mono b1.size)).trans (b3.mono (Nat.le_trans b1.size b2.size))
      have hz4 : w3.heap.size + 1 ≤ w4.heap.size := by have := b4.size; simp at this; omega
      have hz5 : w3.heap.size + 1 ≤ w5.heap.size := Nat.le_trans hz4 b5.size
      have HB6 : Hid (Below (w3.heap.size + 1) (w3.alloc (.cells #[.int .i64 k, .int .i64 0, .string ⟨#[]⟩, .slice none 0 0] 24)) w6) := ((b4.mono (by simp)).trans (b5.mono hz4)).trans (b6.mono hz5)
      clear b1 b2 b3 b4 b5 b6
      have HBW : Hid (∀ W, Below (w3.heap.size + 1) (w3.alloc (.cells #[.int .i64 k, .int .i64 0, .string ⟨#[]⟩, .slice none 0 0] 24)) W → Below w.heap.size w W) := fun W hW => (HB3.out.alloc HB3.out.size _).trans (hW.mono (by have := HB3.out.size; omega))
      go_wp2_with fail
      have HCL : Hid (∀ W, Below (w3.heap.size + 1) (w3.alloc (.cells #[.int .i64 k, .int .i64 0, .string ⟨#[]⟩, .slice none 0 0] 24)) W → W.cell? ⟨w3.heap.size, 0, none⟩ = some (.int .i64 k)) := fun W hW => by
        rw [hW.cell (p := ⟨w3.heap.size, 0, none⟩) (by show w3.heap.size < _; omega)]
        simp
      have HS1 : Hid (∀ W n, Below (w3.heap.size + 1) (w3.alloc (.cells #[.int .i64 k, .int .i64 0, .string ⟨#[]⟩, .slice none 0 0] 24)) W → Below (w3.heap.size + 1) (w3.alloc (.cells #[.int .i64 k, .int .i64 0, .string ⟨#[]⟩, .slice none 0 0] 24)) (W.drewN n)) := fun W n h => ⟨h.os, h.tape, h.output, h.size, h.block⟩
      have HSZ : Hid (w3.heap.size + 1 ≤ w6.heap.size) := by have := HB6.out.size; simp at this; exact this
      refine wp_region_any (by kernel_rfl) ?_
      refine wpAny_take (i := 0) rfl (by kernel_rfl) (by kernel_rfl) (by kernel_rfl) (fun _ _ _ h => h) (Or.inl ⟨by rfl, fun w => (by go_simp; try with_reducible rfl)⟩) ?_
      simp only [Act.put, List.setIfInBounds_toArray, List.set_cons_zero, List.set_cons_succ]
      refine wpAny_take (i := 1) rfl (by kernel_rfl) (by kernel_rfl) (by kernel_rfl) (fun _ _ _ h => h) (Or.inl ⟨by rfl, fun w => (by go_simp; try with_reducible rfl)⟩) ?_
      simp only [Act.put, List.setIfInBounds_toArray, List.set_cons_zero, List.set_cons_succ]
      refine wpAny_take (i := 2) rfl (by kernel_rfl) (by kernel_rfl) (by kernel_rfl) (fun _ _ _ h => h) (Or.inl ⟨by rfl, fun w => (by go_simp; try with_reducible rfl)⟩) ?_
      simp only [Act.put, List.setIfInBounds_toArray, List.set_cons_zero, List.set_cons_succ]
      refine wpAny_take (i := 3) rfl (by kernel_rfl) (by kernel_rfl) (by kernel_rfl) (fun _ _ _ h => h) (Or.inl ⟨by rfl, fun w => (by go_simp; try with_reducible rfl)⟩) ?_
      simp only [Act.put, List.setIfInBounds_toArray, List.set_cons_zero, List.set_cons_succ]
      refine wpAny_headS (fun W => Below (w3.heap.size + 1) (w3.alloc (.cells #[.int .i64 k, .int .i64 0, .string ⟨#[]⟩, .slice none 0 0] 24)) W) 5 3 8 3 (HS1.out _ 1 HB6.out) (by kernel_rfl) (shutl_of (by kernel_rfl)) (fun _ _ d _ _ h => by cases d <;> exact h) (by kernel_rfl) (by kernel_rfl) (by kernel_rfl) ?_
      simp only [List.take_succ_cons, List.take_zero, List.drop_succ_cons, List.drop_zero]
      repeat (refine wpValS_step _ (by rfl) (by intro W hW; have p1 := HCL.out W hW; go_simp; try with_reducible rfl) ?_; try simp only [Act.put, List.setIfInBounds_toArray, List.set_cons_zero, List.set_cons_succ])
      refine wpValS_nil ?_
      refine T_one (i := 4) rfl (by kernel_rfl) (fun K hK => ?_)
      go_simp
      refine (HFN.out _).mono ?_
      rintro e w7 ⟨rfl, b7⟩
      have HB7 : Hid (Below (w3.heap.size + 1) (w3.alloc (.cells #[.int .i64 k, .int .i64 0, .string ⟨#[]⟩, .slice none 0 0] 24)) w7) := (HS1.out _ 1 HB6.out).trans (b7.mono HSZ.out)
      clear b7
      refine hK _ _ (fun _ => HB7.out) ?_
      clear hK K
      refine tail_of (by kernel_rfl) ?_
      try simp only [Act.put, List.setIfInBounds_toArray, List.set_cons_zero, List.set_cons_succ]
      refine wpAny_ready (rs := [8]) (by kernel_rfl) (by simp) ?_
      refine AllReady.cons rfl (fun K hK => ?_) AllReady.nil
      rw [← HK2.out]
      go_simp
      refine hK _ _ ?_
      clear hK K
      try simp only [Act.put, List.setIfInBounds_toArray, List.set_cons_zero, List.set_cons_succ]
      refine wpAny_ready (rs := [9]) (by kernel_rfl) (by simp) ?_
      refine AllReady.cons rfl (fun K hK => ?_) AllReady.nil
      go_simp
      refine hK _ _ ?_
      clear hK K
      refine wpAny_done (by kernel_rfl) ?_ _
      have HBX : Hid (Below w.heap.size w w7) := HBW.out _ HB7.out
      go_wp2_with fail
      refine (HC1.out _).mono ?_
      rintro e wa ⟨rfl, ba⟩
      go_wp2_with fail
      refine (HC2.out _).mono ?_
      rintro e wb ⟨rfl, bb⟩
      go_wp2_with fail
      refine (HFU.out _).mono ?_
      rintro e wc ⟨rfl, bc⟩
      have HBC : Hid (Below w.heap.size w wc) := HBX.out.trans (((ba.trans (bb.mono ba.size)).trans (bc.mono (Nat.le_trans ba.size bb.size))).mono HBX.out.size)
      clear ba bb bc
      go_wp2_with fail
      go_ret
      exact ⟨rfl, HBC.out⟩
    | true =>
      have HW2 := HW.out hfv
      rw [hfv] at HFU
      clear hfv HW
      cases h1 : (a1.toList == [97, 110, 121]) with
      | true =>
        clear HW2
        go_enter Try.func7, Try.ntmps7
        go_wp2_with fail
        refine (HVA.out _).mono ?_
        rintro e w1 ⟨rfl, b1⟩
        go_wp2_with fail
        refine (HFB.out _).mono ?_
        rintro e w2 ⟨rfl, b2⟩
        go_wp2_with fail
        refine (HZ.out _).mono ?_
        rintro e w3 ⟨rfl, b3⟩
        go_wp2_with fail
        refine (HV.out _).mono ?_
        rintro e w4 ⟨rfl, b4⟩
        go_wp2_with fail
        refine (HFF.out _).mono ?_
        rintro e w5 ⟨rfl, b5⟩
        go_wp2_with fail
        refine (HV.out _).mono ?_
        rintro e w6 ⟨rfl, b6⟩
        have HB3 : Hid (Below w.heap.size w w3) := (b1.trans (b2.mono b1.size)).trans (b3.mono (Nat.le_trans b1.size b2.size))
        have hz4 : w3.heap.size + 1 ≤ w4.heap.size := by have := b4.size; simp at this; omega
        have hz5 : w3.heap.size + 1 ≤ w5.heap.size := Nat.le_trans hz4 b5.size
        have HB6 : Hid (Below (w3.heap.size + 1) (w3.alloc (.cells #[.int .i64 k, .int .i64 0, .string ⟨#[]⟩, .slice none 0 0] 24)) w6) := ((b4.mono (by simp)).trans (b5.mono hz4)).trans (b6.mono hz5)
        clear b1 b2 b3 b4 b5 b6
        have HBW : Hid (∀ W, Below (w3.heap.size + 1) (w3.alloc (.cells #[.int .i64 k, .int .i64 0, .string ⟨#[]⟩, .slice none 0 0] 24)) W → Below w.heap.size w W) := fun W hW => (HB3.out.alloc HB3.out.size _).trans (hW.mono (by have := HB3.out.size; omega))
        go_wp2_with fail
        have HCL : Hid (∀ W, Below (w3.heap.size + 1) (w3.alloc (.cells #[.int .i64 k, .int .i64 0, .string ⟨#[]⟩, .slice none 0 0] 24)) W → W.cell? ⟨w3.heap.size, 0, none⟩ = some (.int .i64 k)) := fun W hW => by
          rw [hW.cell (p := ⟨w3.heap.size, 0, none⟩) (by show w3.heap.size < _; omega)]
          simp
        have HS1 : Hid (∀ W n, Below (w3.heap.size + 1) (w3.alloc (.cells #[.int .i64 k, .int .i64 0, .string ⟨#[]⟩, .slice none 0 0] 24)) W → Below (w3.heap.size + 1) (w3.alloc (.cells #[.int .i64 k, .int .i64 0, .string ⟨#[]⟩, .slice none 0 0] 24)) (W.drewN n)) := fun W n h => ⟨h.os, h.tape, h.output, h.size, h.block⟩
        have HSZ : Hid (w3.heap.size + 1 ≤ w6.heap.size) := by have := HB6.out.size; simp at this; exact this
        refine wp_region_any (by kernel_rfl) ?_
        refine wpAny_take (i := 0) rfl (by kernel_rfl) (by kernel_rfl) (by kernel_rfl) (fun _ _ _ h => h) (Or.inl ⟨by rfl, fun w => (by go_simp; try with_reducible rfl)⟩) ?_
        simp only [Act.put, List.setIfInBounds_toArray, List.set_cons_zero, List.set_cons_succ]
        refine wpAny_take (i := 1) rfl (by kernel_rfl) (by kernel_rfl) (by kernel_rfl) (fun _ _ _ h => h) (Or.inl ⟨by rfl, fun w => (by go_simp; try with_reducible rfl)⟩) ?_
        simp only [Act.put, List.setIfInBounds_toArray, List.set_cons_zero, List.set_cons_succ]
        refine wpAny_take (i := 2) rfl (by kernel_rfl) (by kernel_rfl) (by kernel_rfl) (fun _ _ _ h => h) (Or.inl ⟨by rfl, fun w => (by go_simp; try with_reducible rfl)⟩) ?_
        simp only [Act.put, List.setIfInBounds_toArray, List.set_cons_zero, List.set_cons_succ]
        refine wpAny_take (i := 3) rfl (by kernel_rfl) (by kernel_rfl) (by kernel_rfl) (fun _ _ _ h => h) (Or.inl ⟨by rfl, fun w => (by go_simp; try with_reducible rfl)⟩) ?_
        simp only [Act.put, List.setIfInBounds_toArray, List.set_cons_zero, List.set_cons_succ]
        refine wpAny_headS (fun W => Below (w3.heap.size + 1) (w3.alloc (.cells #[.int .i64 k, .int .i64 0, .string ⟨#[]⟩, .slice none 0 0] 24)) W) 5 3 8 3 (HS1.out _ 1 HB6.out) (by kernel_rfl) (shutl_of (by kernel_rfl)) (fun _ _ d _ _ h => by cases d <;> exact h) (by kernel_rfl) (by kernel_rfl) (by kernel_rfl) ?_
        simp only [List.take_succ_cons, List.take_zero, List.drop_succ_cons, List.drop_zero]
        repeat (refine wpValS_step _ (by rfl) (by intro W hW; have p1 := HCL.out W hW; go_simp; try with_reducible rfl) ?_; try simp only [Act.put, List.setIfInBounds_toArray, List.set_cons_zero, List.set_cons_succ])
        refine wpValS_nil ?_
        refine T_one (i := 4) rfl (by kernel_rfl) (fun K hK => ?_)
        go_simp
        refine (HFN.out _).mono ?_
        rintro e w7 ⟨rfl, b7⟩
        have HB7 : Hid (Below (w3.heap.size + 1) (w3.alloc (.cells #[.int .i64 k, .int .i64 0, .string ⟨#[]⟩, .slice none 0 0] 24)) w7) := (HS1.out _ 1 HB6.out).trans (b7.mono HSZ.out)
        clear b7
        refine hK _ _ (fun _ => HB7.out) ?_
        clear hK K
        refine tail_of (by kernel_rfl) ?_
        try simp only [Act.put, List.setIfInBounds_toArray, List.set_cons_zero, List.set_cons_succ]
        refine wpAny_ready (rs := [8]) (by kernel_rfl) (by simp) ?_
        refine AllReady.cons rfl (fun K hK => ?_) AllReady.nil
        rw [← HK2.out]
        go_simp
        refine hK _ _ ?_
        clear hK K
        try simp only [Act.put, List.setIfInBounds_toArray, List.set_cons_zero, List.set_cons_succ]
        refine wpAny_ready (rs := [9]) (by kernel_rfl) (by simp) ?_
        refine AllReady.cons rfl (fun K hK => ?_) AllReady.nil
        go_simp
        refine hK _ _ ?_
        clear hK K
        refine wpAny_done (by kernel_rfl) ?_ _
        have HBX : Hid (Below w.heap.size w w7) := HBW.out _ HB7.out
        go_wp2_with fail
        refine (HC1.out _).mono ?_
        rintro e wa ⟨rfl, ba⟩
        go_wp2_with fail
        refine (HC2.out _).mono ?_
        rintro e wb ⟨rfl, bb⟩
        go_wp2_with fail
        refine (HFU.out _).mono ?_
        rintro e wc ⟨rfl, bc⟩
        have HBC : Hid (Below w.heap.size w wc) := HBX.out.trans (((ba.trans (bb.mono ba.size)).trans (bc.mono (Nat.le_trans ba.size bb.size))).mono HBX.out.size)
        clear ba bb bc
        go_wp2_with fail
        go_ret
        exact ⟨rfl, HBC.out⟩
      | false =>
        cases h0 : (a0.toList == [110, 105, 108]) with
        | true =>
          clear HW2
          go_enter Try.func7, Try.ntmps7
          go_wp2_with fail
          refine (HVA.out _).mono ?_
          rintro e w1 ⟨rfl, b1⟩
          go_wp2_with fail
          refine (HFB.out _).mono ?_
          rintro e w2 ⟨rfl, b2⟩
          go_wp2_with fail
          refine (HZ.out _).mono ?_
          rintro e w3 ⟨rfl, b3⟩
          go_wp2_with fail
          refine (HV.out _).mono ?_
          rintro e w4 ⟨rfl, b4⟩
          go_wp2_with fail
          refine (HFF.out _).mono ?_
          rintro e w5 ⟨rfl, b5⟩
          go_wp2_with fail
          refine (HV.out _).mono ?_
          rintro e w6 ⟨rfl, b6⟩
          have HB3 : Hid (Below w.heap.size w w3) := (b1.trans (b2.mono b1.size)).trans (b3.mono (Nat.le_trans b1.size b2.size))
          have hz4 : w3.heap.size + 1 ≤ w4.heap.size := by have := b4.size; simp at this; omega
          have hz5 : w3.heap.size + 1 ≤ w5.heap.size := Nat.le_trans hz4 b5.size
          have HB6 : Hid (Below (w3.heap.size + 1) (w3.alloc (.cells #[.int .i64 k, .int .i64 0, .string ⟨#[]⟩, .slice none 0 0] 24)) w6) := ((b4.mono (by simp)).trans (b5.mono hz4)).trans (b6.mono hz5)
          clear b1 b2 b3 b4 b5 b6
          have HBW : Hid (∀ W, Below (w3.heap.size + 1) (w3.alloc (.cells #[.int .i64 k, .int .i64 0, .string ⟨#[]⟩, .slice none 0 0] 24)) W → Below w.heap.size w W) := fun W hW => (HB3.out.alloc HB3.out.size _).trans (hW.mono (by have := HB3.out.size; omega))
          go_wp2_with fail
          have HCL : Hid (∀ W, Below (w3.heap.size + 1) (w3.alloc (.cells #[.int .i64 k, .int .i64 0, .string ⟨#[]⟩, .slice none 0 0] 24)) W → W.cell? ⟨w3.heap.size, 0, none⟩ = some (.int .i64 k)) := fun W hW => by
            rw [hW.cell (p := ⟨w3.heap.size, 0, none⟩) (by show w3.heap.size < _; omega)]
            simp
          have HS1 : Hid (∀ W n, Below (w3.heap.size + 1) (w3.alloc (.cells #[.int .i64 k, .int .i64 0, .string ⟨#[]⟩, .slice none 0 0] 24)) W → Below (w3.heap.size + 1) (w3.alloc (.cells #[.int .i64 k, .int .i64 0, .string ⟨#[]⟩, .slice none 0 0] 24)) (W.drewN n)) := fun W n h => ⟨h.os, h.tape, h.output, h.size, h.block⟩
          have HSZ : Hid (w3.heap.size + 1 ≤ w6.heap.size) := by have := HB6.out.size; simp at this; exact this
          refine wp_region_any (by kernel_rfl) ?_
          refine wpAny_take (i := 0) rfl (by kernel_rfl) (by kernel_rfl) (by kernel_rfl) (fun _ _ _ h => h) (Or.inl ⟨by rfl, fun w => (by go_simp; try with_reducible rfl)⟩) ?_
          simp only [Act.put, List.setIfInBounds_toArray, List.set_cons_zero, List.set_cons_succ]
          refine wpAny_take (i := 1) rfl (by kernel_rfl) (by kernel_rfl) (by kernel_rfl) (fun _ _ _ h => h) (Or.inl ⟨by rfl, fun w => (by go_simp; try with_reducible rfl)⟩) ?_
          simp only [Act.put, List.setIfInBounds_toArray, List.set_cons_zero, List.set_cons_succ]
          refine wpAny_take (i := 2) rfl (by kernel_rfl) (by kernel_rfl) (by kernel_rfl) (fun _ _ _ h => h) (Or.inl ⟨by rfl, fun w => (by go_simp; try with_reducible rfl)⟩) ?_
          simp only [Act.put, List.setIfInBounds_toArray, List.set_cons_zero, List.set_cons_succ]
          refine wpAny_take (i := 3) rfl (by kernel_rfl) (by kernel_rfl) (by kernel_rfl) (fun _ _ _ h => h) (Or.inl ⟨by rfl, fun w => (by go_simp; try with_reducible rfl)⟩) ?_
          simp only [Act.put, List.setIfInBounds_toArray, List.set_cons_zero, List.set_cons_succ]
          refine wpAny_headS (fun W => Below (w3.heap.size + 1) (w3.alloc (.cells #[.int .i64 k, .int .i64 0, .string ⟨#[]⟩, .slice none 0 0] 24)) W) 5 3 8 3 (HS1.out _ 1 HB6.out) (by kernel_rfl) (shutl_of (by kernel_rfl)) (fun _ _ d _ _ h => by cases d <;> exact h) (by kernel_rfl) (by kernel_rfl) (by kernel_rfl) ?_
          simp only [List.take_succ_cons, List.take_zero, List.drop_succ_cons, List.drop_zero]
          repeat (refine wpValS_step _ (by rfl) (by intro W hW; have p1 := HCL.out W hW; go_simp; try with_reducible rfl) ?_; try simp only [Act.put, List.setIfInBounds_toArray, List.set_cons_zero, List.set_cons_succ])
          refine wpValS_nil ?_
          refine T_one (i := 4) rfl (by kernel_rfl) (fun K hK => ?_)
          go_simp
          refine (HFN.out _).mono ?_
          rintro e w7 ⟨rfl, b7⟩
          have HB7 : Hid (Below (w3.heap.size + 1) (w3.alloc (.cells #[.int .i64 k, .int .i64 0, .string ⟨#[]⟩, .slice none 0 0] 24)) w7) := (HS1.out _ 1 HB6.out).trans (b7.mono HSZ.out)
          clear b7
          refine hK _ _ (fun _ => HB7.out) ?_
          clear hK K
          refine tail_of (by kernel_rfl) ?_
          try simp only [Act.put, List.setIfInBounds_toArray, List.set_cons_zero, List.set_cons_succ]
          refine wpAny_ready (rs := [8]) (by kernel_rfl) (by simp) ?_
          refine AllReady.cons rfl (fun K hK => ?_) AllReady.nil
          rw [← HK2.out]
          go_simp
          refine hK _ _ ?_
          clear hK K
          try simp only [Act.put, List.setIfInBounds_toArray, List.set_cons_zero, List.set_cons_succ]
          refine wpAny_ready (rs := [9]) (by kernel_rfl) (by simp) ?_
          refine AllReady.cons rfl (fun K hK => ?_) AllReady.nil
          go_simp
          refine hK _ _ ?_
          clear hK K
          refine wpAny_done (by kernel_rfl) ?_ _
          have HBX : Hid (Below w.heap.size w w7) := HBW.out _ HB7.out
          go_wp2_with fail
          refine (HC1.out _).mono ?_
          rintro e wa ⟨rfl, ba⟩
          go_wp2_with fail
          refine (HC2.out _).mono ?_
          rintro e wb ⟨rfl, bb⟩
          go_wp2_with fail
          refine (HFU.out _).mono ?_
          rintro e wc ⟨rfl, bc⟩
          have HBC : Hid (Below w.heap.size w wc) := HBX.out.trans (((ba.trans (bb.mono ba.size)).trans (bc.mono (Nat.le_trans ba.size bb.size))).mono HBX.out.size)
          clear ba bb bc
          go_wp2_with fail
          go_ret
          exact ⟨rfl, HBC.out⟩
        | false =>
          have h2 := HW2 h0 h1
          clear HW2
          go_enter Try.func7, Try.ntmps7
          go_wp2_with fail
          refine (HVA.out _).mono ?_
          rintro e w1 ⟨rfl, b1⟩
          go_wp2_with fail
          refine (HFB.out _).mono ?_
          rintro e w2 ⟨rfl, b2⟩
          go_wp2_with fail
          refine (HZ.out _).mono ?_
          rintro e w3 ⟨rfl, b3⟩
          go_wp2_with fail
          refine (HV.out _).mono ?_
          rintro e w4 ⟨rfl, b4⟩
          go_wp2_with fail
          refine (HFF.out _).mono ?_
          rintro e w5 ⟨rfl, b5⟩
          go_wp2_with fail
          refine (HV.out _).mono ?_
          rintro e w6 ⟨rfl, b6⟩
          have HB3 : Hid (Below w.heap.size w w3) := (b1.trans (b2.mono b1.size)).trans (b3.mono (Nat.le_trans b1.size b2.size))
          have hz4 : w3.heap.size + 1 ≤ w4.heap.size := by have := b4.size; simp at this; omega
          have hz5 : w3.heap.size + 1 ≤ w5.heap.size := Nat.le_trans hz4 b5.size
          have HB6 : Hid (Below (w3.heap.size + 1) (w3.alloc (.cells #[.int .i64 k, .int .i64 0, .string ⟨#[]⟩, .slice none 0 0] 24)) w6) := ((b4.mono (by simp)).trans (b5.mono hz4)).trans (b6.mono hz5)
          clear b1 b2 b3 b4 b5 b6
          have HBW : Hid (∀ W, Below (w3.heap.size + 1) (w3.alloc (.cells #[.int .i64 k, .int .i64 0, .string ⟨#[]⟩, .slice none 0 0] 24)) W → Below w.heap.size w W) := fun W hW => (HB3.out.alloc HB3.out.size _).trans (hW.mono (by have := HB3.out.size; omega))
          go_wp2_with fail
          have HCL : Hid (∀ W, Below (w3.heap.size + 1) (w3.alloc (.cells #[.int .i64 k, .int .i64 0, .string ⟨#[]⟩, .slice none 0 0] 24)) W → W.cell? ⟨w3.heap.size, 0, none⟩ = some (.int .i64 k)) := fun W hW => by
            rw [hW.cell (p := ⟨w3.heap.size, 0, none⟩) (by show w3.heap.size < _; omega)]
            simp
          have HS1 : Hid (∀ W n, Below (w3.heap.size + 1) (w3.alloc (.cells #[.int .i64 k, .int .i64 0, .string ⟨#[]⟩, .slice none 0 0] 24)) W → Below (w3.heap.size + 1) (w3.alloc (.cells #[.int .i64 k, .int .i64 0, .string ⟨#[]⟩, .slice none 0 0] 24)) (W.drewN n)) := fun W n h => ⟨h.os, h.tape, h.output, h.size, h.block⟩
          have HSZ : Hid (w3.heap.size + 1 ≤ w6.heap.size) := by have := HB6.out.size; simp at this; exact this
          refine wp_region_any (by kernel_rfl) ?_
          refine wpAny_take (i := 0) rfl (by kernel_rfl) (by kernel_rfl) (by kernel_rfl) (fun _ _ _ h => h) (Or.inl ⟨by rfl, fun w => (by go_simp; try with_reducible rfl)⟩) ?_
          simp only [Act.put, List.setIfInBounds_toArray, List.set_cons_zero, List.set_cons_succ]
          refine wpAny_take (i := 1) rfl (by kernel_rfl) (by kernel_rfl) (by kernel_rfl) (fun _ _ _ h => h) (Or.inl ⟨by rfl, fun w => (by go_simp; try with_reducible rfl)⟩) ?_
          simp only [Act.put, List.setIfInBounds_toArray, List.set_cons_zero, List.set_cons_succ]
          refine wpAny_take (i := 2) rfl (by kernel_rfl) (by kernel_rfl) (by kernel_rfl) (fun _ _ _ h => h) (Or.inl ⟨by rfl, fun w => (by go_simp; try with_reducible rfl)⟩) ?_
          simp only [Act.put, List.setIfInBounds_toArray, List.set_cons_zero, List.set_cons_succ]
          refine wpAny_take (i := 3) rfl (by kernel_rfl) (by kernel_rfl) (by kernel_rfl) (fun _ _ _ h => h) (Or.inl ⟨by rfl, fun w => (by go_simp; try with_reducible rfl)⟩) ?_
          simp only [Act.put, List.setIfInBounds_toArray, List.set_cons_zero, List.set_cons_succ]
          refine wpAny_headS (fun W => Below (w3.heap.size + 1) (w3.alloc (.cells #[.int .i64 k, .int .i64 0, .string ⟨#[]⟩, .slice none 0 0] 24)) W) 5 3 8 3 (HS1.out _ 1 HB6.out) (by kernel_rfl) (shutl_of (by kernel_rfl)) (fun _ _ d _ _ h => by cases d <;> exact h) (by kernel_rfl) (by kernel_rfl) (by kernel_rfl) ?_
          simp only [List.take_succ_cons, List.take_zero, List.drop_succ_cons, List.drop_zero]
          repeat (refine wpValS_step _ (by rfl) (by intro W hW; have p1 := HCL.out W hW; go_simp; try with_reducible rfl) ?_; try simp only [Act.put, List.setIfInBounds_toArray, List.set_cons_zero, List.set_cons_succ])
          refine wpValS_nil ?_
          refine T_one (i := 4) rfl (by kernel_rfl) (fun K hK => ?_)
          go_simp
          refine (HFN.out _).mono ?_
          rintro e w7 ⟨rfl, b7⟩
          have HB7 : Hid (Below (w3.heap.size + 1) (w3.alloc (.cells #[.int .i64 k, .int .i64 0, .string ⟨#[]⟩, .slice none 0 0] 24)) w7) := (HS1.out _ 1 HB6.out).trans (b7.mono HSZ.out)
          clear b7
          refine hK _ _ (fun _ => HB7.out) ?_
          clear hK K
          refine tail_of (by kernel_rfl) ?_
          try simp only [Act.put, List.setIfInBounds_toArray, List.set_cons_zero, List.set_cons_succ]
          refine wpAny_ready (rs := [8]) (by kernel_rfl) (by simp) ?_
          refine AllReady.cons rfl (fun K hK => ?_) AllReady.nil
          rw [← HK2.out]
          go_simp
          refine hK _ _ ?_
          clear hK K
          try simp only [Act.put, List.setIfInBounds_toArray, List.set_cons_zero, List.set_cons_succ]
          refine wpAny_ready (rs := [9]) (by kernel_rfl) (by simp) ?_
          refine AllReady.cons rfl (fun K hK => ?_) AllReady.nil
          go_simp
          refine hK _ _ ?_
          clear hK K
          refine wpAny_done (by kernel_rfl) ?_ _
          have HBX : Hid (Below w.heap.size w w7) := HBW.out _ HB7.out
          go_wp2_with fail
          refine (HC1.out _).mono ?_
          rintro e wa ⟨rfl, ba⟩
          go_wp2_with fail
          refine (HC2.out _).mono ?_
          rintro e wb ⟨rfl, bb⟩
          go_wp2_with fail
          refine (HFU.out _).mono ?_
          rintro e wc ⟨rfl, bc⟩
          have HBC : Hid (Below w.heap.size w wc) := HBX.out.trans (((ba.trans (bb.mono ba.size)).trans (bc.mono (Nat.le_trans ba.size bb.size))).mono HBX.out.size)
          clear ba bb bc
          go_wp2_with fail
          go_ret
          exact ⟨rfl, HBC.out⟩
  | false =>
    have he : ze a0 = 9 := by rw [HE.out, hv]; rfl
    rw [he] at HZ
    rw [hv] at HV HFF
    clear hv he HE HK
    cases hfv : f with
    | false =>
      rw [hfv] at HFU
      clear hfv HW
      go_enter Try.func7, Try.ntmps7
      go_wp2_with fail
      refine (HVA.out _).mono ?_
      rintro e w1 ⟨rfl, b1⟩
      go_wp2_with fail
      refine (HFB.out _).mono ?_
      rintro e w2 ⟨rfl, b2⟩
      go_wp2_with fail
      refine (HZ.out _).mono ?_
      rintro e w3 ⟨rfl, b3⟩
      go_wp2_with fail
      refine (HV.out _).mono ?_
      rintro e w4 ⟨rfl, b4⟩
      go_wp2_with fail
      refine (HFF.out _).mono ?_
      rintro e w5 ⟨rfl, b5⟩
      go_wp2_with fail
      refine (HV.out _).mono ?_
      rintro e w6 ⟨rfl, b6⟩
      have HB3 : Hid (Below w.heap.size w w3) := (b1.trans (b2.mono b1.size)).trans (b3.mono (Nat.le_trans b1.size b2.size))
      have hz4 : w3.heap.size + 1 ≤ w4.heap.size := by have := b4.size; simp at this; omega
      have hz5 : w3.heap.size + 1 ≤ w5.heap.size := Nat.le_trans hz4 b5.size
      have HB6 : Hid (Below (w3.heap.size + 1) (w3.alloc (.cells #[.int .i64 k, .int .i64 0, .string ⟨#[]⟩, .slice none 0 0] 24)) w6) := ((b4.mono (by simp)).trans (b5.mono hz4)).trans (b6.mono hz5)
      clear b1 b2 b3 b4 b5 b6
      have HBW : Hid (∀ W, Below (w3.heap.size + 1) (w3.alloc (.cells #[.int .i64 k, .int .i64 0, .string ⟨#[]⟩, .slice none 0 0] 24)) W → Below w.heap.size w W) := fun W hW => (HB3.out.alloc HB3.out.size _).trans (hW.mono (by have := HB3.out.size; omega))
      go_wp2_with fail
      go_quiet (fail)
      have HBX : Hid (Below w.heap.size w (w6.drewN nq)) := HBW.out _ ⟨HB6.out.os, HB6.out.tape, HB6.out.output, HB6.out.size, HB6.out.block⟩
      go_wp2_with fail
      refine (HC1.out _).mono ?_
      rintro e wa ⟨rfl, ba⟩
      go_wp2_with fail
      refine (HC2.out _).mono ?_
      rintro e wb ⟨rfl, bb⟩
      go_wp2_with fail
      refine (HFU.out _).mono ?_
      rintro e wc ⟨rfl, bc⟩
      have HBC : Hid (Below w.heap.size w wc) := HBX.out.trans (((ba.trans (bb.mono ba.size)).trans (bc.mono (Nat.le_trans ba.size bb.size))).mono HBX.out.size)
      clear ba bb bc
      go_wp2_with fail
      go_ret
      exact ⟨rfl, HBC.out⟩
    | true =>
      have HW2 := HW.out hfv
      rw [hfv] at HFU
      clear hfv HW
      cases h1 : (a1.toList == [97, 110, 121]) with
      | true =>
        clear HW2
        go_enter Try.func7, Try.ntmps7
        go_wp2_with fail
        refine (HVA.out _).mono ?_
        rintro e w1 ⟨rfl, b1⟩
        go_wp2_with fail
        refine (HFB.out _).mono ?_
        rintro e w2 ⟨rfl, b2⟩
        go_wp2_with fail
        refine (HZ.out _).mono ?_
        rintro e w3 ⟨rfl, b3⟩
        go_wp2_with fail
        refine (HV.out _).mono ?_
        rintro e w4 ⟨rfl, b4⟩
        go_wp2_with fail
        refine (HFF.out _).mono ?_
        rintro e w5 ⟨rfl, b5⟩
        go_wp2_with fail
        refine (HV.out _).mono ?_
        rintro e w6 ⟨rfl, b6⟩
        have HB3 : Hid (Below w.heap.size w w3) := (b1.trans (b2.mono b1.size)).trans (b3.mono (Nat.le_trans b1.size b2.size))
        have hz4 : w3.heap.size + 1 ≤ w4.heap.size := by have := b4.size; simp at this; omega
        have hz5 : w3.heap.size + 1 ≤ w5.heap.size := Nat.le_trans hz4 b5.size
        have HB6 : Hid (Below (w3.heap.size + 1) (w3.alloc (.cells #[.int .i64 k, .int .i64 0, .string ⟨#[]⟩, .slice none 0 0] 24)) w6) := ((b4.mono (by simp)).trans (b5.mono hz4)).trans (b6.mono hz5)
        clear b1 b2 b3 b4 b5 b6
        have HBW : Hid (∀ W, Below (w3.heap.size + 1) (w3.alloc (.cells #[.int .i64 k, .int .i64 0, .string ⟨#[]⟩, .slice none 0 0] 24)) W → Below w.heap.size w W) := fun W hW => (HB3.out.alloc HB3.out.size _).trans (hW.mono (by have := HB3.out.size; omega))
        go_wp2_with fail
        go_quiet (fail)
        have HBX : Hid (Below w.heap.size w (w6.drewN nq)) := HBW.out _ ⟨HB6.out.os, HB6.out.tape, HB6.out.output, HB6.out.size, HB6.out.block⟩
        go_wp2_with fail
        refine (HC1.out _).mono ?_
        rintro e wa ⟨rfl, ba⟩
        go_wp2_with fail
        refine (HC2.out _).mono ?_
        rintro e wb ⟨rfl, bb⟩
        go_wp2_with fail
        refine (HFU.out _).mono ?_
        rintro e wc ⟨rfl, bc⟩
        have HBC : Hid (Below w.heap.size w wc) := HBX.out.trans (((ba.trans (bb.mono ba.size)).trans (bc.mono (Nat.le_trans ba.size bb.size))).mono HBX.out.size)
        clear ba bb bc
        go_wp2_with fail
        go_ret
        exact ⟨rfl, HBC.out⟩
      | false =>
        cases h0 : (a0.toList == [110, 105, 108]) with
        | true =>
          clear HW2
          go_enter Try.func7, Try.ntmps7
          go_wp2_with fail
          refine (HVA.out _).mono ?_
          rintro e w1 ⟨rfl, b1⟩
          go_wp2_with fail
          refine (HFB.out _).mono ?_
          rintro e w2 ⟨rfl, b2⟩
          go_wp2_with fail
          refine (HZ.out _).mono ?_
          rintro e w3 ⟨rfl, b3⟩
          go_wp2_with fail
          refine (HV.out _).mono ?_
          rintro e w4 ⟨rfl, b4⟩
          go_wp2_with fail
          refine (HFF.out _).mono ?_
          rintro e w5 ⟨rfl, b5⟩
          go_wp2_with fail
          refine (HV.out _).mono ?_
          rintro e w6 ⟨rfl, b6⟩
          have HB3 : Hid (Below w.heap.size w w3) := (b1.trans (b2.mono b1.size)).trans (b3.mono (Nat.le_trans b1.size b2.size))
          have hz4 : w3.heap.size + 1 ≤ w4.heap.size := by have := b4.size; simp at this; omega
          have hz5 : w3.heap.size + 1 ≤ w5.heap.size := Nat.le_trans hz4 b5.size
          have HB6 : Hid (Below (w3.heap.size + 1) (w3.alloc (.cells #[.int .i64 k, .int .i64 0, .string ⟨#[]⟩, .slice none 0 0] 24)) w6) := ((b4.mono (by simp)).trans (b5.mono hz4)).trans (b6.mono hz5)
          clear b1 b2 b3 b4 b5 b6
          have HBW : Hid (∀ W, Below (w3.heap.size + 1) (w3.alloc (.cells #[.int .i64 k, .int .i64 0, .string ⟨#[]⟩, .slice none 0 0] 24)) W → Below w.heap.size w W) := fun W hW => (HB3.out.alloc HB3.out.size _).trans (hW.mono (by have := HB3.out.size; omega))
          go_wp2_with fail
          go_quiet (fail)
          have HBX : Hid (Below w.heap.size w (w6.drewN nq)) := HBW.out _ ⟨HB6.out.os, HB6.out.tape, HB6.out.output, HB6.out.size, HB6.out.block⟩
          go_wp2_with fail
          refine (HC1.out _).mono ?_
          rintro e wa ⟨rfl, ba⟩
          go_wp2_with fail
          refine (HC2.out _).mono ?_
          rintro e wb ⟨rfl, bb⟩
          go_wp2_with fail
          refine (HFU.out _).mono ?_
          rintro e wc ⟨rfl, bc⟩
          have HBC : Hid (Below w.heap.size w wc) := HBX.out.trans (((ba.trans (bb.mono ba.size)).trans (bc.mono (Nat.le_trans ba.size bb.size))).mono HBX.out.size)
          clear ba bb bc
          go_wp2_with fail
          go_ret
          exact ⟨rfl, HBC.out⟩
        | false =>
          have h2 := HW2 h0 h1
          clear HW2
          go_enter Try.func7, Try.ntmps7
          go_wp2_with fail
          refine (HVA.out _).mono ?_
          rintro e w1 ⟨rfl, b1⟩
          go_wp2_with fail
          refine (HFB.out _).mono ?_
          rintro e w2 ⟨rfl, b2⟩
          go_wp2_with fail
          refine (HZ.out _).mono ?_
          rintro e w3 ⟨rfl, b3⟩
          go_wp2_with fail
          refine (HV.out _).mono ?_
          rintro e w4 ⟨rfl, b4⟩
          go_wp2_with fail
          refine (HFF.out _).mono ?_
          rintro e w5 ⟨rfl, b5⟩
          go_wp2_with fail
          refine (HV.out _).mono ?_
          rintro e w6 ⟨rfl, b6⟩
          have HB3 : Hid (Below w.heap.size w w3) := (b1.trans (b2.mono b1.size)).trans (b3.mono (Nat.le_trans b1.size b2.size))
          have hz4 : w3.heap.size + 1 ≤ w4.heap.size := by have := b4.size; simp at this; omega
          have hz5 : w3.heap.size + 1 ≤ w5.heap.size := Nat.le_trans hz4 b5.size
          have HB6 : Hid (Below (w3.heap.size + 1) (w3.alloc (.cells #[.int .i64 k, .int .i64 0, .string ⟨#[]⟩, .slice none 0 0] 24)) w6) := ((b4.mono (by simp)).trans (b5.mono hz4)).trans (b6.mono hz5)
          clear b1 b2 b3 b4 b5 b6
          have HBW : Hid (∀ W, Below (w3.heap.size + 1) (w3.alloc (.cells #[.int .i64 k, .int .i64 0, .string ⟨#[]⟩, .slice none 0 0] 24)) W → Below w.heap.size w W) := fun W hW => (HB3.out.alloc HB3.out.size _).trans (hW.mono (by have := HB3.out.size; omega))
          go_wp2_with fail
          go_quiet (fail)
          have HBX : Hid (Below w.heap.size w (w6.drewN nq)) := HBW.out _ ⟨HB6.out.os, HB6.out.tape, HB6.out.output, HB6.out.size, HB6.out.block⟩
          go_wp2_with fail
          refine (HC1.out _).mono ?_
          rintro e wa ⟨rfl, ba⟩
          go_wp2_with fail
          refine (HC2.out _).mono ?_
          rintro e wb ⟨rfl, bb⟩
          go_wp2_with fail
          refine (HFU.out _).mono ?_
          rintro e wc ⟨rfl, bc⟩
          have HBC : Hid (Below w.heap.size w wc) := HBX.out.trans (((ba.trans (bb.mono ba.size)).trans (bc.mono (Nat.le_trans ba.size bb.size))).mono HBX.out.size)
          clear ba bb bc
          go_wp2_with fail
          go_ret
          exact ⟨rfl, HBC.out⟩

theorem contract (H : Type) (enc : TypeId × Value → H) (W : World) (base : Nat) (args : Array Value) (ds gs : List (DataW H)) (before : List MemPlace)
    (hval : ∀ (j : Nat) t v, Try.f7.params[j]? = some t → args[j]? = some v → Value.okWide Try.prog W .any base t v)
    (hW : DataW.Whole enc Try.prog Try.f7.params.toList Rows.typesFittingSpec.vars false W args.toList ds gs before) :
    Calls Try.prog 7 args W fun e W' => ∃ v, e = .returned v ∧ Rows.typesFittingSpec.post enc Try.prog Try.f7 false true false false W args v W' := by
  have hW' := hW
  obtain ⟨p, q, hA0, hV, rfl, hfz, hnd⟩ := hW
  have hA : DataW.TrodAll enc Try.prog W 0 (fun _ => true) true Try.f7.params.toList args.toList ds p := hA0
  rw [Try.params7] at hA hval
  obtain ⟨v0, vs0, d0, ds0, p0, q0, hargs, rfl, rfl, h0, r0⟩ := trodAll_cons hA
  obtain ⟨v1, vs1, d1, ds1, p1, q1, rfl, rfl, rfl, h1, r1⟩ := trodAll_cons r0
  obtain ⟨rfl, rfl, rfl⟩ := trodAll_nil r1
  obtain rfl : args = #[v0, v1] := by cases args; simp_all
  obtain ⟨rfl, rfl⟩ := trodVars_none hV
  obtain ⟨a0, rfl, rfl, rfl, w0⟩ := open_string Try.underlying9 (hval 0 9 v0 rfl rfl) h0
  obtain ⟨a1, rfl, rfl, rfl, w1⟩ := open_string Try.underlying9 (hval 1 9 v1 rfl rfl) h1
  clear hA0
  simp only [List.append_nil] at hW'
  refine (walk a0 a1 w0 w1  W).mono fun e W' ⟨he, bel⟩ => ?_
  subst he
  exact ⟨_, rfl, _, _, _, [], [], [], hW', trodAll_mk1 (shut_bool Try.underlying4 _), (trodAll_cons_mk (shut_string Try.underlying9 w0) (trodAll_cons_mk (shut_string Try.underlying9 w1) trodAll_mk0)), rfl, bel.frame _, fun h => by cases h⟩

set_option maxRecDepth 100000 in
theorem lifted (os : Os) (started : os.Started) (H : Type) (enc : TypeId × Value → H) :
    ReturnsInHanded {} Try.checked os 7 .any (Rows.typesFittingSpec.pre6 enc Try.prog Try.f7 Rows.typesFittingRow.domain false) (Rows.typesFittingSpec.post enc Try.prog Try.f7 false true false false) := by
  refine returnsInHanded_of_change (C := Try.checked) own started (by kernel_rfl) Try.func7
    (ChangeSpec.witness6 (enc := enc) (C := Try.checked) false ⟨#[], #[.string ByteArray.empty, .string ByteArray.empty], []⟩ 8 (by kernel_rfl) (by kernel_rfl) (by kernel_rfl) (by kernel_rfl)) ?_
  intro W base args ds gs before hval0 hW hcnd _
  exact contract H enc W base args ds gs before hval0 hW

theorem proved : Rows.TypesFittingSaid :=
  OpenClaim.holds_of_wide 7 Try.f7 rfl rfl rfl rfl rfl rfl rfl ⟨rfl, rfl, rfl, rfl, rfl⟩ rfl rfl rfl rfl rfl (by kernel_rfl) Try.func7 (by kernel_rfl)
    (of_decide_eq_true (by kernel_rfl)) (by unfold Func.isWrapper; first | (rw [if_pos (by decide +kernel)]; kernel_rfl) | (rw [if_neg (by decide +kernel)]; exact ⟨rfl, rfl⟩))
    (fun os started H enc _ => lifted os started H enc)
#print axioms proved
end Go.Proofs.Ytmcechcigehjbab.typesFitting
