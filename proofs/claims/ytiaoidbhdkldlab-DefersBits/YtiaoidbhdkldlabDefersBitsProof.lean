/-
  For every mask and bit (counted round), a bit that is set is there, the highest bit is not below it, and taking it away gives the mask without it: the law's function returns true.
-/
import Derived.Test.YtiaoidbhdkldlabDtop
namespace Go.Proofs.Ytiaoidbhdkldlab.defersBits
open Go.ChangeShapes Go.WideShapes Go.ChangeAt Go.RowKit
open Go.WideMaps Go.WideElems
open Go.ChangeMaps (open_string shut_string)
set_option linter.unusedSimpArgs false
set_option linter.unusedVariables false

theorem own : ownKnob Try.prog.godebug = none := by kernel_rfl

theorem wrap_fits' {n : Int} (h : (Lit.int .i64 n).wf = true) : -9223372036854775808 ≤ n ∧ n ≤ 9223372036854775807 := by
  simp [Lit.wf, IntKind.min, IntKind.max, IntKind.bits, IntKind.signed] at h; omega
set_option maxHeartbeats 4000000
theorem keep_spot256 (v : Int) (w : World) (wv : (Lit.int .i64 v).wf = true) : Calls Try.prog 20 #[.int .i64 v, .int .i64 256] w fun e w' => e = .returned (.int .i64 (v % 256)) ∧ Below w.heap.size w w' := by
  have hv := wrap_fits' wv
  by_cases h0 : 0 ≤ v
  · have e0 : Int.tmod v 256 = v % 256 := Int.tmod_eq_emod_of_nonneg h0
    have h1 : 0 ≤ v % 256 := by omega
    have h2 : v % 256 < 256 := by omega
    go_enter Try.func20, Try.ntmps20
    go_wp2_with fail
    all_goals go_ret
    all_goals exact ⟨rfl, Below.refl _ _⟩
  · have e0 : Int.tmod v 256 = -((-v) % 256) := by rw [← Int.tmod_eq_emod_of_nonneg (by omega), Int.neg_tmod, Int.neg_neg]
    have HE : Hid (Int.tmod v 256 = -((-v) % 256)) := e0
    by_cases h1 : Int.tmod v 256 < 0
    · have hx : wrap64 (Int.tmod v 256 + 256) = v % 256 := by rw [e0]; rw [e0] at h1; unfold wrap64; omega
      have HX : Hid (wrap64 (Int.tmod v 256 + 256) = v % 256) := hx
      clear hx
      clear e0
      go_enter Try.func20, Try.ntmps20
      go_wp2_with fail
      go_ret
      exact ⟨congrArg (fun x => Ending.returned (Value.int .i64 x)) HX.out, Below.refl _ _⟩
    · have hx : Int.tmod v 256 = v % 256 := by rw [e0]; rw [e0] at h1; omega
      have HX : Hid (Int.tmod v 256 = v % 256) := hx
      clear hx
      have h2 : decide (Int.tmod v 256 < 0) = false := decide_eq_false h1
      clear e0
      go_enter Try.func20, Try.ntmps20
      go_wp2_with fail
      go_ret
      exact ⟨congrArg (fun x => Ending.returned (Value.int .i64 x)) HX.out, Below.refl _ _⟩
theorem keep_spot8 (v : Int) (w : World) (wv : (Lit.int .i64 v).wf = true) : Calls Try.prog 20 #[.int .i64 v, .int .i64 8] w fun e w' => e = .returned (.int .i64 (v % 8)) ∧ Below w.heap.size w w' := by
  have hv := wrap_fits' wv
  by_cases h0 : 0 ≤ v
  · have e0 : Int.tmod v 8 = v % 8 := Int.tmod_eq_emod_of_nonneg h0
    have h1 : 0 ≤ v % 8 := by omega
    have h2 : v % 8 < 8 := by omega
    go_enter Try.func20, Try.ntmps20
    go_wp2_with fail
    all_goals go_ret
    all_goals exact ⟨rfl, Below.refl _ _⟩
  · have e0 : Int.tmod v 8 = -((-v) % 8) := by rw [← Int.tmod_eq_emod_of_nonneg (by omega), Int.neg_tmod, Int.neg_neg]
    have HE : Hid (Int.tmod v 8 = -((-v) % 8)) := e0
    by_cases h1 : Int.tmod v 8 < 0
    · have hx : wrap64 (Int.tmod v 8 + 8) = v % 8 := by rw [e0]; rw [e0] at h1; unfold wrap64; omega
      have HX : Hid (wrap64 (Int.tmod v 8 + 8) = v % 8) := hx
      clear hx
      clear e0
      go_enter Try.func20, Try.ntmps20
      go_wp2_with fail
      go_ret
      exact ⟨congrArg (fun x => Ending.returned (Value.int .i64 x)) HX.out, Below.refl _ _⟩
    · have hx : Int.tmod v 8 = v % 8 := by rw [e0]; rw [e0] at h1; omega
      have HX : Hid (Int.tmod v 8 = v % 8) := hx
      clear hx
      have h2 : decide (Int.tmod v 8 < 0) = false := decide_eq_false h1
      clear e0
      go_enter Try.func20, Try.ntmps20
      go_wp2_with fail
      go_ret
      exact ⟨congrArg (fun x => Ending.returned (Value.int .i64 x)) HX.out, Below.refl _ _⟩
theorem bit_facts : ∀ n : Nat, n < 256 → ∀ k : Nat, k < 8 → setN n k < 256 ∧ setN n k ≠ 0 ∧ k ≤ topN (setN n k) ∧ topN (setN n k) < 8 ∧ bitN (setN n k) k = true ∧ dropN (setN n k) k < 256 ∧ bitN (dropN (setN n k) k) k = false ∧ setN (dropN (setN n k) k) k = setN n k ∧ setN n k = dropN (setN n k) k + 2 ^ k ∧ (setN n k = n ∨ dropN (setN n k) k = n) := by decide +kernel
theorem maskB_of {n : Nat} (h : n < 256) : isMaskB (n : Int) = true := by simp [isMaskB]; omega
theorem walk0 (n : Nat) (hn : n < 256) (a0 a1 : Int) (w : World) (h0 : a0 % 256 = n) (h1 : a1 % 8 = 0) (w0 : (Lit.int .i64 a0).wf = true) (w1 : (Lit.int .i64 a1).wf = true) :
    Calls Try.prog 7 #[.int .i64 a0, .int .i64 a1] w fun e w' => e = .returned (.bool true) ∧ Below w.heap.size w w' := by
  obtain ⟨f1, f2, f3, f4, f5, f6, f7, f8, f9, f10⟩ := bit_facts n hn 0 (by decide)
  have g0 : setR (n : Int) 0 = (((setN n 0 : Nat) : Int), (0 : Int)) := by simp [setR, maskB_of hn, isBitB]
  generalize hp : setN n 0 = p at *
  have g1 : topR (p : Int) = (((topN p : Nat) : Int), true) := by simp [topR, maskB_of f1, f2]
  have g2 : dropR (p : Int) 0 = (((dropN p 0 : Nat) : Int), (0 : Int)) := by simp [dropR, maskB_of f1, isBitB, f5]
  generalize hq : dropN p 0 = q at *
  have g3 : dropR (q : Int) 0 = ((0 : Int), (16 : Int)) := by simp [dropR, maskB_of f6, isBitB, f7]
  have g4 : setR (q : Int) 0 = ((p : Int), (0 : Int)) := by simp [setR, maskB_of f6, isBitB, f8]
  generalize topN p = t at *
  have c1 : ∀ w, Calls Try.prog 21 #[.int .i64 n, .int .i64 0] w fun e w' => e = .returned (.tuple #[.int .i64 p, .int .i64 0]) ∧ Below w.heap.size w w' := fun w => by have := own_set (n : Int) 0 w; rw [g0] at this; exact this
  have c2 : ∀ w, Calls Try.prog 22 #[.int .i64 p] w fun e w' => e = .returned (.tuple #[.int .i64 t, .bool true]) ∧ Below w.heap.size w w' := fun w => by have := own_top (p : Int) w; rw [g1] at this; exact this
  have c3 : ∀ w, Calls Try.prog 23 #[.int .i64 p, .int .i64 0] w fun e w' => e = .returned (.tuple #[.int .i64 q, .int .i64 0]) ∧ Below w.heap.size w w' := fun w => by have := own_drop (p : Int) 0 w; rw [g2] at this; exact this
  have c4 : ∀ w, Calls Try.prog 23 #[.int .i64 q, .int .i64 0] w fun e w' => e = .returned (.tuple #[.int .i64 0, .int .i64 16]) ∧ Below w.heap.size w w' := fun w => by have := own_drop (q : Int) 0 w; rw [g3] at this; exact this
  have c5 : ∀ w, Calls Try.prog 21 #[.int .i64 q, .int .i64 0] w fun e w' => e = .returned (.tuple #[.int .i64 p, .int .i64 0]) ∧ Below w.heap.size w w' := fun w => by have := own_set (q : Int) 0 w; rw [g4] at this; exact this
  have s0 : ∀ w, Calls Try.prog 20 #[.int .i64 a0, .int .i64 256] w fun e w' => e = .returned (.int .i64 n) ∧ Below w.heap.size w w' := fun w => by have := keep_spot256 a0 w w0; rw [h0] at this; exact this
  have s1 : ∀ w, Calls Try.prog 20 #[.int .i64 a1, .int .i64 8] w fun e w' => e = .returned (.int .i64 0) ∧ Below w.heap.size w w' := fun w => by have := keep_spot8 a1 w w1; rw [h1] at this; exact this
  clear g0 g1 g2 g3 g4 f5 f7 f8 hp hq h0 h1 w0 w1
  have i1 : ((t : Int) < 0) = False := by first | (simp; done) | (simp; omega)
  have i2 : (p : Int) - (q : Int) = 1 := by omega
  have i3 : (p : Int) < 256 := by omega
  have i4 : (q : Int) < 256 := by omega
  have HF : Hid (p = n ∨ q = n) := f10
  clear f10 f9 f3 f2
  go_enter Try.func7, Try.ntmps7
  go_wp2_with fail
  refine (s0 _).mono ?_
  rintro e u1 ⟨rfl, b1⟩
  go_wp2_with fail
  refine (s1 _).mono ?_
  rintro e u2 ⟨rfl, b2⟩
  have B2 := b1.trans (b2.mono b1.size)
  clear b1 b2
  go_wp2_with fail
  refine (c1 _).mono ?_
  rintro e u3 ⟨rfl, b3⟩
  have B3 := B2.trans (b3.mono B2.size)
  clear B2 b3
  go_wp2_with fail
  refine (c2 _).mono ?_
  rintro e u4 ⟨rfl, b4⟩
  have B4 := B3.trans (b4.mono B3.size)
  clear B3 b4
  go_wp2_with fail
  refine (c3 _).mono ?_
  rintro e u5 ⟨rfl, b5⟩
  have B5 := B4.trans (b5.mono B4.size)
  clear B4 b5
  go_wp2_with fail
  refine (c4 _).mono ?_
  rintro e u6 ⟨rfl, b6⟩
  have B6 := B5.trans (b6.mono B5.size)
  clear B5 b6
  go_wp2_with fail
  refine (c5 _).mono ?_
  rintro e u7 ⟨rfl, b7⟩
  have B7 := B6.trans (b7.mono B6.size)
  clear B6 b7
  by_cases hpn : p = n
  · subst hpn
    go_wp2_with fail
    all_goals go_ret
    all_goals exact ⟨by simp, B7⟩
  · have hqn : q = n := by
      rcases HF.out with h | h
      · exact absurd h hpn
      · exact h
    subst hqn
    have hpq : ((p : Int) == (q : Int)) = false := by simp; omega
    clear hpn
    go_wp2_with fail
    all_goals go_ret
    all_goals exact ⟨by simp, B7⟩
theorem walk1 (n : Nat) (hn : n < 256) (a0 a1 : Int) (w : World) (h0 : a0 % 256 = n) (h1 : a1 % 8 = 1) (w0 : (Lit.int .i64 a0).wf = true) (w1 : (Lit.int .i64 a1).wf = true) :
    Calls Try.prog 7 #[.int .i64 a0, .int .i64 a1] w fun e w' => e = .returned (.bool true) ∧ Below w.heap.size w w' := by
  obtain ⟨f1, f2, f3, f4, f5, f6, f7, f8, f9, f10⟩ := bit_facts n hn 1 (by decide)
  have g0 : setR (n : Int) 1 = (((setN n 1 : Nat) : Int), (0 : Int)) := by simp [setR, maskB_of hn, isBitB]
  generalize hp : setN n 1 = p at *
  have g1 : topR (p : Int) = (((topN p : Nat) : Int), true) := by simp [topR, maskB_of f1, f2]
  have g2 : dropR (p : Int) 1 = (((dropN p 1 : Nat) : Int), (0 : Int)) := by simp [dropR, maskB_of f1, isBitB, f5]
  generalize hq : dropN p 1 = q at *
  have g3 : dropR (q : Int) 1 = ((0 : Int), (16 : Int)) := by simp [dropR, maskB_of f6, isBitB, f7]
  have g4 : setR (q : Int) 1 = ((p : Int), (0 : Int)) := by simp [setR, maskB_of f6, isBitB, f8]
  generalize topN p = t at *
  have c1 : ∀ w, Calls Try.prog 21 #[.int .i64 n, .int .i64 1] w fun e w' => e = .returned (.tuple #[.int .i64 p, .int .i64 0]) ∧ Below w.heap.size w w' := fun w => by have := own_set (n : Int) 1 w; rw [g0] at this; exact this
  have c2 : ∀ w, Calls Try.prog 22 #[.int .i64 p] w fun e w' => e = .returned (.tuple #[.int .i64 t, .bool true]) ∧ Below w.heap.size w w' := fun w => by have := own_top (p : Int) w; rw [g1] at this; exact this
  have c3 : ∀ w, Calls Try.prog 23 #[.int .i64 p, .int .i64 1] w fun e w' => e = .returned (.tuple #[.int .i64 q, .int .i64 0]) ∧ Below w.heap.size w w' := fun w => by have := own_drop (p : Int) 1 w; rw [g2] at this; exact this
  have c4 : ∀ w, Calls Try.prog 23 #[.int .i64 q, .int .i64 1] w fun e w' => e = .returned (.tuple #[.int .i64 0, .int .i64 16]) ∧ Below w.heap.size w w' := fun w => by have := own_drop (q : Int) 1 w; rw [g3] at this; exact this
  have c5 : ∀ w, Calls Try.prog 21 #[.int .i64 q, .int .i64 1] w fun e w' => e = .returned (.tuple #[.int .i64 p, .int .i64 0]) ∧ Below w.heap.size w w' := fun w => by have := own_set (q : Int) 1 w; rw [g4] at this; exact this
  have s0 : ∀ w, Calls Try.prog 20 #[.int .i64 a0, .int .i64 256] w fun e w' => e = .returned (.int .i64 n) ∧ Below w.heap.size w w' := fun w => by have := keep_spot256 a0 w w0; rw [h0] at this; exact this
  have s1 : ∀ w, Calls Try.prog 20 #[.int .i64 a1, .int .i64 8] w fun e w' => e = .returned (.int .i64 1) ∧ Below w.heap.size w w' := fun w => by have := keep_spot8 a1 w w1; rw [h1] at this; exact this
  clear g0 g1 g2 g3 g4 f5 f7 f8 hp hq h0 h1 w0 w1
  have i1 : ((t : Int) < 1) = False := by first | (simp; done) | (simp; omega)
  have i2 : (p : Int) - (q : Int) = 2 := by omega
  have i3 : (p : Int) < 256 := by omega
  have i4 : (q : Int) < 256 := by omega
  have HF : Hid (p = n ∨ q = n) := f10
  clear f10 f9 f3 f2
  go_enter Try.func7, Try.ntmps7
  go_wp2_with fail
  refine (s0 _).mono ?_
  rintro e u1 ⟨rfl, b1⟩
  go_wp2_with fail
  refine (s1 _).mono ?_
  rintro e u2 ⟨rfl, b2⟩
  have B2 := b1.trans (b2.mono b1.size)
  clear b1 b2
  go_wp2_with fail
  refine (c1 _).mono ?_
  rintro e u3 ⟨rfl, b3⟩
  have B3 := B2.trans (b3.mono B2.size)
  clear B2 b3
  go_wp2_with fail
  refine (c2 _).mono ?_
  rintro e u4 ⟨rfl, b4⟩
  have B4 := B3.trans (b4.mono B3.size)
  clear B3 b4
  go_wp2_with fail
  refine (c3 _).mono ?_
  rintro e u5 ⟨rfl, b5⟩
  have B5 := B4.trans (b5.mono B4.size)
  clear B4 b5
  go_wp2_with fail
  refine (c4 _).mono ?_
  rintro e u6 ⟨rfl, b6⟩
  have B6 := B5.trans (b6.mono B5.size)
  clear B5 b6
  go_wp2_with fail
  refine (c5 _).mono ?_
  rintro e u7 ⟨rfl, b7⟩
  have B7 := B6.trans (b7.mono B6.size)
  clear B6 b7
  by_cases hpn : p = n
  · subst hpn
    go_wp2_with fail
    all_goals go_ret
    all_goals exact ⟨by simp, B7⟩
  · have hqn : q = n := by
      rcases HF.out with h | h
      · exact absurd h hpn
      · exact h
    subst hqn
    have hpq : ((p : Int) == (q : Int)) = false := by simp; omega
    clear hpn
    go_wp2_with fail
    all_goals go_ret
    all_goals exact ⟨by simp, B7⟩
theorem walk2 (n : Nat) (hn : n < 256) (a0 a1 : Int) (w : World) (h0 : a0 % 256 = n) (h1 : a1 % 8 = 2) (w0 : (Lit.int .i64 a0).wf = true) (w1 : (Lit.int .i64 a1).wf = true) :
    Calls Try.prog 7 #[.int .i64 a0, .int .i64 a1] w fun e w' => e = .returned (.bool true) ∧ Below w.heap.size w w' := by
  obtain ⟨f1, f2, f3, f4, f5, f6, f7, f8, f9, f10⟩ := bit_facts n hn 2 (by decide)
  have g0 : setR (n : Int) 2 = (((setN n 2 : Nat) : Int), (0 : Int)) := by simp [setR, maskB_of hn, isBitB]
  generalize hp : setN n 2 = p at *
  have g1 : topR (p : Int) = (((topN p : Nat) : Int), true) := by simp [topR, maskB_of f1, f2]
  have g2 : dropR (p : Int) 2 = (((dropN p 2 : Nat) : Int), (0 : Int)) := by simp [dropR, maskB_of f1, isBitB, f5]
  generalize hq : dropN p 2 = q at *
  have g3 : dropR (q : Int) 2 = ((0 : Int), (16 : Int)) := by simp [dropR, maskB_of f6, isBitB, f7]
  have g4 : setR (q : Int) 2 = ((p : Int), (0 : Int)) := by simp [setR, maskB_of f6, isBitB, f8]
  generalize topN p = t at *
  have c1 : ∀ w, Calls Try.prog 21 #[.int .i64 n, .int .i64 2] w fun e w' => e = .returned (.tuple #[.int .i64 p, .int .i64 0]) ∧ Below w.heap.size w w' := fun w => by have := own_set (n : Int) 2 w; rw [g0] at this; exact this
  have c2 : ∀ w, Calls Try.prog 22 #[.int .i64 p] w fun e w' => e = .returned (.tuple #[.int .i64 t, .bool true]) ∧ Below w.heap.size w w' := fun w => by have := own_top (p : Int) w; rw [g1] at this; exact this
  have c3 : ∀ w, Calls Try.prog 23 #[.int .i64 p, .int .i64 2] w fun e w' => e = .returned (.tuple #[.int .i64 q, .int .i64 0]) ∧ Below w.heap.size w w' := fun w => by have := own_drop (p : Int) 2 w; rw [g2] at this; exact this
  have c4 : ∀ w, Calls Try.prog 23 #[.int .i64 q, .int .i64 2] w fun e w' => e = .returned (.tuple #[.int .i64 0, .int .i64 16]) ∧ Below w.heap.size w w' := fun w => by have := own_drop (q : Int) 2 w; rw [g3] at this; exact this
  have c5 : ∀ w, Calls Try.prog 21 #[.int .i64 q, .int .i64 2] w fun e w' => e = .returned (.tuple #[.int .i64 p, .int .i64 0]) ∧ Below w.heap.size w w' := fun w => by have := own_set (q : Int) 2 w; rw [g4] at this; exact this
  have s0 : ∀ w, Calls Try.prog 20 #[.int .i64 a0, .int .i64 256] w fun e w' => e = .returned (.int .i64 n) ∧ Below w.heap.size w w' := fun w => by have := keep_spot256 a0 w w0; rw [h0] at this; exact this
  have s1 : ∀ w, Calls Try.prog 20 #[.int .i64 a1, .int .i64 8] w fun e w' => e = .returned (.int .i64 2) ∧ Below w.heap.size w w' := fun w => by have := keep_spot8 a1 w w1; rw [h1] at this; exact this
  clear g0 g1 g2 g3 g4 f5 f7 f8 hp hq h0 h1 w0 w1
  have i1 : ((t : Int) < 2) = False := by first | (simp; done) | (simp; omega)
  have i2 : (p : Int) - (q : Int) = 4 := by omega
  have i3 : (p : Int) < 256 := by omega
  have i4 : (q : Int) < 256 := by omega
  have HF : Hid (p = n ∨ q = n) := f10
  clear f10 f9 f3 f2
  go_enter Try.func7, Try.ntmps7
  go_wp2_with fail
  refine (s0 _).mono ?_
  rintro e u1 ⟨rfl, b1⟩
  go_wp2_with fail
  refine (s1 _).mono ?_
  rintro e u2 ⟨rfl, b2⟩
  have B2 := b1.trans (b2.mono b1.size)
  clear b1 b2
  go_wp2_with fail
  refine (c1 _).mono ?_
  rintro e u3 ⟨rfl, b3⟩
  have B3 := B2.trans (b3.mono B2.size)
  clear B2 b3
  go_wp2_with fail
  refine (c2 _).mono ?_
  rintro e u4 ⟨rfl, b4⟩
  have B4 := B3.trans (b4.mono B3.size)
  clear B3 b4
  go_wp2_with fail
  refine (c3 _).mono ?_
  rintro e u5 ⟨rfl, b5⟩
  have B5 := B4.trans (b5.mono B4.size)
  clear B4 b5
  go_wp2_with fail
  refine (c4 _).mono ?_
  rintro e u6 ⟨rfl, b6⟩
  have B6 := B5.trans (b6.mono B5.size)
  clear B5 b6
  go_wp2_with fail
  refine (c5 _).mono ?_
  rintro e u7 ⟨rfl, b7⟩
  have B7 := B6.trans (b7.mono B6.size)
  clear B6 b7
  by_cases hpn : p = n
  · subst hpn
    go_wp2_with fail
    all_goals go_ret
    all_goals exact ⟨by simp, B7⟩
  · have hqn : q = n := by
      rcases HF.out with h | h
      · exact absurd h hpn
      · exact h
    subst hqn
    have hpq : ((p : Int) == (q : Int)) = false := by simp; omega
    clear hpn
    go_wp2_with fail
    all_goals go_ret
    all_goals exact ⟨by simp, B7⟩
theorem walk3 (n : Nat) (hn : n < 256) (a0 a1 : Int) (w : World) (h0 : a0 % 256 = n) (h1 : a1 % 8 = 3) (w0 : (Lit.int .i64 a0).wf = true) (w1 : (Lit.int .i64 a1).wf = true) :
    Calls Try.prog 7 #[.int .i64 a0, .int .i64 a1] w fun e w' => e = .returned (.bool true) ∧ Below w.heap.size w w' := by
  obtain ⟨f1, f2, f3, f4, f5, f6, f7, f8, f9, f10⟩ := bit_facts n hn 3 (by decide)
  have g0 : setR (n : Int) 3 = (((setN n 3 : Nat) : Int), (0 : Int)) := by simp [setR, maskB_of hn, isBitB]
  generalize hp : setN n 3 = p at *
  have g1 : topR (p : Int) = (((topN p : Nat) : Int), true) := by simp [topR, maskB_of f1, f2]
  have g2 : dropR (p : Int) 3 = (((dropN p 3 : Nat) : Int), (0 : Int)) := by simp [dropR, maskB_of f1, isBitB, f5]
  generalize hq : dropN p 3 = q at *
  have g3 : dropR (q : Int) 3 = ((0 : Int), (16 : Int)) := by simp [dropR, maskB_of f6, isBitB, f7]
  have g4 : setR (q : Int) 3 = ((p : Int), (0 : Int)) := by simp [setR, maskB_of f6, isBitB, f8]
  generalize topN p = t at *
  have c1 : ∀ w, Calls Try.prog 21 #[.int .i64 n, .int .i64 3] w fun e w' => e = .returned (.tuple #[.int .i64 p, .int .i64 0]) ∧ Below w.heap.size w w' := fun w => by have := own_set (n : Int) 3 w; rw [g0] at this; exact this
  have c2 : ∀ w, Calls Try.prog 22 #[.int .i64 p] w fun e w' => e = .returned (.tuple #[.int .i64 t, .bool true]) ∧ Below w.heap.size w w' := fun w => by have := own_top (p : Int) w; rw [g1] at this; exact this
  have c3 : ∀ w, Calls Try.prog 23 #[.int .i64 p, .int .i64 3] w fun e w' => e = .returned (.tuple #[.int .i64 q, .int .i64 0]) ∧ Below w.heap.size w w' := fun w => by have := own_drop (p : Int) 3 w; rw [g2] at this; exact this
  have c4 : ∀ w, Calls Try.prog 23 #[.int .i64 q, .int .i64 3] w fun e w' => e = .returned (.tuple #[.int .i64 0, .int .i64 16]) ∧ Below w.heap.size w w' := fun w => by have := own_drop (q : Int) 3 w; rw [g3] at this; exact this
  have c5 : ∀ w, Calls Try.prog 21 #[.int .i64 q, .int .i64 3] w fun e w' => e = .returned (.tuple #[.int .i64 p, .int .i64 0]) ∧ Below w.heap.size w w' := fun w => by have := own_set (q : Int) 3 w; rw [g4] at this; exact this
  have s0 : ∀ w, Calls Try.prog 20 #[.int .i64 a0, .int .i64 256] w fun e w' => e = .returned (.int .i64 n) ∧ Below w.heap.size w w' := fun w => by have := keep_spot256 a0 w w0; rw [h0] at this; exact this
  have s1 : ∀ w, Calls Try.prog 20 #[.int .i64 a1, .int .i64 8] w fun e w' => e = .returned (.int .i64 3) ∧ Below w.heap.size w w' := fun w => by have := keep_spot8 a1 w w1; rw [h1] at this; exact this
  clear g0 g1 g2 g3 g4 f5 f7 f8 hp hq h0 h1 w0 w1
  have i1 : ((t : Int) < 3) = False := by first | (simp; done) | (simp; omega)
  have i2 : (p : Int) - (q : Int) = 8 := by omega
  have i3 : (p : Int) < 256 := by omega
  have i4 : (q : Int) < 256 := by omega
  have HF : Hid (p = n ∨ q = n) := f10
  clear f10 f9 f3 f2
  go_enter Try.func7, Try.ntmps7
  go_wp2_with fail
  refine (s0 _).mono ?_
  rintro e u1 ⟨rfl, b1⟩
  go_wp2_with fail
  refine (s1 _).mono ?_
  rintro e u2 ⟨rfl, b2⟩
  have B2 := b1.trans (b2.mono b1.size)
  clear b1 b2
  go_wp2_with fail
  refine (c1 _).mono ?_
  rintro e u3 ⟨rfl, b3⟩
  have B3 := B2.trans (b3.mono B2.size)
  clear B2 b3
  go_wp2_with fail
  refine (c2 _).mono ?_
  rintro e u4 ⟨rfl, b4⟩
  have B4 := B3.trans (b4.mono B3.size)
  clear B3 b4
  go_wp2_with fail
  refine (c3 _).mono ?_
  rintro e u5 ⟨rfl, b5⟩
  have B5 := B4.trans (b5.mono B4.size)
  clear B4 b5
  go_wp2_with fail
  refine (c4 _).mono ?_
  rintro e u6 ⟨rfl, b6⟩
  have B6 := B5.trans (b6.mono B5.size)
  clear B5 b6
  go_wp2_with fail
  refine (c5 _).mono ?_
  rintro e u7 ⟨rfl, b7⟩
  have B7 := B6.trans (b7.mono B6.size)
  clear B6 b7
  by_cases hpn : p = n
  · subst hpn
    go_wp2_with fail
    all_goals go_ret
    all_goals exact ⟨by simp, B7⟩
  · have hqn : q = n := by
      rcases HF.out with h | h
      · exact absurd h hpn
      · exact h
    subst hqn
    have hpq : ((p : Int) == (q : Int)) = false := by simp; omega
    clear hpn
    go_wp2_with fail
    all_goals go_ret
    all_goals exact ⟨by simp, B7⟩
theorem walk4 (n : Nat) (hn : n < 256) (a0 a1 : Int) (w : World) (h0 : a0 % 256 = n) (h1 : a1 % 8 = 4) (w0 : (Lit.int .i64 a0).wf = true) (w1 : (Lit.int .i64 a1).wf = true) :
    Calls Try.prog 7 #[.int .i64 a0, .int .i64 a1] w fun e w' => e = .returned (.bool true) ∧ Below w.heap.size w w' := by
  obtain ⟨f1, f2, f3, f4, f5, f6, f7, f8, f9, f10⟩ := bit_facts n hn 4 (by decide)
  have g0 : setR (n : Int) 4 = (((setN n 4 : Nat) : Int), (0 : Int)) := by simp [setR, maskB_of hn, isBitB]
  generalize hp : setN n 4 = p at *
  have g1 : topR (p : Int) = (((topN p : Nat) : Int), true) := by simp [topR, maskB_of f1, f2]
  have g2 : dropR (p : Int) 4 = (((dropN p 4 : Nat) : Int), (0 : Int)) := by simp [dropR, maskB_of f1, isBitB, f5]
  generalize hq : dropN p 4 = q at *
  have g3 : dropR (q : Int) 4 = ((0 : Int), (16 : Int)) := by simp [dropR, maskB_of f6, isBitB, f7]
  have g4 : setR (q : Int) 4 = ((p : Int), (0 : Int)) := by simp [setR, maskB_of f6, isBitB, f8]
  generalize topN p = t at *
  have c1 : ∀ w, Calls Try.prog 21 #[.int .i64 n, .int .i64 4] w fun e w' => e = .returned (.tuple #[.int .i64 p, .int .i64 0]) ∧ Below w.heap.size w w' := fun w => by have := own_set (n : Int) 4 w; rw [g0] at this; exact this
  have c2 : ∀ w, Calls Try.prog 22 #[.int .i64 p] w fun e w' => e = .returned (.tuple #[.int .i64 t, .bool true]) ∧ Below w.heap.size w w' := fun w => by have := own_top (p : Int) w; rw [g1] at this; exact this
  have c3 : ∀ w, Calls Try.prog 23 #[.int .i64 p, .int .i64 4] w fun e w' => e = .returned (.tuple #[.int .i64 q, .int .i64 0]) ∧ Below w.heap.size w w' := fun w => by have := own_drop (p : Int) 4 w; rw [g2] at this; exact this
  have c4 : ∀ w, Calls Try.prog 23 #[.int .i64 q, .int .i64 4] w fun e w' => e = .returned (.tuple #[.int .i64 0, .int .i64 16]) ∧ Below w.heap.size w w' := fun w => by have := own_drop (q : Int) 4 w; rw [g3] at this; exact this
  have c5 : ∀ w, Calls Try.prog 21 #[.int .i64 q, .int .i64 4] w fun e w' => e = .returned (.tuple #[.int .i64 p, .int .i64 0]) ∧ Below w.heap.size w w' := fun w => by have := own_set (q : Int) 4 w; rw [g4] at this; exact this
  have s0 : ∀ w, Calls Try.prog 20 #[.int .i64 a0, .int .i64 256] w fun e w' => e = .returned (.int .i64 n) ∧ Below w.heap.size w w' := fun w => by have := keep_spot256 a0 w w0; rw [h0] at this; exact this
  have s1 : ∀ w, Calls Try.prog 20 #[.int .i64 a1, .int .i64 8] w fun e w' => e = .returned (.int .i64 4) ∧ Below w.heap.size w w' := fun w => by have := keep_spot8 a1 w w1; rw [h1] at this; exact this
  clear g0 g1 g2 g3 g4 f5 f7 f8 hp hq h0 h1 w0 w1
  have i1 : ((t : Int) < 4) = False := by first | (simp; done) | (simp; omega)
  have i2 : (p : Int) - (q : Int) = 16 := by omega
  have i3 : (p : Int) < 256 := by omega
  have i4 : (q : Int) < 256 := by omega
  have HF : Hid (p = n ∨ q = n) := f10
  clear f10 f9 f3 f2
  go_enter Try.func7, Try.ntmps7
  go_wp2_with fail
  refine (s0 _).mono ?_
  rintro e u1 ⟨rfl, b1⟩
  go_wp2_with fail
  refine (s1 _).mono ?_
  rintro e u2 ⟨rfl, b2⟩
  have B2 := b1.trans (b2.mono b1.size)
  clear b1 b2
  go_wp2_with fail
  refine (c1 _).mono ?_
  rintro e u3 ⟨rfl, b3⟩
  have B3 := B2.trans (b3.mono B2.size)
  clear B2 b3
  go_wp2_with fail
  refine (c2 _).mono ?_
  rintro e u4 ⟨rfl, b4⟩
  have B4 := B3.trans (b4.mono B3.size)
  clear B3 b4
  go_wp2_with fail
  refine (c3 _).mono ?_
  rintro e u5 ⟨rfl, b5⟩
  have B5 := B4.trans (b5.mono B4.size)
  clear B4 b5
  go_wp2_with fail
  refine (c4 _).mono ?_
  rintro e u6 ⟨rfl, b6⟩
  have B6 := B5.trans (b6.mono B5.size)
  clear B5 b6
  go_wp2_with fail
  refine (c5 _).mono ?_
  rintro e u7 ⟨rfl, b7⟩
  have B7 := B6.trans (b7.mono B6.size)
  clear B6 b7
  by_cases hpn : p = n
  · subst hpn
    go_wp2_with fail
    all_goals go_ret
    all_goals exact ⟨by simp, B7⟩
  · have hqn : q = n := by
      rcases HF.out with h | h
      · exact absurd h hpn
      · exact h
    subst hqn
    have hpq : ((p : Int) == (q : Int)) = false := by simp; omega
    clear hpn
    go_wp2_with fail
    all_goals go_ret
    all_goals exact ⟨by simp, B7⟩
theorem walk5 (n : Nat) (hn : n < 256) (a0 a1 : Int) (w : World) (h0 : a0 % 256 = n) (h1 : a1 % 8 = 5) (w0 : (Lit.int .i64 a0).wf = true) (w1 : (Lit.int .i64 a1).wf = true) :
    Calls Try.prog 7 #[.int .i64 a0, .int .i64 a1] w fun e w' => e = .returned (.bool true) ∧ Below w.heap.size w w' := by
  obtain ⟨f1, f2, f3, f4, f5, f6, f7, f8, f9, f10⟩ := bit_facts n hn 5 (by decide)
  have g0 : setR (n : Int) 5 = (((setN n 5 : Nat) : Int), (0 : Int)) := by simp [setR, maskB_of hn, isBitB]
  generalize hp : setN n 5 = p at *
  have g1 : topR (p : Int) = (((topN p : Nat) : Int), true) := by simp [topR, maskB_of f1, f2]
  have g2 : dropR (p : Int) 5 = (((dropN p 5 : Nat) : Int), (0 : Int)) := by simp [dropR, maskB_of f1, isBitB, f5]
  generalize hq : dropN p 5 = q at *
  have g3 : dropR (q : Int) 5 = ((0 : Int), (16 : Int)) := by simp [dropR, maskB_of f6, isBitB, f7]
  have g4 : setR (q : Int) 5 = ((p : Int), (0 : Int)) := by simp [setR, maskB_of f6, isBitB, f8]
  generalize topN p = t at *
  have c1 : ∀ w, Calls Try.prog 21 #[.int .i64 n, .int .i64 5] w fun e w' => e = .returned (.tuple #[.int .i64 p, .int .i64 0]) ∧ Below w.heap.size w w' := fun w => by have := own_set (n : Int) 5 w; rw [g0] at this; exact this
  have c2 : ∀ w, Calls Try.prog 22 #[.int .i64 p] w fun e w' => e = .returned (.tuple #[.int .i64 t, .bool true]) ∧ Below w.heap.size w w' := fun w => by have := own_top (p : Int) w; rw [g1] at this; exact this
  have c3 : ∀ w, Calls Try.prog 23 #[.int .i64 p, .int .i64 5] w fun e w' => e = .returned (.tuple #[.int .i64 q, .int .i64 0]) ∧ Below w.heap.size w w' := fun w => by have := own_drop (p : Int) 5 w; rw [g2] at this; exact this
  have c4 : ∀ w, Calls Try.prog 23 #[.int .i64 q, .int .i64 5] w fun e w' => e = .returned (.tuple #[.int .i64 0, .int .i64 16]) ∧ Below w.heap.size w w' := fun w => by have := own_drop (q : Int) 5 w; rw [g3] at this; exact this
  have c5 : ∀ w, Calls Try.prog 21 #[.int .i64 q, .int .i64 5] w fun e w' => e = .returned (.tuple #[.int .i64 p, .int .i64 0]) ∧ Below w.heap.size w w' := fun w => by have := own_set (q : Int) 5 w; rw [g4] at this; exact this
  have s0 : ∀ w, Calls Try.prog 20 #[.int .i64 a0, .int .i64 256] w fun e w' => e = .returned (.int .i64 n) ∧ Below w.heap.size w w' := fun w => by have := keep_spot256 a0 w w0; rw [h0] at this; exact this
  have s1 : ∀ w, Calls Try.prog 20 #[.int .i64 a1, .int .i64 8] w fun e w' => e = .returned (.int .i64 5) ∧ Below w.heap.size w w' := fun w => by have := keep_spot8 a1 w w1; rw [h1] at this; exact this
  clear g0 g1 g2 g3 g4 f5 f7 f8 hp hq h0 h1 w0 w1
  have i1 : ((t : Int) < 5) = False := by first | (simp; done) | (simp; omega)
  have i2 : (p : Int) - (q : Int) = 32 := by omega
  have i3 : (p : Int) < 256 := by omega
  have i4 : (q : Int) < 256 := by omega
  have HF : Hid (p = n ∨ q = n) := f10
  clear f10 f9 f3 f2
  go_enter Try.func7, Try.ntmps7
  go_wp2_with fail
  refine (s0 _).mono ?_
  rintro e u1 ⟨rfl, b1⟩
  go_wp2_with fail
  refine (s1 _).mono ?_
  rintro e u2 ⟨rfl, b2⟩
  have B2 := b1.trans (b2.mono b1.size)
  clear b1 b2
  go_wp2_with fail
  refine (c1 _).mono ?_
  rintro e u3 ⟨rfl, b3⟩
  have B3 := B2.trans (b3.mono B2.size)
  clear B2 b3
  go_wp2_with fail
  refine (c2 _).mono ?_
  rintro e u4 ⟨rfl, b4⟩
  have B4 := B3.trans (b4.mono B3.size)
  clear B3 b4
  go_wp2_with fail
  refine (c3 _).mono ?_
  rintro e u5 ⟨rfl, b5⟩
  have B5 := B4.trans (b5.mono B4.size)
  clear B4 b5
  go_wp2_with fail
  refine (c4 _).mono ?_
  rintro e u6 ⟨rfl, b6⟩
  have B6 := B5.trans (b6.mono B5.size)
  clear B5 b6
  go_wp2_with fail
  refine (c5 _).mono ?_
  rintro e u7 ⟨rfl, b7⟩
  have B7 := B6.trans (b7.mono B6.size)
  clear B6 b7
  by_cases hpn : p = n
  · subst hpn
    go_wp2_with fail
    all_goals go_ret
    all_goals exact ⟨by simp, B7⟩
  · have hqn : q = n := by
      rcases HF.out with h | h
      · exact absurd h hpn
      · exact h
    subst hqn
    have hpq : ((p : Int) == (q : Int)) = false := by simp; omega
    clear hpn
    go_wp2_with fail
    all_goals go_ret
    all_goals exact ⟨by simp, B7⟩
theorem walk6 (n : Nat) (hn : n < 256) (a0 a1 : Int) (w : World) (h0 : a0 % 256 = n) (h1 : a1 % 8 = 6) (w0 : (Lit.int .i64 a0).wf = true) (w1 : (Lit.int .i64 a1).wf = true) :
    Calls Try.prog 7 #[.int .i64 a0, .int .i64 a1] w fun e w' => e = .returned (.bool true) ∧ Below w.heap.size w w' := by
  obtain ⟨f1, f2, f3, f4, f5, f6, f7, f8, f9, f10⟩ := bit_facts n hn 6 (by decide)
  have g0 : setR (n : Int) 6 = (((setN n 6 : Nat) : Int), (0 : Int)) := by simp [setR, maskB_of hn, isBitB]
  generalize hp : setN n 6 = p at *
  have g1 : topR (p : Int) = (((topN p : Nat) : Int), true) := by simp [topR, maskB_of f1, f2]
  have g2 : dropR (p : Int) 6 = (((dropN p 6 : Nat) : Int), (0 : Int)) := by simp [dropR, maskB_of f1, isBitB, f5]
  generalize hq : dropN p 6 = q at *
  have g3 : dropR (q : Int) 6 = ((0 : Int), (16 : Int)) := by simp [dropR, maskB_of f6, isBitB, f7]
  have g4 : setR (q : Int) 6 = ((p : Int), (0 : Int)) := by simp [setR, maskB_of f6, isBitB, f8]
  generalize topN p = t at *
  have c1 : ∀ w, Calls Try.prog 21 #[.int .i64 n, .int .i64 6] w fun e w' => e = .returned (.tuple #[.int .i64 p, .int .i64 0]) ∧ Below w.heap.size w w' := fun w => by have := own_set (n : Int) 6 w; rw [g0] at this; exact this
  have c2 : ∀ w, Calls Try.prog 22 #[.int .i64 p] w fun e w' => e = .returned (.tuple #[.int .i64 t, .bool true]) ∧ Below w.heap.size w w' := fun w => by have := own_top (p : Int) w; rw [g1] at this; exact this
  have c3 : ∀ w, Calls Try.prog 23 #[.int .i64 p, .int .i64 6] w fun e w' => e = .returned (.tuple #[.int .i64 q, .int .i64 0]) ∧ Below w.heap.size w w' := fun w => by have := own_drop (p : Int) 6 w; rw [g2] at this; exact this
  have c4 : ∀ w, Calls Try.prog 23 #[.int .i64 q, .int .i64 6] w fun e w' => e = .returned (.tuple #[.int .i64 0, .int .i64 16]) ∧ Below w.heap.size w w' := fun w => by have := own_drop (q : Int) 6 w; rw [g3] at this; exact this
  have c5 : ∀ w, Calls Try.prog 21 #[.int .i64 q, .int .i64 6] w fun e w' => e = .returned (.tuple #[.int .i64 p, .int .i64 0]) ∧ Below w.heap.size w w' := fun w => by have := own_set (q : Int) 6 w; rw [g4] at this; exact this
  have s0 : ∀ w, Calls Try.prog 20 #[.int .i64 a0, .int .i64 256] w fun e w' => e = .returned (.int .i64 n) ∧ Below w.heap.size w w' := fun w => by have := keep_spot256 a0 w w0; rw [h0] at this; exact this
  have s1 : ∀ w, Calls Try.prog 20 #[.int .i64 a1, .int .i64 8] w fun e w' => e = .returned (.int .i64 6) ∧ Below w.heap.size w w' := fun w => by have := keep_spot8 a1 w w1; rw [h1] at this; exact this
  clear g0 g1 g2 g3 g4 f5 f7 f8 hp hq h0 h1 w0 w1
  have i1 : ((t : Int) < 6) = False := by first | (simp; done) | (simp; omega)
  have i2 : (p : Int) - (q : Int) = 64 := by omega
  have i3 : (p : Int) < 256 := by omega
  have i4 : (q : Int) < 256 := by omega
  have HF : Hid (p = n ∨ q = n) := f10
  clear f10 f9 f3 f2
  go_enter Try.func7, Try.ntmps7
  go_wp2_with fail
  refine (s0 _).mono ?_
  rintro e u1 ⟨rfl, b1⟩
  go_wp2_with fail
  refine (s1 _).mono ?_
  rintro e u2 ⟨rfl, b2⟩
  have B2 := b1.trans (b2.mono b1.size)
  clear b1 b2
  go_wp2_with fail
  refine (c1 _).mono ?_
  rintro e u3 ⟨rfl, b3⟩
  have B3 := B2.trans (b3.mono B2.size)
  clear B2 b3
  go_wp2_with fail
  refine (c2 _).mono ?_
  rintro e u4 ⟨rfl, b4⟩
  have B4 := B3.trans (b4.mono B3.size)
  clear B3 b4
  go_wp2_with fail
  refine (c3 _).mono ?_
  rintro e u5 ⟨rfl, b5⟩
  have B5 := B4.trans (b5.mono B4.size)
  clear B4 b5
  go_wp2_with fail
  refine (c4 _).mono ?_
  rintro e u6 ⟨rfl, b6⟩
  have B6 := B5.trans (b6.mono B5.size)
  clear B5 b6
  go_wp2_with fail
  refine (c5 _).mono ?_
  rintro e u7 ⟨rfl, b7⟩
  have B7 := B6.trans (b7.mono B6.size)
  clear B6 b7
  by_cases hpn : p = n
  · subst hpn
    go_wp2_with fail
    all_goals go_ret
    all_goals exact ⟨by simp, B7⟩
  · have hqn : q = n := by
      rcases HF.out with h | h
      · exact absurd h hpn
      · exact h
    subst hqn
    have hpq : ((p : Int) == (q : Int)) = false := by simp; omega
    clear hpn
    go_wp2_with fail
    all_goals go_ret
    all_goals exact ⟨by simp, B7⟩
theorem walk7 (n : Nat) (hn : n < 256) (a0 a1 : Int) (w : World) (h0 : a0 % 256 = n) (h1 : a1 % 8 = 7) (w0 : (Lit.int .i64 a0).wf = true) (w1 : (Lit.int .i64 a1).wf = true) :
    Calls Try.prog 7 #[.int .i64 a0, .int .i64 a1] w fun e w' => e = .returned (.bool true) ∧ Below w.heap.size w w' := by
  obtain ⟨f1, f2, f3, f4, f5, f6, f7, f8, f9, f10⟩ := bit_facts n hn 7 (by decide)
  have g0 : setR (n : Int) 7 = (((setN n 7 : Nat) : Int), (0 : Int)) := by simp [setR, maskB_of hn, isBitB]
  generalize hp : setN n 7 = p at *
  have g1 : topR (p : Int) = (((topN p : Nat) : Int), true) := by simp [topR, maskB_of f1, f2]
  have g2 : dropR (p : Int) 7 = (((dropN p 7 : Nat) : Int), (0 : Int)) := by simp [dropR, maskB_of f1, isBitB, f5]
  generalize hq : dropN p 7 = q at *
  have g3 : dropR (q : Int) 7 = ((0 : Int), (16 : Int)) := by simp [dropR, maskB_of f6, isBitB, f7]
  have g4 : setR (q : Int) 7 = ((p : Int), (0 : Int)) := by simp [setR, maskB_of f6, isBitB, f8]
  generalize topN p = t at *
  have c1 : ∀ w, Calls Try.prog 21 #[.int .i64 n, .int .i64 7] w fun e w' => e = .returned (.tuple #[.int .i64 p, .int .i64 0]) ∧ Below w.heap.size w w' := fun w => by have := own_set (n : Int) 7 w; rw [g0] at this; exact this
  have c2 : ∀ w, Calls Try.prog 22 #[.int .i64 p] w fun e w' => e = .returned (.tuple #[.int .i64 t, .bool true]) ∧ Below w.heap.size w w' := fun w => by have := own_top (p : Int) w; rw [g1] at this; exact this
  have c3 : ∀ w, Calls Try.prog 23 #[.int .i64 p, .int .i64 7] w fun e w' => e = .returned (.tuple #[.int .i64 q, .int .i64 0]) ∧ Below w.heap.size w w' := fun w => by have := own_drop (p : Int) 7 w; rw [g2] at this; exact this
  have c4 : ∀ w, Calls Try.prog 23 #[.int .i64 q, .int .i64 7] w fun e w' => e = .returned (.tuple #[.int .i64 0, .int .i64 16]) ∧ Below w.heap.size w w' := fun w => by have := own_drop (q : Int) 7 w; rw [g3] at this; exact this
  have c5 : ∀ w, Calls Try.prog 21 #[.int .i64 q, .int .i64 7] w fun e w' => e = .returned (.tuple #[.int .i64 p, .int .i64 0]) ∧ Below w.heap.size w w' := fun w => by have := own_set (q : Int) 7 w; rw [g4] at this; exact this
  have s0 : ∀ w, Calls Try.prog 20 #[.int .i64 a0, .int .i64 256] w fun e w' => e = .returned (.int .i64 n) ∧ Below w.heap.size w w' := fun w => by have := keep_spot256 a0 w w0; rw [h0] at this; exact this
  have s1 : ∀ w, Calls Try.prog 20 #[.int .i64 a1, .int .i64 8] w fun e w' => e = .returned (.int .i64 7) ∧ Below w.heap.size w w' := fun w => by have := keep_spot8 a1 w w1; rw [h1] at this; exact this
  clear g0 g1 g2 g3 g4 f5 f7 f8 hp hq h0 h1 w0 w1
  have i1 : ((t : Int) < 7) = False := by first | (simp; done) | (simp; omega)
  have i2 : (p : Int) - (q : Int) = 128 := by omega
  have i3 : (p : Int) < 256 := by omega
  have i4 : (q : Int) < 256 := by omega
  have HF : Hid (p = n ∨ q = n) := f10
  clear f10 f9 f3 f2
  go_enter Try.func7, Try.ntmps7
  go_wp2_with fail
  refine (s0 _).mono ?_
  rintro e u1 ⟨rfl, b1⟩
  go_wp2_with fail
  refine (s1 _).mono ?_
  rintro e u2 ⟨rfl, b2⟩
  have B2 := b1.trans (b2.mono b1.size)
  clear b1 b2
  go_wp2_with fail
  refine (c1 _).mono ?_
  rintro e u3 ⟨rfl, b3⟩
  have B3 := B2.trans (b3.mono B2.size)
  clear B2 b3
  go_wp2_with fail
  refine (c2 _).mono ?_
  rintro e u4 ⟨rfl, b4⟩
  have B4 := B3.trans (b4.mono B3.size)
  clear B3 b4
  go_wp2_with fail
  refine (c3 _).mono ?_
  rintro e u5 ⟨rfl, b5⟩
  have B5 := B4.trans (b5.mono B4.size)
  clear B4 b5
  go_wp2_with fail
  refine (c4 _).mono ?_
  rintro e u6 ⟨rfl, b6⟩
  have B6 := B5.trans (b6.mono B5.size)
  clear B5 b6
  go_wp2_with fail
  refine (c5 _).mono ?_
  rintro e u7 ⟨rfl, b7⟩
  have B7 := B6.trans (b7.mono B6.size)
  clear B6 b7
  by_cases hpn : p = n
  · subst hpn
    go_wp2_with fail
    all_goals go_ret
    all_goals exact ⟨by simp, B7⟩
  · have hqn : q = n := by
      rcases HF.out with h | h
      · exact absurd h hpn
      · exact h
    subst hqn
    have hpq : ((p : Int) == (q : Int)) = false := by simp; omega
    clear hpn
    go_wp2_with fail
    all_goals go_ret
    all_goals exact ⟨by simp, B7⟩
theorem walk (a0 : Int) (a1 : Int) (w0 : (Lit.int .i64 a0).wf = true) (w1 : (Lit.int .i64 a1).wf = true)  (w : World)  :
    Calls Try.prog 7 #[.int .i64 a0, .int .i64 a1] w fun e w' => e = .returned (.bool true) ∧ Below w.heap.size w w' := by
  have h1 : a0 % 256 = ((a0 % 256).toNat : Int) := by omega
  have h2 : (a0 % 256).toNat < 256 := by omega
  have h3 : a1 % 8 = 0 ∨ a1 % 8 = 1 ∨ a1 % 8 = 2 ∨ a1 % 8 = 3 ∨ a1 % 8 = 4 ∨ a1 % 8 = 5 ∨ a1 % 8 = 6 ∨ a1 % 8 = 7 := by omega
  rcases h3 with h | h | h | h | h | h | h | h
  · exact walk0 _ h2 a0 a1 w h1 h w0 w1
  · exact walk1 _ h2 a0 a1 w h1 h w0 w1
  · exact walk2 _ h2 a0 a1 w h1 h w0 w1
  · exact walk3 _ h2 a0 a1 w h1 h w0 w1
  · exact walk4 _ h2 a0 a1 w h1 h w0 w1
  · exact walk5 _ h2 a0 a1 w h1 h w0 w1
  · exact walk6 _ h2 a0 a1 w h1 h w0 w1
  · exact walk7 _ h2 a0 a1 w h1 h w0 w1

theorem contract (H : Type) (enc : TypeId × Value → H) (W : World) (base : Nat) (args : Array Value) (ds gs : List (DataW H)) (before : List MemPlace)
    (hval : ∀ (j : Nat) t v, Try.f7.params[j]? = some t → args[j]? = some v → Value.okWide Try.prog W .any base t v)
    (hW : DataW.Whole enc Try.prog Try.f7.params.toList Rows.defersBitsSpec.vars false W args.toList ds gs before) :
    Calls Try.prog 7 args W fun e W' => ∃ v, e = .returned v ∧ Rows.defersBitsSpec.post enc Try.prog Try.f7 false true false false W args v W' := by
  have hW' := hW
  obtain ⟨p, q, hA0, hV, rfl, hfz, hnd⟩ := hW
  have hA : DataW.TrodAll enc Try.prog W 0 (fun _ => true) true Try.f7.params.toList args.toList ds p := hA0
  rw [Try.params7] at hA hval
  obtain ⟨v0, vs0, d0, ds0, p0, q0, hargs, rfl, rfl, h0, r0⟩ := trodAll_cons hA
  obtain ⟨v1, vs1, d1, ds1, p1, q1, rfl, rfl, rfl, h1, r1⟩ := trodAll_cons r0
  obtain ⟨rfl, rfl, rfl⟩ := trodAll_nil r1
  obtain rfl : args = #[v0, v1] := by cases args; simp_all
  obtain ⟨rfl, rfl⟩ := trodVars_none hV
  obtain ⟨a0, rfl, rfl, rfl, w0⟩ := open_int Try.underlying3 (hval 0 3 v0 rfl rfl) h0
  obtain ⟨a1, rfl, rfl, rfl, w1⟩ := open_int Try.underlying3 (hval 1 3 v1 rfl rfl) h1
  clear hA0
  simp only [List.append_nil] at hW'
  refine (walk a0 a1 w0 w1  W).mono fun e W' ⟨he, bel⟩ => ?_
  subst he
  exact ⟨_, rfl, _, _, _, [], [], [], hW', trodAll_mk1 (shut_bool Try.underlying4 _), (trodAll_cons_mk (shut_int Try.underlying3 w0) (trodAll_cons_mk (shut_int Try.underlying3 w1) trodAll_mk0)), rfl, bel.frame _, fun h => by cases h⟩

set_option maxRecDepth 100000 in
theorem lifted (os : Os) (started : os.Started) (H : Type) (enc : TypeId × Value → H) :
    ReturnsInHanded {} Try.checked os 7 .any (Rows.defersBitsSpec.pre6 enc Try.prog Try.f7 Rows.defersBitsRow.domain false) (Rows.defersBitsSpec.post enc Try.prog Try.f7 false true false false) := by
  refine returnsInHanded_of_change (C := Try.checked) own started (by kernel_rfl) Try.func7
    (ChangeSpec.witness6 (enc := enc) (C := Try.checked) false ⟨#[], #[.int .i64 0, .int .i64 0], []⟩ 8 (by kernel_rfl) (by kernel_rfl) (by kernel_rfl) (by kernel_rfl)) ?_
  intro W base args ds gs before hval0 hW hcnd _
  exact contract H enc W base args ds gs before hval0 hW

theorem proved : Rows.DefersBitsSaid :=
  OpenClaim.holds_of_wide 7 Try.f7 rfl rfl rfl rfl rfl rfl rfl ⟨rfl, rfl, rfl, rfl, rfl⟩ rfl rfl rfl rfl rfl (by kernel_rfl) Try.func7 (by kernel_rfl)
    (of_decide_eq_true (by kernel_rfl)) (by unfold Func.isWrapper; first | (rw [if_pos (by decide +kernel)]; kernel_rfl) | (rw [if_neg (by decide +kernel)]; exact ⟨rfl, rfl⟩))
    (fun os started H enc _ => lifted os started H enc)
#print axioms proved
end Go.Proofs.Ytiaoidbhdkldlab.defersBits
