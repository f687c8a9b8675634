/- Checks of the machine, by numbers; what is told. -/
import Derived.Test.YtjmklmcnlieplabFlt
namespace Go.Proofs.Ytjmklmcnlieplab
open Go.ChangeShapes Go.WideShapes Go.ChangeAt Go.RowKit
set_option maxRecDepth 100000
set_option linter.unusedSimpArgs false
set_option linter.unusedVariables false
set_option maxHeartbeats 2000000
theorem bcell {W w1 : World} (hb : Below W.heap.size W w1) : (∀ b o, b < W.heap.size → w1.cell? ⟨b, o, none⟩ = W.cell? ⟨b, o, none⟩) ∧ (∀ b o, b < W.heap.size → w1.frozen? ⟨b, o, none⟩ = W.frozen? ⟨b, o, none⟩) :=
  ⟨fun b o h => hb.cell (p := ⟨b, o, none⟩) h, fun b o h => hb.frozen (p := ⟨b, o, none⟩) h⟩
theorem none_yes (w : World) : Calls Try.prog 13 #[fv f0] w fun e w' => e = .returned (.bool true) ∧ Below w.heap.size w w' := by
  unfold fv f0
  go_enter Try.func13, Try.ntmps13
  go_wp2_with fail
  go_ret
  exact ⟨rfl, (Below.refl _ _).alloc (Nat.le_refl _) _⟩
theorem none_no (x : Fl) (h : ¬ x.k = 0) (w : World) : Calls Try.prog 13 #[fv x] w fun e w' => e = .returned (.bool false) ∧ Below w.heap.size w w' := by
  have k1 : decide (x.k = 0) = false := decide_eq_false h
  have k2 : (x.k == 0) = false := by simpa using h
  unfold fv
  go_enter Try.func13, Try.ntmps13
  go_wp2_with fail
  go_ret
  exact ⟨rfl, (Below.refl _ _).alloc (Nat.le_refl _) _⟩
theorem told_true (w : World) : Calls Try.prog 12 #[] w fun e w' => e = .returned (.bool true) ∧ Below w.heap.size w w' := by
  have hf1 := field_f 5 2 1 3
  have hf2 := field_f 7 1 0 0
  go_enter Try.func12, Try.ntmps12
  go_wp2_with fail
  refine (show Calls Try.prog 15 #[.int .i64 3, .int .i64 3] w (fun e w' => e = .returned (fv ⟨1, 3, 3, 0⟩) ∧ Below w.heap.size w w') from own_index 3 3 w).mono ?_
  rintro e u1 ⟨rfl, b1⟩
  unfold fv
  go_wp2_with fail
  refine (show Calls Try.prog 14 #[.int .i64 2, .int .i64 1, .int .i64 3] u1 (fun e w' => e = .returned (.agg #[.int .i64 5, .int .i64 2, .int .i64 1, .int .i64 3]) ∧ Below u1.heap.size u1 w') from own_bounds 2 1 3 u1).mono ?_
  rintro e u2 ⟨rfl, b2⟩
  go_wp2_with fail
  refine (show Calls Try.prog 16 #[.int .i64 1, .int .i64 0] u2 (fun e w' => e = .returned (.agg #[.int .i64 7, .int .i64 1, .int .i64 0, .int .i64 0]) ∧ Below u2.heap.size u2 w') from own_long 1 0 u2).mono ?_
  rintro e u3 ⟨rfl, b3⟩
  go_wp2_with fail
  go_ret
  exact ⟨rfl, (b1.trans (b2.mono b1.size)).trans (b3.mono (b1.trans (b2.mono b1.size)).size)⟩
def halfI (n : Int) : Int := if n < 0 then (-(n + 1)) / 2 else n / 2
theorem half_in (n : Int) (h0 : -9223372036854775808 ≤ n) (h1 : n ≤ 9223372036854775807) : 0 ≤ halfI n ∧ halfI n ≤ 4611686018427387903 := by unfold halfI; split <;> omega
theorem half_any (n : Int) (h0 : -9223372036854775808 ≤ n) (h1 : n ≤ 9223372036854775807) (w : World) :
    Calls Try.prog 10 #[.int .i64 n] w fun e w' => e = .returned (.int .i64 (halfI n)) ∧ w' = w := by
  unfold halfI
  by_cases h : n < 0
  · rw [if_pos h]
    have e1 : (-(n + 1)).tdiv 2 = (-(n + 1)) / 2 := Int.tdiv_eq_ediv_of_nonneg (by omega)
    go_enter Try.func10, Try.ntmps10
    go_wp2_with fail
    go_ret
    refine ⟨?_, rfl⟩
    first | rfl | (simp only [e1]; rw [wrap64_of_range (by omega) (by omega)])
  · rw [if_neg h]
    have e1 : n.tdiv 2 = n / 2 := Int.tdiv_eq_ediv_of_nonneg (by omega)
    have k : decide (n < 0) = false := decide_eq_false h
    go_enter Try.func10, Try.ntmps10
    go_wp2_with fail
    go_ret
    refine ⟨?_, rfl⟩
    first | rfl | (simp only [e1]; rw [wrap64_of_range (by omega) (by omega)])
/-- What a check finds. -/
def checkF (k a b c : Int) : Fl := if k = 1 ∨ k = 2 then indexF b a else if k = 3 then boundsF b c a else if k = 4 then opF 4 a else if k = 5 then opF 6 a else f0
def checkE (k : Int) : Int := if 1 ≤ k ∧ k ≤ 5 then 0 else 13
theorem op45 (a : Int) : opF 5 a = opF 4 a := by unfold opF; repeat' split
                                                 all_goals first | rfl | omega
theorem op67 (a : Int) : opF 7 a = opF 6 a := by unfold opF; repeat' split
                                                 all_goals first | rfl | omega
theorem own_check (k a b c : Int) (w : World) (h8 : ¬ k = 8) :
    Calls Try.prog 8 #[.int .i64 k, .int .i64 a, .int .i64 b, .int .i64 c] w fun e w' => e = .returned (.tuple #[fv (checkF k a b c), .int .i64 (checkE k)]) ∧ Below w.heap.size w w' := by
  by_cases h1 : k = 1
  · subst h1
    have e1 : checkF 1 a b c = indexF b a := rfl
    have e2 : checkE 1 = 0 := rfl
    rw [e1, e2]; clear e1 e2
    go_enter Try.func8, Try.ntmps8
    go_wp2_with fail
    refine (own_index b a _).mono ?_
    rintro e w1 ⟨rfl, b1⟩
    obtain ⟨hc, hf⟩ := bcell b1
    have hz : w.heap.size < w1.heap.size := by have := b1.size; simp at this; omega
    simp only [fv]
    go_wp2_with fail
    exact bodyPost_ret (v := .tuple #[fv (indexF b a), .int .i64 0]) (by simp [fv, results, Try.results8, go_sem, hc, hz]) rfl ⟨rfl, ((((((Below.refl _ _).alloc (Nat.le_refl _) _).trans (b1.mono (by simp))).setCell (Nat.le_refl _) _).setCell (Nat.le_refl _) _).setCell (Nat.le_refl _) _).setCell (Nat.le_refl _) _⟩
  by_cases h2 : k = 2
  · subst h2
    have e1 : checkF 2 a b c = indexF b a := rfl
    have e2 : checkE 2 = 0 := rfl
    rw [e1, e2]; clear e1 e2
    go_enter Try.func8, Try.ntmps8
    go_wp2_with fail
    refine (own_index b a _).mono ?_
    rintro e w1 ⟨rfl, b1⟩
    obtain ⟨hc, hf⟩ := bcell b1
    have hz : w.heap.size < w1.heap.size := by have := b1.size; simp at this; omega
    simp only [fv]
    go_wp2_with fail
    exact bodyPost_ret (v := .tuple #[fv (indexF b a), .int .i64 0]) (by simp [fv, results, Try.results8, go_sem, hc, hz]) rfl ⟨rfl, ((((((Below.refl _ _).alloc (Nat.le_refl _) _).trans (b1.mono (by simp))).setCell (Nat.le_refl _) _).setCell (Nat.le_refl _) _).setCell (Nat.le_refl _) _).setCell (Nat.le_refl _) _⟩
  by_cases h3 : k = 3
  · subst h3
    have e1 : checkF 3 a b c = boundsF b c a := rfl
    have e2 : checkE 3 = 0 := rfl
    rw [e1, e2]; clear e1 e2
    go_enter Try.func8, Try.ntmps8
    go_wp2_with fail
    refine (own_bounds b c a _).mono ?_
    rintro e w1 ⟨rfl, b1⟩
    obtain ⟨hc, hf⟩ := bcell b1
    have hz : w.heap.size < w1.heap.size := by have := b1.size; simp at this; omega
    simp only [fv]
    go_wp2_with fail
    exact bodyPost_ret (v := .tuple #[fv (boundsF b c a), .int .i64 0]) (by simp [fv, results, Try.results8, go_sem, hc, hz]) rfl ⟨rfl, ((((((Below.refl _ _).alloc (Nat.le_refl _) _).trans (b1.mono (by simp))).setCell (Nat.le_refl _) _).setCell (Nat.le_refl _) _).setCell (Nat.le_refl _) _).setCell (Nat.le_refl _) _⟩
  by_cases h4 : k = 4
  · subst h4
    have e1 : checkF 4 a b c = opF 4 a := rfl
    have e2 : checkE 4 = 0 := rfl
    rw [e1, e2]; clear e1 e2
    go_enter Try.func8, Try.ntmps8
    go_wp2_with fail
    refine (own_op 4 a _).mono ?_
    rintro e w1 ⟨rfl, b1⟩
    obtain ⟨hc, hf⟩ := bcell b1
    have hz : w.heap.size < w1.heap.size := by have := b1.size; simp at this; omega
    simp only [fv]
    go_wp2_with fail
    exact bodyPost_ret (v := .tuple #[fv (opF 4 a), .int .i64 0]) (by simp [fv, results, Try.results8, go_sem, hc, hz]) rfl ⟨rfl, ((((((Below.refl _ _).alloc (Nat.le_refl _) _).trans (b1.mono (by simp))).setCell (Nat.le_refl _) _).setCell (Nat.le_refl _) _).setCell (Nat.le_refl _) _).setCell (Nat.le_refl _) _⟩
  by_cases h5 : k = 5
  · subst h5
    have e1 : checkF 5 a b c = opF 6 a := rfl
    have e2 : checkE 5 = 0 := rfl
    rw [e1, e2]; clear e1 e2
    go_enter Try.func8, Try.ntmps8
    go_wp2_with fail
    refine (own_op 6 a _).mono ?_
    rintro e w1 ⟨rfl, b1⟩
    obtain ⟨hc, hf⟩ := bcell b1
    have hz : w.heap.size < w1.heap.size := by have := b1.size; simp at this; omega
    simp only [fv]
    go_wp2_with fail
    exact bodyPost_ret (v := .tuple #[fv (opF 6 a), .int .i64 0]) (by simp [fv, results, Try.results8, go_sem, hc, hz]) rfl ⟨rfl, ((((((Below.refl _ _).alloc (Nat.le_refl _) _).trans (b1.mono (by simp))).setCell (Nat.le_refl _) _).setCell (Nat.le_refl _) _).setCell (Nat.le_refl _) _).setCell (Nat.le_refl _) _⟩
  have e1 : checkF k a b c = f0 := by unfold checkF; rw [if_neg (by omega), if_neg h3, if_neg h4, if_neg h5]
  have e2 : checkE k = 13 := by unfold checkE; rw [if_neg (by omega)]
  rw [e1, e2]; clear e1 e2
  have k1 : decide (k = 1) = false := decide_eq_false h1
  have k2 : decide (k = 2) = false := decide_eq_false h2
  have k3 : decide (k = 3) = false := decide_eq_false h3
  have k4 : decide (k = 4) = false := decide_eq_false h4
  have k5 : decide (k = 5) = false := decide_eq_false h5
  have k8 : decide (k = 8) = false := decide_eq_false h8
  go_enter Try.func8, Try.ntmps8
  go_wp2_with fail
  exact bodyPost_ret (v := .tuple #[fv f0, .int .i64 13]) (by simp [fv, f0, results, Try.results8, go_sem]) rfl ⟨rfl, (Below.refl _ _).alloc (Nat.le_refl _) _⟩
theorem ref_op5 (a : Int) (w : World) : Calls Try.prog 21 #[.int .i64 5, .int .i64 a] w fun e w' => e = .returned (fv (opF 4 a)) ∧ Below w.heap.size w w' := op45 a ▸ ref_op 5 a w
theorem ref_op7 (a : Int) (w : World) : Calls Try.prog 21 #[.int .i64 7, .int .i64 a] w fun e w' => e = .returned (fv (opF 6 a)) ∧ Below w.heap.size w w' := op67 a ▸ ref_op 7 a w
theorem ref_check (k a b c : Int) (w : World) (h8 : ¬ k = 8) :
    Calls Try.prog 9 #[.int .i64 k, .int .i64 a, .int .i64 b, .int .i64 c] w fun e w' => e = .returned (.tuple #[fv (checkF k a b c), .int .i64 (checkE k)]) ∧ Below w.heap.size w w' := by
  by_cases h1 : k = 1
  · subst h1
    have e1 : checkF 1 a b c = indexF b a := rfl
    have e2 : checkE 1 = 0 := rfl
    rw [e1, e2]; clear e1 e2
    go_enter Try.func9, Try.ntmps9
    go_wp2_with fail
    refine (ref_index b a _).mono ?_
    rintro e w1 ⟨rfl, b1⟩
    obtain ⟨hc, hf⟩ := bcell b1
    have hz : w.heap.size < w1.heap.size := by have := b1.size; simp at this; omega
    simp only [fv]
    go_wp2_with fail
    exact bodyPost_ret (v := .tuple #[fv (indexF b a), .int .i64 0]) (by simp [fv, results, Try.results9, go_sem, hc, hz]) rfl ⟨rfl, ((((((Below.refl _ _).alloc (Nat.le_refl _) _).trans (b1.mono (by simp))).setCell (Nat.le_refl _) _).setCell (Nat.le_refl _) _).setCell (Nat.le_refl _) _).setCell (Nat.le_refl _) _⟩
  by_cases h2 : k = 2
  · subst h2
    have e1 : checkF 2 a b c = indexF b a := rfl
    have e2 : checkE 2 = 0 := rfl
    rw [e1, e2]; clear e1 e2
    go_enter Try.func9, Try.ntmps9
    go_wp2_with fail
    refine (ref_index b a _).mono ?_
    rintro e w1 ⟨rfl, b1⟩
    obtain ⟨hc, hf⟩ := bcell b1
    have hz : w.heap.size < w1.heap.size := by have := b1.size; simp at this; omega
    simp only [fv]
    go_wp2_with fail
    exact bodyPost_ret (v := .tuple #[fv (indexF b a), .int .i64 0]) (by simp [fv, results, Try.results9, go_sem, hc, hz]) rfl ⟨rfl, ((((((Below.refl _ _).alloc (Nat.le_refl _) _).trans (b1.mono (by simp))).setCell (Nat.le_refl _) _).setCell (Nat.le_refl _) _).setCell (Nat.le_refl _) _).setCell (Nat.le_refl _) _⟩
  by_cases h3 : k = 3
  · subst h3
    have e1 : checkF 3 a b c = boundsF b c a := rfl
    have e2 : checkE 3 = 0 := rfl
    rw [e1, e2]; clear e1 e2
    go_enter Try.func9, Try.ntmps9
    go_wp2_with fail
    refine (ref_bounds b c a _).mono ?_
    rintro e w1 ⟨rfl, b1⟩
    obtain ⟨hc, hf⟩ := bcell b1
    have hz : w.heap.size < w1.heap.size := by have := b1.size; simp at this; omega
    simp only [fv]
    go_wp2_with fail
    exact bodyPost_ret (v := .tuple #[fv (boundsF b c a), .int .i64 0]) (by simp [fv, results, Try.results9, go_sem, hc, hz]) rfl ⟨rfl, ((((((Below.refl _ _).alloc (Nat.le_refl _) _).trans (b1.mono (by simp))).setCell (Nat.le_refl _) _).setCell (Nat.le_refl _) _).setCell (Nat.le_refl _) _).setCell (Nat.le_refl _) _⟩
  by_cases h4 : k = 4
  · subst h4
    have e1 : checkF 4 a b c = opF 4 a := rfl
    have e2 : checkE 4 = 0 := rfl
    rw [e1, e2]; clear e1 e2
    go_enter Try.func9, Try.ntmps9
    go_wp2_with fail
    refine (ref_op5 a _).mono ?_
    rintro e w1 ⟨rfl, b1⟩
    obtain ⟨hc, hf⟩ := bcell b1
    have hz : w.heap.size < w1.heap.size := by have := b1.size; simp at this; omega
    simp only [fv]
    go_wp2_with fail
    exact bodyPost_ret (v := .tuple #[fv (opF 4 a), .int .i64 0]) (by simp [fv, results, Try.results9, go_sem, hc, hz]) rfl ⟨rfl, ((((((Below.refl _ _).alloc (Nat.le_refl _) _).trans (b1.mono (by simp))).setCell (Nat.le_refl _) _).setCell (Nat.le_refl _) _).setCell (Nat.le_refl _) _).setCell (Nat.le_refl _) _⟩
  by_cases h5 : k = 5
  · subst h5
    have e1 : checkF 5 a b c = opF 6 a := rfl
    have e2 : checkE 5 = 0 := rfl
    rw [e1, e2]; clear e1 e2
    go_enter Try.func9, Try.ntmps9
    go_wp2_with fail
    refine (ref_op7 a _).mono ?_
    rintro e w1 ⟨rfl, b1⟩
    obtain ⟨hc, hf⟩ := bcell b1
    have hz : w.heap.size < w1.heap.size := by have := b1.size; simp at this; omega
    simp only [fv]
    go_wp2_with fail
    exact bodyPost_ret (v := .tuple #[fv (opF 6 a), .int .i64 0]) (by simp [fv, results, Try.results9, go_sem, hc, hz]) rfl ⟨rfl, ((((((Below.refl _ _).alloc (Nat.le_refl _) _).trans (b1.mono (by simp))).setCell (Nat.le_refl _) _).setCell (Nat.le_refl _) _).setCell (Nat.le_refl _) _).setCell (Nat.le_refl _) _⟩
  have e1 : checkF k a b c = f0 := by unfold checkF; rw [if_neg (by omega), if_neg h3, if_neg h4, if_neg h5]
  have e2 : checkE k = 13 := by unfold checkE; rw [if_neg (by omega)]
  rw [e1, e2]; clear e1 e2
  have k1 : decide (k = 1) = false := decide_eq_false h1
  have k2 : decide (k = 2) = false := decide_eq_false h2
  have k3 : decide (k = 3) = false := decide_eq_false h3
  have k4 : decide (k = 4) = false := decide_eq_false h4
  have k5 : decide (k = 5) = false := decide_eq_false h5
  have k8 : decide (k = 8) = false := decide_eq_false h8
  go_enter Try.func9, Try.ntmps9
  go_wp2_with fail
  exact bodyPost_ret (v := .tuple #[fv f0, .int .i64 13]) (by simp [fv, f0, results, Try.results9, go_sem]) rfl ⟨rfl, (Below.refl _ _).alloc (Nat.le_refl _) _⟩
theorem own_cat (a b c : Int) (ha : 0 ≤ a ∧ a ≤ 4611686018427387903) (hb : 0 ≤ b ∧ b ≤ 4611686018427387903) (w : World) :
    Calls Try.prog 8 #[.int .i64 8, .int .i64 a, .int .i64 b, .int .i64 c] w fun e w' => e = .returned (.tuple #[fv (longF (a + b) 200), .int .i64 0]) ∧ Below w.heap.size w w' := by
  obtain ⟨a0, a1⟩ := ha
  obtain ⟨b0, b1⟩ := hb
  go_enter Try.func8, Try.ntmps8
  go_wp2_with fail
  refine (own_long (a + b) 200 _).mono ?_
  rintro e w1 ⟨rfl, b1⟩
  obtain ⟨hc, hf⟩ := bcell b1
  have hz : w.heap.size < w1.heap.size := by have := b1.size; simp at this; omega
  simp only [fv]
  go_wp2_with fail
  exact bodyPost_ret (v := .tuple #[fv (longF (a + b) 200), .int .i64 0]) (by simp [fv, results, Try.results8, go_sem, hc, hz]) rfl ⟨rfl, ((((((Below.refl _ _).alloc (Nat.le_refl _) _).trans (b1.mono (by simp))).setCell (Nat.le_refl _) _).setCell (Nat.le_refl _) _).setCell (Nat.le_refl _) _).setCell (Nat.le_refl _) _⟩
end Go.Proofs.Ytjmklmcnlieplab
