/- Run-time errors: the small functions of fault and of the reference. -/
import Derived.Test.YtjmklmcnlieplabRows
import Derived.WalkKit
import Derived.ProofKit
import Derived.OpenShut
import Derived.Handy
namespace Go.Proofs.Ytjmklmcnlieplab
open Go.ChangeShapes Go.WideShapes Go.ChangeAt Go.RowKit
set_option maxRecDepth 100000
set_option linter.unusedSimpArgs false
set_option linter.unusedVariables false
/-- A run-time error. -/
structure Fl where
  k : Int
  a : Int
  b : Int
  c : Int
def fv (x : Fl) : Value := .agg #[.int .i64 x.k, .int .i64 x.a, .int .i64 x.b, .int .i64 x.c]
def f0 : Fl := ⟨0, 0, 0, 0⟩
def indexF (i n : Int) : Fl := if 0 ≤ i ∧ i < n then f0 else ⟨1, i, n, 0⟩
def boundsF (lo hi n : Int) : Fl := if 0 ≤ lo ∧ lo ≤ hi ∧ hi ≤ n then f0 else ⟨5, lo, hi, n⟩
def longF (n most : Int) : Fl := if n ≤ most then f0 else ⟨7, n, most, 0⟩
def opF (op b : Int) : Fl := if (op = 4 ∨ op = 5) ∧ b = 0 then ⟨2, 0, 0, 0⟩ else if (op = 6 ∨ op = 7) ∧ b < 0 then ⟨3, 0, 0, 0⟩ else f0
theorem field_f (k a b c : Int) (w : World) : (Instr.field 23 (.agg #[.int .i64 k, .int .i64 a, .int .i64 b, .int .i64 c]) 0).run Try.prog w = .ok (.int .i64 k) w := by kernel_rfl
set_option maxHeartbeats 1000000
theorem own_index (i n : Int) (w : World) :
    Calls Try.prog 15 #[.int .i64 i, .int .i64 n] w fun e w' => e = .returned (fv (indexF i n)) ∧ Below w.heap.size w w' := by
  by_cases h1 : 0 ≤ i
  · by_cases h2 : i < n
    · have e : indexF i n  = f0 := by
        unfold indexF; repeat' split
        all_goals first | rfl | (exfalso; omega)
      rw [e]; clear e
      go_enter Try.func15, Try.ntmps15
      go_wp2_with fail
      exact bodyPost_ret (v := fv f0) (by simp [fv, f0, results, Try.results15, go_sem]) rfl ⟨rfl, (Below.refl _ _).alloc (Nat.le_refl _) _⟩
    · have k2 : decide (i < n) = false := decide_eq_false h2
      have e : indexF i n  = ⟨1, i, n, 0⟩ := by
        unfold indexF; repeat' split
        all_goals first | rfl | (exfalso; omega)
      rw [e]; clear e
      go_enter Try.func15, Try.ntmps15
      go_wp2_with fail
      exact bodyPost_ret (v := fv ⟨1, i, n, 0⟩) (by simp [fv, f0, results, Try.results15, go_sem]) rfl ⟨rfl, (Below.refl _ _).alloc (Nat.le_refl _) _⟩
  · have k1 : decide (0 ≤ i) = false := decide_eq_false h1
    have e : indexF i n  = ⟨1, i, n, 0⟩ := by
      unfold indexF; repeat' split
      all_goals first | rfl | (exfalso; omega)
    rw [e]; clear e
    go_enter Try.func15, Try.ntmps15
    go_wp2_with fail
    exact bodyPost_ret (v := fv ⟨1, i, n, 0⟩) (by simp [fv, f0, results, Try.results15, go_sem]) rfl ⟨rfl, (Below.refl _ _).alloc (Nat.le_refl _) _⟩
theorem ref_index (i n : Int) (w : World) :
    Calls Try.prog 19 #[.int .i64 i, .int .i64 n] w fun e w' => e = .returned (fv (indexF i n)) ∧ Below w.heap.size w w' := by
  by_cases h1 : i < 0
  · have e : indexF i n  = ⟨1, i, n, 0⟩ := by
      unfold indexF; repeat' split
      all_goals first | rfl | (exfalso; omega)
    rw [e]; clear e
    go_enter Try.func19, Try.ntmps19
    go_wp2_with fail
    exact bodyPost_ret (v := fv ⟨1, i, n, 0⟩) (by simp [fv, f0, results, Try.results19, go_sem]) rfl ⟨rfl, (Below.refl _ _).alloc (Nat.le_refl _) _⟩
  · have k1 : decide (i < 0) = false := decide_eq_false h1
    by_cases h2 : n ≤ i
    · have e : indexF i n  = ⟨1, i, n, 0⟩ := by
        unfold indexF; repeat' split
        all_goals first | rfl | (exfalso; omega)
      rw [e]; clear e
      go_enter Try.func19, Try.ntmps19
      go_wp2_with fail
      exact bodyPost_ret (v := fv ⟨1, i, n, 0⟩) (by simp [fv, f0, results, Try.results19, go_sem]) rfl ⟨rfl, (Below.refl _ _).alloc (Nat.le_refl _) _⟩
    · have k2 : decide (n ≤ i) = false := decide_eq_false h2
      have e : indexF i n  = f0 := by
        unfold indexF; repeat' split
        all_goals first | rfl | (exfalso; omega)
      rw [e]; clear e
      go_enter Try.func19, Try.ntmps19
      go_wp2_with fail
      exact bodyPost_ret (v := fv f0) (by simp [fv, f0, results, Try.results19, go_sem]) rfl ⟨rfl, (Below.refl _ _).alloc (Nat.le_refl _) _⟩
theorem own_bounds (lo hi n : Int) (w : World) :
    Calls Try.prog 14 #[.int .i64 lo, .int .i64 hi, .int .i64 n] w fun e w' => e = .returned (fv (boundsF lo hi n)) ∧ Below w.heap.size w w' := by
  by_cases h1 : 0 ≤ lo
  · by_cases h2 : lo ≤ hi
    · by_cases h3 : hi ≤ n
      · have e : boundsF lo hi n  = f0 := by
          unfold boundsF; repeat' split
          all_goals first | rfl | (exfalso; omega)
        rw [e]; clear e
        go_enter Try.func14, Try.ntmps14
        go_wp2_with fail
        exact bodyPost_ret (v := fv f0) (by simp [fv, f0, results, Try.results14, go_sem]) rfl ⟨rfl, (Below.refl _ _).alloc (Nat.le_refl _) _⟩
      · have k3 : decide (hi ≤ n) = false := decide_eq_false h3
        have e : boundsF lo hi n  = ⟨5, lo, hi, n⟩ := by
          unfold boundsF; repeat' split
          all_goals first | rfl | (exfalso; omega)
        rw [e]; clear e
        go_enter Try.func14, Try.ntmps14
        go_wp2_with fail
        exact bodyPost_ret (v := fv ⟨5, lo, hi, n⟩) (by simp [fv, f0, results, Try.results14, go_sem]) rfl ⟨rfl, (Below.refl _ _).alloc (Nat.le_refl _) _⟩
    · have k2 : decide (lo ≤ hi) = false := decide_eq_false h2
      have e : boundsF lo hi n  = ⟨5, lo, hi, n⟩ := by
        unfold boundsF; repeat' split
        all_goals first | rfl | (exfalso; omega)
      rw [e]; clear e
      go_enter Try.func14, Try.ntmps14
      go_wp2_with fail
      exact bodyPost_ret (v := fv ⟨5, lo, hi, n⟩) (by simp [fv, f0, results, Try.results14, go_sem]) rfl ⟨rfl, (Below.refl _ _).alloc (Nat.le_refl _) _⟩
  · have k1 : decide (0 ≤ lo) = false := decide_eq_false h1
    have e : boundsF lo hi n  = ⟨5, lo, hi, n⟩ := by
      unfold boundsF; repeat' split
      all_goals first | rfl | (exfalso; omega)
    rw [e]; clear e
    go_enter Try.func14, Try.ntmps14
    go_wp2_with fail
    exact bodyPost_ret (v := fv ⟨5, lo, hi, n⟩) (by simp [fv, f0, results, Try.results14, go_sem]) rfl ⟨rfl, (Below.refl _ _).alloc (Nat.le_refl _) _⟩
theorem ref_bounds (lo hi n : Int) (w : World) :
    Calls Try.prog 20 #[.int .i64 lo, .int .i64 hi, .int .i64 n] w fun e w' => e = .returned (fv (boundsF lo hi n)) ∧ Below w.heap.size w w' := by
  by_cases h1 : lo < 0
  · have e : boundsF lo hi n  = ⟨5, lo, hi, n⟩ := by
      unfold boundsF; repeat' split
      all_goals first | rfl | (exfalso; omega)
    rw [e]; clear e
    go_enter Try.func20, Try.ntmps20
    go_wp2_with fail
    exact bodyPost_ret (v := fv ⟨5, lo, hi, n⟩) (by simp [fv, f0, results, Try.results20, go_sem]) rfl ⟨rfl, (Below.refl _ _).alloc (Nat.le_refl _) _⟩
  · have k1 : decide (lo < 0) = false := decide_eq_false h1
    by_cases h2 : hi < lo
    · have e : boundsF lo hi n  = ⟨5, lo, hi, n⟩ := by
        unfold boundsF; repeat' split
        all_goals first | rfl | (exfalso; omega)
      rw [e]; clear e
      go_enter Try.func20, Try.ntmps20
      go_wp2_with fail
      exact bodyPost_ret (v := fv ⟨5, lo, hi, n⟩) (by simp [fv, f0, results, Try.results20, go_sem]) rfl ⟨rfl, (Below.refl _ _).alloc (Nat.le_refl _) _⟩
    · have k2 : decide (hi < lo) = false := decide_eq_false h2
      by_cases h3 : n < hi
      · have e : boundsF lo hi n  = ⟨5, lo, hi, n⟩ := by
          unfold boundsF; repeat' split
          all_goals first | rfl | (exfalso; omega)
        rw [e]; clear e
        go_enter Try.func20, Try.ntmps20
        go_wp2_with fail
        exact bodyPost_ret (v := fv ⟨5, lo, hi, n⟩) (by simp [fv, f0, results, Try.results20, go_sem]) rfl ⟨rfl, (Below.refl _ _).alloc (Nat.le_refl _) _⟩
      · have k3 : decide (n < hi) = false := decide_eq_false h3
        have e : boundsF lo hi n  = f0 := by
          unfold boundsF; repeat' split
          all_goals first | rfl | (exfalso; omega)
        rw [e]; clear e
        go_enter Try.func20, Try.ntmps20
        go_wp2_with fail
        exact bodyPost_ret (v := fv f0) (by simp [fv, f0, results, Try.results20, go_sem]) rfl ⟨rfl, (Below.refl _ _).alloc (Nat.le_refl _) _⟩
theorem own_long (n most : Int) (w : World) :
    Calls Try.prog 16 #[.int .i64 n, .int .i64 most] w fun e w' => e = .returned (fv (longF n most)) ∧ Below w.heap.size w w' := by
  by_cases h1 : n ≤ most
  · have e : longF n most  = f0 := by
      unfold longF; repeat' split
      all_goals first | rfl | (exfalso; omega)
    rw [e]; clear e
    go_enter Try.func16, Try.ntmps16
    go_wp2_with fail
    exact bodyPost_ret (v := fv f0) (by simp [fv, f0, results, Try.results16, go_sem]) rfl ⟨rfl, (Below.refl _ _).alloc (Nat.le_refl _) _⟩
  · have k1 : decide (n ≤ most) = false := decide_eq_false h1
    have e : longF n most  = ⟨7, n, most, 0⟩ := by
      unfold longF; repeat' split
      all_goals first | rfl | (exfalso; omega)
    rw [e]; clear e
    go_enter Try.func16, Try.ntmps16
    go_wp2_with fail
    exact bodyPost_ret (v := fv ⟨7, n, most, 0⟩) (by simp [fv, f0, results, Try.results16, go_sem]) rfl ⟨rfl, (Below.refl _ _).alloc (Nat.le_refl _) _⟩
theorem ref_long (n most : Int) (w : World) :
    Calls Try.prog 11 #[.int .i64 n, .int .i64 most] w fun e w' => e = .returned (fv (longF n most)) ∧ Below w.heap.size w w' := by
  by_cases h1 : most < n
  · have e : longF n most  = ⟨7, n, most, 0⟩ := by
      unfold longF; repeat' split
      all_goals first | rfl | (exfalso; omega)
    rw [e]; clear e
    go_enter Try.func11, Try.ntmps11
    go_wp2_with fail
    exact bodyPost_ret (v := fv ⟨7, n, most, 0⟩) (by simp [fv, f0, results, Try.results11, go_sem]) rfl ⟨rfl, (Below.refl _ _).alloc (Nat.le_refl _) _⟩
  · have k1 : decide (most < n) = false := decide_eq_false h1
    have e : longF n most  = f0 := by
      unfold longF; repeat' split
      all_goals first | rfl | (exfalso; omega)
    rw [e]; clear e
    go_enter Try.func11, Try.ntmps11
    go_wp2_with fail
    exact bodyPost_ret (v := fv f0) (by simp [fv, f0, results, Try.results11, go_sem]) rfl ⟨rfl, (Below.refl _ _).alloc (Nat.le_refl _) _⟩
theorem own_op (op b : Int) (w : World) :
    Calls Try.prog 18 #[.int .i64 op, .int .i64 b] w fun e w' => e = .returned (fv (opF op b)) ∧ Below w.heap.size w w' := by
  by_cases h1 : op = 4
  · subst h1
    by_cases h2 : b = 0
    · subst h2
      have e : opF 4 0  = ⟨2, 0, 0, 0⟩ := by
        unfold opF; repeat' split
        all_goals first | rfl | (exfalso; omega)
      rw [e]; clear e
      go_enter Try.func18, Try.ntmps18
      go_wp2_with fail
      exact bodyPost_ret (v := fv ⟨2, 0, 0, 0⟩) (by simp [fv, f0, results, Try.results18, go_sem]) rfl ⟨rfl, (Below.refl _ _).alloc (Nat.le_refl _) _⟩
    · have k2 : decide (b = 0) = false := decide_eq_false h2
      have e : opF 4 b  = f0 := by
        unfold opF; repeat' split
        all_goals first | rfl | (exfalso; omega)
      rw [e]; clear e
      go_enter Try.func18, Try.ntmps18
      go_wp2_with fail
      exact bodyPost_ret (v := fv f0) (by simp [fv, f0, results, Try.results18, go_sem]) rfl ⟨rfl, (Below.refl _ _).alloc (Nat.le_refl _) _⟩
  · have k1 : decide (op = 4) = false := decide_eq_false h1
    by_cases h2 : op = 5
    · subst h2
      by_cases h3 : b = 0
      · subst h3
        have e : opF 5 0  = ⟨2, 0, 0, 0⟩ := by
          unfold opF; repeat' split
          all_goals first | rfl | (exfalso; omega)
        rw [e]; clear e
        go_enter Try.func18, Try.ntmps18
        go_wp2_with fail
        exact bodyPost_ret (v := fv ⟨2, 0, 0, 0⟩) (by simp [fv, f0, results, Try.results18, go_sem]) rfl ⟨rfl, (Below.refl _ _).alloc (Nat.le_refl _) _⟩
      · have k3 : decide (b = 0) = false := decide_eq_false h3
        have e : opF 5 b  = f0 := by
          unfold opF; repeat' split
          all_goals first | rfl | (exfalso; omega)
        rw [e]; clear e
        go_enter Try.func18, Try.ntmps18
        go_wp2_with fail
        exact bodyPost_ret (v := fv f0) (by simp [fv, f0, results, Try.results18, go_sem]) rfl ⟨rfl, (Below.refl _ _).alloc (Nat.le_refl _) _⟩
    · have k2 : decide (op = 5) = false := decide_eq_false h2
      by_cases h3 : op = 6
      · subst h3
        by_cases h4 : b < 0
        · have e : opF 6 b  = ⟨3, 0, 0, 0⟩ := by
            unfold opF; repeat' split
            all_goals first | rfl | (exfalso; omega)
          rw [e]; clear e
          go_enter Try.func18, Try.ntmps18
          go_wp2_with fail
          exact bodyPost_ret (v := fv ⟨3, 0, 0, 0⟩) (by simp [fv, f0, results, Try.results18, go_sem]) rfl ⟨rfl, (Below.refl _ _).alloc (Nat.le_refl _) _⟩
        · have k4 : decide (b < 0) = false := decide_eq_false h4
          have e : opF 6 b  = f0 := by
            unfold opF; repeat' split
            all_goals first | rfl | (exfalso; omega)
          rw [e]; clear e
          go_enter Try.func18, Try.ntmps18
          go_wp2_with fail
          exact bodyPost_ret (v := fv f0) (by simp [fv, f0, results, Try.results18, go_sem]) rfl ⟨rfl, (Below.refl _ _).alloc (Nat.le_refl _) _⟩
      · have k3 : decide (op = 6) = false := decide_eq_false h3
        by_cases h4 : op = 7
        · subst h4
          by_cases h5 : b < 0
          · have e : opF 7 b  = ⟨3, 0, 0, 0⟩ := by
              unfold opF; repeat' split
              all_goals first | rfl | (exfalso; omega)
            rw [e]; clear e
            go_enter Try.func18, Try.ntmps18
            go_wp2_with fail
            exact bodyPost_ret (v := fv ⟨3, 0, 0, 0⟩) (by simp [fv, f0, results, Try.results18, go_sem]) rfl ⟨rfl, (Below.refl _ _).alloc (Nat.le_refl _) _⟩
          · have k5 : decide (b < 0) = false := decide_eq_false h5
            have e : opF 7 b  = f0 := by
              unfold opF; repeat' split
              all_goals first | rfl | (exfalso; omega)
            rw [e]; clear e
            go_enter Try.func18, Try.ntmps18
            go_wp2_with fail
            exact bodyPost_ret (v := fv f0) (by simp [fv, f0, results, Try.results18, go_sem]) rfl ⟨rfl, (Below.refl _ _).alloc (Nat.le_refl _) _⟩
        · have k4 : decide (op = 7) = false := decide_eq_false h4
          have e : opF op b  = f0 := by
            unfold opF; repeat' split
            all_goals first | rfl | (exfalso; omega)
          rw [e]; clear e
          go_enter Try.func18, Try.ntmps18
          go_wp2_with fail
          exact bodyPost_ret (v := fv f0) (by simp [fv, f0, results, Try.results18, go_sem]) rfl ⟨rfl, (Below.refl _ _).alloc (Nat.le_refl _) _⟩
theorem ref_op (op b : Int) (w : World) :
    Calls Try.prog 21 #[.int .i64 op, .int .i64 b] w fun e w' => e = .returned (fv (opF op b)) ∧ Below w.heap.size w w' := by
  by_cases h1 : op = 4
  · subst h1
    by_cases h2 : b = 0
    · subst h2
      have e : opF 4 0  = ⟨2, 0, 0, 0⟩ := by
        unfold opF; repeat' split
        all_goals first | rfl | (exfalso; omega)
      rw [e]; clear e
      go_enter Try.func21, Try.ntmps21
      go_wp2_with fail
      exact bodyPost_ret (v := fv ⟨2, 0, 0, 0⟩) (by simp [fv, f0, results, Try.results21, go_sem]) rfl ⟨rfl, (Below.refl _ _).alloc (Nat.le_refl _) _⟩
    · have k2 : decide (b = 0) = false := decide_eq_false h2
      have e : opF 4 b  = f0 := by
        unfold opF; repeat' split
        all_goals first | rfl | (exfalso; omega)
      rw [e]; clear e
      go_enter Try.func21, Try.ntmps21
      go_wp2_with fail
      exact bodyPost_ret (v := fv f0) (by simp [fv, f0, results, Try.results21, go_sem]) rfl ⟨rfl, (Below.refl _ _).alloc (Nat.le_refl _) _⟩
  · have k1 : decide (op = 4) = false := decide_eq_false h1
    by_cases h2 : op = 5
    · subst h2
      by_cases h3 : b = 0
      · subst h3
        have e : opF 5 0  = ⟨2, 0, 0, 0⟩ := by
          unfold opF; repeat' split
          all_goals first | rfl | (exfalso; omega)
        rw [e]; clear e
        go_enter Try.func21, Try.ntmps21
        go_wp2_with fail
        exact bodyPost_ret (v := fv ⟨2, 0, 0, 0⟩) (by simp [fv, f0, results, Try.results21, go_sem]) rfl ⟨rfl, (Below.refl _ _).alloc (Nat.le_refl _) _⟩
      · have k3 : decide (b = 0) = false := decide_eq_false h3
        have e : opF 5 b  = f0 := by
          unfold opF; repeat' split
          all_goals first | rfl | (exfalso; omega)
        rw [e]; clear e
        go_enter Try.func21, Try.ntmps21
        go_wp2_with fail
        exact bodyPost_ret (v := fv f0) (by simp [fv, f0, results, Try.results21, go_sem]) rfl ⟨rfl, (Below.refl _ _).alloc (Nat.le_refl _) _⟩
    · have k2 : decide (op = 5) = false := decide_eq_false h2
      by_cases h3 : op = 6
      · subst h3
        by_cases h4 : b < 0
        · have e : opF 6 b  = ⟨3, 0, 0, 0⟩ := by
            unfold opF; repeat' split
            all_goals first | rfl | (exfalso; omega)
          rw [e]; clear e
          go_enter Try.func21, Try.ntmps21
          go_wp2_with fail
          exact bodyPost_ret (v := fv ⟨3, 0, 0, 0⟩) (by simp [fv, f0, results, Try.results21, go_sem]) rfl ⟨rfl, (Below.refl _ _).alloc (Nat.le_refl _) _⟩
        · have k4 : decide (b < 0) = false := decide_eq_false h4
          have e : opF 6 b  = f0 := by
            unfold opF; repeat' split
            all_goals first | rfl | (exfalso; omega)
          rw [e]; clear e
          go_enter Try.func21, Try.ntmps21
          go_wp2_with fail
          exact bodyPost_ret (v := fv f0) (by simp [fv, f0, results, Try.results21, go_sem]) rfl ⟨rfl, (Below.refl _ _).alloc (Nat.le_refl _) _⟩
      · have k3 : decide (op = 6) = false := decide_eq_false h3
        by_cases h4 : op = 7
        · subst h4
          by_cases h5 : b < 0
          · have e : opF 7 b  = ⟨3, 0, 0, 0⟩ := by
              unfold opF; repeat' split
              all_goals first | rfl | (exfalso; omega)
            rw [e]; clear e
            go_enter Try.func21, Try.ntmps21
            go_wp2_with fail
            exact bodyPost_ret (v := fv ⟨3, 0, 0, 0⟩) (by simp [fv, f0, results, Try.results21, go_sem]) rfl ⟨rfl, (Below.refl _ _).alloc (Nat.le_refl _) _⟩
          · have k5 : decide (b < 0) = false := decide_eq_false h5
            have e : opF 7 b  = f0 := by
              unfold opF; repeat' split
              all_goals first | rfl | (exfalso; omega)
            rw [e]; clear e
            go_enter Try.func21, Try.ntmps21
            go_wp2_with fail
            exact bodyPost_ret (v := fv f0) (by simp [fv, f0, results, Try.results21, go_sem]) rfl ⟨rfl, (Below.refl _ _).alloc (Nat.le_refl _) _⟩
        · have k4 : decide (op = 7) = false := decide_eq_false h4
          have e : opF op b  = f0 := by
            unfold opF; repeat' split
            all_goals first | rfl | (exfalso; omega)
          rw [e]; clear e
          go_enter Try.func21, Try.ntmps21
          go_wp2_with fail
          exact bodyPost_ret (v := fv f0) (by simp [fv, f0, results, Try.results21, go_sem]) rfl ⟨rfl, (Below.refl _ _).alloc (Nat.le_refl _) _⟩
end Go.Proofs.Ytjmklmcnlieplab
