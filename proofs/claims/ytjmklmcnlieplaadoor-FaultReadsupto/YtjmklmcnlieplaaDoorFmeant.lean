/- What fault.meant and fault.Read answer. -/
import Derived.Test.YtjmklmcnlieplaaDoorFmatch
namespace Go.Proofs.YtjmklmcnlieplaaDoor
open Go.ChangeShapes Go.WideShapes Go.ChangeAt Go.RowKit
set_option maxRecDepth 100000
set_option linter.unusedSimpArgs false
set_option linter.unusedVariables false
/-- The error that a form means, with numbers. -/
def meantF : Nat → Int → Int → Fl
  | 0, a, b => ⟨1, a, b, 0⟩
  | 1, _, _ => ⟨2, 0, 0, 0⟩
  | 2, _, _ => ⟨3, 0, 0, 0⟩
  | 3, _, _ => ⟨4, 0, 0, 0⟩
  | 4, a, b => ⟨5, 0, a, b⟩
  | 5, a, b => ⟨5, a, b, b⟩
  | 6, a, _ => ⟨5, a, 0, 0⟩
  | 7, _, _ => ⟨6, 0, 0, 0⟩
  | 8, a, b => ⟨7, a, b, 0⟩
  | 9, _, _ => ⟨8, 0, 0, 0⟩
  | _, _, _ => f0
theorem ten (i : Nat) (h : i < 10) : i = 0 ∨ i = 1 ∨ i = 2 ∨ i = 3 ∨ i = 4 ∨ i = 5 ∨ i = 6 ∨ i = 7 ∨ i = 8 ∨ i = 9 := by omega
theorem meant_in (i : Nat) (h : i < 10) {a b : Int} (ha : I64 a) (hb : I64 b) : FIn (meantF i a b) := by
  rcases ten i h with rfl | rfl | rfl | rfl | rfl | rfl | rfl | rfl | rfl | rfl
  all_goals exact ⟨by simp [I64, meantF], by first | exact i64_0 | exact ha | exact hb, by first | exact i64_0 | exact ha | exact hb, by first | exact i64_0 | exact ha | exact hb⟩
set_option maxHeartbeats 8000000
theorem own_meant (i : Nat) (h : i < 10) (a b : Int) (w : World) : Calls Tryd.prog 14 #[.string (formB i), .agg #[.int .i64 a, .int .i64 b]] w fun e w' => e = .returned (fv (meantF i a b)) ∧ Below w.heap.size w w' := by
  rcases ten i h with rfl | rfl | rfl | rfl | rfl | rfl | rfl | rfl | rfl | rfl
  · unfold formB
    go_enter Tryd.func14, Tryd.ntmps14
    go_wp2_with fail
    exact bodyPost_ret (v := fv ⟨1, a, b, 0⟩) (by simp [fv, results, Tryd.results14, go_sem]) rfl ⟨rfl, ((Below.refl _ _).alloc (Nat.le_refl _) _).alloc (by simp) _⟩
  · unfold formB
    go_enter Tryd.func14, Tryd.ntmps14
    go_wp2_with fail
    exact bodyPost_ret (v := fv ⟨2, 0, 0, 0⟩) (by simp [fv, results, Tryd.results14, go_sem]) rfl ⟨rfl, ((Below.refl _ _).alloc (Nat.le_refl _) _).alloc (by simp) _⟩
  · unfold formB
    go_enter Tryd.func14, Tryd.ntmps14
    go_wp2_with fail
    exact bodyPost_ret (v := fv ⟨3, 0, 0, 0⟩) (by simp [fv, results, Tryd.results14, go_sem]) rfl ⟨rfl, ((Below.refl _ _).alloc (Nat.le_refl _) _).alloc (by simp) _⟩
  · unfold formB
    go_enter Tryd.func14, Tryd.ntmps14
    go_wp2_with fail
    exact bodyPost_ret (v := fv ⟨4, 0, 0, 0⟩) (by simp [fv, results, Tryd.results14, go_sem]) rfl ⟨rfl, ((Below.refl _ _).alloc (Nat.le_refl _) _).alloc (by simp) _⟩
  · unfold formB
    go_enter Tryd.func14, Tryd.ntmps14
    go_wp2_with fail
    exact bodyPost_ret (v := fv ⟨5, 0, a, b⟩) (by simp [fv, results, Tryd.results14, go_sem]) rfl ⟨rfl, ((Below.refl _ _).alloc (Nat.le_refl _) _).alloc (by simp) _⟩
  · unfold formB
    go_enter Tryd.func14, Tryd.ntmps14
    go_wp2_with fail
    exact bodyPost_ret (v := fv ⟨5, a, b, b⟩) (by simp [fv, results, Tryd.results14, go_sem]) rfl ⟨rfl, ((Below.refl _ _).alloc (Nat.le_refl _) _).alloc (by simp) _⟩
  · unfold formB
    go_enter Tryd.func14, Tryd.ntmps14
    go_wp2_with fail
    exact bodyPost_ret (v := fv ⟨5, a, 0, 0⟩) (by simp [fv, results, Tryd.results14, go_sem]) rfl ⟨rfl, ((Below.refl _ _).alloc (Nat.le_refl _) _).alloc (by simp) _⟩
  · unfold formB
    go_enter Tryd.func14, Tryd.ntmps14
    go_wp2_with fail
    exact bodyPost_ret (v := fv ⟨6, 0, 0, 0⟩) (by simp [fv, results, Tryd.results14, go_sem]) rfl ⟨rfl, ((Below.refl _ _).alloc (Nat.le_refl _) _).alloc (by simp) _⟩
  · unfold formB
    go_enter Tryd.func14, Tryd.ntmps14
    go_wp2_with fail
    exact bodyPost_ret (v := fv ⟨7, a, b, 0⟩) (by simp [fv, results, Tryd.results14, go_sem]) rfl ⟨rfl, ((Below.refl _ _).alloc (Nat.le_refl _) _).alloc (by simp) _⟩
  · unfold formB
    go_enter Tryd.func14, Tryd.ntmps14
    go_wp2_with fail
    exact bodyPost_ret (v := fv ⟨8, 0, 0, 0⟩) (by simp [fv, results, Tryd.results14, go_sem]) rfl ⟨rfl, ((Below.refl _ _).alloc (Nat.le_refl _) _).alloc (by simp) _⟩
end Go.Proofs.YtjmklmcnlieplaaDoor
