/- The forms of run-time errors, and which one tells an error. -/
import Derived.Test.YtjmklmcnlieplaaDoorFfill
import Derived.Test.YtjmklmcnlieplaaDoorFlt
import Derived.Test.YtjmklmcnlieplaaDoorSteady2
namespace Go.Proofs.YtjmklmcnlieplaaDoor
open Go.ChangeShapes Go.WideShapes Go.ChangeAt Go.RowKit
set_option maxRecDepth 100000
set_option linter.unusedSimpArgs false
set_option linter.unusedVariables false
/-- The forms. -/
def formB : Nat → ByteArray
  | 0 => ⟨#[105, 110, 100, 101, 120, 32, 111, 117, 116, 32, 111, 102, 32, 114, 97, 110, 103, 101, 32, 91, 35, 93, 32, 119, 105, 116, 104, 32, 108, 101, 110, 103, 116, 104, 32, 35]⟩
  | 1 => ⟨#[105, 110, 116, 101, 103, 101, 114, 32, 100, 105, 118, 105, 100, 101, 32, 98, 121, 32, 122, 101, 114, 111]⟩
  | 2 => ⟨#[110, 101, 103, 97, 116, 105, 118, 101, 32, 115, 104, 105, 102, 116, 32, 97, 109, 111, 117, 110, 116]⟩
  | 3 => ⟨#[105, 110, 118, 97, 108, 105, 100, 32, 109, 101, 109, 111, 114, 121, 32, 97, 100, 100, 114, 101, 115, 115, 32, 111, 114, 32, 110, 105, 108, 32, 112, 111, 105, 110, 116, 101, 114, 32, 100, 101, 114, 101, 102, 101, 114, 101, 110, 99, 101]⟩
  | 4 => ⟨#[115, 108, 105, 99, 101, 32, 98, 111, 117, 110, 100, 115, 32, 111, 117, 116, 32, 111, 102, 32, 114, 97, 110, 103, 101, 32, 91, 58, 35, 93, 32, 119, 105, 116, 104, 32, 108, 101, 110, 103, 116, 104, 32, 35]⟩
  | 5 => ⟨#[115, 108, 105, 99, 101, 32, 98, 111, 117, 110, 100, 115, 32, 111, 117, 116, 32, 111, 102, 32, 114, 97, 110, 103, 101, 32, 91, 35, 58, 35, 93]⟩
  | 6 => ⟨#[115, 108, 105, 99, 101, 32, 98, 111, 117, 110, 100, 115, 32, 111, 117, 116, 32, 111, 102, 32, 114, 97, 110, 103, 101, 32, 91, 35, 58, 93]⟩
  | 7 => ⟨#[110, 111, 32, 105, 110, 116, 32, 105, 110, 32, 97, 110, 121]⟩
  | 8 => ⟨#[108, 101, 110, 103, 116, 104, 32, 35, 32, 105, 115, 32, 97, 98, 111, 118, 101, 32, 35]⟩
  | 9 => ⟨#[112, 97, 110, 105, 99, 32, 99, 97, 108, 108, 101, 100, 32, 119, 105, 116, 104, 32, 110, 105, 108]⟩
  | _ => ⟨#[]⟩
/-- Their pieces. -/
def formP : Nat → List ByteArray
  | 0 => [⟨#[105, 110, 100, 101, 120, 32, 111, 117, 116, 32, 111, 102, 32, 114, 97, 110, 103, 101, 32, 91]⟩, ⟨#[93, 32, 119, 105, 116, 104, 32, 108, 101, 110, 103, 116, 104, 32]⟩, ⟨#[]⟩]
  | 1 => [⟨#[105, 110, 116, 101, 103, 101, 114, 32, 100, 105, 118, 105, 100, 101, 32, 98, 121, 32, 122, 101, 114, 111]⟩]
  | 2 => [⟨#[110, 101, 103, 97, 116, 105, 118, 101, 32, 115, 104, 105, 102, 116, 32, 97, 109, 111, 117, 110, 116]⟩]
  | 3 => [⟨#[105, 110, 118, 97, 108, 105, 100, 32, 109, 101, 109, 111, 114, 121, 32, 97, 100, 100, 114, 101, 115, 115, 32, 111, 114, 32, 110, 105, 108, 32, 112, 111, 105, 110, 116, 101, 114, 32, 100, 101, 114, 101, 102, 101, 114, 101, 110, 99, 101]⟩]
  | 4 => [⟨#[115, 108, 105, 99, 101, 32, 98, 111, 117, 110, 100, 115, 32, 111, 117, 116, 32, 111, 102, 32, 114, 97, 110, 103, 101, 32, 91, 58]⟩, ⟨#[93, 32, 119, 105, 116, 104, 32, 108, 101, 110, 103, 116, 104, 32]⟩, ⟨#[]⟩]
  | 5 => [⟨#[115, 108, 105, 99, 101, 32, 98, 111, 117, 110, 100, 115, 32, 111, 117, 116, 32, 111, 102, 32, 114, 97, 110, 103, 101, 32, 91]⟩, ⟨#[58]⟩, ⟨#[93]⟩]
  | 6 => [⟨#[115, 108, 105, 99, 101, 32, 98, 111, 117, 110, 100, 115, 32, 111, 117, 116, 32, 111, 102, 32, 114, 97, 110, 103, 101, 32, 91]⟩, ⟨#[58, 93]⟩]
  | 7 => [⟨#[110, 111, 32, 105, 110, 116, 32, 105, 110, 32, 97, 110, 121]⟩]
  | 8 => [⟨#[108, 101, 110, 103, 116, 104, 32]⟩, ⟨#[32, 105, 115, 32, 97, 98, 111, 118, 101, 32]⟩, ⟨#[]⟩]
  | 9 => [⟨#[112, 97, 110, 105, 99, 32, 99, 97, 108, 108, 101, 100, 32, 119, 105, 116, 104, 32, 110, 105, 108]⟩]
  | _ => [⟨#[]⟩]
theorem form_is0 : FormIs (formB 0) (formP 0) := ⟨by decide, by kernel_rfl, by kernel_rfl, by decide, by decide⟩
theorem form_is1 : FormIs (formB 1) (formP 1) := ⟨by decide, by kernel_rfl, by kernel_rfl, by decide, by decide⟩
theorem form_is2 : FormIs (formB 2) (formP 2) := ⟨by decide, by kernel_rfl, by kernel_rfl, by decide, by decide⟩
theorem form_is3 : FormIs (formB 3) (formP 3) := ⟨by decide, by kernel_rfl, by kernel_rfl, by decide, by decide⟩
theorem form_is4 : FormIs (formB 4) (formP 4) := ⟨by decide, by kernel_rfl, by kernel_rfl, by decide, by decide⟩
theorem form_is5 : FormIs (formB 5) (formP 5) := ⟨by decide, by kernel_rfl, by kernel_rfl, by decide, by decide⟩
theorem form_is6 : FormIs (formB 6) (formP 6) := ⟨by decide, by kernel_rfl, by kernel_rfl, by decide, by decide⟩
theorem form_is7 : FormIs (formB 7) (formP 7) := ⟨by decide, by kernel_rfl, by kernel_rfl, by decide, by decide⟩
theorem form_is8 : FormIs (formB 8) (formP 8) := ⟨by decide, by kernel_rfl, by kernel_rfl, by decide, by decide⟩
theorem form_is9 : FormIs (formB 9) (formP 9) := ⟨by decide, by kernel_rfl, by kernel_rfl, by decide, by decide⟩
theorem form_is (i : Nat) (h : i < 10) : FormIs (formB i) (formP i) := by
  have : i = 0 ∨ i = 1 ∨ i = 2 ∨ i = 3 ∨ i = 4 ∨ i = 5 ∨ i = 6 ∨ i = 7 ∨ i = 8 ∨ i = 9 := by omega
  rcases this with rfl | rfl | rfl | rfl | rfl | rfl | rfl | rfl | rfl | rfl
  · exact form_is0
  · exact form_is1
  · exact form_is2
  · exact form_is3
  · exact form_is4
  · exact form_is5
  · exact form_is6
  · exact form_is7
  · exact form_is8
  · exact form_is9
/-- Of wrong bounds: the form and its numbers. -/
def toldB (x : Fl) : Nat × Int × Int := if x.b < 0 ∨ x.c < x.b then (4, x.b, x.c) else if x.b < x.a then (5, x.a, x.b) else if x.a < 0 then (6, x.a, 0) else (10, 0, 0)
/-- The form that tells an error, and its numbers; 10: none. -/
def toldF (x : Fl) : Nat × Int × Int := if x.k = 1 then (0, x.a, x.b) else if x.k = 2 then (1, 0, 0) else if x.k = 3 then (2, 0, 0) else if x.k = 4 then (3, 0, 0) else if x.k = 5 then toldB x else if x.k = 6 then (7, 0, 0) else if x.k = 7 then (8, x.a, x.b) else if x.k = 8 then (9, 0, 0) else (10, 0, 0)
def tv (t : Nat × Int × Int) : Value := .tuple #[.string (formB t.1), .agg #[.int .i64 t.2.1, .int .i64 t.2.2]]
set_option maxHeartbeats 4000000
theorem own_toldB (x : Fl) (w : World) : Calls Tryd.prog 16 #[fv x] w fun e w' => e = .returned (tv (toldB x)) ∧ Below w.heap.size w w' := by
  obtain ⟨k, a, b, c⟩ := x
  unfold fv
  dsimp only
  by_cases h1 : b < 0
  · have e : toldB ⟨k, a, b, c⟩ = (4, b, c) := by
      unfold toldB; dsimp only; repeat' split
      all_goals first | rfl | (exfalso; omega)
    rw [e]; clear e
    go_enter Tryd.func16, Tryd.ntmps16
    go_wp2_with fail
    go_region
    go_wp2_with fail
    exact bodyPost_ret (v := tv (4, b, c)) (by simp [tv, formB, results, Tryd.results16, go_sem]) rfl ⟨rfl, (((Below.refl _ _).alloc (Nat.le_refl _) _).alloc (by simp) _).drew⟩
  · have k1 : decide (b < 0) = false := decide_eq_false h1
    by_cases h2 : c < b
    · have e : toldB ⟨k, a, b, c⟩ = (4, b, c) := by
        unfold toldB; dsimp only; repeat' split
        all_goals first | rfl | (exfalso; omega)
      rw [e]; clear e
      go_enter Tryd.func16, Tryd.ntmps16
      go_wp2_with fail
      go_region
      go_wp2_with fail
      exact bodyPost_ret (v := tv (4, b, c)) (by simp [tv, formB, results, Tryd.results16, go_sem]) rfl ⟨rfl, (((Below.refl _ _).alloc (Nat.le_refl _) _).alloc (by simp) _).drew⟩
    · have k2 : decide (c < b) = false := decide_eq_false h2
      by_cases h3 : b < a
      · have e : toldB ⟨k, a, b, c⟩ = (5, a, b) := by
          unfold toldB; dsimp only; repeat' split
          all_goals first | rfl | (exfalso; omega)
        rw [e]; clear e
        go_enter Tryd.func16, Tryd.ntmps16
        go_wp2_with fail
        go_region
        go_wp2_with fail
        exact bodyPost_ret (v := tv (5, a, b)) (by simp [tv, formB, results, Tryd.results16, go_sem]) rfl ⟨rfl, (((Below.refl _ _).alloc (Nat.le_refl _) _).alloc (by simp) _).drew⟩
      · have k3 : decide (b < a) = false := decide_eq_false h3
        by_cases h4 : a < 0
        · have e : toldB ⟨k, a, b, c⟩ = (6, a, 0) := by
            unfold toldB; dsimp only; repeat' split
            all_goals first | rfl | (exfalso; omega)
          rw [e]; clear e
          go_enter Tryd.func16, Tryd.ntmps16
          go_wp2_with fail
          go_region
          go_wp2_with fail
          exact bodyPost_ret (v := tv (6, a, 0)) (by simp [tv, formB, results, Tryd.results16, go_sem]) rfl ⟨rfl, (((Below.refl _ _).alloc (Nat.le_refl _) _).alloc (by simp) _).drew⟩
        · have k4 : decide (a < 0) = false := decide_eq_false h4
          have e : toldB ⟨k, a, b, c⟩ = (10, 0, 0) := by
            unfold toldB; dsimp only; repeat' split
            all_goals first | rfl | (exfalso; omega)
          rw [e]; clear e
          go_enter Tryd.func16, Tryd.ntmps16
          go_wp2_with fail
          exact bodyPost_ret (v := tv (10, 0, 0)) (by simp [tv, formB, results, Tryd.results16, go_sem]) rfl ⟨rfl, (((Below.refl _ _).alloc (Nat.le_refl _) _).alloc (by simp) _)⟩
theorem bcell {W w1 : World} (hb : Below W.heap.size W w1) : (∀ b o, b < W.heap.size → w1.cell? ⟨b, o, none⟩ = W.cell? ⟨b, o, none⟩) ∧ (∀ b o, b < W.heap.size → w1.frozen? ⟨b, o, none⟩ = W.frozen? ⟨b, o, none⟩) :=
  ⟨fun b o h => hb.cell (p := ⟨b, o, none⟩) h, fun b o h => hb.frozen (p := ⟨b, o, none⟩) h⟩
theorem own_told (x : Fl) (w : World) : Calls Tryd.prog 9 #[fv x] w fun e w' => e = .returned (tv (toldF x)) ∧ Below w.heap.size w w' := by
  obtain ⟨k, a, b, c⟩ := x
  unfold fv
  dsimp only
  by_cases h1 : k = 1
  · subst h1
    have e : toldF ⟨1, a, b, c⟩ = (0, a, b) := by
      unfold toldF; dsimp only; repeat' split
      all_goals first | rfl | (exfalso; omega)
    rw [e]; clear e
    go_enter Tryd.func9, Tryd.ntmps9
    go_wp2_with fail
    go_region
    go_wp2_with fail
    exact bodyPost_ret (v := tv (0, a, b)) (by simp [tv, formB, results, Tryd.results9, go_sem]) rfl ⟨rfl, (((Below.refl _ _).alloc (Nat.le_refl _) _).alloc (by simp) _).drew⟩
  by_cases h2 : k = 2
  · subst h2
    have e : toldF ⟨2, a, b, c⟩ = (1, 0, 0) := by
      unfold toldF; dsimp only; repeat' split
      all_goals first | rfl | (exfalso; omega)
    rw [e]; clear e
    go_enter Tryd.func9, Tryd.ntmps9
    go_wp2_with fail
    exact bodyPost_ret (v := tv (1, 0, 0)) (by simp [tv, formB, results, Tryd.results9, go_sem]) rfl ⟨rfl, (((Below.refl _ _).alloc (Nat.le_refl _) _).alloc (by simp) _)⟩
  by_cases h3 : k = 3
  · subst h3
    have e : toldF ⟨3, a, b, c⟩ = (2, 0, 0) := by
      unfold toldF; dsimp only; repeat' split
      all_goals first | rfl | (exfalso; omega)
    rw [e]; clear e
    go_enter Tryd.func9, Tryd.ntmps9
    go_wp2_with fail
    exact bodyPost_ret (v := tv (2, 0, 0)) (by simp [tv, formB, results, Tryd.results9, go_sem]) rfl ⟨rfl, (((Below.refl _ _).alloc (Nat.le_refl _) _).alloc (by simp) _)⟩
  by_cases h4 : k = 4
  · subst h4
    have e : toldF ⟨4, a, b, c⟩ = (3, 0, 0) := by
      unfold toldF; dsimp only; repeat' split
      all_goals first | rfl | (exfalso; omega)
    rw [e]; clear e
    go_enter Tryd.func9, Tryd.ntmps9
    go_wp2_with fail
    exact bodyPost_ret (v := tv (3, 0, 0)) (by simp [tv, formB, results, Tryd.results9, go_sem]) rfl ⟨rfl, (((Below.refl _ _).alloc (Nat.le_refl _) _).alloc (by simp) _)⟩
  by_cases h5 : k = 5
  · subst h5
    have e : toldF ⟨5, a, b, c⟩ = toldB ⟨5, a, b, c⟩ := rfl
    rw [e]; clear e
    have HB : Hid (∀ u, Calls Tryd.prog 16 #[.agg #[.int .i64 5, .int .i64 a, .int .i64 b, .int .i64 c]] u fun e w' => e = .returned (tv (toldB ⟨5, a, b, c⟩)) ∧ Below u.heap.size u w') := fun u => own_toldB ⟨5, a, b, c⟩ u
    generalize toldB ⟨5, a, b, c⟩ = t at *
    go_enter Tryd.func9, Tryd.ntmps9
    go_wp2_with fail
    refine (HB.out _).mono ?_
    rintro e w1 ⟨rfl, b1⟩
    obtain ⟨hc, hf⟩ := bcell b1
    have hz : w.heap.size + 1 < w1.heap.size := by have := b1.size; simp at this; omega
    unfold tv
    go_wp2_with fail
    exact bodyPost_ret (v := tv t) (by simp [tv, results, Tryd.results9, go_sem, hc, hz]) rfl ⟨rfl, ((((((Below.refl _ _).alloc (Nat.le_refl _) _).alloc (by simp) _).trans (b1.mono (by simp; omega))).setCell (by simp) _).setCell (by simp) _)⟩
  by_cases h6 : k = 6
  · subst h6
    have e : toldF ⟨6, a, b, c⟩ = (7, 0, 0) := by
      unfold toldF; dsimp only; repeat' split
      all_goals first | rfl | (exfalso; omega)
    rw [e]; clear e
    go_enter Tryd.func9, Tryd.ntmps9
    go_wp2_with fail
    exact bodyPost_ret (v := tv (7, 0, 0)) (by simp [tv, formB, results, Tryd.results9, go_sem]) rfl ⟨rfl, (((Below.refl _ _).alloc (Nat.le_refl _) _).alloc (by simp) _)⟩
  by_cases h7 : k = 7
  · subst h7
    have e : toldF ⟨7, a, b, c⟩ = (8, a, b) := by
      unfold toldF; dsimp only; repeat' split
      all_goals first | rfl | (exfalso; omega)
    rw [e]; clear e
    go_enter Tryd.func9, Tryd.ntmps9
    go_wp2_with fail
    go_region
    go_wp2_with fail
    exact bodyPost_ret (v := tv (8, a, b)) (by simp [tv, formB, results, Tryd.results9, go_sem]) rfl ⟨rfl, (((Below.refl _ _).alloc (Nat.le_refl _) _).alloc (by simp) _).drew⟩
  by_cases h8 : k = 8
  · subst h8
    have e : toldF ⟨8, a, b, c⟩ = (9, 0, 0) := by
      unfold toldF; dsimp only; repeat' split
      all_goals first | rfl | (exfalso; omega)
    rw [e]; clear e
    go_enter Tryd.func9, Tryd.ntmps9
    go_wp2_with fail
    exact bodyPost_ret (v := tv (9, 0, 0)) (by simp [tv, formB, results, Tryd.results9, go_sem]) rfl ⟨rfl, (((Below.refl _ _).alloc (Nat.le_refl _) _).alloc (by simp) _)⟩
  have k1 : decide (k = 1) = false := decide_eq_false h1
  have k2 : decide (k = 2) = false := decide_eq_false h2
  have k3 : decide (k = 3) = false := decide_eq_false h3
  have k4 : decide (k = 4) = false := decide_eq_false h4
  have k5 : decide (k = 5) = false := decide_eq_false h5
  have k6 : decide (k = 6) = false := decide_eq_false h6
  have k7 : decide (k = 7) = false := decide_eq_false h7
  have k8 : decide (k = 8) = false := decide_eq_false h8
  have e : toldF ⟨k, a, b, c⟩ = (10, 0, 0) := by
    unfold toldF; dsimp only; repeat' split
    all_goals first | rfl | (exfalso; omega)
  rw [e]; clear e
  go_enter Tryd.func9, Tryd.ntmps9
  go_wp2_with fail
  exact bodyPost_ret (v := tv (10, 0, 0)) (by simp [tv, formB, results, Tryd.results9, go_sem]) rfl ⟨rfl, (((Below.refl _ _).alloc (Nat.le_refl _) _).alloc (by simp) _)⟩
end Go.Proofs.YtjmklmcnlieplaaDoor
