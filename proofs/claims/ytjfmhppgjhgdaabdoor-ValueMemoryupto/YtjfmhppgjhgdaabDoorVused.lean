/- A value without what its kind does not use. -/
import Derived.Test.YtjfmhppgjhgdaabDoorVord
namespace Go.Proofs.YtjfmhppgjhgdaabDoor
open Go.ChangeShapes Go.WideShapes Go.ChangeAt Go.RowKit
set_option maxRecDepth 100000
set_option linter.unusedSimpArgs false
set_option linter.unusedVariables false

def plainV (x : Vv) : Vv :=
  if x.kind = 1 ∨ x.kind = 7 ∨ x.kind = 8 then ⟨x.kind, x.n, ⟨#[]⟩, []⟩
  else if x.kind = 2 then ⟨2, if x.n = 0 then 0 else 1, ⟨#[]⟩, []⟩
  else if x.kind = 3 ∨ x.kind = 5 then ⟨x.kind, 0, x.s, []⟩
  else if x.kind = 4 then ⟨4, 0, ⟨#[]⟩, []⟩
  else if x.kind = 6 then ⟨6, 0, ⟨#[]⟩, x.l⟩
  else ⟨0, 0, ⟨#[]⟩, []⟩
def plainL (x : Vv) (L : Value) : Value := if x.kind = 6 then L else .slice none 0 0
theorem own_truth (n : Int) (w : World) : Calls Tryd.prog 23 #[.int .i64 n] w fun e w' => e = .returned (.int .i64 (if n = 0 then 0 else 1)) ∧ w' = w := by
  by_cases h : n = 0
  · rw [if_pos h]
    go_enter Tryd.func23, Tryd.ntmps23
    go_wp2_with fail
    go_ret
    exact ⟨rfl, rfl⟩
  · rw [if_neg h]
    go_enter Tryd.func23, Tryd.ntmps23
    go_wp2_with fail
    go_ret
    exact ⟨rfl, rfl⟩
set_option maxHeartbeats 4000000 in
theorem own_used (x : Vv) (L : Value) (w : World) (hL : ∃ ao m cap, L = .slice ao m cap) :
    Calls Tryd.prog 17 #[vval x L] w fun e w' => e = .returned (vval (plainV x) (plainL x L)) ∧ Below w.heap.size w w' := by
  obtain ⟨ao, m, cap, rfl⟩ := hL
  obtain ⟨k, n, s, l⟩ := x
  by_cases h1 : k = 1
  · subst h1
    have e : plainV ⟨1, n, s, l⟩ = ⟨1, n, ⟨#[]⟩, []⟩ := by simp [plainV]
    rw [e]
    clear e
    simp only [vval, plainL]
    rw [if_neg (by decide)]
    go_enter Tryd.func17, Tryd.ntmps17
    go_wp2_with fail
    exact bodyPost_ret (v := vval ⟨1, n, ⟨#[]⟩, []⟩ (.slice none 0 0)) (by simp [vval, results, Tryd.results17, go_sem]) rfl ⟨rfl, (by first | exact below2 _ _ _ | exact below2n _ _ _ _ | exact used_below _ _ _ _ _ _ _ | trace_state)⟩
  by_cases h7 : k = 7
  · subst h7
    clear h1
    have e : plainV ⟨7, n, s, l⟩ = ⟨7, n, ⟨#[]⟩, []⟩ := by simp [plainV]
    rw [e]
    clear e
    simp only [vval, plainL]
    rw [if_neg (by decide)]
    go_enter Tryd.func17, Tryd.ntmps17
    go_wp2_with fail
    exact bodyPost_ret (v := vval ⟨7, n, ⟨#[]⟩, []⟩ (.slice none 0 0)) (by simp [vval, results, Tryd.results17, go_sem]) rfl ⟨rfl, (by first | exact below2 _ _ _ | exact below2n _ _ _ _ | exact used_below _ _ _ _ _ _ _ | trace_state)⟩
  by_cases h8 : k = 8
  · subst h8
    clear h1 h7
    have e : plainV ⟨8, n, s, l⟩ = ⟨8, n, ⟨#[]⟩, []⟩ := by simp [plainV]
    rw [e]
    clear e
    simp only [vval, plainL]
    rw [if_neg (by decide)]
    go_enter Tryd.func17, Tryd.ntmps17
    go_wp2_with fail
    exact bodyPost_ret (v := vval ⟨8, n, ⟨#[]⟩, []⟩ (.slice none 0 0)) (by simp [vval, results, Tryd.results17, go_sem]) rfl ⟨rfl, (by first | exact below2 _ _ _ | exact below2n _ _ _ _ | exact used_below _ _ _ _ _ _ _ | trace_state)⟩
  by_cases h2 : k = 2
  · subst h2
    clear h1 h7 h8
    by_cases hn : n = 0
    · have e : plainV ⟨2, n, s, l⟩ = ⟨2, 0, ⟨#[]⟩, []⟩ := by simp [plainV, hn]
      have HT : Hid (∀ u, Calls Tryd.prog 23 #[.int .i64 n] u fun e w' => e = .returned (.int .i64 0) ∧ w' = u) := fun u => by have := own_truth n u; rwa [if_pos hn] at this
      rw [e]
      clear e hn
      simp only [vval, plainL]
      go_enter Tryd.func17, Tryd.ntmps17
      go_wp2_with fail
      go_region_with (refine (HT.out _).mono ?_; rintro e w1 ⟨rfl, rfl⟩)
      all_goals go_wp2_with fail
      all_goals exact bodyPost_ret (v := vval ⟨2, 0, ⟨#[]⟩, []⟩ (.slice none 0 0)) (by simp [vval, results, Tryd.results17, go_sem]) rfl ⟨rfl, (by first | exact below2 _ _ _ | exact below2n _ _ _ _ | exact used_below _ _ _ _ _ _ _ | trace_state)⟩
    · have e : plainV ⟨2, n, s, l⟩ = ⟨2, 1, ⟨#[]⟩, []⟩ := by simp [plainV, hn]
      have HT : Hid (∀ u, Calls Tryd.prog 23 #[.int .i64 n] u fun e w' => e = .returned (.int .i64 1) ∧ w' = u) := fun u => by have := own_truth n u; rwa [if_neg hn] at this
      rw [e]
      clear e hn
      simp only [vval, plainL]
      go_enter Tryd.func17, Tryd.ntmps17
      go_wp2_with fail
      go_region_with (refine (HT.out _).mono ?_; rintro e w1 ⟨rfl, rfl⟩)
      all_goals go_wp2_with fail
      all_goals exact bodyPost_ret (v := vval ⟨2, 1, ⟨#[]⟩, []⟩ (.slice none 0 0)) (by simp [vval, results, Tryd.results17, go_sem]) rfl ⟨rfl, (by first | exact below2 _ _ _ | exact below2n _ _ _ _ | exact used_below _ _ _ _ _ _ _ | trace_state)⟩
  by_cases h3 : k = 3
  · subst h3
    clear h1 h7 h8 h2
    have e : plainV ⟨3, n, s, l⟩ = ⟨3, 0, s, []⟩ := by simp [plainV]
    rw [e]
    clear e
    simp only [vval, plainL]
    rw [if_neg (by decide)]
    go_enter Tryd.func17, Tryd.ntmps17
    go_wp2_with fail
    exact bodyPost_ret (v := vval ⟨3, 0, s, []⟩ (.slice none 0 0)) (by simp [vval, results, Tryd.results17, go_sem]) rfl ⟨rfl, (by first | exact below2 _ _ _ | exact below2n _ _ _ _ | exact used_below _ _ _ _ _ _ _ | trace_state)⟩
  by_cases h5 : k = 5
  · subst h5
    clear h1 h7 h8 h2 h3
    have e : plainV ⟨5, n, s, l⟩ = ⟨5, 0, s, []⟩ := by simp [plainV]
    rw [e]
    clear e
    simp only [vval, plainL]
    rw [if_neg (by decide)]
    go_enter Tryd.func17, Tryd.ntmps17
    go_wp2_with fail
    exact bodyPost_ret (v := vval ⟨5, 0, s, []⟩ (.slice none 0 0)) (by simp [vval, results, Tryd.results17, go_sem]) rfl ⟨rfl, (by first | exact below2 _ _ _ | exact below2n _ _ _ _ | exact used_below _ _ _ _ _ _ _ | trace_state)⟩
  by_cases h4 : k = 4
  · subst h4
    clear h1 h7 h8 h2 h3 h5
    have e : plainV ⟨4, n, s, l⟩ = ⟨4, 0, ⟨#[]⟩, []⟩ := by simp [plainV]
    rw [e]
    clear e
    simp only [vval, plainL]
    rw [if_neg (by decide)]
    go_enter Tryd.func17, Tryd.ntmps17
    go_wp2_with fail
    exact bodyPost_ret (v := vval ⟨4, 0, ⟨#[]⟩, []⟩ (.slice none 0 0)) (by simp [vval, results, Tryd.results17, go_sem]) rfl ⟨rfl, (by first | exact below2 _ _ _ | exact below2n _ _ _ _ | exact used_below _ _ _ _ _ _ _ | trace_state)⟩
  by_cases h6 : k = 6
  · subst h6
    clear h1 h7 h8 h2 h3 h5 h4
    have e : plainV ⟨6, n, s, l⟩ = ⟨6, 0, ⟨#[]⟩, l⟩ := by simp [plainV]
    rw [e]
    clear e
    simp only [vval, plainL]
    rw [if_pos trivial]
    go_enter Tryd.func17, Tryd.ntmps17
    go_wp2_with fail
    exact bodyPost_ret (v := vval ⟨6, 0, ⟨#[]⟩, l⟩ (.slice ao m cap)) (by simp [vval, results, Tryd.results17, go_sem]) rfl ⟨rfl, (by first | exact below2 _ _ _ | exact below2n _ _ _ _ | exact used_below _ _ _ _ _ _ _ | trace_state)⟩
  have e : plainV ⟨k, n, s, l⟩ = ⟨0, 0, ⟨#[]⟩, []⟩ := by simp [plainV, h1, h7, h8, h2, h3, h5, h4, h6]
  rw [e]
  clear e
  have e : plainL ⟨k, n, s, l⟩ (.slice ao m cap) = .slice none 0 0 := by simp [plainL, h6]
  rw [e]
  clear e
  simp only [vval]
  go_enter Tryd.func17, Tryd.ntmps17
  go_wp2_with fail
  exact bodyPost_ret (v := vval ⟨0, 0, ⟨#[]⟩, []⟩ (.slice none 0 0)) (by simp [vval, results, Tryd.results17, go_sem]) rfl ⟨rfl, (by first | exact below2 _ _ _ | exact below2n _ _ _ _ | exact used_below _ _ _ _ _ _ _ | trace_state)⟩
end Go.Proofs.YtjfmhppgjhgdaabDoor
